/- The document's queue in memory: Left, Len; parts of a slice of its alarms. -/
import Derived.Test.YtbejmboedjfllaaDlInts
import Derived.Laws.OwnMore
namespace Go.Proofs.Ytbejmboedjfllaa
open Go.RowKit
set_option linter.unusedVariables false
set_option linter.unusedSimpArgs false

/-- Block b is the document's queue of room places at time now that holds the timers l. -/
structure Rq (o : Nat → Nat) (σ : Nat) (w : World) (b room now : Nat) (v : Value) (l : List Tm) : Prop where
  box : Blk o σ w b #[.int .i64 (room : Int), .int .i64 (now : Int), v] 38
  row : Row o σ w 57 2 v l.length (cellsT l)
section
variable {o o' : Nat → Nat} {σ τ : Nat} {w w' : World} {b room now : Nat} {v : Value} {l : List Tm}
theorem Rq.alloc (h : Rq o σ w b room now v l) (x : Obj) (τ' : Nat) : Rq (tag o w.heap.size τ') σ (w.alloc x) b room now v l := ⟨h.box.alloc x τ', h.row.alloc x τ'⟩
theorem Rq.drewN (h : Rq o σ w b room now v l) (n : Nat) : Rq o σ (w.drewN n) b room now v l := ⟨⟨h.box.at_, h.box.mine⟩, ⟨h.row.own, h.row.mine⟩⟩
theorem Rq.below (h : Rq o σ w b room now v l) (hb : Below w.heap.size w w') : Rq o σ w' b room now v l := ⟨h.box.below hb, h.row.below hb⟩
theorem Rq.step (h : Rq o σ w b room now v l) (st : Step o o' τ w w') (hne : σ ≠ τ) : Rq o' σ w' b room now v l := ⟨h.box.step st hne, h.row.step st hne⟩
set_option maxHeartbeats 800000 in
theorem rlen (h : Rq o σ w b room now v l) (hl : l.length ≤ 1000) :
    Calls Try.prog 20 #[.pointer (some ⟨b, 0, none⟩)] w fun e w' => e = .returned (.int .i64 (l.length : Int)) ∧ w' = w := by
  obtain ⟨A, cap, rfl⟩ := h.row.any
  have c2 : w.cell? ⟨b, 2, none⟩ = some (.slice A l.length cap) := by rw [h.box.cell]; simp
  clear h
  go_enter Try.func20, Try.ntmps20
  go_wp2
  go_ret
  exact ⟨rfl, rfl⟩
set_option maxHeartbeats 1600000 in
theorem rleft (id x : Int) (r : Bool) (h : Rq o σ w b room now v l) (hi : QInv room now l) (hn : now ≤ 1000000) (hx : leftV now l id = (x, r)) :
    Calls Try.prog 18 #[.pointer (some ⟨b, 0, none⟩), .int .i64 id] w (Ret (.tuple #[.int .i64 x, .bool r]) w) := by
  have hl := Nat.le_trans hi.le hi.room2
  obtain ⟨A, cap, rfl⟩ := h.row.any
  obtain ⟨hlc, hcap⟩ := h.row.caps
  have c1 : w.cell? ⟨b, 1, none⟩ = some (.int .i64 (now : Int)) := by rw [h.box.cell]; simp
  have c2 : w.cell? ⟨b, 2, none⟩ = some (.slice A l.length cap) := by rw [h.box.cell]; simp
  have hR := Lib.hid h.row.rdT
  have HI := Lib.hid hi
  unfold leftV at hx
  have HX := Lib.hid hx
  clear h hi hx
  go_enter Try.func18, Try.ntmps18
  go_wp2
  go_loopw [6] (fun st wr => ∃ (i : Nat), st = .int .i64 (i : Int) ∧ i ≤ l.length ∧ (∀ z ∈ l.take i, isId id z = false) ∧ wr = w) (fun st _ => l.length - (intOf st).toNat)
  case atStart => exact ⟨0, rfl, by omega, by simp, rfl⟩
  case round =>
    obtain ⟨i, rfl, hi2, hz, rfl⟩ := hrel
    rcases Nat.lt_or_ge i l.length with hlt | hge
    · obtain ⟨⟨yi, ya⟩, hy⟩ : ∃ y, l[i]? = some y := ⟨_, List.getElem?_eq_getElem hlt⟩
      obtain ⟨g, rfl, hg, d0, d1⟩ := hR.out i _ hy
      simp only at d0 d1
      have z1 : (i : Int) < (l.length : Int) := by omega
      have z2 : (0 : Int) ≤ (i : Int) := by omega
      cases he : isId id (yi, ya) with
      | true =>
        have hfd := find_at hz hy he
        have hxx := HX.out
        rw [hfd] at hxx
        have hgd : l.getD i (0, 0) = (yi, ya) := by rw [List.getD, hy]; rfl
        simp only [hgd, Prod.mk.injEq] at hxx
        obtain ⟨hx1, hx2⟩ := hxx
        obtain ⟨k1, k2⟩ := HI.out.at_ _ (List.mem_of_getElem? hy)
        simp only at k1 k2
        have z3 : IntKind.i64.wrap (ya - (now : Int)) = x := by rw [IntKind.wrap_i64]; omega
        have he' : (yi == id) = true := by simpa [isId] using he
        subst hx2
        clear hfd hgd hx1 k1 k2 hz hy he
        go_wp2
        go_quiet (fail)
        go_wp2
        go_ret2
        exact ⟨rfl, _, rfl⟩
      | false =>
        have F2 := Lib.hid (takeP_next hz hy he)
        have he' : (yi == id) = false := by simpa [isId] using he
        clear he hz hy
        go_wp2
        go_roundw
        case rel => exact ⟨i + 1, by simp, by omega, F2.out, by first | rfl | trivial⟩
        case measure => simp [intOf]; omega
    · obtain rfl : i = l.length := by omega
      rw [List.take_length] at hz
      have hxx := HX.out
      rw [find_out hz] at hxx
      simp only [Prod.mk.injEq] at hxx
      obtain ⟨rfl, rfl⟩ := hxx
      clear hz
      go_wp2
      go_ret2
      exact ⟨rfl, 0, rfl⟩
end
theorem Try.infoAlarm : (Try.prog.info? 57).map (fun i => (i.zero, i.size, i.bytes)) = some (some (.agg #[.int .i64 0, .int .i64 0]), 2, 16) := by kernel_rfl
/-- What a source of m items holds. -/
def SrcT (w : World) (src : Value) (m : Nat) (news : List Value) : Prop :=
  (src = .slice none 0 0 ∧ m = 0 ∧ news = []) ∨ ∃ ad c, src = .slice (some ad) m c ∧ ∀ j u, news[j]? = some u → w.cell? (ad.add j) = some u
theorem run_append_src {base : Nat} {w : World} {v src : Value} {n m : Nat} {xs : List Value} {l : List Tm} (ty : TypeId) (hown : w.ownsRow base 57 2 v n xs) (hs : SrcT w src m (cellsT l)) (hm : l.length = m)
    (hb : base ≤ w.heap.size) (hn : n + m ≤ 2000) :
    ∃ v' w', (Builtin.append_ #[36, 36] ty #[v, src]).run Try.prog w = .ok v' w' ∧ w'.ownsRow base 57 2 v' (n + m) (xs ++ cellsT l) ∧ w.grownBy w' v.ownBlock ∧ (v'.ownBlock = v.ownBlock ∨ v'.ownBlock = some w.heap.size) := by
  obtain ⟨i0, hi0, hz0, hz1, hz2⟩ := info_parts Try.infoAlarm
  rcases hs with ⟨rfl, rfl, hnil⟩ | ⟨ad, c, rfl, hc⟩
  · rw [hnil]
    exact ⟨v, w, run_append_owned_none (P := Try.prog) w base _ ty _ i0 2 Try.underlying36 hi0 v n xs hown, by simpa using hown, ⟨rfl, rfl, rfl, Nat.le_refl _, fun _ _ _ => rfl⟩, .inl rfl⟩
  · obtain ⟨v', w', h1, h2, h3, _, h5⟩ := run_append_own_at (P := Try.prog) w base 36 ty 57 i0 _ 2 16 Try.underlying36 hi0 hz0 hz1 hz2 rfl (by decide) v n xs hown ad m c (cellsT l) (by rw [cellsT_length, hm]) hc (cellsT_ones l) (by unfold maxLen; omega) (by omega) hb
    exact ⟨v', w', h1, h2, h3, h5⟩
theorem rd_cell {w : World} {g : Nat} {l : List Tm} (h : RdT w (some ⟨g, 0, none⟩) l) {j : Nat} {u : Value} (hj : (cellsT l)[j]? = some u) : w.cell? ⟨g, j, none⟩ = some u := by
  have hjl := (List.getElem?_eq_some_iff.1 hj).1
  rw [cellsT_length] at hjl
  have hlt : j / 2 < l.length := by omega
  obtain ⟨x, hx⟩ : ∃ x, l[j / 2]? = some x := ⟨_, List.getElem?_eq_getElem hlt⟩
  obtain ⟨g', hg, _, d0, d1⟩ := h _ x hx
  cases hg
  have q := cellsT_get l _ x hx
  rcases (by omega : j = j / 2 * 2 ∨ j = j / 2 * 2 + 1) with e | e
  · rw [e] at hj ⊢; rw [q.1] at hj; rw [d0]; exact hj
  · rw [e] at hj ⊢; rw [q.2] at hj; rw [d1]; exact hj
section
variable {w : World} {A : Option Addr} {n cap k : Nat} {l : List Tm}
theorem cut_low (hA : (A = none ∧ n = 0 ∧ cap = 0) ∨ ∃ g, A = some ⟨g, 0, none⟩) (hl : l.length = n) (hk : k ≤ n) (hc : n ≤ cap) (hm : cap ≤ 9223372036854775807) :
    ∃ src, (∀ w', (Instr.slice 36 (.slice A n cap) none (some (.int .i64 (k : Int))) none).run Try.prog w' = .ok src w') ∧ (∀ w', RdT w' A l → SrcT w' src k (cellsT (l.take k))) := by
  rcases hA with ⟨rfl, rfl, rfl⟩ | ⟨g, rfl⟩
  · obtain rfl : k = 0 := by omega
    refine ⟨.slice none 0 0, fun w' => by go_simp, fun w' _ => .inl ⟨rfl, rfl, by simp [cellsT]⟩⟩
  · have h1 : (k : Int) ≤ (cap : Int) := by omega
    have h2 : k ≤ cap := by omega
    refine ⟨.slice (some ⟨g, 0, none⟩) k cap, fun w' => by go_simp, fun w' hR => .inr ⟨⟨g, 0, none⟩, cap, rfl, fun j u hj => ?_⟩⟩
    rw [Addr.add_lit, Nat.zero_add]
    rw [← cellsT_take, List.getElem?_take] at hj
    split at hj
    · exact rd_cell hR hj
    · cases hj
theorem cut_high (hA : (A = none ∧ n = 0 ∧ cap = 0) ∨ ∃ g, A = some ⟨g, 0, none⟩) (hl : l.length = n) (hk : k ≤ n) (hc : n ≤ cap) (hm : cap ≤ 9223372036854775807) :
    ∃ src, (∀ w', (Instr.slice 36 (.slice A n cap) (some (.int .i64 (k : Int))) none none).run Try.prog w' = .ok src w') ∧ (∀ w', RdT w' A l → SrcT w' src (n - k) (cellsT (l.drop k))) := by
  rcases hA with ⟨rfl, rfl, rfl⟩ | ⟨g, rfl⟩
  · obtain rfl : k = 0 := by omega
    obtain rfl : l = [] := List.eq_nil_of_length_eq_zero hl
    refine ⟨.slice none 0 0, fun w' => by go_simp, fun w' _ => .inl ⟨rfl, rfl, by simp [cellsT]⟩⟩
  · have h1 : (k : Int) ≤ (n : Int) := by omega
    by_cases hck : cap = k
    · refine ⟨.slice (some ⟨g, 0, none⟩) (n - k) (cap - k), fun w' => by go_simp, fun w' hR => .inr ⟨⟨g, 0, none⟩, cap - k, rfl, fun j u hj => ?_⟩⟩
      have h0 : l.drop k = [] := List.drop_eq_nil_of_le (by omega)
      rw [h0] at hj
      simp [cellsT] at hj
    · refine ⟨.slice (some ⟨g, k * 2, none⟩) (n - k) (cap - k), fun w' => by go_simp, fun w' hR => .inr ⟨⟨g, k * 2, none⟩, cap - k, rfl, fun j u hj => ?_⟩⟩
      rw [Addr.add_lit]
      rw [← cellsT_drop, List.getElem?_drop] at hj
      exact rd_cell hR hj
end
theorem Rq.shape {o : Nat → Nat} {σ : Nat} {w : World} {b room now cap : Nat} {A : Option Addr} {l : List Tm} (h : Rq o σ w b room now (.slice A l.length cap) l) : (A = none ∧ l.length = 0 ∧ cap = 0) ∨ ∃ g, A = some ⟨g, 0, none⟩ := by
  rcases h.row.own.2 with ⟨hv, h0⟩ | ⟨g, cap', cur, hv, _⟩
  · injection hv with h1 h2 h3; exact .inl ⟨h1, h0, h3⟩
  · injection hv with h1 h2 h3; exact .inr ⟨g, h1⟩
/-- Behind an append onto what the call has made, from the block N on. -/
theorem made_on {N : Nat} {w0 w w' : World} {e : TypeId} {size n : Nat} {v : Value} {xs : List Value} (hb : Below N w0 w) (hown : w.ownsRow N e size v n xs) (hg : w.grownBy w' v.ownBlock) (hN : N ≤ w.heap.size) : Below N w0 w' :=
  hb.grown hg hN (fun k hk => (hown.lt k hk).1)
theorem own_from {N M : Nat} {w : World} {e : TypeId} {size n : Nat} {v : Value} {xs : List Value} (h : w.ownsRow N e size v n xs) (hM : M ≤ N) : w.ownsRow M e size v n xs :=
  ⟨h.1, h.2.imp id fun ⟨g, cap, cur, a, q, c⟩ => ⟨g, cap, cur, a, Nat.le_trans hM q, c⟩⟩
theorem results_one {fn : Func} {p : Tmp} {ty : TypeId} (h : fn.results = #[.cell p ty]) (tmps : Array Value) (P : Program) (w : World) :
    (results fn tmps).run P w = ((asAddr (tmps.getD p undef)).run P w).andThen fun a w₁ => (loadVar ty a).run P w₁ := by
  simp only [results, h]
  simp [Sem.run_bind, Result.andThen]
theorem RdT.under {N : Nat} {w w' : World} {A : Option Addr} {l : List Tm} (h : RdT w A l) (hb : Below N w w') (hN : w.heap.size ≤ N) : RdT w' A l := h.below (hb.mono hN)
end Go.Proofs.Ytbejmboedjfllaa
