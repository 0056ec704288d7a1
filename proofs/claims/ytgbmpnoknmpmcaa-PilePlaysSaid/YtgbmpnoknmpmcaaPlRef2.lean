/- Parts of a slice of the document's items, and appends of them onto what the call has made. -/
import Derived.Test.YtgbmpnoknmpmcaaPlRef1
import Derived.Test.YtgbmpnoknmpmcaaRegT
import Derived.Laws.OwnMore
namespace Go.Proofs.Ytgbmpnoknmpmcaa
open Go.RowKit
set_option linter.unusedVariables false
set_option linter.unusedSimpArgs false

theorem Try.infoRItem : (Try.prog.info? 42).map (fun i => (i.zero, i.size, i.bytes)) = some (some (.agg #[.int .i64 0, .int .i64 0, .int .i64 0]), 3, 24) := by kernel_rfl
/-- What a source of m items holds. -/
def SrcI (w : World) (src : Value) (m : Nat) (news : List Value) : Prop :=
  (src = .slice none 0 0 ∧ m = 0 ∧ news = []) ∨ ∃ ad c, src = .slice (some ad) m c ∧ ∀ j u, news[j]? = some u → w.cell? (ad.add j) = some u
theorem run_append_src {base : Nat} {w : World} {v src : Value} {n m : Nat} {xs : List Value} {l : List It} (ty : TypeId) (hown : w.ownsRow base 42 3 v n xs) (hs : SrcI w src m (cellsI l)) (hm : l.length = m)
    (hb : base ≤ w.heap.size) (hn : n + m ≤ 2000) :
    ∃ v' w', (Builtin.append_ #[36, 36] ty #[v, src]).run Try.prog w = .ok v' w' ∧ w'.ownsRow base 42 3 v' (n + m) (xs ++ cellsI l) ∧ w.grownBy w' v.ownBlock ∧ (v'.ownBlock = v.ownBlock ∨ v'.ownBlock = some w.heap.size) := by
  obtain ⟨i0, hi0, hz0, hz1, hz2⟩ := info_parts Try.infoRItem
  rcases hs with ⟨rfl, rfl, hnil⟩ | ⟨ad, c, rfl, hc⟩
  · rw [hnil]
    exact ⟨v, w, run_append_owned_none (P := Try.prog) w base _ ty _ i0 3 Try.underlying36 hi0 v n xs hown, by simpa using hown, ⟨rfl, rfl, rfl, Nat.le_refl _, fun _ _ _ => rfl⟩, .inl rfl⟩
  · obtain ⟨v', w', h1, h2, h3, _, h5⟩ := run_append_own_at (P := Try.prog) w base 36 ty 42 i0 _ 3 24 Try.underlying36 hi0 hz0 hz1 hz2 rfl (by decide) v n xs hown ad m c (cellsI l) (by rw [cellsI_length, hm]) hc (cellsI_ones l) (by unfold maxLen; omega) (by omega) hb
    exact ⟨v', w', h1, h2, h3, h5⟩
theorem rd_cell {w : World} {g : Nat} {l : List It} (h : RdI w (some ⟨g, 0, none⟩) l) {j : Nat} {u : Value} (hj : (cellsI l)[j]? = some u) : w.cell? ⟨g, j, none⟩ = some u := by
  have hjl := (List.getElem?_eq_some_iff.1 hj).1
  rw [cellsI_length] at hjl
  have hlt : j / 3 < l.length := by omega
  obtain ⟨x, hx⟩ : ∃ x, l[j / 3]? = some x := ⟨_, List.getElem?_eq_getElem hlt⟩
  obtain ⟨g', hg, _, d0, d1, d2⟩ := h _ x hx
  cases hg
  have q := cellsI_get l _ x hx
  rcases (by omega : j = j / 3 * 3 ∨ j = j / 3 * 3 + 1 ∨ j = j / 3 * 3 + 2) with e | e | e
  · rw [e] at hj ⊢; rw [q.1] at hj; rw [d0]; exact hj
  · rw [e] at hj ⊢; rw [q.2.1] at hj; rw [d1]; exact hj
  · rw [e] at hj ⊢; rw [q.2.2] at hj; rw [d2]; exact hj
section
variable {w : World} {A : Option Addr} {n cap k : Nat} {l : List It}
theorem cut_low (hA : (A = none ∧ n = 0 ∧ cap = 0) ∨ ∃ g, A = some ⟨g, 0, none⟩) (hl : l.length = n) (hk : k ≤ n) (hc : n ≤ cap) (hm : cap ≤ 9223372036854775807) :
    ∃ src, (∀ w', (Instr.slice 36 (.slice A n cap) none (some (.int .i64 (k : Int))) none).run Try.prog w' = .ok src w') ∧ (∀ w', RdI w' A l → SrcI w' src k (cellsI (l.take k))) := by
  rcases hA with ⟨rfl, rfl, rfl⟩ | ⟨g, rfl⟩
  · obtain rfl : k = 0 := by omega
    refine ⟨.slice none 0 0, fun w' => by go_simp, fun w' _ => .inl ⟨rfl, rfl, by simp [cellsI]⟩⟩
  · have h1 : (k : Int) ≤ (cap : Int) := by omega
    have h2 : k ≤ cap := by omega
    refine ⟨.slice (some ⟨g, 0, none⟩) k cap, fun w' => by go_simp, fun w' hR => .inr ⟨⟨g, 0, none⟩, cap, rfl, fun j u hj => ?_⟩⟩
    rw [Addr.add_lit, Nat.zero_add]
    rw [← cellsI_take, List.getElem?_take] at hj
    split at hj
    · exact rd_cell hR hj
    · cases hj
theorem cut_high (hA : (A = none ∧ n = 0 ∧ cap = 0) ∨ ∃ g, A = some ⟨g, 0, none⟩) (hl : l.length = n) (hk : k ≤ n) (hc : n ≤ cap) (hm : cap ≤ 9223372036854775807) :
    ∃ src, (∀ w', (Instr.slice 36 (.slice A n cap) (some (.int .i64 (k : Int))) none none).run Try.prog w' = .ok src w') ∧ (∀ w', RdI w' A l → SrcI w' src (n - k) (cellsI (l.drop k))) := by
  rcases hA with ⟨rfl, rfl, rfl⟩ | ⟨g, rfl⟩
  · obtain rfl : k = 0 := by omega
    obtain rfl : l = [] := List.eq_nil_of_length_eq_zero hl
    refine ⟨.slice none 0 0, fun w' => by go_simp, fun w' _ => .inl ⟨rfl, rfl, by simp [cellsI]⟩⟩
  · have h1 : (k : Int) ≤ (n : Int) := by omega
    by_cases hck : cap = k
    · refine ⟨.slice (some ⟨g, 0, none⟩) (n - k) (cap - k), fun w' => by go_simp, fun w' hR => .inr ⟨⟨g, 0, none⟩, cap - k, rfl, fun j u hj => ?_⟩⟩
      have h0 : l.drop k = [] := List.drop_eq_nil_of_le (by omega)
      rw [h0] at hj
      simp [cellsI] at hj
    · refine ⟨.slice (some ⟨g, k * 3, none⟩) (n - k) (cap - k), fun w' => by go_simp, fun w' hR => .inr ⟨⟨g, k * 3, none⟩, cap - k, rfl, fun j u hj => ?_⟩⟩
      rw [Addr.add_lit]
      rw [← cellsI_drop, List.getElem?_drop] at hj
      exact rd_cell hR hj
end
theorem Rp.shape {o : Nat → Nat} {σ : Nat} {w : World} {b room cap : Nat} {A : Option Addr} {l : List It} (h : Rp o σ w b room (.slice A l.length cap) l) : (A = none ∧ l.length = 0 ∧ cap = 0) ∨ ∃ g, A = some ⟨g, 0, none⟩ := by
  rcases h.row.own.2 with ⟨hv, h0⟩ | ⟨g, cap', cur, hv, _⟩
  · injection hv with h1 h2 h3; exact .inl ⟨h1, h0, h3⟩
  · injection hv with h1 h2 h3; exact .inr ⟨g, h1⟩
/-- Behind an append onto what the call has made, from the block N on. -/
theorem made_on {N : Nat} {w0 w w' : World} {e : TypeId} {size n : Nat} {v : Value} {xs : List Value} (hb : Below N w0 w) (hown : w.ownsRow N e size v n xs) (hg : w.grownBy w' v.ownBlock) (hN : N ≤ w.heap.size) : Below N w0 w' :=
  hb.grown hg hN (fun k hk => (hown.lt k hk).1)
theorem own_from {N M : Nat} {w : World} {e : TypeId} {size n : Nat} {v : Value} {xs : List Value} (h : w.ownsRow N e size v n xs) (hM : M ≤ N) : w.ownsRow M e size v n xs :=
  ⟨h.1, h.2.imp id fun ⟨g, cap, cur, a, q, c⟩ => ⟨g, cap, cur, a, Nat.le_trans hM q, c⟩⟩
theorem results_one {fn : Func} {p : Tmp} {ty : TypeId} (h : fn.results = #[.cell p ty]) (tmps : Array Value) (P : Program) (w : World) :
    (results fn tmps).run P w = ((asAddr (tmps.getD p undef)).run P w).andThen fun a w₁ => (loadVar ty a).run P w₁ := by
  simp only [results, h]
  simp [Sem.run_bind, Result.andThen]
theorem RdI.under {N : Nat} {w w' : World} {A : Option Addr} {l : List It} (h : RdI w A l) (hb : Below N w w') (hN : w.heap.size ≤ N) : RdI w' A l := h.below (hb.mono hN)
end Go.Proofs.Ytgbmpnoknmpmcaa
