/- ArenaOnce: no handle is told twice; what was freed is never found again. -/
import Derived.Test.YtenokhdfbomkkaaOnceMap
import Derived.Test.YtenokhdfbomkkaaArAwake
import Derived.Test.YtenokhdfbomkkaaArI5
import Derived.Test.YtenokhdfbomkkaaReads
import Derived.Deep.RegionHeld3
namespace Go.Proofs.Ytenokhdfbomkkaa
open Go.RowKit
set_option linter.unusedVariables false
set_option linter.unusedSimpArgs false

section
variable {P : Program} (w : World)
/-- An append, at a step of a region that draws its order. -/
theorem step_append_at {ops : Array Oper} {o : Oper} {a : Act} {K : Act → World → Prop} {Q : Exit → Act → World → Prop} {E : Prop} (hgd : o.guard = none) (s x : Operand) (t : TypeId)
    (ho : o.op = .call { callee := .builtin .append, args := #[s, x], argTypes := #[t, t] })
    (base : Nat) (e : TypeId) (i : TypeInfo) (z : Value) (size bytes : Nat) (ht : P.underlying t = some (.slice e)) (hi : P.info? e = some i) (hz : i.zero = some z)
    (hsize : i.size = size) (hby : i.bytes = bytes) (hzs : z.cells.size = size) (hsz : 0 < size)
    (v : Value) (n : Nat) (xs : List Value) (hs : a.eval s = v) (hown : w.ownsRow base e size v n xs)
    (ad : Addr) (m c : Nat) (news : List Value) (hx : a.eval x = .slice (some ad) m c) (hl : news.length = m * size) (hnews : ∀ j u, news[j]? = some u → w.cell? (ad.add j) = some u) (h1 : ∀ u ∈ news, u.oneCell' = true)
    (h63 : n + m ≤ maxLen) (hbytes : (n + m) * bytes ≤ 140737488355328) (hbase : base ≤ w.heap.size)
    (h : ∀ v' w', w'.ownsRow base e size v' (n + m) (xs ++ news) → w.grownBy w' v.ownBlock → (v'.ownBlock = v.ownBlock ∨ v'.ownBlock = some w.heap.size) → K (a.put o.dst v') w') :
    if Region.wanted o (yielded ops a.tmps) = true then Oper.wp P o a w K Q else E := by
  have hw : Region.wanted o (yielded ops a.tmps) = true := by simp [Region.wanted, hgd]
  rw [if_pos hw]
  obtain ⟨v', w', hr, h2, h3, h4, h5⟩ := run_append_own_at (P := P) w base t o.type e i z size bytes ht hi hz hsize hby hzs hsz v n xs hown ad m c news hl hnews h1 h63 hbytes hbase
  unfold Oper.wp execOp
  simp only [ho, resolve, invoke, builtin, Sem.run_bind, Sem.run_pure, Result.andThen_ok, List.map_toArray, List.map_cons, List.map_nil, hs, hx, hr]
  exact h v' w' h2 h3 h5
end
theorem from_slice (n c k g : Nat) (hk : k < n) : ∃ Y : Nat, (∀ w', (Instr.slice 36 (.slice (some ⟨g, 0, none⟩) n c) (some (.int .i64 ((k : Int) + 1))) none none).run Try.prog w' = .ok (.slice (some ⟨g, Y, none⟩) (n - (k + 1)) (c - (k + 1))) w') ∧ (c ≠ k + 1 → Y = (k + 1) * 2) := by
  have hs : ∀ w', (sizeOf (Try.prog.elem 36)).run Try.prog w' = .ok 2 w' := fun w' => by kernel_rfl
  refine ⟨if c = k + 1 then 0 else (k + 1) * 2, fun w' => ?_, fun h => if_neg h⟩
  rw [run_slice_l w' 36 (some ⟨g, 0, none⟩) n c (by kernel_rfl) .i64 ((k : Int) + 1) (by omega) (by omega), hs, Result.andThen_ok, show ((k : Int) + 1).toNat = k + 1 by omega]
  unfold sliced
  by_cases h : c = k + 1
  · rw [if_pos h, if_pos h]
  · rw [if_neg h, if_neg h]; simp [Addr.add]
theorem Step.fresh {w w' : World} (o : Nat → Nat) (σ : Nat) (hb : Below w.heap.size w w') (τ : Nat) : Step o (tag o w.heap.size τ) σ w w' :=
  ⟨hb.os, hb.tape, hb.output, hb.size, fun k hk => tag_old hk, fun k hk _ => hb.block k hk⟩
theorem wf_small (x : Int) (h0 : 0 ≤ x) (h1 : x ≤ 1000000) : (Lit.int .i64 x).wf = true := by
  have : IntKind.i64.min ≤ x ∧ x ≤ 9223372036854775807 := ⟨by show (-9223372036854775808 : Int) ≤ x; omega, by omega⟩
  simpa [Lit.wf] using this
/-- A Put where there is room: a handle that was never told. -/
theorem put_once {o : Nat → Nat} {w : World} {a room : Nat} {vs vf : Value} {ss : List (Int × Int × Bool)} {fr : List Nat} {th T : List (Nat × Int)} {i : Nat} (v : Int)
    (h : ArI o 1 w a room vs vf ss fr) (hO : OInv room ss fr th T i) (hr : room ≤ 1000) (hi : i ≤ 1000) (hnf : ¬ (fr = [] ∧ ss.length = room)) :
    ∃ (p : Nat) (g : Int), (p, g) ∉ T ∧ p ≤ 1000 ∧ 0 ≤ g ∧ g ≤ 10000 ∧ Calls Try.prog 10 #[.pointer (some ⟨a, 0, none⟩), .int .i64 v] w fun e w' => e = .returned (.tuple #[.agg #[.int .i64 (p : Int), .int .i64 g], .int .i64 0]) ∧
      ∃ o' vs' vf' ss' fr', Step o o' 1 w w' ∧ ArI o' 1 w' a room vs' vf' ss' fr' ∧ OInv room ss' fr' (th ++ [(p, g)]) (T ++ [(p, g)]) (i + 1) := by
  have hle := hO.le
  rcases List.eq_nil_or_concat fr with rfl | ⟨fr0, p, rfl⟩
  · have hl : ss.length < room := by
      rcases Nat.lt_or_ge ss.length room with h1 | h1
      · exact h1
      · exact absurd ⟨rfl, by omega⟩ hnf
    obtain ⟨hO', hnew⟩ := hO.new (v := v) hl
    refine ⟨ss.length, 1, hnew, by omega, by omega, by omega, (put_new_i v h hl hr).mono ?_⟩
    rintro e w' ⟨he, o', vs', vf', st, h'⟩
    exact ⟨he, o', vs', vf', _, _, st, h', hO'⟩
  · rw [List.concat_eq_append] at *
    obtain ⟨x, g, hp⟩ := hO.frh p (by simp)
    have hg := hO.gen p _ hp
    have hpl : p < ss.length := (List.getElem?_eq_some_iff.1 hp).1
    have hfl := hO.len
    simp at hfl hg
    obtain ⟨hO', hnew⟩ := hO.pop (v := v) hp
    refine ⟨p, g + 1, hnew, by omega, by omega, by omega, (put_pop_i v h hp hg.1 (by simp only; omega) (by omega) (by omega)).mono ?_⟩
    rintro e w' ⟨he, o', vs', vf', st, h'⟩
    exact ⟨he, o', vs', vf', _, _, st, h', hO'⟩

set_option maxHeartbeats 6400000 in
set_option maxRecDepth 100000 in
theorem ArenaOnce_ret (room : Int) (A : Option Addr) (c : Nat) (zs : List Int) (w : World) (h1 : fitB room = true) (hlen : zs.length ≤ 9223372036854775807) (hfit : ∀ x ∈ zs, fitB x = true) (hrd : ReadsI w A zs) (hbl : zs ≠ [] → ∀ ad, A = some ad → ad.block < w.heap.size) :
    Calls Try.prog 5 #[.int .i64 room, .slice A zs.length c] w (RetB (.bool true) w) := by
  obtain ⟨j0, hj0, hz0, hz1, hz2⟩ := info_parts Try.infoHandle
  have A0 := Lib.hid awake_any
  clear h1
  obtain ⟨N, hN⟩ : ∃ N : Nat, zs.length = N := ⟨_, rfl⟩
  rw [hN] at hlen ⊢
  have Z := Lib.hid (And.intro hN (And.intro hfit (And.intro hrd hbl)))
  clear hN hfit hrd hbl
  have hmm := @run_makeMap Try.prog
  go_enter Try.func5, Try.ntmps5
  go_wp2_with fail
  refine (A0.out _).mono ?_; rintro e b0w ⟨rfl, b0⟩
  by_cases k1 : room < 1
  · go_wp2
    go_ret
    exact ⟨rfl, by have s0 := b0.size; (try simp only [World.heap_drewN, World.size_alloc] at s0); repeat (first | exact Below.refl _ _ | exact b0 | refine Below.trans ?_ (Below.mono b0 (by first | omega | (simp; done) | (simp; omega))) | refine Below.setCell ?_ (by first | omega | (simp; done) | (simp; omega)) _ | refine below_dN ?_ _ | refine Below.drew ?_ | refine Below.alloc ?_ (by first | omega | (simp; done) | (simp; omega)) _)⟩
  have k1' : decide (room < 1) = false := decide_eq_false k1
  by_cases k2 : room > 1000
  · go_wp2
    go_ret
    exact ⟨rfl, by have s0 := b0.size; (try simp only [World.heap_drewN, World.size_alloc] at s0); repeat (first | exact Below.refl _ _ | exact b0 | refine Below.trans ?_ (Below.mono b0 (by first | omega | (simp; done) | (simp; omega))) | refine Below.setCell ?_ (by first | omega | (simp; done) | (simp; omega)) _ | refine below_dN ?_ _ | refine Below.drew ?_ | refine Below.alloc ?_ (by first | omega | (simp; done) | (simp; omega)) _)⟩
  have k2' : decide (room > 1000) = false := decide_eq_false k2
  by_cases k3 : (N : Int) > 60
  · go_wp2
    go_ret
    exact ⟨rfl, by have s0 := b0.size; (try simp only [World.heap_drewN, World.size_alloc] at s0); repeat (first | exact Below.refl _ _ | exact b0 | refine Below.trans ?_ (Below.mono b0 (by first | omega | (simp; done) | (simp; omega))) | refine Below.setCell ?_ (by first | omega | (simp; done) | (simp; omega)) _ | refine below_dN ?_ _ | refine Below.drew ?_ | refine Below.alloc ?_ (by first | omega | (simp; done) | (simp; omega)) _)⟩
  have k3' : decide ((N : Int) > 60) = false := decide_eq_false k3
  obtain ⟨n, rfl⟩ : ∃ n : Nat, room = n := ⟨room.toNat, by omega⟩
  go_wp2_with fail
  refine (new_i (fun _ => 0) 1 _ n (by omega) (by omega)).mono ?_
  rintro e w1 ⟨rfl, o1, vs1, vf1, s1, h1⟩
  have l1 := ((Lw.start w).on b0).step s1 (by decide)
  clear b0 s1
  generalize b0w.heap.size = a at *
  go_wp2
  have h1a := h1.alloc (.map #[] 0) 4
  have l1a := l1.alloc (.map #[] 0) 4
  have m1a := SeenM.made o1 4 w1
  generalize w1.heap.size = bm at *
  generalize tag o1 bm 4 = o1a at *
  generalize w1.alloc (.map #[] 0) = w1a at *
  clear h1 l1
  go_loopw [8, 9] (fun v st wr => ∃ (i : Nat) (o : Nat → Nat) (vs vf : Value) (ss : List (Int × Int × Bool)) (fr : List Nat) (th T : List (Nat × Int)), st = .int .i64 (i : Int) ∧ i ≤ N ∧ ArI o 1 wr a n vs vf ss fr ∧ Row o 3 wr 28 2 v th.length (hCells th) ∧ SeenM o 4 wr bm i T ∧ OInv n ss fr th T i ∧ Lw w o wr) (fun _ st _ => N - (intOf st).toNat)
  case atStart => exact ⟨0, o1a, vs1, vf1, [], [], [], [], rfl, by omega, h1a, Row.nil _ _ _ _ _, m1a, OInv.start n, l1a⟩
  case round =>
    obtain ⟨i, o, vs, vf, ss, fr, th, T, rfl, hi, h, r, m, O, l⟩ := hrel
    clear h1a l1a m1a
    rcases Nat.lt_or_ge i N with hlt | hge
    · obtain ⟨hN, hfit, hrd, hbl⟩ := Z.out
      obtain ⟨b, off, rfl, hcell0⟩ := hrd i (by omega)
      have hcell : wr.cell? ⟨b, off + i, none⟩ = some (.int .i64 (zs.getD i 0)) := (l.below.cell (World.block_lt_of_cell? _ _ hcell0)).trans hcell0
      have hzf := fit_iff (hfit (zs.getD i 0) (by rw [List.getD_eq_getElem?_getD, List.getElem?_eq_getElem (by omega)]; simp))
      clear hcell0 hrd hbl hfit hN
      generalize zs.getD i 0 = z at *
      have htl := O.len
      have hsl := O.le
      obtain ⟨Ar, cr, rfl⟩ := r.any
      by_cases hfree : 0 ≤ z ∧ 0 < th.length
      · obtain ⟨hz, hth⟩ := hfree
        obtain ⟨k, hk, hkn⟩ : ∃ k : Nat, z.tmod (th.length : Int) = (k : Int) ∧ k < th.length := by
          have e1 := Int.tmod_nonneg (th.length : Int) hz
          have e2 := Int.tmod_lt_of_pos z (b := (th.length : Int)) (by omega)
          exact ⟨(z.tmod th.length).toNat, by omega, by omega⟩
        have hn0 : ¬ (th.length : Int) = 0 := by omega
        have hn0' : ((th.length : Int) == 0) = false := by rw [beq_eq_false_iff_ne]; exact hn0
        obtain ⟨⟨s, g⟩, hsg⟩ : ∃ q, th[k]? = some q := ⟨_, List.getElem?_eq_getElem hkn⟩
        obtain ⟨⟨x, hx⟩, O'⟩ := O.free hsg
        obtain ⟨gr, cap, hv, hc1, hc2, hog, hgl⟩ := r.form (by omega)
        cases hv
        unfold maxLen at hc2
        have q := hCells_get th k _ hsg
        have d0 : wr.cell? ⟨gr, k * 2, none⟩ = some (.int .i64 (s : Int)) := by rw [r.cellAt _ (by omega)]; exact q.1
        have d1 : wr.cell? ⟨gr, k * 2 + 1, none⟩ = some (.int .i64 g) := by rw [r.cellAt _ (by omega)]; exact q.2
        have C := Lib.hid (free_yes_i (h.alloc (.cells #[.int .i64 (s : Int), .int .i64 g] 28) 2) hx (by omega) (by omega) (by omega))
        have F := Lib.hid (And.intro r (And.intro m (And.intro O' l)))
        have hsl2 : s < ss.length := (List.getElem?_eq_some_iff.1 hx).1
        clear h r m O l O' q
        go_wp2_with fail
        refine C.out.mono ?_
        rintro e w2 ⟨rfl, o2, vs2, vf2, s2, h2⟩
        obtain ⟨r, m, O', l⟩ := F.out
        have r2 := (r.alloc (.cells #[.int .i64 (s : Int), .int .i64 g] 28) 2).step s2 (by decide)
        have m2 := (m.alloc (.cells #[.int .i64 (s : Int), .int .i64 g] 28) 2).step s2 (by decide)
        have l2 := (l.alloc (.cells #[.int .i64 (s : Int), .int .i64 g] 28) 2).step s2 (by decide)
        have x2 := (Blk.made o 2 wr #[.int .i64 (s : Int), .int .i64 g] 28).step s2 (by decide)
        have y0 : w2.cell? ⟨wr.heap.size, 0, none⟩ = some (.int .i64 (s : Int)) := by rw [x2.cell]; simp
        have y1 : w2.cell? ⟨wr.heap.size, 1, none⟩ = some (.int .i64 g) := by rw [x2.cell]; simp
        have C2 := Lib.hid (free_no_i (s : Int) g 7 h2 (by
          rw [findE, if_neg (by omega), if_neg (by simp; omega), Int.toNat_natCast, List.getElem?_set_self hsl2]; simp) (by decide) (by omega) (by simp; omega))
        have G := Lib.hid (And.intro h2 (And.intro r2 (And.intro m2 (And.intro O' l2))))
        clear C F r m O' l s2 h2 r2 m2 l2 x2 d0 d1
        go_wp2_with fail
        refine C2.out.mono ?_
        rintro e w3 ⟨rfl, b3⟩
        obtain ⟨h2, r2, m2, O', l2⟩ := G.out
        have h3 := h2.below b3
        have r3 := r2.below b3
        have m3 := m2.below b3
        have l3 := l2.on b3
        have K := Lib.hid (And.intro h3 (And.intro r3 (And.intro m3 (And.intro O' l3))))
        clear C2 G h2 r2 m2 O' l2 b3 h3 r3 m3 l3 y0 y1
        go_wp2
        have hk0 : (0 : Int) ≤ (k : Int) := by omega
        have hkc : (k : Int) ≤ (cr : Int) := by omega
        have hk1 : (k : Int) + 1 ≤ (th.length : Int) := by omega
        have htc : (th.length : Int) ≤ (cr : Int) := by omega
        have hwr : IntKind.i64.wrap ((k : Int) + 1) = (k : Int) + 1 := by rw [IntKind.wrap_i64]; omega
        have hE : (w3.alloc (.cells #[] 28)).ownsRow w3.heap.size 28 2 (.slice (some ⟨w3.heap.size, 0, none⟩) 0 0) 0 [] := World.ownsRow_made w3 #[] 0 (Nat.le_refl _) (by decide) rfl
        have hN1 : ∀ j u, ((hCells th).take (k * 2))[j]? = some u → (w3.alloc (.cells #[] 28)).cell? ((⟨gr, 0, none⟩ : Addr).add j) = some u := fun j u hu =>
          (K.out.2.1.own.alloc _).cells (g := gr) rfl j u (by rw [List.getElem?_take] at hu; split at hu <;> simp_all)
        obtain ⟨Y, hsl, hY⟩ := from_slice th.length cr k gr (by omega)
        have hgr3 : gr < w3.heap.size := (K.out.2.1.lt (k := gr) rfl)
        have hN2 : ∀ w4, (w3.alloc (.cells #[] 28)).grownBy w4 (some w3.heap.size) → ∀ j u, ((hCells th).drop ((k + 1) * 2))[j]? = some u → w4.cell? ((⟨gr, Y, none⟩ : Addr).add j) = some u := by
          intro w4 hg j u hu
          rw [List.getElem?_drop] at hu
          have hjl : (k + 1) * 2 + j < (hCells th).length := (List.getElem?_eq_some_iff.1 hu).1
          rw [hCells_len] at hjl
          rw [addr_add_plain, hY (by omega)]
          have e1 := (K.out.2.1.own.alloc (.cells #[] 28)).cells (g := gr) rfl _ u hu
          rw [addr_add_plain, Nat.zero_add] at e1
          exact (World.cell?_of_block (hg.block gr (by simp; omega) (fun e => by cases e; omega))).trans e1
        have L1 := Lib.hid (And.intro hE (And.intro hN1 hN2))
        have hl1 : ((hCells th).take (k * 2)).length = k * 2 := by rw [List.length_take, hCells_len]; omega
        have hl2 : ((hCells th).drop ((k + 1) * 2)).length = (th.length - (k + 1)) * 2 := by rw [List.length_drop, hCells_len]; omega
        clear hE hN1 hN2 hY
        go_region_held3 (fun _ => True) (trivial) (first
          | (refine step_append_at _ (by rfl) (.tmp 80) (.tmp 84) 36 (by rfl) w3.heap.size 28 j0 (.agg #[.int .i64 0, .int .i64 0]) 2 16 Try.underlying36 hj0 hz0 hz1 hz2 rfl (by decide) v4 (0 + k) ([] ++ (hCells th).take (k * 2)) (by rfl) hown4 ⟨gr, Y, none⟩ (th.length - (k + 1)) (cr - (k + 1)) ((hCells th).drop ((k + 1) * 2)) (by rfl) hl2 (L1.out.2.2 _ ⟨hgrow4.os, hgrow4.tape, hgrow4.output, hgrow4.size, hgrow4.block⟩) (hCells_one_drop _ _) (by unfold maxLen; omega) (by omega) (by have := hgrow4.size; simp at this; omega) ?_; intro v5 w5 hown5 hgrow5 hat5)
          | (refine step_append_at _ (by rfl) (.tmp 76) (.tmp 79) 36 (by rfl) w3.heap.size 28 j0 (.agg #[.int .i64 0, .int .i64 0]) 2 16 Try.underlying36 hj0 hz0 hz1 hz2 rfl (by decide) (.slice (some ⟨w3.heap.size, 0, none⟩) 0 0) 0 [] (by rfl) (L1.out.1) ⟨gr, 0, none⟩ k cr ((hCells th).take (k * 2)) (by rfl) hl1 (L1.out.2.1) (hCells_one_all _ _) (by unfold maxLen; omega) (by omega) (by simp) ?_; intro v4 w4 hown4 hgrow4 hat4))
        obtain ⟨h3, r3, m3, O', l3⟩ := K.out
        have b5 : Below w3.heap.size w3 w5 := by
          refine Below.grown (Below.grown ((Below.refl _ w3).alloc (Nat.le_refl _) (.cells #[] 28)) (w' := w4) ⟨hgrow4.os, hgrow4.tape, hgrow4.output, hgrow4.size, hgrow4.block⟩ (by simp) (fun j hj => by cases hj; exact Nat.le_refl _)) hgrow5 (by have := hgrow4.size; simp at this; omega) (fun j hj => (hown4.lt j hj).1)
        have hlen5 : 0 + k + (th.length - (k + 1)) = (th.take k ++ th.drop (k + 1)).length := by simp; omega
        rw [hlen5, hCells_drop, hCells_take, List.nil_append, ← hCells_append] at hown5
        have h5 := h3.step (Step.fresh _ 7 b5 3) (by decide)
        have m5 := (m3.step (Step.fresh _ 7 b5 3) (by decide)).mono (Nat.le_succ i)
        have l5 := l3.step (Step.fresh _ 7 b5 3) (by decide)
        have r5 := Row.fresh (w0 := w3) 3 hown5 o2
        have G := Lib.hid (And.intro h5 (And.intro r5 (And.intro m5 (And.intro O' l5))))
        clear K L1 h3 r3 m3 O' l3 b5 h5 m5 l5 r5 hown5 hgrow5 hat5 hown4 hgrow4 hat4 hsl hwr
        go_wp2
        go_roundw
        case rel => exact ⟨i + 1, _, _, _, _, _, th.take k ++ th.drop (k + 1), T, by simp, by omega, G.out.1, G.out.2.1, G.out.2.2.1, G.out.2.2.2.1, G.out.2.2.2.2⟩
        case measure => simp [intOf]; omega
      · have hcase : decide (z ≥ 0) = false ∨ (z ≥ 0 ∧ decide ((th.length : Int) > 0) = false) := by
          by_cases hz : 0 ≤ z
          · exact .inr ⟨hz, decide_eq_false (by omega)⟩
          · exact .inl (decide_eq_false (by omega))
        by_cases hfull : fr = [] ∧ ss.length = n
        · obtain ⟨rfl, hsn⟩ := hfull
          have hthn : th.length = n := by simpa [hsn] using htl
          have C := Lib.hid (put_full_i (i : Int) h hsn (by omega))
          have F := Lib.hid (And.intro h (And.intro r (And.intro m (And.intro O l))))
          clear h r m O l
          rw [hthn] at hcase
          rw [hthn]
          have hc : decide (z ≥ 0) = false := by
            rcases hcase with hc | ⟨hc, hl0⟩
            · exact hc
            · have := of_decide_eq_false hl0; omega
          clear hcase
          all_goals
            go_wp2_with fail
            refine C.out.mono ?_
            rintro e w2 ⟨rfl, b2⟩
            obtain ⟨h, r, m, O, l⟩ := F.out
            have G := Lib.hid (And.intro ((h.below b2).alloc (.cells #[.int .i64 0, .int .i64 0] 28) 2) (And.intro ((r.below b2).alloc (.cells #[.int .i64 0, .int .i64 0] 28) 2) (And.intro (((m.below b2).alloc (.cells #[.int .i64 0, .int .i64 0] 28) 2).mono (Nat.le_succ i)) (And.intro O.later ((l.on b2).alloc (.cells #[.int .i64 0, .int .i64 0] 28) 2)))))
            clear C F h r m O l b2
            go_wp2
            go_roundw
            case rel => rw [hthn] at G; exact ⟨i + 1, _, _, _, _, _, _, _, by simp, by omega, G.out.1, by rw [hthn]; exact G.out.2.1, G.out.2.2.1, G.out.2.2.2.1, G.out.2.2.2.2⟩
            case measure => simp [intOf]; omega
        · obtain ⟨p, g, hnew, hp1, hg0, hg1, C0⟩ := put_once (i : Int) h O (by omega) (by omega) hfull
          have hwp := wf_small (p : Int) (by omega) (by omega)
          have hwg := wf_small g hg0 (by omega)
          have C := Lib.hid C0
          have F := Lib.hid (And.intro r (And.intro m (And.intro l (And.intro hnew (And.intro hwp hwg)))))
          clear C0 h r m O l hnew hwp hwg
          rcases hcase with hc | ⟨hc, hl0⟩
          all_goals
            go_wp2_with fail
            refine C.out.mono ?_
            rintro e w2 ⟨rfl, o2, vs2, vf2, ss2, fr2, s2, h2, O2⟩
            obtain ⟨r, m, l, hnew, hwp, hwg⟩ := F.out
            have h3 := h2.alloc (.cells #[.int .i64 (p : Int), .int .i64 g] 28) 2
            have r3 := (r.step s2 (by decide)).alloc (.cells #[.int .i64 (p : Int), .int .i64 g] 28) 2
            have m3 := (m.step s2 (by decide)).alloc (.cells #[.int .i64 (p : Int), .int .i64 g] 28) 2
            have l3 := (l.step s2 (by decide)).alloc (.cells #[.int .i64 (p : Int), .int .i64 g] 28) 2
            have hlook := m3.look hwp hwg hnew
            obtain ⟨w4, hupd, m4, g4⟩ := m3.told hwp hwg (by unfold maxLen; omega)
            have s4 := (Step.refl _ 4 _).grown g4 (fun k hk => .inr (by cases hk; exact m3.mine)) 4
            have x4 := (Blk.made o2 2 w2 #[.int .i64 (p : Int), .int .i64 g] 28).step s4 (by decide)
            have h4 := h3.step s4 (by decide)
            have r4 := r3.step s4 (by decide)
            have l4 := l3.step s4 (by decide)
            have c0 : w4.cell? ⟨w2.heap.size, 0, none⟩ = some (.int .i64 (p : Int)) := by rw [x4.cell]; simp
            have c1 : w4.cell? ⟨w2.heap.size, 1, none⟩ = some (.int .i64 g) := by rw [x4.cell]; simp
            have h5 := h4.alloc (.cells #[.int .i64 (p : Int), .int .i64 g] 28) 2
            have r5 := r4.alloc (.cells #[.int .i64 (p : Int), .int .i64 g] 28) 2
            have m5 := m4.alloc (.cells #[.int .i64 (p : Int), .int .i64 g] 28) 2
            have l5 := l4.alloc (.cells #[.int .i64 (p : Int), .int .i64 g] 28) 2
            have G := Lib.hid (And.intro h5 (And.intro r5 (And.intro m5 (And.intro O2 l5))))
            clear C F r m l hnew hwp hwg s2 h2 O2 h3 r3 m3 l3 m4 g4 s4 x4 h4 r4 l4 h5 r5 m5 l5
            go_wp2_with (at_builtin; refine wpList_append_own_at _ rfl (.tmp 107) (.tmp 109) 36 rfl 0 28 j0 (.agg #[.int .i64 0, .int .i64 0]) 2 16 Try.underlying36 hj0 hz0 hz1 hz2 rfl (by decide) _ _ _ rfl (G.out.2.1.own) ⟨w4.heap.size, 0, none⟩ 1 1 [.int .i64 (p : Int), .int .i64 g] rfl rfl (news_two _ _ _ _) (two_ints _ _) (by unfold maxLen; omega) (by omega) (Nat.zero_le _) ?_)
            intro v' w6 hown' hgrow' _ hloc
            obtain ⟨h5, r5, m5, O2, l5⟩ := G.out
            have s6 := (Step.refl _ 3 _).grown hgrow' (fun k hk => .inr (r5.mine k hk)) 3
            have h6 := h5.step s6 (by decide)
            have r6 := r5.appended hown' (by simpa using hloc)
            have e6 : hCells th ++ [.int .i64 (p : Int), .int .i64 g] = hCells (th ++ [(p, g)]) := by rw [hCells_append, hCells_one]
            rw [e6] at r6
            have m6 := m5.step s6 (by decide)
            have l6 := l5.step s6 (by decide)
            have K := Lib.hid (And.intro h6 (And.intro r6 (And.intro m6 (And.intro O2 l6))))
            clear G h5 r5 m5 O2 l5 s6 h6 r6 m6 l6 hown' hgrow' hloc e6
            go_wp2
            go_roundw
            case rel => exact ⟨i + 1, _, _, _, _, _, th ++ [(p, g)], _, by simp, by omega, K.out.1, by rw [List.length_append]; exact K.out.2.1, K.out.2.2.1, K.out.2.2.2.1, K.out.2.2.2.2⟩
            case measure => simp [intOf]; omega
    · obtain rfl : N = i := by omega
      have htl := O.len
      have C := Lib.hid (len_i th.length h htl (by have := O.le; omega))
      obtain ⟨Ar, cr, rfl⟩ := r.any
      have L := Lib.hid l
      clear h r m O l
      go_wp2_with fail
      refine C.out.mono ?_
      rintro e w' ⟨rfl, nl, rfl⟩
      go_wp2
      go_ret
      exact ⟨rfl, (L.out.drewN nl).below⟩
end Go.Proofs.Ytenokhdfbomkkaa
