/- DemandFrames: demand in a frame more; a task left out, or that needs less. -/
import Derived.Test.YtmokbmhobglhfaaDmAwake
namespace Go.Proofs.Ytmokbmhobglhfaa
open Go.RowKit Go.Lib
set_option linter.unusedVariables false
set_option linter.unusedSimpArgs false

theorem Try.infoTk : (Try.prog.info? 27).map (fun i => (i.zero, i.size, i.bytes)) = some (some (.agg #[.int .i64 0, .int .i64 0, .int .i64 0]), 3, 24) := by kernel_rfl
theorem Try.sizeTk : (Try.prog.info? 27).map (·.size) = some 3 := by kernel_rfl
theorem cellsTk_take (l : List Tk) : ∀ (k j : Nat) (u : Value), (cellsTk (l.take k))[j]? = some u → (cellsTk l)[j]? = some u := by
  intro k j u h
  have hj := (List.getElem?_eq_some_iff.1 h).1
  have e : cellsTk l = cellsTk (l.take k) ++ cellsTk (l.drop k) := by rw [← cellsTk_app, List.take_append_drop]
  rw [e, List.getElem?_append_left hj]; exact h
theorem cellsTk_drop (l : List Tk) (k : Nat) (hk : k ≤ l.length) : ∀ (j : Nat) (u : Value), (cellsTk (l.drop k))[j]? = some u → (cellsTk l)[k * 3 + j]? = some u := by
  intro j u h
  have e : cellsTk l = cellsTk (l.take k) ++ cellsTk (l.drop k) := by rw [← cellsTk_app, List.take_append_drop]
  have hl : (cellsTk (l.take k)).length = k * 3 := by rw [cellsTk_length, List.length_take]; omega
  rw [e, List.getElem?_append_right (by omega), hl, show k * 3 + j - k * 3 = j by omega]; exact h
theorem madeK {N : Nat} {w0 w w' : World} {e : TypeId} {size n : Nat} {v : Value} {xs : List Value} (hb : Below N w0 w) (hown : w.ownsRow N e size v n xs) (hg : w.grownBy w' v.ownBlock) (hN : N ≤ w.heap.size) : Below N w0 w' :=
  hb.grown hg hN (fun k hk => (hown.lt k hk).1)
theorem slice_lowK (b off n cap k : Nat) (h1 : k ≤ n) (h2 : n ≤ cap) (h3 : cap ≤ 9223372036854775807) (w' : World) : (Instr.slice 28 (.slice (some ⟨b, off, none⟩) n cap) none (some (.int .i64 (k : Int))) none).run Try.prog w' = .ok (.slice (some ⟨b, off, none⟩) k cap) w' := by
  have q1 : (k : Int) ≤ (cap : Int) := by omega
  have q2 : k ≤ cap := by omega
  go_simp
theorem slice_highK (b off n cap p : Nat) (h1 : p ≤ n) (h2 : n ≤ cap) (h3 : cap ≤ 9223372036854775807) (w' : World) : (Instr.slice 28 (.slice (some ⟨b, off, none⟩) n cap) (some (.int .i64 (p : Int))) none none).run Try.prog w' = .ok (.slice (if cap = p then some ⟨b, off, none⟩ else some ⟨b, off + p * 3, none⟩) (n - p) (cap - p)) w' := by
  have q1 : (p : Int) ≤ (n : Int) := by omega
  by_cases hck : cap = p
  · rw [if_pos hck]
    go_simp
  · rw [if_neg hck]
    go_simp
/-- Two appends behind one another: all tasks but one. -/
theorem dropK (b off cap n k : Nat) (l : List Tk) (wB : World) (hl : l.length = n) (hn : n ≤ 1000) (hk : k < n) (hcap : n ≤ cap) (hR : RdK wB (some ⟨b, off, none⟩) l) :
    ∃ v2 w2 v3 w3, (Builtin.append_ #[28, 28] 28 #[.slice (some ⟨wB.heap.size, 0, none⟩) 0 0, .slice (some ⟨b, off, none⟩) k cap]).run Try.prog (wB.alloc (.cells #[] 27)) = .ok v2 w2 ∧
      (Builtin.append_ #[28, 28] 28 #[v2, .slice (if cap = k + 1 then some ⟨b, off, none⟩ else some ⟨b, off + (k + 1) * 3, none⟩) (n - (k + 1)) (cap - (k + 1))]).run Try.prog w2 = .ok v3 w3 ∧
      (∃ A c, v3 = .slice A (n - 1) c ∧ n - 1 ≤ c ∧ c ≤ 9223372036854775807 ∧ RdK w3 A (l.take k ++ l.drop (k + 1))) ∧ Below wB.heap.size wB w3 := by
  obtain ⟨i0, hi0, hz0, hz1, hz2⟩ := info_parts Try.infoTk
  have bm : Below wB.heap.size wB (wB.alloc (.cells #[] 27)) := (Below.refl _ _).alloc (Nat.le_refl _) _
  have n1 : wB.heap.size ≤ (wB.alloc (.cells #[] 27)).heap.size := bm.size
  have E1 : (wB.alloc (.cells #[] 27)).ownsRow wB.heap.size 27 3 (.slice (some ⟨wB.heap.size, 0, none⟩) 0 0) 0 [] := World.ownsRow_made (base := wB.heap.size) (e := 27) (size := 3) wB #[] 0 (Nat.le_refl _) (by decide) rfl
  have hsrc : ∀ W, Below wB.heap.size wB W → ∀ j u, (cellsTk l)[j]? = some u → W.cell? ⟨b, off + j, none⟩ = some u := fun W hW => cellsTk_src (hR.below hW)
  obtain ⟨v2, w2, r2, E2, g2, _, _⟩ := run_append_own_at (P := Try.prog) (wB.alloc (.cells #[] 27)) wB.heap.size 28 28 27 i0 _ 3 24 Try.underlying28 hi0 hz0 hz1 hz2 rfl (by decide) _ 0 [] E1 ⟨b, off, none⟩ k cap (cellsTk (l.take k)) (by rw [cellsTk_length, List.length_take]; omega) (fun j u hj => by rw [Addr.add_lit]; exact hsrc _ bm j u (cellsTk_take l k j u hj)) (cellsTk_ones _) (by unfold maxLen; omega) (by omega) n1
  have b2 : Below wB.heap.size wB w2 := madeK bm E1 g2 n1
  have n2 := b2.size
  obtain ⟨ad, had, hcells⟩ : ∃ ad : Addr, (if cap = k + 1 then some (⟨b, off, none⟩ : Addr) else some ⟨b, off + (k + 1) * 3, none⟩) = some ad ∧ ∀ j u, (cellsTk (l.drop (k + 1)))[j]? = some u → w2.cell? (ad.add j) = some u := by
    by_cases hc : cap = k + 1
    · refine ⟨⟨b, off, none⟩, by rw [if_pos hc], fun j u hj => ?_⟩
      rw [List.drop_eq_nil_of_le (by omega)] at hj
      simp [cellsTk] at hj
    · refine ⟨⟨b, off + (k + 1) * 3, none⟩, by rw [if_neg hc], fun j u hj => ?_⟩
      rw [Addr.add_lit, Nat.add_assoc]
      exact hsrc _ b2 _ u (cellsTk_drop l (k + 1) (by omega) j u hj)
  rw [had]
  obtain ⟨v3, w3, r3, E3, g3, _, _⟩ := run_append_own_at (P := Try.prog) w2 wB.heap.size 28 28 27 i0 _ 3 24 Try.underlying28 hi0 hz0 hz1 hz2 rfl (by decide) v2 (0 + k) _ E2 ad (n - (k + 1)) (cap - (k + 1)) (cellsTk (l.drop (k + 1))) (by rw [cellsTk_length, List.length_drop, hl]) hcells (cellsTk_ones _) (by unfold maxLen; omega) (by omega) n2
  have b3 : Below wB.heap.size wB w3 := madeK b2 E2 g3 n2
  refine ⟨v2, w2, v3, w3, r2, r3, ?_, b3⟩
  rw [show [] ++ cellsTk (l.take k) ++ cellsTk (l.drop (k + 1)) = cellsTk (l.take k ++ l.drop (k + 1)) by rw [cellsTk_app]; rfl] at E3
  obtain ⟨A, c, hv, h1, h2, h3⟩ := ownTk_rdK E3
  have hlen : (l.take k ++ l.drop (k + 1)).length = n - 1 := by rw [List.length_append, List.length_take, List.length_drop]; omega
  rw [hlen] at hv h1
  exact ⟨A, c, hv, h1, h2, h3⟩
/-- Tasks in a block of one's own. -/
structure OwnK (G : Nat) (ls : List Tk) (w : World) : Prop where
  lt : G < w.heap.size
  cell : ∀ (j : Nat) (u : Value), (cellsTk ls)[j]? = some u → w.cell? ⟨G, j, none⟩ = some u
  frz : ∀ i, i < ls.length * 3 → w.frozen? ⟨G, i, none⟩ = false
theorem OwnK.on {G : Nat} {ls : List Tk} {w w' : World} (h : OwnK G ls w) (hb : Below w.heap.size w w') : OwnK G ls w' :=
  ⟨Nat.lt_of_lt_of_le h.lt hb.size, fun j u hj => by rw [hb.cell (p := ⟨G, j, none⟩) h.lt]; exact h.cell j u hj, fun i hi => by rw [hb.frozen (p := ⟨G, i, none⟩) h.lt]; exact h.frz i hi⟩
theorem OwnK.rd {G : Nat} {ls : List Tk} {w : World} (h : OwnK G ls w) : RdK w (some ⟨G, 0, none⟩) ls := fun k x hx => by
  obtain ⟨g0, g1, g2⟩ := cellsTk_get ls k x hx
  exact ⟨G, 0, rfl, by rw [Nat.zero_add]; exact h.cell _ _ g0, by rw [Nat.zero_add]; exact h.cell _ _ g1, by rw [Nat.zero_add]; exact h.cell _ _ g2⟩
theorem OwnK.of_own {w : World} {base n : Nat} {e : TypeId} {v : Value} {l : List Tk} (h : w.ownsRow base e 3 v n (cellsTk l)) (h0 : 0 < n) :
    ∃ g c, v = .slice (some ⟨g, 0, none⟩) n c ∧ base ≤ g ∧ n ≤ c ∧ c ≤ 9223372036854775807 ∧ OwnK g l w := by
  have hn : n = l.length := by have := h.1; rw [cellsTk_length] at this; omega
  rcases h.2 with ⟨rfl, h1⟩ | ⟨g, cap, cur, rfl, hb, hh, h1, h2, h3, h4⟩
  · omega
  · refine ⟨g, cap, rfl, hb, h1, by unfold maxLen at h2; omega, (Array.getElem?_eq_some_iff.1 hh).1, fun j u hj => ?_, fun i hi => by simp [World.frozen?, hh]⟩
    have hjl := (List.getElem?_eq_some_iff.1 hj).1
    rw [cellsTk_length] at hjl
    rw [h.cellAt _ (by omega)]
    exact hj
theorem OwnK.less {G : Nat} {ls : List Tk} {w : World} (h : OwnK G ls w) {k : Nat} {x : Tk} (hx : ls[k]? = some x) (v : Int) : RdK (w.setCell ⟨G, k * 3 + 1, none⟩ (.int .i64 v)) (some ⟨G, 0, none⟩) (ls.set k ⟨x.per, v, x.skip⟩) := by
  have hk := (List.getElem?_eq_some_iff.1 hx).1
  intro j y hy
  rw [List.getElem?_set] at hy
  refine ⟨G, 0, rfl, ?_⟩
  rw [Nat.zero_add]
  by_cases c : k = j
  · subst c
    simp [hk] at hy
    subst hy
    obtain ⟨g0, g1, g2⟩ := cellsTk_get ls k x hx
    refine ⟨?_, ?_, ?_⟩
    · rw [World.cell?_setCell_other _ _ _ _ (by intro e'; simp only [Addr.mk.injEq] at e'; omega)]
      exact h.cell _ _ g0
    · exact World.cell?_setCell_same _ _ _ (h.cell _ _ g1)
    · rw [World.cell?_setCell_other _ _ _ _ (by intro e'; simp only [Addr.mk.injEq] at e'; omega)]
      exact h.cell _ _ g2
  · simp [c] at hy
    obtain ⟨g0, g1, g2⟩ := cellsTk_get ls j y hy
    refine ⟨?_, ?_, ?_⟩
    · rw [World.cell?_setCell_other _ _ _ _ (by intro e'; simp only [Addr.mk.injEq] at e'; omega)]
      exact h.cell _ _ g0
    · rw [World.cell?_setCell_other _ _ _ _ (by intro e'; simp only [Addr.mk.injEq] at e'; omega)]
      exact h.cell _ _ g1
    · rw [World.cell?_setCell_other _ _ _ _ (by intro e'; simp only [Addr.mk.injEq] at e'; omega)]
      exact h.cell _ _ g2
set_option maxHeartbeats 12800000 in
set_option maxRecDepth 100000 in
theorem DemandFrames_ret (A : Option Addr) (cap : Nat) (l : List Tk) (long at_ : Int) (w : World) (hlc : l.length ≤ cap) (hcap : cap ≤ 9223372036854775807) (hR : RdK w A l) (hf : fitB long = true) (hat : fitB at_ = true) :
    Calls Try.prog 5 #[.slice A l.length cap, .int .i64 long, .int .i64 at_] w (RetB (.bool true) w) := by
  obtain ⟨i0, hi0, hz0, hz1, hz2⟩ := info_parts Try.infoTk
  have A0 := Lib.hid awake11_any
  obtain ⟨n, hl⟩ : ∃ n, l.length = n := ⟨_, rfl⟩
  have hx : n ≤ 9223372036854775807 := by omega
  by_cases hgo : n ≤ 6 ∧ 0 ≤ long ∧ long ≤ 2000 ∧ 0 ≤ at_
  · obtain ⟨h6, hl0, hl1, ha0⟩ := hgo
    have t1 : decide ((n : Int) > 6) = false := decide_eq_false (by omega)
    have t2 : decide (long < 0) = false := decide_eq_false (by omega)
    have t3 : decide (long > 2000) = false := decide_eq_false (by omega)
    have t4 : decide (at_ < 0) = false := decide_eq_false (by omega)
    obtain ⟨v, hv⟩ : ∃ v, frameN l = v := ⟨_, rfl⟩
    obtain ⟨e, he⟩ : ∃ e, frameE l = e := ⟨_, rfl⟩
    have F1 : Hid (∀ w', Below w.heap.size w w' → Calls Try.prog 8 #[.slice A n cap] w' (RetB (.tuple #[.int .i64 v, .int .i64 e]) w')) := fun w' hb => hl ▸ dframe_any A cap l v e w' hcap hlc (hR.below hb) hv he
    by_cases hstop : e = 0 ∧ v ≤ 2000
    · obtain ⟨rfl, hv2⟩ := hstop
      have hv1 : 1 ≤ v := by have := (frame_props he).2.1; omega
      have s1 : decide (v > 2000) = false := decide_eq_false (by omega)
      obtain ⟨p, hp⟩ : ∃ p, long + v = p := ⟨_, rfl⟩
      have hadd := all_add he hl0 (by omega)
      rw [hv, hp] at hadd
      obtain ⟨a1, ha1⟩ : ∃ a, allZ l p = a := ⟨_, rfl⟩
      obtain ⟨a2, ha2⟩ : ∃ a, allZ l long = a := ⟨_, rfl⟩
      obtain ⟨a3, ha3⟩ : ∃ a, allZ l v = a := ⟨_, rfl⟩
      have hl20 : l.length ≤ 20 := by omega
      have hb2 := sumO_bound l long
      have hb3 := sumO_bound l v
      rw [allZ_small hl20] at ha2 ha3
      rw [ha2] at hb2
      rw [ha3] at hb3
      rw [← allZ_small hl20] at ha2 ha3
      rw [ha1, ha2, ha3] at hadd
      have e5 : wrap64 (long + v) = p := by unfold wrap64; omega
      have e5' : IntKind.i64.wrap (long + v) = p := by rw [IntKind.wrap_i64]; omega
      have e6 : wrap64 (a2 + a3) = a1 := by unfold wrap64; omega
      have e6' : IntKind.i64.wrap (a2 + a3) = a1 := by rw [IntKind.wrap_i64]; omega
      have e7 : (a1 != a1) = false := by simp
      have D : Hid (∀ (s a : Int) (w' : World), Below w.heap.size w w' → fitB s = true → allZ l s = a → Calls Try.prog 12 #[.slice A n cap, .int .i64 s] w' (RetB (.int .i64 a) w')) := fun s a w' hb h1 h2 => hl ▸ dall_any A cap l s a w' hcap hlc h1 (hR.below hb) h2
      have D1 : Hid (∀ w', Below w.heap.size w w' → Calls Try.prog 12 #[.slice A n cap, .int .i64 p] w' (RetB (.int .i64 a1) w')) := fun w' hb => D.out p a1 w' hb (fitB_true ⟨by omega, by omega⟩) ha1
      have D2 : Hid (∀ w', Below w.heap.size w w' → Calls Try.prog 12 #[.slice A n cap, .int .i64 long] w' (RetB (.int .i64 a2) w')) := fun w' hb => D.out long a2 w' hb hf ha2
      have D3 : Hid (∀ w', Below w.heap.size w w' → Calls Try.prog 12 #[.slice A n cap, .int .i64 v] w' (RetB (.int .i64 a3) w')) := fun w' hb => D.out v a3 w' hb (fitB_true ⟨by omega, by omega⟩) ha3
      obtain ⟨g, hg⟩ : ∃ g, holdsB l = g := ⟨_, rfl⟩
      have H1 : Hid (∀ w', Below w.heap.size w w' → Calls Try.prog 9 #[.slice A n cap] w' (RetB (.tuple #[.bool g, .int .i64 0]) w')) := fun w' hb => hl ▸ dholds_any A cap l g 0 w' hcap hlc (hR.below hb) hg he
      have hnil : Hid (n = 0 → g = true) := fun h => by
        have : l = [] := List.eq_nil_of_length_eq_zero (by omega)
        subst this
        rw [← hg]; exact holds_nil
      have M : Hid (g = true → ∀ (ls : List Tk) (m : Nat), holdsB ls = true → ls.length = m → ∀ (A' : Option Addr) (c : Nat) (w' : World), m ≤ c → c ≤ 9223372036854775807 → RdK w' A' ls → Calls Try.prog 9 #[.slice A' m c] w' (RetB (.tuple #[.bool true, .int .i64 0]) w')) := fun _ ls m h1 h2 A' c w' h3 h4 h5 => by
        subst h2
        exact dholds_any A' c ls true 0 w' h4 h3 h5 h1 (holdsB_iff.1 h1).1
      have H := Lib.hid (And.intro hl (And.intro hR hg))
      rw [hl] at hlc ⊢
      clear hl hR hf hat hv he hp hadd ha1 ha2 ha3 hl20 hb2 hb3 hg D hv1
      go_enter Try.func5, Try.ntmps5
      go_wp2_with fail
      refine (A0.out _).mono ?_; rintro x w0 ⟨rfl, b0⟩
      replace b0 := Lib.hid b0
      clear A0
      go_wp2_with fail
      refine (F1.out _ b0.out).mono ?_; rintro x w1 ⟨rfl, b1⟩
      replace b1 := Lib.hid (below_on b0.out b1)
      clear F1 b0
      go_wp2_with fail
      refine (D1.out _ b1.out).mono ?_; rintro x w2 ⟨rfl, b2⟩
      replace b2 := Lib.hid (below_on b1.out b2)
      clear D1 b1
      go_wp2_with fail
      refine (D2.out _ b2.out).mono ?_; rintro x w3 ⟨rfl, b3⟩
      replace b3 := Lib.hid (below_on b2.out b3)
      clear D2 b2
      go_wp2_with fail
      refine (D3.out _ b3.out).mono ?_; rintro x w4 ⟨rfl, b4⟩
      replace b4 := Lib.hid (below_on b3.out b4)
      clear D3 b3
      go_wp2_with fail
      refine (H1.out _ b4.out).mono ?_; rintro x w5 ⟨rfl, b5⟩
      replace b5 := Lib.hid (below_on b4.out b5)
      clear H1 b4 e5 e5' e6 e6' e7 t1 t2 t3 t4 s1
      cases g
      · have hz : ((n : Int) == 0) = false := by
          rw [beq_eq_false_iff_ne]
          intro h
          exact absurd (hnil.out (by omega)) (by decide)
        clear hnil M H
        go_wp2
        go_ret
        exact ⟨rfl, by have s0 := b5.out.size; (try simp only [World.heap_drewN, World.size_alloc] at s0); repeat (first | exact Below.refl _ _ | exact b5.out | refine Below.trans ?_ (Below.mono b5.out (by first | omega | (simp; done) | (simp; omega))) | refine Below.setCell ?_ (by first | omega | (simp; done) | (simp; omega)) _ | refine below_dN ?_ _ | refine Below.drew ?_ | refine Below.alloc ?_ (by first | omega | (simp; done) | (simp; omega)) _)⟩
      · by_cases h0 : n = 0
        · have hz : ((n : Int) == 0) = true := by rw [beq_iff_eq]; omega
          clear hnil M H
          go_wp2
          go_ret
          exact ⟨rfl, by have s0 := b5.out.size; (try simp only [World.heap_drewN, World.size_alloc] at s0); repeat (first | exact Below.refl _ _ | exact b5.out | refine Below.trans ?_ (Below.mono b5.out (by first | omega | (simp; done) | (simp; omega))) | refine Below.setCell ?_ (by first | omega | (simp; done) | (simp; omega)) _ | refine below_dN ?_ _ | refine Below.drew ?_ | refine Below.alloc ?_ (by first | omega | (simp; done) | (simp; omega)) _)⟩
        · have hz : ((n : Int) == 0) = false := by rw [beq_eq_false_iff_ne]; omega
          obtain ⟨k, hkk⟩ : ∃ k : Nat, at_.toNat % n = k := ⟨_, rfl⟩
          have hkl : k < n := by rw [← hkk]; exact Nat.mod_lt _ (by omega)
          have e1 : at_ % (n : Int) = (k : Int) := by
            obtain ⟨q, rfl⟩ := Int.eq_ofNat_of_zero_le ha0
            rw [← hkk]
            simp
          have e0 : at_.tmod (n : Int) = (k : Int) := by rw [Int.tmod_eq_emod_of_nonneg ha0, e1]
          have e2 : ¬ (n : Int) = 0 := by omega
          obtain ⟨x, hxk⟩ : ∃ x, l[k]? = some x := ⟨_, List.getElem?_eq_getElem (by rw [H.out.1]; exact hkl)⟩
          obtain ⟨b, off, rfl, _⟩ := H.out.2.1 k x hxk
          have bd : Hid (Below w.heap.size w w5.drew) := b5.out.drew
          have hRb : Hid (RdK w5.drew (some ⟨b, off, none⟩) l) := H.out.2.1.below bd.out
          obtain ⟨p2, hp2⟩ : ∃ p, k + 1 = p := ⟨_, rfl⟩
          have hs1 := fun w' => slice_lowK b off n cap k (Nat.le_of_lt hkl) hlc hcap w'
          have hs2 := fun w' => slice_highK b off n cap p2 (by clear e1 e0; omega) hlc hcap w'
          have e5 : IntKind.i64.wrap ((k : Int) + 1) = (p2 : Int) := by rw [IntKind.wrap_i64]; clear e1 e0; omega
          have M1 := Lib.hid (M.out rfl (l.take k ++ l.drop (k + 1)) (n - 1) (holds_drop H.out.2.2 k) (by rw [List.length_append, List.length_take, List.length_drop, H.out.1]; clear e1 e0 e5; omega))
          have M2 := Lib.hid (M.out rfl l n H.out.2.2 H.out.1)
          have M3 : Hid (1 < x.need → ∀ (A' : Option Addr) (c : Nat) (w' : World), n ≤ c → c ≤ 9223372036854775807 → RdK w' A' (l.set k ⟨x.per, x.need - 1, x.skip⟩) → Calls Try.prog 9 #[.slice A' n c] w' (RetB (.tuple #[.bool true, .int .i64 0]) w')) := fun h => M.out rfl (l.set k ⟨x.per, x.need - 1, x.skip⟩) n (holds_less H.out.2.2 hxk h) (by rw [List.length_set, H.out.1])
          have hxn : Hid (-9223372036854775808 < x.need ∧ x.need ≤ 1000) := by
            have hgood := (holdsB_iff.1 H.out.2.2).1
            have hmem := List.all_eq_true.1 (Bool.and_eq_true_iff.1 (tasksB_eq l ▸ (frameE_iff.1 hgood).1)).2 x (List.mem_of_getElem? hxk)
            have := (tk_iff.1 hmem).2.1
            show _ ∧ _
            clear e1 e0 e5
            omega
          have H2 := Lib.hid (And.intro H.out.1 hxk)
          have hsrc : Hid (∀ w', Below w.heap.size w w' → ∀ j u, (cellsTk l)[j]? = some u → w'.cell? ⟨b, off + j, none⟩ = some u) := fun w' hb => cellsTk_src (H.out.2.1.below hb)
          clear hkk M b5 hxk hnil
          go_wp2
          refine wp_region_held_drew (S := fun _ => True) (by kernel_rfl) trivial (fun hHeld => ?_)
          generalize w5.drew = wB at *
          obtain ⟨v2, y2, v3, y3, r2, r3, ⟨A', c', rfl, h1, h2, h3⟩, hb3⟩ := dropK b off cap n k l wB H.out.1 (by clear e1 e0 e5; omega) hkl hlc hRb.out
          rw [hp2] at r3
          have bf := Lib.hid (below_on bd.out hb3)
          have C := Lib.hid (M1.out A' c' y3 h1 h2 h3)
          clear M1 h1 h2 h3 hb3 hRb bd H
          generalize Value.slice (if cap = p2 then some (⟨b, off, none⟩ : Addr) else some ⟨b, off + p2 * 3, none⟩) (n - p2) (cap - p2) = src2 at *
          replace r2 := Lib.hid r2
          replace r3 := Lib.hid r3
          refine wpAnyH_take (i := 1) (v := (.slice (some ⟨b, off, none⟩) n cap)) rfl (by kernel_rfl) (by kernel_rfl) (by kernel_rfl) (fun _ _ _ h => h) (Or.inl ⟨by rfl, ?_⟩) hHeld ?_
          · intro w hSw; go_simp
          try simp only [List.getElem_toArray, List.getElem_cons_zero, List.getElem_cons_succ, Act.put, List.setIfInBounds_toArray, List.set_cons_zero, List.set_cons_succ]
          refine wpAnyH_take (i := 2) (v := (.int .i64 (k : Int))) rfl (by kernel_rfl) (by kernel_rfl) (by kernel_rfl) (fun _ _ _ h => h) (Or.inl ⟨by rfl, ?_⟩) hHeld ?_
          · intro w hSw; go_simp
          try simp only [List.getElem_toArray, List.getElem_cons_zero, List.getElem_cons_succ, Act.put, List.setIfInBounds_toArray, List.set_cons_zero, List.set_cons_succ]
          refine wpAnyH_take (i := 3) (v := (.slice (some ⟨b, off, none⟩) k cap)) rfl (by kernel_rfl) (by kernel_rfl) (by kernel_rfl) (fun _ _ _ h => h) (Or.inl ⟨by rfl, ?_⟩) hHeld ?_
          · intro w hSw; go_simp
          try simp only [List.getElem_toArray, List.getElem_cons_zero, List.getElem_cons_succ, Act.put, List.setIfInBounds_toArray, List.set_cons_zero, List.set_cons_succ]
          refine wpAnyH_take (i := 5) (v := (.slice (some ⟨b, off, none⟩) n cap)) rfl (by kernel_rfl) (by kernel_rfl) (by kernel_rfl) (fun _ _ _ h => h) (Or.inl ⟨by rfl, ?_⟩) hHeld ?_
          · intro w hSw; go_simp
          try simp only [List.getElem_toArray, List.getElem_cons_zero, List.getElem_cons_succ, Act.put, List.setIfInBounds_toArray, List.set_cons_zero, List.set_cons_succ]
          refine wpAnyH_take (i := 6) (v := (.int .i64 (k : Int))) rfl (by kernel_rfl) (by kernel_rfl) (by kernel_rfl) (fun _ _ _ h => h) (Or.inl ⟨by rfl, ?_⟩) hHeld ?_
          · intro w hSw; go_simp
          try simp only [List.getElem_toArray, List.getElem_cons_zero, List.getElem_cons_succ, Act.put, List.setIfInBounds_toArray, List.set_cons_zero, List.set_cons_succ]
          refine wpAnyH_take (i := 7) (v := (.int .i64 (p2 : Int))) rfl (by kernel_rfl) (by kernel_rfl) (by kernel_rfl) (fun _ _ _ h => h) (Or.inl ⟨by rfl, ?_⟩) hHeld ?_
          · intro w hSw; go_simp
          try simp only [List.getElem_toArray, List.getElem_cons_zero, List.getElem_cons_succ, Act.put, List.setIfInBounds_toArray, List.set_cons_zero, List.set_cons_succ]
          refine wpAnyH_take (i := 8) (v := src2) rfl (by kernel_rfl) (by kernel_rfl) (by kernel_rfl) (fun _ _ _ h => h) (Or.inl ⟨by rfl, ?_⟩) hHeld ?_
          · intro w hSw; go_simp
          try simp only [List.getElem_toArray, List.getElem_cons_zero, List.getElem_cons_succ, Act.put, List.setIfInBounds_toArray, List.set_cons_zero, List.set_cons_succ]
          refine wpAnyH_ready (rs := [0]) (by kernel_rfl) (by simp) ?_
          refine AllReadyH.cons rfl (fun K hK => ?_) AllReadyH.nil
          clear hHeld
          go_simp
          refine hK.out _ _ trivial (fun hHeld => ?_)
          clear hK K
          try simp only [List.getElem_toArray, List.getElem_cons_zero, List.getElem_cons_succ, Act.put, List.setIfInBounds_toArray, List.set_cons_zero, List.set_cons_succ]
          refine wpAnyH_ready (rs := [4]) (by kernel_rfl) (by simp) ?_
          refine AllReadyH.cons rfl (fun K hK => ?_) AllReadyH.nil
          clear hHeld
          refine step_appendK rfl (.tmp 84) (.tmp 87) 28 28 rfl (.slice (some ⟨wB.heap.size, 0, none⟩) 0 0) (.slice (some ⟨b, off, none⟩) k cap) (by rfl) (by rfl) r2.out ?_
          refine hK.out _ _ trivial (fun hHeld => ?_)
          clear hK K
          try simp only [List.getElem_toArray, List.getElem_cons_zero, List.getElem_cons_succ, Act.put, List.setIfInBounds_toArray, List.set_cons_zero, List.set_cons_succ]
          refine wpAnyH_ready (rs := [9]) (by kernel_rfl) (by simp) ?_
          refine AllReadyH.cons rfl (fun K hK => ?_) AllReadyH.nil
          clear hHeld
          refine step_appendK rfl (.tmp 88) (.tmp 92) 28 28 rfl v2 src2 (by rfl) (by rfl) r3.out ?_
          refine hK.out _ _ trivial (fun hHeld => ?_)
          clear hK K
          try simp only [List.getElem_toArray, List.getElem_cons_zero, List.getElem_cons_succ, Act.put, List.setIfInBounds_toArray, List.set_cons_zero, List.set_cons_succ]
          refine wpAnyH_take (i := 10) (v := (.slice A' (n - 1) c')) rfl (by kernel_rfl) (by kernel_rfl) (by kernel_rfl) (fun _ _ _ h => h) (Or.inl ⟨by rfl, ?_⟩) hHeld ?_
          · intro w hSw; go_simp
          try simp only [List.getElem_toArray, List.getElem_cons_zero, List.getElem_cons_succ, Act.put, List.setIfInBounds_toArray, List.set_cons_zero, List.set_cons_succ]
          refine wpAnyH_done (by kernel_rfl) ?_ _
          clear r2 r3 hs1 hs2 e5
          go_wp2_with fail
          refine C.out.mono ?_; rintro z w6 ⟨rfl, b6⟩
          replace b6 := Lib.hid (below_on bf.out b6)
          clear C bf
          have bm : Below w6.heap.size w6 (w6.alloc (.cells #[] 27)) := (Below.refl _ _).alloc (Nat.le_refl _) _
          have S6 := Lib.hid (hsrc.out _ (below_on b6.out bm))
          have hsz : Hid (w.heap.size ≤ w6.heap.size) := b6.out.size
          have hcl : Hid ((cellsTk l).length = n * 3) := by show _ = _; rw [cellsTk_length, H2.out.1]
          clear bm hsrc
          go_wp2_with (at_builtin; refine wpList_append_own _ rfl _ _ 28 rfl w6.heap.size 27 i0 (.agg #[.int .i64 0, .int .i64 0, .int .i64 0]) 3 24 Try.underlying28 hi0 hz0 hz1 hz2 rfl (by decide) _ _ _ rfl (World.ownsRow_made w6 #[] 0 (Nat.le_refl _) (Nat.zero_le _) (by simp)) ⟨b, off, none⟩ n cap (cellsTk l) rfl hcl.out (fun j u hj => by rw [Addr.add_lit]; exact S6.out j u hj) (cellsTk_ones l) (by unfold maxLen; clear e1 e0; omega) (by clear e1 e0; omega) (by simp) ?_)
          intro v' w7 hown hgrow hnil
          have b7 : Hid (Below w6.heap.size w6 w7) := ((Below.refl _ w6).alloc (Nat.le_refl _) _).grown hgrow (by simp) (by intro k hk; simp [Value.ownBlock] at hk; clear e1 e0; omega)
          obtain ⟨G, c7, rfl, j1, j2, j3, O⟩ := OwnK.of_own (w := w7) (base := w6.heap.size) (n := n) (l := l) (by simpa using hown) (by clear e1 e0; omega)
          have b77 : Hid (Below w.heap.size w w7) := below_on b6.out b7.out
          obtain ⟨g0, g1, g2⟩ := cellsTk_get l k x H2.out.2
          have f1 := O.cell _ _ g1
          have f2 : w7.frozen? ⟨G, k * 3 + 1, none⟩ = false := O.frz _ (by rw [H2.out.1]; clear e1 e0; omega)
          have q1 : (k : Int) < (n : Int) := by clear e1 e0; omega
          have OL : Hid (RdK w7 (some ⟨G, 0, none⟩) l ∧ RdK (w7.setCell ⟨G, k * 3 + 1, none⟩ (.int .i64 (x.need - 1))) (some ⟨G, 0, none⟩) (l.set k ⟨x.per, x.need - 1, x.skip⟩) ∧ Below w.heap.size w (w7.setCell ⟨G, k * 3 + 1, none⟩ (.int .i64 (x.need - 1)))) := ⟨O.rd, O.less H2.out.2 _, b77.out.setCell (by show w.heap.size ≤ G; have := hsz.out; clear e1 e0; omega) _⟩
          clear hown hgrow hnil O g0 g1 g2 b7 b6 hsz S6 hcl H2
          obtain ⟨xp, xn, xs⟩ := x
          simp only at f1 M3 hxn OL
          by_cases hn1 : xn > 1
          · have d1 : decide (xn > 1) = true := decide_eq_true hn1
            obtain ⟨y, hy⟩ : ∃ y, xn - 1 = y := ⟨_, rfl⟩
            have e8 : wrap64 (xn - 1) = y := by have := hxn.out; unfold wrap64; clear e1 e0; omega
            rw [hy] at OL M3
            have C := Lib.hid (M3.out hn1 (some ⟨G, 0, none⟩) c7 _ j2 j3 OL.out.2.1)
            have b9 := Lib.hid OL.out.2.2
            clear hy M2 M3 hn1 hxn OL
            go_wp2_with fail
            refine C.out.mono ?_; rintro z w8 ⟨rfl, b8⟩
            have bb := Lib.hid (below_on b9.out b8)
            clear C b8 b9
            go_wp2
            go_ret
            exact ⟨rfl, by have s0 := bb.out.size; (try simp only [World.heap_drewN, World.size_alloc] at s0); repeat (first | exact Below.refl _ _ | exact bb.out | refine Below.trans ?_ (Below.mono bb.out (by first | omega | (simp; done) | (simp; omega))) | refine Below.setCell ?_ (by first | omega | (simp; done) | (simp; omega)) _ | refine below_dN ?_ _ | refine Below.drew ?_ | refine Below.alloc ?_ (by first | omega | (simp; done) | (simp; omega)) _)⟩
          · have d1 : decide (xn > 1) = false := decide_eq_false hn1
            have C := Lib.hid (M2.out (some ⟨G, 0, none⟩) c7 w7 j2 j3 OL.out.1)
            clear M2 M3 hn1 hxn OL
            go_wp2_with fail
            refine C.out.mono ?_; rintro z w8 ⟨rfl, b8⟩
            have bb := Lib.hid (below_on b77.out b8)
            clear C b8 b77
            go_wp2
            go_ret
            exact ⟨rfl, by have s0 := bb.out.size; (try simp only [World.heap_drewN, World.size_alloc] at s0); repeat (first | exact Below.refl _ _ | exact bb.out | refine Below.trans ?_ (Below.mono bb.out (by first | omega | (simp; done) | (simp; omega))) | refine Below.setCell ?_ (by first | omega | (simp; done) | (simp; omega)) _ | refine below_dN ?_ _ | refine Below.drew ?_ | refine Below.alloc ?_ (by first | omega | (simp; done) | (simp; omega)) _)⟩
    · rw [hl] at hlc ⊢
      obtain ⟨ez, hez⟩ : ∃ z, (e != 0) = z := ⟨_, rfl⟩
      have hh : (e != 0) = true ∨ (e != 0) = false ∧ decide (v > 2000) = true := by
        by_cases c : e = 0
        · refine .inr ⟨by rw [bne, beq_iff_eq.2 c]; rfl, decide_eq_true ?_⟩
          rcases Int.lt_or_le 2000 v with h | h
          · exact h
          · exact absurd ⟨c, h⟩ hstop
        · exact .inl (by rw [bne, beq_eq_false_iff_ne.2 c]; rfl)
      clear hez hstop hl hR hf hat hv he hl0 hl1 ha0
      rcases hh with k1 | ⟨k1, k2⟩
      all_goals
        go_enter Try.func5, Try.ntmps5
        go_wp2_with fail
        refine (A0.out _).mono ?_; rintro x w0 ⟨rfl, b0⟩
        replace b0 := Lib.hid b0
        clear A0
        go_wp2_with fail
        refine (F1.out _ b0.out).mono ?_; rintro x w1 ⟨rfl, b1⟩
        replace b1 := Lib.hid (below_on b0.out b1)
        clear F1 b0
        go_wp2
        go_ret
        exact ⟨rfl, by have s0 := b1.out.size; (try simp only [World.heap_drewN, World.size_alloc] at s0); repeat (first | exact Below.refl _ _ | exact b1.out | refine Below.trans ?_ (Below.mono b1.out (by first | omega | (simp; done) | (simp; omega))) | refine Below.setCell ?_ (by first | omega | (simp; done) | (simp; omega)) _ | refine below_dN ?_ _ | refine Below.drew ?_ | refine Below.alloc ?_ (by first | omega | (simp; done) | (simp; omega)) _)⟩
  · rw [hl] at hlc ⊢
    clear hl hR hf hat
    go_enter Try.func5, Try.ntmps5
    go_wp2_with fail
    refine (A0.out _).mono ?_; rintro x w0 ⟨rfl, b0⟩
    replace b0 := Lib.hid b0
    clear A0
    by_cases k1 : ¬ ((n : Int) ≤ 6)
    · have k1' : decide ((n : Int) ≤ 6) = false := decide_eq_false k1
      have d0 : decide ((n : Int) > 6) = true := decide_eq_true (by omega)
      clear hgo k1 k1'
      go_wp2
      go_ret
      exact ⟨rfl, by have s0 := b0.out.size; (try simp only [World.heap_drewN, World.size_alloc] at s0); repeat (first | exact Below.refl _ _ | exact b0.out | refine Below.trans ?_ (Below.mono b0.out (by first | omega | (simp; done) | (simp; omega))) | refine Below.setCell ?_ (by first | omega | (simp; done) | (simp; omega)) _ | refine below_dN ?_ _ | refine Below.drew ?_ | refine Below.alloc ?_ (by first | omega | (simp; done) | (simp; omega)) _)⟩
    replace k1 : (n : Int) ≤ 6 := Classical.not_not.1 k1
    have d0 : decide ((n : Int) > 6) = false := decide_eq_false (by omega)
    by_cases k2 : long < 0
    · have d2 : decide (long < 0) = true := decide_eq_true k2
      clear hgo k1
      go_wp2
      go_ret
      exact ⟨rfl, by have s0 := b0.out.size; (try simp only [World.heap_drewN, World.size_alloc] at s0); repeat (first | exact Below.refl _ _ | exact b0.out | refine Below.trans ?_ (Below.mono b0.out (by first | omega | (simp; done) | (simp; omega))) | refine Below.setCell ?_ (by first | omega | (simp; done) | (simp; omega)) _ | refine below_dN ?_ _ | refine Below.drew ?_ | refine Below.alloc ?_ (by first | omega | (simp; done) | (simp; omega)) _)⟩
    · have d2 : decide (long < 0) = false := decide_eq_false k2
      by_cases k3 : long > 2000
      · have d3 : decide (long > 2000) = true := decide_eq_true k3
        clear hgo k1
        go_wp2
        go_ret
        exact ⟨rfl, by have s0 := b0.out.size; (try simp only [World.heap_drewN, World.size_alloc] at s0); repeat (first | exact Below.refl _ _ | exact b0.out | refine Below.trans ?_ (Below.mono b0.out (by first | omega | (simp; done) | (simp; omega))) | refine Below.setCell ?_ (by first | omega | (simp; done) | (simp; omega)) _ | refine below_dN ?_ _ | refine Below.drew ?_ | refine Below.alloc ?_ (by first | omega | (simp; done) | (simp; omega)) _)⟩
      · have d3 : decide (long > 2000) = false := decide_eq_false k3
        have k4 : at_ < 0 := by
          rcases Int.lt_or_le at_ 0 with h | h
          · exact h
          · exact absurd ⟨by omega, by omega, by omega, h⟩ hgo
        have d4 : decide (at_ < 0) = true := decide_eq_true k4
        clear hgo k1
        go_wp2
        go_ret
        exact ⟨rfl, by have s0 := b0.out.size; (try simp only [World.heap_drewN, World.size_alloc] at s0); repeat (first | exact Below.refl _ _ | exact b0.out | refine Below.trans ?_ (Below.mono b0.out (by first | omega | (simp; done) | (simp; omega))) | refine Below.setCell ?_ (by first | omega | (simp; done) | (simp; omega)) _ | refine below_dN ?_ _ | refine Below.drew ?_ | refine Below.alloc ?_ (by first | omega | (simp; done) | (simp; omega)) _)⟩
end Go.Proofs.Ytmokbmhobglhfaa
