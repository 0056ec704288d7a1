/- Package demand: tasks in memory; within, Good, Of, turn, legal, All. -/
import Derived.Test.YtmokbmhobglhfaaDmMath
import Derived.Test.YtmokbmhobglhfaaNumLcm
import Derived.Test.YtmokbmhobglhfaaOwn
namespace Go.Proofs.Ytmokbmhobglhfaa
open Go.RowKit Go.Lib
set_option linter.unusedVariables false
set_option linter.unusedSimpArgs false

/-- The cells at A hold these tasks, three cells each. -/
def RdK (w : World) (A : Option Addr) (l : List Tk) : Prop := ∀ (k : Nat) (x : Tk), l[k]? = some x → ∃ b off, A = some ⟨b, off, none⟩ ∧ w.cell? ⟨b, off + k * 3, none⟩ = some (.int .i64 x.per) ∧ w.cell? ⟨b, off + k * 3 + 1, none⟩ = some (.int .i64 x.need) ∧ w.cell? ⟨b, off + k * 3 + 2, none⟩ = some (.int .i64 x.skip)
theorem RdK.below {w w' : World} {A : Option Addr} {l : List Tk} (h : RdK w A l) (hb : Below w.heap.size w w') : RdK w' A l := by
  intro k x hx
  obtain ⟨b, off, rfl, h0, h1, h2⟩ := h k x hx
  exact ⟨b, off, rfl, by rw [hb.cell (p := ⟨b, off + k * 3, none⟩) (cell_lt h0)]; exact h0, by rw [hb.cell (p := ⟨b, off + k * 3 + 1, none⟩) (cell_lt h1)]; exact h1, by rw [hb.cell (p := ⟨b, off + k * 3 + 2, none⟩) (cell_lt h2)]; exact h2⟩
theorem dwithin_any (n a b : Int) (g : Bool) (w : World) (h : (decide (a ≤ n) && decide (n ≤ b)) = g) : Calls Try.prog 22 #[.int .i64 n, .int .i64 a, .int .i64 b] w (Ret (.bool g) w) := by
  by_cases h1 : a ≤ n
  · have d1 : decide (a ≤ n) = true := decide_eq_true h1
    rw [d1, Bool.true_and] at h
    go_enter Try.func22, Try.ntmps22
    go_wp2
    go_ret
    exact ⟨by first | rfl | exact ret_b h, 0, rfl⟩
  · have d1 : decide (a ≤ n) = false := decide_eq_false h1
    rw [d1, Bool.false_and] at h
    subst h
    go_enter Try.func22, Try.ntmps22
    go_wp2
    go_ret
    first | exact ⟨rfl, 0, rfl⟩ | exact ⟨rfl, _, rfl⟩
set_option maxHeartbeats 1600000 in
theorem dgood_any (x : Tk) (g : Bool) (w : World) (hg : x.good = g) : Calls Try.prog 11 #[.agg #[.int .i64 x.per, .int .i64 x.need, .int .i64 x.skip]] w (RetB (.bool g) w) := by
  unfold Tk.good at hg
  obtain ⟨p, n, s⟩ := x
  simp only at hg ⊢
  obtain ⟨q1, h1⟩ : ∃ q, (decide (1 ≤ p) && decide (p ≤ 10000)) = q := ⟨_, rfl⟩
  obtain ⟨q2, h2⟩ : ∃ q, (decide (1 ≤ n) && decide (n ≤ 1000)) = q := ⟨_, rfl⟩
  obtain ⟨q3, h3⟩ : ∃ q, (decide (2 ≤ s) && decide (s ≤ 1000)) = q := ⟨_, rfl⟩
  rw [h1, h2, h3] at hg
  have C1 := Lib.hid (dwithin_any p 1 10000 q1 · h1)
  have C2 := Lib.hid (dwithin_any n 1 1000 q2 · h2)
  have C3 := Lib.hid (dwithin_any s 2 1000 q3 · h3)
  clear h1 h2 h3
  cases q1
  · obtain rfl : false = g := hg
    go_enter Try.func11, Try.ntmps11
    go_wp2_with fail
    refine (C1.out _).mono ?_; rintro e w' ⟨rfl, n1, rfl⟩
    go_wp2
    go_ret
    exact ⟨rfl, by repeat (first | exact Below.refl _ _ | refine Below.setCell ?_ (by first | omega | (simp; done) | (simp; omega)) _ | refine below_dN ?_ _ | refine Below.drew ?_ | refine Below.alloc ?_ (by first | omega | (simp; done) | (simp; omega)) _)⟩
  · cases q2
    · obtain rfl : false = g := hg
      go_enter Try.func11, Try.ntmps11
      go_wp2_with fail
      refine (C1.out _).mono ?_; rintro e w' ⟨rfl, n2, rfl⟩
      go_wp2_with fail
      refine (C2.out _).mono ?_; rintro e w' ⟨rfl, n3, rfl⟩
      go_wp2
      go_ret
      exact ⟨rfl, by repeat (first | exact Below.refl _ _ | refine Below.setCell ?_ (by first | omega | (simp; done) | (simp; omega)) _ | refine below_dN ?_ _ | refine Below.drew ?_ | refine Below.alloc ?_ (by first | omega | (simp; done) | (simp; omega)) _)⟩
    · rw [Bool.true_and, Bool.true_and] at hg
      by_cases hs : s = 0
      · have k : (s == 0) = true := beq_iff_eq.2 hs
        rw [decide_eq_true hs, Bool.true_or] at hg
        subst hg
        clear hs
        go_enter Try.func11, Try.ntmps11
        go_wp2_with fail
        refine (C1.out _).mono ?_; rintro e w' ⟨rfl, n4, rfl⟩
        go_wp2_with fail
        refine (C2.out _).mono ?_; rintro e w' ⟨rfl, n5, rfl⟩
        go_wp2
        go_ret
        exact ⟨rfl, by repeat (first | exact Below.refl _ _ | refine Below.setCell ?_ (by first | omega | (simp; done) | (simp; omega)) _ | refine below_dN ?_ _ | refine Below.drew ?_ | refine Below.alloc ?_ (by first | omega | (simp; done) | (simp; omega)) _)⟩
      · have k : (s == 0) = false := beq_eq_false_iff_ne.2 hs
        rw [decide_eq_false hs, Bool.false_or] at hg
        subst hg
        clear hs
        go_enter Try.func11, Try.ntmps11
        go_wp2_with fail
        refine (C1.out _).mono ?_; rintro e w' ⟨rfl, n6, rfl⟩
        go_wp2_with fail
        refine (C2.out _).mono ?_; rintro e w' ⟨rfl, n7, rfl⟩
        go_wp2_with fail
        refine (C3.out _).mono ?_; rintro e w' ⟨rfl, n8, rfl⟩
        go_wp2
        go_ret
        exact ⟨rfl, by repeat (first | exact Below.refl _ _ | refine Below.setCell ?_ (by first | omega | (simp; done) | (simp; omega)) _ | refine below_dN ?_ _ | refine Below.drew ?_ | refine Below.alloc ?_ (by first | omega | (simp; done) | (simp; omega)) _)⟩
theorem unit_if (t : Tk) : t.unit = if t.skip = 0 then t.per else t.per * t.skip := rfl
set_option maxHeartbeats 1600000 in
theorem dturn_any (x : Tk) (v : Int) (w : World) (hg : x.good = true) (hv : x.unit = v) : Calls Try.prog 20 #[.agg #[.int .i64 x.per, .int .i64 x.need, .int .i64 x.skip]] w (RetB (.int .i64 v) w) := by
  have hu := unit_pos hg
  obtain ⟨⟨p1, p2⟩, _, hs⟩ := tk_iff.1 hg
  rw [unit_if] at hv hu
  obtain ⟨p, n, s⟩ := x
  simp only at hv hu p1 p2 hs ⊢
  by_cases h0 : s = 0
  · have k : (s == 0) = true := beq_iff_eq.2 h0
    rw [if_pos h0] at hv
    subst hv
    clear h0 hg hs
    go_enter Try.func20, Try.ntmps20
    go_wp2
    go_ret
    exact ⟨rfl, by repeat (first | exact Below.refl _ _ | refine Below.setCell ?_ (by first | omega | (simp; done) | (simp; omega)) _ | refine below_dN ?_ _ | refine Below.drew ?_ | refine Below.alloc ?_ (by first | omega | (simp; done) | (simp; omega)) _)⟩
  · have k : (s == 0) = false := beq_eq_false_iff_ne.2 h0
    rw [if_neg h0] at hv hu
    have e : wrap64 (p * s) = v := by rw [← hv]; unfold wrap64; omega
    clear h0 hg hs hv hu
    go_enter Try.func20, Try.ntmps20
    go_wp2
    go_ret
    exact ⟨by first | rfl | exact ret_i e, by repeat (first | exact Below.refl _ _ | refine Below.setCell ?_ (by first | omega | (simp; done) | (simp; omega)) _ | refine below_dN ?_ _ | refine Below.drew ?_ | refine Below.alloc ?_ (by first | omega | (simp; done) | (simp; omega)) _)⟩
set_option maxHeartbeats 3200000 in
theorem dof_any (x : Tk) (long v : Int) (w : World) (hf : fitB long = true) (hv : ofZ x long = v) : Calls Try.prog 10 #[.agg #[.int .i64 x.per, .int .i64 x.need, .int .i64 x.skip], .int .i64 long] w (RetB (.int .i64 v) w) := by
  obtain ⟨f1, f2⟩ := fitB_iff.1 hf
  obtain ⟨q, hq⟩ : ∃ q, x.good = q := ⟨_, rfl⟩
  have C1 := Lib.hid (dgood_any x q · hq)
  by_cases h0 : long < 0
  · have d0 : decide (long < 0) = true := decide_eq_true h0
    obtain rfl : 0 = v := by rw [← hv]; unfold ofZ; rw [decide_eq_false (show ¬ 0 ≤ long by omega), Bool.and_false]; rfl
    clear hv hq C1 h0
    go_enter Try.func10, Try.ntmps10
    go_wp2
    go_ret
    exact ⟨rfl, by repeat (first | exact Below.refl _ _ | refine Below.setCell ?_ (by first | omega | (simp; done) | (simp; omega)) _ | refine below_dN ?_ _ | refine Below.drew ?_ | refine Below.alloc ?_ (by first | omega | (simp; done) | (simp; omega)) _)⟩
  · have d0 : decide (long < 0) = false := decide_eq_false h0
    cases q
    · obtain rfl : 0 = v := by rw [← hv]; unfold ofZ; rw [hq]; rfl
      clear hv hq h0
      go_enter Try.func10, Try.ntmps10
      go_wp2_with fail
      refine (C1.out _).mono ?_; rintro e hw ⟨rfl, h⟩
      go_wp2
      go_ret
      exact ⟨rfl, by have s0 := h.size; (try simp only [World.heap_drewN, World.size_alloc] at s0); repeat (first | exact Below.refl _ _ | exact h | refine Below.trans ?_ (Below.mono h (by first | omega | (simp; done) | (simp; omega))) | refine Below.setCell ?_ (by first | omega | (simp; done) | (simp; omega)) _ | refine below_dN ?_ _ | refine Below.drew ?_ | refine Below.alloc ?_ (by first | omega | (simp; done) | (simp; omega)) _)⟩
    · have hb := (of_bound x long)
      unfold ofZ at hv hb
      rw [hq, decide_eq_true (show 0 ≤ long by omega)] at hv hb
      simp only [Bool.and_self, if_true] at hv hb
      have hr := runs_bound hq (s := min long 1000000) (by omega)
      obtain ⟨⟨p1, p2⟩, ⟨n1, n2⟩, hs⟩ := tk_iff.1 hq
      unfold runsZ at hv hb hr
      obtain ⟨p, n, s⟩ := x
      simp only at hv hb hr p1 p2 n1 n2 hs C1 ⊢
      obtain ⟨m, hm⟩ : ∃ m, min long 1000000 = m := ⟨_, rfl⟩
      rw [hm] at hv hb hr
      have hm1 : 0 ≤ m ∧ m ≤ 1000000 := by omega
      obtain ⟨j, hj⟩ : ∃ j, m / p = j := ⟨_, rfl⟩
      rw [hj] at hv hb hr
      have pz : ¬ p = 0 := by omega
      have pz' : (p == 0) = false := beq_eq_false_iff_ne.2 pz
      have e1 : wrap64 (m.tdiv p) = j := by rw [← hj, ← IntWalk.i64_left]; exact IntWalk.i64_quo m p ⟨by omega, by omega, by omega⟩
      have hmm : m = long ∧ long ≤ 1000000 ∨ m = 1000000 ∧ ¬ long ≤ 1000000 := by omega
      by_cases hs0 : s = 0
      · rw [if_pos hs0] at hv hb hr
        have k : (s != 0) = false := by rw [bne, beq_iff_eq.2 hs0]; rfl
        have e2 : wrap64 (j * n) = v := by rw [← hv]; unfold wrap64; omega
        clear hv hb hr hj hs hs0 hq h0 p1 p2 n1 n2 hm1 hm hf f1 f2
        rcases hmm with ⟨rfl, hl⟩ | ⟨rfl, hl⟩
        all_goals
          go_enter Try.func10, Try.ntmps10
          go_wp2_with fail
          refine (C1.out _).mono ?_; rintro e hw ⟨rfl, h⟩
          have c0 : hw.cell? ⟨w.heap.size, 0, none⟩ = some (.int .i64 p) := by rw [h.cell (p := ⟨w.heap.size, 0, none⟩) (by simp)]; simp
          have c1 : hw.cell? ⟨w.heap.size, 1, none⟩ = some (.int .i64 n) := by rw [h.cell (p := ⟨w.heap.size, 1, none⟩) (by simp)]; simp
          have c2 : hw.cell? ⟨w.heap.size, 2, none⟩ = some (.int .i64 s) := by rw [h.cell (p := ⟨w.heap.size, 2, none⟩) (by simp)]; simp
          have hb := Lib.hid h; clear h
          go_wp2
          all_goals
            first
            | (exfalso; omega)
            | (go_ret
               exact ⟨by first | rfl | exact ret_i e2, by have s0 := hb.out.size; (try simp only [World.heap_drewN, World.size_alloc] at s0); repeat (first | exact Below.refl _ _ | exact hb.out | refine Below.trans ?_ (Below.mono hb.out (by first | omega | (simp; done) | (simp; omega))) | refine Below.setCell ?_ (by first | omega | (simp; done) | (simp; omega)) _ | refine below_dN ?_ _ | refine Below.drew ?_ | refine Below.alloc ?_ (by first | omega | (simp; done) | (simp; omega)) _)⟩)
      · rw [if_neg hs0] at hv hb hr
        have k : (s != 0) = true := by rw [bne, beq_eq_false_iff_ne.2 hs0]; rfl
        have sz' : (s == 0) = false := beq_eq_false_iff_ne.2 hs0
        have s1 : 2 ≤ s ∧ s ≤ 1000 := by omega
        obtain ⟨i, hi⟩ : ∃ i, j / s = i := ⟨_, rfl⟩
        have e3 : wrap64 (j.tdiv s) = i := by rw [← hi, ← IntWalk.i64_left]; exact IntWalk.i64_quo j s ⟨by omega, by omega, by omega⟩
        have hi1 : 0 ≤ i ∧ i ≤ j := ⟨by rw [← hi]; exact Int.ediv_nonneg (by omega) (by omega), by rw [← hi]; exact Int.ediv_le_self _ (by omega)⟩
        rw [hi] at hv hb hr
        obtain ⟨u, hu⟩ : ∃ u, j - i = u := ⟨_, rfl⟩
        have e4 : wrap64 (j - i) = u := by unfold wrap64; omega
        rw [hu] at hv hb
        have e2 : wrap64 (u * n) = v := by rw [← hv]; unfold wrap64; omega
        clear hv hb hr hj hs hq h0 p1 p2 n1 n2 hm1 hi hi1 hu s1 hm hf f1 f2
        rcases hmm with ⟨rfl, hl⟩ | ⟨rfl, hl⟩
        all_goals
          go_enter Try.func10, Try.ntmps10
          go_wp2_with fail
          refine (C1.out _).mono ?_; rintro e hw ⟨rfl, h⟩
          have c0 : hw.cell? ⟨w.heap.size, 0, none⟩ = some (.int .i64 p) := by rw [h.cell (p := ⟨w.heap.size, 0, none⟩) (by simp)]; simp
          have c1 : hw.cell? ⟨w.heap.size, 1, none⟩ = some (.int .i64 n) := by rw [h.cell (p := ⟨w.heap.size, 1, none⟩) (by simp)]; simp
          have c2 : hw.cell? ⟨w.heap.size, 2, none⟩ = some (.int .i64 s) := by rw [h.cell (p := ⟨w.heap.size, 2, none⟩) (by simp)]; simp
          have hb := Lib.hid h; clear h
          go_wp2
          all_goals
            first
            | (exfalso; omega)
            | (go_ret
               exact ⟨by first | rfl | exact ret_i e2, by have s0 := hb.out.size; (try simp only [World.heap_drewN, World.size_alloc] at s0); repeat (first | exact Below.refl _ _ | exact hb.out | refine Below.trans ?_ (Below.mono hb.out (by first | omega | (simp; done) | (simp; omega))) | refine Below.setCell ?_ (by first | omega | (simp; done) | (simp; omega)) _ | refine below_dN ?_ _ | refine Below.drew ?_ | refine Below.alloc ?_ (by first | omega | (simp; done) | (simp; omega)) _)⟩)
end Go.Proofs.Ytmokbmhobglhfaa
