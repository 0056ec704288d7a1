/- The document's own GoodTask, Of, All, Frame, Holds. -/
import Derived.Test.YtmokbmhobglhfaaDm3
import Derived.Test.YtmokbmhobglhfaaRef6
namespace Go.Proofs.Ytmokbmhobglhfaa
open Go.RowKit Go.Lib
set_option linter.unusedVariables false
set_option linter.unusedSimpArgs false

theorem tk_no {x : Tk} {g : Bool} (hg : x.good = g) (h : ¬ ((1 ≤ x.per ∧ x.per ≤ 10000) ∧ (1 ≤ x.need ∧ x.need ≤ 1000) ∧ (x.skip = 0 ∨ (2 ≤ x.skip ∧ x.skip ≤ 1000)))) : g = false := by
  cases g
  · rfl
  · exact absurd (tk_iff.1 hg) h
set_option maxHeartbeats 3200000 in
theorem rgoodtask_any (x : Tk) (g : Bool) (w : World) (hg : x.good = g) : Calls Try.prog 16 #[.agg #[.int .i64 x.per, .int .i64 x.need, .int .i64 x.skip]] w (RetB (.bool g) w) := by
  have T := tk_iff (t := x)
  have F := tk_no hg
  rw [hg] at T
  obtain ⟨p, n, s⟩ := x
  simp only at T F ⊢
  clear hg
  by_cases k1 : ¬ (p ≥ 1)
  · have k1' : decide (p ≥ 1) = false := decide_eq_false k1
    obtain rfl : g = false := F (by omega)
    clear T F
    go_enter Try.func16, Try.ntmps16
    go_wp2
    go_ret
    exact ⟨rfl, by repeat (first | exact Below.refl _ _ | refine Below.setCell ?_ (by first | omega | (simp; done) | (simp; omega)) _ | refine below_dN ?_ _ | refine Below.drew ?_ | refine Below.alloc ?_ (by first | omega | (simp; done) | (simp; omega)) _)⟩
  replace k1 : p ≥ 1 := Classical.not_not.1 k1
  by_cases k2 : ¬ (p ≤ 10000)
  · have k2' : decide (p ≤ 10000) = false := decide_eq_false k2
    obtain rfl : g = false := F (by omega)
    clear T F
    go_enter Try.func16, Try.ntmps16
    go_wp2
    go_ret
    exact ⟨rfl, by repeat (first | exact Below.refl _ _ | refine Below.setCell ?_ (by first | omega | (simp; done) | (simp; omega)) _ | refine below_dN ?_ _ | refine Below.drew ?_ | refine Below.alloc ?_ (by first | omega | (simp; done) | (simp; omega)) _)⟩
  replace k2 : p ≤ 10000 := Classical.not_not.1 k2
  by_cases k3 : ¬ (n ≥ 1)
  · have k3' : decide (n ≥ 1) = false := decide_eq_false k3
    obtain rfl : g = false := F (by omega)
    clear T F
    go_enter Try.func16, Try.ntmps16
    go_wp2
    go_ret
    exact ⟨rfl, by repeat (first | exact Below.refl _ _ | refine Below.setCell ?_ (by first | omega | (simp; done) | (simp; omega)) _ | refine below_dN ?_ _ | refine Below.drew ?_ | refine Below.alloc ?_ (by first | omega | (simp; done) | (simp; omega)) _)⟩
  replace k3 : n ≥ 1 := Classical.not_not.1 k3
  by_cases k4 : ¬ (n ≤ 1000)
  · have k4' : decide (n ≤ 1000) = false := decide_eq_false k4
    obtain rfl : g = false := F (by omega)
    clear T F
    go_enter Try.func16, Try.ntmps16
    go_wp2
    go_ret
    exact ⟨rfl, by repeat (first | exact Below.refl _ _ | refine Below.setCell ?_ (by first | omega | (simp; done) | (simp; omega)) _ | refine below_dN ?_ _ | refine Below.drew ?_ | refine Below.alloc ?_ (by first | omega | (simp; done) | (simp; omega)) _)⟩
  replace k4 : n ≤ 1000 := Classical.not_not.1 k4
  have t1 : decide (p ≥ 1) = true := decide_eq_true k1
  have t2 : decide (p ≤ 10000) = true := decide_eq_true k2
  have t3 : decide (n ≥ 1) = true := decide_eq_true k3
  have t4 : decide (n ≤ 1000) = true := decide_eq_true k4
  by_cases h0 : s = 0
  · obtain rfl : g = true := T.2 ⟨⟨k1, k2⟩, ⟨k3, k4⟩, .inl h0⟩
    have k5 : (s == 0) = true := beq_iff_eq.2 h0
    clear T F h0 k1 k2 k3 k4
    go_enter Try.func16, Try.ntmps16
    go_wp2
    go_ret
    exact ⟨rfl, by repeat (first | exact Below.refl _ _ | refine Below.setCell ?_ (by first | omega | (simp; done) | (simp; omega)) _ | refine below_dN ?_ _ | refine Below.drew ?_ | refine Below.alloc ?_ (by first | omega | (simp; done) | (simp; omega)) _)⟩
  · have k5 : (s == 0) = false := beq_eq_false_iff_ne.2 h0
    by_cases h1 : s ≥ 2
    · have t6 : decide (s ≥ 2) = true := decide_eq_true h1
      by_cases h2 : s ≤ 1000
      · have t7 : decide (s ≤ 1000) = true := decide_eq_true h2
        obtain rfl : g = true := T.2 ⟨⟨k1, k2⟩, ⟨k3, k4⟩, .inr ⟨h1, h2⟩⟩
        clear T F h0 k1 k2 k3 k4 h1 h2
        go_enter Try.func16, Try.ntmps16
        go_wp2
        go_ret
        exact ⟨rfl, by repeat (first | exact Below.refl _ _ | refine Below.setCell ?_ (by first | omega | (simp; done) | (simp; omega)) _ | refine below_dN ?_ _ | refine Below.drew ?_ | refine Below.alloc ?_ (by first | omega | (simp; done) | (simp; omega)) _)⟩
      · have t7 : decide (s ≤ 1000) = false := decide_eq_false h2
        obtain rfl : g = false := F (by omega)
        clear T F h0 k1 k2 k3 k4 h1 h2
        go_enter Try.func16, Try.ntmps16
        go_wp2
        go_ret
        exact ⟨rfl, by repeat (first | exact Below.refl _ _ | refine Below.setCell ?_ (by first | omega | (simp; done) | (simp; omega)) _ | refine below_dN ?_ _ | refine Below.drew ?_ | refine Below.alloc ?_ (by first | omega | (simp; done) | (simp; omega)) _)⟩
    · have t6 : decide (s ≥ 2) = false := decide_eq_false h1
      obtain rfl : g = false := F (by omega)
      clear T F h0 k1 k2 k3 k4 h1
      go_enter Try.func16, Try.ntmps16
      go_wp2
      go_ret
      exact ⟨rfl, by repeat (first | exact Below.refl _ _ | refine Below.setCell ?_ (by first | omega | (simp; done) | (simp; omega)) _ | refine below_dN ?_ _ | refine Below.drew ?_ | refine Below.alloc ?_ (by first | omega | (simp; done) | (simp; omega)) _)⟩
set_option maxHeartbeats 3200000 in
theorem rof_any (x : Tk) (long v : Int) (w : World) (hf : fitB long = true) (hv : ofZ x long = v) : Calls Try.prog 17 #[.agg #[.int .i64 x.per, .int .i64 x.need, .int .i64 x.skip], .int .i64 long] w (RetB (.int .i64 v) w) := by
  obtain ⟨f1, f2⟩ := fitB_iff.1 hf
  obtain ⟨q, hq⟩ : ∃ q, x.good = q := ⟨_, rfl⟩
  have C1 := Lib.hid (rgoodtask_any x q · hq)
  cases q
  · obtain rfl : 0 = v := by rw [← hv]; unfold ofZ; rw [hq]; rfl
    clear hv hq
    go_enter Try.func17, Try.ntmps17
    go_wp2_with fail
    refine (C1.out _).mono ?_; rintro e hw ⟨rfl, h⟩
    go_wp2
    go_ret
    exact ⟨rfl, by have s0 := h.size; (try simp only [World.heap_drewN, World.size_alloc] at s0); repeat (first | exact Below.refl _ _ | exact h | refine Below.trans ?_ (Below.mono h (by first | omega | (simp; done) | (simp; omega))) | refine Below.setCell ?_ (by first | omega | (simp; done) | (simp; omega)) _ | refine below_dN ?_ _ | refine Below.drew ?_ | refine Below.alloc ?_ (by first | omega | (simp; done) | (simp; omega)) _)⟩
  · by_cases h0 : long < 0
    · have d0 : decide (long < 0) = true := decide_eq_true h0
      obtain rfl : 0 = v := by rw [← hv]; unfold ofZ; rw [decide_eq_false (show ¬ 0 ≤ long by omega), Bool.and_false]; rfl
      clear hv hq h0
      go_enter Try.func17, Try.ntmps17
      go_wp2_with fail
      refine (C1.out _).mono ?_; rintro e hw ⟨rfl, h⟩
      go_wp2
      go_ret
      exact ⟨rfl, by have s0 := h.size; (try simp only [World.heap_drewN, World.size_alloc] at s0); repeat (first | exact Below.refl _ _ | exact h | refine Below.trans ?_ (Below.mono h (by first | omega | (simp; done) | (simp; omega))) | refine Below.setCell ?_ (by first | omega | (simp; done) | (simp; omega)) _ | refine below_dN ?_ _ | refine Below.drew ?_ | refine Below.alloc ?_ (by first | omega | (simp; done) | (simp; omega)) _)⟩
    · have d0 : decide (long < 0) = false := decide_eq_false h0
      have hb := (of_bound x long)
      unfold ofZ at hv hb
      rw [hq, decide_eq_true (show 0 ≤ long by omega)] at hv hb
      simp only [Bool.and_self, if_true] at hv hb
      have hr := runs_bound hq (s := min long 1000000) (by omega)
      obtain ⟨⟨p1, p2⟩, ⟨n1, n2⟩, hs⟩ := tk_iff.1 hq
      unfold runsZ at hv hb hr
      obtain ⟨p, n, s⟩ := x
      simp only at hv hb hr p1 p2 n1 n2 hs C1 ⊢
      obtain ⟨m, hm⟩ : ∃ m, min long 1000000 = m := ⟨_, rfl⟩
      rw [hm] at hv hb hr
      have hm1 : 0 ≤ m ∧ m ≤ 1000000 := by omega
      obtain ⟨j, hj⟩ : ∃ j, m / p = j := ⟨_, rfl⟩
      rw [hj] at hv hb hr
      have pz : ¬ p = 0 := by omega
      have pz' : (p == 0) = false := beq_eq_false_iff_ne.2 pz
      have e1 : wrap64 (m.tdiv p) = j := by rw [← hj, ← IntWalk.i64_left]; exact IntWalk.i64_quo m p ⟨by omega, by omega, by omega⟩
      have hmm : m = long ∧ decide (long > 1000000) = false ∨ m = 1000000 ∧ decide (long > 1000000) = true := by
        by_cases c : long > 1000000
        · exact .inr ⟨by omega, decide_eq_true c⟩
        · exact .inl ⟨by omega, decide_eq_false c⟩
      by_cases hs0 : s = 0
      · rw [if_pos hs0] at hv hb hr
        have k : decide (s > 0) = false := decide_eq_false (by omega)
        have e2 : wrap64 (j * n) = v := by rw [← hv]; unfold wrap64; omega
        clear hv hb hr hj hs hs0 hq h0 p1 p2 n1 n2 hm1 hm hf f1 f2
        rcases hmm with ⟨rfl, hl⟩ | ⟨rfl, hl⟩
        all_goals
          go_enter Try.func17, Try.ntmps17
          go_wp2_with fail
          refine (C1.out _).mono ?_; rintro e hw ⟨rfl, h⟩
          have c0 : hw.cell? ⟨w.heap.size, 0, none⟩ = some (.int .i64 p) := by rw [h.cell (p := ⟨w.heap.size, 0, none⟩) (by simp)]; simp
          have c1 : hw.cell? ⟨w.heap.size, 1, none⟩ = some (.int .i64 n) := by rw [h.cell (p := ⟨w.heap.size, 1, none⟩) (by simp)]; simp
          have c2 : hw.cell? ⟨w.heap.size, 2, none⟩ = some (.int .i64 s) := by rw [h.cell (p := ⟨w.heap.size, 2, none⟩) (by simp)]; simp
          have hb := Lib.hid h; clear h
          go_wp2
          go_ret
          exact ⟨by first | rfl | exact ret_i e2, by have s0 := hb.out.size; (try simp only [World.heap_drewN, World.size_alloc] at s0); repeat (first | exact Below.refl _ _ | exact hb.out | refine Below.trans ?_ (Below.mono hb.out (by first | omega | (simp; done) | (simp; omega))) | refine Below.setCell ?_ (by first | omega | (simp; done) | (simp; omega)) _ | refine below_dN ?_ _ | refine Below.drew ?_ | refine Below.alloc ?_ (by first | omega | (simp; done) | (simp; omega)) _)⟩
      · rw [if_neg hs0] at hv hb hr
        have k : decide (s > 0) = true := decide_eq_true (by omega)
        have sz : ¬ s = 0 := hs0
        have sz' : (s == 0) = false := beq_eq_false_iff_ne.2 hs0
        have s1 : 2 ≤ s ∧ s ≤ 1000 := by omega
        obtain ⟨i, hi⟩ : ∃ i, j / s = i := ⟨_, rfl⟩
        have e3 : wrap64 (j.tdiv s) = i := by rw [← hi, ← IntWalk.i64_left]; exact IntWalk.i64_quo j s ⟨by omega, by omega, by omega⟩
        have hi1 : 0 ≤ i ∧ i ≤ j := ⟨by rw [← hi]; exact Int.ediv_nonneg (by omega) (by omega), by rw [← hi]; exact Int.ediv_le_self _ (by omega)⟩
        rw [hi] at hv hb hr
        obtain ⟨u, hu⟩ : ∃ u, j - i = u := ⟨_, rfl⟩
        have e4 : wrap64 (j - i) = u := by unfold wrap64; omega
        rw [hu] at hv hb
        have e2 : wrap64 (u * n) = v := by rw [← hv]; unfold wrap64; omega
        clear hv hb hr hj hs hq h0 p1 p2 n1 n2 hm1 hi hi1 hu s1 hm hf f1 f2
        rcases hmm with ⟨rfl, hl⟩ | ⟨rfl, hl⟩
        all_goals
          go_enter Try.func17, Try.ntmps17
          go_wp2_with fail
          refine (C1.out _).mono ?_; rintro e hw ⟨rfl, h⟩
          have c0 : hw.cell? ⟨w.heap.size, 0, none⟩ = some (.int .i64 p) := by rw [h.cell (p := ⟨w.heap.size, 0, none⟩) (by simp)]; simp
          have c1 : hw.cell? ⟨w.heap.size, 1, none⟩ = some (.int .i64 n) := by rw [h.cell (p := ⟨w.heap.size, 1, none⟩) (by simp)]; simp
          have c2 : hw.cell? ⟨w.heap.size, 2, none⟩ = some (.int .i64 s) := by rw [h.cell (p := ⟨w.heap.size, 2, none⟩) (by simp)]; simp
          have hb := Lib.hid h; clear h
          go_wp2
          go_ret
          exact ⟨by first | rfl | exact ret_i e2, by have s0 := hb.out.size; (try simp only [World.heap_drewN, World.size_alloc] at s0); repeat (first | exact Below.refl _ _ | exact hb.out | refine Below.trans ?_ (Below.mono hb.out (by first | omega | (simp; done) | (simp; omega))) | refine Below.setCell ?_ (by first | omega | (simp; done) | (simp; omega)) _ | refine below_dN ?_ _ | refine Below.drew ?_ | refine Below.alloc ?_ (by first | omega | (simp; done) | (simp; omega)) _)⟩
end Go.Proofs.Ytmokbmhobglhfaa
