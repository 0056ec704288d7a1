/- The law SurdGrows of layer 2: it returns true at every argument. -/
import Derived.Test.YtdflllhepijcgaaSurdLaws
namespace Go.Proofs.Ytdflllhepijcgaa
open Go.RowKit
set_option linter.unusedVariables false
set_option linter.unusedSimpArgs false

theorem grows_all {v x p q n : Int} (hv : 0 ≤ v ∧ v ≤ 100000000) (hx : 0 ≤ x ∧ x ≤ 100000000) (hn : 0 ≤ n ∧ n ≤ 100000000) :
    (aboveB v x p q = true → aboveB (v + n) x p q = true) ∧ (aboveB v (x + n) p q = true → aboveB v x p q = true) ∧
    (boundB (v + n) x p q = true → boundB v x p q = true) ∧ (boundB v x p q = true → boundB v (x + n) p q = true) := by
  by_cases hp : 0 ≤ p ∧ p ≤ 1000000 ∧ 1 ≤ q ∧ q ≤ 1000000
  · have a1 : acceptB v x p q = true := acceptB_iff.2 (by omega)
    have a2 : acceptB (v + n) x p q = true := acceptB_iff.2 (by omega)
    have a3 : acceptB v (x + n) p q = true := acceptB_iff.2 (by omega)
    exact ⟨above_up a1 a2 hn.1, above_down a1 a3 hn.1, bound_down a1 a2 hn.1, bound_up a1 a3 hn.1⟩
  · have a1 : acceptB v x p q = false := acceptB_not.2 (by omega)
    have a2 : acceptB (v + n) x p q = false := acceptB_not.2 (by omega)
    have a3 : acceptB v (x + n) p q = false := acceptB_not.2 (by omega)
    refine ⟨fun h => ?_, fun h => ?_, fun h => ?_, fun h => ?_⟩
    · rw [aboveB_bad a1] at h; cases h
    · rw [aboveB_bad a3] at h; cases h
    · rw [boundB_bad a2] at h; cases h
    · rw [boundB_bad a1] at h; cases h

set_option maxHeartbeats 2000000 in
theorem SurdGrows_ret (v x p q n : Int) (w : World) (ha : fitB v = true) (hb : fitB x = true) (hr : fitB p = true) (hq : fitB q = true) (hn : fitB n = true) :
    Calls Try.prog 7 #[.int .i64 v, .int .i64 x, .int .i64 p, .int .i64 q, .int .i64 n] w (RetB (.bool true) w) := by
  have AW := Lib.hid awake2
  clear ha hb hr hq hn
  by_cases k1 : v < 0
  · go_enter Try.func7, Try.ntmps7
    go_wp2_with fail
    refine (AW.out _).mono ?_; rintro e g0w ⟨rfl, g0⟩
    go_wp2
    go_ret
    exact ⟨rfl, by have s0 := g0.size; (try simp only [World.heap_drewN, World.size_alloc] at s0); repeat (first | exact Below.refl _ _ | exact g0 | refine Below.trans ?_ (Below.mono g0 (by first | omega | (simp; done) | (simp; omega))) | refine Below.setCell ?_ (by first | omega | (simp; done) | (simp; omega)) _ | refine below_dN ?_ _ | refine Below.drew ?_ | refine Below.alloc ?_ (by first | omega | (simp; done) | (simp; omega)) _)⟩
  have k1' : decide (v < 0) = false := decide_eq_false k1
  by_cases k2 : x < 0
  · go_enter Try.func7, Try.ntmps7
    go_wp2_with fail
    refine (AW.out _).mono ?_; rintro e g0w ⟨rfl, g0⟩
    go_wp2
    go_ret
    exact ⟨rfl, by have s0 := g0.size; (try simp only [World.heap_drewN, World.size_alloc] at s0); repeat (first | exact Below.refl _ _ | exact g0 | refine Below.trans ?_ (Below.mono g0 (by first | omega | (simp; done) | (simp; omega))) | refine Below.setCell ?_ (by first | omega | (simp; done) | (simp; omega)) _ | refine below_dN ?_ _ | refine Below.drew ?_ | refine Below.alloc ?_ (by first | omega | (simp; done) | (simp; omega)) _)⟩
  have k2' : decide (x < 0) = false := decide_eq_false k2
  by_cases k3 : n < 0
  · go_enter Try.func7, Try.ntmps7
    go_wp2_with fail
    refine (AW.out _).mono ?_; rintro e g0w ⟨rfl, g0⟩
    go_wp2
    go_ret
    exact ⟨rfl, by have s0 := g0.size; (try simp only [World.heap_drewN, World.size_alloc] at s0); repeat (first | exact Below.refl _ _ | exact g0 | refine Below.trans ?_ (Below.mono g0 (by first | omega | (simp; done) | (simp; omega))) | refine Below.setCell ?_ (by first | omega | (simp; done) | (simp; omega)) _ | refine below_dN ?_ _ | refine Below.drew ?_ | refine Below.alloc ?_ (by first | omega | (simp; done) | (simp; omega)) _)⟩
  have k3' : decide (n < 0) = false := decide_eq_false k3
  by_cases k4 : 100000000 < v
  · go_enter Try.func7, Try.ntmps7
    go_wp2_with fail
    refine (AW.out _).mono ?_; rintro e g0w ⟨rfl, g0⟩
    go_wp2
    go_ret
    exact ⟨rfl, by have s0 := g0.size; (try simp only [World.heap_drewN, World.size_alloc] at s0); repeat (first | exact Below.refl _ _ | exact g0 | refine Below.trans ?_ (Below.mono g0 (by first | omega | (simp; done) | (simp; omega))) | refine Below.setCell ?_ (by first | omega | (simp; done) | (simp; omega)) _ | refine below_dN ?_ _ | refine Below.drew ?_ | refine Below.alloc ?_ (by first | omega | (simp; done) | (simp; omega)) _)⟩
  have k4' : decide (100000000 < v) = false := decide_eq_false k4
  by_cases k5 : 100000000 < x
  · go_enter Try.func7, Try.ntmps7
    go_wp2_with fail
    refine (AW.out _).mono ?_; rintro e g0w ⟨rfl, g0⟩
    go_wp2
    go_ret
    exact ⟨rfl, by have s0 := g0.size; (try simp only [World.heap_drewN, World.size_alloc] at s0); repeat (first | exact Below.refl _ _ | exact g0 | refine Below.trans ?_ (Below.mono g0 (by first | omega | (simp; done) | (simp; omega))) | refine Below.setCell ?_ (by first | omega | (simp; done) | (simp; omega)) _ | refine below_dN ?_ _ | refine Below.drew ?_ | refine Below.alloc ?_ (by first | omega | (simp; done) | (simp; omega)) _)⟩
  have k5' : decide (100000000 < x) = false := decide_eq_false k5
  by_cases k6 : 100000000 < n
  · go_enter Try.func7, Try.ntmps7
    go_wp2_with fail
    refine (AW.out _).mono ?_; rintro e g0w ⟨rfl, g0⟩
    go_wp2
    go_ret
    exact ⟨rfl, by have s0 := g0.size; (try simp only [World.heap_drewN, World.size_alloc] at s0); repeat (first | exact Below.refl _ _ | exact g0 | refine Below.trans ?_ (Below.mono g0 (by first | omega | (simp; done) | (simp; omega))) | refine Below.setCell ?_ (by first | omega | (simp; done) | (simp; omega)) _ | refine below_dN ?_ _ | refine Below.drew ?_ | refine Below.alloc ?_ (by first | omega | (simp; done) | (simp; omega)) _)⟩
  have k6' : decide (100000000 < n) = false := decide_eq_false k6
  obtain ⟨i1, i2, i3, i4⟩ := grows_all (v := v) (x := x) (p := p) (q := q) (n := n) (by omega) (by omega) (by omega)
  have e1 : wrap64 (v + n) = v + n := wrap64_of (by omega) (by omega)
  have e2 : wrap64 (x + n) = x + n := wrap64_of (by omega) (by omega)
  obtain ⟨vn, h1⟩ : ∃ y, v + n = y := ⟨_, rfl⟩
  obtain ⟨xn, h2⟩ : ∃ y, x + n = y := ⟨_, rfl⟩
  replace e1 := e1.trans h1; replace e2 := e2.trans h2
  rw [h1] at i1 i3; rw [h2] at i2 i4
  obtain ⟨a1, ha1⟩ : ∃ b, aboveB v x p q = b := ⟨_, rfl⟩
  obtain ⟨a2, ha2⟩ : ∃ b, aboveB vn x p q = b := ⟨_, rfl⟩
  obtain ⟨a3, ha3⟩ : ∃ b, aboveB v xn p q = b := ⟨_, rfl⟩
  obtain ⟨b1, hb1⟩ : ∃ b, boundB vn x p q = b := ⟨_, rfl⟩
  obtain ⟨b2, hb2⟩ : ∃ b, boundB v x p q = b := ⟨_, rfl⟩
  obtain ⟨b3, hb3⟩ : ∃ b, boundB v xn p q = b := ⟨_, rfl⟩
  rw [ha1, ha2] at i1; rw [ha3, ha1] at i2; rw [hb1, hb2] at i3; rw [hb2, hb3] at i4
  have A1 := Lib.hid (above_any v x p q a1 · ha1)
  have A2 := Lib.hid (above_any vn x p q a2 · ha2)
  have A3 := Lib.hid (above_any v xn p q a3 · ha3)
  have B1 := Lib.hid (bound_any vn x p q b1 · hb1)
  have B2 := Lib.hid (bound_any v x p q b2 · hb2)
  have B3 := Lib.hid (bound_any v xn p q b3 · hb3)
  clear ha1 ha2 ha3 hb1 hb2 hb3 h1 h2 k1 k2 k3 k4 k5 k6
  cases b2
  · obtain rfl : b1 = false := by cases b1; rfl; exact (i3 rfl).symm
    clear i3 i4 B3
    cases a1
    · obtain rfl : a3 = false := by cases a3; rfl; exact (i2 rfl).symm
      clear i1 i2 A2
      go_enter Try.func7, Try.ntmps7
      go_wp2_with fail
      refine (AW.out _).mono ?_; rintro e g0w ⟨rfl, g0⟩
      go_wp2_with fail
      refine (A1.out _).mono ?_; rintro e g1w ⟨rfl, g1⟩
      dsimp only [List.append] at *
      go_wp2_with fail
      refine (A3.out _).mono ?_; rintro e g3w ⟨rfl, g3⟩
      go_wp2_with fail
      refine (B1.out _).mono ?_; rintro e g4w ⟨rfl, g4⟩
      go_wp2_with fail
      refine (B2.out _).mono ?_; rintro e g5w ⟨rfl, g5⟩
      go_wp2
      go_ret
      exact ⟨rfl, below_on (below_on (below_on (below_on g0 g1) g3) g4) g5⟩
    · obtain rfl := i1 rfl
      clear i1 i2
      cases a3
      · go_enter Try.func7, Try.ntmps7
        go_wp2_with fail
        refine (AW.out _).mono ?_; rintro e g0w ⟨rfl, g0⟩
        go_wp2_with fail
        refine (A1.out _).mono ?_; rintro e g1w ⟨rfl, g1⟩
        dsimp only [List.append] at *
        go_wp2_with fail
        refine (A2.out _).mono ?_; rintro e g2w ⟨rfl, g2⟩
        go_wp2_with fail
        refine (A3.out _).mono ?_; rintro e g3w ⟨rfl, g3⟩
        go_wp2_with fail
        refine (B1.out _).mono ?_; rintro e g4w ⟨rfl, g4⟩
        go_wp2_with fail
        refine (B2.out _).mono ?_; rintro e g5w ⟨rfl, g5⟩
        go_wp2
        go_ret
        exact ⟨rfl, below_on (below_on (below_on (below_on (below_on g0 g1) g2) g3) g4) g5⟩
      · go_enter Try.func7, Try.ntmps7
        go_wp2_with fail
        refine (AW.out _).mono ?_; rintro e g0w ⟨rfl, g0⟩
        go_wp2_with fail
        refine (A1.out _).mono ?_; rintro e g1w ⟨rfl, g1⟩
        dsimp only [List.append] at *
        go_wp2_with fail
        refine (A2.out _).mono ?_; rintro e g2w ⟨rfl, g2⟩
        go_wp2_with fail
        refine (A3.out _).mono ?_; rintro e g3w ⟨rfl, g3⟩
        go_wp2_with fail
        refine (A1.out _).mono ?_; rintro e g4w ⟨rfl, g4⟩
        go_wp2_with fail
        refine (B1.out _).mono ?_; rintro e g5w ⟨rfl, g5⟩
        go_wp2_with fail
        refine (B2.out _).mono ?_; rintro e g6w ⟨rfl, g6⟩
        go_wp2
        go_ret
        exact ⟨rfl, below_on (below_on (below_on (below_on (below_on (below_on g0 g1) g2) g3) g4) g5) g6⟩
  · obtain rfl := i4 rfl
    clear i3 i4
    cases a1
    · obtain rfl : a3 = false := by cases a3; rfl; exact (i2 rfl).symm
      clear i1 i2 A2
      cases b1
      · go_enter Try.func7, Try.ntmps7
        go_wp2_with fail
        refine (AW.out _).mono ?_; rintro e g0w ⟨rfl, g0⟩
        go_wp2_with fail
        refine (A1.out _).mono ?_; rintro e g1w ⟨rfl, g1⟩
        dsimp only [List.append] at *
        go_wp2_with fail
        refine (A3.out _).mono ?_; rintro e g3w ⟨rfl, g3⟩
        go_wp2_with fail
        refine (B1.out _).mono ?_; rintro e g4w ⟨rfl, g4⟩
        go_wp2_with fail
        refine (B2.out _).mono ?_; rintro e g5w ⟨rfl, g5⟩
        go_wp2_with fail
        refine (B3.out _).mono ?_; rintro e g6w ⟨rfl, g6⟩
        go_wp2
        go_ret
        exact ⟨rfl, below_on (below_on (below_on (below_on (below_on g0 g1) g3) g4) g5) g6⟩
      · go_enter Try.func7, Try.ntmps7
        go_wp2_with fail
        refine (AW.out _).mono ?_; rintro e g0w ⟨rfl, g0⟩
        go_wp2_with fail
        refine (A1.out _).mono ?_; rintro e g1w ⟨rfl, g1⟩
        dsimp only [List.append] at *
        go_wp2_with fail
        refine (A3.out _).mono ?_; rintro e g3w ⟨rfl, g3⟩
        go_wp2_with fail
        refine (B1.out _).mono ?_; rintro e g4w ⟨rfl, g4⟩
        go_wp2_with fail
        refine (B2.out _).mono ?_; rintro e g5w ⟨rfl, g5⟩
        go_wp2_with fail
        refine (B2.out _).mono ?_; rintro e g6w ⟨rfl, g6⟩
        go_wp2_with fail
        refine (B3.out _).mono ?_; rintro e g7w ⟨rfl, g7⟩
        go_wp2
        go_ret
        exact ⟨rfl, below_on (below_on (below_on (below_on (below_on (below_on g0 g1) g3) g4) g5) g6) g7⟩
    · obtain rfl := i1 rfl
      clear i1 i2
      cases a3 <;> cases b1
      · go_enter Try.func7, Try.ntmps7
        go_wp2_with fail
        refine (AW.out _).mono ?_; rintro e g0w ⟨rfl, g0⟩
        go_wp2_with fail
        refine (A1.out _).mono ?_; rintro e g1w ⟨rfl, g1⟩
        dsimp only [List.append] at *
        go_wp2_with fail
        refine (A2.out _).mono ?_; rintro e g2w ⟨rfl, g2⟩
        go_wp2_with fail
        refine (A3.out _).mono ?_; rintro e g3w ⟨rfl, g3⟩
        go_wp2_with fail
        refine (B1.out _).mono ?_; rintro e g4w ⟨rfl, g4⟩
        go_wp2_with fail
        refine (B2.out _).mono ?_; rintro e g5w ⟨rfl, g5⟩
        go_wp2_with fail
        refine (B3.out _).mono ?_; rintro e g6w ⟨rfl, g6⟩
        go_wp2
        go_ret
        exact ⟨rfl, below_on (below_on (below_on (below_on (below_on (below_on g0 g1) g2) g3) g4) g5) g6⟩
      · go_enter Try.func7, Try.ntmps7
        go_wp2_with fail
        refine (AW.out _).mono ?_; rintro e g0w ⟨rfl, g0⟩
        go_wp2_with fail
        refine (A1.out _).mono ?_; rintro e g1w ⟨rfl, g1⟩
        dsimp only [List.append] at *
        go_wp2_with fail
        refine (A2.out _).mono ?_; rintro e g2w ⟨rfl, g2⟩
        go_wp2_with fail
        refine (A3.out _).mono ?_; rintro e g3w ⟨rfl, g3⟩
        go_wp2_with fail
        refine (B1.out _).mono ?_; rintro e g4w ⟨rfl, g4⟩
        go_wp2_with fail
        refine (B2.out _).mono ?_; rintro e g5w ⟨rfl, g5⟩
        go_wp2_with fail
        refine (B2.out _).mono ?_; rintro e g6w ⟨rfl, g6⟩
        go_wp2_with fail
        refine (B3.out _).mono ?_; rintro e g7w ⟨rfl, g7⟩
        go_wp2
        go_ret
        exact ⟨rfl, below_on (below_on (below_on (below_on (below_on (below_on (below_on g0 g1) g2) g3) g4) g5) g6) g7⟩
      · go_enter Try.func7, Try.ntmps7
        go_wp2_with fail
        refine (AW.out _).mono ?_; rintro e g0w ⟨rfl, g0⟩
        go_wp2_with fail
        refine (A1.out _).mono ?_; rintro e g1w ⟨rfl, g1⟩
        dsimp only [List.append] at *
        go_wp2_with fail
        refine (A2.out _).mono ?_; rintro e g2w ⟨rfl, g2⟩
        go_wp2_with fail
        refine (A3.out _).mono ?_; rintro e g3w ⟨rfl, g3⟩
        go_wp2_with fail
        refine (A1.out _).mono ?_; rintro e g3aw ⟨rfl, g3a⟩
        go_wp2_with fail
        refine (B1.out _).mono ?_; rintro e g4w ⟨rfl, g4⟩
        go_wp2_with fail
        refine (B2.out _).mono ?_; rintro e g5w ⟨rfl, g5⟩
        go_wp2_with fail
        refine (B3.out _).mono ?_; rintro e g6w ⟨rfl, g6⟩
        go_wp2
        go_ret
        exact ⟨rfl, below_on (below_on (below_on (below_on (below_on (below_on (below_on g0 g1) g2) g3) g3a) g4) g5) g6⟩
      · go_enter Try.func7, Try.ntmps7
        go_wp2_with fail
        refine (AW.out _).mono ?_; rintro e g0w ⟨rfl, g0⟩
        go_wp2_with fail
        refine (A1.out _).mono ?_; rintro e g1w ⟨rfl, g1⟩
        dsimp only [List.append] at *
        go_wp2_with fail
        refine (A2.out _).mono ?_; rintro e g2w ⟨rfl, g2⟩
        go_wp2_with fail
        refine (A3.out _).mono ?_; rintro e g3w ⟨rfl, g3⟩
        go_wp2_with fail
        refine (A1.out _).mono ?_; rintro e g3aw ⟨rfl, g3a⟩
        go_wp2_with fail
        refine (B1.out _).mono ?_; rintro e g4w ⟨rfl, g4⟩
        go_wp2_with fail
        refine (B2.out _).mono ?_; rintro e g5w ⟨rfl, g5⟩
        go_wp2_with fail
        refine (B2.out _).mono ?_; rintro e g6w ⟨rfl, g6⟩
        go_wp2_with fail
        refine (B3.out _).mono ?_; rintro e g7w ⟨rfl, g7⟩
        go_wp2
        go_ret
        exact ⟨rfl, below_on (below_on (below_on (below_on (below_on (below_on (below_on (below_on g0 g1) g2) g3) g3a) g4) g5) g6) g7⟩
end Go.Proofs.Ytdflllhepijcgaa
