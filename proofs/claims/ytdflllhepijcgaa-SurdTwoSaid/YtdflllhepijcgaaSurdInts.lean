/- The laws SurdSquares, SurdGrows, SurdTwo of layer 2: each returns true at every argument. -/
import Derived.Test.YtdflllhepijcgaaSurdLaws
namespace Go.Proofs.Ytdflllhepijcgaa
open Go.RowKit
set_option linter.unusedVariables false
set_option linter.unusedSimpArgs false

set_option maxHeartbeats 1000000 in
theorem SurdSquares_ret (a b r q : Int) (w : World) (ha : fitB a = true) (hb : fitB b = true) (hr : fitB r = true) (hq : fitB q = true) :
    Calls Try.prog 6 #[.int .i64 a, .int .i64 b, .int .i64 r, .int .i64 q] w (RetB (.bool true) w) := by
  have AW := Lib.hid awake2
  clear ha hb hr hq
  by_cases k1 : a < -1000000000
  · go_enter Try.func6, Try.ntmps6
    go_wp2_with fail
    refine (AW.out _).mono ?_; rintro e g0w ⟨rfl, g0⟩
    go_wp2
    go_ret
    exact ⟨rfl, by have s0 := g0.size; (try simp only [World.heap_drewN, World.size_alloc] at s0); repeat (first | exact Below.refl _ _ | exact g0 | refine Below.trans ?_ (Below.mono g0 (by first | omega | (simp; done) | (simp; omega))) | refine Below.setCell ?_ (by first | omega | (simp; done) | (simp; omega)) _ | refine below_dN ?_ _ | refine Below.drew ?_ | refine Below.alloc ?_ (by first | omega | (simp; done) | (simp; omega)) _)⟩
  have k1' : decide (a < -1000000000) = false := decide_eq_false k1
  by_cases k2 : 1000000000 < a
  · go_enter Try.func6, Try.ntmps6
    go_wp2_with fail
    refine (AW.out _).mono ?_; rintro e g0w ⟨rfl, g0⟩
    go_wp2
    go_ret
    exact ⟨rfl, by have s0 := g0.size; (try simp only [World.heap_drewN, World.size_alloc] at s0); repeat (first | exact Below.refl _ _ | exact g0 | refine Below.trans ?_ (Below.mono g0 (by first | omega | (simp; done) | (simp; omega))) | refine Below.setCell ?_ (by first | omega | (simp; done) | (simp; omega)) _ | refine below_dN ?_ _ | refine Below.drew ?_ | refine Below.alloc ?_ (by first | omega | (simp; done) | (simp; omega)) _)⟩
  have k2' : decide (1000000000 < a) = false := decide_eq_false k2
  by_cases k3 : b < -1000000000
  · go_enter Try.func6, Try.ntmps6
    go_wp2_with fail
    refine (AW.out _).mono ?_; rintro e g0w ⟨rfl, g0⟩
    go_wp2
    go_ret
    exact ⟨rfl, by have s0 := g0.size; (try simp only [World.heap_drewN, World.size_alloc] at s0); repeat (first | exact Below.refl _ _ | exact g0 | refine Below.trans ?_ (Below.mono g0 (by first | omega | (simp; done) | (simp; omega))) | refine Below.setCell ?_ (by first | omega | (simp; done) | (simp; omega)) _ | refine below_dN ?_ _ | refine Below.drew ?_ | refine Below.alloc ?_ (by first | omega | (simp; done) | (simp; omega)) _)⟩
  have k3' : decide (b < -1000000000) = false := decide_eq_false k3
  by_cases k4 : 1000000000 < b
  · go_enter Try.func6, Try.ntmps6
    go_wp2_with fail
    refine (AW.out _).mono ?_; rintro e g0w ⟨rfl, g0⟩
    go_wp2
    go_ret
    exact ⟨rfl, by have s0 := g0.size; (try simp only [World.heap_drewN, World.size_alloc] at s0); repeat (first | exact Below.refl _ _ | exact g0 | refine Below.trans ?_ (Below.mono g0 (by first | omega | (simp; done) | (simp; omega))) | refine Below.setCell ?_ (by first | omega | (simp; done) | (simp; omega)) _ | refine below_dN ?_ _ | refine Below.drew ?_ | refine Below.alloc ?_ (by first | omega | (simp; done) | (simp; omega)) _)⟩
  have k4' : decide (1000000000 < b) = false := decide_eq_false k4
  by_cases k5 : r < 0
  · go_enter Try.func6, Try.ntmps6
    go_wp2_with fail
    refine (AW.out _).mono ?_; rintro e g0w ⟨rfl, g0⟩
    go_wp2
    go_ret
    exact ⟨rfl, by have s0 := g0.size; (try simp only [World.heap_drewN, World.size_alloc] at s0); repeat (first | exact Below.refl _ _ | exact g0 | refine Below.trans ?_ (Below.mono g0 (by first | omega | (simp; done) | (simp; omega))) | refine Below.setCell ?_ (by first | omega | (simp; done) | (simp; omega)) _ | refine below_dN ?_ _ | refine Below.drew ?_ | refine Below.alloc ?_ (by first | omega | (simp; done) | (simp; omega)) _)⟩
  have k5' : decide (r < 0) = false := decide_eq_false k5
  by_cases k6 : 1000 < r
  · go_enter Try.func6, Try.ntmps6
    go_wp2_with fail
    refine (AW.out _).mono ?_; rintro e g0w ⟨rfl, g0⟩
    go_wp2
    go_ret
    exact ⟨rfl, by have s0 := g0.size; (try simp only [World.heap_drewN, World.size_alloc] at s0); repeat (first | exact Below.refl _ _ | exact g0 | refine Below.trans ?_ (Below.mono g0 (by first | omega | (simp; done) | (simp; omega))) | refine Below.setCell ?_ (by first | omega | (simp; done) | (simp; omega)) _ | refine below_dN ?_ _ | refine Below.drew ?_ | refine Below.alloc ?_ (by first | omega | (simp; done) | (simp; omega)) _)⟩
  have k6' : decide (1000 < r) = false := decide_eq_false k6
  by_cases k7 : q < 1
  · go_enter Try.func6, Try.ntmps6
    go_wp2_with fail
    refine (AW.out _).mono ?_; rintro e g0w ⟨rfl, g0⟩
    go_wp2
    go_ret
    exact ⟨rfl, by have s0 := g0.size; (try simp only [World.heap_drewN, World.size_alloc] at s0); repeat (first | exact Below.refl _ _ | exact g0 | refine Below.trans ?_ (Below.mono g0 (by first | omega | (simp; done) | (simp; omega))) | refine Below.setCell ?_ (by first | omega | (simp; done) | (simp; omega)) _ | refine below_dN ?_ _ | refine Below.drew ?_ | refine Below.alloc ?_ (by first | omega | (simp; done) | (simp; omega)) _)⟩
  have k7' : decide (q < 1) = false := decide_eq_false k7
  by_cases k8 : 1000 < q
  · go_enter Try.func6, Try.ntmps6
    go_wp2_with fail
    refine (AW.out _).mono ?_; rintro e g0w ⟨rfl, g0⟩
    go_wp2
    go_ret
    exact ⟨rfl, by have s0 := g0.size; (try simp only [World.heap_drewN, World.size_alloc] at s0); repeat (first | exact Below.refl _ _ | exact g0 | refine Below.trans ?_ (Below.mono g0 (by first | omega | (simp; done) | (simp; omega))) | refine Below.setCell ?_ (by first | omega | (simp; done) | (simp; omega)) _ | refine below_dN ?_ _ | refine Below.drew ?_ | refine Below.alloc ?_ (by first | omega | (simp; done) | (simp; omega)) _)⟩
  have k8' : decide (1000 < q) = false := decide_eq_false k8
  have m1 := mul_bound' (x := a) (y := q) (m := 1000000000) (n := 1000) (by omega) (by omega) (by omega) (by omega) (by omega)
  have m2 := mul_bound' (x := b) (y := r) (m := 1000000000) (n := 1000) (by omega) (by omega) (by omega) (by omega) (by omega)
  have m3 := mul_bound (x := r) (y := r) (m := 1000) (n := 1000) (by omega) (by omega) (by omega) (by omega)
  have m4 := mul_bound (x := q) (y := q) (m := 1000) (n := 1000) (by omega) (by omega) (by omega) (by omega)
  have H := signZ_square (a := a) (b := b) (r := r) (q := q) (by omega) (by omega) (by omega) (by omega)
  have e1 : wrap64 (a * q) = a * q := wrap64_of (by omega) (by omega)
  have e2 : wrap64 (b * r) = b * r := wrap64_of (by omega) (by omega)
  have e3 : wrap64 (r * r) = r * r := wrap64_of (by omega) (by omega)
  have e4 : wrap64 (q * q) = q * q := wrap64_of (by omega) (by omega)
  have e5 : wrap64 (a * q + b * r) = a * q + b * r := wrap64_of (by omega) (by omega)
  obtain ⟨x1, h1⟩ : ∃ x, a * q = x := ⟨_, rfl⟩
  obtain ⟨x2, h2⟩ : ∃ x, b * r = x := ⟨_, rfl⟩
  obtain ⟨x3, h3⟩ : ∃ x, r * r = x := ⟨_, rfl⟩
  obtain ⟨x4, h4⟩ : ∃ x, q * q = x := ⟨_, rfl⟩
  rw [h1, h2] at e5 H; rw [h3, h4] at H
  replace e1 := e1.trans h1; replace e2 := e2.trans h2; replace e3 := e3.trans h3; replace e4 := e4.trans h4
  obtain ⟨x5, h5⟩ : ∃ x, x1 + x2 = x := ⟨_, rfl⟩
  rw [h5] at H
  replace e5 := e5.trans h5
  have C := fun z h => Lib.hid (sign_any a b x3 x4 z · (H.trans h))
  clear H h1 h2 h3 h4 h5 m1 m2 m3 m4 k1 k2 k3 k4 k5 k6 k7 k8
  rcases cmpZ_cases x5 0 with ⟨h, e⟩ | ⟨h, e⟩ | ⟨h, e⟩
  · have C' := C _ e
    clear C e
    go_enter Try.func6, Try.ntmps6
    go_wp2_with fail
    refine (AW.out _).mono ?_; rintro e g0w ⟨rfl, g0⟩
    go_wp2_with fail
    refine (C'.out _).mono ?_; rintro e g1w ⟨rfl, g1⟩
    go_wp2
    go_ret
    exact ⟨rfl, by have s0 := g0.size; (try simp only [World.heap_drewN, World.size_alloc] at s0); have s1 := g1.size; (try simp only [World.heap_drewN, World.size_alloc] at s1); repeat (first | exact Below.refl _ _ | exact g0 | exact g1 | refine Below.trans ?_ (Below.mono g0 (by first | omega | (simp; done) | (simp; omega))) | refine Below.trans ?_ (Below.mono g1 (by first | omega | (simp; done) | (simp; omega))) | refine Below.setCell ?_ (by first | omega | (simp; done) | (simp; omega)) _ | refine below_dN ?_ _ | refine Below.drew ?_ | refine Below.alloc ?_ (by first | omega | (simp; done) | (simp; omega)) _)⟩
  · have C' := C _ e
    have h' : ¬ x5 < 0 := by omega
    clear C e
    go_enter Try.func6, Try.ntmps6
    go_wp2_with fail
    refine (AW.out _).mono ?_; rintro e g0w ⟨rfl, g0⟩
    go_wp2_with fail
    refine (C'.out _).mono ?_; rintro e g1w ⟨rfl, g1⟩
    go_wp2
    go_ret
    exact ⟨rfl, by have s0 := g0.size; (try simp only [World.heap_drewN, World.size_alloc] at s0); have s1 := g1.size; (try simp only [World.heap_drewN, World.size_alloc] at s1); repeat (first | exact Below.refl _ _ | exact g0 | exact g1 | refine Below.trans ?_ (Below.mono g0 (by first | omega | (simp; done) | (simp; omega))) | refine Below.trans ?_ (Below.mono g1 (by first | omega | (simp; done) | (simp; omega))) | refine Below.setCell ?_ (by first | omega | (simp; done) | (simp; omega)) _ | refine below_dN ?_ _ | refine Below.drew ?_ | refine Below.alloc ?_ (by first | omega | (simp; done) | (simp; omega)) _)⟩
  · have C' := C _ e
    have h' : ¬ x5 < 0 := by omega
    have h2 : ¬ 0 < x5 := by omega
    clear C e h
    go_enter Try.func6, Try.ntmps6
    go_wp2_with fail
    refine (AW.out _).mono ?_; rintro e g0w ⟨rfl, g0⟩
    go_wp2_with fail
    refine (C'.out _).mono ?_; rintro e g1w ⟨rfl, g1⟩
    go_wp2
    go_ret
    exact ⟨rfl, by have s0 := g0.size; (try simp only [World.heap_drewN, World.size_alloc] at s0); have s1 := g1.size; (try simp only [World.heap_drewN, World.size_alloc] at s1); repeat (first | exact Below.refl _ _ | exact g0 | exact g1 | refine Below.trans ?_ (Below.mono g0 (by first | omega | (simp; done) | (simp; omega))) | refine Below.trans ?_ (Below.mono g1 (by first | omega | (simp; done) | (simp; omega))) | refine Below.setCell ?_ (by first | omega | (simp; done) | (simp; omega)) _ | refine below_dN ?_ _ | refine Below.drew ?_ | refine Below.alloc ?_ (by first | omega | (simp; done) | (simp; omega)) _)⟩

set_option maxHeartbeats 1000000 in
theorem SurdTwo_ret (v x p : Int) (w : World) (ha : fitB v = true) (hb : fitB x = true) (hr : fitB p = true) :
    Calls Try.prog 9 #[.int .i64 v, .int .i64 x, .int .i64 p] w (RetB (.bool true) w) := by
  have AW := Lib.hid awake2
  clear ha hb hr
  by_cases k1 : v < 0
  · go_enter Try.func9, Try.ntmps9
    go_wp2_with fail
    refine (AW.out _).mono ?_; rintro e g0w ⟨rfl, g0⟩
    go_wp2
    go_ret
    exact ⟨rfl, by have s0 := g0.size; (try simp only [World.heap_drewN, World.size_alloc] at s0); repeat (first | exact Below.refl _ _ | exact g0 | refine Below.trans ?_ (Below.mono g0 (by first | omega | (simp; done) | (simp; omega))) | refine Below.setCell ?_ (by first | omega | (simp; done) | (simp; omega)) _ | refine below_dN ?_ _ | refine Below.drew ?_ | refine Below.alloc ?_ (by first | omega | (simp; done) | (simp; omega)) _)⟩
  have k1' : decide (v < 0) = false := decide_eq_false k1
  by_cases k2 : x < 0
  · go_enter Try.func9, Try.ntmps9
    go_wp2_with fail
    refine (AW.out _).mono ?_; rintro e g0w ⟨rfl, g0⟩
    go_wp2
    go_ret
    exact ⟨rfl, by have s0 := g0.size; (try simp only [World.heap_drewN, World.size_alloc] at s0); repeat (first | exact Below.refl _ _ | exact g0 | refine Below.trans ?_ (Below.mono g0 (by first | omega | (simp; done) | (simp; omega))) | refine Below.setCell ?_ (by first | omega | (simp; done) | (simp; omega)) _ | refine below_dN ?_ _ | refine Below.drew ?_ | refine Below.alloc ?_ (by first | omega | (simp; done) | (simp; omega)) _)⟩
  have k2' : decide (x < 0) = false := decide_eq_false k2
  by_cases k3 : 100000 < v
  · go_enter Try.func9, Try.ntmps9
    go_wp2_with fail
    refine (AW.out _).mono ?_; rintro e g0w ⟨rfl, g0⟩
    go_wp2
    go_ret
    exact ⟨rfl, by have s0 := g0.size; (try simp only [World.heap_drewN, World.size_alloc] at s0); repeat (first | exact Below.refl _ _ | exact g0 | refine Below.trans ?_ (Below.mono g0 (by first | omega | (simp; done) | (simp; omega))) | refine Below.setCell ?_ (by first | omega | (simp; done) | (simp; omega)) _ | refine below_dN ?_ _ | refine Below.drew ?_ | refine Below.alloc ?_ (by first | omega | (simp; done) | (simp; omega)) _)⟩
  have k3' : decide (100000 < v) = false := decide_eq_false k3
  by_cases k4 : 100000 < x
  · go_enter Try.func9, Try.ntmps9
    go_wp2_with fail
    refine (AW.out _).mono ?_; rintro e g0w ⟨rfl, g0⟩
    go_wp2
    go_ret
    exact ⟨rfl, by have s0 := g0.size; (try simp only [World.heap_drewN, World.size_alloc] at s0); repeat (first | exact Below.refl _ _ | exact g0 | refine Below.trans ?_ (Below.mono g0 (by first | omega | (simp; done) | (simp; omega))) | refine Below.setCell ?_ (by first | omega | (simp; done) | (simp; omega)) _ | refine below_dN ?_ _ | refine Below.drew ?_ | refine Below.alloc ?_ (by first | omega | (simp; done) | (simp; omega)) _)⟩
  have k4' : decide (100000 < x) = false := decide_eq_false k4
  by_cases k5 : p < 0
  · go_enter Try.func9, Try.ntmps9
    go_wp2_with fail
    refine (AW.out _).mono ?_; rintro e g0w ⟨rfl, g0⟩
    go_wp2
    go_ret
    exact ⟨rfl, by have s0 := g0.size; (try simp only [World.heap_drewN, World.size_alloc] at s0); repeat (first | exact Below.refl _ _ | exact g0 | refine Below.trans ?_ (Below.mono g0 (by first | omega | (simp; done) | (simp; omega))) | refine Below.setCell ?_ (by first | omega | (simp; done) | (simp; omega)) _ | refine below_dN ?_ _ | refine Below.drew ?_ | refine Below.alloc ?_ (by first | omega | (simp; done) | (simp; omega)) _)⟩
  have k5' : decide (p < 0) = false := decide_eq_false k5
  by_cases k6 : 1000 < p
  · go_enter Try.func9, Try.ntmps9
    go_wp2_with fail
    refine (AW.out _).mono ?_; rintro e g0w ⟨rfl, g0⟩
    go_wp2
    go_ret
    exact ⟨rfl, by have s0 := g0.size; (try simp only [World.heap_drewN, World.size_alloc] at s0); repeat (first | exact Below.refl _ _ | exact g0 | refine Below.trans ?_ (Below.mono g0 (by first | omega | (simp; done) | (simp; omega))) | refine Below.setCell ?_ (by first | omega | (simp; done) | (simp; omega)) _ | refine below_dN ?_ _ | refine Below.drew ?_ | refine Below.alloc ?_ (by first | omega | (simp; done) | (simp; omega)) _)⟩
  have k6' : decide (1000 < p) = false := decide_eq_false k6
  by_cases hp : 900 < p
  · have m2 := mul_bound (x := 901) (y := x) (m := 901) (n := 100000) (by omega) (by omega) (by omega) (by omega)
    have m4 := mul_bound (x := 811801) (y := x) (m := 811801) (n := 100000) (by omega) (by omega) (by omega) (by omega)
    have hac : acceptB v x (900 * 900) 1 = true := acceptB_iff.2 (by omega)
    have H1 := above_square hac (by omega)
    have H2 := bound_square hac (by omega)
    rw [show (900 : Int) * 900 = 810000 from rfl] at H1 H2
    rw [show (1 : Int) + 900 = 901 from rfl] at H1 H2
    rw [show (901 : Int) * 901 = 811801 from rfl] at H2
    have e3 : wrap64 (901 * x) = 901 * x := wrap64_of (by omega) (by omega)
    have e5 : wrap64 (811801 * x) = 811801 * x := wrap64_of (by omega) (by omega)
    obtain ⟨sx, h3⟩ : ∃ y, 901 * x = y := ⟨_, rfl⟩
    rw [h3] at H1
    replace e3 := e3.trans h3
    obtain ⟨ssx, h5⟩ : ∃ y, 811801 * x = y := ⟨_, rfl⟩
    rw [h5] at H2
    replace e5 := e5.trans h5
    obtain ⟨b1, hb1⟩ : ∃ b, decide (sx < v) = b := ⟨_, rfl⟩
    obtain ⟨b2, hb2⟩ : ∃ b, decide (v ≤ ssx) = b := ⟨_, rfl⟩
    have C1 := Lib.hid (above_any v x 810000 1 b1 · (H1.trans hb1))
    have C2 := Lib.hid (bound_any v x 810000 1 b2 · (H2.trans hb2))
    clear H1 H2 h3 h5 m2 m4 hac k1 k2 k3 k4 k5
    cases b1 <;> cases b2
    all_goals
      go_enter Try.func9, Try.ntmps9
      go_wp2_with fail
      refine (AW.out _).mono ?_; rintro e g0w ⟨rfl, g0⟩
      go_wp2_with fail
      refine (C1.out _).mono ?_; rintro e g1w ⟨rfl, g1⟩
      go_wp2_with fail
      refine (C2.out _).mono ?_; rintro e g2w ⟨rfl, g2⟩
      go_wp2
      go_ret
      exact ⟨rfl, by have s0 := g0.size; (try simp only [World.heap_drewN, World.size_alloc] at s0); have s1 := g1.size; (try simp only [World.heap_drewN, World.size_alloc] at s1); have s2 := g2.size; (try simp only [World.heap_drewN, World.size_alloc] at s2); repeat (first | exact Below.refl _ _ | exact g0 | exact g1 | exact g2 | refine Below.trans ?_ (Below.mono g0 (by first | omega | (simp; done) | (simp; omega))) | refine Below.trans ?_ (Below.mono g1 (by first | omega | (simp; done) | (simp; omega))) | refine Below.trans ?_ (Below.mono g2 (by first | omega | (simp; done) | (simp; omega))) | refine Below.setCell ?_ (by first | omega | (simp; done) | (simp; omega)) _ | refine below_dN ?_ _ | refine Below.drew ?_ | refine Below.alloc ?_ (by first | omega | (simp; done) | (simp; omega)) _)⟩
  obtain ⟨r, hr⟩ : ∃ r, r = p := ⟨_, rfl⟩
  have r0 : 0 ≤ r ∧ r ≤ 900 := by omega
  have m1 := mul_bound (x := r) (y := r) (m := 900) (n := 900) r0.1 r0.2 r0.1 r0.2
  have m2 := mul_bound (x := 1 + r) (y := x) (m := 901) (n := 100000) (by omega) (by omega) (by omega) (by omega)
  have m3 := mul_bound (x := 1 + r) (y := 1 + r) (m := 901) (n := 901) (by omega) (by omega) (by omega) (by omega)
  have m4 := mul_bound (x := (1 + r) * (1 + r)) (y := x) (m := 811801) (n := 100000) (by omega) (by omega) (by omega) (by omega)
  have hac : acceptB v x (r * r) 1 = true := acceptB_iff.2 (by omega)
  have H1 := above_square hac r0.1
  have H2 := bound_square hac r0.1
  have e1 : wrap64 (r * r) = r * r := wrap64_of (by omega) (by omega)
  have e2 : wrap64 (1 + r) = 1 + r := wrap64_of (by omega) (by omega)
  have e3 : wrap64 ((1 + r) * x) = (1 + r) * x := wrap64_of (by omega) (by omega)
  have e4 : wrap64 ((1 + r) * (1 + r)) = (1 + r) * (1 + r) := wrap64_of (by omega) (by omega)
  have e5 : wrap64 ((1 + r) * (1 + r) * x) = (1 + r) * (1 + r) * x := wrap64_of (by omega) (by omega)
  obtain ⟨rr, h1⟩ : ∃ y, r * r = y := ⟨_, rfl⟩
  obtain ⟨s, h2⟩ : ∃ y, 1 + r = y := ⟨_, rfl⟩
  rw [h1] at H1 H2; rw [h2] at H1 H2 e3 e4 e5
  replace e1 := e1.trans h1; replace e2 := e2.trans h2
  obtain ⟨sx, h3⟩ : ∃ y, s * x = y := ⟨_, rfl⟩
  obtain ⟨ss, h4⟩ : ∃ y, s * s = y := ⟨_, rfl⟩
  rw [h3] at H1; rw [h4] at H2 e5
  replace e3 := e3.trans h3; replace e4 := e4.trans h4
  obtain ⟨ssx, h5⟩ : ∃ y, ss * x = y := ⟨_, rfl⟩
  rw [h5] at H2
  replace e5 := e5.trans h5
  obtain ⟨b1, hb1⟩ : ∃ b, decide (sx < v) = b := ⟨_, rfl⟩
  obtain ⟨b2, hb2⟩ : ∃ b, decide (v ≤ ssx) = b := ⟨_, rfl⟩
  have C1 := Lib.hid (above_any v x rr 1 b1 · (H1.trans hb1))
  have C2 := Lib.hid (bound_any v x rr 1 b2 · (H2.trans hb2))
  clear H1 H2 h1 h2 h3 h4 h5 m1 m2 m3 m4 hac r0 k1 k2 k3 k4 k5
  subst hr
  cases b1 <;> cases b2
  all_goals
    go_enter Try.func9, Try.ntmps9
    go_wp2_with fail
    refine (AW.out _).mono ?_; rintro e g0w ⟨rfl, g0⟩
    go_wp2_with fail
    refine (C1.out _).mono ?_; rintro e g1w ⟨rfl, g1⟩
    go_wp2_with fail
    refine (C2.out _).mono ?_; rintro e g2w ⟨rfl, g2⟩
    go_wp2
    go_ret
    exact ⟨rfl, by have s0 := g0.size; (try simp only [World.heap_drewN, World.size_alloc] at s0); have s1 := g1.size; (try simp only [World.heap_drewN, World.size_alloc] at s1); have s2 := g2.size; (try simp only [World.heap_drewN, World.size_alloc] at s2); repeat (first | exact Below.refl _ _ | exact g0 | exact g1 | exact g2 | refine Below.trans ?_ (Below.mono g0 (by first | omega | (simp; done) | (simp; omega))) | refine Below.trans ?_ (Below.mono g1 (by first | omega | (simp; done) | (simp; omega))) | refine Below.trans ?_ (Below.mono g2 (by first | omega | (simp; done) | (simp; omega))) | refine Below.setCell ?_ (by first | omega | (simp; done) | (simp; omega)) _ | refine below_dN ?_ _ | refine Below.drew ?_ | refine Below.alloc ?_ (by first | omega | (simp; done) | (simp; omega)) _)⟩
end Go.Proofs.Ytdflllhepijcgaa
