/- The laws SurdCompared and SurdSays of layer 2: each returns true at every argument. -/
import Derived.Test.YtdflllhepijcgaaSurdLaws
import Derived.Test.YtdflllhepijcgaaSurdRef
import Derived.Deep.RegionHeld3
namespace Go.Proofs.Ytdflllhepijcgaa
open Go.RowKit
set_option linter.unusedVariables false
set_option linter.unusedSimpArgs false

theorem held2_on {wx W W' : World} {b1 b2 : Nat} {A B P Q A2 B2 P2 Q2 : Int} (h : Below wx.heap.size wx W ∧ Four W b1 A B P Q ∧ Four W b2 A2 B2 P2 Q2) (k : Below W.heap.size W W')
    (h1 : b1 < wx.heap.size) (h2 : b2 < wx.heap.size) : Below wx.heap.size wx W' ∧ Four W' b1 A B P Q ∧ Four W' b2 A2 B2 P2 Q2 := by
  have s := h.1.size
  exact ⟨below_on h.1 k, h.2.1.on k (by omega), h.2.2.on k (by omega)⟩

set_option maxHeartbeats 2000000 in
theorem SurdCompared_ret (a b A B P Q : Int) (w : World) (ha : fitB a = true) (hb : fitB b = true) (hA : fitB A = true) (hB : fitB B = true) (hP : fitB P = true) (hQ : fitB Q = true) :
    Calls Try.prog 8 #[.int .i64 a, .int .i64 b, .agg #[.int .i64 A, .int .i64 B, .int .i64 P, .int .i64 Q]] w (RetB (.bool true) w) := by
  have AW := Lib.hid awake2
  cases hg : goodB A B P Q
  · have G := Lib.hid (good_any A B P Q false · hg)
    clear hA hB hP hQ ha hb hg
    go_enter Try.func8, Try.ntmps8
    go_wp2_with fail
    refine (AW.out _).mono ?_; rintro e g0w ⟨rfl, g0⟩
    have c0 : g0w.cell? ⟨w.heap.size, 0, none⟩ = some (.int .i64 A) := by rw [g0.cell (p := ⟨w.heap.size, 0, none⟩) (by simp)]; simp
    have c1 : g0w.cell? ⟨w.heap.size, 1, none⟩ = some (.int .i64 B) := by rw [g0.cell (p := ⟨w.heap.size, 1, none⟩) (by simp)]; simp
    have c2 : g0w.cell? ⟨w.heap.size, 2, none⟩ = some (.int .i64 P) := by rw [g0.cell (p := ⟨w.heap.size, 2, none⟩) (by simp)]; simp
    have c3 : g0w.cell? ⟨w.heap.size, 3, none⟩ = some (.int .i64 Q) := by rw [g0.cell (p := ⟨w.heap.size, 3, none⟩) (by simp)]; simp
    go_wp2_with fail
    refine (G.out _).mono ?_; rintro e gw ⟨rfl, g⟩
    go_wp2
    go_ret
    exact ⟨rfl, by have s0 := g0.size; (try simp only [World.heap_drewN, World.size_alloc] at s0); have s1 := g.size; (try simp only [World.heap_drewN, World.size_alloc] at s1); repeat (first | exact Below.refl _ _ | exact g0 | exact g | refine Below.trans ?_ (Below.mono g0 (by first | omega | (simp; done) | (simp; omega))) | refine Below.trans ?_ (Below.mono g (by first | omega | (simp; done) | (simp; omega))) | refine Below.setCell ?_ (by first | omega | (simp; done) | (simp; omega)) _ | refine below_dN ?_ _ | refine Below.drew ?_ | refine Below.alloc ?_ (by first | omega | (simp; done) | (simp; omega)) _)⟩
  have G := Lib.hid (good_any A B P Q true · hg)
  have hA0 := hA; have ha0 := ha; have hb0 := hb
  clear hP hQ
  by_cases k1 : a < -100000000
  · clear hA hB ha hb hg hA0 ha0 hb0
    go_enter Try.func8, Try.ntmps8
    go_wp2_with fail
    refine (AW.out _).mono ?_; rintro e g0w ⟨rfl, g0⟩
    have c0 : g0w.cell? ⟨w.heap.size, 0, none⟩ = some (.int .i64 A) := by rw [g0.cell (p := ⟨w.heap.size, 0, none⟩) (by simp)]; simp
    have c1 : g0w.cell? ⟨w.heap.size, 1, none⟩ = some (.int .i64 B) := by rw [g0.cell (p := ⟨w.heap.size, 1, none⟩) (by simp)]; simp
    have c2 : g0w.cell? ⟨w.heap.size, 2, none⟩ = some (.int .i64 P) := by rw [g0.cell (p := ⟨w.heap.size, 2, none⟩) (by simp)]; simp
    have c3 : g0w.cell? ⟨w.heap.size, 3, none⟩ = some (.int .i64 Q) := by rw [g0.cell (p := ⟨w.heap.size, 3, none⟩) (by simp)]; simp
    go_wp2_with fail
    refine (G.out _).mono ?_; rintro e gw ⟨rfl, g⟩
    have hs : w.heap.size < gw.heap.size := by have := g0.size; have := g.size; simp at *; omega
    have d0 : gw.cell? ⟨w.heap.size, 0, none⟩ = some (.int .i64 A) := by rw [g.cell (p := ⟨w.heap.size, 0, none⟩) (by have := g0.size; simp at this; simp; omega)]; exact c0
    have d1 : gw.cell? ⟨w.heap.size, 1, none⟩ = some (.int .i64 B) := by rw [g.cell (p := ⟨w.heap.size, 1, none⟩) (by have := g0.size; simp at this; simp; omega)]; exact c1
    have d2 : gw.cell? ⟨w.heap.size, 2, none⟩ = some (.int .i64 P) := by rw [g.cell (p := ⟨w.heap.size, 2, none⟩) (by have := g0.size; simp at this; simp; omega)]; exact c2
    have d3 : gw.cell? ⟨w.heap.size, 3, none⟩ = some (.int .i64 Q) := by rw [g.cell (p := ⟨w.heap.size, 3, none⟩) (by have := g0.size; simp at this; simp; omega)]; exact c3
    go_wp2
    go_ret
    exact ⟨rfl, by have s0 := g0.size; (try simp only [World.heap_drewN, World.size_alloc] at s0); have s1 := g.size; (try simp only [World.heap_drewN, World.size_alloc] at s1); repeat (first | exact Below.refl _ _ | exact g0 | exact g | refine Below.trans ?_ (Below.mono g0 (by first | omega | (simp; done) | (simp; omega))) | refine Below.trans ?_ (Below.mono g (by first | omega | (simp; done) | (simp; omega))) | refine Below.setCell ?_ (by first | omega | (simp; done) | (simp; omega)) _ | refine below_dN ?_ _ | refine Below.drew ?_ | refine Below.alloc ?_ (by first | omega | (simp; done) | (simp; omega)) _)⟩
  have k1' : decide (a < -100000000) = false := decide_eq_false k1
  by_cases k2 : 100000000 < a
  · clear hA hB ha hb hg hA0 ha0 hb0
    go_enter Try.func8, Try.ntmps8
    go_wp2_with fail
    refine (AW.out _).mono ?_; rintro e g0w ⟨rfl, g0⟩
    have c0 : g0w.cell? ⟨w.heap.size, 0, none⟩ = some (.int .i64 A) := by rw [g0.cell (p := ⟨w.heap.size, 0, none⟩) (by simp)]; simp
    have c1 : g0w.cell? ⟨w.heap.size, 1, none⟩ = some (.int .i64 B) := by rw [g0.cell (p := ⟨w.heap.size, 1, none⟩) (by simp)]; simp
    have c2 : g0w.cell? ⟨w.heap.size, 2, none⟩ = some (.int .i64 P) := by rw [g0.cell (p := ⟨w.heap.size, 2, none⟩) (by simp)]; simp
    have c3 : g0w.cell? ⟨w.heap.size, 3, none⟩ = some (.int .i64 Q) := by rw [g0.cell (p := ⟨w.heap.size, 3, none⟩) (by simp)]; simp
    go_wp2_with fail
    refine (G.out _).mono ?_; rintro e gw ⟨rfl, g⟩
    have hs : w.heap.size < gw.heap.size := by have := g0.size; have := g.size; simp at *; omega
    have d0 : gw.cell? ⟨w.heap.size, 0, none⟩ = some (.int .i64 A) := by rw [g.cell (p := ⟨w.heap.size, 0, none⟩) (by have := g0.size; simp at this; simp; omega)]; exact c0
    have d1 : gw.cell? ⟨w.heap.size, 1, none⟩ = some (.int .i64 B) := by rw [g.cell (p := ⟨w.heap.size, 1, none⟩) (by have := g0.size; simp at this; simp; omega)]; exact c1
    have d2 : gw.cell? ⟨w.heap.size, 2, none⟩ = some (.int .i64 P) := by rw [g.cell (p := ⟨w.heap.size, 2, none⟩) (by have := g0.size; simp at this; simp; omega)]; exact c2
    have d3 : gw.cell? ⟨w.heap.size, 3, none⟩ = some (.int .i64 Q) := by rw [g.cell (p := ⟨w.heap.size, 3, none⟩) (by have := g0.size; simp at this; simp; omega)]; exact c3
    go_wp2
    go_ret
    exact ⟨rfl, by have s0 := g0.size; (try simp only [World.heap_drewN, World.size_alloc] at s0); have s1 := g.size; (try simp only [World.heap_drewN, World.size_alloc] at s1); repeat (first | exact Below.refl _ _ | exact g0 | exact g | refine Below.trans ?_ (Below.mono g0 (by first | omega | (simp; done) | (simp; omega))) | refine Below.trans ?_ (Below.mono g (by first | omega | (simp; done) | (simp; omega))) | refine Below.setCell ?_ (by first | omega | (simp; done) | (simp; omega)) _ | refine below_dN ?_ _ | refine Below.drew ?_ | refine Below.alloc ?_ (by first | omega | (simp; done) | (simp; omega)) _)⟩
  have k2' : decide (100000000 < a) = false := decide_eq_false k2
  by_cases k3 : b < -100000000
  · clear hA hB ha hb hg hA0 ha0 hb0
    go_enter Try.func8, Try.ntmps8
    go_wp2_with fail
    refine (AW.out _).mono ?_; rintro e g0w ⟨rfl, g0⟩
    have c0 : g0w.cell? ⟨w.heap.size, 0, none⟩ = some (.int .i64 A) := by rw [g0.cell (p := ⟨w.heap.size, 0, none⟩) (by simp)]; simp
    have c1 : g0w.cell? ⟨w.heap.size, 1, none⟩ = some (.int .i64 B) := by rw [g0.cell (p := ⟨w.heap.size, 1, none⟩) (by simp)]; simp
    have c2 : g0w.cell? ⟨w.heap.size, 2, none⟩ = some (.int .i64 P) := by rw [g0.cell (p := ⟨w.heap.size, 2, none⟩) (by simp)]; simp
    have c3 : g0w.cell? ⟨w.heap.size, 3, none⟩ = some (.int .i64 Q) := by rw [g0.cell (p := ⟨w.heap.size, 3, none⟩) (by simp)]; simp
    go_wp2_with fail
    refine (G.out _).mono ?_; rintro e gw ⟨rfl, g⟩
    have hs : w.heap.size < gw.heap.size := by have := g0.size; have := g.size; simp at *; omega
    have d0 : gw.cell? ⟨w.heap.size, 0, none⟩ = some (.int .i64 A) := by rw [g.cell (p := ⟨w.heap.size, 0, none⟩) (by have := g0.size; simp at this; simp; omega)]; exact c0
    have d1 : gw.cell? ⟨w.heap.size, 1, none⟩ = some (.int .i64 B) := by rw [g.cell (p := ⟨w.heap.size, 1, none⟩) (by have := g0.size; simp at this; simp; omega)]; exact c1
    have d2 : gw.cell? ⟨w.heap.size, 2, none⟩ = some (.int .i64 P) := by rw [g.cell (p := ⟨w.heap.size, 2, none⟩) (by have := g0.size; simp at this; simp; omega)]; exact c2
    have d3 : gw.cell? ⟨w.heap.size, 3, none⟩ = some (.int .i64 Q) := by rw [g.cell (p := ⟨w.heap.size, 3, none⟩) (by have := g0.size; simp at this; simp; omega)]; exact c3
    go_wp2
    go_ret
    exact ⟨rfl, by have s0 := g0.size; (try simp only [World.heap_drewN, World.size_alloc] at s0); have s1 := g.size; (try simp only [World.heap_drewN, World.size_alloc] at s1); repeat (first | exact Below.refl _ _ | exact g0 | exact g | refine Below.trans ?_ (Below.mono g0 (by first | omega | (simp; done) | (simp; omega))) | refine Below.trans ?_ (Below.mono g (by first | omega | (simp; done) | (simp; omega))) | refine Below.setCell ?_ (by first | omega | (simp; done) | (simp; omega)) _ | refine below_dN ?_ _ | refine Below.drew ?_ | refine Below.alloc ?_ (by first | omega | (simp; done) | (simp; omega)) _)⟩
  have k3' : decide (b < -100000000) = false := decide_eq_false k3
  by_cases k4 : 100000000 < b
  · clear hA hB ha hb hg hA0 ha0 hb0
    go_enter Try.func8, Try.ntmps8
    go_wp2_with fail
    refine (AW.out _).mono ?_; rintro e g0w ⟨rfl, g0⟩
    have c0 : g0w.cell? ⟨w.heap.size, 0, none⟩ = some (.int .i64 A) := by rw [g0.cell (p := ⟨w.heap.size, 0, none⟩) (by simp)]; simp
    have c1 : g0w.cell? ⟨w.heap.size, 1, none⟩ = some (.int .i64 B) := by rw [g0.cell (p := ⟨w.heap.size, 1, none⟩) (by simp)]; simp
    have c2 : g0w.cell? ⟨w.heap.size, 2, none⟩ = some (.int .i64 P) := by rw [g0.cell (p := ⟨w.heap.size, 2, none⟩) (by simp)]; simp
    have c3 : g0w.cell? ⟨w.heap.size, 3, none⟩ = some (.int .i64 Q) := by rw [g0.cell (p := ⟨w.heap.size, 3, none⟩) (by simp)]; simp
    go_wp2_with fail
    refine (G.out _).mono ?_; rintro e gw ⟨rfl, g⟩
    have hs : w.heap.size < gw.heap.size := by have := g0.size; have := g.size; simp at *; omega
    have d0 : gw.cell? ⟨w.heap.size, 0, none⟩ = some (.int .i64 A) := by rw [g.cell (p := ⟨w.heap.size, 0, none⟩) (by have := g0.size; simp at this; simp; omega)]; exact c0
    have d1 : gw.cell? ⟨w.heap.size, 1, none⟩ = some (.int .i64 B) := by rw [g.cell (p := ⟨w.heap.size, 1, none⟩) (by have := g0.size; simp at this; simp; omega)]; exact c1
    have d2 : gw.cell? ⟨w.heap.size, 2, none⟩ = some (.int .i64 P) := by rw [g.cell (p := ⟨w.heap.size, 2, none⟩) (by have := g0.size; simp at this; simp; omega)]; exact c2
    have d3 : gw.cell? ⟨w.heap.size, 3, none⟩ = some (.int .i64 Q) := by rw [g.cell (p := ⟨w.heap.size, 3, none⟩) (by have := g0.size; simp at this; simp; omega)]; exact c3
    go_wp2
    go_ret
    exact ⟨rfl, by have s0 := g0.size; (try simp only [World.heap_drewN, World.size_alloc] at s0); have s1 := g.size; (try simp only [World.heap_drewN, World.size_alloc] at s1); repeat (first | exact Below.refl _ _ | exact g0 | exact g | refine Below.trans ?_ (Below.mono g0 (by first | omega | (simp; done) | (simp; omega))) | refine Below.trans ?_ (Below.mono g (by first | omega | (simp; done) | (simp; omega))) | refine Below.setCell ?_ (by first | omega | (simp; done) | (simp; omega)) _ | refine below_dN ?_ _ | refine Below.drew ?_ | refine Below.alloc ?_ (by first | omega | (simp; done) | (simp; omega)) _)⟩
  have k4' : decide (100000000 < b) = false := decide_eq_false k4
  by_cases k5 : A < -100000000
  · clear hA hB ha hb hg hA0 ha0 hb0
    go_enter Try.func8, Try.ntmps8
    go_wp2_with fail
    refine (AW.out _).mono ?_; rintro e g0w ⟨rfl, g0⟩
    have c0 : g0w.cell? ⟨w.heap.size, 0, none⟩ = some (.int .i64 A) := by rw [g0.cell (p := ⟨w.heap.size, 0, none⟩) (by simp)]; simp
    have c1 : g0w.cell? ⟨w.heap.size, 1, none⟩ = some (.int .i64 B) := by rw [g0.cell (p := ⟨w.heap.size, 1, none⟩) (by simp)]; simp
    have c2 : g0w.cell? ⟨w.heap.size, 2, none⟩ = some (.int .i64 P) := by rw [g0.cell (p := ⟨w.heap.size, 2, none⟩) (by simp)]; simp
    have c3 : g0w.cell? ⟨w.heap.size, 3, none⟩ = some (.int .i64 Q) := by rw [g0.cell (p := ⟨w.heap.size, 3, none⟩) (by simp)]; simp
    go_wp2_with fail
    refine (G.out _).mono ?_; rintro e gw ⟨rfl, g⟩
    have hs : w.heap.size < gw.heap.size := by have := g0.size; have := g.size; simp at *; omega
    have d0 : gw.cell? ⟨w.heap.size, 0, none⟩ = some (.int .i64 A) := by rw [g.cell (p := ⟨w.heap.size, 0, none⟩) (by have := g0.size; simp at this; simp; omega)]; exact c0
    have d1 : gw.cell? ⟨w.heap.size, 1, none⟩ = some (.int .i64 B) := by rw [g.cell (p := ⟨w.heap.size, 1, none⟩) (by have := g0.size; simp at this; simp; omega)]; exact c1
    have d2 : gw.cell? ⟨w.heap.size, 2, none⟩ = some (.int .i64 P) := by rw [g.cell (p := ⟨w.heap.size, 2, none⟩) (by have := g0.size; simp at this; simp; omega)]; exact c2
    have d3 : gw.cell? ⟨w.heap.size, 3, none⟩ = some (.int .i64 Q) := by rw [g.cell (p := ⟨w.heap.size, 3, none⟩) (by have := g0.size; simp at this; simp; omega)]; exact c3
    go_wp2
    go_ret
    exact ⟨rfl, by have s0 := g0.size; (try simp only [World.heap_drewN, World.size_alloc] at s0); have s1 := g.size; (try simp only [World.heap_drewN, World.size_alloc] at s1); repeat (first | exact Below.refl _ _ | exact g0 | exact g | refine Below.trans ?_ (Below.mono g0 (by first | omega | (simp; done) | (simp; omega))) | refine Below.trans ?_ (Below.mono g (by first | omega | (simp; done) | (simp; omega))) | refine Below.setCell ?_ (by first | omega | (simp; done) | (simp; omega)) _ | refine below_dN ?_ _ | refine Below.drew ?_ | refine Below.alloc ?_ (by first | omega | (simp; done) | (simp; omega)) _)⟩
  have k5' : decide (A < -100000000) = false := decide_eq_false k5
  by_cases k6 : 100000000 < A
  · clear hA hB ha hb hg hA0 ha0 hb0
    go_enter Try.func8, Try.ntmps8
    go_wp2_with fail
    refine (AW.out _).mono ?_; rintro e g0w ⟨rfl, g0⟩
    have c0 : g0w.cell? ⟨w.heap.size, 0, none⟩ = some (.int .i64 A) := by rw [g0.cell (p := ⟨w.heap.size, 0, none⟩) (by simp)]; simp
    have c1 : g0w.cell? ⟨w.heap.size, 1, none⟩ = some (.int .i64 B) := by rw [g0.cell (p := ⟨w.heap.size, 1, none⟩) (by simp)]; simp
    have c2 : g0w.cell? ⟨w.heap.size, 2, none⟩ = some (.int .i64 P) := by rw [g0.cell (p := ⟨w.heap.size, 2, none⟩) (by simp)]; simp
    have c3 : g0w.cell? ⟨w.heap.size, 3, none⟩ = some (.int .i64 Q) := by rw [g0.cell (p := ⟨w.heap.size, 3, none⟩) (by simp)]; simp
    go_wp2_with fail
    refine (G.out _).mono ?_; rintro e gw ⟨rfl, g⟩
    have hs : w.heap.size < gw.heap.size := by have := g0.size; have := g.size; simp at *; omega
    have d0 : gw.cell? ⟨w.heap.size, 0, none⟩ = some (.int .i64 A) := by rw [g.cell (p := ⟨w.heap.size, 0, none⟩) (by have := g0.size; simp at this; simp; omega)]; exact c0
    have d1 : gw.cell? ⟨w.heap.size, 1, none⟩ = some (.int .i64 B) := by rw [g.cell (p := ⟨w.heap.size, 1, none⟩) (by have := g0.size; simp at this; simp; omega)]; exact c1
    have d2 : gw.cell? ⟨w.heap.size, 2, none⟩ = some (.int .i64 P) := by rw [g.cell (p := ⟨w.heap.size, 2, none⟩) (by have := g0.size; simp at this; simp; omega)]; exact c2
    have d3 : gw.cell? ⟨w.heap.size, 3, none⟩ = some (.int .i64 Q) := by rw [g.cell (p := ⟨w.heap.size, 3, none⟩) (by have := g0.size; simp at this; simp; omega)]; exact c3
    go_wp2
    go_ret
    exact ⟨rfl, by have s0 := g0.size; (try simp only [World.heap_drewN, World.size_alloc] at s0); have s1 := g.size; (try simp only [World.heap_drewN, World.size_alloc] at s1); repeat (first | exact Below.refl _ _ | exact g0 | exact g | refine Below.trans ?_ (Below.mono g0 (by first | omega | (simp; done) | (simp; omega))) | refine Below.trans ?_ (Below.mono g (by first | omega | (simp; done) | (simp; omega))) | refine Below.setCell ?_ (by first | omega | (simp; done) | (simp; omega)) _ | refine below_dN ?_ _ | refine Below.drew ?_ | refine Below.alloc ?_ (by first | omega | (simp; done) | (simp; omega)) _)⟩
  have k6' : decide (100000000 < A) = false := decide_eq_false k6
  have hgi := goodB_iff.1 hg
  have T := signZ_turn (b + A - a) B P Q
  rw [show -(b + A - a) = a - b - A by omega] at T
  obtain ⟨z, hz⟩ : ∃ z, signZ (b + A - a) B P Q = z := ⟨_, rfl⟩
  have uz : -1 ≤ z ∧ z ≤ 1 := by
    rw [← hz, signZ_good (goodB_iff.2 (by omega))]; exact unit3 rfl
  rw [hz] at T
  have e1 : wrap64 (b + A) = b + A := wrap64_of (by omega) (by omega)
  have e2 : wrap64 (b + A - a) = b + A - a := wrap64_of (by omega) (by omega)
  have e3 : IntKind.i64.wrap (-z) = -z := by rw [IntWalk.i64_left]; exact wrap64_of (by omega) (by omega)
  obtain ⟨s1, h1⟩ : ∃ y, b + A = y := ⟨_, rfl⟩
  replace e1 := e1.trans h1
  rw [h1] at hz e2
  obtain ⟨d, h2⟩ : ∃ y, s1 - a = y := ⟨_, rfl⟩
  replace e2 := e2.trans h2
  rw [h2] at hz
  obtain ⟨nz, h3⟩ : ∃ y, -z = y := ⟨_, rfl⟩
  replace e3 := e3.trans h3
  rw [h3] at T
  have C1 := Lib.hid (cmp_any a b A B P Q nz · ha hb hA hB T)
  have C2 := Lib.hid (sign_any d B P Q z · hz)
  clear hA hB ha hb hg hA0 ha0 hb0 T hz uz h1 h2 h3 hgi k1 k2 k3 k4 k5 k6
  go_enter Try.func8, Try.ntmps8
  go_wp2_with fail
  refine (AW.out _).mono ?_; rintro e g0w ⟨rfl, g0⟩
  have c0 : g0w.cell? ⟨w.heap.size, 0, none⟩ = some (.int .i64 A) := by rw [g0.cell (p := ⟨w.heap.size, 0, none⟩) (by simp)]; simp
  have c1 : g0w.cell? ⟨w.heap.size, 1, none⟩ = some (.int .i64 B) := by rw [g0.cell (p := ⟨w.heap.size, 1, none⟩) (by simp)]; simp
  have c2 : g0w.cell? ⟨w.heap.size, 2, none⟩ = some (.int .i64 P) := by rw [g0.cell (p := ⟨w.heap.size, 2, none⟩) (by simp)]; simp
  have c3 : g0w.cell? ⟨w.heap.size, 3, none⟩ = some (.int .i64 Q) := by rw [g0.cell (p := ⟨w.heap.size, 3, none⟩) (by simp)]; simp
  go_wp2_with fail
  refine (G.out _).mono ?_; rintro e gw ⟨rfl, g⟩
  have hs : w.heap.size < gw.heap.size := by have := g0.size; have := g.size; simp at *; omega
  have d0 : gw.cell? ⟨w.heap.size, 0, none⟩ = some (.int .i64 A) := by rw [g.cell (p := ⟨w.heap.size, 0, none⟩) (by have := g0.size; simp at this; simp; omega)]; exact c0
  have d1 : gw.cell? ⟨w.heap.size, 1, none⟩ = some (.int .i64 B) := by rw [g.cell (p := ⟨w.heap.size, 1, none⟩) (by have := g0.size; simp at this; simp; omega)]; exact c1
  have d2 : gw.cell? ⟨w.heap.size, 2, none⟩ = some (.int .i64 P) := by rw [g.cell (p := ⟨w.heap.size, 2, none⟩) (by have := g0.size; simp at this; simp; omega)]; exact c2
  have d3 : gw.cell? ⟨w.heap.size, 3, none⟩ = some (.int .i64 Q) := by rw [g.cell (p := ⟨w.heap.size, 3, none⟩) (by have := g0.size; simp at this; simp; omega)]; exact c3
  go_wp2_with fail
  have B0 : Below w.heap.size w gw := by
    have s0 := g0.size; (try simp only [World.heap_drewN, World.size_alloc] at s0)
    exact (Below.alloc (Below.refl _ _) (Nat.le_refl _) _).trans ((g0.mono (by simp)).trans (g.mono (by omega)))
  generalize hx : gw.alloc (Obj.cells #[Value.int IntKind.i64 d, Value.int IntKind.i64 B, Value.int IntKind.i64 P, Value.int IntKind.i64 Q] 25) = wx
  have r1 : Four wx w.heap.size A B P Q := by subst hx; exact ⟨by go_simp, by go_simp, by go_simp, by go_simp⟩
  have r2 : Four wx gw.heap.size d B P Q := by subst hx; exact ⟨by go_simp, by go_simp, by go_simp, by go_simp⟩
  have Bx : Below w.heap.size w wx := by subst hx; exact Below.alloc B0 (Nat.le_of_lt hs) _
  have l2 : gw.heap.size < wx.heap.size := by subst hx; simp
  have l1 : w.heap.size < wx.heap.size := by omega
  have BX := Lib.hid (show ∀ wf, Below wx.heap.size wx wf → Below w.heap.size w wf from fun wf h => Bx.trans (Below.mono h (by omega)))
  clear hx d0 d1 d2 d3 c0 c1 c2 c3 B0 hs g g0 Bx
  generalize w.heap.size = b1 at r1 l1 ⊢
  generalize gw.heap.size = b2 at r2 l2 ⊢
  go_region_held3 (fun W => Below wx.heap.size wx W ∧ (W.cell? ⟨b1, 0, none⟩ = some (.int .i64 A) ∧ W.cell? ⟨b1, 1, none⟩ = some (.int .i64 B) ∧ W.cell? ⟨b1, 2, none⟩ = some (.int .i64 P) ∧ W.cell? ⟨b1, 3, none⟩ = some (.int .i64 Q)) ∧ (W.cell? ⟨b2, 0, none⟩ = some (.int .i64 d) ∧ W.cell? ⟨b2, 1, none⟩ = some (.int .i64 B) ∧ W.cell? ⟨b2, 2, none⟩ = some (.int .i64 P) ∧ W.cell? ⟨b2, 3, none⟩ = some (.int .i64 Q)))
    (first | assumption | exact ⟨Below.drew (Below.refl _ _), r1, r2⟩ | (refine held2_on ?_ hb l1 l2; assumption))
    (first
      | (go_at_call 12; refine (C1.out _).mono ?_; rintro e w2 ⟨rfl, hb⟩)
      | (go_at_call 11; refine (C2.out _).mono ?_; rintro e w2 ⟨rfl, hb⟩))
  all_goals (go_wp2; go_ret; exact ⟨rfl, BX.out _ (And.left (by assumption))⟩)

set_option maxHeartbeats 4000000 in
theorem SurdSays_ret (A B P Q a b v x : Int) (w : World) (hA : fitB A = true) (hB : fitB B = true) (hP : fitB P = true) (hQ : fitB Q = true) (ha : fitB a = true) (hb : fitB b = true) (hv : fitB v = true) (hx : fitB x = true) :
    Calls Try.prog 4 #[.agg #[.int .i64 A, .int .i64 B, .int .i64 P, .int .i64 Q], .int .i64 a, .int .i64 b, .int .i64 v, .int .i64 x] w (RetB (.bool true) w) := by
  have AW := Lib.hid awake2
  obtain ⟨o1, h1⟩ : ∃ y, goodB A B P Q = y := ⟨_, rfl⟩
  obtain ⟨z2, h2⟩ : ∃ y, signZ A B P Q = y := ⟨_, rfl⟩
  obtain ⟨z3, h3⟩ : ∃ y, signZ (a - b - A) (-B) P Q = y := ⟨_, rfl⟩
  obtain ⟨o4, h4⟩ : ∃ y, aboveB v x P Q = y := ⟨_, rfl⟩
  obtain ⟨o5, h5⟩ : ∃ y, boundB v x P Q = y := ⟨_, rfl⟩
  have C1 := Lib.hid (good_any A B P Q o1 · h1)
  have C2 := Lib.hid (sign_any A B P Q z2 · h2)
  have C3 := Lib.hid (cmp_any a b A B P Q z3 · ha hb hA hB h3)
  have C4 := Lib.hid (above_any v x P Q o4 · h4)
  have C5 := Lib.hid (bound_any v x P Q o5 · h5)
  have R1 := Lib.hid (rgood_any A B P Q o1 · h1)
  have R2 := Lib.hid (rsign_any A B P Q z2 · h2)
  have R3 := Lib.hid (rcmpS_any a b A B P Q z3 · ha hb hA hB h3)
  have R4 := Lib.hid (rabove_any v x P Q o4 · h4)
  have R5 := Lib.hid (rbound_any v x P Q o5 · h5)
  clear hA hB hP hQ ha hb hv hx h1 h2 h3 h4 h5
  go_enter Try.func4, Try.ntmps4
  go_wp2_with fail
  refine (AW.out _).mono ?_; rintro e gw ⟨rfl, g⟩
  have c0 : gw.cell? ⟨w.heap.size, 0, none⟩ = some (.int .i64 A) := by rw [g.cell (p := ⟨w.heap.size, 0, none⟩) (by simp)]; simp
  have c1 : gw.cell? ⟨w.heap.size, 1, none⟩ = some (.int .i64 B) := by rw [g.cell (p := ⟨w.heap.size, 1, none⟩) (by simp)]; simp
  have c2 : gw.cell? ⟨w.heap.size, 2, none⟩ = some (.int .i64 P) := by rw [g.cell (p := ⟨w.heap.size, 2, none⟩) (by simp)]; simp
  have c3 : gw.cell? ⟨w.heap.size, 3, none⟩ = some (.int .i64 Q) := by rw [g.cell (p := ⟨w.heap.size, 3, none⟩) (by simp)]; simp
  have hs : w.heap.size < gw.heap.size := by have := g.size; simp at *; omega
  go_wp2_with fail
  have B0 : Below w.heap.size w gw := (Below.alloc (Below.refl _ _) (Nat.le_refl _) _).trans (g.mono (by simp))
  generalize hx : gw.alloc (Obj.cells #[Value.int IntKind.i64 A, Value.int IntKind.i64 B, Value.int IntKind.i64 P, Value.int IntKind.i64 Q] 28) = wx
  have r1 : Four wx w.heap.size A B P Q := by subst hx; exact ⟨by go_simp, by go_simp, by go_simp, by go_simp⟩
  have r2 : Four wx gw.heap.size A B P Q := by subst hx; exact ⟨by go_simp, by go_simp, by go_simp, by go_simp⟩
  have Bx : Below w.heap.size w wx := by subst hx; exact Below.alloc B0 (Nat.le_of_lt hs) _
  have l2 : gw.heap.size < wx.heap.size := by subst hx; simp
  have l1 : w.heap.size < wx.heap.size := by omega
  have BX := Lib.hid (show ∀ wf, Below wx.heap.size wx wf → Below w.heap.size w wf from fun wf h => Bx.trans (Below.mono h (by omega)))
  clear hx c0 c1 c2 c3 B0 hs g Bx
  generalize w.heap.size = b1 at r1 l1 ⊢
  generalize gw.heap.size = b2 at r2 l2 ⊢
  go_region_held3 (fun W => Below wx.heap.size wx W ∧ (W.cell? ⟨b1, 0, none⟩ = some (.int .i64 A) ∧ W.cell? ⟨b1, 1, none⟩ = some (.int .i64 B) ∧ W.cell? ⟨b1, 2, none⟩ = some (.int .i64 P) ∧ W.cell? ⟨b1, 3, none⟩ = some (.int .i64 Q)) ∧ (W.cell? ⟨b2, 0, none⟩ = some (.int .i64 A) ∧ W.cell? ⟨b2, 1, none⟩ = some (.int .i64 B) ∧ W.cell? ⟨b2, 2, none⟩ = some (.int .i64 P) ∧ W.cell? ⟨b2, 3, none⟩ = some (.int .i64 Q)))
    (first | assumption | exact ⟨Below.drew (Below.refl _ _), r1, r2⟩ | (refine held2_on ?_ hb l1 l2; assumption))
    (first
      | (go_at_call 15; refine (C1.out _).mono ?_; rintro e w2 ⟨rfl, hb⟩)
      | (go_at_call 11; refine (C2.out _).mono ?_; rintro e w2 ⟨rfl, hb⟩)
      | (go_at_call 12; refine (C3.out _).mono ?_; rintro e w2 ⟨rfl, hb⟩)
      | (go_at_call 14; refine (C4.out _).mono ?_; rintro e w2 ⟨rfl, hb⟩)
      | (go_at_call 13; refine (C5.out _).mono ?_; rintro e w2 ⟨rfl, hb⟩)
      | (go_at_call 16; refine (R1.out _).mono ?_; rintro e w2 ⟨rfl, hb⟩)
      | (go_at_call 17; refine (R2.out _).mono ?_; rintro e w2 ⟨rfl, hb⟩)
      | (go_at_call 18; refine (R3.out _).mono ?_; rintro e w2 ⟨rfl, hb⟩)
      | (go_at_call 19; refine (R4.out _).mono ?_; rintro e w2 ⟨rfl, hb⟩)
      | (go_at_call 20; refine (R5.out _).mono ?_; rintro e w2 ⟨rfl, hb⟩))
  all_goals (go_wp2; go_ret; exact ⟨rfl, BX.out _ (And.left (by assumption))⟩)
end Go.Proofs.Ytdflllhepijcgaa
