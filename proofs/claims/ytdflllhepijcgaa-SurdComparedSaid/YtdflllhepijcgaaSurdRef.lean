/- The contracts of the document's own reckoning of layer 2: each answers as package surd's functions do. -/
import Derived.Test.YtdflllhepijcgaaSurd
import Derived.Test.YtdflllhepijcgaaRef4
namespace Go.Proofs.Ytdflllhepijcgaa
open Go.RowKit
set_option linter.unusedVariables false
set_option linter.unusedSimpArgs false

set_option maxHeartbeats 1000000 in
theorem rgood_any (A B P Q : Int) (b : Bool) (w : World) (h : goodB A B P Q = b) :
    Calls Try.prog 16 #[.agg #[.int .i64 A, .int .i64 B, .int .i64 P, .int .i64 Q]] w (RetB (.bool b) w) := by
  by_cases k1 : ¬ (-1000000000 ≤ A)
  · have k1' : decide (-1000000000 ≤ A) = false := decide_eq_false k1
    obtain rfl : b = false := by rw [← h]; exact goodB_not.2 (by omega)
    clear h
    go_enter Try.func16, Try.ntmps16
    go_wp2
    go_ret
    exact ⟨rfl, by repeat (first | exact Below.refl _ _ | refine Below.setCell ?_ (by first | omega | (simp; done) | (simp; omega)) _ | refine below_dN ?_ _ | refine Below.drew ?_ | refine Below.alloc ?_ (by first | omega | (simp; done) | (simp; omega)) _)⟩
  replace k1 : -1000000000 ≤ A := Classical.not_not.1 k1
  by_cases k2 : ¬ (A ≤ 1000000000)
  · have k2' : decide (A ≤ 1000000000) = false := decide_eq_false k2
    obtain rfl : b = false := by rw [← h]; exact goodB_not.2 (by omega)
    clear h
    go_enter Try.func16, Try.ntmps16
    go_wp2
    go_ret
    exact ⟨rfl, by repeat (first | exact Below.refl _ _ | refine Below.setCell ?_ (by first | omega | (simp; done) | (simp; omega)) _ | refine below_dN ?_ _ | refine Below.drew ?_ | refine Below.alloc ?_ (by first | omega | (simp; done) | (simp; omega)) _)⟩
  replace k2 : A ≤ 1000000000 := Classical.not_not.1 k2
  by_cases k3 : ¬ (-1000000000 ≤ B)
  · have k3' : decide (-1000000000 ≤ B) = false := decide_eq_false k3
    obtain rfl : b = false := by rw [← h]; exact goodB_not.2 (by omega)
    clear h
    go_enter Try.func16, Try.ntmps16
    go_wp2
    go_ret
    exact ⟨rfl, by repeat (first | exact Below.refl _ _ | refine Below.setCell ?_ (by first | omega | (simp; done) | (simp; omega)) _ | refine below_dN ?_ _ | refine Below.drew ?_ | refine Below.alloc ?_ (by first | omega | (simp; done) | (simp; omega)) _)⟩
  replace k3 : -1000000000 ≤ B := Classical.not_not.1 k3
  by_cases k4 : ¬ (B ≤ 1000000000)
  · have k4' : decide (B ≤ 1000000000) = false := decide_eq_false k4
    obtain rfl : b = false := by rw [← h]; exact goodB_not.2 (by omega)
    clear h
    go_enter Try.func16, Try.ntmps16
    go_wp2
    go_ret
    exact ⟨rfl, by repeat (first | exact Below.refl _ _ | refine Below.setCell ?_ (by first | omega | (simp; done) | (simp; omega)) _ | refine below_dN ?_ _ | refine Below.drew ?_ | refine Below.alloc ?_ (by first | omega | (simp; done) | (simp; omega)) _)⟩
  replace k4 : B ≤ 1000000000 := Classical.not_not.1 k4
  by_cases k5 : ¬ (0 ≤ P)
  · have k5' : decide (0 ≤ P) = false := decide_eq_false k5
    obtain rfl : b = false := by rw [← h]; exact goodB_not.2 (by omega)
    clear h
    go_enter Try.func16, Try.ntmps16
    go_wp2
    go_ret
    exact ⟨rfl, by repeat (first | exact Below.refl _ _ | refine Below.setCell ?_ (by first | omega | (simp; done) | (simp; omega)) _ | refine below_dN ?_ _ | refine Below.drew ?_ | refine Below.alloc ?_ (by first | omega | (simp; done) | (simp; omega)) _)⟩
  replace k5 : 0 ≤ P := Classical.not_not.1 k5
  by_cases k6 : ¬ (P ≤ 1000000)
  · have k6' : decide (P ≤ 1000000) = false := decide_eq_false k6
    obtain rfl : b = false := by rw [← h]; exact goodB_not.2 (by omega)
    clear h
    go_enter Try.func16, Try.ntmps16
    go_wp2
    go_ret
    exact ⟨rfl, by repeat (first | exact Below.refl _ _ | refine Below.setCell ?_ (by first | omega | (simp; done) | (simp; omega)) _ | refine below_dN ?_ _ | refine Below.drew ?_ | refine Below.alloc ?_ (by first | omega | (simp; done) | (simp; omega)) _)⟩
  replace k6 : P ≤ 1000000 := Classical.not_not.1 k6
  by_cases k7 : ¬ (1 ≤ Q)
  · have k7' : decide (1 ≤ Q) = false := decide_eq_false k7
    obtain rfl : b = false := by rw [← h]; exact goodB_not.2 (by omega)
    clear h
    go_enter Try.func16, Try.ntmps16
    go_wp2
    go_ret
    exact ⟨rfl, by repeat (first | exact Below.refl _ _ | refine Below.setCell ?_ (by first | omega | (simp; done) | (simp; omega)) _ | refine below_dN ?_ _ | refine Below.drew ?_ | refine Below.alloc ?_ (by first | omega | (simp; done) | (simp; omega)) _)⟩
  replace k7 : 1 ≤ Q := Classical.not_not.1 k7
  by_cases k8 : ¬ (Q ≤ 1000000)
  · have k8' : decide (Q ≤ 1000000) = false := decide_eq_false k8
    obtain rfl : b = false := by rw [← h]; exact goodB_not.2 (by omega)
    clear h
    go_enter Try.func16, Try.ntmps16
    go_wp2
    go_ret
    exact ⟨rfl, by repeat (first | exact Below.refl _ _ | refine Below.setCell ?_ (by first | omega | (simp; done) | (simp; omega)) _ | refine below_dN ?_ _ | refine Below.drew ?_ | refine Below.alloc ?_ (by first | omega | (simp; done) | (simp; omega)) _)⟩
  replace k8 : Q ≤ 1000000 := Classical.not_not.1 k8
  obtain rfl : b = true := by rw [← h]; exact goodB_iff.2 (by omega)
  clear h
  go_enter Try.func16, Try.ntmps16
  go_wp2
  go_ret
  exact ⟨rfl, by repeat (first | exact Below.refl _ _ | refine Below.setCell ?_ (by first | omega | (simp; done) | (simp; omega)) _ | refine below_dN ?_ _ | refine Below.drew ?_ | refine Below.alloc ?_ (by first | omega | (simp; done) | (simp; omega)) _)⟩

theorem rsign_int (n c : Int) (w : World) (h : cmpZ n 0 = c) : Calls Try.prog 27 #[.int .i64 n] w (Ret (.int .i64 c) w) := by
  rcases cmpZ_cases n 0 with ⟨k, e⟩ | ⟨k, e⟩ | ⟨k, e⟩
  · obtain rfl : c = -1 := by rw [← h, e]
    clear h e
    go_enter Try.func27, Try.ntmps27
    go_wp2
    go_ret
    first | exact ⟨rfl, 0, rfl⟩ | exact ⟨rfl, _, rfl⟩
  · obtain rfl : c = 1 := by rw [← h, e]
    have k' : ¬ n < 0 := by omega
    clear h e
    go_enter Try.func27, Try.ntmps27
    go_wp2
    go_ret
    first | exact ⟨rfl, 0, rfl⟩ | exact ⟨rfl, _, rfl⟩
  · obtain rfl : c = 0 := by rw [← h, e]
    have k' : ¬ n < 0 := by omega
    have k2 : ¬ 0 < n := by omega
    clear h e k
    go_enter Try.func27, Try.ntmps27
    go_wp2
    go_ret
    first | exact ⟨rfl, 0, rfl⟩ | exact ⟨rfl, _, rfl⟩

/-- The way of the document's own reckoning. -/
theorem sign_ways2 {A B P Q a b : Int} (hP : 0 ≤ P) (hQ : 1 ≤ Q) (ha : cmpZ A 0 = a) (hb : (if P = 0 then 0 else cmpZ B 0) = b) :
    (a = 0 → cmpZ (rootZ A B P Q) 0 = b) ∧ (a ≠ 0 → b = 0 → cmpZ (rootZ A B P Q) 0 = a) ∧ (a ≠ 0 → a = b → cmpZ (rootZ A B P Q) 0 = a) ∧
    (a ≠ 0 → b ≠ 0 → a ≠ b → cmpZ (rootZ A B P Q) 0 = a * cmpZ (A * A * Q) (B * B * P)) := by
  obtain ⟨W1, W2, W3⟩ := sign_ways hP hQ ha hb
  have ua := unit3 ha
  have ub : -1 ≤ b ∧ b ≤ 1 := by
    rw [← hb]; split
    · omega
    · exact unit3 rfl
  refine ⟨W1, fun h k => W2 h (by omega), fun h k => W2 h (by omega), fun h k l => W3 h (by omega)⟩

set_option maxHeartbeats 2000000 in
theorem rsign_any (A B P Q z : Int) (w : World) (h : signZ A B P Q = z) :
    Calls Try.prog 17 #[.agg #[.int .i64 A, .int .i64 B, .int .i64 P, .int .i64 Q]] w (RetB (.int .i64 z) w) := by
  cases hg : goodB A B P Q
  · have G := Lib.hid (rgood_any A B P Q false · hg)
    obtain rfl : z = 0 := by rw [← h]; exact signZ_bad hg
    clear h hg
    go_enter Try.func17, Try.ntmps17
    go_wp2_with fail
    refine (G.out _).mono ?_; rintro e gw ⟨rfl, g⟩
    go_wp2
    go_ret
    exact ⟨rfl, by have s0 := g.size; (try simp only [World.heap_drewN, World.size_alloc] at s0); repeat (first | exact Below.refl _ _ | exact g | refine Below.trans ?_ (Below.mono g (by first | omega | (simp; done) | (simp; omega))) | refine Below.setCell ?_ (by first | omega | (simp; done) | (simp; omega)) _ | refine below_dN ?_ _ | refine Below.drew ?_ | refine Below.alloc ?_ (by first | omega | (simp; done) | (simp; omega)) _)⟩
  · have G := Lib.hid (rgood_any A B P Q true · hg)
    rw [signZ_good hg] at h
    obtain ⟨A0, A1, B0, B1, P0, P1, Q0, Q1⟩ := goodB_iff.1 hg
    obtain ⟨a, ha⟩ : ∃ a, cmpZ A 0 = a := ⟨_, rfl⟩
    obtain ⟨b, hb⟩ : ∃ b, cmpZ B 0 = b := ⟨_, rfl⟩
    have C1 := Lib.hid (rsign_int A a · ha)
    have C2 := Lib.hid (rsign_int B b · hb)
    have ua := unit3 ha
    have ub := unit3 hb
    have W := sign_ways2 (A := A) (B := B) (a := a) (b := if P = 0 then 0 else b) P0 Q0 ha (by rw [hb])
    rw [h] at W
    obtain ⟨W1, W2, W3, W4⟩ := W
    by_cases hp : P = 0
    · rw [if_pos hp] at W1 W2 W3 W4
      have kp : (P == 0) = true := beq_iff_eq.2 hp
      by_cases a0 : a = 0
      · obtain rfl := W1 a0
        have ka : (a == 0) = true := beq_iff_eq.2 a0
        clear a0 ua ub
        clear W1 W2 W3 W4 h hg ha hb A0 A1 B0 B1 P0 P1 Q0 Q1 hp
        go_enter Try.func17, Try.ntmps17
        go_wp2_with fail
        refine (G.out _).mono ?_; rintro e gw ⟨rfl, g⟩
        have c0 : gw.cell? ⟨w.heap.size, 0, none⟩ = some (.int .i64 A) := by rw [g.cell (p := ⟨w.heap.size, 0, none⟩) (by simp)]; simp
        have c1 : gw.cell? ⟨w.heap.size, 1, none⟩ = some (.int .i64 B) := by rw [g.cell (p := ⟨w.heap.size, 1, none⟩) (by simp)]; simp
        have c2 : gw.cell? ⟨w.heap.size, 2, none⟩ = some (.int .i64 P) := by rw [g.cell (p := ⟨w.heap.size, 2, none⟩) (by simp)]; simp
        have c3 : gw.cell? ⟨w.heap.size, 3, none⟩ = some (.int .i64 Q) := by rw [g.cell (p := ⟨w.heap.size, 3, none⟩) (by simp)]; simp
        go_wp2_with fail
        go_quiet (first | (go_at_call_of 27 A; refine Ret.quiet (C1.out _)) | (go_at_call_of 27 B; refine Ret.quiet (C2.out _)))
        go_wp2
        go_ret
        exact ⟨rfl, by have s0 := g.size; (try simp only [World.heap_drewN, World.size_alloc] at s0); repeat (first | exact Below.refl _ _ | exact g | refine Below.trans ?_ (Below.mono g (by first | omega | (simp; done) | (simp; omega))) | refine Below.setCell ?_ (by first | omega | (simp; done) | (simp; omega)) _ | refine below_dN ?_ _ | refine Below.drew ?_ | refine Below.alloc ?_ (by first | omega | (simp; done) | (simp; omega)) _)⟩
      · obtain rfl := W2 a0 rfl
        have ka : (z == 0) = false := beq_eq_false_iff_ne.2 a0
        clear a0 ua ub
        clear W1 W2 W3 W4 h hg ha hb A0 A1 B0 B1 P0 P1 Q0 Q1 hp
        go_enter Try.func17, Try.ntmps17
        go_wp2_with fail
        refine (G.out _).mono ?_; rintro e gw ⟨rfl, g⟩
        have c0 : gw.cell? ⟨w.heap.size, 0, none⟩ = some (.int .i64 A) := by rw [g.cell (p := ⟨w.heap.size, 0, none⟩) (by simp)]; simp
        have c1 : gw.cell? ⟨w.heap.size, 1, none⟩ = some (.int .i64 B) := by rw [g.cell (p := ⟨w.heap.size, 1, none⟩) (by simp)]; simp
        have c2 : gw.cell? ⟨w.heap.size, 2, none⟩ = some (.int .i64 P) := by rw [g.cell (p := ⟨w.heap.size, 2, none⟩) (by simp)]; simp
        have c3 : gw.cell? ⟨w.heap.size, 3, none⟩ = some (.int .i64 Q) := by rw [g.cell (p := ⟨w.heap.size, 3, none⟩) (by simp)]; simp
        go_wp2_with fail
        go_quiet (first | (go_at_call_of 27 A; refine Ret.quiet (C1.out _)) | (go_at_call_of 27 B; refine Ret.quiet (C2.out _)))
        go_wp2
        go_ret
        exact ⟨rfl, by have s0 := g.size; (try simp only [World.heap_drewN, World.size_alloc] at s0); repeat (first | exact Below.refl _ _ | exact g | refine Below.trans ?_ (Below.mono g (by first | omega | (simp; done) | (simp; omega))) | refine Below.setCell ?_ (by first | omega | (simp; done) | (simp; omega)) _ | refine below_dN ?_ _ | refine Below.drew ?_ | refine Below.alloc ?_ (by first | omega | (simp; done) | (simp; omega)) _)⟩
    · rw [if_neg hp] at W1 W2 W3 W4
      have kp : (P == 0) = false := beq_eq_false_iff_ne.2 hp
      by_cases a0 : a = 0
      · obtain rfl := W1 a0
        have ka : (a == 0) = true := beq_iff_eq.2 a0
        clear a0 ua ub
        clear W1 W2 W3 W4 h hg ha hb A0 A1 B0 B1 P0 P1 Q0 Q1 hp
        go_enter Try.func17, Try.ntmps17
        go_wp2_with fail
        refine (G.out _).mono ?_; rintro e gw ⟨rfl, g⟩
        have c0 : gw.cell? ⟨w.heap.size, 0, none⟩ = some (.int .i64 A) := by rw [g.cell (p := ⟨w.heap.size, 0, none⟩) (by simp)]; simp
        have c1 : gw.cell? ⟨w.heap.size, 1, none⟩ = some (.int .i64 B) := by rw [g.cell (p := ⟨w.heap.size, 1, none⟩) (by simp)]; simp
        have c2 : gw.cell? ⟨w.heap.size, 2, none⟩ = some (.int .i64 P) := by rw [g.cell (p := ⟨w.heap.size, 2, none⟩) (by simp)]; simp
        have c3 : gw.cell? ⟨w.heap.size, 3, none⟩ = some (.int .i64 Q) := by rw [g.cell (p := ⟨w.heap.size, 3, none⟩) (by simp)]; simp
        go_wp2_with fail
        go_quiet (first | (go_at_call_of 27 A; refine Ret.quiet (C1.out _)) | (go_at_call_of 27 B; refine Ret.quiet (C2.out _)))
        go_wp2
        go_ret
        exact ⟨rfl, by have s0 := g.size; (try simp only [World.heap_drewN, World.size_alloc] at s0); repeat (first | exact Below.refl _ _ | exact g | refine Below.trans ?_ (Below.mono g (by first | omega | (simp; done) | (simp; omega))) | refine Below.setCell ?_ (by first | omega | (simp; done) | (simp; omega)) _ | refine below_dN ?_ _ | refine Below.drew ?_ | refine Below.alloc ?_ (by first | omega | (simp; done) | (simp; omega)) _)⟩
      · have ka : (a == 0) = false := beq_eq_false_iff_ne.2 a0
        by_cases b0 : b = 0
        · obtain rfl := W2 a0 b0
          have kb : (b == 0) = true := beq_iff_eq.2 b0
          clear a0 b0 ua ub
          clear W1 W2 W3 W4 h hg ha hb A0 A1 B0 B1 P0 P1 Q0 Q1 hp
          go_enter Try.func17, Try.ntmps17
          go_wp2_with fail
          refine (G.out _).mono ?_; rintro e gw ⟨rfl, g⟩
          have c0 : gw.cell? ⟨w.heap.size, 0, none⟩ = some (.int .i64 A) := by rw [g.cell (p := ⟨w.heap.size, 0, none⟩) (by simp)]; simp
          have c1 : gw.cell? ⟨w.heap.size, 1, none⟩ = some (.int .i64 B) := by rw [g.cell (p := ⟨w.heap.size, 1, none⟩) (by simp)]; simp
          have c2 : gw.cell? ⟨w.heap.size, 2, none⟩ = some (.int .i64 P) := by rw [g.cell (p := ⟨w.heap.size, 2, none⟩) (by simp)]; simp
          have c3 : gw.cell? ⟨w.heap.size, 3, none⟩ = some (.int .i64 Q) := by rw [g.cell (p := ⟨w.heap.size, 3, none⟩) (by simp)]; simp
          go_wp2_with fail
          go_quiet (first | (go_at_call_of 27 A; refine Ret.quiet (C1.out _)) | (go_at_call_of 27 B; refine Ret.quiet (C2.out _)))
          go_wp2
          go_ret
          exact ⟨rfl, by have s0 := g.size; (try simp only [World.heap_drewN, World.size_alloc] at s0); repeat (first | exact Below.refl _ _ | exact g | refine Below.trans ?_ (Below.mono g (by first | omega | (simp; done) | (simp; omega))) | refine Below.setCell ?_ (by first | omega | (simp; done) | (simp; omega)) _ | refine below_dN ?_ _ | refine Below.drew ?_ | refine Below.alloc ?_ (by first | omega | (simp; done) | (simp; omega)) _)⟩
        · have kb : (b == 0) = false := beq_eq_false_iff_ne.2 b0
          by_cases k : a = b
          · obtain rfl := W3 a0 k
            have kc : (z == b) = true := beq_iff_eq.2 k
            clear a0 b0 ua ub k
            clear W1 W2 W3 W4 h hg ha hb A0 A1 B0 B1 P0 P1 Q0 Q1 hp
            go_enter Try.func17, Try.ntmps17
            go_wp2_with fail
            refine (G.out _).mono ?_; rintro e gw ⟨rfl, g⟩
            have c0 : gw.cell? ⟨w.heap.size, 0, none⟩ = some (.int .i64 A) := by rw [g.cell (p := ⟨w.heap.size, 0, none⟩) (by simp)]; simp
            have c1 : gw.cell? ⟨w.heap.size, 1, none⟩ = some (.int .i64 B) := by rw [g.cell (p := ⟨w.heap.size, 1, none⟩) (by simp)]; simp
            have c2 : gw.cell? ⟨w.heap.size, 2, none⟩ = some (.int .i64 P) := by rw [g.cell (p := ⟨w.heap.size, 2, none⟩) (by simp)]; simp
            have c3 : gw.cell? ⟨w.heap.size, 3, none⟩ = some (.int .i64 Q) := by rw [g.cell (p := ⟨w.heap.size, 3, none⟩) (by simp)]; simp
            go_wp2_with fail
            go_quiet (first | (go_at_call_of 27 A; refine Ret.quiet (C1.out _)) | (go_at_call_of 27 B; refine Ret.quiet (C2.out _)))
            go_wp2
            go_ret
            exact ⟨rfl, by have s0 := g.size; (try simp only [World.heap_drewN, World.size_alloc] at s0); repeat (first | exact Below.refl _ _ | exact g | refine Below.trans ?_ (Below.mono g (by first | omega | (simp; done) | (simp; omega))) | refine Below.setCell ?_ (by first | omega | (simp; done) | (simp; omega)) _ | refine below_dN ?_ _ | refine Below.drew ?_ | refine Below.alloc ?_ (by first | omega | (simp; done) | (simp; omega)) _)⟩
          · have kc : (a == b) = false := beq_eq_false_iff_ne.2 k
            have hz := W4 a0 b0 k
            obtain ⟨c, hc⟩ : ∃ c, cmpZ (A * A * Q) (B * B * P) = c := ⟨_, rfl⟩
            rw [hc] at hz
            have uc := unit3 hc
            have uz := unit_mul ua uc
            have e2 : wrap64 (a * c) = z := by rw [hz]; exact wrap64_of (by omega) (by omega)
            have sA := sq_bound A0 A1
            have sB := sq_bound B0 B1
            obtain ⟨AA, hAA⟩ : ∃ x, A * A = x := ⟨_, rfl⟩
            obtain ⟨BB, hBB⟩ : ∃ x, B * B = x := ⟨_, rfl⟩
            rw [hAA] at sA hc
            rw [hBB] at sB hc
            have e3 : wrap64 (A * A) = AA := by rw [hAA]; exact wrap64_of (by omega) (by omega)
            have e4 : wrap64 (B * B) = BB := by rw [hBB]; exact wrap64_of (by omega) (by omega)
            have C3 := Lib.hid (rcmpMul_any AA Q BB P c · (fitB_true (by omega)) (fitB_true (by omega)) (fitB_true (by omega)) (fitB_true (by omega)) hc)
            clear a0 b0 ua ub uc uz sA sB k hc hz hAA hBB
            clear W1 W2 W3 W4 h hg ha hb A0 A1 B0 B1 P0 P1 Q0 Q1 hp
            go_enter Try.func17, Try.ntmps17
            go_wp2_with fail
            refine (G.out _).mono ?_; rintro e gw ⟨rfl, g⟩
            have c0 : gw.cell? ⟨w.heap.size, 0, none⟩ = some (.int .i64 A) := by rw [g.cell (p := ⟨w.heap.size, 0, none⟩) (by simp)]; simp
            have c1 : gw.cell? ⟨w.heap.size, 1, none⟩ = some (.int .i64 B) := by rw [g.cell (p := ⟨w.heap.size, 1, none⟩) (by simp)]; simp
            have c2 : gw.cell? ⟨w.heap.size, 2, none⟩ = some (.int .i64 P) := by rw [g.cell (p := ⟨w.heap.size, 2, none⟩) (by simp)]; simp
            have c3 : gw.cell? ⟨w.heap.size, 3, none⟩ = some (.int .i64 Q) := by rw [g.cell (p := ⟨w.heap.size, 3, none⟩) (by simp)]; simp
            go_wp2_with fail
            go_quiet (first | (go_at_call_of 27 A; refine Ret.quiet (C1.out _)) | (go_at_call_of 27 B; refine Ret.quiet (C2.out _)))
            go_wp2_with fail
            refine (C3.out _).mono ?_; rintro e g3w ⟨rfl, g3⟩
            go_wp2
            go_ret
            exact ⟨ret_i e2, by have s0 := g.size; (try simp only [World.heap_drewN, World.size_alloc] at s0); have s1 := g3.size; (try simp only [World.heap_drewN, World.size_alloc] at s1); repeat (first | exact Below.refl _ _ | exact g | exact g3 | refine Below.trans ?_ (Below.mono g (by first | omega | (simp; done) | (simp; omega))) | refine Below.trans ?_ (Below.mono g3 (by first | omega | (simp; done) | (simp; omega))) | refine Below.setCell ?_ (by first | omega | (simp; done) | (simp; omega)) _ | refine below_dN ?_ _ | refine Below.drew ?_ | refine Below.alloc ?_ (by first | omega | (simp; done) | (simp; omega)) _)⟩

theorem far_any (a b c v : Int) (o : Bool) (w : World) (ha : fitB a = true) (hb : fitB b = true) (hc : fitB c = true) (hd : fitB (a - b) = false) (hv : cutZ (a - b - c) = v) (ho : fitB (a - b - c) = o) :
    Calls Try.prog 30 #[.int .i64 a, .int .i64 b, .int .i64 c] w (Ret (.tuple #[.int .i64 v, .bool o]) w) := by
  obtain ⟨d, hd'⟩ : ∃ d, cutZ (a - c) = d := ⟨_, rfl⟩
  obtain ⟨p, hp⟩ : ∃ p, fitB (a - c) = p := ⟨_, rfl⟩
  have C1 := Lib.hid (rsub_any a c d p · ha hc hd' hp)
  have n := fitB_not.1 hd
  have fa := fitB_iff.1 ha
  have fb := fitB_iff.1 hb
  have fc := fitB_iff.1 hc
  by_cases k : b < a
  · by_cases c0 : c < 0
    · have hn : fitB (a - b - c) = false := fitB_false (by omega)
      rw [hn] at ho; rw [cutZ_false hn] at hv
      subst ho hv
      clear hd' hp ha hb hc hd n fa fb fc hn
      go_enter Try.func30, Try.ntmps30
      go_wp2_with fail
      refine (C1.out _).mono ?_; rintro e w' ⟨rfl, n1, rfl⟩
      go_wp2
      go_ret2
      first | exact ⟨rfl, 0, rfl⟩ | exact ⟨rfl, _, rfl⟩
    · have hf : fitB (a - c) = true := fitB_true (by omega)
      rw [hf] at hp; rw [cutZ_true hf] at hd'
      subst hp hd'
      have C2 := Lib.hid (rsub_any (a - c) b v o · hf hb (by rw [← hv]; congr 1; omega) (by rw [← ho]; congr 1; omega))
      obtain ⟨y, hy⟩ : ∃ y, a - c = y := ⟨_, rfl⟩
      rw [hy] at C1 C2
      clear ha hb hc hd n fa fb fc hf hy hv ho
      go_enter Try.func30, Try.ntmps30
      go_wp2_with fail
      refine (C1.out _).mono ?_; rintro e w' ⟨rfl, n2, rfl⟩
      go_wp2_with fail
      refine (C2.out _).mono ?_; rintro e w' ⟨rfl, n3, rfl⟩
      go_wp2
      go_ret2
      first | exact ⟨rfl, 0, rfl⟩ | exact ⟨rfl, _, rfl⟩
  · by_cases c0 : 0 < c
    · have hn : fitB (a - b - c) = false := fitB_false (by omega)
      rw [hn] at ho; rw [cutZ_false hn] at hv
      subst ho hv
      clear hd' hp ha hb hc hd n fa fb fc hn
      go_enter Try.func30, Try.ntmps30
      go_wp2
      go_ret2
      first | exact ⟨rfl, 0, rfl⟩ | exact ⟨rfl, _, rfl⟩
    · have hf : fitB (a - c) = true := fitB_true (by omega)
      rw [hf] at hp; rw [cutZ_true hf] at hd'
      subst hp hd'
      have C2 := Lib.hid (rsub_any (a - c) b v o · hf hb (by rw [← hv]; congr 1; omega) (by rw [← ho]; congr 1; omega))
      obtain ⟨y, hy⟩ : ∃ y, a - c = y := ⟨_, rfl⟩
      rw [hy] at C1 C2
      clear ha hb hc hd n fa fb fc hf hy hv ho
      go_enter Try.func30, Try.ntmps30
      go_wp2_with fail
      refine (C1.out _).mono ?_; rintro e w' ⟨rfl, n4, rfl⟩
      go_wp2_with fail
      refine (C2.out _).mono ?_; rintro e w' ⟨rfl, n5, rfl⟩
      go_wp2
      go_ret2
      first | exact ⟨rfl, 0, rfl⟩ | exact ⟨rfl, _, rfl⟩

theorem cutZ_fit (x : Int) : fitB (cutZ x) = true := by
  cases h : fitB x
  · rw [cutZ_false h]; rfl
  · rw [cutZ_true h]; exact h

set_option maxHeartbeats 1000000 in
theorem rcmpS_any (a b A B P Q z : Int) (w : World) (ha : fitB a = true) (hb : fitB b = true) (hA : fitB A = true) (hB : fitB B = true) (h : signZ (a - b - A) (-B) P Q = z) :
    Calls Try.prog 18 #[.int .i64 a, .int .i64 b, .agg #[.int .i64 A, .int .i64 B, .int .i64 P, .int .i64 Q]] w (RetB (.int .i64 z) w) := by
  obtain ⟨c, hc⟩ : ∃ c, cutZ (a - b) = c := ⟨_, rfl⟩
  obtain ⟨x, hx⟩ : ∃ x, fitB (a - b) = x := ⟨_, rfl⟩
  have fc : fitB c = true := by rw [← hc]; exact cutZ_fit _
  obtain ⟨d, hd⟩ : ∃ d, cutZ (c - A) = d := ⟨_, rfl⟩
  obtain ⟨y, hy⟩ : ∃ y, fitB (c - A) = y := ⟨_, rfl⟩
  obtain ⟨e, he⟩ : ∃ e, cutZ (0 - B) = e := ⟨_, rfl⟩
  obtain ⟨u, hu⟩ : ∃ u, fitB (0 - B) = u := ⟨_, rfl⟩
  have C1 := Lib.hid (rsub_any a b c x · ha hb hc hx)
  have C2 := Lib.hid (rsub_any c A d y · fc hA hd hy)
  have C3 := Lib.hid (rsub_any 0 B e u · (by decide) hB he hu)
  -- the difference, however it is reckoned
  obtain ⟨d2, hd2⟩ : ∃ d, cutZ (a - b - A) = d := ⟨_, rfl⟩
  obtain ⟨y2, hy2⟩ : ∃ y, fitB (a - b - A) = y := ⟨_, rfl⟩
  have hz0 : (y2 = false ∨ u = false) → z = 0 := by
    intro k
    rw [← h, ← cmpV_says]; unfold cmpV
    rw [if_neg]
    rw [show -B = 0 - B by omega, hu, hy2]
    rcases k with rfl | rfl <;> simp
  have hz1 : y2 = true → u = true → signZ d2 e P Q = z := by
    intro k l
    rw [← h, ← hd2, ← he, cutZ_true (hy2.trans k), cutZ_true (hu.trans l), show -B = 0 - B by omega]
  cases x
  · have C4 := Lib.hid (far_any a b A d2 y2 · ha hb hA hx hd2 hy2)
    clear ha hb hA hB h hc hd hy he hu hd2 hy2 fc hx
    cases y2
    · obtain rfl := hz0 (.inl rfl)
      clear hz0 hz1
      go_enter Try.func18, Try.ntmps18
      go_wp2_with fail
      refine (C1.out _).mono ?_; rintro e w' ⟨rfl, n6, rfl⟩
      go_wp2_with fail
      refine (C2.out _).mono ?_; rintro e w' ⟨rfl, n7, rfl⟩
      go_wp2_with fail
      refine (C3.out _).mono ?_; rintro e w' ⟨rfl, n8, rfl⟩
      go_wp2_with fail
      refine (C4.out _).mono ?_; rintro e w' ⟨rfl, n9, rfl⟩
      go_wp2
      go_ret
      exact ⟨rfl, by repeat (first | exact Below.refl _ _ | refine Below.setCell ?_ (by first | omega | (simp; done) | (simp; omega)) _ | refine below_dN ?_ _ | refine Below.drew ?_ | refine Below.alloc ?_ (by first | omega | (simp; done) | (simp; omega)) _)⟩
    · cases u
      · obtain rfl := hz0 (.inr rfl)
        clear hz0 hz1
        go_enter Try.func18, Try.ntmps18
        go_wp2_with fail
        refine (C1.out _).mono ?_; rintro e w' ⟨rfl, n10, rfl⟩
        go_wp2_with fail
        refine (C2.out _).mono ?_; rintro e w' ⟨rfl, n11, rfl⟩
        go_wp2_with fail
        refine (C3.out _).mono ?_; rintro e w' ⟨rfl, n12, rfl⟩
        go_wp2_with fail
        refine (C4.out _).mono ?_; rintro e w' ⟨rfl, n13, rfl⟩
        go_wp2
        go_ret
        exact ⟨rfl, by repeat (first | exact Below.refl _ _ | refine Below.setCell ?_ (by first | omega | (simp; done) | (simp; omega)) _ | refine below_dN ?_ _ | refine Below.drew ?_ | refine Below.alloc ?_ (by first | omega | (simp; done) | (simp; omega)) _)⟩
      · have C5 := Lib.hid (rsign_any d2 e P Q z · (hz1 rfl rfl))
        clear hz0 hz1
        go_enter Try.func18, Try.ntmps18
        go_wp2_with fail
        refine (C1.out _).mono ?_; rintro e w' ⟨rfl, n14, rfl⟩
        go_wp2_with fail
        refine (C2.out _).mono ?_; rintro e w' ⟨rfl, n15, rfl⟩
        go_wp2_with fail
        refine (C3.out _).mono ?_; rintro e w' ⟨rfl, n16, rfl⟩
        go_wp2_with fail
        refine (C4.out _).mono ?_; rintro e w' ⟨rfl, n17, rfl⟩
        go_wp2_with fail
        refine (C5.out _).mono ?_; rintro e gw ⟨rfl, g⟩
        go_wp2
        go_ret
        exact ⟨rfl, by have s0 := g.size; (try simp only [World.heap_drewN, World.size_alloc] at s0); repeat (first | exact Below.refl _ _ | exact g | refine Below.trans ?_ (Below.mono g (by first | omega | (simp; done) | (simp; omega))) | refine Below.setCell ?_ (by first | omega | (simp; done) | (simp; omega)) _ | refine below_dN ?_ _ | refine Below.drew ?_ | refine Below.alloc ?_ (by first | omega | (simp; done) | (simp; omega)) _)⟩
  · have hcc : c = a - b := by rw [← hc, cutZ_true hx]
    rw [hcc] at hd hy
    obtain rfl : d = d2 := hd.symm.trans hd2
    obtain rfl : y = y2 := hy.symm.trans hy2
    clear ha hb hA hB h hc hd hy he hu hd2 hy2 fc hx hcc
    cases y
    · obtain rfl := hz0 (.inl rfl)
      clear hz0 hz1
      go_enter Try.func18, Try.ntmps18
      go_wp2_with fail
      refine (C1.out _).mono ?_; rintro e w' ⟨rfl, n18, rfl⟩
      go_wp2_with fail
      refine (C2.out _).mono ?_; rintro e w' ⟨rfl, n19, rfl⟩
      go_wp2_with fail
      refine (C3.out _).mono ?_; rintro e w' ⟨rfl, n20, rfl⟩
      go_wp2
      go_ret
      exact ⟨rfl, by repeat (first | exact Below.refl _ _ | refine Below.setCell ?_ (by first | omega | (simp; done) | (simp; omega)) _ | refine below_dN ?_ _ | refine Below.drew ?_ | refine Below.alloc ?_ (by first | omega | (simp; done) | (simp; omega)) _)⟩
    · cases u
      · obtain rfl := hz0 (.inr rfl)
        clear hz0 hz1
        go_enter Try.func18, Try.ntmps18
        go_wp2_with fail
        refine (C1.out _).mono ?_; rintro e w' ⟨rfl, n21, rfl⟩
        go_wp2_with fail
        refine (C2.out _).mono ?_; rintro e w' ⟨rfl, n22, rfl⟩
        go_wp2_with fail
        refine (C3.out _).mono ?_; rintro e w' ⟨rfl, n23, rfl⟩
        go_wp2
        go_ret
        exact ⟨rfl, by repeat (first | exact Below.refl _ _ | refine Below.setCell ?_ (by first | omega | (simp; done) | (simp; omega)) _ | refine below_dN ?_ _ | refine Below.drew ?_ | refine Below.alloc ?_ (by first | omega | (simp; done) | (simp; omega)) _)⟩
      · have C5 := Lib.hid (rsign_any d e P Q z · (hz1 rfl rfl))
        clear hz0 hz1
        go_enter Try.func18, Try.ntmps18
        go_wp2_with fail
        refine (C1.out _).mono ?_; rintro e w' ⟨rfl, n24, rfl⟩
        go_wp2_with fail
        refine (C2.out _).mono ?_; rintro e w' ⟨rfl, n25, rfl⟩
        go_wp2_with fail
        refine (C3.out _).mono ?_; rintro e w' ⟨rfl, n26, rfl⟩
        go_wp2_with fail
        refine (C5.out _).mono ?_; rintro e gw ⟨rfl, g⟩
        go_wp2
        go_ret
        exact ⟨rfl, by have s0 := g.size; (try simp only [World.heap_drewN, World.size_alloc] at s0); repeat (first | exact Below.refl _ _ | exact g | refine Below.trans ?_ (Below.mono g (by first | omega | (simp; done) | (simp; omega))) | refine Below.setCell ?_ (by first | omega | (simp; done) | (simp; omega)) _ | refine below_dN ?_ _ | refine Below.drew ?_ | refine Below.alloc ?_ (by first | omega | (simp; done) | (simp; omega)) _)⟩

set_option maxHeartbeats 1000000 in
theorem rabove_any (v x p q : Int) (b : Bool) (w : World) (h : aboveB v x p q = b) :
    Calls Try.prog 19 #[.int .i64 v, .int .i64 x, .int .i64 p, .int .i64 q] w (RetB (.bool b) w) := by
  by_cases k1 : v < 0
  · obtain rfl : b = false := by rw [← h]; exact aboveB_bad (acceptB_not.2 (by omega))
    clear h
    go_enter Try.func19, Try.ntmps19
    go_wp2
    go_ret
    exact ⟨rfl, by repeat (first | exact Below.refl _ _ | refine Below.setCell ?_ (by first | omega | (simp; done) | (simp; omega)) _ | refine below_dN ?_ _ | refine Below.drew ?_ | refine Below.alloc ?_ (by first | omega | (simp; done) | (simp; omega)) _)⟩
  have k1' : decide (v < 0) = false := decide_eq_false k1
  by_cases k2 : x < 0
  · obtain rfl : b = false := by rw [← h]; exact aboveB_bad (acceptB_not.2 (by omega))
    clear h
    go_enter Try.func19, Try.ntmps19
    go_wp2
    go_ret
    exact ⟨rfl, by repeat (first | exact Below.refl _ _ | refine Below.setCell ?_ (by first | omega | (simp; done) | (simp; omega)) _ | refine below_dN ?_ _ | refine Below.drew ?_ | refine Below.alloc ?_ (by first | omega | (simp; done) | (simp; omega)) _)⟩
  have k2' : decide (x < 0) = false := decide_eq_false k2
  by_cases k3 : 1000000000 < v
  · obtain rfl : b = false := by rw [← h]; exact aboveB_bad (acceptB_not.2 (by omega))
    clear h
    go_enter Try.func19, Try.ntmps19
    go_wp2
    go_ret
    exact ⟨rfl, by repeat (first | exact Below.refl _ _ | refine Below.setCell ?_ (by first | omega | (simp; done) | (simp; omega)) _ | refine below_dN ?_ _ | refine Below.drew ?_ | refine Below.alloc ?_ (by first | omega | (simp; done) | (simp; omega)) _)⟩
  have k3' : decide (1000000000 < v) = false := decide_eq_false k3
  by_cases k4 : 1000000000 < x
  · obtain rfl : b = false := by rw [← h]; exact aboveB_bad (acceptB_not.2 (by omega))
    clear h
    go_enter Try.func19, Try.ntmps19
    go_wp2
    go_ret
    exact ⟨rfl, by repeat (first | exact Below.refl _ _ | refine Below.setCell ?_ (by first | omega | (simp; done) | (simp; omega)) _ | refine below_dN ?_ _ | refine Below.drew ?_ | refine Below.alloc ?_ (by first | omega | (simp; done) | (simp; omega)) _)⟩
  have k4' : decide (1000000000 < x) = false := decide_eq_false k4
  cases hg : goodB 0 0 p q
  · have G := Lib.hid (rgood_any 0 0 p q false · hg)
    obtain rfl : b = false := by
      rw [← h]; refine aboveB_bad (acceptB_not.2 ?_)
      have := goodB_not.1 hg; omega
    clear h hg
    go_enter Try.func19, Try.ntmps19
    go_wp2_with fail
    refine (G.out _).mono ?_; rintro e gw ⟨rfl, g⟩
    go_wp2
    go_ret
    exact ⟨rfl, by have s0 := g.size; (try simp only [World.heap_drewN, World.size_alloc] at s0); repeat (first | exact Below.refl _ _ | exact g | refine Below.trans ?_ (Below.mono g (by first | omega | (simp; done) | (simp; omega))) | refine Below.setCell ?_ (by first | omega | (simp; done) | (simp; omega)) _ | refine below_dN ?_ _ | refine Below.drew ?_ | refine Below.alloc ?_ (by first | omega | (simp; done) | (simp; omega)) _)⟩
  · have G := Lib.hid (rgood_any 0 0 p q true · hg)
    have ha : acceptB v x p q = true := by refine acceptB_iff.2 ?_; have := goodB_iff.1 hg; omega
    rw [aboveB_sign ha] at h
    obtain ⟨z, hz⟩ : ∃ z, signZ (v - x) (-x) p q = z := ⟨_, rfl⟩
    rw [hz] at h
    have e1 : wrap64 (v - x) = v - x := wrap64_of (by omega) (by omega)
    have e2 : wrap64 (-x) = -x := wrap64_of (by omega) (by omega)
    obtain ⟨d, hd⟩ : ∃ d, v - x = d := ⟨_, rfl⟩
    obtain ⟨nx, hn⟩ : ∃ d, -x = d := ⟨_, rfl⟩
    replace e1 := e1.trans hd; replace e2 := e2.trans hn
    rw [hd, hn] at hz
    have C2 := Lib.hid (rsign_any d nx p q z · hz)
    clear hz hd hn ha hg k1 k2 k3 k4
    go_enter Try.func19, Try.ntmps19
    go_wp2_with fail
    refine (G.out _).mono ?_; rintro e gw ⟨rfl, g⟩
    go_wp2_with fail
    refine (C2.out _).mono ?_; rintro e kw ⟨rfl, k⟩
    go_wp2
    go_ret
    exact ⟨rfl, by have s0 := g.size; (try simp only [World.heap_drewN, World.size_alloc] at s0); have s1 := k.size; (try simp only [World.heap_drewN, World.size_alloc] at s1); repeat (first | exact Below.refl _ _ | exact g | exact k | refine Below.trans ?_ (Below.mono g (by first | omega | (simp; done) | (simp; omega))) | refine Below.trans ?_ (Below.mono k (by first | omega | (simp; done) | (simp; omega))) | refine Below.setCell ?_ (by first | omega | (simp; done) | (simp; omega)) _ | refine below_dN ?_ _ | refine Below.drew ?_ | refine Below.alloc ?_ (by first | omega | (simp; done) | (simp; omega)) _)⟩

set_option maxHeartbeats 1000000 in
theorem rbound_any (v x p q : Int) (b : Bool) (w : World) (h : boundB v x p q = b) :
    Calls Try.prog 20 #[.int .i64 v, .int .i64 x, .int .i64 p, .int .i64 q] w (RetB (.bool b) w) := by
  by_cases k1 : v < 0
  · obtain rfl : b = false := by rw [← h]; exact boundB_bad (acceptB_not.2 (by omega))
    clear h
    go_enter Try.func20, Try.ntmps20
    go_wp2
    go_ret
    exact ⟨rfl, by repeat (first | exact Below.refl _ _ | refine Below.setCell ?_ (by first | omega | (simp; done) | (simp; omega)) _ | refine below_dN ?_ _ | refine Below.drew ?_ | refine Below.alloc ?_ (by first | omega | (simp; done) | (simp; omega)) _)⟩
  have k1' : decide (v < 0) = false := decide_eq_false k1
  by_cases k2 : x < 0
  · obtain rfl : b = false := by rw [← h]; exact boundB_bad (acceptB_not.2 (by omega))
    clear h
    go_enter Try.func20, Try.ntmps20
    go_wp2
    go_ret
    exact ⟨rfl, by repeat (first | exact Below.refl _ _ | refine Below.setCell ?_ (by first | omega | (simp; done) | (simp; omega)) _ | refine below_dN ?_ _ | refine Below.drew ?_ | refine Below.alloc ?_ (by first | omega | (simp; done) | (simp; omega)) _)⟩
  have k2' : decide (x < 0) = false := decide_eq_false k2
  by_cases k3 : 1000000000 < v
  · obtain rfl : b = false := by rw [← h]; exact boundB_bad (acceptB_not.2 (by omega))
    clear h
    go_enter Try.func20, Try.ntmps20
    go_wp2
    go_ret
    exact ⟨rfl, by repeat (first | exact Below.refl _ _ | refine Below.setCell ?_ (by first | omega | (simp; done) | (simp; omega)) _ | refine below_dN ?_ _ | refine Below.drew ?_ | refine Below.alloc ?_ (by first | omega | (simp; done) | (simp; omega)) _)⟩
  have k3' : decide (1000000000 < v) = false := decide_eq_false k3
  by_cases k4 : 1000000000 < x
  · obtain rfl : b = false := by rw [← h]; exact boundB_bad (acceptB_not.2 (by omega))
    clear h
    go_enter Try.func20, Try.ntmps20
    go_wp2
    go_ret
    exact ⟨rfl, by repeat (first | exact Below.refl _ _ | refine Below.setCell ?_ (by first | omega | (simp; done) | (simp; omega)) _ | refine below_dN ?_ _ | refine Below.drew ?_ | refine Below.alloc ?_ (by first | omega | (simp; done) | (simp; omega)) _)⟩
  have k4' : decide (1000000000 < x) = false := decide_eq_false k4
  cases hg : goodB 0 0 p q
  · have G := Lib.hid (rgood_any 0 0 p q false · hg)
    obtain rfl : b = false := by
      rw [← h]; refine boundB_bad (acceptB_not.2 ?_)
      have := goodB_not.1 hg; omega
    clear h hg
    go_enter Try.func20, Try.ntmps20
    go_wp2_with fail
    refine (G.out _).mono ?_; rintro e gw ⟨rfl, g⟩
    go_wp2
    go_ret
    exact ⟨rfl, by have s0 := g.size; (try simp only [World.heap_drewN, World.size_alloc] at s0); repeat (first | exact Below.refl _ _ | exact g | refine Below.trans ?_ (Below.mono g (by first | omega | (simp; done) | (simp; omega))) | refine Below.setCell ?_ (by first | omega | (simp; done) | (simp; omega)) _ | refine below_dN ?_ _ | refine Below.drew ?_ | refine Below.alloc ?_ (by first | omega | (simp; done) | (simp; omega)) _)⟩
  · have G := Lib.hid (rgood_any 0 0 p q true · hg)
    have ha : acceptB v x p q = true := by refine acceptB_iff.2 ?_; have := goodB_iff.1 hg; omega
    obtain ⟨v0, v1, x0, x1, p0, p1, q0, q1⟩ := acceptB_iff.1 ha
    have m1 := mul_bound (x := v) (y := q) (m := 1000000000) (n := 1000000) (by omega) (by omega) (by omega) q1
    have m2 := mul_bound x0 x1 p0 p1
    have m3 := mul_bound (x := x) (y := q) (m := 1000000000) (n := 1000000) x0 x1 (by omega) q1
    have hr : restZ v x p q = v * q - x * q - x * p := by unfold restZ; rw [Int.sub_mul]
    have L := boundB_low ha
    have H := boundB_high ha
    have hpr : 2 * x * q * (2 * x * p) = 4 * (x * x) * (p * q) := by
      have : 2 * x * q * (2 * x * p) = 2 * 2 * (x * x) * (p * q) := by ac_rfl
      rw [this]; rfl
    rw [← hpr] at H
    have a1 : 2 * x * q = 2 * (x * q) := Int.mul_assoc _ _ _
    have a2 : 2 * x * p = 2 * (x * p) := Int.mul_assoc _ _ _
    have e1 : wrap64 (v * q) = v * q := wrap64_of (by omega) (by omega)
    have e2 : wrap64 (x * q) = x * q := wrap64_of (by omega) (by omega)
    have e3 : wrap64 (x * p) = x * p := wrap64_of (by omega) (by omega)
    have e4 : wrap64 (v * q - x * q) = v * q - x * q := wrap64_of (by omega) (by omega)
    have e5 : wrap64 (v * q - x * q - x * p) = v * q - x * q - x * p := wrap64_of (by omega) (by omega)
    have e6 : wrap64 (2 * x) = 2 * x := wrap64_of (by omega) (by omega)
    have e7 : wrap64 (2 * x * q) = 2 * x * q := wrap64_of (by omega) (by omega)
    have e8 : wrap64 (2 * x * p) = 2 * x * p := wrap64_of (by omega) (by omega)
    obtain ⟨y1, h1⟩ : ∃ y, v * q = y := ⟨_, rfl⟩
    obtain ⟨y2, h2⟩ : ∃ y, x * q = y := ⟨_, rfl⟩
    obtain ⟨y3, h3⟩ : ∃ y, x * p = y := ⟨_, rfl⟩
    obtain ⟨y6, h6⟩ : ∃ y, 2 * x = y := ⟨_, rfl⟩
    replace e1 := e1.trans h1; replace e2 := e2.trans h2; replace e3 := e3.trans h3; replace e6 := e6.trans h6
    rw [h1, h2] at e4 e5 hr; rw [h3] at e5 hr a2 m2; rw [h1] at m1; rw [h2] at m3 a1; rw [h6] at e7 e8 a1 a2 H
    obtain ⟨y4, h4⟩ : ∃ y, y1 - y2 = y := ⟨_, rfl⟩
    replace e4 := e4.trans h4
    rw [h4] at e5 hr
    obtain ⟨r, h5⟩ : ∃ y, restZ v x p q = y := ⟨_, rfl⟩
    rw [h5] at L H hr
    rw [← hr] at e5
    obtain ⟨y7, h7⟩ : ∃ y, y6 * q = y := ⟨_, rfl⟩
    obtain ⟨y8, h8⟩ : ∃ y, y6 * p = y := ⟨_, rfl⟩
    replace e7 := e7.trans h7; replace e8 := e8.trans h8
    rw [h7, h8] at H; rw [h7] at a1; rw [h8] at a2
    by_cases k : r ≤ 0
    · obtain rfl : b = true := by rw [← h]; exact L k
      have e5' : wrap64 (y4 - y3) = r := by rw [← e5, ← hr]
      clear L H h hr hpr h1 h2 h3 h4 h5 h6 h7 h8 m1 m2 m3 a1 a2 ha hg v0 v1 x0 x1 p0 p1 q0 q1 k1 k2 k3 k4 e5
      go_enter Try.func20, Try.ntmps20
      go_wp2_with fail
      refine (G.out _).mono ?_; rintro e gw ⟨rfl, g⟩
      go_wp2
      go_ret
      exact ⟨rfl, by have s0 := g.size; (try simp only [World.heap_drewN, World.size_alloc] at s0); repeat (first | exact Below.refl _ _ | exact g | refine Below.trans ?_ (Below.mono g (by first | omega | (simp; done) | (simp; omega))) | refine Below.setCell ?_ (by first | omega | (simp; done) | (simp; omega)) _ | refine below_dN ?_ _ | refine Below.drew ?_ | refine Below.alloc ?_ (by first | omega | (simp; done) | (simp; omega)) _)⟩
    · have hb := H k
      rw [h] at hb
      obtain ⟨c, hc⟩ : ∃ c, cmpZ (r * r) (y7 * y8) = c := ⟨_, rfl⟩
      rw [hc] at hb
      have C2 := Lib.hid (rcmpMul_any r r y7 y8 c · (fitB_true (by omega)) (fitB_true (by omega)) (fitB_true (by omega)) (fitB_true (by omega)) hc)
      have e5' : wrap64 (y4 - y3) = r := by rw [← e5, ← hr]
      clear L H h hr hpr h1 h2 h3 h4 h5 h6 h7 h8 m1 m2 m3 a1 a2 ha hg v0 v1 x0 x1 p0 p1 q0 q1 k1 k2 k3 k4 e5 hc
      go_enter Try.func20, Try.ntmps20
      go_wp2_with fail
      refine (G.out _).mono ?_; rintro e gw ⟨rfl, g⟩
      go_wp2_with fail
      refine (C2.out _).mono ?_; rintro e g2w ⟨rfl, g2⟩
      go_wp2
      go_ret
      exact ⟨ret_b hb.symm, by have s0 := g.size; (try simp only [World.heap_drewN, World.size_alloc] at s0); have s1 := g2.size; (try simp only [World.heap_drewN, World.size_alloc] at s1); repeat (first | exact Below.refl _ _ | exact g | exact g2 | refine Below.trans ?_ (Below.mono g (by first | omega | (simp; done) | (simp; omega))) | refine Below.trans ?_ (Below.mono g2 (by first | omega | (simp; done) | (simp; omega))) | refine Below.setCell ?_ (by first | omega | (simp; done) | (simp; omega)) _ | refine below_dN ?_ _ | refine Below.drew ?_ | refine Below.alloc ?_ (by first | omega | (simp; done) | (simp; omega)) _)⟩
end Go.Proofs.Ytdflllhepijcgaa
