/- The contracts of package surd's functions: each answers what the chapter says, at every argument. -/
import Derived.Test.YtdflllhepijcgaaNum4
import Derived.Test.YtdflllhepijcgaaSurdMath
import Derived.Deep.RegionWith
namespace Go.Proofs.Ytdflllhepijcgaa
open Go.RowKit
set_option linter.unusedVariables false
set_option linter.unusedSimpArgs false

theorem within_any (n lo hi : Int) (b : Bool) (w : World) (h : decide (lo ≤ n ∧ n ≤ hi) = b) :
    Calls Try.prog 26 #[.int .i64 n, .int .i64 lo, .int .i64 hi] w (Ret (.bool b) w) := by
  by_cases h1 : lo ≤ n
  · by_cases h2 : n ≤ hi
    · obtain rfl : b = true := by rw [← h]; exact decide_eq_true ⟨h1, h2⟩
      clear h
      go_enter Try.func26, Try.ntmps26
      go_wp2
      go_ret
      first | exact ⟨rfl, 0, rfl⟩ | exact ⟨rfl, _, rfl⟩
    · obtain rfl : b = false := by rw [← h]; exact decide_eq_false (fun k => h2 k.2)
      clear h
      go_enter Try.func26, Try.ntmps26
      go_wp2
      go_ret
      first | exact ⟨rfl, 0, rfl⟩ | exact ⟨rfl, _, rfl⟩
  · obtain rfl : b = false := by rw [← h]; exact decide_eq_false (fun k => h1 k.1)
    have h1' : decide (lo ≤ n) = false := decide_eq_false h1
    clear h
    go_enter Try.func26, Try.ntmps26
    go_wp2
    go_ret
    first | exact ⟨rfl, 0, rfl⟩ | exact ⟨rfl, _, rfl⟩

set_option maxHeartbeats 400000 in
theorem good_any (A B P Q : Int) (b : Bool) (w : World) (h : goodB A B P Q = b) :
    Calls Try.prog 15 #[.agg #[.int .i64 A, .int .i64 B, .int .i64 P, .int .i64 Q]] w (RetB (.bool b) w) := by
  have hb : b = (decide (-1000000000 ≤ A ∧ A ≤ 1000000000) && decide (-1000000000 ≤ B ∧ B ≤ 1000000000) && decide (0 ≤ P ∧ P ≤ 1000000) && decide (1 ≤ Q ∧ Q ≤ 1000000)) := by
    rw [← h]; unfold goodB; rw [← Bool.decide_and, ← Bool.decide_and, ← Bool.decide_and, decide_eq_decide]; simp only [and_assoc]
  clear h
  obtain ⟨b1, h1⟩ : ∃ b1, decide (-1000000000 ≤ A ∧ A ≤ 1000000000) = b1 := ⟨_, rfl⟩
  obtain ⟨b2, h2⟩ : ∃ b2, decide (-1000000000 ≤ B ∧ B ≤ 1000000000) = b2 := ⟨_, rfl⟩
  obtain ⟨b3, h3⟩ : ∃ b3, decide (0 ≤ P ∧ P ≤ 1000000) = b3 := ⟨_, rfl⟩
  obtain ⟨b4, h4⟩ : ∃ b4, decide (1 ≤ Q ∧ Q ≤ 1000000) = b4 := ⟨_, rfl⟩
  rw [h1, h2, h3, h4] at hb
  have C1 := Lib.hid (within_any A (-1000000000) 1000000000 b1 · h1)
  have C2 := Lib.hid (within_any B (-1000000000) 1000000000 b2 · h2)
  have C3 := Lib.hid (within_any P 0 1000000 b3 · h3)
  have C4 := Lib.hid (within_any Q 1 1000000 b4 · h4)
  clear h1 h2 h3 h4
  subst hb
  cases b1
  · clear C2 C3 C4
    go_enter Try.func15, Try.ntmps15
    go_wp2_with fail
    refine (C1.out _).mono ?_; rintro e w' ⟨rfl, n1, rfl⟩
    go_wp2
    go_ret
    exact ⟨rfl, by repeat (first | exact Below.refl _ _ | refine Below.setCell ?_ (by first | omega | (simp; done) | (simp; omega)) _ | refine below_dN ?_ _ | refine Below.drew ?_ | refine Below.alloc ?_ (by first | omega | (simp; done) | (simp; omega)) _)⟩
  cases b2
  · clear C3 C4
    go_enter Try.func15, Try.ntmps15
    go_wp2_with fail
    refine (C1.out _).mono ?_; rintro e w' ⟨rfl, n2, rfl⟩
    go_wp2_with fail
    refine (C2.out _).mono ?_; rintro e w' ⟨rfl, n3, rfl⟩
    go_wp2
    go_ret
    exact ⟨rfl, by repeat (first | exact Below.refl _ _ | refine Below.setCell ?_ (by first | omega | (simp; done) | (simp; omega)) _ | refine below_dN ?_ _ | refine Below.drew ?_ | refine Below.alloc ?_ (by first | omega | (simp; done) | (simp; omega)) _)⟩
  cases b3
  · clear C4
    go_enter Try.func15, Try.ntmps15
    go_wp2_with fail
    refine (C1.out _).mono ?_; rintro e w' ⟨rfl, n4, rfl⟩
    go_wp2_with fail
    refine (C2.out _).mono ?_; rintro e w' ⟨rfl, n5, rfl⟩
    go_wp2_with fail
    refine (C3.out _).mono ?_; rintro e w' ⟨rfl, n6, rfl⟩
    go_wp2
    go_ret
    exact ⟨rfl, by repeat (first | exact Below.refl _ _ | refine Below.setCell ?_ (by first | omega | (simp; done) | (simp; omega)) _ | refine below_dN ?_ _ | refine Below.drew ?_ | refine Below.alloc ?_ (by first | omega | (simp; done) | (simp; omega)) _)⟩
  cases b4
  all_goals
    go_enter Try.func15, Try.ntmps15
    go_wp2_with fail
    refine (C1.out _).mono ?_; rintro e w' ⟨rfl, n7, rfl⟩
    go_wp2_with fail
    refine (C2.out _).mono ?_; rintro e w' ⟨rfl, n8, rfl⟩
    go_wp2_with fail
    refine (C3.out _).mono ?_; rintro e w' ⟨rfl, n9, rfl⟩
    go_wp2_with fail
    refine (C4.out _).mono ?_; rintro e w' ⟨rfl, n10, rfl⟩
    go_wp2
    go_ret
    exact ⟨rfl, by repeat (first | exact Below.refl _ _ | refine Below.setCell ?_ (by first | omega | (simp; done) | (simp; omega)) _ | refine below_dN ?_ _ | refine Below.drew ?_ | refine Below.alloc ?_ (by first | omega | (simp; done) | (simp; omega)) _)⟩

theorem Ret.quiet {P : Program} {f : FuncId} {args : Array Value} {w : World} {n : Nat} {v : Value} (h : Calls P f args (w.drewN n) (Ret v (w.drewN n))) :
    Calls P f args (w.drewN n) fun e w'' => e = .returned v ∧ ∃ m, w'' = w.drewN m := Calls.quiet_of h
theorem unit3 {x y c : Int} (h : cmpZ x y = c) : -1 ≤ c ∧ c ≤ 1 := by rcases cmpZ_cases x y with ⟨_, e⟩ | ⟨_, e⟩ | ⟨_, e⟩ <;> omega
theorem wrap64_of {x : Int} (h0 : -9223372036854775808 ≤ x) (h1 : x ≤ 9223372036854775807) : wrap64 x = x := by unfold wrap64; omega
theorem unit_mul {a c : Int} (ha : -1 ≤ a ∧ a ≤ 1) (hc : -1 ≤ c ∧ c ≤ 1) : -1 ≤ a * c ∧ a * c ≤ 1 := by
  obtain h | h | h : a = -1 ∨ a = 0 ∨ a = 1 := by omega
  all_goals subst h; omega

set_option maxHeartbeats 1000000 in
theorem sign_any (A B P Q z : Int) (w : World) (h : signZ A B P Q = z) :
    Calls Try.prog 11 #[.agg #[.int .i64 A, .int .i64 B, .int .i64 P, .int .i64 Q]] w (RetB (.int .i64 z) w) := by
  cases hg : goodB A B P Q
  · have G := Lib.hid (good_any A B P Q false · hg)
    obtain rfl : z = 0 := by rw [← h]; exact signZ_bad hg
    clear h hg
    go_enter Try.func11, Try.ntmps11
    go_wp2_with fail
    refine (G.out _).mono ?_; rintro e gw ⟨rfl, g⟩
    go_wp2
    go_ret
    exact ⟨rfl, by have s0 := g.size; (try simp only [World.heap_drewN, World.size_alloc] at s0); repeat (first | exact Below.refl _ _ | exact g | refine Below.trans ?_ (Below.mono g (by first | omega | (simp; done) | (simp; omega))) | refine Below.setCell ?_ (by first | omega | (simp; done) | (simp; omega)) _ | refine below_dN ?_ _ | refine Below.drew ?_ | refine Below.alloc ?_ (by first | omega | (simp; done) | (simp; omega)) _)⟩
  · have G := Lib.hid (good_any A B P Q true · hg)
    rw [signZ_good hg] at h
    obtain ⟨A0, A1, B0, B1, P0, P1, Q0, Q1⟩ := goodB_iff.1 hg
    obtain ⟨a, ha⟩ : ∃ a, cmpZ A 0 = a := ⟨_, rfl⟩
    obtain ⟨b, hb⟩ : ∃ b, cmpZ B 0 = b := ⟨_, rfl⟩
    have C1 := Lib.hid (compare_in A 0 a · ha)
    have C2 := Lib.hid (compare_in B 0 b · hb)
    have ua := unit3 ha
    have ub := unit3 hb
    have W := sign_ways (A := A) (B := B) (a := a) (b := if P = 0 then 0 else b) P0 Q0 ha (by rw [hb])
    rw [h] at W
    obtain ⟨W1, W2, W3⟩ := W
    by_cases hp : P = 0
    · rw [if_pos hp] at W1 W2 W3
      have kp : (P == 0) = true := beq_iff_eq.2 hp
      by_cases a0 : a = 0
      · obtain rfl := W1 a0
        have ka : (a == 0) = true := beq_iff_eq.2 a0
        clear a0 ua ub
        clear W1 W2 W3 h hg ha hb A0 A1 B0 B1 P0 P1 Q0 Q1 hp
        go_enter Try.func11, Try.ntmps11
        go_wp2_with fail
        refine (G.out _).mono ?_; rintro e gw ⟨rfl, g⟩
        have c0 : gw.cell? ⟨w.heap.size, 0, none⟩ = some (.int .i64 A) := by rw [g.cell (p := ⟨w.heap.size, 0, none⟩) (by simp)]; simp
        have c1 : gw.cell? ⟨w.heap.size, 1, none⟩ = some (.int .i64 B) := by rw [g.cell (p := ⟨w.heap.size, 1, none⟩) (by simp)]; simp
        have c2 : gw.cell? ⟨w.heap.size, 2, none⟩ = some (.int .i64 P) := by rw [g.cell (p := ⟨w.heap.size, 2, none⟩) (by simp)]; simp
        have c3 : gw.cell? ⟨w.heap.size, 3, none⟩ = some (.int .i64 Q) := by rw [g.cell (p := ⟨w.heap.size, 3, none⟩) (by simp)]; simp
        go_wp2_with fail
        go_quiet (first | (go_at_call_of 21 A; refine Ret.quiet (C1.out _)) | (go_at_call_of 21 B; refine Ret.quiet (C2.out _)))
        go_wp2
        go_ret
        exact ⟨rfl, by have s0 := g.size; (try simp only [World.heap_drewN, World.size_alloc] at s0); repeat (first | exact Below.refl _ _ | exact g | refine Below.trans ?_ (Below.mono g (by first | omega | (simp; done) | (simp; omega))) | refine Below.setCell ?_ (by first | omega | (simp; done) | (simp; omega)) _ | refine below_dN ?_ _ | refine Below.drew ?_ | refine Below.alloc ?_ (by first | omega | (simp; done) | (simp; omega)) _)⟩
      · obtain rfl := W2 a0 (by omega)
        have ka : (z == 0) = false := beq_eq_false_iff_ne.2 a0
        have kb : (z != 0) = true := by rw [bne, ka]; rfl
        clear a0 ua ub
        clear W1 W2 W3 h hg ha hb A0 A1 B0 B1 P0 P1 Q0 Q1 hp
        go_enter Try.func11, Try.ntmps11
        go_wp2_with fail
        refine (G.out _).mono ?_; rintro e gw ⟨rfl, g⟩
        have c0 : gw.cell? ⟨w.heap.size, 0, none⟩ = some (.int .i64 A) := by rw [g.cell (p := ⟨w.heap.size, 0, none⟩) (by simp)]; simp
        have c1 : gw.cell? ⟨w.heap.size, 1, none⟩ = some (.int .i64 B) := by rw [g.cell (p := ⟨w.heap.size, 1, none⟩) (by simp)]; simp
        have c2 : gw.cell? ⟨w.heap.size, 2, none⟩ = some (.int .i64 P) := by rw [g.cell (p := ⟨w.heap.size, 2, none⟩) (by simp)]; simp
        have c3 : gw.cell? ⟨w.heap.size, 3, none⟩ = some (.int .i64 Q) := by rw [g.cell (p := ⟨w.heap.size, 3, none⟩) (by simp)]; simp
        go_wp2_with fail
        go_quiet (first | (go_at_call_of 21 A; refine Ret.quiet (C1.out _)) | (go_at_call_of 21 B; refine Ret.quiet (C2.out _)))
        go_wp2
        go_ret
        exact ⟨rfl, by have s0 := g.size; (try simp only [World.heap_drewN, World.size_alloc] at s0); repeat (first | exact Below.refl _ _ | exact g | refine Below.trans ?_ (Below.mono g (by first | omega | (simp; done) | (simp; omega))) | refine Below.setCell ?_ (by first | omega | (simp; done) | (simp; omega)) _ | refine below_dN ?_ _ | refine Below.drew ?_ | refine Below.alloc ?_ (by first | omega | (simp; done) | (simp; omega)) _)⟩
    · rw [if_neg hp] at W1 W2 W3
      have kp : (P == 0) = false := beq_eq_false_iff_ne.2 hp
      by_cases a0 : a = 0
      · obtain rfl := W1 a0
        have ka : (a == 0) = true := beq_iff_eq.2 a0
        clear a0 ua ub
        clear W1 W2 W3 h hg ha hb A0 A1 B0 B1 P0 P1 Q0 Q1 hp
        go_enter Try.func11, Try.ntmps11
        go_wp2_with fail
        refine (G.out _).mono ?_; rintro e gw ⟨rfl, g⟩
        have c0 : gw.cell? ⟨w.heap.size, 0, none⟩ = some (.int .i64 A) := by rw [g.cell (p := ⟨w.heap.size, 0, none⟩) (by simp)]; simp
        have c1 : gw.cell? ⟨w.heap.size, 1, none⟩ = some (.int .i64 B) := by rw [g.cell (p := ⟨w.heap.size, 1, none⟩) (by simp)]; simp
        have c2 : gw.cell? ⟨w.heap.size, 2, none⟩ = some (.int .i64 P) := by rw [g.cell (p := ⟨w.heap.size, 2, none⟩) (by simp)]; simp
        have c3 : gw.cell? ⟨w.heap.size, 3, none⟩ = some (.int .i64 Q) := by rw [g.cell (p := ⟨w.heap.size, 3, none⟩) (by simp)]; simp
        go_wp2_with fail
        go_quiet (first | (go_at_call_of 21 A; refine Ret.quiet (C1.out _)) | (go_at_call_of 21 B; refine Ret.quiet (C2.out _)))
        go_wp2
        go_ret
        exact ⟨rfl, by have s0 := g.size; (try simp only [World.heap_drewN, World.size_alloc] at s0); repeat (first | exact Below.refl _ _ | exact g | refine Below.trans ?_ (Below.mono g (by first | omega | (simp; done) | (simp; omega))) | refine Below.setCell ?_ (by first | omega | (simp; done) | (simp; omega)) _ | refine below_dN ?_ _ | refine Below.drew ?_ | refine Below.alloc ?_ (by first | omega | (simp; done) | (simp; omega)) _)⟩
      · have ka : (a == 0) = false := beq_eq_false_iff_ne.2 a0
        obtain ⟨nb, hnb⟩ : ∃ nb, -b = nb := ⟨_, rfl⟩
        have e1 : wrap64 (-b) = nb := by rw [hnb]; exact wrap64_of (by omega) (by omega)
        rw [hnb] at W2 W3
        by_cases k : a = nb
        · have kb : (a != nb) = false := by rw [bne, beq_iff_eq.2 k]; rfl
          have hz := W3 a0 k
          obtain ⟨c, hc⟩ : ∃ c, cmpZ (A * A * Q) (B * B * P) = c := ⟨_, rfl⟩
          rw [hc] at hz
          have uc := unit3 hc
          have uz := unit_mul ua uc
          have e2 : wrap64 (a * c) = z := by rw [hz]; exact wrap64_of (by omega) (by omega)
          have sA := sq_bound A0 A1
          have sB := sq_bound B0 B1
          obtain ⟨AA, hAA⟩ : ∃ x, A * A = x := ⟨_, rfl⟩
          obtain ⟨BB, hBB⟩ : ∃ x, B * B = x := ⟨_, rfl⟩
          rw [hAA] at sA hc
          rw [hBB] at sB hc
          have e3 : wrap64 (A * A) = AA := by rw [hAA]; exact wrap64_of (by omega) (by omega)
          have e4 : wrap64 (B * B) = BB := by rw [hBB]; exact wrap64_of (by omega) (by omega)
          have C3 := Lib.hid (cmpMul_any AA Q BB P c · (fitB_true (by omega)) (fitB_true (by omega)) (fitB_true (by omega)) (fitB_true (by omega)) hc)
          clear a0 ua ub uc uz sA sB hnb k hc hz hAA hBB
          clear W1 W2 W3 h hg ha hb A0 A1 B0 B1 P0 P1 Q0 Q1 hp
          go_enter Try.func11, Try.ntmps11
          go_wp2_with fail
          refine (G.out _).mono ?_; rintro e gw ⟨rfl, g⟩
          have c0 : gw.cell? ⟨w.heap.size, 0, none⟩ = some (.int .i64 A) := by rw [g.cell (p := ⟨w.heap.size, 0, none⟩) (by simp)]; simp
          have c1 : gw.cell? ⟨w.heap.size, 1, none⟩ = some (.int .i64 B) := by rw [g.cell (p := ⟨w.heap.size, 1, none⟩) (by simp)]; simp
          have c2 : gw.cell? ⟨w.heap.size, 2, none⟩ = some (.int .i64 P) := by rw [g.cell (p := ⟨w.heap.size, 2, none⟩) (by simp)]; simp
          have c3 : gw.cell? ⟨w.heap.size, 3, none⟩ = some (.int .i64 Q) := by rw [g.cell (p := ⟨w.heap.size, 3, none⟩) (by simp)]; simp
          go_wp2_with fail
          go_quiet (first | (go_at_call_of 21 A; refine Ret.quiet (C1.out _)) | (go_at_call_of 21 B; refine Ret.quiet (C2.out _)))
          go_wp2_with fail
          refine (C3.out _).mono ?_; rintro e w' ⟨rfl, n11, rfl⟩
          go_wp2
          go_ret
          exact ⟨ret_i e2, by have s0 := g.size; (try simp only [World.heap_drewN, World.size_alloc] at s0); repeat (first | exact Below.refl _ _ | exact g | refine Below.trans ?_ (Below.mono g (by first | omega | (simp; done) | (simp; omega))) | refine Below.setCell ?_ (by first | omega | (simp; done) | (simp; omega)) _ | refine below_dN ?_ _ | refine Below.drew ?_ | refine Below.alloc ?_ (by first | omega | (simp; done) | (simp; omega)) _)⟩
        · have kb : (a != nb) = true := by rw [bne, beq_eq_false_iff_ne.2 k]; rfl
          obtain rfl := W2 a0 k
          clear a0 ua ub hnb k
          clear W1 W2 W3 h hg ha hb A0 A1 B0 B1 P0 P1 Q0 Q1 hp
          go_enter Try.func11, Try.ntmps11
          go_wp2_with fail
          refine (G.out _).mono ?_; rintro e gw ⟨rfl, g⟩
          have c0 : gw.cell? ⟨w.heap.size, 0, none⟩ = some (.int .i64 A) := by rw [g.cell (p := ⟨w.heap.size, 0, none⟩) (by simp)]; simp
          have c1 : gw.cell? ⟨w.heap.size, 1, none⟩ = some (.int .i64 B) := by rw [g.cell (p := ⟨w.heap.size, 1, none⟩) (by simp)]; simp
          have c2 : gw.cell? ⟨w.heap.size, 2, none⟩ = some (.int .i64 P) := by rw [g.cell (p := ⟨w.heap.size, 2, none⟩) (by simp)]; simp
          have c3 : gw.cell? ⟨w.heap.size, 3, none⟩ = some (.int .i64 Q) := by rw [g.cell (p := ⟨w.heap.size, 3, none⟩) (by simp)]; simp
          go_wp2_with fail
          go_quiet (first | (go_at_call_of 21 A; refine Ret.quiet (C1.out _)) | (go_at_call_of 21 B; refine Ret.quiet (C2.out _)))
          go_wp2
          go_ret
          exact ⟨rfl, by have s0 := g.size; (try simp only [World.heap_drewN, World.size_alloc] at s0); repeat (first | exact Below.refl _ _ | exact g | refine Below.trans ?_ (Below.mono g (by first | omega | (simp; done) | (simp; omega))) | refine Below.setCell ?_ (by first | omega | (simp; done) | (simp; omega)) _ | refine below_dN ?_ _ | refine Below.drew ?_ | refine Below.alloc ?_ (by first | omega | (simp; done) | (simp; omega)) _)⟩

theorem lessBoth_core (a b c v : Int) (o : Bool) (w : World) (ha : fitB a = true) (hb : fitB b = true) (hc : fitB c = true) (hv : cutZ (a - b - c) = v) (ho : fitB (a - b - c) = o) :
    Calls Try.prog 23 #[.int .i64 a, .int .i64 b, .int .i64 c] w (Ret (.tuple #[.int .i64 v, .bool o]) w) := by
  cases hd : fitB (a - b)
  · have C1 := Lib.hid (sub_named a b 0 false · ha hb (cutZ_false hd) hd)
    cases he : fitB (a - c)
    · have C2 := Lib.hid (sub_named a c 0 false · ha hc (cutZ_false he) he)
      have hn : fitB (a - b - c) = false := by
        have := fitB_not.1 hd; have := fitB_not.1 he; have := fitB_iff.1 ha; have := fitB_iff.1 hb; have := fitB_iff.1 hc
        exact fitB_false (by omega)
      rw [hn] at ho; rw [cutZ_false hn] at hv
      subst ho hv
      clear hd he hn ha hb hc
      go_enter Try.func23, Try.ntmps23
      go_wp2_with fail
      refine (C1.out _).mono ?_; rintro e w' ⟨rfl, n12, rfl⟩
      go_wp2_with fail
      refine (C2.out _).mono ?_; rintro e w' ⟨rfl, n13, rfl⟩
      go_wp2
      go_ret2
      first | exact ⟨rfl, 0, rfl⟩ | exact ⟨rfl, _, rfl⟩
    · have C2 := Lib.hid (sub_named a c (a - c) true · ha hc (cutZ_true he) he)
      rw [show a - b - c = a - c - b by omega] at hv ho
      obtain ⟨d, hde⟩ : ∃ d, a - c = d := ⟨_, rfl⟩
      rw [hde] at C2 hv ho he
      have C3 := Lib.hid (sub_named d b v o · he hb hv ho)
      clear hd he hde ha hb hc hv ho
      go_enter Try.func23, Try.ntmps23
      go_wp2_with fail
      refine (C1.out _).mono ?_; rintro e w' ⟨rfl, n14, rfl⟩
      go_wp2_with fail
      refine (C2.out _).mono ?_; rintro e w' ⟨rfl, n15, rfl⟩
      go_wp2_with fail
      refine (C3.out _).mono ?_; rintro e w' ⟨rfl, n16, rfl⟩
      go_wp2
      go_ret2
      first | exact ⟨rfl, 0, rfl⟩ | exact ⟨rfl, _, rfl⟩
  · have C1 := Lib.hid (sub_named a b (a - b) true · ha hb (cutZ_true hd) hd)
    obtain ⟨d, hde⟩ : ∃ d, a - b = d := ⟨_, rfl⟩
    rw [hde] at C1 hv ho hd
    have C3 := Lib.hid (sub_named d c v o · hd hc hv ho)
    clear hd hde ha hb hc hv ho
    go_enter Try.func23, Try.ntmps23
    go_wp2_with fail
    refine (C1.out _).mono ?_; rintro e w' ⟨rfl, n17, rfl⟩
    go_wp2_with fail
    refine (C3.out _).mono ?_; rintro e w' ⟨rfl, n18, rfl⟩
    go_wp2
    go_ret2
    first | exact ⟨rfl, 0, rfl⟩ | exact ⟨rfl, _, rfl⟩

/-- What Cmp answers: 0 where a difference has no place in an int64. -/
def cmpV (a b A B P Q : Int) : Int := if fitB (a - b - A) = true ∧ fitB (-B) = true then signZ (a - b - A) (-B) P Q else 0
/-- The document's words: the sign of the surd of the exact differences. -/
theorem cmpV_says (a b A B P Q : Int) : cmpV a b A B P Q = signZ (a - b - A) (-B) P Q := by
  unfold cmpV
  split
  · rfl
  · rename_i h
    cases hg : goodB (a - b - A) (-B) P Q
    · exact (signZ_bad hg).symm
    · have := goodB_iff.1 hg
      exact absurd ⟨fitB_true (by omega), fitB_true (by omega)⟩ h

set_option maxHeartbeats 400000 in
theorem cmp_any (a b A B P Q z : Int) (w : World) (ha : fitB a = true) (hb : fitB b = true) (hA : fitB A = true) (hB : fitB B = true) (h : signZ (a - b - A) (-B) P Q = z) :
    Calls Try.prog 12 #[.int .i64 a, .int .i64 b, .agg #[.int .i64 A, .int .i64 B, .int .i64 P, .int .i64 Q]] w (RetB (.int .i64 z) w) := by
  cases hd : fitB (a - b - A)
  · have C1 := Lib.hid (lessBoth_core a b A 0 false · ha hb hA (cutZ_false hd) hd)
    obtain rfl : z = 0 := by rw [← h, ← cmpV_says]; unfold cmpV; rw [if_neg (by rw [hd]; simp)]
    clear h hd ha hb hA hB
    go_enter Try.func12, Try.ntmps12
    go_wp2_with fail
    refine (C1.out _).mono ?_; rintro e w' ⟨rfl, n19, rfl⟩
    go_wp2
    go_ret
    exact ⟨rfl, by repeat (first | exact Below.refl _ _ | refine Below.setCell ?_ (by first | omega | (simp; done) | (simp; omega)) _ | refine below_dN ?_ _ | refine Below.drew ?_ | refine Below.alloc ?_ (by first | omega | (simp; done) | (simp; omega)) _)⟩
  · have C1 := Lib.hid (lessBoth_core a b A (a - b - A) true · ha hb hA (cutZ_true hd) hd)
    obtain ⟨d, hde⟩ : ∃ d, a - b - A = d := ⟨_, rfl⟩
    rw [hde] at C1 h hd
    cases hn : fitB (0 - B)
    · have C2 := Lib.hid (sub_named 0 B 0 false · (by decide) hB (cutZ_false hn) hn)
      obtain rfl : z = 0 := by
        rw [← h]; refine signZ_bad (goodB_not.2 ?_)
        have := fitB_not.1 hn; omega
      clear h hd ha hb hA hB hde hn
      go_enter Try.func12, Try.ntmps12
      go_wp2_with fail
      refine (C1.out _).mono ?_; rintro e w' ⟨rfl, n20, rfl⟩
      go_wp2_with fail
      refine (C2.out _).mono ?_; rintro e w' ⟨rfl, n21, rfl⟩
      go_wp2
      go_ret
      exact ⟨rfl, by repeat (first | exact Below.refl _ _ | refine Below.setCell ?_ (by first | omega | (simp; done) | (simp; omega)) _ | refine below_dN ?_ _ | refine Below.drew ?_ | refine Below.alloc ?_ (by first | omega | (simp; done) | (simp; omega)) _)⟩
    · have C2 := Lib.hid (sub_named 0 B (0 - B) true · (by decide) hB (cutZ_true hn) hn)
      rw [show -B = 0 - B by omega] at h
      obtain ⟨nB, hnB⟩ : ∃ x, 0 - B = x := ⟨_, rfl⟩
      rw [hnB] at C2 h
      have C3 := Lib.hid (sign_any d nB P Q z · h)
      clear h hd ha hb hA hB hde hn hnB
      go_enter Try.func12, Try.ntmps12
      go_wp2_with fail
      refine (C1.out _).mono ?_; rintro e w' ⟨rfl, n22, rfl⟩
      go_wp2_with fail
      refine (C2.out _).mono ?_; rintro e w' ⟨rfl, n23, rfl⟩
      go_wp2_with fail
      refine (C3.out _).mono ?_; rintro e gw ⟨rfl, g⟩
      go_wp2
      go_ret
      exact ⟨rfl, by have s0 := g.size; (try simp only [World.heap_drewN, World.size_alloc] at s0); repeat (first | exact Below.refl _ _ | exact g | refine Below.trans ?_ (Below.mono g (by first | omega | (simp; done) | (simp; omega))) | refine Below.setCell ?_ (by first | omega | (simp; done) | (simp; omega)) _ | refine below_dN ?_ _ | refine Below.drew ?_ | refine Below.alloc ?_ (by first | omega | (simp; done) | (simp; omega)) _)⟩

theorem acceptable_any (v x p q : Int) (b : Bool) (w : World) (h : acceptB v x p q = b) :
    Calls Try.prog 25 #[.int .i64 v, .int .i64 x, .int .i64 p, .int .i64 q] w (RetB (.bool b) w) := by
  by_cases h1 : 0 ≤ v
  · by_cases h2 : 0 ≤ x
    · have hg : goodB v x p q = b := by rw [← h]; unfold acceptB; rw [show decide (0 ≤ v ∧ 0 ≤ x) = true from decide_eq_true ⟨h1, h2⟩]; rfl
      have C := Lib.hid (good_any v x p q b · hg)
      clear h hg
      go_enter Try.func25, Try.ntmps25
      go_wp2_with fail
      refine (C.out _).mono ?_; rintro e gw ⟨rfl, g⟩
      go_wp2
      go_ret
      exact ⟨rfl, by have s0 := g.size; (try simp only [World.heap_drewN, World.size_alloc] at s0); repeat (first | exact Below.refl _ _ | exact g | refine Below.trans ?_ (Below.mono g (by first | omega | (simp; done) | (simp; omega))) | refine Below.setCell ?_ (by first | omega | (simp; done) | (simp; omega)) _ | refine below_dN ?_ _ | refine Below.drew ?_ | refine Below.alloc ?_ (by first | omega | (simp; done) | (simp; omega)) _)⟩
    · obtain rfl : b = false := by rw [← h]; exact acceptB_not.2 (by omega)
      have h2' : decide (0 ≤ x) = false := decide_eq_false h2
      clear h
      go_enter Try.func25, Try.ntmps25
      go_wp2
      go_ret
      exact ⟨rfl, by repeat (first | exact Below.refl _ _ | refine Below.setCell ?_ (by first | omega | (simp; done) | (simp; omega)) _ | refine below_dN ?_ _ | refine Below.drew ?_ | refine Below.alloc ?_ (by first | omega | (simp; done) | (simp; omega)) _)⟩
  · obtain rfl : b = false := by rw [← h]; exact acceptB_not.2 (by omega)
    have h1' : decide (0 ≤ v) = false := decide_eq_false h1
    clear h
    go_enter Try.func25, Try.ntmps25
    go_wp2
    go_ret
    exact ⟨rfl, by repeat (first | exact Below.refl _ _ | refine Below.setCell ?_ (by first | omega | (simp; done) | (simp; omega)) _ | refine below_dN ?_ _ | refine Below.drew ?_ | refine Below.alloc ?_ (by first | omega | (simp; done) | (simp; omega)) _)⟩

theorem above_any (v x p q : Int) (b : Bool) (w : World) (h : aboveB v x p q = b) :
    Calls Try.prog 14 #[.int .i64 v, .int .i64 x, .int .i64 p, .int .i64 q] w (RetB (.bool b) w) := by
  cases ha : acceptB v x p q
  · have C := Lib.hid (acceptable_any v x p q false · ha)
    obtain rfl : b = false := by rw [← h]; exact aboveB_bad ha
    clear h ha
    go_enter Try.func14, Try.ntmps14
    go_wp2_with fail
    refine (C.out _).mono ?_; rintro e gw ⟨rfl, g⟩
    go_wp2
    go_ret
    exact ⟨rfl, by have s0 := g.size; (try simp only [World.heap_drewN, World.size_alloc] at s0); repeat (first | exact Below.refl _ _ | exact g | refine Below.trans ?_ (Below.mono g (by first | omega | (simp; done) | (simp; omega))) | refine Below.setCell ?_ (by first | omega | (simp; done) | (simp; omega)) _ | refine below_dN ?_ _ | refine Below.drew ?_ | refine Below.alloc ?_ (by first | omega | (simp; done) | (simp; omega)) _)⟩
  · have C := Lib.hid (acceptable_any v x p q true · ha)
    have hw := acceptB_iff.1 ha
    rw [aboveB_sign ha] at h
    obtain ⟨z, hz⟩ : ∃ z, signZ (v - x) (-x) p q = z := ⟨_, rfl⟩
    rw [hz] at h
    have e1 : wrap64 (v - x) = v - x := wrap64_of (by omega) (by omega)
    have e2 : wrap64 (-x) = -x := wrap64_of (by omega) (by omega)
    obtain ⟨d, hd⟩ : ∃ d, v - x = d := ⟨_, rfl⟩
    obtain ⟨nx, hn⟩ : ∃ d, -x = d := ⟨_, rfl⟩
    have e3 : wrap64 (v - x) = d := e1.trans hd
    have e4 : wrap64 (-x) = nx := e2.trans hn
    rw [hd, hn] at hz
    have C2 := Lib.hid (sign_any d nx p q z · hz)
    clear e1 e2 hz hd hn hw ha
    go_enter Try.func14, Try.ntmps14
    go_wp2_with fail
    refine (C.out _).mono ?_; rintro e gw ⟨rfl, g⟩
    go_wp2_with fail
    refine (C2.out _).mono ?_; rintro e kw ⟨rfl, k⟩
    go_wp2
    go_ret
    exact ⟨rfl, by have s0 := g.size; (try simp only [World.heap_drewN, World.size_alloc] at s0); have s1 := k.size; (try simp only [World.heap_drewN, World.size_alloc] at s1); repeat (first | exact Below.refl _ _ | exact g | exact k | refine Below.trans ?_ (Below.mono g (by first | omega | (simp; done) | (simp; omega))) | refine Below.trans ?_ (Below.mono k (by first | omega | (simp; done) | (simp; omega))) | refine Below.setCell ?_ (by first | omega | (simp; done) | (simp; omega)) _ | refine below_dN ?_ _ | refine Below.drew ?_ | refine Below.alloc ?_ (by first | omega | (simp; done) | (simp; omega)) _)⟩

theorem mul_bound {x y m n : Int} (x0 : 0 ≤ x) (x1 : x ≤ m) (y0 : 0 ≤ y) (y1 : y ≤ n) : 0 ≤ x * y ∧ x * y ≤ m * n :=
  ⟨Int.mul_nonneg x0 y0, Int.mul_le_mul x1 y1 y0 (by omega)⟩
theorem mul_bound' {x y m n : Int} (x0 : -m ≤ x) (x1 : x ≤ m) (y0 : 0 ≤ y) (y1 : y ≤ n) (hm : 0 ≤ m) : -(m * n) ≤ x * y ∧ x * y ≤ m * n := by
  by_cases h : 0 ≤ x
  · have := mul_bound h x1 y0 y1
    have := Int.mul_nonneg hm (Int.le_trans y0 y1)
    omega
  · have := mul_bound (show 0 ≤ -x by omega) (show -x ≤ m by omega) y0 y1
    rw [Int.neg_mul] at this
    have := Int.mul_nonneg hm (Int.le_trans y0 y1)
    omega

set_option maxHeartbeats 400000 in
theorem bound_any (v x p q : Int) (b : Bool) (w : World) (h : boundB v x p q = b) :
    Calls Try.prog 13 #[.int .i64 v, .int .i64 x, .int .i64 p, .int .i64 q] w (RetB (.bool b) w) := by
  cases ha : acceptB v x p q
  · have C := Lib.hid (acceptable_any v x p q false · ha)
    obtain rfl : b = false := by rw [← h]; exact boundB_bad ha
    clear h ha
    go_enter Try.func13, Try.ntmps13
    go_wp2_with fail
    refine (C.out _).mono ?_; rintro e gw ⟨rfl, g⟩
    go_wp2
    go_ret
    exact ⟨rfl, by have s0 := g.size; (try simp only [World.heap_drewN, World.size_alloc] at s0); repeat (first | exact Below.refl _ _ | exact g | refine Below.trans ?_ (Below.mono g (by first | omega | (simp; done) | (simp; omega))) | refine Below.setCell ?_ (by first | omega | (simp; done) | (simp; omega)) _ | refine below_dN ?_ _ | refine Below.drew ?_ | refine Below.alloc ?_ (by first | omega | (simp; done) | (simp; omega)) _)⟩
  · have C := Lib.hid (acceptable_any v x p q true · ha)
    obtain ⟨v0, v1, x0, x1, p0, p1, q0, q1⟩ := acceptB_iff.1 ha
    have m1 := mul_bound' (x := v - x) (y := q) (m := 1000000000) (n := 1000000) (by omega) (by omega) (by omega) q1 (by omega)
    have m2 := mul_bound x0 x1 p0 p1
    have m3 := mul_bound x0 x1 x0 x1
    have m4 := mul_bound p0 p1 (show 0 ≤ q by omega) q1
    have hr : restZ v x p q = (v - x) * q - x * p := rfl
    have L := boundB_low ha
    have H := boundB_high ha
    rw [show 4 * (x * x) = 4 * x * x by rw [Int.mul_assoc]] at H
    have m5 : 4 * x * x = 4 * (x * x) := by rw [Int.mul_assoc]
    have e1 : wrap64 (v - x) = v - x := wrap64_of (by omega) (by omega)
    obtain ⟨d, hd⟩ : ∃ d, v - x = d := ⟨_, rfl⟩
    rw [hd] at e1 hr m1
    have e2 : wrap64 (d * q) = d * q := wrap64_of (by omega) (by omega)
    have e3 : wrap64 (x * p) = x * p := wrap64_of (by omega) (by omega)
    have e4 : wrap64 (d * q - x * p) = d * q - x * p := wrap64_of (by omega) (by omega)
    have e5 : wrap64 (4 * x) = 4 * x := wrap64_of (by omega) (by omega)
    have e6 : wrap64 (4 * x * x) = 4 * x * x := wrap64_of (by omega) (by omega)
    have e7 : wrap64 (p * q) = p * q := wrap64_of (by omega) (by omega)
    obtain ⟨r1, hr1⟩ : ∃ r, d * q = r := ⟨_, rfl⟩
    obtain ⟨r2, hr2⟩ : ∃ r, x * p = r := ⟨_, rfl⟩
    obtain ⟨r3, hr3⟩ : ∃ r, 4 * x = r := ⟨_, rfl⟩
    obtain ⟨r5, hr5⟩ : ∃ r, p * q = r := ⟨_, rfl⟩
    rw [hr1, hr2] at hr e4
    rw [hr5] at H m4
    rw [hr3] at H m5
    obtain ⟨r4, hr4⟩ : ∃ r, r3 * x = r := ⟨_, rfl⟩
    rw [hr4] at H m5
    rw [hr1] at m1; rw [hr2] at m2
    have f1 : wrap64 (d * q) = r1 := e2.trans hr1
    have f2 : wrap64 (x * p) = r2 := e3.trans hr2
    have f3 : wrap64 (4 * x) = r3 := e5.trans hr3
    have f4 : wrap64 (r3 * x) = r4 := by rw [← hr4]; rw [hr3] at e6; exact e6
    have f5 : wrap64 (p * q) = r5 := e7.trans hr5
    obtain ⟨r, hrr⟩ : ∃ r, restZ v x p q = r := ⟨_, rfl⟩
    rw [hrr] at L H
    have f6 : wrap64 (r1 - r2) = r := by rw [e4, ← hr, hrr]
    have f0 : wrap64 (v - x) = d := e1 ▸ (by rw [hd])
    have rb : r = r1 - r2 := by rw [← hrr, hr]
    by_cases k : r ≤ 0
    · obtain rfl : b = true := by rw [← h]; exact L k
      clear L H h hr hrr rb hr1 hr2 hr3 hr4 hr5 e1 e2 e3 e4 e5 e6 e7 m1 m2 m3 m4 m5 ha hd v0 v1 x0 x1 p0 p1 q0 q1
      go_enter Try.func13, Try.ntmps13
      go_wp2_with fail
      refine (C.out _).mono ?_; rintro e gw ⟨rfl, g⟩
      go_wp2
      go_ret
      exact ⟨rfl, by have s0 := g.size; (try simp only [World.heap_drewN, World.size_alloc] at s0); repeat (first | exact Below.refl _ _ | exact g | refine Below.trans ?_ (Below.mono g (by first | omega | (simp; done) | (simp; omega))) | refine Below.setCell ?_ (by first | omega | (simp; done) | (simp; omega)) _ | refine below_dN ?_ _ | refine Below.drew ?_ | refine Below.alloc ?_ (by first | omega | (simp; done) | (simp; omega)) _)⟩
    · have k' : decide (r ≤ 0) = false := decide_eq_false k
      have hb := H k
      rw [h] at hb
      obtain ⟨c, hc⟩ : ∃ c, cmpZ (r * r) (r4 * r5) = c := ⟨_, rfl⟩
      rw [hc] at hb
      have C2 := Lib.hid (cmpMul_any r r r4 r5 c · (fitB_true (by omega)) (fitB_true (by omega)) (fitB_true (by omega)) (fitB_true (by omega)) hc)
      clear L H h hr hrr rb hr1 hr2 hr3 hr4 hr5 e1 e2 e3 e4 e5 e6 e7 m1 m2 m3 m4 m5 ha hd v0 v1 x0 x1 p0 p1 q0 q1 hc
      go_enter Try.func13, Try.ntmps13
      go_wp2_with fail
      refine (C.out _).mono ?_; rintro e gw ⟨rfl, g⟩
      go_wp2_with fail
      refine (C2.out _).mono ?_; rintro e w' ⟨rfl, n24, rfl⟩
      go_wp2
      go_ret
      exact ⟨ret_b hb.symm, by have s0 := g.size; (try simp only [World.heap_drewN, World.size_alloc] at s0); repeat (first | exact Below.refl _ _ | exact g | refine Below.trans ?_ (Below.mono g (by first | omega | (simp; done) | (simp; omega))) | refine Below.setCell ?_ (by first | omega | (simp; done) | (simp; omega)) _ | refine below_dN ?_ _ | refine Below.drew ?_ | refine Below.alloc ?_ (by first | omega | (simp; done) | (simp; omega)) _)⟩

/-- The example at the head of each law of layer 2. -/
theorem awake2 (w : World) : Calls Try.prog 10 #[] w (RetB (.bool true) w) := by
  have C1 := Lib.hid (above_any 3 1 4 1 false · (by decide))
  have C2 := Lib.hid (above_any 4 1 4 1 true · (by decide))
  have C3 := Lib.hid (sign_any (-1) 1 2 1 1 · (by decide))
  have C4 := Lib.hid (good_any 0 0 0 1 true · (by decide))
  go_enter Try.func10, Try.ntmps10
  go_wp2_with fail
  refine (C1.out _).mono ?_; rintro e g1w ⟨rfl, g1⟩
  go_wp2_with fail
  refine (C2.out _).mono ?_; rintro e g2w ⟨rfl, g2⟩
  go_wp2_with fail
  refine (C3.out _).mono ?_; rintro e g3w ⟨rfl, g3⟩
  go_wp2_with fail
  refine (C4.out _).mono ?_; rintro e g4w ⟨rfl, g4⟩
  go_wp2
  go_ret
  exact ⟨rfl, by have s0 := g1.size; (try simp only [World.heap_drewN, World.size_alloc] at s0); have s1 := g2.size; (try simp only [World.heap_drewN, World.size_alloc] at s1); have s2 := g3.size; (try simp only [World.heap_drewN, World.size_alloc] at s2); have s3 := g4.size; (try simp only [World.heap_drewN, World.size_alloc] at s3); repeat (first | exact Below.refl _ _ | exact g1 | exact g2 | exact g3 | exact g4 | refine Below.trans ?_ (Below.mono g1 (by first | omega | (simp; done) | (simp; omega))) | refine Below.trans ?_ (Below.mono g2 (by first | omega | (simp; done) | (simp; omega))) | refine Below.trans ?_ (Below.mono g3 (by first | omega | (simp; done) | (simp; omega))) | refine Below.trans ?_ (Below.mono g4 (by first | omega | (simp; done) | (simp; omega))) | refine Below.setCell ?_ (by first | omega | (simp; done) | (simp; omega)) _ | refine below_dN ?_ _ | refine Below.drew ?_ | refine Below.alloc ?_ (by first | omega | (simp; done) | (simp; omega)) _)⟩
end Go.Proofs.Ytdflllhepijcgaa
