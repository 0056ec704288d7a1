/- The contracts of the document's own reckoning of layer 1, the third part: orders of products, sums, differences. -/
import Derived.Test.YtkjgpidiompmlaaRef2
namespace Go.Proofs.Ytkjgpidiompmlaa
open Go.RowKit
set_option linter.unusedVariables false
set_option linter.unusedSimpArgs false

/-- The order of two sizes in halves. -/
theorem wide_order {z1 z2 : Int} {n1 n2 : Bool} {h1 l1 h2 l2 : Nat} (k1 : WideOf z1 n1 h1 l1) (k2 : WideOf z2 n2 h2 l2) :
    (n1 = true → n2 = false → cmpZ z1 z2 = -1) ∧ (n1 = false → n2 = true → cmpZ z1 z2 = 1) ∧
    (n1 = n2 → (h1 < h2 ∨ h1 = h2 ∧ l1 < l2) → cmpZ z1 z2 = if n1 = true then 1 else -1) ∧
    (n1 = n2 → (h2 < h1 ∨ h1 = h2 ∧ l2 < l1) → cmpZ z1 z2 = if n1 = true then -1 else 1) ∧
    (n1 = n2 → h1 = h2 → l1 = l2 → cmpZ z1 z2 = 0) := by
  have a1 := k1.abs
  have a2 := k2.abs
  have b1 := k1.lo_lt
  have b2 := k2.lo_lt
  have s1 := k1.1
  have s2 := k2.1
  clear k1 k2
  have t1 : n1 = true → z1 < 0 := fun h => of_decide_eq_true (s1.trans h)
  have f1 : n1 = false → ¬ z1 < 0 := fun h => of_decide_eq_false (s1.trans h)
  have t2 : n2 = true → z2 < 0 := fun h => of_decide_eq_true (s2.trans h)
  have f2 : n2 = false → ¬ z2 < 0 := fun h => of_decide_eq_false (s2.trans h)
  clear s1 s2
  refine ⟨fun h k => ?_, fun h k => ?_, fun h k => ?_, fun h k => ?_, fun h k k' => ?_⟩
  · have := t1 h; have := f2 k; exact cmpZ_lt (by omega)
  · have := f1 h; have := t2 k; exact cmpZ_gt (by omega)
  · subst h
    cases n1
    · have := f1 rfl; have := f2 rfl; rw [if_neg (by decide)]; exact cmpZ_lt (by omega)
    · have := t1 rfl; have := t2 rfl; rw [if_pos rfl]; exact cmpZ_gt (by omega)
  · subst h
    cases n1
    · have := f1 rfl; have := f2 rfl; rw [if_neg (by decide)]; exact cmpZ_gt (by omega)
    · have := t1 rfl; have := t2 rfl; rw [if_pos rfl]; exact cmpZ_lt (by omega)
  · subst h
    cases n1
    · have := f1 rfl; have := f2 rfl; exact cmpZ_eq (by omega)
    · have := t1 rfl; have := t2 rfl; exact cmpZ_eq (by omega)

set_option maxHeartbeats 2000000 in
theorem rcmp_any (z1 z2 v : Int) (n1 n2 : Bool) (h1 l1 h2 l2 : Nat) (w : World) (k1 : WideOf z1 n1 h1 l1) (k2 : WideOf z2 n2 h2 l2) (hv : cmpZ z1 z2 = v) :
    Calls Try.prog 35 #[.agg #[.bool n1, .int .u64 (h1 : Int), .int .u64 (l1 : Int)], .agg #[.bool n2, .int .u64 (h2 : Int), .int .u64 (l2 : Int)]] w (RetB (.int .i64 v) w) := by
  obtain ⟨c1, c2, c3, c4, c5⟩ := wide_order k1 k2
  rw [hv] at c1 c2 c3 c4 c5
  clear k1 k2 hv
  by_cases hn : n1 = n2
  · subst hn
    clear c1 c2
    rcases Nat.lt_trichotomy h1 h2 with k | k | k
    · have e := c3 rfl (.inl k)
      clear c3 c4 c5
      have kd : decide (h1 < h2) = true := decide_eq_true k
      have kd' : decide ((h1 : Int) < h2) = true := decide_eq_true (by omega)
      cases n1 <;> simp only [Bool.false_eq_true, if_false, if_true] at e <;> subst e
      all_goals
        go_enter Try.func35, Try.ntmps35
        go_wp2
        go_ret
        exact ⟨rfl, by repeat (first | exact Below.refl _ _ | refine Below.setCell ?_ (by first | omega | (simp; done) | (simp; omega)) _ | refine below_dN ?_ _ | refine Below.drew ?_ | refine Below.alloc ?_ (by first | omega | (simp; done) | (simp; omega)) _)⟩
    · subst k
      rcases Nat.lt_trichotomy l1 l2 with k | k | k
      · have e := c3 rfl (.inr ⟨rfl, k⟩)
        clear c3 c4 c5
        have kd : decide (l1 < l2) = true := decide_eq_true k
        cases n1 <;> simp only [Bool.false_eq_true, if_false, if_true] at e <;> subst e
        all_goals
          go_enter Try.func35, Try.ntmps35
          go_wp2
          go_ret
          exact ⟨rfl, by repeat (first | exact Below.refl _ _ | refine Below.setCell ?_ (by first | omega | (simp; done) | (simp; omega)) _ | refine below_dN ?_ _ | refine Below.drew ?_ | refine Below.alloc ?_ (by first | omega | (simp; done) | (simp; omega)) _)⟩
      · subst k
        have e := c5 rfl rfl rfl
        clear c3 c4 c5
        subst e
        cases n1
        all_goals
          go_enter Try.func35, Try.ntmps35
          go_wp2
          go_ret
          exact ⟨rfl, by repeat (first | exact Below.refl _ _ | refine Below.setCell ?_ (by first | omega | (simp; done) | (simp; omega)) _ | refine below_dN ?_ _ | refine Below.drew ?_ | refine Below.alloc ?_ (by first | omega | (simp; done) | (simp; omega)) _)⟩
      · have e := c4 rfl (.inr ⟨rfl, k⟩)
        clear c3 c4 c5
        have kd : decide (l2 < l1) = true := decide_eq_true k
        have kd2 : decide (l1 < l2) = false := decide_eq_false (by omega)
        cases n1 <;> simp only [Bool.false_eq_true, if_false, if_true] at e <;> subst e
        all_goals
          go_enter Try.func35, Try.ntmps35
          go_wp2
          go_ret
          exact ⟨rfl, by repeat (first | exact Below.refl _ _ | refine Below.setCell ?_ (by first | omega | (simp; done) | (simp; omega)) _ | refine below_dN ?_ _ | refine Below.drew ?_ | refine Below.alloc ?_ (by first | omega | (simp; done) | (simp; omega)) _)⟩
    · have e := c4 rfl (.inl k)
      clear c3 c4 c5
      have kd : decide (h2 < h1) = true := decide_eq_true k
      have kd2 : decide (h1 < h2) = false := decide_eq_false (by omega)
      have kd3 : ¬ h1 = h2 := by omega
      have kd4 : ((h1 : Int) == (h2 : Int)) = false := beq_eq_false_iff_ne.2 (by omega)
      cases n1 <;> simp only [Bool.false_eq_true, if_false, if_true] at e <;> subst e
      all_goals
        go_enter Try.func35, Try.ntmps35
        go_wp2
        go_ret
        exact ⟨rfl, by repeat (first | exact Below.refl _ _ | refine Below.setCell ?_ (by first | omega | (simp; done) | (simp; omega)) _ | refine below_dN ?_ _ | refine Below.drew ?_ | refine Below.alloc ?_ (by first | omega | (simp; done) | (simp; omega)) _)⟩
  · clear c3 c4 c5
    cases n1 <;> cases n2 <;> first | (exact absurd rfl hn) | skip
    · have e := c2 rfl rfl
      clear c1 c2 hn
      subst e
      go_enter Try.func35, Try.ntmps35
      go_wp2
      go_ret
      exact ⟨rfl, by repeat (first | exact Below.refl _ _ | refine Below.setCell ?_ (by first | omega | (simp; done) | (simp; omega)) _ | refine below_dN ?_ _ | refine Below.drew ?_ | refine Below.alloc ?_ (by first | omega | (simp; done) | (simp; omega)) _)⟩
    · have e := c1 rfl rfl
      clear c1 c2 hn
      subst e
      go_enter Try.func35, Try.ntmps35
      go_wp2
      go_ret
      exact ⟨rfl, by repeat (first | exact Below.refl _ _ | refine Below.setCell ?_ (by first | omega | (simp; done) | (simp; omega)) _ | refine below_dN ?_ _ | refine Below.drew ?_ | refine Below.alloc ?_ (by first | omega | (simp; done) | (simp; omega)) _)⟩

set_option maxHeartbeats 400000 in
theorem rcmpMul_any (a b c d v : Int) (w : World) (ha : fitB a = true) (hb : fitB b = true) (hc : fitB c = true) (hd : fitB d = true) (hv : cmpZ (a * b) (c * d) = v) :
    Calls Try.prog 26 #[.int .i64 a, .int .i64 b, .int .i64 c, .int .i64 d] w (RetB (.int .i64 v) w) := by
  obtain ⟨n1, h1, l1, k1⟩ := WideOf.ex (a * b)
  obtain ⟨n2, h2, l2, k2⟩ := WideOf.ex (c * d)
  have C1 := Lib.hid (times_any a b n1 h1 l1 · ha hb k1)
  have C2 := Lib.hid (times_any c d n2 h2 l2 · hc hd k2)
  have C3 := Lib.hid (rcmp_any _ _ v n1 n2 h1 l1 h2 l2 · k1 k2 hv)
  clear ha hb hc hd k1 k2 hv
  go_enter Try.func26, Try.ntmps26
  go_wp2_with fail
  refine (C1.out _).mono ?_; rintro e b1w ⟨rfl, b1⟩
  go_wp2_with fail
  refine (C2.out _).mono ?_; rintro e b2w ⟨rfl, b2⟩
  go_wp2_with fail
  refine (C3.out _).mono ?_; rintro e b3w ⟨rfl, b3⟩
  go_wp2
  go_ret
  exact ⟨rfl, below_on (below_on b1 b2) b3⟩

end Go.Proofs.Ytkjgpidiompmlaa
