/- The contracts of the document's own reckoning of layer 1, the third part: orders of products, sums, differences. -/
import Derived.Test.YtacjbinjlooohaaDoorRef2
namespace Go.Proofs.YtacjbinjlooohaaDoor
open Go.RowKit
set_option linter.unusedVariables false
set_option linter.unusedSimpArgs false

/-- The order of two sizes in halves. -/
theorem wide_order {z1 z2 : Int} {n1 n2 : Bool} {h1 l1 h2 l2 : Nat} (k1 : WideOf z1 n1 h1 l1) (k2 : WideOf z2 n2 h2 l2) :
    (n1 = true → n2 = false → cmpZ z1 z2 = -1) ∧ (n1 = false → n2 = true → cmpZ z1 z2 = 1) ∧
    (n1 = n2 → (h1 < h2 ∨ h1 = h2 ∧ l1 < l2) → cmpZ z1 z2 = if n1 = true then 1 else -1) ∧
    (n1 = n2 → (h2 < h1 ∨ h1 = h2 ∧ l2 < l1) → cmpZ z1 z2 = if n1 = true then -1 else 1) ∧
    (n1 = n2 → h1 = h2 → l1 = l2 → cmpZ z1 z2 = 0) := by
  have a1 := k1.abs
  have a2 := k2.abs
  have b1 := k1.lo_lt
  have b2 := k2.lo_lt
  have s1 := k1.1
  have s2 := k2.1
  clear k1 k2
  have t1 : n1 = true → z1 < 0 := fun h => of_decide_eq_true (s1.trans h)
  have f1 : n1 = false → ¬ z1 < 0 := fun h => of_decide_eq_false (s1.trans h)
  have t2 : n2 = true → z2 < 0 := fun h => of_decide_eq_true (s2.trans h)
  have f2 : n2 = false → ¬ z2 < 0 := fun h => of_decide_eq_false (s2.trans h)
  clear s1 s2
  refine ⟨fun h k => ?_, fun h k => ?_, fun h k => ?_, fun h k => ?_, fun h k k' => ?_⟩
  · have := t1 h; have := f2 k; exact cmpZ_lt (by omega)
  · have := f1 h; have := t2 k; exact cmpZ_gt (by omega)
  · subst h
    cases n1
    · have := f1 rfl; have := f2 rfl; rw [if_neg (by decide)]; exact cmpZ_lt (by omega)
    · have := t1 rfl; have := t2 rfl; rw [if_pos rfl]; exact cmpZ_gt (by omega)
  · subst h
    cases n1
    · have := f1 rfl; have := f2 rfl; rw [if_neg (by decide)]; exact cmpZ_gt (by omega)
    · have := t1 rfl; have := t2 rfl; rw [if_pos rfl]; exact cmpZ_lt (by omega)
  · subst h
    cases n1
    · have := f1 rfl; have := f2 rfl; exact cmpZ_eq (by omega)
    · have := t1 rfl; have := t2 rfl; exact cmpZ_eq (by omega)

theorem radd_any (a b v : Int) (o : Bool) (w : World) (ha : fitB a = true) (hb : fitB b = true) (hv : cutZ (a + b) = v) (ho : fitB (a + b) = o) :
    Calls Tryd.prog 23 #[.int .i64 a, .int .i64 b] w (Ret (.tuple #[.int .i64 v, .bool o]) w) := by
  obtain ⟨a0, a1⟩ := fitB_iff.1 ha
  obtain ⟨b0, b1⟩ := fitB_iff.1 hb
  clear ha hb
  cases o
  · rw [cutZ_false ho] at hv
    subst hv
    have f2 := fitB_not.1 ho
    clear ho
    by_cases sa : a < 0
    · have e' : wrap64 (a + b) = a + b + 18446744073709551616 := by unfold wrap64; omega
      have e2 : decide (0 ≤ a + b + 18446744073709551616) = true := decide_eq_true (by omega)
      have e3 : decide (0 < a) = false := decide_eq_false (by omega)
      have e4 : b < 0 := by omega
      go_enter Tryd.func23, Tryd.ntmps23
      go_wp2
      go_ret2
      exact ⟨rfl, 0, rfl⟩
    · have e' : wrap64 (a + b) = a + b - 18446744073709551616 := by unfold wrap64; omega
      have e2 : decide (a + b - 18446744073709551616 ≤ 0) = true := decide_eq_true (by omega)
      have e3 : 0 < a := by omega
      have e4 : 0 < b := by omega
      go_enter Tryd.func23, Tryd.ntmps23
      go_wp2
      go_ret2
      exact ⟨rfl, 0, rfl⟩
  · rw [cutZ_true ho] at hv
    subst hv
    obtain ⟨f0, f1⟩ := fitB_iff.1 ho
    clear ho
    have dec : ∀ p : Prop, [Decidable p] → (decide p = true ∨ decide p = false) := fun p _ => by cases decide p <;> simp
    by_cases p1 : 0 < a <;> by_cases p2 : 0 < b <;> by_cases p3 : a < 0 <;> by_cases p4 : b < 0
    all_goals (try omega)
    all_goals
      have q1 : decide (0 < a) = decide (0 < a) := rfl
      first
        | (have r1 : decide (a + b ≤ 0) = false := decide_eq_false (by omega)
           have r2 : decide (0 < a) = true := decide_eq_true (by omega)
           have r3 : decide (0 < b) = true := decide_eq_true (by omega)
           have r4 : decide (a < 0) = false := decide_eq_false (by omega)
           clear q1 dec
           go_enter Tryd.func23, Tryd.ntmps23
           go_wp2
           go_ret2
           exact ⟨rfl, 0, rfl⟩)
        | (have r1 : decide (0 ≤ a + b) = false := decide_eq_false (by omega)
           have r2 : decide (0 < a) = false := decide_eq_false (by omega)
           have r3 : decide (a < 0) = true := decide_eq_true (by omega)
           have r4 : decide (b < 0) = true := decide_eq_true (by omega)
           clear q1 dec
           go_enter Tryd.func23, Tryd.ntmps23
           go_wp2
           go_ret2
           exact ⟨rfl, 0, rfl⟩)
        | (have r2 : decide (0 < a) = true := decide_eq_true (by omega)
           have r3 : decide (0 < b) = false := decide_eq_false (by omega)
           have r4 : decide (a < 0) = false := decide_eq_false (by omega)
           clear q1 dec
           go_enter Tryd.func23, Tryd.ntmps23
           go_wp2
           go_ret2
           exact ⟨rfl, 0, rfl⟩)
        | (have r2 : decide (0 < a) = false := decide_eq_false (by omega)
           have r3 : decide (a < 0) = true := decide_eq_true (by omega)
           have r4 : decide (b < 0) = false := decide_eq_false (by omega)
           clear q1 dec
           go_enter Tryd.func23, Tryd.ntmps23
           go_wp2
           go_ret2
           exact ⟨rfl, 0, rfl⟩)
        | (have r2 : decide (0 < a) = false := decide_eq_false (by omega)
           have r3 : decide (a < 0) = false := decide_eq_false (by omega)
           clear q1 dec
           go_enter Tryd.func23, Tryd.ntmps23
           go_wp2
           go_ret2
           exact ⟨rfl, 0, rfl⟩)
end Go.Proofs.YtacjbinjlooohaaDoor
