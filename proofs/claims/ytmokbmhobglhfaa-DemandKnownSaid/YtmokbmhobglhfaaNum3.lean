/- The contracts of package num's functions, the third part: Share, Up, Gcd. -/
import Derived.Test.YtmokbmhobglhfaaNum2
namespace Go.Proofs.Ytmokbmhobglhfaa
open Go.RowKit
set_option linter.unusedVariables false
set_option linter.unusedSimpArgs false

theorem quo_no_down {x c : Int} (h : quoOk x.natAbs c = false) : shareOk x c = false := by
  by_cases c1 : 1 ≤ c
  · have h' : (9223372036854775808 : Int) < ((x.natAbs / c.toNat : Nat) : Int) := by
      simp only [quoOk, decide_eq_false_iff_not] at h; omega
    have : fitB (x / c) = false := by
      refine fitB_false ?_
      by_cases hx : 0 ≤ x
      · rw [down_pos c1 hx]; omega
      · rw [down_neg c1 (by omega)]; split <;> omega
    rw [shareOk, this, Bool.and_false]
  · rw [shareOk, decide_eq_false c1, Bool.false_and]
theorem quo_no_up {x c : Int} (h : quoOk x.natAbs c = false) : upOk x c = false := by
  by_cases c1 : 1 ≤ c
  · have h' : (9223372036854775808 : Int) < ((x.natAbs / c.toNat : Nat) : Int) := by
      simp only [quoOk, decide_eq_false_iff_not] at h; omega
    have : fitB (upZ x c) = false := by
      refine fitB_false ?_
      by_cases hx : 0 < x
      · rw [up_pos c1 hx]; split <;> omega
      · rw [up_neg c1 (by omega)]; omega
    rw [upOk, this, Bool.and_false]
  · rw [upOk, decide_eq_false c1, Bool.false_and]
theorem share_cut {x c : Int} (h : 1 ≤ c) : shareV x c = cutZ (x / c) ∧ shareOk x c = fitB (x / c) := by
  have e : shareOk x c = fitB (x / c) := by rw [shareOk, decide_eq_true h, Bool.true_and]
  exact ⟨by rw [shareV, e]; rfl, e⟩
theorem up_cut {x c : Int} (h : 1 ≤ c) : upV x c = cutZ (upZ x c) ∧ upOk x c = fitB (upZ x c) := by
  have e : upOk x c = fitB (upZ x c) := by rw [upOk, decide_eq_true h, Bool.true_and]
  exact ⟨by rw [upV, e]; rfl, e⟩
theorem quo_yes {n : Nat} {c : Int} (h : quoOk n c = true) : 1 ≤ c ∧ ((n / c.toNat : Nat) : Int) ≤ 9223372036854775808 := by
  simpa only [quoOk, decide_eq_true_eq] using h
/-- Signs of a product. -/
theorem prod_neg {a b : Int} (ha : a < 0) (hb : 0 ≤ b) : a * b ≤ 0 := Int.mul_nonpos_of_nonpos_of_nonneg (by omega) hb
theorem prod_neg' {a b : Int} (ha : 0 ≤ a) (hb : b < 0) : a * b ≤ 0 := Int.mul_nonpos_of_nonneg_of_nonpos ha (by omega)
theorem prod_pos {a b : Int} (ha : 0 ≤ a) (hb : 0 ≤ b) : 0 ≤ a * b := Int.mul_nonneg ha hb
theorem prod_pos' {a b : Int} (ha : a < 0) (hb : b < 0) : 0 ≤ a * b := Int.mul_nonneg_of_nonpos_of_nonpos (by omega) (by omega)

theorem signs_ne {a b : Int} (hs : (decide (a < 0) != decide (b < 0)) = true) : a * b ≤ 0 := by
  by_cases sa : a < 0
  · by_cases sb : b < 0
    · simp [sa, sb] at hs
    · exact prod_neg sa (by omega)
  · by_cases sb : b < 0
    · exact prod_neg' (by omega) sb
    · simp [sa, sb] at hs
theorem signs_eq {a b : Int} (hs : ¬ (decide (a < 0) != decide (b < 0)) = true) : 0 ≤ a * b := by
  by_cases sa : a < 0
  · by_cases sb : b < 0
    · exact prod_pos' sa sb
    · simp [sa, sb] at hs
  · by_cases sb : b < 0
    · simp [sa, sb] at hs
    · exact prod_pos (by omega) (by omega)
/-- What is told signed: down. -/
theorem down_signed {x c : Int} {q : Nat} {ex : Bool} (h : 1 ≤ c) (hq : x.natAbs / c.toNat = q) (hx : decide (x.natAbs % c.toNat = 0) = ex) :
    (0 ≤ x → x / c = (q : Int)) ∧ (x ≤ 0 → ex = true → x / c = -(q : Int)) ∧ (x ≤ 0 → ex = false → x / c = -((q + 1 : Nat) : Int)) := by
  refine ⟨fun k => ?_, fun k e => ?_, fun k e => ?_⟩
  · rw [down_pos h k, hq]
  · by_cases z : x = 0
    · subst z; rw [← hq]; simp
    · rw [down_neg h (by omega), hq, if_pos (by rw [← hx] at e; simpa using e)]; omega
  · by_cases z : x = 0
    · subst z; rw [← hx] at e; simp at e
    · rw [down_neg h (by omega), hq, if_neg (by rw [← hx] at e; simpa using e)]; omega
/-- What is told signed: up. -/
theorem up_signed {x c : Int} {q : Nat} {ex : Bool} (h : 1 ≤ c) (hq : x.natAbs / c.toNat = q) (hx : decide (x.natAbs % c.toNat = 0) = ex) :
    (x ≤ 0 → upZ x c = -(q : Int)) ∧ (0 ≤ x → ex = true → upZ x c = (q : Int)) ∧ (0 ≤ x → ex = false → upZ x c = ((q + 1 : Nat) : Int)) := by
  refine ⟨fun k => ?_, fun k e => ?_, fun k e => ?_⟩
  · rw [up_neg h k, hq]
  · by_cases z : x = 0
    · subst z; rw [← hq]; simp [upZ]
    · rw [up_pos h (by omega), hq, if_pos (by rw [← hx] at e; simpa using e)]; omega
  · by_cases z : x = 0
    · subst z; rw [← hx] at e; simp at e
    · rw [up_pos h (by omega), hq, if_neg (by rw [← hx] at e; simpa using e)]; omega

end Go.Proofs.Ytmokbmhobglhfaa
