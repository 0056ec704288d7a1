/- The contracts of package num's functions, the third part: Share, Up, Gcd. -/
import Derived.Test.YtkjgpidiompmlaaNum2
namespace Go.Proofs.Ytkjgpidiompmlaa
open Go.RowKit
set_option linter.unusedVariables false
set_option linter.unusedSimpArgs false

theorem quo_no_down {x c : Int} (h : quoOk x.natAbs c = false) : shareOk x c = false := by
  by_cases c1 : 1 ≤ c
  · have h' : (9223372036854775808 : Int) < ((x.natAbs / c.toNat : Nat) : Int) := by
      simp only [quoOk, decide_eq_false_iff_not] at h; omega
    have : fitB (x / c) = false := by
      refine fitB_false ?_
      by_cases hx : 0 ≤ x
      · rw [down_pos c1 hx]; omega
      · rw [down_neg c1 (by omega)]; split <;> omega
    rw [shareOk, this, Bool.and_false]
  · rw [shareOk, decide_eq_false c1, Bool.false_and]
theorem quo_no_up {x c : Int} (h : quoOk x.natAbs c = false) : upOk x c = false := by
  by_cases c1 : 1 ≤ c
  · have h' : (9223372036854775808 : Int) < ((x.natAbs / c.toNat : Nat) : Int) := by
      simp only [quoOk, decide_eq_false_iff_not] at h; omega
    have : fitB (upZ x c) = false := by
      refine fitB_false ?_
      by_cases hx : 0 < x
      · rw [up_pos c1 hx]; split <;> omega
      · rw [up_neg c1 (by omega)]; omega
    rw [upOk, this, Bool.and_false]
  · rw [upOk, decide_eq_false c1, Bool.false_and]
theorem share_cut {x c : Int} (h : 1 ≤ c) : shareV x c = cutZ (x / c) ∧ shareOk x c = fitB (x / c) := by
  have e : shareOk x c = fitB (x / c) := by rw [shareOk, decide_eq_true h, Bool.true_and]
  exact ⟨by rw [shareV, e]; rfl, e⟩
theorem up_cut {x c : Int} (h : 1 ≤ c) : upV x c = cutZ (upZ x c) ∧ upOk x c = fitB (upZ x c) := by
  have e : upOk x c = fitB (upZ x c) := by rw [upOk, decide_eq_true h, Bool.true_and]
  exact ⟨by rw [upV, e]; rfl, e⟩
theorem quo_yes {n : Nat} {c : Int} (h : quoOk n c = true) : 1 ≤ c ∧ ((n / c.toNat : Nat) : Int) ≤ 9223372036854775808 := by
  simpa only [quoOk, decide_eq_true_eq] using h
/-- Signs of a product. -/
theorem prod_neg {a b : Int} (ha : a < 0) (hb : 0 ≤ b) : a * b ≤ 0 := Int.mul_nonpos_of_nonpos_of_nonneg (by omega) hb
theorem prod_neg' {a b : Int} (ha : 0 ≤ a) (hb : b < 0) : a * b ≤ 0 := Int.mul_nonpos_of_nonneg_of_nonpos ha (by omega)
theorem prod_pos {a b : Int} (ha : 0 ≤ a) (hb : 0 ≤ b) : 0 ≤ a * b := Int.mul_nonneg ha hb
theorem prod_pos' {a b : Int} (ha : a < 0) (hb : b < 0) : 0 ≤ a * b := Int.mul_nonneg_of_nonpos_of_nonpos (by omega) (by omega)

theorem signs_ne {a b : Int} (hs : (decide (a < 0) != decide (b < 0)) = true) : a * b ≤ 0 := by
  by_cases sa : a < 0
  · by_cases sb : b < 0
    · simp [sa, sb] at hs
    · exact prod_neg sa (by omega)
  · by_cases sb : b < 0
    · exact prod_neg' (by omega) sb
    · simp [sa, sb] at hs
theorem signs_eq {a b : Int} (hs : ¬ (decide (a < 0) != decide (b < 0)) = true) : 0 ≤ a * b := by
  by_cases sa : a < 0
  · by_cases sb : b < 0
    · exact prod_pos' sa sb
    · simp [sa, sb] at hs
  · by_cases sb : b < 0
    · simp [sa, sb] at hs
    · exact prod_pos (by omega) (by omega)
/-- What is told signed: down. -/
theorem down_signed {x c : Int} {q : Nat} {ex : Bool} (h : 1 ≤ c) (hq : x.natAbs / c.toNat = q) (hx : decide (x.natAbs % c.toNat = 0) = ex) :
    (0 ≤ x → x / c = (q : Int)) ∧ (x ≤ 0 → ex = true → x / c = -(q : Int)) ∧ (x ≤ 0 → ex = false → x / c = -((q + 1 : Nat) : Int)) := by
  refine ⟨fun k => ?_, fun k e => ?_, fun k e => ?_⟩
  · rw [down_pos h k, hq]
  · by_cases z : x = 0
    · subst z; rw [← hq]; simp
    · rw [down_neg h (by omega), hq, if_pos (by rw [← hx] at e; simpa using e)]; omega
  · by_cases z : x = 0
    · subst z; rw [← hx] at e; simp at e
    · rw [down_neg h (by omega), hq, if_neg (by rw [← hx] at e; simpa using e)]; omega
/-- What is told signed: up. -/
theorem up_signed {x c : Int} {q : Nat} {ex : Bool} (h : 1 ≤ c) (hq : x.natAbs / c.toNat = q) (hx : decide (x.natAbs % c.toNat = 0) = ex) :
    (x ≤ 0 → upZ x c = -(q : Int)) ∧ (0 ≤ x → ex = true → upZ x c = (q : Int)) ∧ (0 ≤ x → ex = false → upZ x c = ((q + 1 : Nat) : Int)) := by
  refine ⟨fun k => ?_, fun k e => ?_, fun k e => ?_⟩
  · rw [up_neg h k, hq]
  · by_cases z : x = 0
    · subst z; rw [← hq]; simp [upZ]
    · rw [up_pos h (by omega), hq, if_pos (by rw [← hx] at e; simpa using e)]; omega
  · by_cases z : x = 0
    · subst z; rw [← hx] at e; simp at e
    · rw [up_pos h (by omega), hq, if_neg (by rw [← hx] at e; simpa using e)]; omega

theorem signed_named (neg : Bool) (n : Nat) (z z' : Int) (f : Bool) (w : World) (hn : (n : Int) < 18446744073709551616) (hz : z = if neg = true then -(n : Int) else (n : Int)) (hz' : cutZ z = z') (hf : fitB z = f) :
    Calls Try.prog 46 #[.bool neg, .int .u64 n] w (Ret (.tuple #[.int .i64 z', .bool f]) w) := by
  subst hz' hf; exact signed_any neg n z w hn hz


set_option maxHeartbeats 400000 in
theorem up_plus (a b c v : Int) (o sa sb ng : Bool) (q : Nat) (w : World) (ka : decide (a < 0) = sa) (kb : decide (b < 0) = sb) (kn : sa = sb ∧ ng = false) (hq : (q : Int) ≤ 9223372036854775808)
    (C : Hid (∀ w, Calls Try.prog 45 #[.int .i64 a, .int .i64 b, .int .i64 c] w (Ret (.tuple #[.int .u64 (q : Int), .bool false, .bool true]) w)))
    (C2 : Hid (∀ w, Calls Try.prog 46 #[.bool ng, .int .u64 ((q : Int) + 1)] w (Ret (.tuple #[.int .i64 v, .bool o]) w))) :
    Calls Try.prog 40 #[.int .i64 a, .int .i64 b, .int .i64 c] w (Ret (.tuple #[.int .i64 v, .bool o]) w) := by
  obtain ⟨kn, rfl⟩ := kn
  cases sa <;> cases sb <;> simp only [ne_eq, not_true_eq_false, Bool.false_eq_true, Bool.true_eq_false, reduceCtorEq] at kn <;> clear kn
  all_goals
    go_enter Try.func40, Try.ntmps40
    go_wp2_with fail
    refine (C.out _).mono ?_; rintro e w' ⟨rfl, n1, rfl⟩
    go_wp2_with fail
    refine (C2.out _).mono ?_; rintro e w' ⟨rfl, n2, rfl⟩
    go_wp2
    go_ret2
    exact ⟨rfl, _, rfl⟩

set_option maxHeartbeats 400000 in
theorem up_bare (a b c v : Int) (o ex sa sb ng : Bool) (q : Nat) (w : World) (ka : decide (a < 0) = sa) (kb : decide (b < 0) = sb) (kn : (sa != sb) = ng) (ke : ng = true ∨ ex = true) (hq : (q : Int) ≤ 9223372036854775808)
    (C : Hid (∀ w, Calls Try.prog 45 #[.int .i64 a, .int .i64 b, .int .i64 c] w (Ret (.tuple #[.int .u64 (q : Int), .bool ex, .bool true]) w)))
    (C2 : Hid (∀ w, Calls Try.prog 46 #[.bool ng, .int .u64 (q : Int)] w (Ret (.tuple #[.int .i64 v, .bool o]) w))) :
    Calls Try.prog 40 #[.int .i64 a, .int .i64 b, .int .i64 c] w (Ret (.tuple #[.int .i64 v, .bool o]) w) := by
  subst kn
  cases sa <;> cases sb <;> cases ex <;> first | (exfalso; revert ke; decide) | skip
  all_goals
    clear ke
    go_enter Try.func40, Try.ntmps40
    go_wp2_with fail
    refine (C.out _).mono ?_; rintro e w' ⟨rfl, n1, rfl⟩
    go_wp2_with fail
    refine (C2.out _).mono ?_; rintro e w' ⟨rfl, n2, rfl⟩
    go_wp2
    go_ret2
    exact ⟨rfl, _, rfl⟩

theorem up_any (a b c v : Int) (o : Bool) (w : World) (ha : fitB a = true) (hb : fitB b = true) (hc : fitB c = true) (hv : upV (a * b) c = v) (ho : upOk (a * b) c = o) :
    Calls Try.prog 40 #[.int .i64 a, .int .i64 b, .int .i64 c] w (Ret (.tuple #[.int .i64 v, .bool o]) w) := by
  cases hk : quoOk (a * b).natAbs c
  · have h := quo_no_up hk
    rw [upV, h] at hv
    rw [h] at ho
    obtain rfl : v = 0 := by rw [← hv]; rfl
    subst ho
    have C := Lib.hid (quotient_no a b c · ha hb hc hk)
    clear ha hb hc hk h hv
    go_enter Try.func40, Try.ntmps40
    go_wp2_with fail
    refine (C.out _).mono ?_; rintro e w' ⟨rfl, n1, rfl⟩
    go_wp2
    go_ret2
    exact ⟨rfl, _, rfl⟩
  · obtain ⟨c1, hq2⟩ := quo_yes hk
    rw [(up_cut c1).1] at hv
    rw [(up_cut c1).2] at ho
    obtain ⟨q, hq⟩ : ∃ q, (a * b).natAbs / c.toNat = q := ⟨_, rfl⟩
    obtain ⟨ex, hx⟩ : ∃ ex, decide ((a * b).natAbs % c.toNat = 0) = ex := ⟨_, rfl⟩
    rw [hq] at hq2
    have C := Lib.hid (quotient_yes a b c q ex · ha hb hc hk hq hx)
    obtain ⟨d1, d2, d3⟩ := up_signed c1 hq hx
    have sn := @signs_ne a b; have sp := @signs_eq a b
    generalize a * b = x at *
    by_cases hs : (decide (a < 0) != decide (b < 0)) = true
    · have hx0 : x ≤ 0 := sn hs
      exact up_bare a b c v o ex _ _ true q w rfl rfl hs (.inl rfl) hq2 C (Lib.hid fun w => signed_named true q (upZ x c) v o w (by omega) (by rw [d1 hx0]; rfl) hv ho)
    · have hx0 : 0 ≤ x := sp hs
      cases ex
      · exact up_plus a b c v o _ _ false q w rfl rfl ⟨by simpa using hs, rfl⟩ hq2 C (Lib.hid fun w => signed_named false (q + 1) (upZ x c) v o w (by omega) (by rw [d3 hx0 rfl]; rfl) hv ho)
      · exact up_bare a b c v o true _ _ false q w rfl rfl (by simpa using hs) (.inr rfl) hq2 C (Lib.hid fun w => signed_named false q (upZ x c) v o w (by omega) (by rw [d2 hx0 rfl]; rfl) hv ho)
end Go.Proofs.Ytkjgpidiompmlaa
