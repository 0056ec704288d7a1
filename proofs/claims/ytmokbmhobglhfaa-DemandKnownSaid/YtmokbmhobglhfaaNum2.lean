/- The contracts of package num's functions, the second part: Sub, Mul, CmpMul, Share, Up. -/
import Derived.Test.YtmokbmhobglhfaaNum
namespace Go.Proofs.Ytmokbmhobglhfaa
open Go.RowKit
set_option linter.unusedVariables false

theorem mul_any (a b : Int) (w : World) (ha : fitB a = true) (hb : fitB b = true) :
    Calls Try.prog 24 #[.int .i64 a, .int .i64 b] w (Ret (.tuple #[.int .i64 (cutZ (a * b)), .bool (fitB (a * b))]) w) := by
  have hm := prod_bound ha hb
  obtain ⟨hi, hhi⟩ : ∃ hi, a * b / 18446744073709551616 = hi := ⟨_, rfl⟩
  obtain ⟨lo, hlo⟩ : ∃ lo, a * b % 18446744073709551616 = lo := ⟨_, rfl⟩
  have C := Lib.hid (product_named a b hi lo · ha hb hhi hlo)
  clear ha hb
  generalize a * b = m at *
  obtain ⟨l, hl⟩ : ∃ l, l = (if 9223372036854775808 ≤ lo then lo - 18446744073709551616 else lo) := ⟨_, rfl⟩
  have e1 : wrap64 lo = l := by unfold wrap64; rw [hl]; split <;> omega
  have l0 : -9223372036854775808 ≤ l := by rw [hl]; split <;> omega
  have l1 : l ≤ 9223372036854775807 := by rw [hl]; split <;> omega
  have hcase : (fitB m = true ∧ m = l ∧ hi = l / 9223372036854775808) ∨ (fitB m = false ∧ ¬ hi = l / 9223372036854775808) := by
    by_cases f : -9223372036854775808 ≤ m ∧ m ≤ 9223372036854775807
    · refine .inl ⟨fitB_true f, ?_, ?_⟩ <;> rw [hl] <;> split <;> omega
    · refine .inr ⟨fitB_false f, ?_⟩; rw [hl]; split <;> omega
  have H := Lib.hid (And.intro hhi (And.intro hlo (And.intro hl hm))); clear hhi hlo hl hm
  rcases hcase with ⟨f, hml, hh⟩ | ⟨f, hh⟩
  · rw [cutZ_true f, f, hml]
    clear f hml
    have hb1 : (hi == l / 9223372036854775808) = true := beq_iff_eq.2 hh
    have hb2 : (hi != l / 9223372036854775808) = false := by rw [bne, hb1]; rfl
    clear hh H
    go_enter Try.func24, Try.ntmps24
    go_wp2_with (go_at_call 28; refine (C.out _).mono ?_; rintro e w' ⟨rfl, n1, rfl⟩)
    go_ret2
    exact ⟨ret_ib e1 rfl, n1, rfl⟩
  · rw [cutZ_false f, f]
    clear f
    have hb1 : (hi == l / 9223372036854775808) = false := beq_eq_false_iff_ne.2 hh
    have hb2 : (hi != l / 9223372036854775808) = true := by rw [bne, hb1]; rfl
    clear hh H
    go_enter Try.func24, Try.ntmps24
    go_wp2_with (go_at_call 28; refine (C.out _).mono ?_; rintro e w' ⟨rfl, n1, rfl⟩)
    go_ret2
    exact ⟨rfl, n1, rfl⟩

theorem halves (x y : Int) : (x / 18446744073709551616 ≠ y / 18446744073709551616 → cmpZ (x / 18446744073709551616) (y / 18446744073709551616) = cmpZ x y) ∧
    (x / 18446744073709551616 = y / 18446744073709551616 → cmpZ (x % 18446744073709551616) (y % 18446744073709551616) = cmpZ x y) := by
  refine ⟨fun h => ?_, fun h => ?_⟩
  · by_cases k : x / 18446744073709551616 < y / 18446744073709551616
    · rw [cmpZ_lt k, cmpZ_lt (by omega)]
    · rw [cmpZ_gt (by omega), cmpZ_gt (by omega)]
  · rcases cmpZ_cases x y with ⟨k, e⟩ | ⟨k, e⟩ | ⟨k, e⟩ <;> rw [e]
    · exact cmpZ_lt (by omega)
    · exact cmpZ_gt (by omega)
    · exact cmpZ_eq (by omega)

end Go.Proofs.Ytmokbmhobglhfaa
