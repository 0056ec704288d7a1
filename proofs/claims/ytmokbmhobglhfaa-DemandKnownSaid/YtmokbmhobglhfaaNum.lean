/- The contracts of package num's functions: each answers what the chapter says, at every argument. -/
import Derived.Test.YtmokbmhobglhfaaDiv64
import Derived.Test.YtmokbmhobglhfaaBase
import Derived.WalkKit
import Derived.Outline
import Derived.IntWalk
import Derived.BigQuiet
import Derived.Deep.QuietTactic
import Derived.Deep.Draws
import Derived.Laws.Bits64b
import Derived.Lib.Hide
namespace Go.Proofs.Ytmokbmhobglhfaa
open Go.RowKit
set_option linter.unusedVariables false

theorem prod_bound {a b : Int} (ha : fitB a = true) (hb : fitB b = true) : -85070591730234615865843651857942052864 ≤ a * b ∧ a * b ≤ 85070591730234615865843651857942052864 := by
  obtain ⟨a0, a1⟩ := fitB_iff.1 ha
  obtain ⟨b0, b1⟩ := fitB_iff.1 hb
  have h : a.natAbs * b.natAbs ≤ 9223372036854775808 * 9223372036854775808 := Nat.mul_le_mul (by omega) (by omega)
  rw [← Int.natAbs_mul] at h
  omega

set_option maxHeartbeats 400000 in
theorem product_any (a b : Int) (w : World) (ha : fitB a = true) (hb : fitB b = true) :
    Calls Try.prog 28 #[.int .i64 a, .int .i64 b] w (Ret (.tuple #[.int .i64 (a * b / 18446744073709551616), .int .u64 (a * b % 18446744073709551616)]) w) := by
  have hm := prod_bound ha hb
  obtain ⟨a0, a1⟩ := fitB_iff.1 ha
  obtain ⟨b0, b1⟩ := fitB_iff.1 hb
  clear ha hb
  by_cases sa : a < 0 <;> by_cases sb : b < 0
  · obtain ⟨x, hx⟩ : ∃ x : Nat, (x : Int) = a + 18446744073709551616 := ⟨(a + 18446744073709551616).toNat, by omega⟩
    obtain ⟨y, hy⟩ : ∃ y : Nat, (y : Int) = b + 18446744073709551616 := ⟨(b + 18446744073709551616).toNat, by omega⟩
    have ex : IntKind.u64.wrap a = (x : Int) := by rw [IntKind.wrap_u64]; omega
    have ey : IntKind.u64.wrap b = (y : Int) := by rw [IntKind.wrap_u64]; omega
    have hxl : x < 18446744073709551616 := by omega
    have hyl : y < 18446744073709551616 := by omega
    have hp : ((x * y : Nat) : Int) = a * b + 18446744073709551616 * (a + b) + 18446744073709551616 * 18446744073709551616 := by
      rw [Int.natCast_mul, hx, hy]; simp only [Int.mul_add, Int.add_mul]; omega
    have H := Lib.hid (And.intro hp (And.intro hx (And.intro hy hm))); clear hp hx hy hm
    have X := Lib.hid (And.intro hxl hyl); clear hxl hyl
    go_enter Try.func28, Try.ntmps28
    go_wp2_with (go_at_call 31; refine (Try.bits_Mul64 x y X.out.1 X.out.2 _).mono ?_; rintro e w' ⟨rfl, hw⟩; replace hw := hw.symm; subst hw)
    go_ret2
    refine ⟨ret_two ?_ ?_, 0, rfl⟩
    all_goals
      obtain ⟨hp, hx, hy, hm⟩ := H.out
      rw [Int.natCast_mul] at hp
      try simp only [wrap64, IntKind.wrap_u64]
      try rw [hp]
      omega
  · obtain ⟨x, hx⟩ : ∃ x : Nat, (x : Int) = a + 18446744073709551616 := ⟨(a + 18446744073709551616).toNat, by omega⟩
    obtain ⟨y, rfl⟩ : ∃ y : Nat, b = (y : Int) := ⟨b.toNat, by omega⟩
    have ex : IntKind.u64.wrap a = (x : Int) := by rw [IntKind.wrap_u64]; omega
    have hxl : x < 18446744073709551616 := by omega
    have hyl : y < 18446744073709551616 := by omega
    have hp : ((x * y : Nat) : Int) = a * y + 18446744073709551616 * y := by
      rw [Int.natCast_mul, hx]; simp only [Int.add_mul]
    have H := Lib.hid (And.intro hp (And.intro hx (And.intro b1 hm))); clear hp hx hm
    have X := Lib.hid (And.intro hxl hyl); clear hxl hyl
    go_enter Try.func28, Try.ntmps28
    go_wp2_with (go_at_call 31; refine (Try.bits_Mul64 x y X.out.1 X.out.2 _).mono ?_; rintro e w' ⟨rfl, hw⟩; replace hw := hw.symm; subst hw)
    go_ret2
    refine ⟨ret_two ?_ ?_, 0, rfl⟩
    all_goals
      obtain ⟨hp, hx, hy, hm⟩ := H.out
      rw [Int.natCast_mul] at hp
      try simp only [wrap64, IntKind.wrap_u64]
      try rw [hp]
      omega
  · obtain ⟨y, hy⟩ : ∃ y : Nat, (y : Int) = b + 18446744073709551616 := ⟨(b + 18446744073709551616).toNat, by omega⟩
    obtain ⟨x, rfl⟩ : ∃ x : Nat, a = (x : Int) := ⟨a.toNat, by omega⟩
    have ey : IntKind.u64.wrap b = (y : Int) := by rw [IntKind.wrap_u64]; omega
    have hxl : x < 18446744073709551616 := by omega
    have hyl : y < 18446744073709551616 := by omega
    have hp : ((x * y : Nat) : Int) = x * b + 18446744073709551616 * x := by
      rw [Int.natCast_mul, hy]; simp only [Int.mul_add]; omega
    have H := Lib.hid (And.intro hp (And.intro a1 (And.intro hy hm))); clear hp hy hm
    have X := Lib.hid (And.intro hxl hyl); clear hxl hyl
    go_enter Try.func28, Try.ntmps28
    go_wp2_with (go_at_call 31; refine (Try.bits_Mul64 x y X.out.1 X.out.2 _).mono ?_; rintro e w' ⟨rfl, hw⟩; replace hw := hw.symm; subst hw)
    go_ret2
    refine ⟨ret_two ?_ ?_, 0, rfl⟩
    all_goals
      obtain ⟨hp, hx, hy, hm⟩ := H.out
      rw [Int.natCast_mul] at hp
      try simp only [wrap64, IntKind.wrap_u64]
      try rw [hp]
      omega
  · obtain ⟨y, rfl⟩ : ∃ y : Nat, b = (y : Int) := ⟨b.toNat, by omega⟩
    obtain ⟨x, rfl⟩ : ∃ x : Nat, a = (x : Int) := ⟨a.toNat, by omega⟩
    have hxl : x < 18446744073709551616 := by omega
    have hyl : y < 18446744073709551616 := by omega
    have hp : ((x * y : Nat) : Int) = x * y := Int.natCast_mul _ _
    have H := Lib.hid (And.intro hp (And.intro a1 (And.intro b1 hm))); clear hp hm
    have X := Lib.hid (And.intro hxl hyl); clear hxl hyl
    go_enter Try.func28, Try.ntmps28
    go_wp2_with (go_at_call 31; refine (Try.bits_Mul64 x y X.out.1 X.out.2 _).mono ?_; rintro e w' ⟨rfl, hw⟩; replace hw := hw.symm; subst hw)
    go_ret2
    refine ⟨ret_two ?_ rfl, 0, rfl⟩
    obtain ⟨hp, hx, hy, hm⟩ := H.out
    simp only [wrap64]
    omega

/-! The same contracts with their answers behind names, for a walk. -/
theorem mul64_named (x y hi lo : Nat) (w : World) (hx : x < 18446744073709551616) (hy : y < 18446744073709551616) (h : x * y / 18446744073709551616 = hi) (hl : x * y % 18446744073709551616 = lo) :
    Calls Try.prog 31 #[.int .u64 x, .int .u64 y] w (Ret (.tuple #[.int .u64 (hi : Int), .int .u64 (lo : Int)]) w) := by
  subst h hl
  exact (Try.bits_Mul64 x y hx hy w).mono fun e w' ⟨he, hw⟩ => ⟨he, 0, hw⟩
theorem product_named (a b hi lo : Int) (w : World) (ha : fitB a = true) (hb : fitB b = true) (h : a * b / 18446744073709551616 = hi) (hl : a * b % 18446744073709551616 = lo) :
    Calls Try.prog 28 #[.int .i64 a, .int .i64 b] w (Ret (.tuple #[.int .i64 hi, .int .u64 lo]) w) := by
  subst h hl; exact product_any a b w ha hb

end Go.Proofs.Ytmokbmhobglhfaa
