/- The contracts of package num's functions: each answers what the chapter says, at every argument. -/
import Derived.Test.YtkjgpidiompmlaaDiv64
import Derived.Test.YtkjgpidiompmlaaBase
import Derived.WalkKit
import Derived.Outline
import Derived.IntWalk
import Derived.BigQuiet
import Derived.Deep.QuietTactic
import Derived.Deep.Draws
import Derived.Laws.Bits64b
import Derived.Lib.Hide
namespace Go.Proofs.Ytkjgpidiompmlaa
open Go.RowKit
set_option linter.unusedVariables false

set_option maxRecDepth 100000 in
set_option maxHeartbeats 400000 in
theorem div64_zero (lo y q r : Nat) (w : World) (hy : (1 : Int) ≤ y) (k1 : ((y : Int) == 0) = false) (k2 : decide ((y : Int) ≤ 0) = false)
    (e1 : IntKind.u64.wrap ((lo : Int) / (y : Int)) = (q : Int)) (e2 : ((lo : Int) % (y : Int)) = (r : Int)) (e3 : IntKind.u64.wrap ((lo : Int).tdiv (y : Int)) = (q : Int)) (e4 : (lo : Int).tmod (y : Int) = (r : Int)) :
    Calls Try.prog 49 #[.int .u64 0, .int .u64 lo, .int .u64 y] w (Ret (.tuple #[.int .u64 (q : Int), .int .u64 (r : Int)]) w) := by
  go_enter Try.func49, Try.ntmps49
  go_wp2_with fail
  go_quiet (fail)
  go_wp2
  go_ret2
  exact ⟨rfl, _, rfl⟩

theorem div64_any (hi lo y : Nat) (w : World) (h : hi < y) (hl : lo < 18446744073709551616) (hy : y < 18446744073709551616) :
    Calls Try.prog 49 #[.int .u64 hi, .int .u64 lo, .int .u64 y] w
      (Ret (.tuple #[.int .u64 (((hi * 18446744073709551616 + lo) / y : Nat) : Int), .int .u64 (((hi * 18446744073709551616 + lo) % y : Nat) : Int)]) w) := by
  by_cases h0 : 1 ≤ hi
  · exact (div64_big hi lo y w h0 h hl hy).mono fun e w' ⟨he, hw⟩ => ⟨he, 0, hw ▸ rfl⟩
  · obtain rfl : hi = 0 := by omega
    rw [Nat.zero_mul, Nat.zero_add]
    exact div64_zero lo y (lo / y) (lo % y) w (by omega) (beq_eq_false_iff_ne.2 (by omega)) (by simp; omega)
      (wrapU _ (Nat.lt_of_le_of_lt (Nat.div_le_self _ _) hl)) rfl (wrapU _ (Nat.lt_of_le_of_lt (Nat.div_le_self _ _) hl)) rfl

theorem magnitude_any (a : Int) (w : World) (h : fitB a = true) :
    Calls Try.prog 48 #[.int .i64 a] w (Ret (.int .u64 (a.natAbs : Nat)) w) := by
  obtain ⟨h0, h1⟩ := fitB_iff.1 h
  by_cases h : a < 0
  · have e : IntKind.u64.wrap (-IntKind.u64.wrap a) = (a.natAbs : Nat) := by rw [IntKind.wrap_u64, IntKind.wrap_u64]; omega
    go_enter Try.func48, Try.ntmps48
    go_wp2
    go_ret
    exact ⟨rfl, 0, rfl⟩
  · have e : a = (a.natAbs : Nat) := by omega
    have E := Lib.hid e; clear e
    go_enter Try.func48, Try.ntmps48
    go_wp2
    go_ret
    exact ⟨by rw [← E.out]; rfl, 0, rfl⟩

theorem prod_bound {a b : Int} (ha : fitB a = true) (hb : fitB b = true) : -85070591730234615865843651857942052864 ≤ a * b ∧ a * b ≤ 85070591730234615865843651857942052864 := by
  obtain ⟨a0, a1⟩ := fitB_iff.1 ha
  obtain ⟨b0, b1⟩ := fitB_iff.1 hb
  have h : a.natAbs * b.natAbs ≤ 9223372036854775808 * 9223372036854775808 := Nat.mul_le_mul (by omega) (by omega)
  rw [← Int.natAbs_mul] at h
  omega

/-! The same contracts with their answers behind names, for a walk. -/
theorem mul64_named (x y hi lo : Nat) (w : World) (hx : x < 18446744073709551616) (hy : y < 18446744073709551616) (h : x * y / 18446744073709551616 = hi) (hl : x * y % 18446744073709551616 = lo) :
    Calls Try.prog 47 #[.int .u64 x, .int .u64 y] w (Ret (.tuple #[.int .u64 (hi : Int), .int .u64 (lo : Int)]) w) := by
  subst h hl
  exact (Try.bits_Mul64 x y hx hy w).mono fun e w' ⟨he, hw⟩ => ⟨he, 0, hw⟩
theorem div64_named (hi lo y q r : Nat) (w : World) (h : hi < y) (hl : lo < 18446744073709551616) (hy : y < 18446744073709551616)
    (hq : (hi * 18446744073709551616 + lo) / y = q) (hr : (hi * 18446744073709551616 + lo) % y = r) :
    Calls Try.prog 49 #[.int .u64 hi, .int .u64 lo, .int .u64 y] w (Ret (.tuple #[.int .u64 (q : Int), .int .u64 (r : Int)]) w) := by
  subst hq hr
  exact div64_any hi lo y w h hl hy
theorem magnitude_named (a : Int) (x : Nat) (w : World) (h : fitB a = true) (hx : a.natAbs = x) :
    Calls Try.prog 48 #[.int .i64 a] w (Ret (.int .u64 (x : Int)) w) := by
  subst hx; exact magnitude_any a w h
theorem signed_any (neg : Bool) (n : Nat) (z : Int) (w : World) (hn : (n : Int) < 18446744073709551616) (hz : z = if neg = true then -(n : Int) else (n : Int)) :
    Calls Try.prog 46 #[.bool neg, .int .u64 n] w (Ret (.tuple #[.int .i64 (cutZ z), .bool (fitB z)]) w) := by
  cases neg
  · obtain rfl : z = (n : Int) := by simpa using hz
    clear hz
    by_cases h : (9223372036854775807 : Int) < n
    · have hf := fitB_false (x := (n : Int)) (by omega)
      rw [hf, cutZ_false hf]
      clear hf
      go_enter Try.func46, Try.ntmps46
      go_wp2
      go_ret2
      exact ⟨rfl, 0, rfl⟩
    · have hf := fitB_true (x := (n : Int)) (by omega)
      rw [hf, cutZ_true hf]
      clear hf
      go_enter Try.func46, Try.ntmps46
      go_wp2
      go_ret2
      exact ⟨rfl, 0, rfl⟩
  · obtain rfl : z = -(n : Int) := by simpa using hz
    clear hz
    by_cases h : (9223372036854775808 : Int) < n
    · have hf := fitB_false (x := -(n : Int)) (by omega)
      rw [hf, cutZ_false hf]
      clear hf
      go_enter Try.func46, Try.ntmps46
      go_wp2
      go_ret2
      exact ⟨rfl, 0, rfl⟩
    · have hf := fitB_true (x := -(n : Int)) (by omega)
      rw [hf, cutZ_true hf]
      clear hf
      go_enter Try.func46, Try.ntmps46
      go_wp2
      go_ret2
      exact ⟨ret_ib (by simp only [wrap64, IntKind.wrap_u64]; omega) rfl, 0, rfl⟩

theorem add_any (a b : Int) (w : World) (ha : fitB a = true) (hb : fitB b = true) :
    Calls Try.prog 39 #[.int .i64 a, .int .i64 b] w (Ret (.tuple #[.int .i64 (cutZ (a + b)), .bool (fitB (a + b))]) w) := by
  obtain ⟨a0, a1⟩ := fitB_iff.1 ha
  obtain ⟨b0, b1⟩ := fitB_iff.1 hb
  clear ha hb
  by_cases f : fitB (a + b) = true
  · rw [cutZ_true f, f]
    obtain ⟨f0, f1⟩ := fitB_iff.1 f
    clear f
    by_cases sa : a < 0 <;> by_cases sb : b < 0 <;> by_cases sc : a + b < 0
    all_goals (try omega)
    all_goals
      go_enter Try.func39, Try.ntmps39
      go_wp2
      go_ret2
      exact ⟨rfl, 0, rfl⟩
  · have f' : fitB (a + b) = false := by simpa using f
    rw [cutZ_false f', f']
    have f2 := fitB_not.1 f'
    clear f f'
    by_cases sa : a < 0 <;> by_cases sb : b < 0
    all_goals (try omega)
    · have e : IntKind.i64.wrap (a + b) = a + b + 18446744073709551616 := by rw [IntKind.wrap_i64]; omega
      have e' : wrap64 (a + b) = a + b + 18446744073709551616 := by unfold wrap64; omega
      have e2 : ¬ (a + b + 18446744073709551616 < 0) := by omega
      go_enter Try.func39, Try.ntmps39
      go_wp2
      go_ret2
      exact ⟨rfl, 0, rfl⟩
    · have e : IntKind.i64.wrap (a + b) = a + b - 18446744073709551616 := by rw [IntKind.wrap_i64]; omega
      have e' : wrap64 (a + b) = a + b - 18446744073709551616 := by unfold wrap64; omega
      have e2 : (a + b - 18446744073709551616 < 0) := by omega
      go_enter Try.func39, Try.ntmps39
      go_wp2
      go_ret2
      exact ⟨rfl, 0, rfl⟩
end Go.Proofs.Ytkjgpidiompmlaa
