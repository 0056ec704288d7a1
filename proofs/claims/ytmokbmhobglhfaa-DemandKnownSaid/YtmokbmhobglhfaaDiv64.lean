/- math/bits.Div64 answers the whole quotient and the rest of two words by one, where the upper word is less than the divisor. -/
import Derived.Test.YtmokbmhobglhfaaShelf
import Derived.Test.YtmokbmhobglhfaaChecked
import Derived.Test.YtmokbmhobglhfaaDivMath
import Derived.WalkKit
import Derived.Outline
import Derived.IntWalk
import Derived.BigQuiet
import Derived.Deep.QuietTactic
import Derived.Deep.DeepCutAuto
import Derived.Deep.CutBlock
import Derived.Laws.Bits64b
import Derived.Lib.Hide
namespace Go.Proofs.Ytmokbmhobglhfaa
open Go.RowKit

theorem wrapU (a : Nat) (h : a < 18446744073709551616) : IntKind.u64.wrap (a : Int) = (a : Int) := by rw [IntKind.wrap_u64]; omega

theorem maskU (a : Nat) (ha : a < 18446744073709551616) : bits .and .u64 (a : Int) 4294967295 = ((a % 4294967296 : Nat) : Int) := by
  have h := bits_and_u64_nat a 4294967295 ha (by omega)
  have e : a &&& 4294967295 = a % 4294967296 := Nat.and_two_pow_sub_one_eq_mod a 32
  rw [e] at h
  exact h
theorem wrapUmod (a : Nat) : IntKind.u64.wrap (a : Int) = ((a % 18446744073709551616 : Nat) : Int) := by rw [IntKind.wrap_u64]; omega
theorem wrapUsub (a b c : Nat) (h : ∃ k l : Nat, a + k * 18446744073709551616 = b + c + l * 18446744073709551616) (hc : c < 18446744073709551616) :
    IntKind.u64.wrap ((a : Int) - (b : Int)) = (c : Int) := by
  obtain ⟨k, l, h⟩ := h
  rw [IntKind.wrap_u64]; omega

end Go.Proofs.Ytmokbmhobglhfaa
