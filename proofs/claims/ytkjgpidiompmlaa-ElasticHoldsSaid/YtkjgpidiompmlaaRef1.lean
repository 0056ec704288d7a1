/- The contracts of the document's own reckoning of layer 1 (package tocsinref1): sizes, products by quarters, orders. -/
import Derived.Test.YtkjgpidiompmlaaNum4
import Derived.Test.YtkjgpidiompmlaaRefMath
namespace Go.Proofs.Ytkjgpidiompmlaa
open Go.RowKit
set_option linter.unusedVariables false
set_option linter.unusedSimpArgs false

theorem rsize_any (a : Int) (x : Nat) (w : World) (h : fitB a = true) (hx : a.natAbs = x) :
    Calls Try.prog 42 #[.int .i64 a] w (Ret (.int .u64 (x : Int)) w) := by
  obtain ⟨h0, h1⟩ := fitB_iff.1 h
  clear h
  by_cases h : a < 0
  · have e : IntKind.u64.wrap (wrap64 (-a)) = (x : Int) := by rw [IntKind.wrap_u64]; unfold wrap64; omega
    by_cases m : a = -9223372036854775808
    · have HE := Lib.hid e
      clear e hx
      go_enter Try.func42, Try.ntmps42
      go_wp2
      go_ret
      exact ⟨ret_i (by first | exact HE.out | (rw [← HE.out]; subst m; rfl)), 0, rfl⟩
    · have e2 : -a = (x : Int) := by omega
      have HE := Lib.hid e2
      have b1 : 0 ≤ -a := by omega
      have b2 : -a ≤ 9223372036854775807 := by omega
      clear e hx e2 m
      go_enter Try.func42, Try.ntmps42
      go_wp2
      go_ret
      exact ⟨ret_i HE.out, 0, rfl⟩
  · have e : a = (x : Int) := by omega
    have HE := Lib.hid e; clear e hx
    go_enter Try.func42, Try.ntmps42
    go_wp2
    go_ret
    exact ⟨ret_i HE.out, 0, rfl⟩

set_option maxHeartbeats 400000 in
theorem rmul_core (x y a b c d low l1 l0 ad mid mm md bc m2 m3 m4 ac s1 hi lo : Nat) (w : World)
    (e1 : (x : Int) / 4294967296 = (a : Int)) (e2 : bits BinOp.and IntKind.u64 (x : Int) 4294967295 = (b : Int)) (e3 : (y : Int) / 4294967296 = (c : Int)) (e4 : bits BinOp.and IntKind.u64 (y : Int) 4294967295 = (d : Int))
    (e5 : IntKind.u64.wrap ((b : Int) * (d : Int)) = (low : Int)) (e6 : (low : Int) / 4294967296 = (l1 : Int)) (e7 : bits BinOp.and IntKind.u64 (low : Int) 4294967295 = (l0 : Int))
    (e8 : IntKind.u64.wrap ((a : Int) * (d : Int)) = (ad : Int)) (e9 : IntKind.u64.wrap ((ad : Int) + (l1 : Int)) = (mid : Int)) (e10 : bits BinOp.and IntKind.u64 (mid : Int) 4294967295 = (mm : Int)) (e11 : (mid : Int) / 4294967296 = (md : Int))
    (e12 : IntKind.u64.wrap ((b : Int) * (c : Int)) = (bc : Int)) (e13 : IntKind.u64.wrap ((mm : Int) + (bc : Int)) = (m2 : Int)) (e14 : (m2 : Int) / 4294967296 = (m3 : Int)) (e15 : IntKind.u64.wrap ((m2 : Int) * 4294967296) = (m4 : Int))
    (e16 : IntKind.u64.wrap ((a : Int) * (c : Int)) = (ac : Int)) (e17 : IntKind.u64.wrap ((ac : Int) + (md : Int)) = (s1 : Int)) (e18 : IntKind.u64.wrap ((s1 : Int) + (m3 : Int)) = (hi : Int)) (e19 : bits BinOp.or IntKind.u64 (m4 : Int) (l0 : Int) = (lo : Int)) :
    Calls Try.prog 41 #[.int .u64 x, .int .u64 y] w (Ret (.tuple #[.int .u64 (hi : Int), .int .u64 (lo : Int)]) w) := by
  go_enter Try.func41, Try.ntmps41
  go_wp2
  go_ret2
  exact ⟨rfl, 0, rfl⟩

theorem rmul_any (x y hi lo : Nat) (w : World) (hx : x < 18446744073709551616) (hy : y < 18446744073709551616) (h : x * y / 18446744073709551616 = hi) (hl : x * y % 18446744073709551616 = lo) :
    Calls Try.prog 41 #[.int .u64 x, .int .u64 y] w (Ret (.tuple #[.int .u64 (hi : Int), .int .u64 (lo : Int)]) w) := by
  obtain ⟨bd, bt, bw, hhi⟩ := Lib.mul64_hi x y hx hy
  have ba := Lib.half_mul_le (a := x / 4294967296) (b := y / 4294967296) (by omega) (by omega)
  have bb := Lib.half_mul_le (a := x / 4294967296) (b := y % 4294967296) (by omega) (by omega)
  have bc := Lib.half_mul_le (a := x % 4294967296) (b := y / 4294967296) (by omega) (by omega)
  have hlo := quarters_lo x y _ _ rfl rfl
  have key := rmul_core x y (x / 4294967296) (x % 4294967296) (y / 4294967296) (y % 4294967296)
    ((x % 4294967296) * (y % 4294967296)) ((x % 4294967296) * (y % 4294967296) / 4294967296) ((x % 4294967296) * (y % 4294967296) % 4294967296)
    ((x / 4294967296) * (y % 4294967296)) ((x / 4294967296) * (y % 4294967296) + (x % 4294967296) * (y % 4294967296) / 4294967296)
    (((x / 4294967296) * (y % 4294967296) + (x % 4294967296) * (y % 4294967296) / 4294967296) % 4294967296)
    (((x / 4294967296) * (y % 4294967296) + (x % 4294967296) * (y % 4294967296) / 4294967296) / 4294967296)
    ((x % 4294967296) * (y / 4294967296))
    (((x / 4294967296) * (y % 4294967296) + (x % 4294967296) * (y % 4294967296) / 4294967296) % 4294967296 + (x % 4294967296) * (y / 4294967296))
    ((((x / 4294967296) * (y % 4294967296) + (x % 4294967296) * (y % 4294967296) / 4294967296) % 4294967296 + (x % 4294967296) * (y / 4294967296)) / 4294967296)
    ((((x / 4294967296) * (y % 4294967296) + (x % 4294967296) * (y % 4294967296) / 4294967296) % 4294967296 + (x % 4294967296) * (y / 4294967296)) * 4294967296 % 18446744073709551616)
    ((x / 4294967296) * (y / 4294967296))
    ((x / 4294967296) * (y / 4294967296) + ((x / 4294967296) * (y % 4294967296) + (x % 4294967296) * (y % 4294967296) / 4294967296) / 4294967296)
    hi lo w rfl (maskU x hx) rfl (maskU y hy) (wrapU _ bd) rfl (maskU _ bd) (wrapU _ (by omega)) (wrapU _ bt) (maskU _ bt) rfl (wrapU _ (by omega)) (wrapU _ bw) rfl
    (wrapUmod _) (wrapU _ (by omega)) (wrapU _ (by omega)) ?_ ?_
  · exact key
  · rw [← Int.natCast_add, hhi, h]; exact wrapU _ (by rw [← h]; omega)
  · rw [bits_or_u64_nat _ _ (Nat.mod_lt _ (by omega)) (by omega), hlo, hl]

/-- A product in truth, in its sign and two halves. -/
def WideOf (z : Int) (ng : Bool) (hi lo : Nat) : Prop := decide (z < 0) = ng ∧ z.natAbs / 18446744073709551616 = hi ∧ z.natAbs % 18446744073709551616 = lo
theorem WideOf.ex (z : Int) : ∃ ng hi lo, WideOf z ng hi lo := ⟨_, _, _, rfl, rfl, rfl⟩
theorem WideOf.lo_lt {z : Int} {ng : Bool} {hi lo : Nat} (h : WideOf z ng hi lo) : lo < 18446744073709551616 := by rw [← h.2.2]; exact Nat.mod_lt _ (by omega)
theorem WideOf.abs {z : Int} {ng : Bool} {hi lo : Nat} (h : WideOf z ng hi lo) : hi * 18446744073709551616 + lo = z.natAbs := by rw [← h.2.1, ← h.2.2]; exact Nat.div_add_mod' _ _

set_option maxHeartbeats 1000000 in
theorem times_core (a b : Int) (sa sb h0 l0 ng : Bool) (x y hi lo : Nat) (w : World) (ka : decide (a < 0) = sa) (kb : decide (b < 0) = sb) (kh : ((hi : Int) != 0) = h0) (kl : ((lo : Int) != 0) = l0)
    (kn : ((sa != sb) && (h0 || l0)) = ng)
    (C1 : Hid (∀ w, Calls Try.prog 42 #[.int .i64 a] w (Ret (.int .u64 (x : Int)) w)))
    (C2 : Hid (∀ w, Calls Try.prog 42 #[.int .i64 b] w (Ret (.int .u64 (y : Int)) w)))
    (C3 : Hid (∀ w, Calls Try.prog 41 #[.int .u64 x, .int .u64 y] w (Ret (.tuple #[.int .u64 (hi : Int), .int .u64 (lo : Int)]) w))) :
    Calls Try.prog 36 #[.int .i64 a, .int .i64 b] w (RetB (.agg #[.bool ng, .int .u64 (hi : Int), .int .u64 (lo : Int)]) w) := by
  subst kn
  cases sa <;> cases sb <;> cases h0 <;> cases l0
  all_goals
    go_enter Try.func36, Try.ntmps36
    go_wp2_with fail
    refine (C1.out _).mono ?_; rintro e w' ⟨rfl, n1, rfl⟩
    go_wp2_with fail
    refine (C2.out _).mono ?_; rintro e w' ⟨rfl, n2, rfl⟩
    go_wp2_with fail
    refine (C3.out _).mono ?_; rintro e w' ⟨rfl, n3, rfl⟩
    go_wp2
    exact bodyPost_ret (v := .agg #[.bool _, .int .u64 (hi : Int), .int .u64 (lo : Int)]) (by simp [results, Try.results36, go_sem]) rfl ⟨rfl, by repeat (first | exact Below.refl _ _ | refine Below.setCell ?_ (by simp) _ | refine below_dN ?_ _ | refine Below.alloc ?_ (by simp) _)⟩
end Go.Proofs.Ytkjgpidiompmlaa
