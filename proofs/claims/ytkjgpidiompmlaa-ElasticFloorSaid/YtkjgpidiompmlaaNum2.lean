/- The contracts of package num's functions, the second part: Sub, Mul, CmpMul, Share, Up. -/
import Derived.Test.YtkjgpidiompmlaaNum
namespace Go.Proofs.Ytkjgpidiompmlaa
open Go.RowKit
set_option linter.unusedVariables false

theorem sub_any (a b : Int) (w : World) (ha : fitB a = true) (hb : fitB b = true) :
    Calls Try.prog 34 #[.int .i64 a, .int .i64 b] w (Ret (.tuple #[.int .i64 (cutZ (a - b)), .bool (fitB (a - b))]) w) := by
  obtain ⟨a0, a1⟩ := fitB_iff.1 ha
  obtain ⟨b0, b1⟩ := fitB_iff.1 hb
  clear ha hb
  by_cases f : fitB (a - b) = true
  · rw [cutZ_true f, f]
    obtain ⟨f0, f1⟩ := fitB_iff.1 f
    clear f
    by_cases sa : a < 0 <;> by_cases sb : b < 0 <;> by_cases sc : a - b < 0
    all_goals (try omega)
    all_goals
      go_enter Try.func34, Try.ntmps34
      go_wp2
      go_ret2
      exact ⟨rfl, 0, rfl⟩
  · have f' : fitB (a - b) = false := by simpa using f
    rw [cutZ_false f', f']
    have f2 := fitB_not.1 f'
    clear f f'
    by_cases sa : a < 0 <;> by_cases sb : b < 0
    all_goals (try omega)
    · have e : IntKind.i64.wrap (a - b) = a - b + 18446744073709551616 := by rw [IntKind.wrap_i64]; omega
      have e' : wrap64 (a - b) = a - b + 18446744073709551616 := by unfold wrap64; omega
      have e2 : ¬ (a - b + 18446744073709551616 < 0) := by omega
      go_enter Try.func34, Try.ntmps34
      go_wp2
      go_ret2
      exact ⟨rfl, 0, rfl⟩
    · have e : IntKind.i64.wrap (a - b) = a - b - 18446744073709551616 := by rw [IntKind.wrap_i64]; omega
      have e' : wrap64 (a - b) = a - b - 18446744073709551616 := by unfold wrap64; omega
      have e2 : (a - b - 18446744073709551616 < 0) := by omega
      go_enter Try.func34, Try.ntmps34
      go_wp2
      go_ret2
      exact ⟨rfl, 0, rfl⟩

theorem halves (x y : Int) : (x / 18446744073709551616 ≠ y / 18446744073709551616 → cmpZ (x / 18446744073709551616) (y / 18446744073709551616) = cmpZ x y) ∧
    (x / 18446744073709551616 = y / 18446744073709551616 → cmpZ (x % 18446744073709551616) (y % 18446744073709551616) = cmpZ x y) := by
  refine ⟨fun h => ?_, fun h => ?_⟩
  · by_cases k : x / 18446744073709551616 < y / 18446744073709551616
    · rw [cmpZ_lt k, cmpZ_lt (by omega)]
    · rw [cmpZ_gt (by omega), cmpZ_gt (by omega)]
  · rcases cmpZ_cases x y with ⟨k, e⟩ | ⟨k, e⟩ | ⟨k, e⟩ <;> rw [e]
    · exact cmpZ_lt (by omega)
    · exact cmpZ_gt (by omega)
    · exact cmpZ_eq (by omega)

/-- quotient: refused. -/
theorem quotient_no (a b c : Int) (w : World) (ha : fitB a = true) (hb : fitB b = true) (hc : fitB c = true) (h : quoOk (a * b).natAbs c = false) :
    Calls Try.prog 45 #[.int .i64 a, .int .i64 b, .int .i64 c] w (Ret (.tuple #[.int .u64 0, .bool false, .bool false]) w) := by
  by_cases c1 : c < 1
  · clear ha hb h hc
    go_enter Try.func45, Try.ntmps45
    go_wp2
    go_ret3
    exact ⟨rfl, 0, rfl⟩
  · obtain ⟨d, rfl⟩ : ∃ d : Nat, c = (d : Int) := ⟨c.toNat, by omega⟩
    obtain ⟨c0, c2⟩ := fitB_iff.1 hc
    obtain ⟨a0, a1⟩ := fitB_iff.1 ha
    obtain ⟨b0, b1⟩ := fitB_iff.1 hb
    obtain ⟨x, hx⟩ : ∃ x, a.natAbs = x := ⟨_, rfl⟩
    obtain ⟨y, hy⟩ : ∃ y, b.natAbs = y := ⟨_, rfl⟩
    have C1 := Lib.hid (magnitude_named a x · ha hx)
    have C2 := Lib.hid (magnitude_named b y · hb hy)
    rw [← abs_mul, hx, hy] at h
    obtain ⟨hi, hhi⟩ : ∃ hi, x * y / 18446744073709551616 = hi := ⟨_, rfl⟩
    obtain ⟨lo, hlo⟩ : ∃ lo, x * y % 18446744073709551616 = lo := ⟨_, rfl⟩
    have C3 := Lib.hid (mul64_named x y hi lo · (by omega) (by omega) hhi hlo)
    have hq : (9223372036854775808 : Int) < ((x * y / d : Nat) : Int) := by
      simp only [quoOk, decide_eq_false_iff_not, Int.toNat_natCast] at h; omega
    have e : hi * 18446744073709551616 + lo = x * y := by rw [← hhi, ← hlo]; exact Nat.div_add_mod' _ _
    by_cases h2 : d ≤ hi
    · have h3 : (d : Int) ≤ hi := by omega
      clear h hx hy hhi hlo hq e h2 ha hb hc
      go_enter Try.func45, Try.ntmps45
      go_wp2_with fail
      refine (C1.out _).mono ?_; rintro e w' ⟨rfl, n1, rfl⟩
      go_wp2_with fail
      refine (C2.out _).mono ?_; rintro e w' ⟨rfl, n2, rfl⟩
      go_wp2_with fail
      refine (C3.out _).mono ?_; rintro e w' ⟨rfl, n3, rfl⟩
      go_wp2
      go_ret3
      exact ⟨rfl, _, rfl⟩
    · obtain ⟨q, hqq⟩ : ∃ q, (hi * 18446744073709551616 + lo) / d = q := ⟨_, rfl⟩
      obtain ⟨r, hr⟩ : ∃ r, (hi * 18446744073709551616 + lo) % d = r := ⟨_, rfl⟩
      have C4 := Lib.hid (div64_named hi lo d q r · (by omega) (by rw [← hlo]; exact Nat.mod_lt _ (by omega)) (by omega) hqq hr)
      rw [e] at hqq
      rw [hqq] at hq
      have h3 : ¬ (d : Int) ≤ hi := by omega
      clear h hx hy hhi hlo hqq hr e h2 ha hb hc
      go_enter Try.func45, Try.ntmps45
      go_wp2_with fail
      refine (C1.out _).mono ?_; rintro e w' ⟨rfl, n1, rfl⟩
      go_wp2_with fail
      refine (C2.out _).mono ?_; rintro e w' ⟨rfl, n2, rfl⟩
      go_wp2_with fail
      refine (C3.out _).mono ?_; rintro e w' ⟨rfl, n3, rfl⟩
      go_wp2_with fail
      refine (C4.out _).mono ?_; rintro e w' ⟨rfl, n4, rfl⟩
      go_wp2
      go_ret3
      exact ⟨rfl, _, rfl⟩

/-- quotient: answered. -/
theorem quotient_yes (a b c : Int) (q : Nat) (x : Bool) (w : World) (ha : fitB a = true) (hb : fitB b = true) (hc : fitB c = true) (h : quoOk (a * b).natAbs c = true)
    (hq : (a * b).natAbs / c.toNat = q) (hx : decide ((a * b).natAbs % c.toNat = 0) = x) :
    Calls Try.prog 45 #[.int .i64 a, .int .i64 b, .int .i64 c] w (Ret (.tuple #[.int .u64 (q : Int), .bool x, .bool true]) w) := by
  have h1 : 1 ≤ c ∧ ((q : Nat) : Int) ≤ 9223372036854775808 := by rw [← hq]; simpa only [quoOk, decide_eq_true_eq] using h
  obtain ⟨c1, h1⟩ := h1
  obtain ⟨d, rfl⟩ : ∃ d : Nat, c = (d : Int) := ⟨c.toNat, by omega⟩
  rw [Int.toNat_natCast] at hq hx
  obtain ⟨c0, c2⟩ := fitB_iff.1 hc
  obtain ⟨a0, a1⟩ := fitB_iff.1 ha
  obtain ⟨b0, b1⟩ := fitB_iff.1 hb
  obtain ⟨u, hu⟩ : ∃ x, a.natAbs = x := ⟨_, rfl⟩
  obtain ⟨y, hy⟩ : ∃ y, b.natAbs = y := ⟨_, rfl⟩
  have C1 := Lib.hid (magnitude_named a u · ha hu)
  have C2 := Lib.hid (magnitude_named b y · hb hy)
  rw [← abs_mul, hu, hy] at hq hx
  obtain ⟨hi, hhi⟩ : ∃ hi, u * y / 18446744073709551616 = hi := ⟨_, rfl⟩
  obtain ⟨lo, hlo⟩ : ∃ lo, u * y % 18446744073709551616 = lo := ⟨_, rfl⟩
  have C3 := Lib.hid (mul64_named u y hi lo · (by omega) (by omega) hhi hlo)
  have e : hi * 18446744073709551616 + lo = u * y := by rw [← hhi, ← hlo]; exact Nat.div_add_mod' _ _
  have hd : hi < d := by
    have : u * y < d * 18446744073709551616 := by
      have := (Nat.div_lt_iff_lt_mul (show 0 < d by omega) (x := u * y) (y := 18446744073709551616)).1 (by omega)
      omega
    omega
  obtain ⟨r, hr⟩ : ∃ r, u * y % d = r := ⟨_, rfl⟩
  have C4 := Lib.hid (div64_named hi lo d q r · hd (by rw [← hlo]; exact Nat.mod_lt _ (by omega)) (by omega) (e ▸ hq) (e ▸ hr))
  rw [hr] at hx
  have h3 : ¬ (d : Int) ≤ hi := by omega
  have h4 : ((r : Int) == 0) = x := by rw [← hx]; by_cases k : r = 0 <;> simp [k]
  clear h hu hy hhi hlo hr e ha hb hc hx hq hd
  go_enter Try.func45, Try.ntmps45
  go_wp2_with fail
  refine (C1.out _).mono ?_; rintro e w' ⟨rfl, n1, rfl⟩
  go_wp2_with fail
  refine (C2.out _).mono ?_; rintro e w' ⟨rfl, n2, rfl⟩
  go_wp2_with fail
  refine (C3.out _).mono ?_; rintro e w' ⟨rfl, n3, rfl⟩
  go_wp2_with fail
  refine (C4.out _).mono ?_; rintro e w' ⟨rfl, n4, rfl⟩
  go_wp2
  go_ret3
  exact ⟨rfl, _, rfl⟩
end Go.Proofs.Ytkjgpidiompmlaa
