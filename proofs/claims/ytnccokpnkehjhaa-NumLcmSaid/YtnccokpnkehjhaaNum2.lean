/- The contracts of package num's functions, the second part: Sub, Mul, CmpMul, Share, Up. -/
import Derived.Test.YtnccokpnkehjhaaNum
namespace Go.Proofs.Ytnccokpnkehjhaa
open Go.RowKit
set_option linter.unusedVariables false

theorem sub_any (a b : Int) (w : World) (ha : fitB a = true) (hb : fitB b = true) :
    Calls Try.prog 13 #[.int .i64 a, .int .i64 b] w (Ret (.tuple #[.int .i64 (cutZ (a - b)), .bool (fitB (a - b))]) w) := by
  obtain ⟨a0, a1⟩ := fitB_iff.1 ha
  obtain ⟨b0, b1⟩ := fitB_iff.1 hb
  clear ha hb
  by_cases f : fitB (a - b) = true
  · rw [cutZ_true f, f]
    obtain ⟨f0, f1⟩ := fitB_iff.1 f
    clear f
    by_cases sa : a < 0 <;> by_cases sb : b < 0 <;> by_cases sc : a - b < 0
    all_goals (try omega)
    all_goals
      go_enter Try.func13, Try.ntmps13
      go_wp2
      go_ret2
      exact ⟨rfl, 0, rfl⟩
  · have f' : fitB (a - b) = false := by simpa using f
    rw [cutZ_false f', f']
    have f2 := fitB_not.1 f'
    clear f f'
    by_cases sa : a < 0 <;> by_cases sb : b < 0
    all_goals (try omega)
    · have e : IntKind.i64.wrap (a - b) = a - b + 18446744073709551616 := by rw [IntKind.wrap_i64]; omega
      have e' : wrap64 (a - b) = a - b + 18446744073709551616 := by unfold wrap64; omega
      have e2 : ¬ (a - b + 18446744073709551616 < 0) := by omega
      go_enter Try.func13, Try.ntmps13
      go_wp2
      go_ret2
      exact ⟨rfl, 0, rfl⟩
    · have e : IntKind.i64.wrap (a - b) = a - b - 18446744073709551616 := by rw [IntKind.wrap_i64]; omega
      have e' : wrap64 (a - b) = a - b - 18446744073709551616 := by unfold wrap64; omega
      have e2 : (a - b - 18446744073709551616 < 0) := by omega
      go_enter Try.func13, Try.ntmps13
      go_wp2
      go_ret2
      exact ⟨rfl, 0, rfl⟩

theorem mul_any (a b : Int) (w : World) (ha : fitB a = true) (hb : fitB b = true) :
    Calls Try.prog 14 #[.int .i64 a, .int .i64 b] w (Ret (.tuple #[.int .i64 (cutZ (a * b)), .bool (fitB (a * b))]) w) := by
  have hm := prod_bound ha hb
  obtain ⟨hi, hhi⟩ : ∃ hi, a * b / 18446744073709551616 = hi := ⟨_, rfl⟩
  obtain ⟨lo, hlo⟩ : ∃ lo, a * b % 18446744073709551616 = lo := ⟨_, rfl⟩
  have C := Lib.hid (product_named a b hi lo · ha hb hhi hlo)
  clear ha hb
  generalize a * b = m at *
  obtain ⟨l, hl⟩ : ∃ l, l = (if 9223372036854775808 ≤ lo then lo - 18446744073709551616 else lo) := ⟨_, rfl⟩
  have e1 : wrap64 lo = l := by unfold wrap64; rw [hl]; split <;> omega
  have l0 : -9223372036854775808 ≤ l := by rw [hl]; split <;> omega
  have l1 : l ≤ 9223372036854775807 := by rw [hl]; split <;> omega
  have hcase : (fitB m = true ∧ m = l ∧ hi = l / 9223372036854775808) ∨ (fitB m = false ∧ ¬ hi = l / 9223372036854775808) := by
    by_cases f : -9223372036854775808 ≤ m ∧ m ≤ 9223372036854775807
    · refine .inl ⟨fitB_true f, ?_, ?_⟩ <;> rw [hl] <;> split <;> omega
    · refine .inr ⟨fitB_false f, ?_⟩; rw [hl]; split <;> omega
  have H := Lib.hid (And.intro hhi (And.intro hlo (And.intro hl hm))); clear hhi hlo hl hm
  rcases hcase with ⟨f, hml, hh⟩ | ⟨f, hh⟩
  · rw [cutZ_true f, f, hml]
    clear f hml
    have hb1 : (hi == l / 9223372036854775808) = true := beq_iff_eq.2 hh
    have hb2 : (hi != l / 9223372036854775808) = false := by rw [bne, hb1]; rfl
    clear hh H
    go_enter Try.func14, Try.ntmps14
    go_wp2_with (go_at_call 29; refine (C.out _).mono ?_; rintro e w' ⟨rfl, n1, rfl⟩)
    go_ret2
    exact ⟨ret_ib e1 rfl, n1, rfl⟩
  · rw [cutZ_false f, f]
    clear f
    have hb1 : (hi == l / 9223372036854775808) = false := beq_eq_false_iff_ne.2 hh
    have hb2 : (hi != l / 9223372036854775808) = true := by rw [bne, hb1]; rfl
    clear hh H
    go_enter Try.func14, Try.ntmps14
    go_wp2_with (go_at_call 29; refine (C.out _).mono ?_; rintro e w' ⟨rfl, n1, rfl⟩)
    go_ret2
    exact ⟨rfl, n1, rfl⟩

theorem compare_i (a b : Int) (w : World) :
    Calls Try.prog 32 #[.int .i64 a, .int .i64 b] w (Ret (.int .i64 (cmpZ a b)) w) := by
  rcases cmpZ_cases a b with ⟨h, e⟩ | ⟨h, e⟩ | ⟨h, e⟩ <;> rw [e] <;> clear e
  · go_enter Try.func32, Try.ntmps32
    go_wp2
    go_ret
    exact ⟨rfl, 0, rfl⟩
  · have h' : ¬ a < b := by omega
    go_enter Try.func32, Try.ntmps32
    go_wp2
    go_ret
    exact ⟨rfl, 0, rfl⟩
  · subst h
    go_enter Try.func32, Try.ntmps32
    go_wp2
    go_ret
    exact ⟨rfl, 0, rfl⟩
theorem compare_u (a b : Int) (w : World) :
    Calls Try.prog 33 #[.int .u64 a, .int .u64 b] w (Ret (.int .i64 (cmpZ a b)) w) := by
  rcases cmpZ_cases a b with ⟨h, e⟩ | ⟨h, e⟩ | ⟨h, e⟩ <;> rw [e] <;> clear e
  · go_enter Try.func33, Try.ntmps33
    go_wp2
    go_ret
    exact ⟨rfl, 0, rfl⟩
  · have h' : ¬ a < b := by omega
    go_enter Try.func33, Try.ntmps33
    go_wp2
    go_ret
    exact ⟨rfl, 0, rfl⟩
  · subst h
    go_enter Try.func33, Try.ntmps33
    go_wp2
    go_ret
    exact ⟨rfl, 0, rfl⟩
theorem compare_in (a b c : Int) (w : World) (h : cmpZ a b = c) : Calls Try.prog 32 #[.int .i64 a, .int .i64 b] w (Ret (.int .i64 c) w) := by subst h; exact compare_i a b w
theorem compare_un (a b c : Int) (w : World) (h : cmpZ a b = c) : Calls Try.prog 33 #[.int .u64 a, .int .u64 b] w (Ret (.int .i64 c) w) := by subst h; exact compare_u a b w

theorem halves (x y : Int) : (x / 18446744073709551616 ≠ y / 18446744073709551616 → cmpZ (x / 18446744073709551616) (y / 18446744073709551616) = cmpZ x y) ∧
    (x / 18446744073709551616 = y / 18446744073709551616 → cmpZ (x % 18446744073709551616) (y % 18446744073709551616) = cmpZ x y) := by
  refine ⟨fun h => ?_, fun h => ?_⟩
  · by_cases k : x / 18446744073709551616 < y / 18446744073709551616
    · rw [cmpZ_lt k, cmpZ_lt (by omega)]
    · rw [cmpZ_gt (by omega), cmpZ_gt (by omega)]
  · rcases cmpZ_cases x y with ⟨k, e⟩ | ⟨k, e⟩ | ⟨k, e⟩ <;> rw [e]
    · exact cmpZ_lt (by omega)
    · exact cmpZ_gt (by omega)
    · exact cmpZ_eq (by omega)

theorem cmpMul_any (a b c d z : Int) (w : World) (ha : fitB a = true) (hb : fitB b = true) (hc : fitB c = true) (hd : fitB d = true) (hz : cmpZ (a * b) (c * d) = z) :
    Calls Try.prog 18 #[.int .i64 a, .int .i64 b, .int .i64 c, .int .i64 d] w (Ret (.int .i64 z) w) := by
  obtain ⟨k1, k2⟩ := halves (a * b) (c * d)
  obtain ⟨hi, hhi⟩ : ∃ hi, a * b / 18446744073709551616 = hi := ⟨_, rfl⟩
  obtain ⟨lo, hlo⟩ : ∃ lo, a * b % 18446744073709551616 = lo := ⟨_, rfl⟩
  obtain ⟨hi', hhi'⟩ : ∃ hi, c * d / 18446744073709551616 = hi := ⟨_, rfl⟩
  obtain ⟨lo', hlo'⟩ : ∃ lo, c * d % 18446744073709551616 = lo := ⟨_, rfl⟩
  have C1 := Lib.hid (product_named a b hi lo · ha hb hhi hlo)
  have C2 := Lib.hid (product_named c d hi' lo' · hc hd hhi' hlo')
  simp only [hhi, hhi', hlo, hlo', hz] at k1 k2
  clear ha hb hc hd hhi hhi' hlo hlo' hz
  by_cases h : hi = hi'
  · have k := Lib.hid (k2 h)
    have hb2 : (hi != hi') = false := by rw [bne, beq_iff_eq.2 h]; rfl
    clear k1 k2 h
    go_enter Try.func18, Try.ntmps18
    go_wp2_with fail
    refine (C1.out _).mono ?_; rintro e w' ⟨rfl, n1, rfl⟩
    go_wp2_with fail
    refine (C2.out _).mono ?_; rintro e w' ⟨rfl, n2, rfl⟩
    go_wp2_with fail
    refine (compare_un _ _ _ _ k.out).mono ?_; rintro e w' ⟨rfl, n3, rfl⟩
    go_wp2
    go_ret
    exact ⟨rfl, _, rfl⟩
  · have k := Lib.hid (k1 h)
    have hb2 : (hi != hi') = true := by rw [bne, beq_eq_false_iff_ne.2 h]; rfl
    clear k1 k2 h
    go_enter Try.func18, Try.ntmps18
    go_wp2_with fail
    refine (C1.out _).mono ?_; rintro e w' ⟨rfl, n1, rfl⟩
    go_wp2_with fail
    refine (C2.out _).mono ?_; rintro e w' ⟨rfl, n2, rfl⟩
    go_wp2_with fail
    refine (compare_in _ _ _ _ k.out).mono ?_; rintro e w' ⟨rfl, n3, rfl⟩
    go_wp2
    go_ret
    exact ⟨rfl, _, rfl⟩

/-- quotient: refused. -/
theorem quotient_no (a b c : Int) (w : World) (ha : fitB a = true) (hb : fitB b = true) (hc : fitB c = true) (h : quoOk (a * b).natAbs c = false) :
    Calls Try.prog 30 #[.int .i64 a, .int .i64 b, .int .i64 c] w (Ret (.tuple #[.int .u64 0, .bool false, .bool false]) w) := by
  by_cases c1 : c < 1
  · clear ha hb h hc
    go_enter Try.func30, Try.ntmps30
    go_wp2
    go_ret3
    exact ⟨rfl, 0, rfl⟩
  · obtain ⟨d, rfl⟩ : ∃ d : Nat, c = (d : Int) := ⟨c.toNat, by omega⟩
    obtain ⟨c0, c2⟩ := fitB_iff.1 hc
    obtain ⟨a0, a1⟩ := fitB_iff.1 ha
    obtain ⟨b0, b1⟩ := fitB_iff.1 hb
    obtain ⟨x, hx⟩ : ∃ x, a.natAbs = x := ⟨_, rfl⟩
    obtain ⟨y, hy⟩ : ∃ y, b.natAbs = y := ⟨_, rfl⟩
    have C1 := Lib.hid (magnitude_named a x · ha hx)
    have C2 := Lib.hid (magnitude_named b y · hb hy)
    rw [← abs_mul, hx, hy] at h
    obtain ⟨hi, hhi⟩ : ∃ hi, x * y / 18446744073709551616 = hi := ⟨_, rfl⟩
    obtain ⟨lo, hlo⟩ : ∃ lo, x * y % 18446744073709551616 = lo := ⟨_, rfl⟩
    have C3 := Lib.hid (mul64_named x y hi lo · (by omega) (by omega) hhi hlo)
    have hq : (9223372036854775808 : Int) < ((x * y / d : Nat) : Int) := by
      simp only [quoOk, decide_eq_false_iff_not, Int.toNat_natCast] at h; omega
    have e : hi * 18446744073709551616 + lo = x * y := by rw [← hhi, ← hlo]; exact Nat.div_add_mod' _ _
    by_cases h2 : d ≤ hi
    · have h3 : (d : Int) ≤ hi := by omega
      clear h hx hy hhi hlo hq e h2 ha hb hc
      go_enter Try.func30, Try.ntmps30
      go_wp2_with fail
      refine (C1.out _).mono ?_; rintro e w' ⟨rfl, n1, rfl⟩
      go_wp2_with fail
      refine (C2.out _).mono ?_; rintro e w' ⟨rfl, n2, rfl⟩
      go_wp2_with fail
      refine (C3.out _).mono ?_; rintro e w' ⟨rfl, n3, rfl⟩
      go_wp2
      go_ret3
      exact ⟨rfl, _, rfl⟩
    · obtain ⟨q, hqq⟩ : ∃ q, (hi * 18446744073709551616 + lo) / d = q := ⟨_, rfl⟩
      obtain ⟨r, hr⟩ : ∃ r, (hi * 18446744073709551616 + lo) % d = r := ⟨_, rfl⟩
      have C4 := Lib.hid (div64_named hi lo d q r · (by omega) (by rw [← hlo]; exact Nat.mod_lt _ (by omega)) (by omega) hqq hr)
      rw [e] at hqq
      rw [hqq] at hq
      have h3 : ¬ (d : Int) ≤ hi := by omega
      clear h hx hy hhi hlo hqq hr e h2 ha hb hc
      go_enter Try.func30, Try.ntmps30
      go_wp2_with fail
      refine (C1.out _).mono ?_; rintro e w' ⟨rfl, n1, rfl⟩
      go_wp2_with fail
      refine (C2.out _).mono ?_; rintro e w' ⟨rfl, n2, rfl⟩
      go_wp2_with fail
      refine (C3.out _).mono ?_; rintro e w' ⟨rfl, n3, rfl⟩
      go_wp2_with fail
      refine (C4.out _).mono ?_; rintro e w' ⟨rfl, n4, rfl⟩
      go_wp2
      go_ret3
      exact ⟨rfl, _, rfl⟩

/-- quotient: answered. -/
theorem quotient_yes (a b c : Int) (q : Nat) (x : Bool) (w : World) (ha : fitB a = true) (hb : fitB b = true) (hc : fitB c = true) (h : quoOk (a * b).natAbs c = true)
    (hq : (a * b).natAbs / c.toNat = q) (hx : decide ((a * b).natAbs % c.toNat = 0) = x) :
    Calls Try.prog 30 #[.int .i64 a, .int .i64 b, .int .i64 c] w (Ret (.tuple #[.int .u64 (q : Int), .bool x, .bool true]) w) := by
  have h1 : 1 ≤ c ∧ ((q : Nat) : Int) ≤ 9223372036854775808 := by rw [← hq]; simpa only [quoOk, decide_eq_true_eq] using h
  obtain ⟨c1, h1⟩ := h1
  obtain ⟨d, rfl⟩ : ∃ d : Nat, c = (d : Int) := ⟨c.toNat, by omega⟩
  rw [Int.toNat_natCast] at hq hx
  obtain ⟨c0, c2⟩ := fitB_iff.1 hc
  obtain ⟨a0, a1⟩ := fitB_iff.1 ha
  obtain ⟨b0, b1⟩ := fitB_iff.1 hb
  obtain ⟨u, hu⟩ : ∃ x, a.natAbs = x := ⟨_, rfl⟩
  obtain ⟨y, hy⟩ : ∃ y, b.natAbs = y := ⟨_, rfl⟩
  have C1 := Lib.hid (magnitude_named a u · ha hu)
  have C2 := Lib.hid (magnitude_named b y · hb hy)
  rw [← abs_mul, hu, hy] at hq hx
  obtain ⟨hi, hhi⟩ : ∃ hi, u * y / 18446744073709551616 = hi := ⟨_, rfl⟩
  obtain ⟨lo, hlo⟩ : ∃ lo, u * y % 18446744073709551616 = lo := ⟨_, rfl⟩
  have C3 := Lib.hid (mul64_named u y hi lo · (by omega) (by omega) hhi hlo)
  have e : hi * 18446744073709551616 + lo = u * y := by rw [← hhi, ← hlo]; exact Nat.div_add_mod' _ _
  have hd : hi < d := by
    have : u * y < d * 18446744073709551616 := by
      have := (Nat.div_lt_iff_lt_mul (show 0 < d by omega) (x := u * y) (y := 18446744073709551616)).1 (by omega)
      omega
    omega
  obtain ⟨r, hr⟩ : ∃ r, u * y % d = r := ⟨_, rfl⟩
  have C4 := Lib.hid (div64_named hi lo d q r · hd (by rw [← hlo]; exact Nat.mod_lt _ (by omega)) (by omega) (e ▸ hq) (e ▸ hr))
  rw [hr] at hx
  have h3 : ¬ (d : Int) ≤ hi := by omega
  have h4 : ((r : Int) == 0) = x := by rw [← hx]; by_cases k : r = 0 <;> simp [k]
  clear h hu hy hhi hlo hr e ha hb hc hx hq hd
  go_enter Try.func30, Try.ntmps30
  go_wp2_with fail
  refine (C1.out _).mono ?_; rintro e w' ⟨rfl, n1, rfl⟩
  go_wp2_with fail
  refine (C2.out _).mono ?_; rintro e w' ⟨rfl, n2, rfl⟩
  go_wp2_with fail
  refine (C3.out _).mono ?_; rintro e w' ⟨rfl, n3, rfl⟩
  go_wp2_with fail
  refine (C4.out _).mono ?_; rintro e w' ⟨rfl, n4, rfl⟩
  go_wp2
  go_ret3
  exact ⟨rfl, _, rfl⟩
end Go.Proofs.Ytnccokpnkehjhaa
