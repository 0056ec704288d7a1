/- The contracts of package num's functions, the second part: Sub, Mul, CmpMul, Share, Up. -/
import Derived.Test.YtdflllhepijcgaaNum
namespace Go.Proofs.Ytdflllhepijcgaa
open Go.RowKit
set_option linter.unusedVariables false

theorem sub_any (a b : Int) (w : World) (ha : fitB a = true) (hb : fitB b = true) :
    Calls Try.prog 24 #[.int .i64 a, .int .i64 b] w (Ret (.tuple #[.int .i64 (cutZ (a - b)), .bool (fitB (a - b))]) w) := by
  obtain ⟨a0, a1⟩ := fitB_iff.1 ha
  obtain ⟨b0, b1⟩ := fitB_iff.1 hb
  clear ha hb
  by_cases f : fitB (a - b) = true
  · rw [cutZ_true f, f]
    obtain ⟨f0, f1⟩ := fitB_iff.1 f
    clear f
    by_cases sa : a < 0 <;> by_cases sb : b < 0 <;> by_cases sc : a - b < 0
    all_goals (try omega)
    all_goals
      go_enter Try.func24, Try.ntmps24
      go_wp2
      go_ret2
      exact ⟨rfl, 0, rfl⟩
  · have f' : fitB (a - b) = false := by simpa using f
    rw [cutZ_false f', f']
    have f2 := fitB_not.1 f'
    clear f f'
    by_cases sa : a < 0 <;> by_cases sb : b < 0
    all_goals (try omega)
    · have e : IntKind.i64.wrap (a - b) = a - b + 18446744073709551616 := by rw [IntKind.wrap_i64]; omega
      have e' : wrap64 (a - b) = a - b + 18446744073709551616 := by unfold wrap64; omega
      have e2 : ¬ (a - b + 18446744073709551616 < 0) := by omega
      go_enter Try.func24, Try.ntmps24
      go_wp2
      go_ret2
      exact ⟨rfl, 0, rfl⟩
    · have e : IntKind.i64.wrap (a - b) = a - b - 18446744073709551616 := by rw [IntKind.wrap_i64]; omega
      have e' : wrap64 (a - b) = a - b - 18446744073709551616 := by unfold wrap64; omega
      have e2 : (a - b - 18446744073709551616 < 0) := by omega
      go_enter Try.func24, Try.ntmps24
      go_wp2
      go_ret2
      exact ⟨rfl, 0, rfl⟩

theorem compare_i (a b : Int) (w : World) :
    Calls Try.prog 21 #[.int .i64 a, .int .i64 b] w (Ret (.int .i64 (cmpZ a b)) w) := by
  rcases cmpZ_cases a b with ⟨h, e⟩ | ⟨h, e⟩ | ⟨h, e⟩ <;> rw [e] <;> clear e
  · go_enter Try.func21, Try.ntmps21
    go_wp2
    go_ret
    exact ⟨rfl, 0, rfl⟩
  · have h' : ¬ a < b := by omega
    go_enter Try.func21, Try.ntmps21
    go_wp2
    go_ret
    exact ⟨rfl, 0, rfl⟩
  · subst h
    go_enter Try.func21, Try.ntmps21
    go_wp2
    go_ret
    exact ⟨rfl, 0, rfl⟩
theorem compare_u (a b : Int) (w : World) :
    Calls Try.prog 33 #[.int .u64 a, .int .u64 b] w (Ret (.int .i64 (cmpZ a b)) w) := by
  rcases cmpZ_cases a b with ⟨h, e⟩ | ⟨h, e⟩ | ⟨h, e⟩ <;> rw [e] <;> clear e
  · go_enter Try.func33, Try.ntmps33
    go_wp2
    go_ret
    exact ⟨rfl, 0, rfl⟩
  · have h' : ¬ a < b := by omega
    go_enter Try.func33, Try.ntmps33
    go_wp2
    go_ret
    exact ⟨rfl, 0, rfl⟩
  · subst h
    go_enter Try.func33, Try.ntmps33
    go_wp2
    go_ret
    exact ⟨rfl, 0, rfl⟩
theorem compare_in (a b c : Int) (w : World) (h : cmpZ a b = c) : Calls Try.prog 21 #[.int .i64 a, .int .i64 b] w (Ret (.int .i64 c) w) := by subst h; exact compare_i a b w
theorem compare_un (a b c : Int) (w : World) (h : cmpZ a b = c) : Calls Try.prog 33 #[.int .u64 a, .int .u64 b] w (Ret (.int .i64 c) w) := by subst h; exact compare_u a b w

theorem halves (x y : Int) : (x / 18446744073709551616 ≠ y / 18446744073709551616 → cmpZ (x / 18446744073709551616) (y / 18446744073709551616) = cmpZ x y) ∧
    (x / 18446744073709551616 = y / 18446744073709551616 → cmpZ (x % 18446744073709551616) (y % 18446744073709551616) = cmpZ x y) := by
  refine ⟨fun h => ?_, fun h => ?_⟩
  · by_cases k : x / 18446744073709551616 < y / 18446744073709551616
    · rw [cmpZ_lt k, cmpZ_lt (by omega)]
    · rw [cmpZ_gt (by omega), cmpZ_gt (by omega)]
  · rcases cmpZ_cases x y with ⟨k, e⟩ | ⟨k, e⟩ | ⟨k, e⟩ <;> rw [e]
    · exact cmpZ_lt (by omega)
    · exact cmpZ_gt (by omega)
    · exact cmpZ_eq (by omega)

theorem cmpMul_any (a b c d z : Int) (w : World) (ha : fitB a = true) (hb : fitB b = true) (hc : fitB c = true) (hd : fitB d = true) (hz : cmpZ (a * b) (c * d) = z) :
    Calls Try.prog 22 #[.int .i64 a, .int .i64 b, .int .i64 c, .int .i64 d] w (Ret (.int .i64 z) w) := by
  obtain ⟨k1, k2⟩ := halves (a * b) (c * d)
  obtain ⟨hi, hhi⟩ : ∃ hi, a * b / 18446744073709551616 = hi := ⟨_, rfl⟩
  obtain ⟨lo, hlo⟩ : ∃ lo, a * b % 18446744073709551616 = lo := ⟨_, rfl⟩
  obtain ⟨hi', hhi'⟩ : ∃ hi, c * d / 18446744073709551616 = hi := ⟨_, rfl⟩
  obtain ⟨lo', hlo'⟩ : ∃ lo, c * d % 18446744073709551616 = lo := ⟨_, rfl⟩
  have C1 := Lib.hid (product_named a b hi lo · ha hb hhi hlo)
  have C2 := Lib.hid (product_named c d hi' lo' · hc hd hhi' hlo')
  simp only [hhi, hhi', hlo, hlo', hz] at k1 k2
  clear ha hb hc hd hhi hhi' hlo hlo' hz
  by_cases h : hi = hi'
  · have k := Lib.hid (k2 h)
    have hb2 : (hi != hi') = false := by rw [bne, beq_iff_eq.2 h]; rfl
    clear k1 k2 h
    go_enter Try.func22, Try.ntmps22
    go_wp2_with fail
    refine (C1.out _).mono ?_; rintro e w' ⟨rfl, n1, rfl⟩
    go_wp2_with fail
    refine (C2.out _).mono ?_; rintro e w' ⟨rfl, n2, rfl⟩
    go_wp2_with fail
    refine (compare_un _ _ _ _ k.out).mono ?_; rintro e w' ⟨rfl, n3, rfl⟩
    go_wp2
    go_ret
    exact ⟨rfl, _, rfl⟩
  · have k := Lib.hid (k1 h)
    have hb2 : (hi != hi') = true := by rw [bne, beq_eq_false_iff_ne.2 h]; rfl
    clear k1 k2 h
    go_enter Try.func22, Try.ntmps22
    go_wp2_with fail
    refine (C1.out _).mono ?_; rintro e w' ⟨rfl, n1, rfl⟩
    go_wp2_with fail
    refine (C2.out _).mono ?_; rintro e w' ⟨rfl, n2, rfl⟩
    go_wp2_with fail
    refine (compare_in _ _ _ _ k.out).mono ?_; rintro e w' ⟨rfl, n3, rfl⟩
    go_wp2
    go_ret
    exact ⟨rfl, _, rfl⟩

end Go.Proofs.Ytdflllhepijcgaa
