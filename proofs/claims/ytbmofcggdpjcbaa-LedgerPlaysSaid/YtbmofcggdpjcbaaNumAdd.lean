/- The contract of num.Add alone (without the shelf). -/
import Derived.Test.YtbmofcggdpjcbaaBase
namespace Go.Proofs.Ytbmofcggdpjcbaa
open Go.RowKit
set_option linter.unusedVariables false

theorem nadd_any (a b : Int) (w : World) (ha : fitB a = true) (hb : fitB b = true) :
    Calls Try.prog 31 #[.int .i64 a, .int .i64 b] w (Ret (.tuple #[.int .i64 (cutZ (a + b)), .bool (fitB (a + b))]) w) := by
  obtain ⟨a0, a1⟩ := fitB_iff.1 ha
  obtain ⟨b0, b1⟩ := fitB_iff.1 hb
  clear ha hb
  by_cases f : fitB (a + b) = true
  · rw [cutZ_true f, f]
    obtain ⟨f0, f1⟩ := fitB_iff.1 f
    clear f
    by_cases sa : a < 0 <;> by_cases sb : b < 0 <;> by_cases sc : a + b < 0
    all_goals (try omega)
    all_goals
      go_enter Try.func31, Try.ntmps31
      go_wp2
      go_ret2
      exact ⟨rfl, 0, rfl⟩
  · have f' : fitB (a + b) = false := by simpa using f
    rw [cutZ_false f', f']
    have f2 := fitB_not.1 f'
    clear f f'
    by_cases sa : a < 0 <;> by_cases sb : b < 0
    all_goals (try omega)
    · have e : IntKind.i64.wrap (a + b) = a + b + 18446744073709551616 := by rw [IntKind.wrap_i64]; omega
      have e' : wrap64 (a + b) = a + b + 18446744073709551616 := by unfold wrap64; omega
      have e2 : ¬ (a + b + 18446744073709551616 < 0) := by omega
      go_enter Try.func31, Try.ntmps31
      go_wp2
      go_ret2
      exact ⟨rfl, 0, rfl⟩
    · have e : IntKind.i64.wrap (a + b) = a + b - 18446744073709551616 := by rw [IntKind.wrap_i64]; omega
      have e' : wrap64 (a + b) = a + b - 18446744073709551616 := by unfold wrap64; omega
      have e2 : (a + b - 18446744073709551616 < 0) := by omega
      go_enter Try.func31, Try.ntmps31
      go_wp2
      go_ret2
      exact ⟨rfl, 0, rfl⟩
end Go.Proofs.Ytbmofcggdpjcbaa
