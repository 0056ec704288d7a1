/- The contracts of the document's own reckoning of layer 1, the fourth part: differences, and the division bit by bit. -/
import Derived.Test.YtdflllhepijcgaaRef3
namespace Go.Proofs.Ytdflllhepijcgaa
open Go.RowKit
set_option linter.unusedVariables false
set_option linter.unusedSimpArgs false

theorem rsub_any (a b v : Int) (o : Bool) (w : World) (ha : fitB a = true) (hb : fitB b = true) (hv : cutZ (a - b) = v) (ho : fitB (a - b) = o) :
    Calls Try.prog 29 #[.int .i64 a, .int .i64 b] w (Ret (.tuple #[.int .i64 v, .bool o]) w) := by
  obtain ⟨a0, a1⟩ := fitB_iff.1 ha
  obtain ⟨b0, b1⟩ := fitB_iff.1 hb
  clear ha hb
  cases o
  · rw [cutZ_false ho] at hv
    subst hv
    have f2 := fitB_not.1 ho
    clear ho
    by_cases sa : a < 0
    · have e' : wrap64 (a - b) = a - b + 18446744073709551616 := by unfold wrap64; omega
      have e2 : decide (0 ≤ a - b + 18446744073709551616) = true := decide_eq_true (by omega)
      have e3 : decide (0 ≤ a) = false := decide_eq_false (by omega)
      have e4 : 0 < b := by omega
      go_enter Try.func29, Try.ntmps29
      go_wp2
      go_ret2
      exact ⟨rfl, 0, rfl⟩
    · have e' : wrap64 (a - b) = a - b - 18446744073709551616 := by unfold wrap64; omega
      have e2 : decide (a - b - 18446744073709551616 < 0) = true := decide_eq_true (by omega)
      have e3 : 0 ≤ a := by omega
      have e4 : b < 0 := by omega
      go_enter Try.func29, Try.ntmps29
      go_wp2
      go_ret2
      exact ⟨rfl, 0, rfl⟩
  · rw [cutZ_true ho] at hv
    subst hv
    obtain ⟨f0, f1⟩ := fitB_iff.1 ho
    clear ho
    by_cases p1 : 0 ≤ a
    · have r1 : decide (0 ≤ a) = true := decide_eq_true p1
      have r2 : decide (a < 0) = false := decide_eq_false (by omega)
      by_cases p2 : b < 0
      · have r3 : decide (b < 0) = true := decide_eq_true p2
        have r4 : decide (a - b < 0) = false := decide_eq_false (by omega)
        go_enter Try.func29, Try.ntmps29
        go_wp2
        go_ret2
        exact ⟨rfl, 0, rfl⟩
      · have r3 : decide (b < 0) = false := decide_eq_false p2
        go_enter Try.func29, Try.ntmps29
        go_wp2
        go_ret2
        exact ⟨rfl, 0, rfl⟩
    · have r1 : decide (0 ≤ a) = false := decide_eq_false p1
      have r2 : decide (a < 0) = true := decide_eq_true (by omega)
      by_cases p2 : 0 < b
      · have r3 : decide (0 < b) = true := decide_eq_true p2
        have r4 : decide (0 ≤ a - b) = false := decide_eq_false (by omega)
        go_enter Try.func29, Try.ntmps29
        go_wp2
        go_ret2
        exact ⟨rfl, 0, rfl⟩
      · have r3 : decide (0 < b) = false := decide_eq_false p2
        go_enter Try.func29, Try.ntmps29
        go_wp2
        go_ret2
        exact ⟨rfl, 0, rfl⟩

end Go.Proofs.Ytdflllhepijcgaa
