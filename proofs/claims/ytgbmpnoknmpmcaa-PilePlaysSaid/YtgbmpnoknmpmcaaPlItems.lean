/- Two slices that hold the same items are alike. -/
import Derived.Test.YtgbmpnoknmpmcaaPlRef3
namespace Go.Proofs.Ytgbmpnoknmpmcaa
open Go.RowKit
set_option linter.unusedVariables false
set_option linter.unusedSimpArgs false

set_option maxHeartbeats 3200000 in
set_option maxRecDepth 100000 in
theorem items_any (A1 A2 : Option Addr) (c1 c2 : Nat) (l : List It) (w : World) (hl : l.length ≤ 1000) (h1 : RdI w A1 l) (h2 : RdI w A2 l) (k1 : l.length ≤ c1) (k2 : l.length ≤ c2) (m1 : c1 ≤ 9223372036854775807) (m2 : c2 ≤ 9223372036854775807) :
    Calls Try.prog 19 #[.slice A1 l.length c1, .slice A2 l.length c2] w (Ret (.bool true) w) := by
  replace h1 := Lib.hid h1
  replace h2 := Lib.hid h2
  have e5 : ((l.length : Int) != (l.length : Int)) = false := by simp
  go_enter Try.func19, Try.ntmps19
  go_wp2
  clear e5
  go_loopw [5] (fun st wr => ∃ (j : Nat) (k : Nat), st = .int .i64 (j : Int) ∧ j ≤ l.length ∧ wr = w.drewN k) (fun st _ => l.length - (intOf st).toNat)
  case atStart => exact ⟨0, 0, rfl, by omega, rfl⟩
  case round =>
    obtain ⟨j, k, rfl, hj, rfl⟩ := hrel
    rcases Nat.lt_or_ge j l.length with hlt | hge
    · obtain ⟨⟨xi, xk, xt⟩, hx⟩ : ∃ x, l[j]? = some x := ⟨_, List.getElem?_eq_getElem hlt⟩
      obtain ⟨g, rfl, hg, d0, d1, d2⟩ := h1.out j _ hx
      obtain ⟨g', rfl, hg', y0, y1, y2⟩ := h2.out j _ hx
      simp only at d0 d1 d2 y0 y1 y2
      have q1 : (j : Int) < (l.length : Int) := by omega
      have q2 : (0 : Int) ≤ (j : Int) := by omega
      have q3 : (xi != xi) = false := by simp
      have q4 : (xk != xk) = false := by simp
      have q5 : (xt != xt) = false := by simp
      clear hx
      go_wp2
      go_quiet (fail)
      go_wp2
      go_roundw
      case rel => exact ⟨j + 1, _, by simp, by omega, rfl⟩
      case measure => simp [intOf]; omega
    · obtain rfl : j = l.length := by omega
      go_wp2
      go_ret
      exact ⟨rfl, _, rfl⟩
end Go.Proofs.Ytgbmpnoknmpmcaa
