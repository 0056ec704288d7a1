/- The contracts of the document's own reckoning of layer 1, the fifth part: shares, down and up. -/
import Derived.Test.YtmokbmhobglhfaaRef3
namespace Go.Proofs.Ytmokbmhobglhfaa
open Go.RowKit
set_option linter.unusedVariables false
set_option linter.unusedSimpArgs false

/-- The value of a part: down or up. -/
def partV (up : Bool) (z c : Int) : Int := if up = true then upV z c else shareV z c
def partOk (up : Bool) (z c : Int) : Bool := if up = true then upOk z c else shareOk z c
def partZ (up : Bool) (z c : Int) : Int := if up = true then upZ z c else z / c
theorem part_cut (up : Bool) {z c : Int} (h : 1 ≤ c) : partV up z c = cutZ (partZ up z c) ∧ partOk up z c = fitB (partZ up z c) := by
  cases up
  · exact share_cut h
  · exact up_cut h
theorem part_refused (up : Bool) {z c : Int} (h : ¬ 1 ≤ c) : partV up z c = 0 ∧ partOk up z c = false := by
  cases up
  · have e : shareOk z c = false := by rw [shareOk, decide_eq_false h, Bool.false_and]
    exact ⟨by simp only [partV, Bool.false_eq_true, if_false]; rw [shareV, e]; rfl, e⟩
  · have e : upOk z c = false := by rw [upOk, decide_eq_false h, Bool.false_and]
    exact ⟨by simp only [partV, if_true]; rw [upV, e]; rfl, e⟩
theorem part_signed {up ng left : Bool} {z c : Int} {q : Nat} (h : 1 ≤ c) (hn : decide (z < 0) = ng) (hq : z.natAbs / c.toNat = q) (hl : decide (z.natAbs % c.toNat ≠ 0) = left) :
    ((left && (up != ng)) = false → partZ up z c = if ng = true then -(q : Int) else (q : Int)) ∧ (left = true → (up != ng) = true → partZ up z c = if ng = true then -((q + 1 : Nat) : Int) else ((q + 1 : Nat) : Int)) := by
  have hx : decide (z.natAbs % c.toNat = 0) = !left := by rw [← hl]; simp
  obtain ⟨d1, d2, d3⟩ := down_signed h hq hx
  obtain ⟨u1, u2, u3⟩ := up_signed h hq hx
  cases ng
  · have hz : 0 ≤ z := by have := of_decide_eq_false hn; omega
    cases up <;> cases left <;> simp [partZ]
    · exact d1 hz
    · exact d1 hz
    · exact u2 hz rfl
    · exact u3 hz rfl
  · have hz : z ≤ 0 := by have := of_decide_eq_true hn; omega
    cases up <;> cases left <;> simp [partZ]
    · exact d2 hz rfl
    · exact d3 hz rfl
    · exact u1 hz
    · exact u1 hz
end Go.Proofs.Ytmokbmhobglhfaa
