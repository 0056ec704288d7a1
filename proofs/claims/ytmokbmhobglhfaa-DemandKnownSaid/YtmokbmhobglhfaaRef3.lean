/- The contracts of the document's own reckoning of layer 1, the third part: orders of products, sums, differences. -/
import Derived.Test.YtmokbmhobglhfaaRef2
namespace Go.Proofs.Ytmokbmhobglhfaa
open Go.RowKit
set_option linter.unusedVariables false
set_option linter.unusedSimpArgs false

/-- The order of two sizes in halves. -/
theorem wide_order {z1 z2 : Int} {n1 n2 : Bool} {h1 l1 h2 l2 : Nat} (k1 : WideOf z1 n1 h1 l1) (k2 : WideOf z2 n2 h2 l2) :
    (n1 = true → n2 = false → cmpZ z1 z2 = -1) ∧ (n1 = false → n2 = true → cmpZ z1 z2 = 1) ∧
    (n1 = n2 → (h1 < h2 ∨ h1 = h2 ∧ l1 < l2) → cmpZ z1 z2 = if n1 = true then 1 else -1) ∧
    (n1 = n2 → (h2 < h1 ∨ h1 = h2 ∧ l2 < l1) → cmpZ z1 z2 = if n1 = true then -1 else 1) ∧
    (n1 = n2 → h1 = h2 → l1 = l2 → cmpZ z1 z2 = 0) := by
  have a1 := k1.abs
  have a2 := k2.abs
  have b1 := k1.lo_lt
  have b2 := k2.lo_lt
  have s1 := k1.1
  have s2 := k2.1
  clear k1 k2
  have t1 : n1 = true → z1 < 0 := fun h => of_decide_eq_true (s1.trans h)
  have f1 : n1 = false → ¬ z1 < 0 := fun h => of_decide_eq_false (s1.trans h)
  have t2 : n2 = true → z2 < 0 := fun h => of_decide_eq_true (s2.trans h)
  have f2 : n2 = false → ¬ z2 < 0 := fun h => of_decide_eq_false (s2.trans h)
  clear s1 s2
  refine ⟨fun h k => ?_, fun h k => ?_, fun h k => ?_, fun h k => ?_, fun h k k' => ?_⟩
  · have := t1 h; have := f2 k; exact cmpZ_lt (by omega)
  · have := f1 h; have := t2 k; exact cmpZ_gt (by omega)
  · subst h
    cases n1
    · have := f1 rfl; have := f2 rfl; rw [if_neg (by decide)]; exact cmpZ_lt (by omega)
    · have := t1 rfl; have := t2 rfl; rw [if_pos rfl]; exact cmpZ_gt (by omega)
  · subst h
    cases n1
    · have := f1 rfl; have := f2 rfl; rw [if_neg (by decide)]; exact cmpZ_gt (by omega)
    · have := t1 rfl; have := t2 rfl; rw [if_pos rfl]; exact cmpZ_lt (by omega)
  · subst h
    cases n1
    · have := f1 rfl; have := f2 rfl; exact cmpZ_eq (by omega)
    · have := t1 rfl; have := t2 rfl; exact cmpZ_eq (by omega)

end Go.Proofs.Ytmokbmhobglhfaa
