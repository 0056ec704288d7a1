/- The contracts of the document's own reckoning of layer 1, the second part: orders, sums, products. -/
import Derived.Test.YtkjgpidiompmlaaRef1
namespace Go.Proofs.Ytkjgpidiompmlaa
open Go.RowKit
set_option linter.unusedVariables false
set_option linter.unusedSimpArgs false

theorem abs_split (a b : Int) (ng : Bool) (hi lo : Nat) (h : WideOf (a * b) ng hi lo) :
    ((decide (a < 0) != decide (b < 0)) && (((hi : Int) != 0) || ((lo : Int) != 0))) = ng := by
  have ha := h.abs
  have hn := h.1
  by_cases z : a * b = 0
  · have h1 : hi = 0 := by rw [← h.2.1, z]; rfl
    have h2 : lo = 0 := by rw [← h.2.2, z]; rfl
    rw [← hn, z, h1, h2]; simp
  · have hz : (((hi : Int) != 0) || ((lo : Int) != 0)) = true := by
      by_cases k : hi = 0
      · have : lo ≠ 0 := by intro k2; rw [k, k2] at ha; omega
        simp [this]
      · simp [k]
    rw [hz, Bool.and_true, ← hn]
    by_cases hs : (decide (a < 0) != decide (b < 0)) = true
    · rw [hs]; have := signs_ne hs; symm; exact decide_eq_true (by omega)
    · have := signs_eq hs
      rw [show (decide (a < 0) != decide (b < 0)) = false by simpa using hs]; symm; exact decide_eq_false (by omega)

theorem times_any (a b : Int) (ng : Bool) (hi lo : Nat) (w : World) (ha : fitB a = true) (hb : fitB b = true) (h : WideOf (a * b) ng hi lo) :
    Calls Try.prog 36 #[.int .i64 a, .int .i64 b] w (RetB (.agg #[.bool ng, .int .u64 (hi : Int), .int .u64 (lo : Int)]) w) := by
  obtain ⟨a0, a1⟩ := fitB_iff.1 ha
  obtain ⟨b0, b1⟩ := fitB_iff.1 hb
  refine times_core a b _ _ _ _ ng a.natAbs b.natAbs hi lo w rfl rfl rfl rfl (abs_split a b ng hi lo h) (Lib.hid fun w => rsize_any a _ w ha rfl) (Lib.hid fun w => rsize_any b _ w hb rfl)
    (Lib.hid fun w => rmul_any _ _ hi lo w (by omega) (by omega) (by rw [abs_mul]; exact h.2.1) (by rw [abs_mul]; exact h.2.2))

end Go.Proofs.Ytkjgpidiompmlaa
