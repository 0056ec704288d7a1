/- The forms in which my contracts speak: what is returned, and what became of the world. -/
import Derived.Test.YtnccokpnkehjhaaChecked
import Derived.Test.YtnccokpnkehjhaaNumMath
import Derived.WalkKit
import Derived.Outline
import Derived.IntWalk
import Derived.BigQuiet
import Derived.LoopTactic
import Derived.RowKit3
import Derived.Deep.QuietTactic
import Derived.Deep.Draws
import Derived.Lib.Hide
namespace Go.Proofs.Ytnccokpnkehjhaa
open Go.RowKit
set_option linter.unusedVariables false

/-- It returns v, and the world has at most drawn. -/
def Ret (v : Value) (w : World) (e : Ending) (w' : World) : Prop := e = .returned v ∧ ∃ n, w' = w.drewN n
theorem ret_val {v v' : Value} {w : World} {e : Ending} {w' : World} (h : Ret v w e w') (hv : v = v') : Ret v' w e w' := hv ▸ h

theorem ret_two {k1 k2 : IntKind} {a a' b b' : Int} (h1 : a = a') (h2 : b = b') : Ending.returned (.tuple #[.int k1 a, .int k2 b]) = .returned (.tuple #[.int k1 a', .int k2 b']) := by rw [h1, h2]
theorem ret_ib {k1 : IntKind} {a a' : Int} {b b' : Bool} (h1 : a = a') (h2 : b = b') : Ending.returned (.tuple #[.int k1 a, .bool b]) = .returned (.tuple #[.int k1 a', .bool b']) := by rw [h1, h2]
theorem ret_i {k1 : IntKind} {a a' : Int} (h1 : a = a') : Ending.returned (.int k1 a) = .returned (.int k1 a') := by rw [h1]
theorem ret_b {a a' : Bool} (h1 : a = a') : Ending.returned (.bool a) = .returned (.bool a') := by rw [h1]


theorem Grown.drewN {W w' : World} (h : Grown W w') (n : Nat) : Grown W (w'.drewN n) := h
/-- It returns v, and the world has at most grown. -/
def RetG (v : Value) (w : World) (e : Ending) (w' : World) : Prop := e = .returned v ∧ Grown w w'
theorem Ret.grown {v : Value} {w : World} {e : Ending} {w' : World} (h : Ret v w e w') : e = .returned v ∧ Grown w w' := by
  obtain ⟨he, n, rfl⟩ := h
  exact ⟨he, Grown.refl w⟩
theorem RetG.grown {v : Value} {w : World} {e : Ending} {w' : World} (h : RetG v w e w') : e = .returned v ∧ Grown w w' := h

theorem wf_fit {a : Int} (h : (Lit.int .i64 a).wf = true) : fitB a = true := by
  have h2 : IntKind.i64.min ≤ a ∧ a ≤ 9223372036854775807 := by simpa [Lit.wf] using h
  exact fitB_true ⟨h2.1, h2.2⟩
theorem fit_iff {a : Int} (h : fitB a = true) : -9223372036854775808 ≤ a ∧ a ≤ 9223372036854775807 := fitB_iff.1 h
end Go.Proofs.Ytnccokpnkehjhaa
