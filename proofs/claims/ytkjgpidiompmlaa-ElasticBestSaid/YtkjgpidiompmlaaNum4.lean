/- The contracts of package num's functions, the fourth part: Gcd; and the example at the head of each law of layer 1. -/
import Derived.Test.YtkjgpidiompmlaaNum3
import Derived.LoopTactic
namespace Go.Proofs.Ytkjgpidiompmlaa
open Go.RowKit
set_option linter.unusedVariables false
set_option linter.unusedSimpArgs false

/-- What Gcd's loop keeps. -/
def GRel (g : Nat) (x y : Int) : Prop := Nat.gcd x.natAbs y.natAbs = g
theorem GRel.step {g : Nat} {x y : Int} (h : GRel g x y) (hy : y ≠ 0) : GRel g y (x.tmod y) := by
  unfold GRel at *
  rw [Int.natAbs_tmod, Nat.gcd_comm, ← Nat.gcd_rec, Nat.gcd_comm]; exact h
theorem tmod_in {x y : Int} (hy : y ≠ 0) : (x.tmod y).natAbs < y.natAbs := by
  rw [Int.natAbs_tmod]; exact Nat.mod_lt _ (by omega)

theorem add_named (a b v : Int) (o : Bool) (w : World) (ha : fitB a = true) (hb : fitB b = true) (hv : cutZ (a + b) = v) (ho : fitB (a + b) = o) :
    Calls Try.prog 39 #[.int .i64 a, .int .i64 b] w (Ret (.tuple #[.int .i64 v, .bool o]) w) := by subst hv ho; exact add_any a b w ha hb
theorem sub_named (a b v : Int) (o : Bool) (w : World) (ha : fitB a = true) (hb : fitB b = true) (hv : cutZ (a - b) = v) (ho : fitB (a - b) = o) :
    Calls Try.prog 34 #[.int .i64 a, .int .i64 b] w (Ret (.tuple #[.int .i64 v, .bool o]) w) := by subst hv ho; exact sub_any a b w ha hb
end Go.Proofs.Ytkjgpidiompmlaa
