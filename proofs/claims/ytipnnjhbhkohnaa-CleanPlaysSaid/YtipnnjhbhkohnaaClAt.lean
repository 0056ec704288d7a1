/- A life in memory. -/
import Derived.Test.YtipnnjhbhkohnaaClMath
import Derived.Test.YtipnnjhbhkohnaaOwn
namespace Go.Proofs.Ytipnnjhbhkohnaa
open Go.RowKit
set_option linter.unusedVariables false
set_option linter.unusedSimpArgs false

/-- Six numbers in a box. -/
def six (b a c r k s : Int) : Array Value := #[.int .i64 b, .int .i64 a, .int .i64 c, .int .i64 r, .int .i64 k, .int .i64 s]
/-- Block p is a life x. -/
def LfAt (T : TypeId) (o : Nat → Nat) (σ : Nat) (w : World) (p : Nat) (x : Lf) : Prop := Blk o σ w p (six x.b x.a x.c x.ran x.cl x.st) T
section
variable {T : TypeId} {o o' : Nat → Nat} {σ τ : Nat} {w w' : World} {p : Nat} {x : Lf}
theorem LfAt.below (h : LfAt T o σ w p x) (hb : Below w.heap.size w w') : LfAt T o σ w' p x := Blk.below h hb
theorem LfAt.step (h : LfAt T o σ w p x) (st : Step o o' τ w w') (hne : σ ≠ τ) : LfAt T o' σ w' p x := Blk.step h st hne
theorem LfAt.alloc (h : LfAt T o σ w p x) (y : Obj) (τ' : Nat) : LfAt T (tag o w.heap.size τ') σ (w.alloc y) p x := Blk.alloc h y τ'
theorem LfAt.drewN (h : LfAt T o σ w p x) (n : Nat) : LfAt T o σ (w.drewN n) p x := Blk.drewN h n
variable {B A C R K S : Int}
theorem six_cells (h : Blk o σ w p (six B A C R K S) T) : w.cell? ⟨p, 0, none⟩ = some (.int .i64 B) ∧ w.cell? ⟨p, 1, none⟩ = some (.int .i64 A) ∧ w.cell? ⟨p, 2, none⟩ = some (.int .i64 C) ∧ w.cell? ⟨p, 3, none⟩ = some (.int .i64 R) ∧ w.cell? ⟨p, 4, none⟩ = some (.int .i64 K) ∧ w.cell? ⟨p, 5, none⟩ = some (.int .i64 S) :=
  ⟨by rw [h.cell]; rfl, by rw [h.cell]; rfl, by rw [h.cell]; rfl, by rw [h.cell]; rfl, by rw [h.cell]; rfl, by rw [h.cell]; rfl⟩
theorem six_set3 (h : Blk o σ w p (six B A C R K S) T) (v : Int) : Blk o σ (w.setCell ⟨p, 3, none⟩ (.int .i64 v)) p (six B A C v K S) T := h.set 3 (.int .i64 v)
theorem six_set4 (h : Blk o σ w p (six B A C R K S) T) (v : Int) : Blk o σ (w.setCell ⟨p, 4, none⟩ (.int .i64 v)) p (six B A C R v S) T := h.set 4 (.int .i64 v)
theorem six_set5 (h : Blk o σ w p (six B A C R K S) T) (v : Int) : Blk o σ (w.setCell ⟨p, 5, none⟩ (.int .i64 v)) p (six B A C R K v) T := h.set 5 (.int .i64 v)
end
end Go.Proofs.Ytipnnjhbhkohnaa
