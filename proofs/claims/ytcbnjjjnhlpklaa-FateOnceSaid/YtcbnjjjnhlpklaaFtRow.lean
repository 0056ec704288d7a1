/- A book of fates in memory: the program's, and the document's own. -/
import Derived.Test.YtcbnjjjnhlpklaaFtMath
import Derived.Test.YtcbnjjjnhlpklaaDlMath
import Derived.Laws.MakeOwn
import Derived.Laws.OwnMore
import Derived.Laws.StructEq
namespace Go.Proofs.Ytcbnjjjnhlpklaa
open Go.RowKit
set_option linter.unusedVariables false
set_option linter.unusedSimpArgs false

theorem made_cells (n : Nat) : (madeCells #[Value.int .i64 0, .int .i64 0] (n * 2)).toList = cellsT (List.replicate n (0, 0)) := by
  have h1 : ∀ m, (madeCells #[Value.int .i64 0, .int .i64 0] m).toList = List.replicate m (.int .i64 0) := fun m => by
    apply List.ext_getElem
    · simp [size_madeCells]
    · intro i hi hj
      simp only [madeCells, Array.getElem_toList, Array.getElem_map, Array.getElem_range, List.getElem_replicate]
      have : i % 2 = 0 ∨ i % 2 = 1 := by omega
      rcases this with e | e <;> simp [e]
  rw [h1]
  induction n with
  | zero => rfl
  | succ n ih => rw [show (n + 1) * 2 = n * 2 + 1 + 1 by omega, List.replicate_succ, List.replicate_succ, List.replicate_succ, cellsT_cons, ← ih]
theorem Try.infoFate : (Try.prog.info? 29).map (fun i => (i.zero, i.size, i.bytes)) = some (some (.agg #[.int .i64 0, .int .i64 0]), 2, 16) := by kernel_rfl
theorem make_fates (n : Nat) (hn : n ≤ 1000) : ∀ w' : World, (Instr.makeSlice 33 (.int .i64 (n : Int)) (.int .i64 (n : Int))).run Try.prog w' = .ok (.slice (some ⟨w'.heap.size, 0, none⟩) n n) (w'.alloc (.cells (cellsT (List.replicate n (0, 0))).toArray 29)) := by
  obtain ⟨i0, hi0, hz0, hz1, hz2⟩ := info_parts Try.infoFate
  intro w'
  have h := run_make (P := Try.prog) w' 33 29 i0 _ Try.underlying33 hi0 hz0 .i64 .i64 n n (by omega) (by omega) (by rw [hz2]; omega) (by omega)
  rw [hz1] at h
  simp only [Int.toNat_natCast] at h
  rw [show (Value.agg #[Value.int .i64 0, .int .i64 0]).cells = #[Value.int .i64 0, .int .i64 0] from rfl] at h
  rw [← made_cells, Array.toArray_toList]
  exact h
theorem fate_neq (w : World) (a b c d : Int) : (binOp .neq 29 (.agg #[.int .i64 a, .int .i64 b]) (.agg #[.int .i64 c, .int .i64 d])).run Try.prog w = .ok (.bool (!(a == c && b == d))) w := by
  cases h1 : a == c <;> cases h2 : b == d <;> go_simp
theorem fate_eql (w : World) (a b c d : Int) : (binOp .eql 29 (.agg #[.int .i64 a, .int .i64 b]) (.agg #[.int .i64 c, .int .i64 d])).run Try.prog w = .ok (.bool (a == c && b == d)) w := by
  cases h1 : a == c <;> cases h2 : b == d <;> go_simp
/-- The cells at A hold these fates. -/
def RdF (w : World) (A : Option Addr) (l : List Ft) : Prop :=
  ∀ (i : Nat) (x : Ft), l[i]? = some x → ∃ g, A = some ⟨g, 0, none⟩ ∧ g < w.heap.size ∧ w.cell? ⟨g, i * 2, none⟩ = some (.int .i64 x.1) ∧ w.cell? ⟨g, i * 2 + 1, none⟩ = some (.int .i64 x.2)
theorem RdF.below {w w' : World} {A : Option Addr} {l : List Ft} (h : RdF w A l) (hb : Below w.heap.size w w') : RdF w' A l := by
  intro i x hx
  obtain ⟨g, rfl, hg, h0, h1⟩ := h i x hx
  exact ⟨g, rfl, Nat.lt_of_lt_of_le hg hb.size, by rw [hb.cell (p := ⟨g, i * 2, none⟩) hg]; exact h0, by rw [hb.cell (p := ⟨g, i * 2 + 1, none⟩) hg]; exact h1⟩
theorem Row.capsF {o : Nat → Nat} {σ : Nat} {w : World} {e : TypeId} {size n cap : Nat} {A : Option Addr} {xs : List Value} (h : Row o σ w e size (.slice A n cap) n xs) : n ≤ cap ∧ cap ≤ 9223372036854775807 := by
  rcases h.own.2 with ⟨hv, h0⟩ | ⟨g, cap', cur, hv, _, _, h1, h2, _⟩
  · injection hv with h1 h2 h3; omega
  · injection hv with h4 h5 h6; unfold maxLen at h2; omega
section
variable {o o' : Nat → Nat} {σ τ : Nat} {w w' : World} {e : TypeId} {A : Option Addr} {cap a : Nat} {l : List Ft} {v : Value}
theorem Row.rdF (h : Row o σ w e 2 (.slice A l.length cap) l.length (cellsT l)) : RdF w A l := by
  intro i x hx
  have hi := (List.getElem?_eq_some_iff.1 hx).1
  obtain ⟨g, c, hv, _, _, _, hg⟩ := h.form (by omega)
  cases hv
  have q := cellsT_get l i x hx
  exact ⟨g, rfl, hg, by rw [h.cellAt _ (by omega)]; exact q.1, by rw [h.cellAt _ (by omega)]; exact q.2⟩
/-- Block a is a book that holds these fates. -/
structure Bk (T : TypeId) (o : Nat → Nat) (σ : Nat) (w : World) (a : Nat) (v : Value) (l : List Ft) : Prop where
  box : Blk o σ w a #[v] T
  row : Row o σ w 29 2 v l.length (cellsT l)
variable {T : TypeId}
theorem Bk.alloc (h : Bk T o σ w a v l) (x : Obj) (τ' : Nat) : Bk T (tag o w.heap.size τ') σ (w.alloc x) a v l := ⟨h.box.alloc x τ', h.row.alloc x τ'⟩
theorem Bk.drewN (h : Bk T o σ w a v l) (n : Nat) : Bk T o σ (w.drewN n) a v l := ⟨⟨h.box.at_, h.box.mine⟩, ⟨h.row.own, h.row.mine⟩⟩
theorem Bk.below (h : Bk T o σ w a v l) (hb : Below w.heap.size w w') : Bk T o σ w' a v l := ⟨h.box.below hb, h.row.below hb⟩
theorem Bk.step (h : Bk T o σ w a v l) (st : Step o o' τ w w') (hne : σ ≠ τ) : Bk T o' σ w' a v l := ⟨h.box.step st hne, h.row.step st hne⟩
theorem Bk.cell0 (h : Bk T o σ w a v l) : w.cell? ⟨a, 0, none⟩ = some v := by rw [h.box.cell]; simp
end
end Go.Proofs.Ytcbnjjjnhlpklaa
