/- Blocks of numbers, of answers, side by side. -/
import Derived.Test.YtacffjkhbajgkaaDoorOwn
import Derived.Test.YtacffjkhbajgkaaDoorReads
import Derived.Deep.OwnRows
import Derived.Laws.CopyRow
import Derived.Laws.IdiomCopy
namespace Go.Proofs.YtacffjkhbajgkaaDoor
open Go.RowKit Go.Lib
set_option linter.unusedVariables false
set_option linter.unusedSimpArgs false

/-- Block B holds n numbers f. -/
structure CelZ (B n : Nat) (f : Nat → Int) (w : World) : Prop where
  lt : B < w.heap.size
  cell : ∀ k, k < n → w.cell? ⟨B, k, none⟩ = some (.int .i64 (f k))
  frz : ∀ k, k < n → w.frozen? ⟨B, k, none⟩ = false
section
variable {B n : Nat} {f g : Nat → Int} {w w' : World}
theorem CelZ.on (h : CelZ B n f w) (hb : Below w.heap.size w w') : CelZ B n f w' :=
  ⟨Nat.lt_of_lt_of_le h.lt hb.size, fun k hk => by rw [hb.cell (p := ⟨B, k, none⟩) h.lt]; exact h.cell k hk, fun k hk => by rw [hb.frozen (p := ⟨B, k, none⟩) h.lt]; exact h.frz k hk⟩
theorem CelZ.to (h : CelZ B n f w) (e : ∀ k, k < n → f k = g k) : CelZ B n g w := ⟨h.lt, fun k hk => by rw [← e k hk]; exact h.cell k hk, h.frz⟩
theorem CelZ.store (h : CelZ B n f w) {k : Nat} (hk : k < n) (v : Int) : CelZ B n (fun q => if q = k then v else f q) (w.setCell ⟨B, k, none⟩ (.int .i64 v)) := by
  refine ⟨by simpa [World.setCell] using h.lt, fun q hq => ?_, fun q hq => ?_⟩
  · by_cases c : q = k
    · subst c; rw [if_pos rfl]; exact World.cell?_setCell_same _ _ _ (h.cell q hq)
    · rw [if_neg c, World.cell?_setCell_other _ _ _ _ (by intro e'; simp only [Addr.mk.injEq] at e'; omega)]; exact h.cell q hq
  · rw [World.frozen?_setCell]; exact h.frz q hq
theorem CelZ.other (h : CelZ B n f w) {C k : Nat} (hc : B ≠ C) (v : Value) : CelZ B n f (w.setCell ⟨C, k, none⟩ v) := by
  refine ⟨by simpa [World.setCell] using h.lt, fun q hq => ?_, fun q hq => ?_⟩
  · rw [World.cell?_setCell_other _ _ _ _ (by intro e'; simp only [Addr.mk.injEq] at e'; omega)]; exact h.cell q hq
  · rw [World.frozen?_setCell]; exact h.frz q hq
theorem CelZ.fresh (w0 : World) (e : TypeId) (n : Nat) : CelZ w0.heap.size n (fun _ => 0) (w0.alloc (.cells (madeCells #[.int .i64 0] n) e)) := by
  refine ⟨by simp, fun k hk => ?_, fun k hk => ?_⟩
  · have e1 : (madeCells #[Value.int .i64 0] n)[k]? = some (.int .i64 0) := by
      unfold madeCells
      simp [hk, Nat.mod_one]
    simp [e1]
  · unfold World.frozen?
    rw [heap_alloc_new]
    simp
theorem CelZ.reads (h : CelZ B n f w) {t : List Int} (ht : t.length = n) (e : ∀ k, k < n → f k = t.getD k 0) : ReadsI w (some ⟨B, 0, none⟩) t := fun k hk => ⟨B, 0, rfl, by rw [Nat.zero_add, h.cell k (by omega), e k (by omega)]⟩
end
/-- Block B holds n answers f. -/
structure CelF (B n : Nat) (f : Nat → Bool) (w : World) : Prop where
  lt : B < w.heap.size
  cell : ∀ k, k < n → w.cell? ⟨B, k, none⟩ = some (.bool (f k))
  frz : ∀ k, k < n → w.frozen? ⟨B, k, none⟩ = false
section
variable {B n : Nat} {f g : Nat → Bool} {w w' : World}
theorem CelF.on (h : CelF B n f w) (hb : Below w.heap.size w w') : CelF B n f w' :=
  ⟨Nat.lt_of_lt_of_le h.lt hb.size, fun k hk => by rw [hb.cell (p := ⟨B, k, none⟩) h.lt]; exact h.cell k hk, fun k hk => by rw [hb.frozen (p := ⟨B, k, none⟩) h.lt]; exact h.frz k hk⟩
theorem CelF.to (h : CelF B n f w) (e : ∀ k, k < n → f k = g k) : CelF B n g w := ⟨h.lt, fun k hk => by rw [← e k hk]; exact h.cell k hk, h.frz⟩
theorem CelF.store (h : CelF B n f w) {k : Nat} (hk : k < n) (v : Bool) : CelF B n (fun q => if q = k then v else f q) (w.setCell ⟨B, k, none⟩ (.bool v)) := by
  refine ⟨by simpa [World.setCell] using h.lt, fun q hq => ?_, fun q hq => ?_⟩
  · by_cases c : q = k
    · subst c; rw [if_pos rfl]; exact World.cell?_setCell_same _ _ _ (h.cell q hq)
    · rw [if_neg c, World.cell?_setCell_other _ _ _ _ (by intro e'; simp only [Addr.mk.injEq] at e'; omega)]; exact h.cell q hq
  · rw [World.frozen?_setCell]; exact h.frz q hq
theorem CelF.other (h : CelF B n f w) {C k : Nat} (hc : B ≠ C) (v : Value) : CelF B n f (w.setCell ⟨C, k, none⟩ v) := by
  refine ⟨by simpa [World.setCell] using h.lt, fun q hq => ?_, fun q hq => ?_⟩
  · rw [World.cell?_setCell_other _ _ _ _ (by intro e'; simp only [Addr.mk.injEq] at e'; omega)]; exact h.cell q hq
  · rw [World.frozen?_setCell]; exact h.frz q hq
theorem CelF.fresh (w0 : World) (e : TypeId) (n : Nat) : CelF w0.heap.size n (fun _ => false) (w0.alloc (.cells (madeCells #[.bool false] n) e)) := by
  refine ⟨by simp, fun k hk => ?_, fun k hk => ?_⟩
  · have e1 : (madeCells #[Value.bool false] n)[k]? = some (.bool false) := by
      unfold madeCells
      simp [hk, Nat.mod_one]
    simp [e1]
  · unfold World.frozen?
    rw [heap_alloc_new]
    simp
end
/-- Answers as cells, one by one. -/
def cellsB (f : Nat → Bool) (n : Nat) : List Value := (List.range n).map fun k => .bool (f k)
theorem cellsB_len (f : Nat → Bool) (n : Nat) : (cellsB f n).length = n := by simp [cellsB]
theorem cellsB_get {f : Nat → Bool} {n k : Nat} (h : k < n) : (cellsB f n)[k]? = some (.bool (f k)) := by simp [cellsB, h]
theorem cellsB_ones (f : Nat → Bool) (n : Nat) : ∀ u ∈ cellsB f n, u.oneCell' = true := by
  intro u hu
  obtain ⟨k, _, rfl⟩ := List.mem_map.1 hu
  rfl
theorem CelF.src {B n : Nat} {f : Nat → Bool} {w : World} (h : CelF B n f w) : ∀ j u, (cellsB f n)[j]? = some u → w.cell? ⟨B, 0 + j, none⟩ = some u := by
  intro j u hu
  have hj := (List.getElem?_eq_some_iff.1 hu).1
  rw [cellsB_len] at hj
  rw [cellsB_get hj] at hu
  injection hu with hu
  rw [Nat.zero_add, h.cell j hj, hu]
/-- A row of answers that a call owns, behind an append. -/
theorem CelF.of_own {w : World} {base n m : Nat} {e : TypeId} {v : Value} {f : Nat → Bool} (h : w.ownsRow base e 1 v m (cellsB f n)) (h0 : 0 < n) :
    ∃ g c, v = .slice (some ⟨g, 0, none⟩) n c ∧ base ≤ g ∧ n ≤ c ∧ c ≤ 9223372036854775807 ∧ CelF g n f w := by
  have hn : m = n := by have := h.1; rw [cellsB_len] at this; omega
  subst hn
  rcases h.2 with ⟨rfl, h1⟩ | ⟨g, cap, cur, rfl, hb, hh, h1, h2, h3, h4⟩
  · omega
  · refine ⟨g, cap, rfl, hb, h1, by unfold maxLen at h2; omega, (Array.getElem?_eq_some_iff.1 hh).1, fun j hj => ?_, fun i hi => by simp [World.frozen?, hh]⟩
    rw [h.cellAt _ (by omega)]
    exact cellsB_get hj
/-- How many in the block that a slice names are false. -/
def noB (v : Option Value) : Bool := match v with | some (.bool false) => true | _ => false
def freeW (v : Value) (w : World) : Nat := match v with
  | .slice (some ad) n _ => ((List.range n).filter fun k => noB (w.cell? ⟨ad.block, k, none⟩)).length
  | _ => 0
theorem CelF.freeW {B n c : Nat} {f : Nat → Bool} {w : World} (h : CelF B n f w) : freeW (.slice (some ⟨B, 0, none⟩) n c) w = ((List.range n).filter fun k => !f k).length := by
  show ((List.range n).filter fun k => noB (w.cell? ⟨B, k, none⟩)).length = _
  congr 1
  refine List.filter_congr fun k hk => ?_
  rw [h.cell k (List.mem_range.1 hk)]
  cases f k <;> rfl
end Go.Proofs.YtacffjkhbajgkaaDoor
