/- The contract of package trace: Cut. -/
import Derived.Test.YtcohodpaagpfgaaDoorTr3
namespace Go.Proofs.YtcohodpaagpfgaaDoor
open Go.RowKit Go.Lib
set_option linter.unusedVariables false
set_option linter.unusedSimpArgs false

theorem cell_row {w : World} {g : Nat} {cur : Array Value} {t : TypeId} (h : w.heap[g]? = some (.cells cur t (0, 0))) (i : Nat) : w.cell? ⟨g, i, none⟩ = cur[i]? := by simp [World.cell?, h]
theorem one_ints (l : List Int) : ∀ v ∈ l.map (Value.int .i64), v.oneCell' = true := by
  intro v hv
  obtain ⟨x, _, rfl⟩ := List.mem_map.1 hv
  rfl
/-- The copy that Cut makes: of q ticks, out of m. -/
theorem cut_copy (T : Option Addr) (tc : Nat) (t : List Int) (q m : Nat) (w : World) (hm : t.length = m) (hqm : q ≤ m) (hT : RdT w T t) :
    ∃ W, (∀ ty, (Builtin.copy_ #[29, 29] ty #[.slice (some ⟨w.heap.size, 0, none⟩) q q, .slice T m tc]).run Tryd.prog (w.alloc (.cells (madeCells #[.int .i64 0] q) 3)) = .ok (goInt (q : Int)) W) ∧ RdT W (some ⟨w.heap.size, 0, none⟩) (t.take q) ∧ Below w.heap.size w W := by
  have hA := Arr.fresh w 3 q
  by_cases hq : q = 0
  · subst hq
    refine ⟨w.alloc (.cells (madeCells #[.int .i64 0] 0) 3), fun ty => ?_, fun k x hk => by simp at hk, hA.below⟩
    exact run_copy_none _ 29 29 ty 3 (some ⟨w.heap.size, 0, none⟩) T 0 0 m tc Tryd.underlying29 Tryd.sizeI (by simp)
  · obtain ⟨x0, hx0⟩ : ∃ x, t[0]? = some x := ⟨_, List.getElem?_eq_getElem (by omega)⟩
    obtain ⟨b, off, rfl, c0⟩ := hT 0 x0 hx0
    have hlen : ((t.take q).map (Value.int .i64)).length = q := by rw [List.length_map, List.length_take]; omega
    have hg : (w.alloc (.cells (madeCells #[.int .i64 0] q) 3)).heap[w.heap.size]? = some (.cells (madeCells #[.int .i64 0] q) 3 (0, 0)) := heap_alloc_new w _
    have hsz : (madeCells #[Value.int .i64 0] q).size = q := by rw [size_madeCells]
    refine ⟨(w.alloc (.cells (madeCells #[.int .i64 0] q) 3)).setRow w.heap.size ((madeCells #[.int .i64 0] q).toList.take 0 ++ (t.take q).map (Value.int .i64) ++ (madeCells #[.int .i64 0] q).toList.drop (0 + q)).toArray, fun ty => ?_, ?_, ?_⟩
    · have := run_copy_row (P := Tryd.prog) (w.alloc (.cells (madeCells #[.int .i64 0] q) 3)) 29 29 ty 3 w.heap.size 0 q q ⟨b, off, none⟩ m tc (madeCells #[.int .i64 0] q) 3 ((t.take q).map (Value.int .i64)) Tryd.underlying29 Tryd.sizeI hg (by rw [hlen]; simp only [Nat.min_def]; split <;> omega)
        (fun j v hj => by
          rw [List.getElem?_map, List.getElem?_take] at hj
          split at hj
          · rename_i hjq
            obtain ⟨x, hx, rfl⟩ := Option.map_eq_some_iff.1 hj
            obtain ⟨b', off', he, hc⟩ := hT j x hx
            simp only [Option.some.injEq, Addr.mk.injEq, and_true] at he
            obtain ⟨rfl, rfl⟩ := he
            rw [addr_add_plain, Below.cell ((Below.refl w.heap.size w).alloc (Nat.le_refl _) _) (p := ⟨b, off + j, none⟩) (cell_lt hc)]
            exact hc
          · simp at hj) (by rw [hlen, hsz]; omega) (one_ints _)
      rw [hlen] at this
      exact this
    · intro k x hk
      refine ⟨w.heap.size, 0, rfl, ?_⟩
      have hkq : k < q := by have := (List.getElem?_eq_some_iff.1 hk).1; rw [List.length_take] at this; omega
      rw [Nat.zero_add, cell_row (setRow_heap _ _ _ _ _ _ hg)]
      simp only [List.getElem?_toArray, Nat.zero_add, List.take_zero, List.nil_append]
      rw [List.getElem?_append_left (by rw [hlen]; exact hkq), List.getElem?_map, hk]
      rfl
    · exact ⟨hA.below.os, hA.below.tape, hA.below.output, by have := hA.below.size; simp at this ⊢, fun i hi => by rw [setRow_other _ _ _ _ (by omega)]; exact hA.below.block i hi⟩
end Go.Proofs.YtcohodpaagpfgaaDoor
