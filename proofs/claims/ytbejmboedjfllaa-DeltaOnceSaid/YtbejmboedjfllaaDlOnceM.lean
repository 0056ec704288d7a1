/- What rings when, of alarms that were set at time 0; how often each has rung. -/
import Derived.Test.YtbejmboedjfllaaDlStops
namespace Go.Proofs.Ytbejmboedjfllaa
open Go.RowKit
set_option linter.unusedVariables false
set_option linter.unusedSimpArgs false

/-- What is left at time s. -/
def lateT (zs : List Int) (n s : Nat) : List Tm := (tmsTo zs n).filter (fun x => decide ((s : Int) < x.2))
theorem late_start {zs : List Int} {n : Nat} (h : ∀ j, j < n → 1 ≤ zs.getD j 0) : lateT zs n 0 = tmsTo zs n := by
  refine List.filter_eq_self.2 fun z hz => ?_
  obtain ⟨j, hj, rfl⟩ := tmsTo_mem.1 hz
  have := h j hj
  simp only [decide_eq_true_eq]; omega
theorem late_tick (zs : List Int) (n s : Nat) : tickL s (lateT zs n s) = lateT zs n (s + 1) := by
  unfold tickL lateT
  rw [List.filter_filter]
  congr 1
  funext x
  rw [Bool.eq_iff_iff]
  simp [isAt]
  omega
theorem late_end {zs : List Int} {n s : Nat} (h : ∀ j, j < n → zs.getD j 0 ≤ s) : lateT zs n s = [] := by
  refine List.filter_eq_nil_iff.2 fun z hz => ?_
  obtain ⟨j, hj, rfl⟩ := tmsTo_mem.1 hz
  have := h j hj
  simp only [decide_eq_true_eq]; omega
/-- Those that ring at time s + 1. -/
def ringJ (zs : List Int) (n s : Nat) : List Nat := (List.range n).filter (fun j => decide (zs.getD j 0 = (s : Int) + 1))
theorem ring_tick (zs : List Int) (n s : Nat) : tickR s (lateT zs n s) = (ringJ zs n s).map (fun (j : Nat) => (j : Int)) := by
  unfold tickR lateT tmsTo ringJ
  rw [List.filter_filter, List.filter_map, List.map_map]
  have : ((fun x : Tm => isAt ((s : Int) + 1) x && decide ((s : Int) < x.2)) ∘ fun (j : Nat) => ((j : Int), zs.getD j 0)) = fun j => decide (zs.getD j 0 = (s : Int) + 1) := by
    funext j
    rw [Bool.eq_iff_iff]
    simp [isAt]
    omega
  rw [this]
  rfl
theorem ring_mem {zs : List Int} {n s j : Nat} : j ∈ ringJ zs n s ↔ j < n ∧ zs.getD j 0 = (s : Int) + 1 := by
  unfold ringJ
  rw [List.mem_filter, List.mem_range]
  simp
theorem ring_len (zs : List Int) (n s : Nat) : (ringJ zs n s).length ≤ n := by
  have := List.length_filter_le (fun j => decide (zs.getD j 0 = (s : Int) + 1)) (List.range n)
  simpa [ringJ] using this
theorem ring_sorted (zs : List Int) (n s : Nat) : (ringJ zs n s).Pairwise (· < ·) := List.pairwise_lt_range.sublist List.filter_sublist
theorem ring_lt {zs : List Int} {n s k i j : Nat} (hi : (ringJ zs n s)[k]? = some i) (hj : (ringJ zs n s)[k + 1]? = some j) : i < j := by
  obtain ⟨hi1, rfl⟩ := List.getElem?_eq_some_iff.1 hi
  obtain ⟨hj1, rfl⟩ := List.getElem?_eq_some_iff.1 hj
  exact List.pairwise_iff_getElem.1 (ring_sorted zs n s) k (k + 1) hi1 hj1 (by omega)
theorem ring_new {zs : List Int} {n s k j : Nat} (hj : (ringJ zs n s)[k]? = some j) : j ∉ (ringJ zs n s).take k := by
  intro hm
  obtain ⟨hj1, rfl⟩ := List.getElem?_eq_some_iff.1 hj
  obtain ⟨i, hi, he⟩ := List.mem_iff_getElem.1 hm
  rw [List.length_take] at hi
  rw [List.getElem_take] at he
  have := List.pairwise_iff_getElem.1 (ring_sorted zs n s) i k (by omega) hj1 (by omega)
  omega
/-- How often each has rung: those of times up to s, and the first k of time s + 1. -/
def rungL (zs : List Int) (n s k : Nat) : List Int := (List.range n).map fun j => (if zs.getD j 0 ≤ (s : Int) then 1 else 0) + (if j ∈ (ringJ zs n s).take k then 1 else 0)
theorem rung_len (zs : List Int) (n s k : Nat) : (rungL zs n s k).length = n := by simp [rungL]
theorem rung_get {zs : List Int} {n s k j : Nat} (hj : j < n) : (rungL zs n s k)[j]? = some ((if zs.getD j 0 ≤ (s : Int) then 1 else 0) + (if j ∈ (ringJ zs n s).take k then 1 else 0)) := by
  unfold rungL
  rw [List.getElem?_map, List.getElem?_range hj]
  rfl
theorem rung_start {zs : List Int} {n : Nat} (h : ∀ j, j < n → 1 ≤ zs.getD j 0) : rungL zs n 0 0 = List.replicate n 0 := by
  refine List.ext_getElem? fun j => ?_
  rcases Nat.lt_or_ge j n with hj | hj
  · have := h j hj
    rw [rung_get hj, List.getElem?_replicate, if_pos hj, if_neg (by omega)]
    simp
  · rw [List.getElem?_eq_none (by rw [rung_len]; omega), List.getElem?_eq_none (by simp; omega)]
theorem rung_next {zs : List Int} {n s k j : Nat} (hj : (ringJ zs n s)[k]? = some j) : (rungL zs n s k)[j]? = some 0 ∧ (rungL zs n s k).set j 1 = rungL zs n s (k + 1) := by
  have hm := ring_mem.1 (List.mem_of_getElem? hj)
  have hn := ring_new hj
  have h0 : (rungL zs n s k)[j]? = some 0 := by rw [rung_get hm.1, if_neg (by omega), if_neg hn]; rfl
  refine ⟨h0, List.ext_getElem? fun i => ?_⟩
  rcases Nat.lt_or_ge i n with hi | hi
  · have ht : i ∈ (ringJ zs n s).take (k + 1) ↔ i ∈ (ringJ zs n s).take k ∨ i = j := by
      rw [List.take_add_one, hj]; simp
    by_cases he : j = i
    · subst he
      rw [List.getElem?_set_self (by rw [rung_len]; exact hi), rung_get hi, if_neg (by omega), if_pos (ht.2 (.inr rfl))]
      rfl
    · rw [List.getElem?_set_ne he, rung_get hi, rung_get hi]
      have : (i ∈ (ringJ zs n s).take (k + 1)) = (i ∈ (ringJ zs n s).take k) := propext ⟨fun h => (ht.1 h).resolve_right (fun e => he e.symm), fun h => ht.2 (.inl h)⟩
      simp only [this]
  · rw [List.getElem?_eq_none (by rw [List.length_set, rung_len]; omega), List.getElem?_eq_none (by rw [rung_len]; omega)]
theorem rung_full (zs : List Int) (n s : Nat) : rungL zs n s (ringJ zs n s).length = rungL zs n (s + 1) 0 := by
  refine List.ext_getElem? fun j => ?_
  rcases Nat.lt_or_ge j n with hj | hj
  · rw [rung_get hj, rung_get hj, List.take_length, List.take_zero]
    have h1 : (j ∈ ringJ zs n s) = (zs.getD j 0 = (s : Int) + 1) := propext ⟨fun h => (ring_mem.1 h).2, fun h => ring_mem.2 ⟨hj, h⟩⟩
    simp only [h1, List.not_mem_nil, if_false]
    congr 1
    split <;> split <;> split <;> omega
  · rw [List.getElem?_eq_none (by rw [rung_len]; omega), List.getElem?_eq_none (by rw [rung_len]; omega)]
theorem rung_end {zs : List Int} {n s j : Nat} (h : ∀ j, j < n → zs.getD j 0 ≤ s) (hj : j < n) : (rungL zs n s 0)[j]? = some 1 := by
  rw [rung_get hj, if_pos (h j hj)]; simp
end Go.Proofs.Ytbejmboedjfllaa
