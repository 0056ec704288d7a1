/- The document's own Util, Period, Sum: what they answer, as functions of integers; contracts. -/
import Derived.Test.YtkjgpidiompmlaaUtMath
import Derived.Test.YtkjgpidiompmlaaRef5
import Derived.Test.YtkjgpidiompmlaaReads
import Derived.LoopTactic
namespace Go.Proofs.Ytkjgpidiompmlaa
open Go.RowKit
open Go.Lib hiding intOf
set_option linter.unusedVariables false
set_option linter.unusedSimpArgs false

def utilOk (need per : Int) : Bool := decide (1 ≤ need ∧ need ≤ 1000 ∧ 1 ≤ per ∧ per ≤ 10000)
def utilV (need per : Int) : Int := if utilOk need per then upZ (need * 1048576) per else 0
def periodOk (need share : Int) : Bool := decide (1 ≤ need ∧ need ≤ 1000 ∧ 1 ≤ share ∧ upZ (need * 1048576) share ≤ 10000)
def periodV (need share : Int) : Int := if periodOk need share then upZ (need * 1048576) share else 0
theorem up_need {need c : Int} (h1 : 1 ≤ need) (h2 : need ≤ 1000) (hc : 1 ≤ c) : 1 ≤ upZ (need * 1048576) c ∧ upZ (need * 1048576) c ≤ 1048576000 ∧ upOk (need * 1048576) c = true ∧ upV (need * 1048576) c = upZ (need * 1048576) c := by
  have p1 := up_pos1 (x := need * 1048576) (c := c) (by omega) (by omega)
  have p2 : upZ (need * 1048576) c ≤ 1048576000 := by
    rw [up_le_iff (by omega)]
    have : 1048576000 * 1 ≤ 1048576000 * c := Int.mul_le_mul_of_nonneg_left hc (by omega)
    omega
  have p3 : upOk (need * 1048576) c = true := by
    unfold upOk
    rw [decide_eq_true hc, fitB_true ⟨by omega, by omega⟩]; rfl
  exact ⟨p1, p2, p3, by unfold upV; rw [if_pos p3]⟩
theorem utilOk_no {need per : Int} (h : ¬ (1 ≤ need ∧ need ≤ 1000 ∧ 1 ≤ per ∧ per ≤ 10000)) : utilOk need per = false ∧ utilV need per = 0 := by
  have e : utilOk need per = false := decide_eq_false h
  exact ⟨e, by unfold utilV; rw [e]; rfl⟩
theorem utilOk_yes {need per : Int} (h : 1 ≤ need ∧ need ≤ 1000 ∧ 1 ≤ per ∧ per ≤ 10000) : utilOk need per = true ∧ utilV need per = upZ (need * 1048576) per := by
  have e : utilOk need per = true := decide_eq_true h
  exact ⟨e, by unfold utilV; rw [e]; rfl⟩
theorem periodOk_no {need share : Int} (h : ¬ (1 ≤ need ∧ need ≤ 1000 ∧ 1 ≤ share ∧ upZ (need * 1048576) share ≤ 10000)) : periodOk need share = false ∧ periodV need share = 0 := by
  have e : periodOk need share = false := decide_eq_false h
  exact ⟨e, by unfold periodV; rw [e]; rfl⟩
theorem periodOk_yes {need share : Int} (h : 1 ≤ need ∧ need ≤ 1000 ∧ 1 ≤ share ∧ upZ (need * 1048576) share ≤ 10000) : periodOk need share = true ∧ periodV need share = upZ (need * 1048576) share := by
  have e : periodOk need share = true := decide_eq_true h
  exact ⟨e, by unfold periodV; rw [e]; rfl⟩
/-! ## Sums -/
def nnB (l : List Int) : Bool := l.all fun x => decide (0 ≤ x)
def totOk (l : List Int) : Bool := nnB l && fitB l.sum
def totV (l : List Int) : Int := if totOk l then l.sum else 0
theorem nn_iff {l : List Int} : nnB l = true ↔ ∀ x ∈ l, 0 ≤ x := by unfold nnB; rw [List.all_eq_true]; simp only [decide_eq_true_eq]
theorem sum_nn : ∀ {l : List Int}, (∀ x ∈ l, 0 ≤ x) → 0 ≤ l.sum
  | [], _ => by simp
  | x :: l, h => by
    have h1 := h x (by simp)
    have h2 := sum_nn (l := l) (fun y hy => h y (by simp [hy]))
    rw [List.sum_cons]; omega
theorem sum_take_le {l : List Int} (h : ∀ x ∈ l, 0 ≤ x) (k : Nat) : (l.take k).sum ≤ l.sum := by
  have e : l.sum = (l.take k).sum + (l.drop k).sum := by rw [← List.sum_append, List.take_append_drop]
  have := sum_nn (l := l.drop k) (fun x hx => h x (List.mem_of_mem_drop hx))
  omega
theorem sum_next {l : List Int} {i : Nat} (h : i < l.length) : (l.take (i + 1)).sum = (l.take i).sum + l.getD i 0 := by
  rw [List.take_add_one, List.getElem?_eq_getElem h, List.sum_append]
  simp [List.getD, List.getElem?_eq_getElem h]
/-- It stops at place i. -/
theorem tot_no {l : List Int} {i : Nat} (h : i < l.length) (hs : l.getD i 0 < 0 ∨ fitB ((l.take (i + 1)).sum) = false) (hp : 0 ≤ (l.take i).sum) (hfx : fitB (l.getD i 0) = true) : totOk l = false ∧ totV l = 0 := by
  have e : totOk l = false := by
    unfold totOk
    cases hn : nnB l
    · rfl
    · have hnn := nn_iff.1 hn
      rw [Bool.true_and]
      have hx : 0 ≤ l.getD i 0 := by
        rw [List.getD, List.getElem?_eq_getElem h]
        exact hnn _ (List.getElem_mem h)
      rcases hs with hs | hs
      · omega
      · have h1 := sum_take_le hnn (i + 1)
        have h2 : ¬ (-9223372036854775808 ≤ (l.take (i + 1)).sum ∧ (l.take (i + 1)).sum ≤ 9223372036854775807) := fun c => by rw [fitB_true c] at hs; cases hs
        have h3 := sum_next h
        exact fitB_false (by omega)
  exact ⟨e, by unfold totV; rw [e]; rfl⟩
theorem tot_yes {l : List Int} (h1 : ∀ x ∈ l, 0 ≤ x) (h2 : fitB l.sum = true) : totOk l = true ∧ totV l = l.sum := by
  have e : totOk l = true := by unfold totOk; rw [nn_iff.2 h1, h2]; rfl
  exact ⟨e, by unfold totV; rw [e]; rfl⟩
theorem nn_next {l : List Int} {i : Nat} (h : i < l.length) (h1 : ∀ x ∈ l.take i, 0 ≤ x) (h2 : 0 ≤ l.getD i 0) : ∀ x ∈ l.take (i + 1), 0 ≤ x := fun x hx => by
  rw [List.take_add_one, List.getElem?_eq_getElem h] at hx
  rcases List.mem_append.1 hx with hx | hx
  · exact h1 x hx
  · simp at hx
    subst hx
    rw [List.getD, List.getElem?_eq_getElem h] at h2
    exact h2
end Go.Proofs.Ytkjgpidiompmlaa
