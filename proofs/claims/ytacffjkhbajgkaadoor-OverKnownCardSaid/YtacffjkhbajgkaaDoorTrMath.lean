/- Traces: what the calls of chapter 9 answer, as functions of lists. -/
import Derived.Test.YtacffjkhbajgkaaDoorJb2
import Derived.Test.YtacffjkhbajgkaaDoorReads
namespace Go.Proofs.YtacffjkhbajgkaaDoor
open Go.RowKit Go.Lib Go.ChangeShapes Go.WideShapes Go.ChangeAt
set_option linter.unusedVariables false
set_option linter.unusedSimpArgs false

/-- The cells at A hold the ticks t. -/
def RdT (w : World) (A : Option Addr) (t : List Int) : Prop := ∀ (k : Nat) (x : Int), t[k]? = some x → ∃ b off, A = some ⟨b, off, none⟩ ∧ w.cell? ⟨b, off + k, none⟩ = some (.int .i64 x)
theorem RdT.below {w w' : World} {A : Option Addr} {t : List Int} (h : RdT w A t) (hb : Below w.heap.size w w') : RdT w' A t := by
  intro k x hx
  obtain ⟨b, off, rfl, hc⟩ := h k x hx
  exact ⟨b, off, rfl, by rw [hb.cell (p := ⟨b, off + k, none⟩) (cell_lt hc)]; exact hc⟩
theorem RdT.drewN {w : World} {A : Option Addr} {t : List Int} (h : RdT w A t) (n : Nat) : RdT (w.drewN n) A t := h

theorem count_next {t : List Int} {k : Nat} {x : Int} (i : Int) (h : t[k]? = some x) : (t.take (k + 1)).count i = (t.take k).count i + (if x = i then 1 else 0) := by
  rw [List.take_add_one, h]
  by_cases hx : x = i
  · subst hx; simp
  · rw [if_neg hx, List.count_append]; simp [List.count_cons, hx]
theorem count_le_take {t : List Int} {k : Nat} (i : Int) : (t.take k).count i ≤ k := Nat.le_trans List.count_le_length (by simp; omega)
theorem dropT_at {α : Type} {t : List α} {k : Nat} {x : α} (h : t[k]? = some x) : t.drop k = x :: t.drop (k + 1) := by
  obtain ⟨h1, h2⟩ := List.getElem?_eq_some_iff.1 h
  rw [List.drop_eq_getElem_cons h1, h2]

/-- Where it is done: left is what is left to be worked. -/
def doneGo (i : Int) : Int → List Int → Nat → Option Nat
  | _, [], _ => none
  | left, x :: t, k => if x = i then (if left - 1 = 0 then some (k + 1) else doneGo i (left - 1) t (k + 1)) else doneGo i left t (k + 1)
theorem doneGo_other {i left x : Int} {t : List Int} {k : Nat} (h : ¬ x = i) : doneGo i left (x :: t) k = doneGo i left t (k + 1) := by rw [doneGo, if_neg h]
theorem doneGo_last {i left : Int} {t : List Int} {k : Nat} (h : left - 1 = 0) : doneGo i left (i :: t) k = some (k + 1) := by rw [doneGo, if_pos rfl, if_pos h]
theorem doneGo_one {i left : Int} {t : List Int} {k : Nat} (h : ¬ left - 1 = 0) : doneGo i left (i :: t) k = doneGo i (left - 1) t (k + 1) := by rw [doneGo, if_pos rfl, if_neg h]
theorem doneGo_le {i : Int} : ∀ (t : List Int) (left : Int) (k r : Nat), doneGo i left t k = some r → r ≤ k + t.length
  | [], _, _, _, h => by simp [doneGo] at h
  | x :: t, left, k, r, h => by
    unfold doneGo at h
    simp only [List.length_cons]
    split at h
    · split at h
      · injection h with h; omega
      · have := doneGo_le t _ _ _ h; omega
    · have := doneGo_le t _ _ _ h; omega
/-- More ticks leave it done. -/
theorem doneGo_more {i : Int} (u : List Int) : ∀ (t : List Int) (left : Int) (k r : Nat), doneGo i left t k = some r → doneGo i left (t ++ u) k = some r
  | [], _, _, _, h => by simp [doneGo] at h
  | x :: t, left, k, r, h => by
    rw [List.cons_append]
    unfold doneGo at h ⊢
    split at h
    · rename_i hx
      rw [if_pos hx]
      split at h
      · rename_i hl; rw [if_pos hl]; exact h
      · rename_i hl; rw [if_neg hl]; exact doneGo_more u t _ _ _ h
    · rename_i hx
      rw [if_neg hx]; exact doneGo_more u t _ _ _ h
/-- A tick of nobody leaves all. -/
theorem doneGo_idle {i : Int} (hi : ¬ (-1 : Int) = i) : ∀ (t : List Int) (left : Int) (k : Nat), doneGo i left (t ++ [-1]) k = doneGo i left t k
  | [], left, k => by simp [doneGo, hi]
  | x :: t, left, k => by
    rw [List.cons_append]
    unfold doneGo
    rw [doneGo_idle hi t, doneGo_idle hi t]
def doneN (o : Option Nat) : Int := match o with | some k => (k : Int) | none => 0
def doneB (o : Option Nat) : Bool := match o with | some _ => true | none => false
/-- Was it met? -/
def metO (o : Option Nat) (d : Int) (r : Bool) : Bool := match o with | some k => decide ((k : Int) ≤ d) && r | none => false
def metJ (t : List Int) (i : Int) (j : Jb) : Bool := metO (doneGo i j.work t 0) j.dl j.runs
/-- Is i an index? -/
def hasB (l : List Jb) (i : Int) : Bool := decide (0 ≤ i) && decide (i < (l.length : Int))
def doneAt (l : List Jb) (t : List Int) (i : Int) : Option Nat := if allB l && hasB l i then (match l[i.toNat]? with | some j => doneGo i j.work t 0 | none => none) else none
def metBy (l : List Jb) (t : List Int) (i : Int) : Bool := allB l && (hasB l i && (match l[i.toNat]? with | some j => metJ t i j | none => false))
def valGo (t : List Int) : List Jb → Nat → Int
  | [], _ => 0
  | j :: l, k => (if metJ t (k : Int) j then j.vl else 0) + valGo t l (k + 1)
def valZ (l : List Jb) (t : List Int) : Int := if allB l then valGo t l 0 else 0
def busyZ (t : List Int) : Int := (t.length : Int) - (t.count (-1) : Int)
def swB (b x : Int) : Bool := (x != b) && ((x != -1) && (b != -1))
def swGo : Int → List Int → Nat
  | _, [] => 0
  | b, x :: t => (if swB b x then 1 else 0) + swGo x t
theorem swGo_le : ∀ (t : List Int) (b : Int), swGo b t ≤ t.length
  | [], _ => by simp [swGo]
  | x :: t, b => by have := swGo_le t x; unfold swGo; split <;> simp <;> omega
def cutN (t : List Int) (n : Int) : Nat := min (max n 0).toNat t.length
/-- May the tick k be? -/
def okTick (l : List Jb) (t : List Int) (k : Nat) (x : Int) : Bool := decide (x = -1) || (hasB l x && (match l[x.toNat]? with | some j => decide (j.rel ≤ (k : Int)) && (decide ((k : Int) < j.dl) && decide (((t.take k).count x : Int) < j.work)) | none => false))
def goodT (l : List Jb) (t : List Int) : Bool := allB l && (decide (t.length ≤ 10000) && (List.range t.length).all fun k => match t[k]? with | some x => okTick l t k x | none => true)
theorem goodT_iff {l : List Jb} {t : List Int} : goodT l t = true ↔ allB l = true ∧ t.length ≤ 10000 ∧ ∀ k x, t[k]? = some x → okTick l t k x = true := by
  unfold goodT
  rw [Bool.and_eq_true, Bool.and_eq_true, decide_eq_true_eq, List.all_eq_true]
  refine and_congr Iff.rfl (and_congr Iff.rfl ⟨fun h k x hx => ?_, fun h k hk => ?_⟩)
  · have := h k (List.mem_range.2 (List.getElem?_eq_some_iff.1 hx).1)
    rw [hx] at this
    exact this
  · split
    · rename_i x hx; exact h k x hx
    · rfl
theorem hasB_iff {l : List Jb} {i : Int} : hasB l i = true ↔ 0 ≤ i ∧ i < (l.length : Int) := by unfold hasB; simp
theorem work_good {j : Jb} (h : j.good = true) : 1 ≤ j.work ∧ j.work ≤ 1100 := by
  have h2 := (Bool.and_eq_true_iff.1 h).2
  rw [jnum_iff] at h2
  unfold Jb.work
  rw [if_pos h]
  split <;> omega
theorem good_of_all {l : List Jb} {k : Nat} {j : Jb} (h : allB l = true) (hj : l[k]? = some j) : j.good = true := by
  have := (Bool.and_eq_true_iff.1 h).2
  exact List.all_eq_true.1 this j (List.mem_of_getElem? hj)
theorem len_of_all {l : List Jb} (h : allB l = true) : l.length ≤ 200 := by
  simpa using (Bool.and_eq_true_iff.1 h).1
theorem vl_good {j : Jb} (h : j.good = true) : 0 ≤ j.vl ∧ j.vl ≤ 1000000 := by
  have h2 := (Bool.and_eq_true_iff.1 h).2
  rw [jnum_iff] at h2
  omega
theorem valGo_next {l : List Jb} {t : List Int} {k : Nat} {j : Jb} (h : l[k]? = some j) : valGo t (l.drop k) k = (if metJ t (k : Int) j then j.vl else 0) + valGo t (l.drop (k + 1)) (k + 1) := by
  rw [dropT_at h]; rfl
theorem valGo_end {l : List Jb} {t : List Int} {k : Nat} (h : l.length ≤ k) : valGo t (l.drop k) k = 0 := by rw [List.drop_eq_nil_of_le h]; rfl
theorem valGo_bound (t : List Int) : ∀ (l : List Jb) (k : Nat), (∀ j ∈ l, j.good = true) → 0 ≤ valGo t l k ∧ valGo t l k ≤ 1000000 * (l.length : Int)
  | [], _, _ => by simp [valGo]
  | j :: l, k, h => by
    have ih := valGo_bound t l (k + 1) (fun x hx => h x (by simp [hx]))
    have := vl_good (h j (by simp))
    unfold valGo
    rw [List.length_cons]
    split <;> omega
end Go.Proofs.YtacffjkhbajgkaaDoor
