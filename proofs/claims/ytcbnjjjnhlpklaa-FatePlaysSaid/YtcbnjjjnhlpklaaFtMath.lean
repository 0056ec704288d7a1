/- What became of jobs: plain mathematics. -/
import Derived.Test.YtcbnjjjnhlpklaaNumMath
namespace Go.Proofs.Ytcbnjjjnhlpklaa
set_option linter.unusedVariables false

/-- What became of one, and when. -/
abbrev Ft := Int × Int
/-- Of one job; and is there such a job? -/
def inB (l : List Ft) (i : Int) : Bool := decide (0 ≤ i ∧ i < (l.length : Int))
def ofV (l : List Ft) (i : Int) : Ft := if inB l i = true then l.getD i.toNat (0, 0) else (0, 0)
/-- What a word answers, and what becomes of the book. -/
def sayE (l : List Ft) (i k t : Int) : Int := if inB l i = false ∨ k < 1 ∨ 5 < k ∨ t < 0 then 1 else if (ofV l i).1 ≠ 0 then 5 else 0
def sayL (l : List Ft) (i k t : Int) : List Ft := if sayE l i k t = 0 then l.set i.toNat (k, t) else l
/-- How many of a kind; which wait. -/
def cntF (l : List Ft) (k : Int) : Nat := (l.filter fun x => decide (x.1 = k)).length
def openFrom (i : Nat) : List Ft → List Nat
  | [] => []
  | x :: l => (if x.1 = 0 then [i] else []) ++ openFrom (i + 1) l
def openF (l : List Ft) : List Nat := openFrom 0 l
section
variable {l : List Ft} {i k t : Int}
theorem inB_iff : inB l i = true ↔ 0 ≤ i ∧ i < (l.length : Int) := by simp [inB]
theorem inB_get (h : inB l i = true) : ∃ n : Nat, i = (n : Int) ∧ n < l.length ∧ l[n]? = some (ofV l i) := by
  obtain ⟨h1, h2⟩ := inB_iff.1 h
  refine ⟨i.toNat, by omega, by omega, ?_⟩
  unfold ofV
  rw [if_pos h, List.getD, List.getElem?_eq_getElem (by omega)]
  rfl
theorem sayL_len (l : List Ft) (i k t : Int) : (sayL l i k t).length = l.length := by unfold sayL; split <;> simp
theorem sayE_zero (h : sayE l i k t = 0) : inB l i = true ∧ 1 ≤ k ∧ k ≤ 5 ∧ 0 ≤ t ∧ (ofV l i).1 = 0 := by
  unfold sayE at h
  split at h
  · cases h
  · rename_i h1
    split at h
    · cases h
    · rename_i h2
      refine ⟨?_, by omega, by omega, by omega, by simpa using h2⟩
      cases hb : inB l i with
      | true => rfl
      | false => exact absurd (.inl hb) h1
theorem openFrom_append (a b : List Ft) : ∀ j, openFrom j (a ++ b) = openFrom j a ++ openFrom (j + a.length) b := by
  induction a with
  | nil => intro j; simp [openFrom]
  | cons x a ih => intro j; simp only [List.cons_append, openFrom, ih, List.append_assoc, List.length_cons]; rw [show j + 1 + a.length = j + (a.length + 1) by omega]
theorem openF_next {j : Nat} {x : Ft} (h : l[j]? = some x) : openF (l.take (j + 1)) = openF (l.take j) ++ (if x.1 = 0 then [j] else []) := by
  have hj := (List.getElem?_eq_some_iff.1 h).1
  unfold openF
  rw [List.take_add_one, h, openFrom_append]
  simp only [Option.toList_some, openFrom, List.append_nil, List.length_take, Nat.min_eq_left (Nat.le_of_lt hj), Nat.zero_add]
theorem cntF_next {j : Nat} {x : Ft} (h : l[j]? = some x) (k : Int) : cntF (l.take (j + 1)) k = cntF (l.take j) k + (if x.1 = k then 1 else 0) := by
  unfold cntF
  rw [List.take_add_one, h, List.filter_append]
  by_cases e : x.1 = k
  · simp [e]
  · simp [e]
theorem cntF_le (l : List Ft) (k : Int) : cntF l k ≤ l.length := List.length_filter_le _ _
theorem openFrom_len (l : List Ft) : ∀ j, (openFrom j l).length = cntF l 0 := by
  induction l with
  | nil => intro j; rfl
  | cons x l ih =>
    intro j
    unfold openFrom cntF
    rw [List.length_append, ih]
    by_cases e : x.1 = 0
    · simp [e, cntF]; omega
    · simp [e, cntF]
theorem openF_len (l : List Ft) : (openF l).length = cntF l 0 := openFrom_len l 0
/-- Each has one of six fates. -/
def FInv (l : List Ft) : Prop := ∀ x ∈ l, 0 ≤ x.1 ∧ x.1 ≤ 5
theorem FInv.made (n : Nat) : FInv (List.replicate n (0, 0)) := by
  intro x hx
  rw [(List.mem_replicate.1 hx).2]; decide
theorem FInv.say (h : FInv l) (i k t : Int) : FInv (sayL l i k t) := by
  unfold sayL
  split
  · rename_i hz
    obtain ⟨_, h1, h2, _, _⟩ := sayE_zero hz
    intro x hx
    rcases List.mem_or_eq_of_mem_set hx with hx | hx
    · exact h x hx
    · subst hx; exact ⟨by show (0 : Int) ≤ k; omega, h2⟩
  · exact h
/-- How many of the first n kinds. -/
def cntTo (l : List Ft) : Nat → Nat
  | 0 => 0
  | n + 1 => cntTo l n + cntF l (n : Int)
theorem cntTo_cons (x : Ft) (l : List Ft) (h : 0 ≤ x.1) : ∀ n, cntTo (x :: l) n = cntTo l n + (if x.1 < (n : Int) then 1 else 0)
  | 0 => by simp [cntTo]; omega
  | n + 1 => by
    simp only [cntTo, cntTo_cons x l h n]
    have e : cntF (x :: l) (n : Int) = cntF l (n : Int) + (if x.1 = (n : Int) then 1 else 0) := by
      unfold cntF
      by_cases e : x.1 = (n : Int)
      · simp [e]
      · simp [e]
    rw [e]
    by_cases e1 : x.1 = (n : Int)
    · rw [if_pos e1, if_neg (by omega), if_pos (by omega)]; omega
    · rw [if_neg e1]
      by_cases e2 : x.1 < (n : Int)
      · rw [if_pos e2, if_pos (by omega)]; omega
      · rw [if_neg e2, if_neg (by omega)]; omega
theorem cntTo_six (h : FInv l) : cntTo l 6 = l.length := by
  induction l with
  | nil => rfl
  | cons x l ih =>
    have hx := h x (by simp)
    rw [cntTo_cons x l hx.1, ih (fun y hy => h y (by simp [hy])), if_pos (by have := hx.2; show x.1 < 6; omega)]
    simp
theorem cntTo_le (h : FInv l) {n : Nat} (hn : n ≤ 6) : cntTo l n ≤ l.length := by
  have h6 := cntTo_six h
  have : ∀ m, n ≤ m → cntTo l n ≤ cntTo l m := by
    intro m hm
    induction m with
    | zero => obtain rfl : n = 0 := by omega
              exact Nat.le_refl _
    | succ m ih =>
      rcases Nat.lt_or_ge m n with hl | hl
      · obtain rfl : n = m + 1 := by omega
        exact Nat.le_refl _
      · exact Nat.le_trans (ih hl) (by simp [cntTo])
  have := this 6 hn
  omega
theorem say_at (hz : sayE l i k t = 0) : ofV (sayL l i k t) i = (k, t) := by
  obtain ⟨h1, _⟩ := sayE_zero hz
  obtain ⟨n, rfl, hn, _⟩ := inB_get h1
  have h2 : inB (sayL l (n : Int) k t) (n : Int) = true := inB_iff.2 ⟨by omega, by rw [sayL_len]; omega⟩
  unfold ofV
  rw [if_pos h2]
  unfold sayL
  rw [if_pos hz]
  simp [List.getD, hn]
theorem say_other {j : Int} (hj : j ≠ i) : ofV (sayL l i k t) j = ofV l j := by
  unfold ofV
  have e : inB (sayL l i k t) j = inB l j := by unfold inB; rw [sayL_len]
  rw [e]
  by_cases hb : inB l j = true
  · rw [if_pos hb, if_pos hb]
    unfold sayL
    split
    · rename_i hz
      obtain ⟨h1, _⟩ := sayE_zero hz
      have h1 := inB_iff.1 h1
      have h2 := inB_iff.1 hb
      rw [List.getD, List.getD, List.getElem?_set_ne (by omega)]
    · rfl
  · rw [if_neg hb, if_neg hb]
end
end Go.Proofs.Ytcbnjjjnhlpklaa
