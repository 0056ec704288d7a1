/- Maths of chapter 10: the run itself, who is picked; jobs in a list; what is done. -/
import Derived.Test.YtcohodpaagpfgaaDoorEdMath
import Derived.Test.YtcohodpaagpfgaaDoorTrMath
namespace Go.Proofs.YtcohodpaagpfgaaDoor
set_option linter.unusedVariables false
set_option linter.unusedSimpArgs false

/-- Of those that may, the one with the least d, then place; none: -1. -/
def pick (may : Nat → Bool) (d : Nat → Int) : Nat → Int
  | 0 => -1
  | n + 1 => if may n && (decide (pick may d n < 0) || decide (d n < d (pick may d n).toNat)) then (n : Int) else pick may d n
/-- b is the one that is picked. -/
def Picked (may : Nat → Bool) (d : Nat → Int) (n : Nat) (b : Int) : Prop :=
  (b = -1 ∧ ∀ j, j < n → may j = false) ∨ ∃ i : Nat, b = (i : Int) ∧ i < n ∧ may i = true ∧ ∀ j, j < n → may j = true → d i < d j ∨ (d i = d j ∧ i ≤ j)
theorem pick_picked (may : Nat → Bool) (d : Nat → Int) : ∀ n, Picked may d n (pick may d n)
  | 0 => .inl ⟨rfl, fun j hj => by omega⟩
  | n + 1 => by
    have ih := pick_picked may d n
    unfold pick
    cases hm : may n
    · rw [if_neg (by simp)]
      rcases ih with ⟨h1, h2⟩ | ⟨i, h1, h2, h3, h4⟩
      · refine .inl ⟨h1, fun j hj => ?_⟩
        by_cases e : j = n
        · subst e; exact hm
        · exact h2 j (by omega)
      · refine .inr ⟨i, h1, by omega, h3, fun j hj hmj => ?_⟩
        by_cases e : j = n
        · subst e; rw [hm] at hmj; cases hmj
        · exact h4 j (by omega) hmj
    · rcases ih with ⟨h1, h2⟩ | ⟨i, h1, h2, h3, h4⟩
      · rw [h1, if_pos (by simp)]
        refine .inr ⟨n, rfl, by omega, hm, fun j hj hmj => ?_⟩
        by_cases e : j = n
        · subst e; exact .inr ⟨rfl, Nat.le_refl _⟩
        · rw [h2 j (by omega)] at hmj; cases hmj
      · rw [h1]
        by_cases hd : d n < d i
        · rw [if_pos (by simp [hd])]
          refine .inr ⟨n, rfl, by omega, hm, fun j hj hmj => ?_⟩
          by_cases e : j = n
          · subst e; exact .inr ⟨rfl, Nat.le_refl _⟩
          · have := h4 j (by omega) hmj; left; omega
        · rw [if_neg (by simp; omega)]
          refine .inr ⟨i, rfl, by omega, h3, fun j hj hmj => ?_⟩
          by_cases e : j = n
          · subst e; rcases Int.lt_or_eq_of_le (Int.not_lt.1 hd) with h5 | h5
            · exact .inl h5
            · exact .inr ⟨h5, by omega⟩
          · exact h4 j (by omega) hmj
theorem Picked.uniq {may : Nat → Bool} {d : Nat → Int} {n : Nat} {a b : Int} (ha : Picked may d n a) (hb : Picked may d n b) : a = b := by
  rcases ha with ⟨h1, h2⟩ | ⟨i, h1, h2, h3, h4⟩ <;> rcases hb with ⟨k1, k2⟩ | ⟨j, k1, k2, k3, k4⟩
  · omega
  · rw [h2 j k2] at k3; cases k3
  · rw [k2 i h2] at h3; cases h3
  · have := h4 j k2 k3
    have := k4 i h2 h3
    have : i = j := by omega
    rw [h1, k1, this]
section
variable (n : Nat) (rel dl wk : Nat → Int)
def mayB (r : List Int) (k : Nat) (i : Nat) : Bool := decide (rel i ≤ (k : Int)) && decide (cn r k i < wk i)
/-- The run of k ticks. -/
def edfT : Nat → List Int
  | 0 => []
  | k + 1 => edfT k ++ [pick (mayB rel wk (edfT k) k) dl n]
theorem edfT_succ (k : Nat) : edfT n rel dl wk (k + 1) = edfT n rel dl wk k ++ [pick (mayB rel wk (edfT n rel dl wk k) k) dl n] := rfl
variable {n rel dl wk}
theorem edfT_len : ∀ k, (edfT n rel dl wk k).length = k
  | 0 => rfl
  | k + 1 => by rw [edfT_succ, List.length_append, edfT_len k]; rfl
theorem edfT_take {k m : Nat} (h : k ≤ m) : (edfT n rel dl wk m).take k = edfT n rel dl wk k := by
  induction m with
  | zero =>
    obtain rfl : k = 0 := by omega
    rfl
  | succ m ih =>
    by_cases e : k = m + 1
    · subst e
      exact List.take_of_length_le (by rw [edfT_len]; exact Nat.le_refl _)
    · rw [edfT_succ]
      rw [List.take_append_of_le_length (by rw [edfT_len]; omega)]
      exact ih (by omega)
theorem edfT_at {k m : Nat} (h : k < m) : (edfT n rel dl wk m)[k]? = some (pick (mayB rel wk (edfT n rel dl wk k) k) dl n) := by
  have h1 : (edfT n rel dl wk m)[k]? = ((edfT n rel dl wk m).take (k + 1))[k]? := by rw [List.getElem?_take, if_pos (by omega)]
  rw [h1, edfT_take (show k + 1 ≤ m by omega)]
  rw [edfT_succ]
  rw [List.getElem?_append_right (by rw [edfT_len]; exact Nat.le_refl _), edfT_len]
  simp
theorem cn_edfT {k m : Nat} (i : Nat) (h : k ≤ m) : cn (edfT n rel dl wk m) k i = cn (edfT n rel dl wk k) k i := by
  unfold cn; rw [edfT_take h, List.take_of_length_le (by rw [edfT_len]; exact Nat.le_refl _)]
theorem edfT_edf (m : Nat) : Edf n rel dl wk (edfT n rel dl wk m) := by
  intro k x hx
  have hk : k < m := by have := (List.getElem?_eq_some_iff.1 hx).1; rw [edfT_len] at this; exact this
  rw [edfT_at hk] at hx
  injection hx with hx
  have hp := pick_picked (mayB rel wk (edfT n rel dl wk k) k) dl n
  rw [hx] at hp
  have hpm : ∀ i, pend rel wk (edfT n rel dl wk m) k i ↔ mayB rel wk (edfT n rel dl wk k) k i = true := by
    intro i
    unfold pend mayB
    rw [cn_edfT i (Nat.le_of_lt hk)]
    simp
  rcases hp with ⟨h1, h2⟩ | ⟨i, h1, h2, h3, h4⟩
  · exact .inl ⟨h1, fun j hj hpj => by rw [hpm, h2 j hj] at hpj; cases hpj⟩
  · refine .inr ⟨i, h1, h2, (hpm i).2 h3, fun j hj hpj => ?_⟩
    have := h4 j hj ((hpm j).1 hpj); omega
theorem edfT_range {m k : Nat} {x : Int} (h : (edfT n rel dl wk m)[k]? = some x) : x = -1 ∨ ∃ i : Nat, x = (i : Int) ∧ i < n := by
  rcases edfT_edf m k x h with ⟨h1, _⟩ | ⟨i, h1, h2, _⟩
  · exact .inl h1
  · exact .inr ⟨i, h1, h2⟩
/-- Whatever has all done in time, the earliest deadline first has them, too. -/
theorem edf_best {s : List Int} {m : Nat} (hr0 : ∀ i, i < n → ∃ p q : Nat, rel i = (p : Int) ∧ dl i = (q : Int) ∧ q ≤ m) (hw0 : ∀ i, i < n → 0 ≤ wk i)
    (hs : ∀ i, i < n → ∃ p q : Nat, rel i = (p : Int) ∧ dl i = (q : Int) ∧ wk i ≤ cn s q i - cn s p i) {i q : Nat} (hi : i < n) (hq : dl i = (q : Int)) : wk i ≤ cn (edfT n rel dl wk m) q i := by
  rcases Int.lt_or_le (cn (edfT n rel dl wk m) q i) (wk i) with h | h
  · exfalso
    obtain ⟨p', q', hp', hq', hqm⟩ := hr0 i hi
    obtain rfl : q' = q := by omega
    obtain ⟨a, h1, h2, h3⟩ := (edfT_edf (n := n) (rel := rel) (dl := dl) (wk := wk) m).asked (fun j hj => by obtain ⟨p, _, hp, _⟩ := hr0 j hj; omega) hw0 hi hq (by rw [edfT_len]; exact hqm) h
    have := dem_le hs a q' h1
    omega
  · exact h
/-- In its own time a job runs. -/
theorem Edf.window {r : List Int} (h : Edf n rel dl wk r) {i p q : Nat} (hp : rel i = (p : Int)) (hw : wk i ≤ cn r q i) : wk i ≤ cn r q i - cn r p i := by
  rw [h.early (i := i) p (by omega)]; omega
end
/-! ## Jobs in a list -/
def atL {α : Type} (f : α → Int) (l : List α) (i : Nat) : Int := ((l[i]?).map f).getD 0
theorem atL_of {α : Type} {f : α → Int} {l : List α} {i : Nat} {x : α} (h : l[i]? = some x) : atL f l i = f x := by unfold atL; rw [h]; rfl
theorem sm_list {α : Type} (f : α → Int) : ∀ (l : List α) (n : Nat), n ≤ l.length → sm (atL f l) n = ((l.take n).map f).sum
  | l, 0, _ => by simp [sm]
  | l, n + 1, h => by
    unfold sm
    obtain ⟨x, hx⟩ : ∃ x, l[n]? = some x := ⟨_, List.getElem?_eq_getElem (by omega)⟩
    rw [sm_list f l n (by omega), atL_of hx, List.take_add_one, hx]
    simp
theorem dem_list {α : Type} (rel dl wk : α → Int) (l : List α) (a b : Int) : dem l.length (atL rel l) (atL dl l) (atL wk l) a b = (l.map fun x => if a ≤ rel x ∧ dl x ≤ b then wk x else 0).sum := by
  unfold dem
  have h := sm_list (fun x => if a ≤ rel x ∧ dl x ≤ b then wk x else 0) l l.length (Nat.le_refl _)
  rw [List.take_length] at h
  rw [← h]
  refine sm_congr fun i hi => ?_
  obtain ⟨x, hx⟩ : ∃ x, l[i]? = some x := ⟨_, List.getElem?_eq_getElem hi⟩
  rw [atL_of hx, atL_of hx, atL_of hx, atL_of hx]
theorem sum_drop_one {α : Type} (f : α → Int) (l : List α) (k : Nat) (h : ∀ x ∈ l, 0 ≤ f x) : ((l.take k ++ l.drop (k + 1)).map f).sum ≤ (l.map f).sum := by
  rcases Nat.lt_or_ge k l.length with hk | hk
  · obtain ⟨x, hx⟩ : ∃ x, l[k]? = some x := ⟨_, List.getElem?_eq_getElem hk⟩
    have e : l = l.take k ++ x :: l.drop (k + 1) := by rw [← dropT_at hx, List.take_append_drop]
    have hx0 := h x (List.mem_of_getElem? hx)
    conv => rhs; rw [e]
    simp only [List.map_append, List.sum_append, List.map_cons, List.sum_cons]
    omega
  · rw [List.take_of_length_le hk, List.drop_eq_nil_of_le (by omega), List.append_nil]; exact Int.le_refl _
/-! ## What is done -/
theorem doneGo_count {i : Int} : ∀ (t : List Int) (left : Int) (k r : Nat), doneGo i left t k = some r → k < r ∧ ((t.take (r - k)).count i : Int) = left
  | [], _, _, _, h => by simp [doneGo] at h
  | x :: t, left, k, r, h => by
    unfold doneGo at h
    split at h
    · rename_i hx
      split at h
      · rename_i hl
        injection h with h
        subst h
        refine ⟨by omega, ?_⟩
        rw [show k + 1 - k = 1 by omega]
        simp [hx]; omega
      · obtain ⟨h1, h2⟩ := doneGo_count t _ _ _ h
        refine ⟨by omega, ?_⟩
        rw [show r - k = (r - (k + 1)) + 1 by omega, List.take_succ_cons, List.count_cons, if_pos (by simpa using hx)]
        omega
    · rename_i hx
      obtain ⟨h1, h2⟩ := doneGo_count t _ _ _ h
      refine ⟨by omega, ?_⟩
      rw [show r - k = (r - (k + 1)) + 1 by omega, List.take_succ_cons, List.count_cons, if_neg (by simpa using hx)]
      omega
theorem doneGo_of {i : Int} : ∀ (t : List Int) (left : Int) (k d : Nat), 1 ≤ left → left ≤ ((t.take d).count i : Int) → ∃ r, doneGo i left t k = some r ∧ r ≤ k + d
  | [], left, k, d, h1, h2 => by simp at h2; omega
  | x :: t, left, k, 0, h1, h2 => by simp at h2; omega
  | x :: t, left, k, d + 1, h1, h2 => by
    rw [List.take_succ_cons, List.count_cons] at h2
    unfold doneGo
    by_cases hx : x = i
    · rw [if_pos (by simpa using hx)] at h2
      rw [if_pos hx]
      by_cases hl : left - 1 = 0
      · rw [if_pos hl]; exact ⟨k + 1, rfl, by omega⟩
      · rw [if_neg hl]
        obtain ⟨r, h3, h4⟩ := doneGo_of (i := i) t (left - 1) (k + 1) d (by omega) (by omega)
        exact ⟨r, h3, by omega⟩
    · rw [if_neg (by simpa using hx)] at h2
      rw [if_neg hx]
      obtain ⟨r, h3, h4⟩ := doneGo_of (i := i) t left (k + 1) d h1 (by omega)
      exact ⟨r, h3, by omega⟩
theorem done_cn {i : Nat} {left : Int} {t : List Int} {r : Nat} (h : doneGo (i : Int) left t 0 = some r) : cn t r i = left := by
  have := (doneGo_count t left 0 r h).2
  rw [Nat.sub_zero] at this
  exact this
theorem cn_done {i : Nat} {left : Int} {t : List Int} {d : Nat} (h1 : 1 ≤ left) (h2 : left ≤ cn t d i) : ∃ r, doneGo (i : Int) left t 0 = some r ∧ r ≤ d := by
  obtain ⟨r, h3, h4⟩ := doneGo_of t left 0 d h1 h2
  exact ⟨r, h3, by omega⟩
/-- In a trace that may be a job runs in its own time only. -/
theorem goodT_window {l : List Jb} {t : List Int} (h : goodT l t = true) {i : Nat} {x : Jb} (hx : l[i]? = some x) : (∀ k : Nat, (k : Int) ≤ x.rel → cn t k i = 0) ∧ ∀ k : Nat, x.dl ≤ (k : Int) → cn t k i = (t.count (i : Int) : Int) := by
  have hok := (goodT_iff.1 h).2.2
  have hin : ∀ k : Nat, t[k]? = some (i : Int) → x.rel ≤ (k : Int) ∧ (k : Int) < x.dl := by
    intro k hk
    have := hok k _ hk
    unfold okTick at this
    rw [Int.toNat_natCast, hx] at this
    simp only [Bool.or_eq_true, Bool.and_eq_true, decide_eq_true_eq] at this
    rcases this with h1 | h1
    · omega
    · exact ⟨h1.2.1, h1.2.2.1⟩
  refine ⟨fun k hk => ?_, fun k hk => ?_⟩
  · induction k with
    | zero => exact cn_zero _ _
    | succ k ih =>
      rcases Nat.lt_or_ge k t.length with h1 | h1
      · rw [cn_next i (List.getElem?_eq_getElem h1), ih (by omega), if_neg]
        · rfl
        · intro he
          have := (hin k (by rw [List.getElem?_eq_getElem h1, he])).1; omega
      · rw [cn_end i h1]; exact ih (by omega)
  · have key : ∀ m : Nat, cn t (k + m) i = cn t k i := by
      intro m
      induction m with
      | zero => rfl
      | succ m ih =>
        rcases Nat.lt_or_ge (k + m) t.length with h1 | h1
        · rw [← Nat.add_assoc, cn_next i (List.getElem?_eq_getElem h1), ih, if_neg]
          · omega
          · intro he
            have := (hin (k + m) (by rw [List.getElem?_eq_getElem h1, he])).2; omega
        · rw [← Nat.add_assoc, cn_end i h1]; exact ih
    rw [← key t.length, cn_all i (by omega)]
end Go.Proofs.YtcohodpaagpfgaaDoor
