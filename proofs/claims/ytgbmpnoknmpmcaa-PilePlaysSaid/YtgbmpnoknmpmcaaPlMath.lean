/- Items in ascending order: what the calls of a pile answer. -/
import Derived.Test.YtgbmpnoknmpmcaaOwn
namespace Go.Proofs.Ytgbmpnoknmpmcaa
open Go.RowKit
set_option linter.unusedVariables false

/-- An item: ID, Key, Then. -/
abbrev It := Int × Int × Int
/-- a stands ahead of b. -/
def ltI (a b : It) : Bool := decide (a.2.1 < b.2.1 ∨ (a.2.1 = b.2.1 ∧ (a.2.2 < b.2.2 ∨ (a.2.2 = b.2.2 ∧ a.1 < b.1))))
def cmpI (a b : Int) : Int := if a < b then -1 else if b < a then 1 else 0
def orL : List Int → Int
  | [] => 0
  | x :: r => if x = 0 then orL r else x
def ordI (a b : It) : Int := orL [cmpI a.2.1 b.2.1, cmpI a.2.2 b.2.2, cmpI a.1 b.1]
theorem ordI_neg (a b : It) : decide (ordI a b < 0) = ltI a b := by
  unfold ordI ltI orL orL orL orL cmpI
  simp only [decide_eq_decide]
  repeat' split
  all_goals omega
theorem ltI_trans {a b c : It} (h : ltI a b = true) (k : ltI b c = true) : ltI a c = true := by
  unfold ltI at *; simp only [decide_eq_true_eq] at *; omega
theorem ltI_irrefl (a : It) : ltI a a = false := by unfold ltI; simp
theorem ltI_total {a b : It} (h : a.1 ≠ b.1) (k : ltI a b = false) : ltI b a = true := by
  unfold ltI at *; simp only [decide_eq_true_eq, decide_eq_false_iff_not] at *; omega
theorem ltI_asymm {a b : It} (h : ltI a b = true) : ltI b a = false := by
  unfold ltI at *; simp only [decide_eq_true_eq, decide_eq_false_iff_not] at *; omega

/-- The place of x among items in order. -/
def place (x : It) (l : List It) : Nat := (l.takeWhile (ltI · x)).length
def ins (x : It) (l : List It) : List It := l.take (place x l) ++ x :: l.drop (place x l)
theorem place_le (x : It) (l : List It) : place x l ≤ l.length := by
  unfold place
  induction l with
  | nil => simp
  | cons y l ih => simp only [List.takeWhile_cons]; split <;> simp; omega
theorem place_cons (x y : It) (l : List It) : place x (y :: l) = if ltI y x = true then place x l + 1 else 0 := by
  unfold place; simp only [List.takeWhile_cons]; split <;> simp
theorem place_lt (x : It) : ∀ (l : List It) (i : Nat) (y : It), l[i]? = some y → i < place x l → ltI y x = true
  | [], i, y, h, _ => by simp at h
  | z :: l, i, y, h, hi => by
    rw [place_cons] at hi
    split at hi
    · rename_i hz
      cases i with
      | zero => simp at h; subst h; exact hz
      | succ i => exact place_lt x l i y (by simpa using h) (by omega)
    · omega
theorem place_at (x : It) : ∀ (l : List It) (y : It), l[place x l]? = some y → ltI y x = false
  | [], y, h => by simp at h
  | z :: l, y, h => by
    rw [place_cons] at h
    split at h
    · exact place_at x l y (by simpa using h)
    · rename_i hz; simp at h; subst h; simpa using hz
abbrev SortedI (l : List It) : Prop := l.Pairwise fun a b => ltI a b = true
theorem place_ge (x : It) {l : List It} (hs : SortedI l) {i : Nat} {y : It} (h : l[i]? = some y) (hi : place x l ≤ i) : ltI y x = false := by
  have hlt : i < l.length := (List.getElem?_eq_some_iff.1 h).1
  have hy := (List.getElem?_eq_some_iff.1 h).2
  have hp := place_at x l _ (List.getElem?_eq_getElem (Nat.lt_of_le_of_lt hi hlt))
  rcases Nat.eq_or_lt_of_le hi with he | hl
  · simp only [he] at hp; rw [hy] at hp; exact hp
  · have := List.pairwise_iff_getElem.1 hs (place x l) i (Nat.lt_of_le_of_lt hi hlt) hlt hl
    rw [hy] at this
    cases hc : ltI y x with
    | false => rfl
    | true => rw [ltI_trans this hc] at hp; cases hp
theorem place_iff (x : It) {l : List It} (hs : SortedI l) {i : Nat} {y : It} (h : l[i]? = some y) : ltI y x = decide (i < place x l) := by
  by_cases hi : i < place x l
  · rw [place_lt x l i y h hi]; simp [hi]
  · rw [place_ge x hs h (by omega)]; simp [hi]
theorem place_eq (x : It) : ∀ (l : List It) (k : Nat), k ≤ l.length → (∀ (i : Nat) (y : It), l[i]? = some y → i < k → ltI y x = true) → (∀ (y : It), l[k]? = some y → ltI y x = false) → place x l = k
  | [], k, hk, _, _ => by simp at hk; subst hk; rfl
  | z :: l, k, hk, h1, h2 => by
    rw [place_cons]
    cases k with
    | zero => rw [if_neg (by rw [h2 z rfl]; simp)]
    | succ k =>
      rw [if_pos (h1 0 z rfl (by omega)), place_eq x l k (by simpa using hk) (fun i y h hi => h1 (i + 1) y (by simpa using h) (by omega)) (fun y h => h2 y (by simpa using h))]
theorem ins_length (x : It) (l : List It) : (ins x l).length = l.length + 1 := by
  have := place_le x l
  simp [ins]; omega
theorem ins_perm (x : It) (l : List It) : (ins x l).Perm (x :: l) := by
  unfold ins
  refine List.perm_middle.trans ?_
  rw [List.take_append_drop]
theorem ins_sorted {x : It} {l : List It} (hs : SortedI l) (hx : ∀ y ∈ l, y.1 ≠ x.1) : SortedI (ins x l) := by
  unfold ins
  have hA : ∀ y ∈ l.take (place x l), ltI y x = true := fun y hy => by
    obtain ⟨i, hi, he⟩ := List.mem_iff_getElem.1 hy
    rw [List.getElem_take] at he
    rw [List.length_take] at hi
    exact place_lt x l i y (List.getElem?_eq_some_iff.2 ⟨by omega, he⟩) (by omega)
  have hB : ∀ y ∈ l.drop (place x l), ltI x y = true := fun y hy => by
    obtain ⟨i, hi, he⟩ := List.mem_iff_getElem.1 hy
    rw [List.getElem_drop] at he
    rw [List.length_drop] at hi
    have hg : l[place x l + i]? = some y := List.getElem?_eq_some_iff.2 ⟨by omega, he⟩
    exact ltI_total (hx y (List.mem_of_getElem? hg)) (place_ge x hs hg (by omega))
  refine List.pairwise_append.2 ⟨hs.sublist (List.take_sublist _ _), List.pairwise_cons.2 ⟨hB, hs.sublist (List.drop_sublist _ _)⟩, fun a ha b hb => ?_⟩
  rcases List.mem_cons.1 hb with rfl | hb
  · exact hA a ha
  · exact ltI_trans (hA a ha) (hB b hb)

/-- The place of the item with this ID, or -1. -/
def idxI (id : Int) (l : List It) : Int := match l.findIdx? (fun x => decide (x.1 = id)) with
  | some i => (i : Int)
  | none => -1
theorem idxI_some {id : Int} {l : List It} {i : Nat} (h : l.findIdx? (fun x => decide (x.1 = id)) = some i) : idxI id l = (i : Int) ∧ i < l.length ∧ ∃ y, l[i]? = some y ∧ y.1 = id := by
  refine ⟨by unfold idxI; rw [h], ?_⟩
  obtain ⟨hi, h1, _⟩ := List.findIdx?_eq_some_iff_getElem.1 h
  exact ⟨hi, _, List.getElem?_eq_getElem hi, by simpa using h1⟩
theorem idxI_none {id : Int} {l : List It} (h : l.findIdx? (fun x => decide (x.1 = id)) = none) : idxI id l = -1 ∧ ∀ y ∈ l, y.1 ≠ id := by
  refine ⟨by unfold idxI; rw [h], fun y hy => ?_⟩
  have := List.findIdx?_eq_none_iff.1 h y hy
  simpa using this
/-- The first i items have other IDs. -/
theorem idx_at {id : Int} {l : List It} {i : Nat} {y : It} (h : ∀ z ∈ l.take i, z.1 ≠ id) (hy : l[i]? = some y) (he : y.1 = id) : idxI id l = (i : Int) := by
  unfold idxI
  have hi := (List.getElem?_eq_some_iff.1 hy).1
  have : l.findIdx? (fun x => decide (x.1 = id)) = some i := by
    refine List.findIdx?_eq_some_iff_getElem.2 ⟨hi, ?_, fun j hj => ?_⟩
    · rw [(List.getElem?_eq_some_iff.1 hy).2]; simpa using he
    · have := h l[j] (List.mem_iff_getElem.2 ⟨j, by rw [List.length_take]; omega, by rw [List.getElem_take]⟩)
      simpa using this
  rw [this]
theorem idx_out {id : Int} {l : List It} (h : ∀ z ∈ l, z.1 ≠ id) : idxI id l = -1 := by
  unfold idxI
  have : l.findIdx? (fun x => decide (x.1 = id)) = none := List.findIdx?_eq_none_iff.2 fun z hz => by simpa using h z hz
  rw [this]
theorem take_next {id : Int} {l : List It} {i : Nat} {y : It} (h : ∀ z ∈ l.take i, z.1 ≠ id) (hy : l[i]? = some y) (he : y.1 ≠ id) : ∀ z ∈ l.take (i + 1), z.1 ≠ id := by
  intro z hz
  rw [List.take_add_one, hy] at hz
  rcases List.mem_append.1 hz with hz | hz
  · exact h z hz
  · simp at hz; subst hz; exact he

/-- The cells of items. -/
def cellsI (l : List It) : List Value := l.flatMap fun x => [.int .i64 x.1, .int .i64 x.2.1, .int .i64 x.2.2]
theorem cellsI_cons (x : It) (l : List It) : cellsI (x :: l) = .int .i64 x.1 :: .int .i64 x.2.1 :: .int .i64 x.2.2 :: cellsI l := by simp [cellsI]
theorem cellsI_append (s t : List It) : cellsI (s ++ t) = cellsI s ++ cellsI t := by simp [cellsI]
theorem cellsI_one (x : It) : cellsI [x] = [.int .i64 x.1, .int .i64 x.2.1, .int .i64 x.2.2] := rfl
theorem cellsI_length (l : List It) : (cellsI l).length = l.length * 3 := by
  induction l with
  | nil => rfl
  | cons s ss ih => rw [cellsI_cons]; simp [ih]; omega
theorem cellsI_take : ∀ (l : List It) (i : Nat), (cellsI l).take (i * 3) = cellsI (l.take i)
  | [], i => by simp [cellsI]
  | x :: l, 0 => by simp [cellsI]
  | x :: l, i + 1 => by rw [cellsI_cons, show (i + 1) * 3 = i * 3 + 1 + 1 + 1 by omega]; simp [cellsI_cons, cellsI_take l i]
theorem cellsI_drop : ∀ (l : List It) (i : Nat), (cellsI l).drop (i * 3) = cellsI (l.drop i)
  | [], i => by simp [cellsI]
  | x :: l, 0 => by simp
  | x :: l, i + 1 => by rw [cellsI_cons, show (i + 1) * 3 = i * 3 + 1 + 1 + 1 by omega]; simp [cellsI_drop l i]
theorem cellsI_get (l : List It) : ∀ (i : Nat) (s : It), l[i]? = some s →
    (cellsI l)[i * 3]? = some (.int .i64 s.1) ∧ (cellsI l)[i * 3 + 1]? = some (.int .i64 s.2.1) ∧ (cellsI l)[i * 3 + 2]? = some (.int .i64 s.2.2) := by
  induction l with
  | nil => intro i s h; simp at h
  | cons t ss ih =>
    intro i s h
    rw [cellsI_cons]
    match i, h with
    | 0, h => simp at h; subst h; simp
    | i + 1, h =>
      have := ih i s (by simpa using h)
      rw [show (i + 1) * 3 = i * 3 + 1 + 1 + 1 by omega]
      simpa using this
theorem cellsI_ones (l : List It) : ∀ u ∈ cellsI l, u.oneCell' = true := by
  intro u hu
  obtain ⟨x, _, hx⟩ := List.mem_flatMap.1 hu
  simp at hx
  rcases hx with rfl | rfl | rfl <;> rfl
theorem cellsI_three (x : It) : ∀ u ∈ [Value.int .i64 x.1, .int .i64 x.2.1, .int .i64 x.2.2], u.oneCell' = true := by
  intro u hu; simp at hu; rcases hu with rfl | rfl | rfl <;> rfl
end Go.Proofs.Ytgbmpnoknmpmcaa
