/- What follows of a pile's calls: items pushed, moved and moved back, dropped, popped. -/
import Derived.Test.YtgbmpnoknmpmcaaPlAwake
namespace Go.Proofs.Ytgbmpnoknmpmcaa
open Go.RowKit
set_option linter.unusedVariables false
set_option linter.unusedSimpArgs false

/-- Two lists in order that hold the same items are one. -/
theorem sorted_perm_eq : ∀ {s t : List It}, SortedI s → SortedI t → s.Perm t → s = t
  | [], t, _, _, hp => (List.Perm.nil_eq hp)
  | x :: s, [], _, _, hp => absurd hp.length_eq (by simp)
  | x :: s, y :: t, hs, ht, hp => by
    obtain ⟨h1, h2⟩ := List.pairwise_cons.1 hs
    obtain ⟨k1, k2⟩ := List.pairwise_cons.1 ht
    have hxy : x = y := by
      have hx : x ∈ y :: t := hp.mem_iff.1 (by simp)
      have hy : y ∈ x :: s := hp.mem_iff.2 (by simp)
      rcases List.mem_cons.1 hx with e | hx
      · exact e
      · rcases List.mem_cons.1 hy with e | hy
        · exact e.symm
        · have a := k1 x hx
          have b := h1 y hy
          rw [ltI_asymm a] at b; cases b
    subst hxy
    rw [sorted_perm_eq h2 k2 (List.perm_cons x |>.1 hp)]
theorem erase_perm {l : List It} {i : Nat} {y : It} (hy : l[i]? = some y) : l.Perm (y :: l.eraseIdx i) := by
  obtain ⟨hi, he⟩ := List.getElem?_eq_some_iff.1 hy
  have hs : l = l.take i ++ y :: l.drop (i + 1) := by rw [← he, ← List.drop_eq_getElem_cons hi, List.take_append_drop]
  rw [List.eraseIdx_eq_take_drop_succ]
  conv => lhs; rw [hs]
  exact List.perm_middle
theorem find_some {l : List It} {y : It} (hy : y ∈ l) : ∃ i z, l.findIdx? (fun x => decide (x.1 = y.1)) = some i ∧ l[i]? = some z ∧ z.1 = y.1 := by
  cases hf : l.findIdx? (fun x => decide (x.1 = y.1)) with
  | none => exact absurd rfl ((idxI_none hf).2 y hy)
  | some i =>
    obtain ⟨_, _, z, hz, he⟩ := idxI_some hf
    exact ⟨i, z, rfl, hz, he⟩
theorem ids_one {l : List It} (h : (l.map (·.1)).Nodup) {y z : It} (hy : y ∈ l) (hz : z ∈ l) (he : y.1 = z.1) : y = z := by
  obtain ⟨i, hi, rfl⟩ := List.mem_iff_getElem.1 hy
  obtain ⟨j, hj, rfl⟩ := List.mem_iff_getElem.1 hz
  have hne := List.pairwise_iff_getElem.1 h
  rcases Nat.lt_trichotomy i j with hlt | rfl | hgt
  · exact absurd (by rw [List.getElem_map, List.getElem_map]; exact he) (hne i j (by simpa using hi) (by simpa using hj) hlt)
  · rfl
  · exact absurd (by rw [List.getElem_map, List.getElem_map]; exact he.symm) (hne j i (by simpa using hj) (by simpa using hi) hgt)
/-- An item that is there is found. -/
theorem find_at {l : List It} (h : (l.map (·.1)).Nodup) {y : It} (hy : y ∈ l) : ∃ i, l.findIdx? (fun x => decide (x.1 = y.1)) = some i ∧ l[i]? = some y := by
  obtain ⟨i, z, hf, hz, he⟩ := find_some hy
  have := ids_one h (List.mem_of_getElem? hz) hy he
  subst this
  exact ⟨i, hf, hz⟩
theorem move_ok {l : List It} (h : (l.map (·.1)).Nodup) {y : It} (hy : y ∈ l) : moveE l y.1 = 0 := by
  obtain ⟨i, hf, _⟩ := find_at h hy
  unfold moveE
  rw [(idxI_some hf).1, if_pos (by omega)]
theorem move_perm {l : List It} (h : (l.map (·.1)).Nodup) {y : It} (hy : y ∈ l) (key : Int) : ∃ i, l[i]? = some y ∧ (moveL l y.1 key).Perm ((y.1, key, y.2.2) :: l.eraseIdx i) := by
  obtain ⟨i, hf, hi⟩ := find_at h hy
  refine ⟨i, hi, ?_⟩
  unfold moveL
  rw [hf]
  simp only [hi]
  exact ins_perm _ _
theorem move_mem {l : List It} (h : (l.map (·.1)).Nodup) {y : It} (hy : y ∈ l) (key : Int) : (y.1, key, y.2.2) ∈ moveL l y.1 key := by
  obtain ⟨i, _, hp⟩ := move_perm h hy key
  exact hp.mem_iff.2 (by simp)
/-- Moved and moved back. -/
theorem move_back {room : Nat} {l : List It} (hi : PInv room l) {y : It} (hy : y ∈ l) (key : Int) : moveL (moveL l y.1 key) y.1 y.2.1 = l := by
  have hm := hi.move y.1 key
  have hz := move_mem hi.ids hy key
  obtain ⟨i, hyi, hp⟩ := move_perm hi.ids hy key
  obtain ⟨j, hzj, hq⟩ := move_perm hm.ids hz y.2.1
  refine sorted_perm_eq ((hm.move y.1 y.2.1).sorted) hi.sorted ?_
  have h1 := (erase_perm hzj).symm.trans hp
  have h2 := (List.perm_cons _).1 h1
  refine hq.trans ?_
  exact (List.Perm.cons _ h2).trans (erase_perm hyi).symm

/-- The first n items of keys. -/
def itsTo (t : Nat → Int) (ks : List Int) (n : Nat) : List It := (List.range n).map fun (j : Nat) => ((j : Int), ks.getD j 0, t j)
theorem itsTo_succ (t : Nat → Int) (ks : List Int) (n : Nat) : itsTo t ks (n + 1) = itsTo t ks n ++ [((n : Int), ks.getD n 0, t n)] := by simp [itsTo, List.range_succ]
theorem itsTo_len (t : Nat → Int) (ks : List Int) (n : Nat) : (itsTo t ks n).length = n := by simp [itsTo]
theorem itsTo_mem {t : Nat → Int} {ks : List Int} {n : Nat} {y : It} : y ∈ itsTo t ks n ↔ ∃ j : Nat, j < n ∧ y = ((j : Int), ks.getD j 0, t j) := by
  simp only [itsTo, List.mem_map, List.mem_range]
  constructor
  · rintro ⟨j, hj, rfl⟩; exact ⟨j, hj, rfl⟩
  · rintro ⟨j, hj, rfl⟩; exact ⟨j, hj, rfl⟩
/-- What a pile holds when the first n keys are pushed. -/
structure Pushed (room : Nat) (t : Nat → Int) (ks : List Int) (n : Nat) (l : List It) : Prop where
  inv : PInv room l
  perm : l.Perm (itsTo t ks n)
section
variable {room : Nat} {t : Nat → Int} {ks : List Int} {n : Nat} {l : List It}
theorem Pushed.start (h1 : 1 ≤ room) (h2 : room ≤ 1000) : Pushed room t ks 0 [] := ⟨PInv.start h1 h2, List.Perm.refl _⟩
theorem Pushed.len (h : Pushed room t ks n l) : l.length = n := by rw [h.perm.length_eq, itsTo_len]
theorem Pushed.new (h : Pushed room t ks n l) : ∀ y ∈ l, y.1 ≠ (n : Int) := fun y hy => by
  obtain ⟨j, hj, rfl⟩ := itsTo_mem.1 (h.perm.mem_iff.1 hy)
  simp only; omega
theorem Pushed.next (h : Pushed room t ks n l) (hn : n < room) : pushE room l ((n : Int), ks.getD n 0, t n) = 0 ∧ Pushed room t ks (n + 1) (pushL room l ((n : Int), ks.getD n 0, t n)) := by
  have hx : idxI (n : Int) l = -1 := idx_out h.new
  have hl := h.len
  refine ⟨by unfold pushE; simp only [hx]; rw [if_neg (by decide), if_neg (by omega)], h.inv.push _, ?_⟩
  unfold pushL
  simp only [hx]
  rw [if_neg (by decide), if_neg (by omega), itsTo_succ]
  exact (ins_perm _ _).trans ((List.Perm.cons _ h.perm).trans (List.perm_append_singleton _ _).symm)
theorem Pushed.has (h : Pushed room t ks n l) {k : Nat} (hk : k < n) : ((k : Int), ks.getD k 0, t k) ∈ l := h.perm.mem_iff.2 (itsTo_mem.2 ⟨k, hk, rfl⟩)
end
/-- An item that is there, dropped. -/
theorem drop_filter {l : List It} (h : (l.map (·.1)).Nodup) {y : It} (hy : y ∈ l) : dropL l y.1 = l.filter (fun z => decide (z.1 ≠ y.1)) := by
  obtain ⟨i, hf, hi⟩ := find_at h hy
  unfold dropL
  rw [hf]
  simp only
  obtain ⟨hil, hie⟩ := List.getElem?_eq_some_iff.1 hi
  have hsplit : l = l.take i ++ y :: l.drop (i + 1) := by
    rw [← hie, ← List.drop_eq_getElem_cons hil, List.take_append_drop]
  have hno : ∀ z ∈ l.eraseIdx i, z.1 ≠ y.1 := ids_erase h hi
  rw [List.eraseIdx_eq_take_drop_succ] at hno ⊢
  conv => rhs; rw [hsplit]
  rw [List.filter_append, List.filter_cons]
  simp only [ne_eq, not_true_eq_false, decide_false, Bool.false_eq_true, if_false]
  rw [List.filter_eq_self.2 (fun z hz => by simpa using hno z (by simp [hz])), List.filter_eq_self.2 (fun z hz => by simpa using hno z (by simp [hz]))]
theorem filter_gone {l : List It} (id : Int) : ∀ y ∈ l.filter (fun z => decide (z.1 ≠ id)), y.1 ≠ id := fun y hy => by
  have := (List.mem_filter.1 hy).2
  simpa using this
/-- What is left of l from place j on, but for the item id. -/
def leftF (id : Int) (l : List It) (j : Nat) : List It := (l.drop j).filter (fun z => decide (z.1 ≠ id))
theorem filt_next {id : Int} {l : List It} {j : Nat} {x : It} (hx : l[j]? = some x) : leftF id l j = if x.1 = id then leftF id l (j + 1) else x :: leftF id l (j + 1) := by
  obtain ⟨hj, he⟩ := List.getElem?_eq_some_iff.1 hx
  unfold leftF
  rw [List.drop_eq_getElem_cons hj, he, List.filter_cons]
  by_cases h : x.1 = id <;> simp [h]
theorem leftF_le (id : Int) (l : List It) (j : Nat) : (leftF id l j).length ≤ l.length := by
  unfold leftF
  exact Nat.le_trans (List.length_filter_le _ _) (by simp)
end Go.Proofs.Ytgbmpnoknmpmcaa
