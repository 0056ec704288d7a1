/- Maths of chapter 13: the way to the answer, by indices. No word of any program. -/
import Derived.Test.YtkjgpidiompmlaaElPress
namespace Go.Proofs.Ytkjgpidiompmlaa
set_option linter.unusedVariables false
set_option linter.unusedSimpArgs false

/-- What stands in the list of shares; who is held. -/
def xOf (p : Sp × Bool) : Int := if p.2 = true then fixS p.1 else p.1.want
def xA (st : List (Sp × Bool)) (k : Nat) : Int := ((st[k]?).map xOf).getD 0
def hA (st : List (Sp × Bool)) (k : Nat) : Bool := ((st[k]?).map (·.2)).getD false
theorem xA_of {st : List (Sp × Bool)} {k : Nat} {p : Sp × Bool} (h : st[k]? = some p) : xA st k = xOf p := by unfold xA; rw [h]; rfl
theorem hA_of {st : List (Sp × Bool)} {k : Nat} {p : Sp × Bool} (h : st[k]? = some p) : hA st k = p.2 := by unfold hA; rw [h]; rfl
theorem xOf_bounds {p : Sp × Bool} (h : p.1.good = true) : 0 ≤ xOf p ∧ xOf p ≤ 67108864 := by
  have := sp_iff.1 h
  unfold xOf fixS
  split
  · split <;> omega
  · omega
/-- The first i looked at. -/
def mixS (D S : Int) (st : List (Sp × Bool)) (i : Nat) : List (Sp × Bool) := (st.take i).map (holdNow D S) ++ st.drop i
theorem mix_get (D S : Int) (st : List (Sp × Bool)) (i k : Nat) : (mixS D S st i)[k]? = if k < i then (st[k]?).map (holdNow D S) else st[k]? := by
  unfold mixS
  rw [List.getElem?_append, List.length_map, List.length_take]
  by_cases c : k < i
  · rw [if_pos c]
    by_cases c2 : k < st.length
    · rw [if_pos (by omega), List.getElem?_map, List.getElem?_take, if_pos c]
    · rw [if_neg (by omega), List.getElem?_drop, List.getElem?_eq_none (by omega), List.getElem?_eq_none (by omega)]; rfl
  · rw [if_neg c]
    by_cases c2 : k < st.length
    · rw [if_neg (by omega), List.getElem?_drop]
      congr 1; omega
    · rw [if_neg (by omega), List.getElem?_drop, List.getElem?_eq_none (by omega), List.getElem?_eq_none (by omega)]
theorem mix_zero (D S : Int) (st : List (Sp × Bool)) : mixS D S st 0 = st := by simp [mixS]
theorem mix_end {D S : Int} {st : List (Sp × Bool)} {i : Nat} (h : st.length ≤ i) : mixS D S st i = st.map (holdNow D S) := by
  unfold mixS
  rw [List.take_of_length_le h, List.drop_eq_nil_of_le h, List.append_nil]
/-- p is to be held now. -/
def chg (D S : Int) (p : Sp × Bool) : Bool := !p.2 && decide ((p.1.want - p.1.least) * S < D * p.1.soft)
theorem hold_same {D S : Int} {p : Sp × Bool} (h : chg D S p = false) : holdNow D S p = p := by
  unfold chg at h
  unfold holdNow
  obtain ⟨s, b⟩ := p
  simp only at h ⊢
  cases b
  · simp only [Bool.not_false, Bool.true_and] at h
    rw [h]; rfl
  · rfl
theorem hold_chg {D S : Int} {p : Sp × Bool} (h : chg D S p = true) : holdNow D S p = (p.1, true) := by
  unfold chg at h
  unfold holdNow
  rw [Bool.and_eq_true] at h
  rw [h.2, Bool.or_true]
theorem xA_same {D S : Int} {st : List (Sp × Bool)} {i : Nat} {p : Sp × Bool} (h : st[i]? = some p) (hc : chg D S p = false) : ∀ k, xA (mixS D S st (i + 1)) k = xA (mixS D S st i) k ∧ hA (mixS D S st (i + 1)) k = hA (mixS D S st i) k := by
  intro k
  unfold xA hA
  rw [mix_get, mix_get]
  by_cases c : k = i
  · subst c
    rw [if_pos (by omega), if_neg (by omega), h]
    simp [hold_same hc]
  · by_cases c2 : k < i
    · rw [if_pos (by omega), if_pos c2]; exact ⟨rfl, rfl⟩
    · rw [if_neg (by omega), if_neg c2]; exact ⟨rfl, rfl⟩
theorem xA_chg {D S : Int} {st : List (Sp × Bool)} {i : Nat} {p : Sp × Bool} (h : st[i]? = some p) (hc : chg D S p = true) (hs : p.1.soft ≠ 0) :
    (∀ k, (if k = i then p.1.least else xA (mixS D S st i) k) = xA (mixS D S st (i + 1)) k) ∧ ∀ k, (if k = i then true else hA (mixS D S st i) k) = hA (mixS D S st (i + 1)) k := by
  have key : ∀ k, k ≠ i → (mixS D S st (i + 1))[k]? = (mixS D S st i)[k]? := fun k c => by
    rw [mix_get, mix_get]
    by_cases c2 : k < i
    · rw [if_pos (by omega), if_pos c2]
    · rw [if_neg (by omega), if_neg c2]
  have at_i : (mixS D S st (i + 1))[i]? = some (p.1, true) := by rw [mix_get, if_pos (by omega), h, Option.map_some, hold_chg hc]
  refine ⟨fun k => ?_, fun k => ?_⟩
  · by_cases c : k = i
    · subst c
      rw [if_pos rfl, xA_of at_i]
      unfold xOf fixS
      rw [if_pos rfl, if_neg hs]
    · rw [if_neg c]; unfold xA; rw [key k c]
  · by_cases c : k = i
    · subst c
      rw [if_pos rfl, hA_of at_i]
    · rw [if_neg c]; unfold hA; rw [key k c]
/-- Has any been? -/
def anyC (D S : Int) (st : List (Sp × Bool)) (i : Nat) : Bool := (st.take i).any (chg D S)
theorem anyC_next {D S : Int} {st : List (Sp × Bool)} {i : Nat} {p : Sp × Bool} (h : st[i]? = some p) : anyC D S st (i + 1) = (anyC D S st i || chg D S p) := by
  unfold anyC
  rw [List.take_add_one, h]; simp
theorem anyC_end {D S : Int} {st : List (Sp × Bool)} {i : Nat} (h : st.length ≤ i) : anyC D S st i = st.any (chg D S) := by unfold anyC; rw [List.take_of_length_le h]
theorem none_done {D S : Int} {st : List (Sp × Bool)} (h : st.any (chg D S) = false) : st.map (holdNow D S) = st ∧ ∀ p ∈ st, p.2 = false → D * p.1.soft ≤ (p.1.want - p.1.least) * S := by
  rw [List.any_eq_false] at h
  refine ⟨?_, fun p hp h2 => ?_⟩
  · conv => rhs; rw [← List.map_id st]
    exact List.map_congr_left fun p hp => hold_same (by simpa using h p hp)
  · have := h p hp
    unfold chg at this
    rw [h2] at this
    simp at this
    exact this
theorem some_less {D S : Int} {st : List (Sp × Bool)} (h : st.any (chg D S) = true) : freeZ (st.map (holdNow D S)) < freeZ st := by
  rw [List.any_eq_true] at h
  obtain ⟨p, hp, hc⟩ := h
  unfold chg at hc
  rw [Bool.and_eq_true, decide_eq_true_eq] at hc
  exact freeZ_step hp (by simpa using hc.1) hc.2
/-! ## Sums on the way -/
theorem smap_nextP {f : Sp × Bool → Int} {st : List (Sp × Bool)} {i : Nat} {p : Sp × Bool} (h : st[i]? = some p) : smap f (st.take (i + 1)) = smap f (st.take i) + f p := by
  unfold smap
  rw [List.take_add_one, h, List.map_append, List.sum_append]
  simp
def sOf (p : Sp × Bool) : Int := if p.2 = true then 0 else p.1.soft
theorem dSt_eq (room : Int) (st : List (Sp × Bool)) : dSt room st = smap xOf st - room := rfl
theorem sSt_eq (st : List (Sp × Bool)) : sSt st = smap sOf st := rfl
theorem smapP_bounds {f : Sp × Bool → Int} {b : Int} : ∀ {l : List (Sp × Bool)}, (∀ s ∈ l, 0 ≤ f s ∧ f s ≤ b) → 0 ≤ smap f l ∧ smap f l ≤ b * (l.length : Int)
  | [], _ => by simp [smap]
  | x :: l, h => by
    have h1 := h x (by simp)
    have h2 := smapP_bounds (f := f) (b := b) (l := l) (fun y hy => h y (by simp [hy]))
    rw [smap_cons, List.length_cons, Int.natCast_add, Int.mul_add]; omega
theorem sOf_bounds {p : Sp × Bool} (h : p.1.good = true) : 0 ≤ sOf p ∧ sOf p ≤ 1000 := by
  have := sp_iff.1 h
  unfold sOf
  split <;> omega
/-! ## The end -/
theorem share_held {room : Int} {st : List (Sp × Bool)} (h : PInv room st) {p : Sp × Bool} (hp : p ∈ st) (h2 : p.2 = true) : shareZ (dSt room st) (sSt st) p.1 = xOf p := by
  have hS := h.pos
  unfold xOf fixS
  rw [if_pos h2]
  unfold shareZ uOf
  by_cases h3 : p.1.soft = 0
  · rw [if_pos h3, if_pos h3, Int.mul_ediv_cancel _ (by omega)]
  · have h4 := h.low p hp h2 h3
    rw [Int.sub_mul] at h4
    rw [if_neg h3, if_neg h3, Int.max_eq_left (by omega), Int.mul_ediv_cancel _ (by omega)]
theorem share_free {D S : Int} {s : Sp} (hg : s.good = true) (hS : 0 < S) (hD : 0 ≤ D) (hs : 0 < s.soft) (hn : D * s.soft ≤ (s.want - s.least) * S) :
    shareZ D S s = s.want - upZ (D * s.soft) S ∧ 0 ≤ upZ (D * s.soft) S ∧ upZ (D * s.soft) S ≤ s.want ∧ upOk (D * s.soft) S = true ∧ upV (D * s.soft) S = upZ (D * s.soft) S := by
  have hb := share_bounds hg hS hD
  have hsp := sp_iff.1 hg
  have e : shareZ D S s = s.want - upZ (D * s.soft) S := by
    unfold shareZ uOf
    rw [Int.sub_mul] at hn
    rw [if_neg (by omega), Int.max_eq_right (by omega)]
    unfold upZ
    rw [show s.want * S - D * s.soft = -(D * s.soft) + s.want * S by omega, Int.add_mul_ediv_right _ _ (by omega)]
    omega
  rw [e] at hb
  have k : upOk (D * s.soft) S = true := by
    unfold upOk
    rw [decide_eq_true (show 1 ≤ S by omega), fitB_true ⟨by omega, by omega⟩]; rfl
  exact ⟨e, by omega, by omega, k, by unfold upV; rw [if_pos k]⟩
/-- The first i shares laid. -/
def finA (D S : Int) (st : List (Sp × Bool)) (i k : Nat) : Int := if k < i then ((st[k]?).map fun p => shareZ D S p.1).getD 0 else xA st k
theorem fin_zero (D S : Int) (st : List (Sp × Bool)) (k : Nat) : finA D S st 0 k = xA st k := by unfold finA; rw [if_neg (by omega)]
theorem fin_same {D S : Int} {st : List (Sp × Bool)} {i : Nat} {p : Sp × Bool} (h : st[i]? = some p) (he : shareZ D S p.1 = xOf p) (k : Nat) : finA D S st i k = finA D S st (i + 1) k := by
  unfold finA
  by_cases c : k = i
  · subst c
    rw [if_neg (by omega), if_pos (by omega), xA_of h, h]
    simp [he]
  · by_cases c2 : k < i
    · rw [if_pos c2, if_pos (by omega)]
    · rw [if_neg c2, if_neg (by omega)]
theorem fin_next {D S : Int} {st : List (Sp × Bool)} {i : Nat} {p : Sp × Bool} (h : st[i]? = some p) {v : Int} (he : shareZ D S p.1 = v) (k : Nat) : (if k = i then v else finA D S st i k) = finA D S st (i + 1) k := by
  unfold finA
  by_cases c : k = i
  · subst c
    rw [if_pos rfl, if_pos (by omega), h]
    simp [he]
  · rw [if_neg c]
    by_cases c2 : k < i
    · rw [if_pos c2, if_pos (by omega)]
    · rw [if_neg c2, if_neg (by omega)]
theorem fin_end {D S : Int} {st : List (Sp × Bool)} {k : Nat} (h : k < st.length) : finA D S st st.length k = ((st.map (·.1)).map (shareZ D S)).getD k 0 := by
  unfold finA
  rw [if_pos h, List.map_map, List.getD, List.getElem?_map]
  rfl
theorem free_count : ∀ (st : List (Sp × Bool)), ((List.range st.length).filter fun k => !hA st k).length = (freeZ st).toNat
  | [] => rfl
  | p :: st => by
    have ih := free_count st
    have h0 := freeZ_nonneg st
    have e1 : ((List.range st.length).map Nat.succ).filter (fun k => !hA (p :: st) k) = ((List.range st.length).filter fun k => !hA st k).map Nat.succ := by
      rw [List.filter_map]
      congr 1
    have e2 : freeZ (p :: st) = (if p.2 = true then 0 else 1) + freeZ st := smap_cons _ _
    rw [List.length_cons, List.range_succ_eq_map, List.filter_cons, e1]
    have e3 : hA (p :: st) 0 = p.2 := rfl
    rw [e3, e2]
    cases p.2
    · simp only [Bool.not_false, if_true, List.length_cons, List.length_map, ih, Bool.false_eq_true, if_false]; omega
    · simp only [Bool.not_true, Bool.false_eq_true, if_false, List.length_map, ih, if_true]; omega
/-- At the beginning. -/
def st0 (l : List Sp) : List (Sp × Bool) := l.map fun s => (s, decide (s.soft = 0))
theorem st0_at {l : List Sp} {k : Nat} {s : Sp} (h : l[k]? = some s) : (st0 l)[k]? = some (s, decide (s.soft = 0)) := by unfold st0; rw [List.getElem?_map, h]; rfl
theorem st0_x {l : List Sp} {k : Nat} {s : Sp} (h : l[k]? = some s) : xA (st0 l) k = s.want ∧ hA (st0 l) k = decide (s.soft = 0) := by
  refine ⟨?_, hA_of (st0_at h)⟩
  rw [xA_of (st0_at h)]
  unfold xOf fixS
  simp only [decide_eq_true_eq]
  split <;> rfl
theorem fst_at {l : List Sp} {st : List (Sp × Bool)} (h : st.map (·.1) = l) {k : Nat} {s : Sp} (hk : l[k]? = some s) : ∃ b, st[k]? = some (s, b) := by
  rw [← h, List.getElem?_map] at hk
  obtain ⟨p, hp, rfl⟩ := Option.map_eq_some_iff.1 hk
  exact ⟨p.2, hp⟩
end Go.Proofs.Ytkjgpidiompmlaa
