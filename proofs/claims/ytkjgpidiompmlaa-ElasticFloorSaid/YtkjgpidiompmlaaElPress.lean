/- Maths of chapter 13: what Press, Floor, Cost answer: there is just one answer; what follows for the statements. No word of any program. -/
import Derived.Test.YtkjgpidiompmlaaElMath
namespace Go.Proofs.Ytkjgpidiompmlaa
set_option linter.unusedVariables false
set_option linter.unusedSimpArgs false

def springsB (l : List Sp) : Bool := decide (l.length ≤ 20) && l.all Sp.good
def roomB (r : Int) : Bool := decide (0 ≤ r ∧ r ≤ 67108864)
theorem springs_iff {l : List Sp} : springsB l = true ↔ l.length ≤ 20 ∧ ∀ s ∈ l, s.good = true := by
  unfold springsB
  rw [Bool.and_eq_true, decide_eq_true_eq, List.all_eq_true]
theorem room_iff {r : Int} : roomB r = true ↔ 0 ≤ r ∧ r ≤ 67108864 := by unfold roomB; rw [decide_eq_true_eq]
/-- What Press answers. -/
def PressR (room : Int) (l : List Sp) (e : Int) (xs : List Int) : Prop :=
  if springsB l && roomB room then
    if floorZ l ≤ room then e = 0 ∧ (if smap Sp.want l ≤ room then xs = l.map Sp.want else ∃ D S, Pressed room l D S ∧ xs = l.map (shareZ D S))
    else e = 9 ∧ xs = []
  else e = 1 ∧ xs = []
theorem PressR.bad {room : Int} {l : List Sp} (h : (springsB l && roomB room) = false) : PressR room l 1 [] := by unfold PressR; rw [h]; exact ⟨rfl, rfl⟩
theorem PressR.nofit {room : Int} {l : List Sp} (h : (springsB l && roomB room) = true) (hf : ¬ floorZ l ≤ room) : PressR room l 9 [] := by unfold PressR; rw [if_pos h, if_neg hf]; exact ⟨rfl, rfl⟩
theorem PressR.all {room : Int} {l : List Sp} (h : (springsB l && roomB room) = true) (hf : floorZ l ≤ room) (hw : smap Sp.want l ≤ room) : PressR room l 0 (l.map Sp.want) := by unfold PressR; rw [if_pos h, if_pos hf, if_pos hw]; exact ⟨rfl, rfl⟩
theorem PressR.part {room : Int} {l : List Sp} {D S : Int} (h : (springsB l && roomB room) = true) (hf : floorZ l ≤ room) (hw : ¬ smap Sp.want l ≤ room) (hp : Pressed room l D S) : PressR room l 0 (l.map (shareZ D S)) := by unfold PressR; rw [if_pos h, if_pos hf, if_neg hw]; exact ⟨rfl, D, S, hp, rfl⟩
theorem PressR.uniq {room : Int} {l : List Sp} {e e' : Int} {xs xs' : List Int} (h : PressR room l e xs) (h' : PressR room l e' xs') : e = e' ∧ xs = xs' := by
  unfold PressR at h h'
  by_cases hg : (springsB l && roomB room) = true
  · rw [if_pos hg] at h h'
    by_cases hf : floorZ l ≤ room
    · rw [if_pos hf] at h h'
      refine ⟨by rw [h.1, h'.1], ?_⟩
      by_cases hw : smap Sp.want l ≤ room
      · rw [if_pos hw] at h h'
        rw [h.2, h'.2]
      · rw [if_neg hw] at h h'
        obtain ⟨_, D, S, hp, rfl⟩ := h
        obtain ⟨_, D', S', hp', rfl⟩ := h'
        exact List.map_congr_left (press_uniq (springs_iff.1 (Bool.and_eq_true_iff.1 hg).1).2 hp hp')
    · rw [if_neg hf] at h h'
      exact ⟨by rw [h.1, h'.1], by rw [h.2, h'.2]⟩
  · rw [if_neg hg] at h h'
    exact ⟨by rw [h.1, h'.1], by rw [h.2, h'.2]⟩
/-! ## It ends -/
/-- How many are not held. -/
def freeZ (st : List (Sp × Bool)) : Int := smap (fun p => if p.2 = true then 0 else 1) st
theorem freeZ_nonneg (st : List (Sp × Bool)) : 0 ≤ freeZ st := smap_nonneg fun p _ => by split <;> omega
theorem freeZ_step {D S : Int} {st : List (Sp × Bool)} {p : Sp × Bool} (hp : p ∈ st) (hf : p.2 = false) (hc : (p.1.want - p.1.least) * S < D * p.1.soft) : freeZ (st.map (holdNow D S)) < freeZ st := by
  unfold freeZ
  rw [smap_map]
  refine smap_lt (fun q _ => ?_) hp ?_
  · unfold holdNow
    cases q.2
    · simp only [Bool.false_or, Bool.false_eq_true, if_false]; split <;> omega
    · simp
  · unfold holdNow
    rw [hf, decide_eq_true hc]
    simp
theorem hold_fst (D S : Int) (st : List (Sp × Bool)) : (st.map (holdNow D S)).map (·.1) = st.map (·.1) := by
  rw [List.map_map]; rfl
theorem press_ends {room : Int} : ∀ (n : Nat) (st : List (Sp × Bool)), PInv room st → floorZ (st.map (·.1)) ≤ room → freeZ st ≤ (n : Int) → ∃ D S, Pressed room (st.map (·.1)) D S := by
  intro n
  induction n with
  | zero =>
    intro st h hf hn
    refine ⟨_, _, h.done fun p hp h2 => ?_⟩
    exfalso
    have : smap (fun _ : Sp × Bool => (0 : Int)) st < freeZ st := smap_lt (fun q _ => by split <;> omega) hp (by rw [if_neg (by simp [h2])]; omega)
    rw [smap_const] at this
    omega
  | succ n ih =>
    intro st h hf hn
    rcases Classical.em (∃ p ∈ st, p.2 = false ∧ (p.1.want - p.1.least) * sSt st < dSt room st * p.1.soft) with ⟨p, hp, h2, h3⟩ | hx
    · have := ih _ (h.step hf) (by rw [hold_fst]; exact hf) (by have := freeZ_step (D := dSt room st) (S := sSt st) hp h2 h3; omega)
      rw [hold_fst] at this
      exact this
    · refine ⟨_, _, h.done fun p hp h2 => ?_⟩
      rcases Int.lt_or_le ((p.1.want - p.1.least) * sSt st) (dSt room st * p.1.soft) with c | c
      · exact absurd ⟨p, hp, h2, c⟩ hx
      · exact c
theorem start_fst (l : List Sp) : (l.map fun s => (s, decide (s.soft = 0))).map (·.1) = l := by
  rw [List.map_map]
  conv => rhs; rw [← List.map_id l]
  rfl
theorem PressR.exists_ (room : Int) (l : List Sp) : ∃ e xs, PressR room l e xs := by
  by_cases hg : (springsB l && roomB room) = true
  · by_cases hf : floorZ l ≤ room
    · by_cases hw : smap Sp.want l ≤ room
      · exact ⟨_, _, PressR.all hg hf hw⟩
      · have hgood := (springs_iff.1 (Bool.and_eq_true_iff.1 hg).1).2
        obtain ⟨D, S, hp⟩ := press_ends (freeZ (l.map fun s => (s, decide (s.soft = 0)))).toNat _ (PInv.start hgood hf (by omega)) (by rw [start_fst]; exact hf) (by have := freeZ_nonneg (l.map fun s => (s, decide (s.soft = 0))); omega)
        rw [start_fst] at hp
        exact ⟨_, _, PressR.part hg hf hw hp⟩
    · exact ⟨_, _, PressR.nofit hg hf⟩
  · exact ⟨_, _, PressR.bad (by simpa using hg)⟩
/-! ## What it says -/
/-- Any answer, taken apart. -/
theorem PressR.cases_ {room : Int} {l : List Sp} {e : Int} {xs : List Int} (h : PressR room l e xs) :
    (e = 1 ∧ xs = [] ∧ (springsB l && roomB room) = false) ∨ (e = 9 ∧ xs = [] ∧ (springsB l && roomB room) = true ∧ room < floorZ l) ∨
    (e = 0 ∧ (springsB l && roomB room) = true ∧ floorZ l ≤ room ∧ ((smap Sp.want l ≤ room ∧ xs = l.map Sp.want) ∨ (room < smap Sp.want l ∧ ∃ D S, Pressed room l D S ∧ xs = l.map (shareZ D S)))) := by
  unfold PressR at h
  by_cases hg : (springsB l && roomB room) = true
  · rw [if_pos hg] at h
    by_cases hf : floorZ l ≤ room
    · rw [if_pos hf] at h
      right; right
      refine ⟨h.1, hg, hf, ?_⟩
      by_cases hw : smap Sp.want l ≤ room
      · rw [if_pos hw] at h; exact .inl ⟨hw, h.2⟩
      · rw [if_neg hw] at h; exact .inr ⟨by omega, h.2⟩
    · rw [if_neg hf] at h
      exact .inr (.inl ⟨h.1, h.2, hg, by omega⟩)
  · rw [if_neg hg] at h
    exact .inl ⟨h.1, h.2, by simpa using hg⟩
theorem PressR.len {room : Int} {l : List Sp} {e : Int} {xs : List Int} (h : PressR room l e xs) : (e = 0 → xs.length = l.length) ∧ (e ≠ 0 → xs = []) ∧ (e = 0 ∨ e = 1 ∨ e = 9) ∧ ∀ x ∈ xs, 0 ≤ x ∧ x ≤ 67108864 := by
  rcases h.cases_ with ⟨rfl, rfl, _⟩ | ⟨rfl, rfl, _⟩ | ⟨rfl, hg, hf, hx⟩
  · exact ⟨fun h => by omega, fun _ => rfl, .inr (.inl rfl), by simp⟩
  · exact ⟨fun h => by omega, fun _ => rfl, .inr (.inr rfl), by simp⟩
  · have hgood := (springs_iff.1 (Bool.and_eq_true_iff.1 hg).1).2
    refine ⟨fun _ => ?_, fun h => absurd rfl h, .inl rfl, ?_⟩
    · rcases hx with ⟨_, rfl⟩ | ⟨_, D, S, _, rfl⟩ <;> simp
    · rcases hx with ⟨_, rfl⟩ | ⟨_, D, S, hp, rfl⟩
      · intro x hx
        obtain ⟨s, hs, rfl⟩ := List.mem_map.1 hx
        have := sp_iff.1 (hgood s hs)
        omega
      · intro x hx
        obtain ⟨s, hs, rfl⟩ := List.mem_map.1 hx
        have h1 := sp_iff.1 (hgood s hs)
        have h2 := share_bounds (hgood s hs) hp.1 hp.2.1
        omega
/-- ElasticHolds. -/
theorem PressR.holds {room : Int} {l : List Sp} {xs : List Int} (h : PressR room l 0 xs) :
    (∀ (i : Nat) (s : Sp) (x : Int), l[i]? = some s → xs[i]? = some x → s.least ≤ x ∧ x ≤ s.want ∧ (s.soft = 0 → x = s.want)) ∧
    (smap Sp.want l ≤ room → xs.sum = smap Sp.want l) ∧ (room < smap Sp.want l → xs.sum ≤ room ∧ room - (l.length : Int) - 1 < xs.sum) := by
  rcases h.cases_ with ⟨h1, _⟩ | ⟨h1, _⟩ | ⟨_, hg, hf, hx⟩
  · omega
  · omega
  · have hgood := (springs_iff.1 (Bool.and_eq_true_iff.1 hg).1).2
    rcases hx with ⟨hw, rfl⟩ | ⟨hw, D, S, hp, rfl⟩
    · refine ⟨fun i s x hs hx => ?_, fun _ => rfl, fun h => by omega⟩
      rw [List.getElem?_map, hs] at hx
      simp at hx
      subst hx
      have := sp_iff.1 (hgood s (List.mem_of_getElem? hs))
      exact ⟨this.1.2.1, Int.le_refl _, fun _ => rfl⟩
    · refine ⟨fun i s x hs hx => ?_, fun h => by omega, fun _ => ?_⟩
      · rw [List.getElem?_map, hs] at hx
        simp at hx
        subst hx
        have := share_bounds (hgood s (List.mem_of_getElem? hs)) hp.1 hp.2.1
        exact ⟨this.1, this.2.1, this.2.2.1⟩
      · have := press_fits hgood hp
        have e : (l.map (shareZ D S)).sum = smap (shareZ D S) l := rfl
        rw [e]; omega
/-- ElasticMore. -/
theorem PressR.more {room by_ : Int} {l : List Sp} {xs ys : List Int} {f : Int} (h : PressR room l 0 xs) (h' : PressR (room + by_) l f ys) (hb : 0 ≤ by_) (hr : room + by_ ≤ 67108864) :
    f = 0 ∧ ∀ (i : Nat) (x y : Int), xs[i]? = some x → ys[i]? = some y → x ≤ y := by
  rcases h.cases_ with ⟨h1, _⟩ | ⟨h1, _⟩ | ⟨_, hg, hf, hx⟩
  · omega
  · omega
  · obtain ⟨g1, g2⟩ := Bool.and_eq_true_iff.1 hg
    have hgood := (springs_iff.1 g1).2
    have hg' : (springsB l && roomB (room + by_)) = true := by
      rw [g1, room_iff.2 ⟨by have := (room_iff.1 g2).1; omega, hr⟩]; rfl
    rcases h'.cases_ with ⟨_, _, h2⟩ | ⟨_, _, _, h2⟩ | ⟨rfl, _, _, hy⟩
    · rw [hg'] at h2; cases h2
    · omega
    · refine ⟨rfl, fun i x y k1 k2 => ?_⟩
      rcases hx with ⟨hw, rfl⟩ | ⟨hw, D, S, hp, rfl⟩
      · rcases hy with ⟨hw', rfl⟩ | ⟨hw', D', S', hp', rfl⟩
        · rw [k1] at k2; injection k2 with k2; omega
        · omega
      · rw [List.getElem?_map] at k1
        obtain ⟨s, hs, rfl⟩ := Option.map_eq_some_iff.1 k1
        have hm := List.mem_of_getElem? hs
        rcases hy with ⟨hw', rfl⟩ | ⟨hw', D', S', hp', rfl⟩
        · rw [List.getElem?_map, hs] at k2
          simp at k2
          subst k2
          exact (share_bounds (hgood s hm) hp.1 hp.2.1).2.1
        · rw [List.getElem?_map, hs] at k2
          simp at k2
          subst k2
          exact press_more hgood hp hp' (by omega) s hm
/-- ElasticBest. -/
theorem PressR.best {room by_ : Int} {l : List Sp} {xs : List Int} (h : PressR room l 0 xs) (h1 : 1 ≤ by_) {i k : Nat} {a b : Sp} {x y : Int} (ha : l[i]? = some a) (hb : l[k]? = some b) (hx : xs[i]? = some x) (hy : xs[k]? = some y)
    (ha0 : a.soft ≠ 0) (hb0 : b.soft ≠ 0) (hle : x + by_ ≤ a.want) (hbl : b.least ≤ y - by_) :
    (a.want - x) * (a.want - x) * b.soft + (b.want - y) * (b.want - y) * a.soft - 2 * by_ * (a.soft + b.soft) ≤
      (a.want - (x + by_)) * (a.want - (x + by_)) * b.soft + (b.want - (y - by_)) * (b.want - (y - by_)) * a.soft := by
  rcases h.cases_ with ⟨h1, _⟩ | ⟨h1, _⟩ | ⟨_, hg, hf, hxs⟩
  · omega
  · omega
  · have hgood := (springs_iff.1 (Bool.and_eq_true_iff.1 hg).1).2
    rcases hxs with ⟨hw, rfl⟩ | ⟨hw, D, S, hp, rfl⟩
    · rw [List.getElem?_map, ha] at hx
      simp at hx
      omega
    · rw [List.getElem?_map, ha] at hx
      rw [List.getElem?_map, hb] at hy
      simp at hx hy
      subst hx
      subst hy
      exact press_best (hgood a (List.mem_of_getElem? ha)) (hgood b (List.mem_of_getElem? hb)) hp.1 hp.2.1 ha0 hb0 h1 hbl
/-- ElasticFloor. -/
theorem PressR.floor {room : Int} {l : List Sp} {e : Int} {xs : List Int} (h : PressR room l e xs) : ((springsB l && roomB room) = false → e = 1) ∧ ((springsB l && roomB room) = true → (e = 9 ↔ room < floorZ l) ∧ (e = 0 ↔ floorZ l ≤ room)) := by
  rcases h.cases_ with ⟨rfl, _, h2⟩ | ⟨rfl, _, h2, h3⟩ | ⟨rfl, h2, h3, _⟩
  · rw [h2]; simp
  · rw [h2]; simp; omega
  · rw [h2]; simp; omega
end Go.Proofs.Ytkjgpidiompmlaa
