/- Maths of chapter 13: springs that are pressed into a room: the only shares; they fit, cost the least, grow with the room. No word of any program. -/
import Derived.Test.YtkjgpidiompmlaaNumMath
namespace Go.Proofs.Ytkjgpidiompmlaa
set_option linter.unusedVariables false
set_option linter.unusedSimpArgs false

/-- A spring. -/
structure Sp where
  want : Int
  least : Int
  soft : Int
instance : Inhabited Sp := ⟨⟨0, 0, 0⟩⟩
def Sp.good (s : Sp) : Bool := (decide (0 ≤ s.least) && (decide (s.least ≤ s.want) && decide (s.want ≤ 67108864))) && (decide (0 ≤ s.soft) && decide (s.soft ≤ 1000))
theorem sp_iff {s : Sp} : s.good = true ↔ (0 ≤ s.least ∧ s.least ≤ s.want ∧ s.want ≤ 67108864) ∧ (0 ≤ s.soft ∧ s.soft ≤ 1000) := by
  unfold Sp.good
  simp only [Bool.and_eq_true, decide_eq_true_eq]
/-! ## Sums -/
def smap {α : Type} (f : α → Int) (l : List α) : Int := (l.map f).sum
section
variable {α : Type} {f g : α → Int}
theorem smap_nil : smap f [] = 0 := rfl
theorem smap_cons (x : α) (l : List α) : smap f (x :: l) = f x + smap f l := by simp [smap]
theorem smap_le : ∀ {l : List α}, (∀ x ∈ l, f x ≤ g x) → smap f l ≤ smap g l
  | [], _ => Int.le_refl _
  | x :: l, h => by
    have := h x (by simp)
    have := smap_le (l := l) (fun y hy => h y (by simp [hy]))
    rw [smap_cons, smap_cons]; omega
theorem smap_lt {l : List α} (h : ∀ x ∈ l, f x ≤ g x) {y : α} (hy : y ∈ l) (hlt : f y < g y) : smap f l < smap g l := by
  induction l with
  | nil => simp at hy
  | cons x l ih =>
    rw [smap_cons, smap_cons]
    have h1 := h x (by simp)
    have h2 := smap_le (l := l) (fun z hz => h z (by simp [hz]))
    rcases List.mem_cons.1 hy with rfl | hy
    · omega
    · have := ih (fun z hz => h z (by simp [hz])) hy
      omega
/-- Where the one is never more, and the sums are alike, each is. -/
theorem smap_same {l : List α} (h : ∀ x ∈ l, f x ≤ g x) (hs : smap g l ≤ smap f l) : ∀ x ∈ l, f x = g x := by
  intro x hx
  have h1 := h x hx
  rcases Int.lt_or_eq_of_le h1 with h2 | h2
  · have := smap_lt h hx h2
    omega
  · exact h2
theorem smap_congr {l : List α} (h : ∀ x ∈ l, f x = g x) : smap f l = smap g l := by
  unfold smap; rw [List.map_congr_left h]
theorem smap_add (f g : α → Int) : ∀ l : List α, smap (fun x => f x + g x) l = smap f l + smap g l
  | [] => rfl
  | x :: l => by rw [smap_cons, smap_cons, smap_cons, smap_add f g l]; omega
theorem smap_sub (f g : α → Int) : ∀ l : List α, smap (fun x => f x - g x) l = smap f l - smap g l
  | [] => rfl
  | x :: l => by rw [smap_cons, smap_cons, smap_cons, smap_sub f g l]; omega
theorem smap_mul (c : Int) (f : α → Int) : ∀ l : List α, smap (fun x => c * f x) l = c * smap f l
  | [] => by rw [smap_nil, smap_nil, Int.mul_zero]
  | x :: l => by rw [smap_cons, smap_cons, smap_mul c f l, Int.mul_add]
theorem smap_const (c : Int) : ∀ l : List α, smap (fun _ => c) l = c * (l.length : Int)
  | [] => by rw [smap_nil, List.length_nil]; omega
  | x :: l => by rw [smap_cons, smap_const c l, List.length_cons, Int.natCast_add, Int.mul_add]; omega
theorem smap_map {β : Type} (h : β → α) (l : List β) : smap f (l.map h) = smap (fun x => f (h x)) l := by
  unfold smap; rw [List.map_map]; rfl
theorem smap_nonneg {l : List α} (h : ∀ x ∈ l, 0 ≤ f x) : 0 ≤ smap f l := by
  have := smap_le (f := fun _ => 0) (g := f) (l := l) h
  rw [smap_const] at this; omega
end
/-! ## Shares under a pressure D / S -/
/-- S times a share. -/
def uOf (D S : Int) (s : Sp) : Int := if s.soft = 0 then s.want * S else max (s.least * S) (s.want * S - D * s.soft)
def shareZ (D S : Int) (s : Sp) : Int := uOf D S s / S
/-- They fill the room. -/
def Pressed (room : Int) (l : List Sp) (D S : Int) : Prop := 0 < S ∧ 0 ≤ D ∧ smap (uOf D S) l = S * room
theorem uOf_bounds {D S : Int} {s : Sp} (hg : s.good = true) (hS : 0 < S) (hD : 0 ≤ D) : s.least * S ≤ uOf D S s ∧ uOf D S s ≤ s.want * S ∧ s.want * S - D * s.soft ≤ uOf D S s := by
  obtain ⟨⟨h1, h2, h3⟩, h4, h5⟩ := sp_iff.1 hg
  have a1 : s.least * S ≤ s.want * S := Int.mul_le_mul_of_nonneg_right h2 (by omega)
  have a2 : 0 ≤ D * s.soft := Int.mul_nonneg hD h4
  unfold uOf
  split
  · omega
  · omega
/-- A greater pressure leaves no more. -/
theorem uOf_less {D S D' S' : Int} (hS : 0 < S) (hS' : 0 < S') (h : D * S' ≤ D' * S) {s : Sp} (hs : 0 ≤ s.soft) : S * uOf D' S' s ≤ S' * uOf D S s := by
  unfold uOf
  have e1 : S * (s.want * S') = S' * (s.want * S) := by rw [← Int.mul_assoc, ← Int.mul_assoc, Int.mul_comm S, Int.mul_comm S', Int.mul_assoc, Int.mul_assoc, Int.mul_comm S S']
  have e2 : S * (s.least * S') = S' * (s.least * S) := by rw [← Int.mul_assoc, ← Int.mul_assoc, Int.mul_comm S, Int.mul_comm S', Int.mul_assoc, Int.mul_assoc, Int.mul_comm S S']
  split
  · rw [e1]; exact Int.le_refl _
  · have h2 : S' * (D * s.soft) ≤ S * (D' * s.soft) := by
      have := Int.mul_le_mul_of_nonneg_right h hs
      have a : S' * (D * s.soft) = D * S' * s.soft := by rw [← Int.mul_assoc, Int.mul_comm S' D]
      have b : S * (D' * s.soft) = D' * S * s.soft := by rw [← Int.mul_assoc, Int.mul_comm S D']
      rw [a, b]; exact this
    have k1 : S * (s.want * S' - D' * s.soft) ≤ S' * (s.want * S - D * s.soft) := by rw [Int.mul_sub, Int.mul_sub]; omega
    rcases Int.le_total (s.least * S') (s.want * S' - D' * s.soft) with c | c
    · rw [Int.max_eq_right c]
      exact Int.le_trans k1 (Int.mul_le_mul_of_nonneg_left (Int.le_max_right _ _) (by omega))
    · rw [Int.max_eq_left c, e2]
      exact Int.mul_le_mul_of_nonneg_left (Int.le_max_left _ _) (by omega)
theorem share_of_le {D S D' S' : Int} (hS : 0 < S) (hS' : 0 < S') {s : Sp} (h : S' * uOf D S s ≤ S * uOf D' S' s) : shareZ D S s ≤ shareZ D' S' s := by
  unfold shareZ
  refine Int.le_ediv_of_mul_le hS' ?_
  have h1 : uOf D S s / S * S ≤ uOf D S s := Int.ediv_mul_le _ (by omega)
  have h2 : S' * (uOf D S s / S * S) ≤ S * uOf D' S' s := Int.le_trans (Int.mul_le_mul_of_nonneg_left h1 (by omega)) h
  have e : S' * (uOf D S s / S * S) = S * (uOf D S s / S * S') := by rw [← Int.mul_assoc, ← Int.mul_assoc, Int.mul_comm S' , Int.mul_comm S (uOf D S s / S), Int.mul_assoc, Int.mul_assoc, Int.mul_comm S' S]
  rw [e] at h2
  exact Int.le_of_mul_le_mul_left h2 hS
/-- With more room nobody has less. -/
theorem press_more {room room' D S D' S' : Int} {l : List Sp} (hg : ∀ s ∈ l, s.good = true) (h : Pressed room l D S) (h' : Pressed room' l D' S') (hr : room ≤ room') : ∀ s ∈ l, shareZ D S s ≤ shareZ D' S' s := by
  obtain ⟨hS, _, hs⟩ := h
  obtain ⟨hS', _, hs'⟩ := h'
  have hsoft : ∀ s ∈ l, 0 ≤ s.soft := fun s hm => (sp_iff.1 (hg s hm)).2.1
  intro s hm
  rcases Int.le_total (D * S') (D' * S) with c | c
  · have hle : ∀ x ∈ l, S * uOf D' S' x ≤ S' * uOf D S x := fun x hx => uOf_less hS hS' c (hsoft x hx)
    have hsum : smap (fun x => S' * uOf D S x) l ≤ smap (fun x => S * uOf D' S' x) l := by
      rw [smap_mul, smap_mul, hs, hs', ← Int.mul_assoc, ← Int.mul_assoc, Int.mul_comm S' S]
      exact Int.mul_le_mul_of_nonneg_left hr (Int.mul_nonneg (by omega) (by omega))
    have := smap_same hle hsum s hm
    exact share_of_le hS hS' (by omega)
  · exact share_of_le hS hS' (uOf_less hS' hS c (hsoft s hm))
/-- There is but one answer. -/
theorem press_uniq {room D S D' S' : Int} {l : List Sp} (hg : ∀ s ∈ l, s.good = true) (h : Pressed room l D S) (h' : Pressed room l D' S') : ∀ s ∈ l, shareZ D S s = shareZ D' S' s := fun s hm => by
  have h1 := press_more hg h h' (Int.le_refl _) s hm
  have h2 := press_more hg h' h (Int.le_refl _) s hm
  omega
theorem share_bounds {D S : Int} {s : Sp} (hg : s.good = true) (hS : 0 < S) (hD : 0 ≤ D) : s.least ≤ shareZ D S s ∧ shareZ D S s ≤ s.want ∧ (s.soft = 0 → shareZ D S s = s.want) ∧ shareZ D S s * S ≤ uOf D S s ∧ uOf D S s < shareZ D S s * S + S := by
  obtain ⟨h1, h2, _⟩ := uOf_bounds hg hS hD
  have m1 : shareZ D S s * S ≤ uOf D S s := Int.ediv_mul_le _ (by omega)
  have m2 : uOf D S s < (shareZ D S s + 1) * S := Int.lt_ediv_add_one_mul_self _ hS
  rw [Int.add_mul, Int.one_mul] at m2
  refine ⟨Int.le_ediv_of_mul_le hS h1, ?_, fun h0 => ?_, m1, m2⟩
  · have : shareZ D S s * S ≤ s.want * S := Int.le_trans m1 h2
    exact Int.le_of_mul_le_mul_right this hS
  · unfold shareZ uOf
    rw [if_pos h0]
    exact Int.mul_ediv_cancel _ (by omega)
/-- It fits, and little is lost by rounding. -/
theorem press_fits {room D S : Int} {l : List Sp} (hg : ∀ s ∈ l, s.good = true) (h : Pressed room l D S) : smap (shareZ D S) l ≤ room ∧ room < smap (shareZ D S) l + (l.length : Int) + 1 := by
  obtain ⟨hS, hD, hs⟩ := h
  have a1 : smap (fun s => S * shareZ D S s) l ≤ smap (uOf D S) l := smap_le fun s hm => by have := (share_bounds (hg s hm) hS hD).2.2.2.1; rw [Int.mul_comm]; exact this
  have a2 : smap (uOf D S) l ≤ smap (fun s => S * shareZ D S s + S) l := smap_le fun s hm => by have := (share_bounds (hg s hm) hS hD).2.2.2.2; rw [Int.mul_comm S]; omega
  rw [smap_add, smap_const, smap_mul, hs] at a2
  rw [smap_mul, hs] at a1
  refine ⟨Int.le_of_mul_le_mul_left a1 hS, ?_⟩
  have e : S * smap (shareZ D S) l + S * (l.length : Int) = S * (smap (shareZ D S) l + (l.length : Int)) := by rw [Int.mul_add]
  rw [e] at a2
  have := Int.le_of_mul_le_mul_left a2 hS
  omega
/-- ElasticBest. -/
theorem press_best {D S by_ : Int} {a b : Sp} (ha : a.good = true) (hb : b.good = true) (hS : 0 < S) (hD : 0 ≤ D) (ha0 : a.soft ≠ 0) (hb0 : b.soft ≠ 0) (h1 : 1 ≤ by_) (hbl : b.least ≤ shareZ D S b - by_) :
    (a.want - shareZ D S a) * (a.want - shareZ D S a) * b.soft + (b.want - shareZ D S b) * (b.want - shareZ D S b) * a.soft - 2 * by_ * (a.soft + b.soft) ≤
      (a.want - (shareZ D S a + by_)) * (a.want - (shareZ D S a + by_)) * b.soft + (b.want - (shareZ D S b - by_)) * (b.want - (shareZ D S b - by_)) * a.soft := by
  obtain ⟨_, a4, a5⟩ := sp_iff.1 ha
  obtain ⟨_, b4, b5⟩ := sp_iff.1 hb
  obtain ⟨p1, p2, _, p4, p5⟩ := share_bounds ha hS hD
  obtain ⟨q1, q2, _, q4, q5⟩ := share_bounds hb hS hD
  have ua := (uOf_bounds ha hS hD).2.2
  -- b is above its least: what it lost is in truth D / S times its softness
  have hub : uOf D S b = b.want * S - D * b.soft := by
    have hgt : b.least * S < uOf D S b := by
      have : (b.least + 1) * S ≤ shareZ D S b * S := Int.mul_le_mul_of_nonneg_right (by omega) (by omega)
      rw [Int.add_mul, Int.one_mul] at this
      omega
    unfold uOf at hgt ⊢
    rw [if_neg hb0] at hgt ⊢
    omega
  generalize shareZ D S a = x at *
  generalize shareZ D S b = y at *
  obtain ⟨da, hda⟩ : ∃ z, a.want - x = z := ⟨_, rfl⟩
  obtain ⟨db, hdb⟩ : ∃ z, b.want - y = z := ⟨_, rfl⟩
  have e1 : a.want - (x + by_) = da - by_ := by omega
  have e2 : b.want - (y - by_) = db + by_ := by omega
  rw [e1, e2, hda, hdb]
  -- da * S < D * soft a + S ; D * soft b <= db * S
  have k1 : da * S ≤ D * a.soft + S := by rw [← hda, Int.sub_mul]; omega
  have k2 : D * b.soft ≤ db * S := by rw [← hdb, Int.sub_mul]; omega
  have m1 : da * S * b.soft ≤ (D * a.soft + S) * b.soft := Int.mul_le_mul_of_nonneg_right k1 b4
  have m2 : D * b.soft * a.soft ≤ db * S * a.soft := Int.mul_le_mul_of_nonneg_right k2 a4
  have m3 : S * (da * b.soft) ≤ S * (db * a.soft + b.soft) := by
    have f1 : da * S * b.soft = S * (da * b.soft) := by rw [Int.mul_comm da S, Int.mul_assoc]
    have f2 : (D * a.soft + S) * b.soft = D * b.soft * a.soft + S * b.soft := by rw [Int.add_mul, Int.mul_assoc, Int.mul_assoc, Int.mul_comm a.soft]
    have f3 : db * S * a.soft = S * (db * a.soft) := by rw [Int.mul_comm db S, Int.mul_assoc]
    rw [Int.mul_add]
    omega
  have m4 := Int.le_of_mul_le_mul_left m3 hS
  have g1 : (da - by_) * (da - by_) * b.soft = da * da * b.soft - 2 * (by_ * (da * b.soft)) + by_ * by_ * b.soft := by grind
  have g2 : (db + by_) * (db + by_) * a.soft = db * db * a.soft + 2 * (by_ * (db * a.soft)) + by_ * by_ * a.soft := by grind
  have g3 : 2 * by_ * (a.soft + b.soft) = 2 * (by_ * a.soft) + 2 * (by_ * b.soft) := by grind
  have s1 : 0 ≤ by_ * by_ * b.soft := Int.mul_nonneg (Int.mul_nonneg (by omega) (by omega)) b4
  have s2 : 0 ≤ by_ * by_ * a.soft := Int.mul_nonneg (Int.mul_nonneg (by omega) (by omega)) a4
  have s3 : by_ * (da * b.soft) ≤ by_ * (db * a.soft + b.soft) := Int.mul_le_mul_of_nonneg_left m4 (by omega)
  have s4 : 0 ≤ by_ * a.soft := Int.mul_nonneg (by omega) a4
  rw [Int.mul_add] at s3
  rw [g1, g2, g3]
  omega
/-! ## The way to it: some are held -/
def fixS (s : Sp) : Int := if s.soft = 0 then s.want else s.least
def floorZ (l : List Sp) : Int := smap fixS l
def dSt (room : Int) (st : List (Sp × Bool)) : Int := smap (fun p => if p.2 = true then fixS p.1 else p.1.want) st - room
def sSt (st : List (Sp × Bool)) : Int := smap (fun p => if p.2 = true then 0 else p.1.soft) st
structure PInv (room : Int) (st : List (Sp × Bool)) : Prop where
  good : ∀ p ∈ st, p.1.good = true
  pos : 0 < sSt st
  dpos : 0 < dSt room st
  free : ∀ p ∈ st, p.2 = false → 0 < p.1.soft
  low : ∀ p ∈ st, p.2 = true → p.1.soft ≠ 0 → (p.1.want - p.1.least) * sSt st < dSt room st * p.1.soft
/-- None is to be held any more: that is the answer. -/
theorem PInv.done {room : Int} {st : List (Sp × Bool)} (h : PInv room st) (hn : ∀ p ∈ st, p.2 = false → dSt room st * p.1.soft ≤ (p.1.want - p.1.least) * sSt st) : Pressed room (st.map (·.1)) (dSt room st) (sSt st) := by
  refine ⟨h.pos, Int.le_of_lt h.dpos, ?_⟩
  rw [smap_map]
  have e : ∀ p ∈ st, uOf (dSt room st) (sSt st) p.1 = sSt st * (if p.2 = true then fixS p.1 else p.1.want) - dSt room st * (if p.2 = true then 0 else p.1.soft) := by
    intro p hp
    have hS := h.pos
    cases h2 : p.2
    · have h3 := h.free p hp h2
      have h4 := hn p hp h2
      rw [Int.sub_mul] at h4
      unfold uOf
      rw [if_neg (by omega), if_neg (by simp), if_neg (by simp), Int.mul_comm (sSt st)]
      omega
    · rw [if_pos rfl, if_pos rfl, Int.mul_zero, Int.sub_zero]
      unfold uOf fixS
      by_cases h3 : p.1.soft = 0
      · rw [if_pos h3, if_pos h3, Int.mul_comm]
      · have h4 := h.low p hp h2 h3
        rw [Int.sub_mul] at h4
        rw [if_neg h3, if_neg h3, Int.mul_comm (sSt st)]
        omega
  rw [smap_congr e, smap_sub, smap_mul, smap_mul]
  have e2 : smap (fun p : Sp × Bool => if p.2 = true then fixS p.1 else p.1.want) st = dSt room st + room := by unfold dSt; omega
  have e3 : smap (fun p : Sp × Bool => if p.2 = true then 0 else p.1.soft) st = sSt st := rfl
  rw [e2, e3, Int.mul_add, Int.mul_comm (dSt room st) (sSt st)]
  omega
/-- Which ones are to be held now. -/
def holdNow (D S : Int) (p : Sp × Bool) : Sp × Bool := (p.1, p.2 || decide ((p.1.want - p.1.least) * S < D * p.1.soft))
theorem PInv.step {room : Int} {st : List (Sp × Bool)} (h : PInv room st) (hf : floorZ (st.map (·.1)) ≤ room) : PInv room (st.map (holdNow (dSt room st) (sSt st))) := by
  obtain ⟨D, hD⟩ : ∃ D, dSt room st = D := ⟨_, rfl⟩
  obtain ⟨S, hS⟩ : ∃ S, sSt st = S := ⟨_, rfl⟩
  rw [hD, hS]
  have hpos := h.pos
  have hdpos := h.dpos
  have hlow := h.low
  rw [hS] at hpos hlow
  rw [hD] at hdpos hlow
  obtain ⟨D', hD'⟩ : ∃ D', dSt room (st.map (holdNow D S)) = D' := ⟨_, rfl⟩
  obtain ⟨S', hS'⟩ : ∃ S', sSt (st.map (holdNow D S)) = S' := ⟨_, rfl⟩
  have hgood : ∀ q ∈ st.map (holdNow D S), q.1.good = true := fun q hq => by
    obtain ⟨p, hp, rfl⟩ := List.mem_map.1 hq
    exact h.good p hp
  have hfree : ∀ q ∈ st.map (holdNow D S), q.2 = false → 0 < q.1.soft := fun q hq h2 => by
    obtain ⟨p, hp, rfl⟩ := List.mem_map.1 hq
    have : p.2 = false := by
      cases hp2 : p.2
      · rfl
      · unfold holdNow at h2; rw [hp2] at h2; simp at h2
    exact h.free p hp this
  -- what is won by holding
  let e : Sp × Bool → Int := fun p => if p.2 = false ∧ (p.1.want - p.1.least) * S < D * p.1.soft then D * p.1.soft - (p.1.want - p.1.least) * S else 0
  have he0 : ∀ p ∈ st, 0 ≤ e p := fun p _ => by simp only [e]; split <;> omega
  have hterm : ∀ p ∈ st, S * (if (holdNow D S p).2 = true then fixS (holdNow D S p).1 else (holdNow D S p).1.want) - D * (if (holdNow D S p).2 = true then 0 else (holdNow D S p).1.soft) =
      (S * (if p.2 = true then fixS p.1 else p.1.want) - D * (if p.2 = true then 0 else p.1.soft)) + e p := fun p hp => by
    simp only [e]
    unfold holdNow
    simp only
    cases h2 : p.2
    · have h3 := h.free p hp h2
      by_cases hc : (p.1.want - p.1.least) * S < D * p.1.soft
      · rw [decide_eq_true hc]
        simp only [Bool.false_or, if_true, true_and]
        rw [if_pos hc, if_neg (by simp), if_neg (by simp)]
        unfold fixS
        rw [if_neg (by omega), Int.mul_zero, Int.sub_mul, Int.mul_comm S, Int.mul_comm S]
        omega
      · rw [decide_eq_false hc]
        simp [hc]
    · simp
  have hsum : S * D' - D * S' = smap e st := by
    have h1 : smap (fun q : Sp × Bool => S * (if q.2 = true then fixS q.1 else q.1.want) - D * (if q.2 = true then 0 else q.1.soft)) (st.map (holdNow D S)) = S * (D' + room) - D * S' := by
      rw [smap_sub, smap_mul, smap_mul]
      have e2 : smap (fun p : Sp × Bool => if p.2 = true then fixS p.1 else p.1.want) (st.map (holdNow D S)) = D' + room := by rw [← hD']; unfold dSt; omega
      have e3 : smap (fun p : Sp × Bool => if p.2 = true then 0 else p.1.soft) (st.map (holdNow D S)) = S' := hS'
      rw [e2, e3]
    have h2 : smap (fun q : Sp × Bool => S * (if q.2 = true then fixS q.1 else q.1.want) - D * (if q.2 = true then 0 else q.1.soft)) st = S * (D + room) - D * S := by
      rw [smap_sub, smap_mul, smap_mul]
      have e2 : smap (fun p : Sp × Bool => if p.2 = true then fixS p.1 else p.1.want) st = D + room := by rw [← hD]; unfold dSt; omega
      have e3 : smap (fun p : Sp × Bool => if p.2 = true then 0 else p.1.soft) st = S := hS
      rw [e2, e3]
    rw [smap_map, smap_congr hterm, smap_add, h2] at h1
    rw [Int.mul_add, Int.mul_add, Int.mul_comm S D] at h1
    omega
  have hes := smap_nonneg he0
  have hS0 : 0 ≤ S' := by
    rw [← hS']
    refine smap_nonneg fun q hq => ?_
    split
    · omega
    · exact (sp_iff.1 (hgood q hq)).2.1
  have hSp : 0 < S' := by
    rcases Int.lt_or_eq_of_le hS0 with h1 | h1
    · exact h1
    · exfalso
      -- all are held
      have hall : ∀ q ∈ st.map (holdNow D S), q.2 = true := fun q hq => by
        cases h2 : q.2
        · exfalso
          have h3 := hfree q hq h2
          have : smap (fun _ : Sp × Bool => (0 : Int)) (st.map (holdNow D S)) < sSt (st.map (holdNow D S)) := smap_lt (fun p hp => by
            split
            · omega
            · exact (sp_iff.1 (hgood p hp)).2.1) hq (by rw [if_neg (by simp [h2])]; exact h3)
          rw [smap_const, hS'] at this
          omega
        · rfl
      have hDle : D' ≤ 0 := by
        rw [← hD']
        unfold dSt
        have : smap (fun p : Sp × Bool => if p.2 = true then fixS p.1 else p.1.want) (st.map (holdNow D S)) = floorZ (st.map (·.1)) := by
          rw [smap_congr (g := fun p : Sp × Bool => fixS p.1) (fun p hp => by rw [if_pos (hall p hp)]), smap_map]
          unfold floorZ
          rw [smap_map]
          rfl
        rw [this]; omega
      -- some one was let free before
      obtain ⟨p, hp, hpf⟩ : ∃ p ∈ st, p.2 = false := by
        rcases Classical.em (∃ p ∈ st, p.2 = false) with h | h
        · exact h
        · exfalso
          have : sSt st = 0 := by
            unfold sSt
            rw [smap_congr (g := fun _ => 0) (fun p hp => by
              rw [if_pos]
              cases h2 : p.2
              · exact absurd ⟨p, hp, h2⟩ h
              · rfl), smap_const]; omega
          omega
      have hc : (p.1.want - p.1.least) * S < D * p.1.soft := by
        have := hall (holdNow D S p) (List.mem_map.2 ⟨p, hp, rfl⟩)
        unfold holdNow at this
        rw [hpf] at this
        simpa using this
      have : smap (fun _ : Sp × Bool => (0 : Int)) st < smap e st := smap_lt he0 hp (by
        simp only [e]
        rw [if_pos ⟨hpf, hc⟩]; omega)
      rw [smap_const, ← hsum, ← h1, Int.mul_zero] at this
      have h5 : S * D' ≤ 0 := by
        have := Int.mul_le_mul_of_nonneg_left hDle (show 0 ≤ S by omega)
        rw [Int.mul_zero] at this; exact this
      omega
  have hmul : D * S' ≤ S * D' := by omega
  have hDp : 0 < D' := by
    have h1 : 0 < D * S' := Int.mul_pos hdpos hSp
    have h2 : 0 < S * D' := by omega
    exact Int.pos_of_mul_pos_right h2 (by omega)
  refine ⟨hgood, by rw [hS']; exact hSp, by rw [hD']; exact hDp, hfree, fun q hq h2 h3 => ?_⟩
  rw [hS', hD']
  obtain ⟨p, hp, rfl⟩ := List.mem_map.1 hq
  have hlt : (p.1.want - p.1.least) * S < D * p.1.soft := by
    cases h4 : p.2
    · unfold holdNow at h2
      rw [h4] at h2
      simpa using h2
    · exact hlow p hp h4 h3
  show (p.1.want - p.1.least) * S' < D' * p.1.soft
  have hsoft : 0 ≤ p.1.soft := (sp_iff.1 (h.good p hp)).2.1
  have a1 : (p.1.want - p.1.least) * S * S' < D * p.1.soft * S' := Int.mul_lt_mul_of_pos_right hlt hSp
  have a2 : D * S' * p.1.soft ≤ S * D' * p.1.soft := Int.mul_le_mul_of_nonneg_right hmul hsoft
  have a3 : S * ((p.1.want - p.1.least) * S') < S * (D' * p.1.soft) := by
    have f1 : (p.1.want - p.1.least) * S * S' = S * ((p.1.want - p.1.least) * S') := by rw [Int.mul_comm _ S, Int.mul_assoc]
    have f2 : D * p.1.soft * S' = D * S' * p.1.soft := by rw [Int.mul_assoc, Int.mul_comm p.1.soft, Int.mul_assoc]
    have f3 : S * D' * p.1.soft = S * (D' * p.1.soft) := Int.mul_assoc _ _ _
    omega
  exact Int.lt_of_mul_lt_mul_left a3 (by omega)
/-- The beginning: the rigid ones are held. -/
theorem PInv.start {room : Int} {l : List Sp} (hg : ∀ s ∈ l, s.good = true) (hf : floorZ l ≤ room) (hw : room < smap Sp.want l) : PInv room (l.map fun s => (s, decide (s.soft = 0))) := by
  have e1 : dSt room (l.map fun s => (s, decide (s.soft = 0))) = smap Sp.want l - room := by
    unfold dSt
    rw [smap_map]
    congr 1
    refine smap_congr fun s _ => ?_
    simp only [decide_eq_true_eq]
    unfold fixS
    split <;> rfl
  refine ⟨fun p hp => ?_, ?_, by rw [e1]; omega, fun p hp h2 => ?_, fun p hp h2 h3 => ?_⟩
  · obtain ⟨s, hs, rfl⟩ := List.mem_map.1 hp
    exact hg s hs
  · have h0 : 0 ≤ sSt (l.map fun s => (s, decide (s.soft = 0))) := smap_nonneg fun p hp => by
      obtain ⟨s, hs, rfl⟩ := List.mem_map.1 hp
      split
      · omega
      · exact (sp_iff.1 (hg s hs)).2.1
    rcases Int.lt_or_eq_of_le h0 with h1 | h1
    · exact h1
    · exfalso
      have hz : ∀ s ∈ l, s.soft = 0 := fun s hs => by
        rcases Classical.em (s.soft = 0) with h | h
        · exact h
        · exfalso
          have hsp := (sp_iff.1 (hg s hs)).2.1
          have : smap (fun _ : Sp × Bool => (0 : Int)) (l.map fun s => (s, decide (s.soft = 0))) < sSt (l.map fun s => (s, decide (s.soft = 0))) := smap_lt (fun p hp => by
            obtain ⟨u, hu, rfl⟩ := List.mem_map.1 hp
            split
            · omega
            · exact (sp_iff.1 (hg u hu)).2.1) (List.mem_map.2 ⟨s, hs, rfl⟩) (by
              simp only [decide_eq_true_eq]
              rw [if_neg h]; omega)
          rw [smap_const] at this
          omega
      have : floorZ l = smap Sp.want l := smap_congr fun s hs => by unfold fixS; rw [if_pos (hz s hs)]
      omega
  · obtain ⟨s, hs, rfl⟩ := List.mem_map.1 hp
    have := (sp_iff.1 (hg s hs)).2.1
    have : s.soft ≠ 0 := by simpa using h2
    show 0 < s.soft
    omega
  · obtain ⟨s, hs, rfl⟩ := List.mem_map.1 hp
    exact absurd (by simpa using h2) h3
end Go.Proofs.Ytkjgpidiompmlaa
