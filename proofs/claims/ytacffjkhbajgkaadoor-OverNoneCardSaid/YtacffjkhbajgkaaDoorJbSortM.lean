/- The maths of a stable sort of indices: rows as functions of places; exchanges, moves, rotations; what is sorted by a deadline and then by index. -/
import Derived.Test.YtacffjkhbajgkaaDoorNumMath
namespace Go.Proofs.YtacffjkhbajgkaaDoor
set_option linter.unusedVariables false

/-- Ordered by deadline, then by index. -/
def TT (dl : Int → Int) (x y : Int) : Prop := dl x < dl y ∨ (dl x = dl y ∧ x < y)
theorem TT.trans {dl : Int → Int} {x y z : Int} (h : TT dl x y) (k : TT dl y z) : TT dl x z := by unfold TT at *; omega
theorem TT.of_lt {dl : Int → Int} {x y : Int} (h : dl x < dl y) : TT dl x y := Or.inl h
theorem TT.of_ge {dl : Int → Int} {x y : Int} (h : ¬ dl x < dl y) (k : y < x) : TT dl y x := by unfold TT; omega
theorem TT.irr {dl : Int → Int} {x : Int} (h : TT dl x x) : False := by unfold TT at h; omega

/-- Sorted from a to b. -/
def Srt (dl : Int → Int) (f : Nat → Int) (a b : Nat) : Prop := ∀ p q, a ≤ p → p < q → q < b → TT dl (f p) (f q)
/-- The same values between a and b, the rest left alone. -/
structure Same (f g : Nat → Int) (a b : Nat) : Prop where
  out : ∀ k, ¬ (a ≤ k ∧ k < b) → g k = f k
  to : ∀ k, a ≤ k → k < b → ∃ k', a ≤ k' ∧ k' < b ∧ g k = f k'
  fro : ∀ k, a ≤ k → k < b → ∃ k', a ≤ k' ∧ k' < b ∧ f k = g k'
theorem Same.refl (f : Nat → Int) (a b : Nat) : Same f f a b := ⟨fun _ _ => rfl, fun k h1 h2 => ⟨k, h1, h2, rfl⟩, fun k h1 h2 => ⟨k, h1, h2, rfl⟩⟩
theorem Same.trans {f g h : Nat → Int} {a b : Nat} (s : Same f g a b) (t : Same g h a b) : Same f h a b := by
  refine ⟨fun k hk => (t.out k hk).trans (s.out k hk), ?_, ?_⟩
  · intro k h1 h2
    obtain ⟨k', h3, h4, e⟩ := t.to k h1 h2
    obtain ⟨k2, h5, h6, e2⟩ := s.to k' h3 h4
    exact ⟨k2, h5, h6, e.trans e2⟩
  · intro k h1 h2
    obtain ⟨k', h3, h4, e⟩ := s.fro k h1 h2
    obtain ⟨k2, h5, h6, e2⟩ := t.fro k' h3 h4
    exact ⟨k2, h5, h6, e.trans e2⟩
theorem Same.wide {f g : Nat → Int} {a b a' b' : Nat} (s : Same f g a b) (h1 : a' ≤ a) (h2 : b ≤ b') : Same f g a' b' := by
  refine ⟨fun k hk => s.out k (by omega), ?_, ?_⟩
  · intro k k1 k2
    by_cases hk : a ≤ k ∧ k < b
    · obtain ⟨k', h3, h4, e⟩ := s.to k hk.1 hk.2
      exact ⟨k', by omega, by omega, e⟩
    · exact ⟨k, k1, k2, s.out k hk⟩
  · intro k k1 k2
    by_cases hk : a ≤ k ∧ k < b
    · obtain ⟨k', h3, h4, e⟩ := s.fro k hk.1 hk.2
      exact ⟨k', by omega, by omega, e⟩
    · exact ⟨k, k1, k2, (s.out k hk).symm⟩

/-- Two places exchanged. -/
def swp (f : Nat → Int) (i j : Nat) : Nat → Int := fun k => if k = i then f j else if k = j then f i else f k
theorem swp_same (f : Nat → Int) {i j a b : Nat} (h1 : a ≤ i) (h2 : i < b) (h3 : a ≤ j) (h4 : j < b) : Same f (swp f i j) a b := by
  refine ⟨fun k hk => ?_, fun k k1 k2 => ?_, fun k k1 k2 => ?_⟩
  · unfold swp; rw [if_neg (by omega), if_neg (by omega)]
  · by_cases e : k = i
    · exact ⟨j, h3, h4, by unfold swp; rw [if_pos e]⟩
    · by_cases e2 : k = j
      · exact ⟨i, h1, h2, by unfold swp; rw [if_neg e, if_pos e2]⟩
      · exact ⟨k, k1, k2, by unfold swp; rw [if_neg e, if_neg e2]⟩
  · by_cases e : k = i
    · refine ⟨j, h3, h4, ?_⟩; unfold swp; subst e
      by_cases e2 : j = k
      · rw [if_pos e2, e2]
      · rw [if_neg e2, if_pos rfl]
    · by_cases e2 : k = j
      · exact ⟨i, h1, h2, by unfold swp; rw [if_pos rfl, e2]⟩
      · exact ⟨k, k1, k2, by unfold swp; rw [if_neg e, if_neg e2]⟩

/-! ## insertion -/
/-- Behind a round: the places from a to i, all but the one at j known to stand right. -/
structure Ins (dl : Int → Int) (f g : Nat → Int) (a i j : Nat) : Prop where
  same : Same f g a (i + 1)
  pairs : ∀ p q, a ≤ p → p < q → q ≤ i → q ≠ j → TT dl (g p) (g q)
  idx : ∀ p, a ≤ p → p < j → g p < g j
theorem Ins.start {dl : Int → Int} {f g : Nat → Int} {a i : Nat} (hs : Same f g a i) (hd : Srt dl g a i) (hinc : ∀ p q, a ≤ p → p < q → q ≤ i → f p < f q) : Ins dl f g a i i := by
  refine ⟨hs.wide (Nat.le_refl _) (by omega), fun p q h1 h2 h3 h4 => hd p q h1 h2 (by omega), fun p h1 h2 => ?_⟩
  obtain ⟨k, k1, k2, e⟩ := hs.to p h1 h2
  rw [e, hs.out i (by omega)]
  exact hinc k i k1 k2 (Nat.le_refl _)
theorem Ins.stop {dl : Int → Int} {f g : Nat → Int} {a i j : Nat} (h : Ins dl f g a i j) (hj : j ≤ a ∨ (a < j ∧ ¬ dl (g j) < dl (g (j - 1)))) : Same f g a (i + 1) ∧ Srt dl g a (i + 1) := by
  refine ⟨h.same, fun p q h1 h2 h3 => ?_⟩
  by_cases e : q = j
  · subst e
    rcases hj with hj | ⟨hj, hn⟩
    · omega
    · have t := TT.of_ge hn (h.idx (q - 1) (by omega) (by omega))
      by_cases e2 : p = q - 1
      · rw [e2]; exact t
      · exact (h.pairs p (q - 1) h1 (by omega) (by omega) (by omega)).trans t
  · exact h.pairs p q h1 h2 (by omega) e
theorem Ins.go {dl : Int → Int} {f g : Nat → Int} {a i j : Nat} (h : Ins dl f g a i j) (haj : a < j) (hji : j ≤ i) (hl : dl (g j) < dl (g (j - 1))) : Ins dl f (swp g j (j - 1)) a i (j - 1) := by
  refine ⟨h.same.trans (swp_same g (by omega) (by omega) (by omega) (by omega)), fun p q h1 h2 h3 h4 => ?_, fun p h1 h2 => ?_⟩
  · unfold swp
    by_cases q1 : q = j
    · rw [if_pos q1]
      by_cases p1 : p = j - 1
      · rw [if_neg (by omega), if_pos p1]; exact TT.of_lt hl
      · rw [if_neg (by omega), if_neg p1]; exact h.pairs p (j - 1) h1 (by omega) (by omega) (by omega)
    · rw [if_neg q1, if_neg h4]
      by_cases p1 : p = j
      · rw [if_pos p1]; exact h.pairs (j - 1) q (by omega) (by omega) h3 q1
      · rw [if_neg p1]
        by_cases p2 : p = j - 1
        · rw [if_pos p2]; exact h.pairs j q (by omega) (by omega) h3 q1
        · rw [if_neg p2]; exact h.pairs p q h1 h2 h3 q1
  · unfold swp
    rw [if_neg (by omega), if_neg (by omega), if_neg (by omega), if_pos rfl]
    exact h.idx p h1 (by omega)

/-! ## one element moved -/
def mvUp (f : Nat → Int) (a k : Nat) : Nat → Int := fun q => if a ≤ q ∧ q < k then f (q + 1) else if q = k then f a else f q
theorem mvUp_zero (f : Nat → Int) (a : Nat) : mvUp f a a = f := by
  funext q; unfold mvUp; rw [if_neg (by omega)]; split
  · rename_i h; rw [h]
  · rfl
theorem mvUp_next (f : Nat → Int) (a k : Nat) (h : a ≤ k) : swp (mvUp f a k) k (k + 1) = mvUp f a (k + 1) := by
  funext q; unfold swp mvUp
  by_cases e : q = k
  · subst e; rw [if_pos rfl, if_neg (by omega), if_neg (by omega), if_pos (by omega)]
  · rw [if_neg e]
    by_cases e2 : q = k + 1
    · subst e2; rw [if_pos rfl, if_neg (by omega), if_pos rfl, if_neg (by omega), if_pos rfl]
    · rw [if_neg e2]
      by_cases e3 : a ≤ q ∧ q < k
      · rw [if_pos e3, if_pos (by omega)]
      · rw [if_neg e3, if_neg e, if_neg (by omega), if_neg e2]
def mvDn (f : Nat → Int) (m k : Nat) : Nat → Int := fun q => if k < q ∧ q ≤ m then f (q - 1) else if q = k then f m else f q
theorem mvDn_zero (f : Nat → Int) (m : Nat) : mvDn f m m = f := by
  funext q; unfold mvDn; rw [if_neg (by omega)]; split
  · rename_i h; rw [h]
  · rfl
theorem mvDn_next (f : Nat → Int) (m k : Nat) (h : k < m) : swp (mvDn f m (k + 1)) (k + 1) k = mvDn f m k := by
  funext q; unfold swp mvDn
  by_cases e : q = k + 1
  · subst e; rw [if_pos rfl, if_neg (by omega), if_neg (by omega), if_pos (by omega)]; rfl
  · rw [if_neg e]
    by_cases e2 : q = k
    · subst e2; rw [if_pos rfl, if_neg (by omega), if_pos rfl, if_neg (by omega), if_pos rfl]
    · rw [if_neg e2]
      by_cases e3 : k + 1 < q ∧ q ≤ m
      · rw [if_pos e3, if_pos (by omega)]
      · rw [if_neg e3, if_neg e, if_neg (by omega), if_neg e2]
theorem mvUp_same (f : Nat → Int) (a k b : Nat) (h : a ≤ k) (hb : k < b) : Same f (mvUp f a k) a b := by
  induction k with
  | zero => obtain rfl : a = 0 := by omega
            rw [mvUp_zero]; exact Same.refl _ _ _
  | succ k ih =>
    by_cases e : a = k + 1
    · subst e; rw [mvUp_zero]; exact Same.refl _ _ _
    · rw [← mvUp_next f a k (by omega)]
      exact (ih (by omega) (by omega)).trans (swp_same _ (by omega) (by omega) (by omega) (by omega))
theorem mvDn_same (f : Nat → Int) (a m b : Nat) (d k : Nat) (hd : k + d = m) (h : a ≤ k) (hb : m < b) : Same f (mvDn f m k) a b := by
  induction d generalizing k with
  | zero => obtain rfl : k = m := by omega
            rw [mvDn_zero]; exact Same.refl _ _ _
  | succ d ih =>
    rw [← mvDn_next f m k (by omega)]
    exact (ih (k + 1) (by omega) (by omega)).trans (swp_same _ (by omega) (by omega) (by omega) (by omega))
/-- The first of all put among the rest. -/
theorem mvUp_srt {dl : Int → Int} {f : Nat → Int} {a b i : Nat} (hB : Srt dl f (a + 1) b) (h1 : a + 1 ≤ i) (h2 : i ≤ b) (lo : i = a + 1 ∨ TT dl (f (i - 1)) (f a)) (hi : i = b ∨ TT dl (f a) (f i)) : Srt dl (mvUp f a (i - 1)) a b := by
  have L : ∀ x, a + 1 ≤ x → x < i → TT dl (f x) (f a) := by
    intro x k1 k2
    rcases lo with lo | lo
    · omega
    · by_cases e : x = i - 1
      · rw [e]; exact lo
      · exact (hB x (i - 1) k1 (by omega) (by omega)).trans lo
  have U : ∀ x, i ≤ x → x < b → TT dl (f a) (f x) := by
    intro x k1 k2
    rcases hi with hi | hi
    · omega
    · by_cases e : x = i
      · rw [e]; exact hi
      · exact hi.trans (hB i x h1 (by omega) k2)
  intro p q p1 p2 p3
  unfold mvUp
  by_cases c1 : a ≤ p ∧ p < i - 1
  · rw [if_pos c1]
    by_cases c2 : a ≤ q ∧ q < i - 1
    · rw [if_pos c2]; exact hB _ _ (by omega) (by omega) (by omega)
    · rw [if_neg c2]
      by_cases c3 : q = i - 1
      · rw [if_pos c3]; exact L _ (by omega) (by omega)
      · rw [if_neg c3]; exact hB _ _ (by omega) (by omega) (by omega)
  · rw [if_neg c1]
    rw [if_neg (by omega : ¬ (a ≤ q ∧ q < i - 1)), if_neg (by omega : ¬ q = i - 1)]
    by_cases c3 : p = i - 1
    · rw [if_pos c3]; exact U _ (by omega) (by omega)
    · rw [if_neg c3]; exact hB _ _ (by omega) (by omega) (by omega)
/-- The last of all put among the rest. -/
theorem mvDn_srt {dl : Int → Int} {f : Nat → Int} {a m i : Nat} (hA : Srt dl f a m) (h1 : a ≤ i) (h2 : i ≤ m) (lo : i = a ∨ TT dl (f (i - 1)) (f m)) (hi : i = m ∨ TT dl (f m) (f i)) : Srt dl (mvDn f m i) a (m + 1) := by
  have L : ∀ x, a ≤ x → x < i → TT dl (f x) (f m) := by
    intro x k1 k2
    rcases lo with lo | lo
    · omega
    · by_cases e : x = i - 1
      · rw [e]; exact lo
      · exact (hA x (i - 1) k1 (by omega) (by omega)).trans lo
  have U : ∀ x, i ≤ x → x < m → TT dl (f m) (f x) := by
    intro x k1 k2
    rcases hi with hi | hi
    · omega
    · by_cases e : x = i
      · rw [e]; exact hi
      · exact hi.trans (hA i x h1 (by omega) k2)
  intro p q p1 p2 p3
  unfold mvDn
  by_cases c1 : i < p ∧ p ≤ m
  · rw [if_pos c1, if_pos (by omega : i < q ∧ q ≤ m)]; exact hA _ _ (by omega) (by omega) (by omega)
  · rw [if_neg c1]
    by_cases c2 : p = i
    · rw [if_pos c2, if_pos (by omega : i < q ∧ q ≤ m)]; exact U _ (by omega) (by omega)
    · rw [if_neg c2]
      by_cases c3 : i < q ∧ q ≤ m
      · rw [if_pos c3]; exact hA _ _ (by omega) (by omega) (by omega)
      · rw [if_neg c3]
        by_cases c4 : q = i
        · rw [if_pos c4]; exact L _ (by omega) (by omega)
        · rw [if_neg c4]; exact hA _ _ (by omega) (by omega) (by omega)

/-! ## ranges exchanged, rotated -/
def swR (f : Nat → Int) (a b n : Nat) : Nat → Int := fun k => if a ≤ k ∧ k < a + n then f (k - a + b) else if b ≤ k ∧ k < b + n then f (k - b + a) else f k
theorem swR_zero (f : Nat → Int) (a b : Nat) : swR f a b 0 = f := by funext k; unfold swR; rw [if_neg (by omega), if_neg (by omega)]
theorem swR_next (f : Nat → Int) (a b n i : Nat) (h : a + n ≤ b) (hi : i < n) : swp (swR f a b i) (a + i) (b + i) = swR f a b (i + 1) := by
  funext k; unfold swp swR
  repeat' split
  all_goals first | rfl | (exfalso; omega) | (congr 1; omega)
/-- [a, m) and [m, b) change places. -/
def rot (f : Nat → Int) (a m b : Nat) : Nat → Int := fun k => if a ≤ k ∧ k < a + (b - m) then f (k - a + m) else if a + (b - m) ≤ k ∧ k < b then f (k - (b - m)) else f k
theorem rot_gt (f : Nat → Int) (m i j : Nat) (hi : i ≤ m) (hij : j < i) : rot (swR f (m - i) m j) (m - (i - j)) m (m + j) = rot f (m - i) m (m + j) := by
  funext k; unfold rot swR
  repeat' split
  all_goals first | rfl | (exfalso; omega) | (congr 1; omega)
theorem rot_lt (f : Nat → Int) (m i j : Nat) (hi : i ≤ m) (hij : i < j) : rot (swR f (m - i) (m + j - i) i) (m - i) m (m + (j - i)) = rot f (m - i) m (m + j) := by
  funext k; unfold rot swR
  repeat' split
  all_goals first | rfl | (exfalso; omega) | (congr 1; omega)
theorem rot_eq (f : Nat → Int) (m i : Nat) (hi : i ≤ m) : swR f (m - i) m i = rot f (m - i) m (m + i) := by
  funext k; unfold rot swR
  repeat' split
  all_goals first | rfl | (exfalso; omega) | (congr 1; omega)
theorem rot_none (f : Nat → Int) (a m b : Nat) (h : a ≤ m) (h2 : m ≤ b) (e : a = m ∨ m = b) : rot f a m b = f := by
  funext k; unfold rot
  by_cases c1 : a ≤ k ∧ k < a + (b - m)
  · rw [if_pos c1]; congr 1; omega
  · rw [if_neg c1]
    by_cases c2 : a + (b - m) ≤ k ∧ k < b
    · rw [if_pos c2]; congr 1; omega
    · rw [if_neg c2]
theorem rot_same (f : Nat → Int) (a m b : Nat) (h : a ≤ m) (h2 : m ≤ b) : Same f (rot f a m b) a b := by
  refine ⟨fun k hk => ?_, fun k k1 k2 => ?_, fun k k1 k2 => ?_⟩
  · unfold rot; rw [if_neg (by omega), if_neg (by omega)]
  · unfold rot
    by_cases c1 : a ≤ k ∧ k < a + (b - m)
    · rw [if_pos c1]; exact ⟨_, by omega, by omega, rfl⟩
    · rw [if_neg c1, if_pos (by omega)]; exact ⟨_, by omega, by omega, rfl⟩
  · unfold rot
    by_cases c1 : k < m
    · exact ⟨k + (b - m), by omega, by omega, by rw [if_neg (by omega), if_pos (by omega)]; congr 1; omega⟩
    · exact ⟨k - m + a, by omega, by omega, by rw [if_pos (by omega)]; congr 1; omega⟩

/-! ## the merge of two sorted runs -/
theorem rot_1 (f : Nat → Int) {s m mid k : Nat} (h : k < s) : rot f s m (mid + m - s) k = f k := by unfold rot; rw [if_neg (by omega), if_neg (by omega)]
theorem rot_2 (f : Nat → Int) {s m mid k : Nat} (hs : s ≤ mid) (h : s ≤ k) (h2 : k < mid) : rot f s m (mid + m - s) k = f (k - s + m) := by unfold rot; rw [if_pos (by omega)]
theorem rot_3 (f : Nat → Int) {s m mid k : Nat} (hs : s ≤ mid) (hm : s ≤ m) (h : mid ≤ k) (h2 : k < mid + m - s) : rot f s m (mid + m - s) k = f (k - mid + s) := by unfold rot; rw [if_neg (by omega), if_pos (by omega)]; congr 1; omega
theorem rot_4 (f : Nat → Int) {s m mid k : Nat} (hs : s ≤ mid) (hm : s ≤ m) (h : mid + m - s ≤ k) : rot f s m (mid + m - s) k = f k := by unfold rot; rw [if_neg (by omega), if_neg (by omega)]
/-- The place where the runs are cut. -/
structure Cut (dl : Int → Int) (f : Nat → Int) (a m b mid s : Nat) : Prop where
  a1 : a ≤ s
  a2 : s ≤ m
  a3 : s ≤ mid
  a4 : mid + m - s ≤ b
  a5 : a < mid
  a6 : mid < b
  A : Srt dl f a m
  B : Srt dl f m b
  idx : ∀ p q, a ≤ p → p < m → m ≤ q → q < b → f p < f q
  AB : ∀ p q, a ≤ p → p < s → mid + m - s ≤ q → q < b → TT dl (f p) (f q)
  BA : ∀ p q, m ≤ p → p < mid + m - s → s ≤ q → q < m → TT dl (f p) (f q)
theorem Cut.of {dl : Int → Int} {f : Nat → Int} {a m b mid s : Nat} (a1 : a ≤ s) (a2 : s ≤ m) (a3 : s ≤ mid) (a4 : mid + m - s ≤ b) (a5 : a < mid) (a6 : mid < b) (hA : Srt dl f a m) (hB : Srt dl f m b)
    (idx : ∀ p q, a ≤ p → p < m → m ≤ q → q < b → f p < f q) (lo : s = a ∨ mid + m - s = b ∨ TT dl (f (s - 1)) (f (mid + m - s))) (hi : s = m ∨ s = mid ∨ TT dl (f (mid + m - s - 1)) (f s)) : Cut dl f a m b mid s := by
  refine ⟨a1, a2, a3, a4, a5, a6, hA, hB, idx, fun p q p1 p2 q1 q2 => ?_, fun p q p1 p2 q1 q2 => ?_⟩
  · rcases lo with lo | lo | lo
    · omega
    · omega
    · have t : TT dl (f p) (f (mid + m - s)) := by
        by_cases e : p = s - 1
        · rw [e]; exact lo
        · exact (hA p (s - 1) p1 (by omega) (by omega)).trans lo
      by_cases e : q = mid + m - s
      · rw [e]; exact t
      · exact t.trans (hB _ q (by omega) (by omega) q2)
  · rcases hi with hi | hi | hi
    · omega
    · omega
    · have t : TT dl (f p) (f s) := by
        by_cases e : p = mid + m - s - 1
        · rw [e]; exact hi
        · exact (hB p _ p1 (by omega) (by omega)).trans hi
      by_cases e : q = s
      · rw [e]; exact t
      · exact t.trans (hA s q a1 (by omega) q2)
section
variable {dl : Int → Int} {f : Nat → Int} {a m b mid s : Nat}
theorem Cut.l1 (h : Cut dl f a m b mid s) : Srt dl (rot f s m (mid + m - s)) a s := by
  intro p q p1 p2 p3
  rw [rot_1 f (by omega), rot_1 f (by omega)]; exact h.A p q p1 p2 (by have := h.a2; omega)
theorem Cut.l2 (h : Cut dl f a m b mid s) : Srt dl (rot f s m (mid + m - s)) s mid := by
  intro p q p1 p2 p3
  have := h.a4
  rw [rot_2 f h.a3 p1 (by omega), rot_2 f h.a3 (by omega) p3]; exact h.B _ _ (by omega) (by omega) (by omega)
theorem Cut.r1 (h : Cut dl f a m b mid s) : Srt dl (rot f s m (mid + m - s)) mid (mid + m - s) := by
  intro p q p1 p2 p3
  have := h.a1
  rw [rot_3 f h.a3 h.a2 p1 (by omega), rot_3 f h.a3 h.a2 (by omega) p3]; exact h.A _ _ (by omega) (by omega) (by omega)
theorem Cut.r2 (h : Cut dl f a m b mid s) : Srt dl (rot f s m (mid + m - s)) (mid + m - s) b := by
  intro p q p1 p2 p3
  have := h.a3
  rw [rot_4 f h.a3 h.a2 p1, rot_4 f h.a3 h.a2 (by omega)]; exact h.B _ _ (by omega) (by omega) (by omega)
theorem Cut.il (h : Cut dl f a m b mid s) : ∀ p q, a ≤ p → p < s → s ≤ q → q < mid → rot f s m (mid + m - s) p < rot f s m (mid + m - s) q := by
  intro p q p1 p2 q1 q2
  have := h.a2; have := h.a4
  rw [rot_1 f p2, rot_2 f h.a3 q1 q2]; exact h.idx _ _ (by omega) (by omega) (by omega) (by omega)
theorem Cut.ir (h : Cut dl f a m b mid s) : ∀ p q, mid ≤ p → p < mid + m - s → mid + m - s ≤ q → q < b → rot f s m (mid + m - s) p < rot f s m (mid + m - s) q := by
  intro p q p1 p2 q1 q2
  have := h.a1; have := h.a3
  rw [rot_3 f h.a3 h.a2 p1 p2, rot_4 f h.a3 h.a2 q1]; exact h.idx _ _ (by omega) (by omega) (by omega) (by omega)
theorem Cut.cross (h : Cut dl f a m b mid s) : ∀ p q, a ≤ p → p < mid → mid ≤ q → q < b → TT dl (rot f s m (mid + m - s) p) (rot f s m (mid + m - s) q) := by
  intro p q p1 p2 q1 q2
  have := h.a1; have := h.a2; have := h.a3; have := h.a4
  by_cases c1 : p < s
  · rw [rot_1 f c1]
    by_cases c2 : q < mid + m - s
    · rw [rot_3 f h.a3 h.a2 q1 c2]; exact h.A _ _ (by omega) (by omega) (by omega)
    · rw [rot_4 f h.a3 h.a2 (by omega)]; exact h.AB _ _ p1 c1 (by omega) q2
  · rw [rot_2 f h.a3 (by omega) p2]
    by_cases c2 : q < mid + m - s
    · rw [rot_3 f h.a3 h.a2 q1 c2]; exact h.BA _ _ (by omega) (by omega) (by omega) (by omega)
    · rw [rot_4 f h.a3 h.a2 (by omega)]; exact h.B _ _ (by omega) (by omega) (by omega)
theorem Cut.done (h : Cut dl f a m b mid s) {g1 g2 : Nat → Int} (s1 : Same (rot f s m (mid + m - s)) g1 a mid) (o1 : Srt dl g1 a mid) (s2 : Same g1 g2 mid b) (o2 : Srt dl g2 mid b) : Same f g2 a b ∧ Srt dl g2 a b := by
  have := h.a1; have := h.a2; have := h.a3; have := h.a4; have := h.a5; have := h.a6
  refine ⟨(((rot_same f s m (mid + m - s) (by omega) (by omega)).wide (by omega) (by omega)).trans (s1.wide (by omega) (by omega))).trans (s2.wide (by omega) (by omega)), fun p q p1 p2 p3 => ?_⟩
  by_cases c1 : q < mid
  · rw [s2.out p (by omega), s2.out q (by omega)]; exact o1 p q p1 p2 c1
  · by_cases c2 : mid ≤ p
    · exact o2 p q c2 p2 p3
    · rw [s2.out p (by omega)]
      obtain ⟨k, k1, k2, e⟩ := s1.to p p1 (by omega)
      obtain ⟨k', k3, k4, e'⟩ := s2.to q (by omega) p3
      rw [e, e', s1.out k' (by omega)]
      exact h.cross _ _ k1 k2 k3 k4
/-- The left half, if one of its runs is empty. -/
theorem Cut.left0 (h : Cut dl f a m b mid s) (e : ¬ (a < s ∧ s < mid)) : Srt dl (rot f s m (mid + m - s)) a mid := by
  have := h.a1; have := h.a3
  by_cases c : a < s
  · obtain rfl : s = mid := by omega
    exact h.l1
  · obtain rfl : a = s := by omega
    exact h.l2
theorem Cut.right0 (h : Cut dl f a m b mid s) (e : ¬ (mid < mid + m - s ∧ mid + m - s < b)) {g1 : Nat → Int} (s1 : Same (rot f s m (mid + m - s)) g1 a mid) : Srt dl g1 mid b := by
  have := h.a2; have := h.a4
  intro p q p1 p2 p3
  rw [s1.out p (by omega), s1.out q (by omega)]
  by_cases c : mid < mid + m - s
  · have e2 : mid + m - s = b := by omega
    exact h.r1 p q p1 p2 (by omega)
  · have e2 : mid + m - s = mid := by omega
    exact h.r2 p q (by omega) p2 p3
theorem Cut.right1 (h : Cut dl f a m b mid s) {g1 : Nat → Int} (s1 : Same (rot f s m (mid + m - s)) g1 a mid) : Srt dl g1 mid (mid + m - s) ∧ Srt dl g1 (mid + m - s) b ∧ ∀ p q, mid ≤ p → p < mid + m - s → mid + m - s ≤ q → q < b → g1 p < g1 q := by
  have := h.a2; have := h.a4
  refine ⟨fun p q p1 p2 p3 => ?_, fun p q p1 p2 p3 => ?_, fun p q p1 p2 p3 p4 => ?_⟩
  · rw [s1.out p (by omega), s1.out q (by omega)]; exact h.r1 p q p1 p2 p3
  · rw [s1.out p (by omega), s1.out q (by omega)]; exact h.r2 p q p1 p2 p3
  · rw [s1.out p (by omega), s1.out q (by omega)]; exact h.ir p q p1 p2 p3 p4
end
/-! ## runs of indices -/
/-- Between c and d stand the indices from c to d, sorted. -/
structure Run (dl : Int → Int) (g : Nat → Int) (c d : Nat) : Prop where
  to : ∀ k, c ≤ k → k < d → (c : Int) ≤ g k ∧ g k < (d : Int)
  fro : ∀ v : Nat, c ≤ v → v < d → ∃ k, c ≤ k ∧ k < d ∧ g k = (v : Int)
  srt : Srt dl g c d
theorem Run.keep {dl : Int → Int} {f g : Nat → Int} {c d a b : Nat} (h : Run dl f c d) (s : Same f g a b) (e : d ≤ a ∨ b ≤ c) : Run dl g c d := by
  refine ⟨fun k k1 k2 => ?_, fun v v1 v2 => ?_, fun p q p1 p2 p3 => ?_⟩
  · rw [s.out k (by omega)]; exact h.to k k1 k2
  · obtain ⟨k, k1, k2, e2⟩ := h.fro v v1 v2
    exact ⟨k, k1, k2, by rw [s.out k (by omega)]; exact e2⟩
  · rw [s.out p (by omega), s.out q (by omega)]; exact h.srt p q p1 p2 p3
/-- Indices as they were laid. -/
def IdF (g : Nat → Int) (c d : Nat) : Prop := ∀ k, c ≤ k → k < d → g k = (k : Int)
theorem IdF.keep {f g : Nat → Int} {c d a b : Nat} (h : IdF f c d) (s : Same f g a b) (e : d ≤ a ∨ b ≤ c) : IdF g c d := fun k k1 k2 => by rw [s.out k (by omega)]; exact h k k1 k2
theorem IdF.run {dl : Int → Int} {f g : Nat → Int} {c d : Nat} (h : IdF f c d) (s : Same f g c d) (o : Srt dl g c d) : Run dl g c d := by
  refine ⟨fun k k1 k2 => ?_, fun v v1 v2 => ?_, o⟩
  · obtain ⟨k', k3, k4, e⟩ := s.to k k1 k2
    rw [e, h k' k3 k4]; omega
  · obtain ⟨k', k3, k4, e⟩ := s.fro v v1 v2
    exact ⟨k', k3, k4, by rw [← e]; exact h v v1 v2⟩
theorem Run.join {dl : Int → Int} {f g : Nat → Int} {a m b : Nat} (h1 : Run dl f a m) (h2 : Run dl f m b) (ha : a ≤ m) (hb : m ≤ b) (s : Same f g a b) (o : Srt dl g a b) : Run dl g a b := by
  refine ⟨fun k k1 k2 => ?_, fun v v1 v2 => ?_, o⟩
  · obtain ⟨k', k3, k4, e⟩ := s.to k k1 k2
    rw [e]
    by_cases c : k' < m
    · have := h1.to k' k3 c; omega
    · have := h2.to k' (by omega) k4; omega
  · by_cases c : v < m
    · obtain ⟨k, k1, k2, e⟩ := h1.fro v v1 c
      obtain ⟨k', k3, k4, e2⟩ := s.fro k k1 (by omega)
      exact ⟨k', k3, k4, by rw [← e2]; exact e⟩
    · obtain ⟨k, k1, k2, e⟩ := h2.fro v (by omega) v2
      obtain ⟨k', k3, k4, e2⟩ := s.fro k (by omega) k2
      exact ⟨k', k3, k4, by rw [← e2]; exact e⟩
end Go.Proofs.YtacffjkhbajgkaaDoor
