/- Plain mathematics for package surd: the sign of A + B root (P/Q), by signed squares. No Go, no program. -/
import Derived.Test.YtdflllhepijcgaaNumMath
namespace Go.Proofs.Ytdflllhepijcgaa

/-- A surd that may be. -/
def goodB (A B P Q : Int) : Bool := decide (-1000000000 ≤ A ∧ A ≤ 1000000000 ∧ -1000000000 ≤ B ∧ B ≤ 1000000000 ∧ 0 ≤ P ∧ P ≤ 1000000 ∧ 1 ≤ Q ∧ Q ≤ 1000000)
theorem goodB_iff {A B P Q : Int} : goodB A B P Q = true ↔ (-1000000000 ≤ A ∧ A ≤ 1000000000 ∧ -1000000000 ≤ B ∧ B ≤ 1000000000 ∧ 0 ≤ P ∧ P ≤ 1000000 ∧ 1 ≤ Q ∧ Q ≤ 1000000) := by simp only [goodB, decide_eq_true_eq]
theorem goodB_not {A B P Q : Int} : goodB A B P Q = false ↔ ¬ (-1000000000 ≤ A ∧ A ≤ 1000000000 ∧ -1000000000 ≤ B ∧ B ≤ 1000000000 ∧ 0 ≤ P ∧ P ≤ 1000000 ∧ 1 ≤ Q ∧ Q ≤ 1000000) := by simp only [goodB, decide_eq_false_iff_not]

/-- A square with its number's sign. -/
def sq (x : Int) : Int := if x < 0 then -(x * x) else x * x
theorem sq_neg_of {x : Int} (h : x < 0) : sq x = -(x * x) := by rw [sq, if_pos h]
theorem sq_pos_of {x : Int} (h : ¬ x < 0) : sq x = x * x := by rw [sq, if_neg h]
theorem sq_zero : sq 0 = 0 := rfl
theorem sq_neg (x : Int) : sq (-x) = -sq x := by
  unfold sq
  rcases Int.lt_trichotomy x 0 with h | h | h
  · rw [if_neg (by omega), if_pos h, Int.neg_mul_neg]; omega
  · subst h; rfl
  · rw [if_pos (by omega), if_neg (by omega), Int.neg_mul_neg]
theorem mul_self_mono {x y : Int} (hx : 0 ≤ x) (h : x ≤ y) : x * x ≤ y * y := Int.mul_le_mul h h hx (Int.le_trans hx h)
theorem mul_self_lt {x y : Int} (hx : 0 ≤ x) (h : x < y) : x * x < y * y := by
  have h1 : x * x ≤ x * y := Int.mul_le_mul_of_nonneg_left (by omega) hx
  have h2 : x * y < y * y := Int.mul_lt_mul_of_pos_right h (by omega)
  omega
theorem mul_self_nn (x : Int) : 0 ≤ x * x := by
  by_cases h : 0 ≤ x
  · exact Int.mul_nonneg h h
  · have := Int.mul_nonneg (show 0 ≤ -x by omega) (show 0 ≤ -x by omega)
    rwa [Int.neg_mul_neg] at this
theorem mul_self_pos {x : Int} (h : x ≠ 0) : 0 < x * x := by
  by_cases k : 0 < x
  · exact Int.mul_pos k k
  · have := Int.mul_pos (show 0 < -x by omega) (show 0 < -x by omega)
    rwa [Int.neg_mul_neg] at this
theorem sq_lt {x y : Int} (h : x < y) : sq x < sq y := by
  by_cases hx : x < 0
  · rw [sq_neg_of hx]
    by_cases hy : y < 0
    · rw [sq_neg_of hy]
      have := mul_self_lt (x := -y) (y := -x) (by omega) (by omega)
      rw [Int.neg_mul_neg, Int.neg_mul_neg] at this; omega
    · rw [sq_pos_of hy]
      have := mul_self_pos (x := x) (by omega)
      have := mul_self_nn y
      omega
  · rw [sq_pos_of hx, sq_pos_of (by omega)]
    exact mul_self_lt (by omega) h
theorem sq_le {x y : Int} (h : x ≤ y) : sq x ≤ sq y := by
  by_cases k : x = y
  · rw [k]; exact Int.le_refl _
  · exact Int.le_of_lt (sq_lt (by omega))
theorem sq_lt_iff {x y : Int} : sq x < sq y ↔ x < y := ⟨fun h => by
  by_cases k : x < y
  · exact k
  · have := sq_le (x := y) (y := x) (by omega); omega, sq_lt⟩
theorem sq_le_iff {x y : Int} : sq x ≤ sq y ↔ x ≤ y := ⟨fun h => by
  by_cases k : x ≤ y
  · exact k
  · have := sq_lt (x := y) (y := x) (by omega); omega, sq_le⟩
theorem sq_scale (x n : Int) (hn : 0 ≤ n) : sq (x * n) = sq x * (n * n) := by
  by_cases h0 : n = 0
  · subst h0; simp [sq]
  · by_cases hx : x < 0
    · have := Int.mul_pos (show 0 < -x by omega) (show 0 < n by omega)
      rw [Int.neg_mul] at this
      rw [sq_neg_of (by omega), sq_neg_of hx, Int.neg_mul]
      congr 1; ac_rfl
    · have := Int.mul_nonneg (show 0 ≤ x by omega) hn
      rw [sq_pos_of (by omega), sq_pos_of hx]; ac_rfl

/-- The sign of a surd that may be; 0 for any other. -/
def rootZ (A B P Q : Int) : Int := sq A * Q + sq B * P
def signZ (A B P Q : Int) : Int := if goodB A B P Q = true then cmpZ (rootZ A B P Q) 0 else 0
theorem signZ_good {A B P Q : Int} (h : goodB A B P Q = true) : signZ A B P Q = cmpZ (rootZ A B P Q) 0 := by rw [signZ, if_pos h]
theorem signZ_bad {A B P Q : Int} (h : goodB A B P Q = false) : signZ A B P Q = 0 := by rw [signZ, if_neg (by rw [h]; decide)]

theorem rootZ_zero {B P Q : Int} : rootZ 0 B P Q = sq B * P := by unfold rootZ; rw [sq_zero, Int.zero_mul, Int.zero_add]
theorem rootZ_noroot {A B Q : Int} : rootZ A B 0 Q = sq A * Q := by unfold rootZ; rw [Int.mul_zero, Int.add_zero]
theorem cmp_pos {x n : Int} (hn : 0 < n) : cmpZ (sq x * n) 0 = cmpZ x 0 := by
  rcases cmpZ_cases x 0 with ⟨h, e⟩ | ⟨h, e⟩ | ⟨h, e⟩ <;> rw [e]
  · refine cmpZ_lt ?_
    have := Int.mul_pos (mul_self_pos (x := x) (by omega)) hn
    rw [sq_neg_of h, Int.neg_mul]; omega
  · refine cmpZ_gt ?_
    have := Int.mul_pos (mul_self_pos (x := x) (by omega)) hn
    rw [sq_pos_of (by omega)]; omega
  · subst h; exact cmpZ_eq (by rw [sq_zero, Int.zero_mul])

/-- The way of the code: the sign of the whole part, that of the root's, and where they part the order of the squares. -/
theorem sign_ways {A B P Q a b : Int} (hP : 0 ≤ P) (hQ : 1 ≤ Q) (ha : cmpZ A 0 = a) (hb : (if P = 0 then 0 else cmpZ B 0) = b) :
    (a = 0 → cmpZ (rootZ A B P Q) 0 = b) ∧ (a ≠ 0 → a ≠ -b → cmpZ (rootZ A B P Q) 0 = a) ∧
    (a ≠ 0 → a = -b → cmpZ (rootZ A B P Q) 0 = a * cmpZ (A * A * Q) (B * B * P)) := by
  refine ⟨fun h => ?_, fun h k => ?_, fun h k => ?_⟩
  · have hA : A = 0 := by
      rcases cmpZ_cases A 0 with ⟨_, e⟩ | ⟨_, e⟩ | ⟨e0, e⟩ <;> omega
    subst hA
    rw [rootZ_zero, ← hb]
    split
    · rename_i p; subst p; rw [Int.mul_zero]; rfl
    · exact cmp_pos (by omega)
  · by_cases p : P = 0
    · subst p; rw [rootZ_noroot, cmp_pos (by omega)]; exact ha
    · rw [if_neg p] at hb
      have hPp : 0 < P := by omega
      have hQp : 0 < Q := by omega
      unfold rootZ
      rcases cmpZ_cases A 0 with ⟨h1, e1⟩ | ⟨h1, e1⟩ | ⟨h1, e1⟩ <;> rcases cmpZ_cases B 0 with ⟨h2, e2⟩ | ⟨h2, e2⟩ | ⟨h2, e2⟩ <;> try omega
      · have u := Int.mul_pos (mul_self_pos (x := A) (by omega)) hQp
        have v := Int.mul_pos (mul_self_pos (x := B) (by omega)) hPp
        rw [← ha, e1]; refine cmpZ_lt ?_
        rw [sq_neg_of h1, sq_neg_of h2, Int.neg_mul, Int.neg_mul]; omega
      · subst h2
        rw [sq_zero, Int.zero_mul, Int.add_zero, cmp_pos hQp]; exact ha
      · have u := Int.mul_pos (mul_self_pos (x := A) (by omega)) hQp
        have v := Int.mul_pos (mul_self_pos (x := B) (by omega)) hPp
        rw [← ha, e1]; refine cmpZ_gt ?_
        rw [sq_pos_of (by omega), sq_pos_of (by omega)]; omega
      · subst h2
        rw [sq_zero, Int.zero_mul, Int.add_zero, cmp_pos hQp]; exact ha
  · by_cases p : P = 0
    · rw [if_pos p] at hb; omega
    · rw [if_neg p] at hb
      unfold rootZ
      rcases cmpZ_cases A 0 with ⟨h1, e1⟩ | ⟨h1, e1⟩ | ⟨h1, e1⟩ <;> rcases cmpZ_cases B 0 with ⟨h2, e2⟩ | ⟨h2, e2⟩ | ⟨h2, e2⟩ <;> try omega
      · rw [← ha, e1, sq_neg_of h1, sq_pos_of (show ¬ B < 0 by omega), Int.neg_mul]
        generalize A * A * Q = u; generalize B * B * P = v
        rcases cmpZ_cases u v with ⟨k1, f1⟩ | ⟨k1, f1⟩ | ⟨k1, f1⟩ <;> rw [f1]
        · exact cmpZ_gt (by omega)
        · exact cmpZ_lt (by omega)
        · exact cmpZ_eq (by omega)
      · rw [← ha, e1, sq_pos_of (show ¬ A < 0 by omega), sq_neg_of h2, Int.neg_mul]
        generalize A * A * Q = u; generalize B * B * P = v
        rcases cmpZ_cases u v with ⟨k1, f1⟩ | ⟨k1, f1⟩ | ⟨k1, f1⟩ <;> rw [f1]
        · exact cmpZ_lt (by omega)
        · exact cmpZ_gt (by omega)
        · exact cmpZ_eq (by omega)

/-- Squares of numbers that may be, and their products, in bounds. -/
theorem sq_bound {x n : Int} (h0 : -n ≤ x) (h1 : x ≤ n) : 0 ≤ x * x ∧ x * x ≤ n * n := by
  refine ⟨mul_self_nn x, ?_⟩
  by_cases h : 0 ≤ x
  · exact mul_self_mono h h1
  · have := mul_self_mono (x := -x) (y := n) (by omega) (by omega)
    rwa [Int.neg_mul_neg] at this

/-- Above and Bound. -/
def aboveB (v w p q : Int) : Bool := decide (0 ≤ v ∧ 0 ≤ w) && goodB v w p q && decide (0 < cmpZ (rootZ (v - w) (-w) p q) 0)
def restZ (v w p q : Int) : Int := (v - w) * q - w * p
def boundB (v w p q : Int) : Bool := decide (0 ≤ v ∧ 0 ≤ w) && goodB v w p q && decide (sq (restZ v w p q) ≤ 4 * (w * w) * (p * q))
def acceptB (v w p q : Int) : Bool := decide (0 ≤ v ∧ 0 ≤ w) && goodB v w p q
theorem acceptB_iff {v w p q : Int} : acceptB v w p q = true ↔ (0 ≤ v ∧ v ≤ 1000000000 ∧ 0 ≤ w ∧ w ≤ 1000000000 ∧ 0 ≤ p ∧ p ≤ 1000000 ∧ 1 ≤ q ∧ q ≤ 1000000) := by
  unfold acceptB goodB; rw [← Bool.decide_and, decide_eq_true_eq]; omega
theorem acceptB_not {v w p q : Int} : acceptB v w p q = false ↔ ¬ (0 ≤ v ∧ v ≤ 1000000000 ∧ 0 ≤ w ∧ w ≤ 1000000000 ∧ 0 ≤ p ∧ p ≤ 1000000 ∧ 1 ≤ q ∧ q ≤ 1000000) := by
  rw [← acceptB_iff]; simp
theorem aboveB_iff {v w p q : Int} (ha : acceptB v w p q = true) : aboveB v w p q = true ↔ w * w * p < sq (v - w) * q := by
  have hw := acceptB_iff.1 ha
  unfold aboveB; rw [Bool.and_eq_true, decide_eq_true_eq]
  rw [show (decide (0 ≤ v ∧ 0 ≤ w) && goodB v w p q) = true from ha]
  unfold rootZ; rw [sq_neg, sq_pos_of (show ¬ w < 0 by omega), Int.neg_mul]
  generalize sq (v - w) * q = x; generalize w * w * p = y
  rcases cmpZ_cases (x + -y) 0 with ⟨k, e⟩ | ⟨k, e⟩ | ⟨k, e⟩ <;> rw [e] <;> simp <;> omega
theorem aboveB_bad {v w p q : Int} (ha : acceptB v w p q = false) : aboveB v w p q = false := by
  unfold aboveB; rw [show (decide (0 ≤ v ∧ 0 ≤ w) && goodB v w p q) = false from ha]; rfl
theorem aboveB_sign {v w p q : Int} (ha : acceptB v w p q = true) : aboveB v w p q = decide (0 < signZ (v - w) (-w) p q) := by
  have hw := acceptB_iff.1 ha
  rw [signZ_good (goodB_iff.2 (by omega))]
  unfold aboveB; rw [show (decide (0 ≤ v ∧ 0 ≤ w) && goodB v w p q) = true from ha, Bool.true_and]
theorem boundB_iff {v w p q : Int} (ha : acceptB v w p q = true) : boundB v w p q = true ↔ sq (restZ v w p q) ≤ 4 * (w * w) * (p * q) := by
  unfold boundB; rw [Bool.and_eq_true, decide_eq_true_eq]
  rw [show (decide (0 ≤ v ∧ 0 ≤ w) && goodB v w p q) = true from ha]; simp
theorem boundB_bad {v w p q : Int} (ha : acceptB v w p q = false) : boundB v w p q = false := by
  unfold boundB; rw [show (decide (0 ≤ v ∧ 0 ≤ w) && goodB v w p q) = false from ha]; rfl
/-- How the code asks it: a rest of at most 0, else its square. -/
theorem boundB_low {v w p q : Int} (ha : acceptB v w p q = true) (h : restZ v w p q ≤ 0) : boundB v w p q = true := by
  have hw := acceptB_iff.1 ha
  refine (boundB_iff ha).2 ?_
  have h1 := sq_le h
  rw [sq_zero] at h1
  have h2 : 0 ≤ 4 * (w * w) * (p * q) := Int.mul_nonneg (Int.mul_nonneg (by omega) (mul_self_nn w)) (Int.mul_nonneg (by omega) (by omega))
  omega
theorem boundB_high {v w p q : Int} (ha : acceptB v w p q = true) (h : ¬ restZ v w p q ≤ 0) :
    boundB v w p q = decide (cmpZ (restZ v w p q * restZ v w p q) (4 * (w * w) * (p * q)) ≤ 0) := by
  have := boundB_iff ha
  rw [sq_pos_of (by omega)] at this
  generalize restZ v w p q * restZ v w p q = x at *; generalize 4 * (w * w) * (p * q) = y at *
  cases hb : boundB v w p q
  · rw [hb] at this
    have h2 : ¬ x ≤ y := fun h => by have := this.2 h; simp at this
    rw [cmpZ_gt (by omega)]; rfl
  · rw [hb] at this
    have h2 := this.1 rfl
    rcases cmpZ_cases x y with ⟨k, e⟩ | ⟨k, e⟩ | ⟨k, e⟩ <;> rw [e]
    · rfl
    · omega
    · rfl

/-! The laws, as mathematics. -/
theorem signZ_turn (A B P Q : Int) : signZ (-A) (-B) P Q = -signZ A B P Q := by
  have hg : goodB (-A) (-B) P Q = goodB A B P Q := by unfold goodB; rw [decide_eq_decide]; omega
  cases h : goodB A B P Q
  · rw [signZ_bad h, signZ_bad (hg.trans h)]; rfl
  · rw [signZ_good h, signZ_good (hg.trans h)]
    unfold rootZ; rw [sq_neg, sq_neg, Int.neg_mul, Int.neg_mul]
    generalize sq A * Q = x; generalize sq B * P = y
    rcases cmpZ_cases (x + y) 0 with ⟨k, e⟩ | ⟨k, e⟩ | ⟨k, e⟩ <;> rw [e]
    · exact cmpZ_gt (by omega)
    · exact cmpZ_lt (by omega)
    · exact cmpZ_eq (by omega)
theorem cmp_scale {x n : Int} (hn : 0 < n) : cmpZ (x * n) 0 = cmpZ x 0 := by
  rcases cmpZ_cases x 0 with ⟨k, e⟩ | ⟨k, e⟩ | ⟨k, e⟩ <;> rw [e]
  · have := Int.mul_pos (show 0 < -x by omega) hn
    rw [Int.neg_mul] at this; exact cmpZ_lt (by omega)
  · exact cmpZ_gt (Int.mul_pos k hn)
  · subst k; rw [Int.zero_mul]; rfl
theorem signZ_times {A B P Q n : Int} (hn : 1 ≤ n) (h : goodB A B P Q = true) (k : goodB (A * n) (B * n) P Q = true) : signZ (A * n) (B * n) P Q = signZ A B P Q := by
  rw [signZ_good h, signZ_good k]
  unfold rootZ; rw [sq_scale _ _ (by omega), sq_scale _ _ (by omega)]
  have e : sq A * (n * n) * Q + sq B * (n * n) * P = (sq A * Q + sq B * P) * (n * n) := by rw [Int.add_mul]; congr 1 <;> ac_rfl
  rw [e, cmp_scale (Int.mul_pos (by omega) (by omega))]
theorem sq_sum (u v : Int) : cmpZ (sq u + sq v) 0 = cmpZ (u + v) 0 := by
  rcases cmpZ_cases (u + v) 0 with ⟨k, e⟩ | ⟨k, e⟩ | ⟨k, e⟩ <;> rw [e]
  · have := sq_lt (show u < -v by omega); rw [sq_neg] at this; exact cmpZ_lt (by omega)
  · have := sq_lt (show -v < u by omega); rw [sq_neg] at this; exact cmpZ_gt (by omega)
  · have : u = -v := by omega
    subst this; rw [sq_neg]; exact cmpZ_eq (by omega)
theorem signZ_square {a b r q : Int} (ha : -1000000000 ≤ a ∧ a ≤ 1000000000) (hb : -1000000000 ≤ b ∧ b ≤ 1000000000) (hr : 0 ≤ r ∧ r ≤ 1000) (hq : 1 ≤ q ∧ q ≤ 1000) :
    signZ a b (r * r) (q * q) = cmpZ (a * q + b * r) 0 := by
  have h1 := mul_self_mono hr.1 hr.2
  have h2 := mul_self_mono (show 0 ≤ q by omega) hq.2
  have h3 := mul_self_mono (show (0 : Int) ≤ 1 by omega) hq.1
  rw [signZ_good (goodB_iff.2 ⟨ha.1, ha.2, hb.1, hb.2, mul_self_nn r, by omega, by omega, by omega⟩)]
  unfold rootZ; rw [← sq_scale _ _ (by omega), ← sq_scale _ _ hr.1, sq_sum]
theorem above_up {v w p q by' : Int} (ha : acceptB v w p q = true) (hb : acceptB (v + by') w p q = true) (h0 : 0 ≤ by') (h : aboveB v w p q = true) : aboveB (v + by') w p q = true := by
  have hw := acceptB_iff.1 ha
  have h1 := (aboveB_iff ha).1 h
  refine (aboveB_iff hb).2 (Int.lt_of_lt_of_le h1 ?_)
  exact Int.mul_le_mul_of_nonneg_right (sq_le (by omega)) (by omega)
theorem above_down {v w p q by' : Int} (ha : acceptB v w p q = true) (hb : acceptB v (w + by') p q = true) (h0 : 0 ≤ by') (h : aboveB v (w + by') p q = true) : aboveB v w p q = true := by
  have hw := acceptB_iff.1 ha
  have h1 := (aboveB_iff hb).1 h
  refine (aboveB_iff ha).2 ?_
  have h2 : sq (v - (w + by')) * q ≤ sq (v - w) * q := Int.mul_le_mul_of_nonneg_right (sq_le (by omega)) (by omega)
  have h3 : w * w * p ≤ (w + by') * (w + by') * p := Int.mul_le_mul_of_nonneg_right (mul_self_mono (by omega) (by omega)) (by omega)
  omega
theorem bound_down {v w p q by' : Int} (ha : acceptB v w p q = true) (hb : acceptB (v + by') w p q = true) (h0 : 0 ≤ by') (h : boundB (v + by') w p q = true) : boundB v w p q = true := by
  have hw := acceptB_iff.1 ha
  have h1 := (boundB_iff hb).1 h
  refine (boundB_iff ha).2 (Int.le_trans (sq_le ?_) h1)
  unfold restZ
  have : (v - w) * q ≤ (v + by' - w) * q := Int.mul_le_mul_of_nonneg_right (by omega) (by omega)
  omega
theorem bound_up {v w p q by' : Int} (ha : acceptB v w p q = true) (hb : acceptB v (w + by') p q = true) (h0 : 0 ≤ by') (h : boundB v w p q = true) : boundB v (w + by') p q = true := by
  have hw := acceptB_iff.1 ha
  have h1 := (boundB_iff ha).1 h
  refine (boundB_iff hb).2 ?_
  have h2 : sq (restZ v (w + by') p q) ≤ sq (restZ v w p q) := by
    refine sq_le ?_
    unfold restZ
    have a1 : (v - (w + by')) * q ≤ (v - w) * q := Int.mul_le_mul_of_nonneg_right (by omega) (by omega)
    have a2 : w * p ≤ (w + by') * p := Int.mul_le_mul_of_nonneg_right (by omega) (by omega)
    omega
  have h3 : 4 * (w * w) * (p * q) ≤ 4 * ((w + by') * (w + by')) * (p * q) := by
    refine Int.mul_le_mul_of_nonneg_right ?_ (Int.mul_nonneg (by omega) (by omega))
    have := mul_self_mono (show 0 ≤ w by omega) (show w ≤ w + by' by omega)
    omega
  omega
theorem above_square {v w r : Int} (ha : acceptB v w (r * r) 1 = true) (hr : 0 ≤ r) : aboveB v w (r * r) 1 = decide ((1 + r) * w < v) := by
  have hw := acceptB_iff.1 ha
  have h := aboveB_iff ha
  rw [Int.mul_one, show w * w * (r * r) = sq (w * r) by rw [sq_scale _ _ hr, sq_pos_of (by omega)], sq_lt_iff] at h
  have e : (1 + r) * w = w + w * r := by rw [Int.add_mul, Int.one_mul, Int.mul_comm r w]
  cases hb : aboveB v w (r * r) 1
  · symm; refine decide_eq_false (fun k => ?_)
    have := h.2 (by omega); rw [hb] at this; cases this
  · symm; refine decide_eq_true ?_
    have := h.1 hb; omega
theorem bound_square {v w r : Int} (ha : acceptB v w (r * r) 1 = true) (hr : 0 ≤ r) : boundB v w (r * r) 1 = decide (v ≤ (1 + r) * (1 + r) * w) := by
  have hw := acceptB_iff.1 ha
  have h := boundB_iff ha
  have e1 : 4 * (w * w) * (r * r * 1) = sq (2 * w * r) := by
    rw [sq_scale _ _ hr, sq_pos_of (by omega)]
    rw [Int.mul_one]; congr 1
    rw [show (2 * w) * (2 * w) = 2 * 2 * (w * w) by ac_rfl]; rfl
  rw [e1, sq_le_iff] at h
  have e : (1 + r) * (1 + r) * w = w + 2 * w * r + w * (r * r) := by
    have : (1 + r) * (1 + r) = 1 + 2 * r + r * r := by rw [Int.add_mul, Int.mul_add, Int.mul_add]; omega
    rw [this, Int.add_mul, Int.add_mul, Int.one_mul, Int.mul_comm (r * r) w, show 2 * r * w = 2 * w * r by ac_rfl]
  unfold restZ at h
  rw [Int.mul_one] at h
  cases hb : boundB v w (r * r) 1
  · symm; refine decide_eq_false (fun k => ?_)
    have := h.2 (by omega); rw [hb] at this; cases this
  · symm; refine decide_eq_true ?_
    have := h.1 hb; omega
end Go.Proofs.Ytdflllhepijcgaa
