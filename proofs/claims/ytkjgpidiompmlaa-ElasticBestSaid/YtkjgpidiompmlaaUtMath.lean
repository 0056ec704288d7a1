/- Maths of chapter 12: shares, up; periods; sums; texts rise with their shares. No word of any program. -/
import Derived.Test.YtkjgpidiompmlaaNumMath
import Derived.Laws.Strings
namespace Go.Proofs.Ytkjgpidiompmlaa
set_option linter.unusedVariables false
set_option linter.unusedSimpArgs false

/-! ## Up -/
theorem up_spec {x c : Int} (hc : 0 < c) : x ≤ upZ x c * c ∧ upZ x c * c < x + c := by
  unfold upZ
  have h1 : -x / c * c ≤ -x := Int.ediv_mul_le _ (by omega)
  have h2 : -x < (-x / c + 1) * c := Int.lt_ediv_add_one_mul_self _ hc
  rw [Int.add_mul, Int.one_mul] at h2
  rw [Int.neg_mul]
  omega
theorem up_le_iff {x c y : Int} (hc : 0 < c) : upZ x c ≤ y ↔ x ≤ y * c := by
  obtain ⟨h1, h2⟩ := up_spec (x := x) hc
  constructor
  · intro h
    have := Int.mul_le_mul_of_nonneg_right h (show 0 ≤ c by omega)
    omega
  · intro h
    rcases Int.lt_or_le y (upZ x c) with h3 | h3
    · exfalso
      have := Int.mul_le_mul_of_nonneg_right (show y + 1 ≤ upZ x c by omega) (show 0 ≤ c by omega)
      rw [Int.add_mul, Int.one_mul] at this
      omega
    · exact h3
theorem up_pos1 {x c : Int} (hc : 0 < c) (hx : 0 < x) : 1 ≤ upZ x c := by
  rcases Int.lt_or_le (upZ x c) 1 with h | h
  · exfalso
    have := (up_le_iff (x := x) (y := 0) hc).1 (by omega)
    omega
  · exact h
/-- UtilPeriods: a share's period has a share that is at most it; a tick less has more. -/
theorem period_share {N s p : Int} (hN : 0 < N) (hs : 0 < s) (hp : upZ N s = p) : upZ N p ≤ s ∧ (1 < p → s < upZ N (p - 1)) := by
  have p1 : 1 ≤ p := by rw [← hp]; exact up_pos1 hs hN
  constructor
  · rw [up_le_iff (by omega), Int.mul_comm]
    exact (up_le_iff hs).1 (by omega)
  · intro h1
    rcases Int.lt_or_le s (upZ N (p - 1)) with h | h
    · exact h
    · exfalso
      have h2 := (up_le_iff (x := N) (y := s) (show 0 < p - 1 by omega)).1 h
      rw [Int.mul_comm] at h2
      have := (up_le_iff (x := N) (y := p - 1) hs).2 h2
      omega
/-- .. and a period's share has that period, or less. -/
theorem share_period {N p : Int} (hN : 0 < N) (hp : 0 < p) : upZ N (upZ N p) ≤ p := by
  have u1 := up_pos1 (x := N) hp hN
  rw [up_le_iff (by omega), Int.mul_comm]
  exact (up_le_iff hp).1 (Int.le_refl _)
/-- UtilSums. -/
theorem sums_share {p : Int} (hp : 0 < p) : ∀ (l : List Int), (∀ x ∈ l, 1 ≤ x) →
    (l.map fun x => x * 1048576).sum ≤ (l.map fun x => upZ (x * 1048576) p).sum * p ∧ (l.map fun x => upZ (x * 1048576) p).sum * p ≤ (l.map fun x => x * 1048576).sum + (l.length : Int) * p
  | [], _ => by simp
  | x :: l, h => by
    obtain ⟨h1, h2⟩ := sums_share hp l (fun y hy => h y (by simp [hy]))
    obtain ⟨k1, k2⟩ := up_spec (x := x * 1048576) hp
    simp only [List.map_cons, List.sum_cons, List.length_cons]
    rw [Int.add_mul, Int.natCast_add, Int.add_mul]
    omega
theorem sum_mul : ∀ (l : List Int) (c : Int), (l.map fun x => x * c).sum = l.sum * c
  | [], c => by simp
  | x :: l, c => by simp only [List.map_cons, List.sum_cons]; rw [sum_mul l c, Int.add_mul]
/-! ## Texts -/
def dgB (n : Nat) : UInt8 := UInt8.ofNat (48 + n)
/-- A number's digits. -/
def dg (n : Nat) : List UInt8 := if n < 10 then [dgB n] else dg (n / 10) ++ [dgB (n % 10)]
termination_by n
decreasing_by omega
theorem dg_small {n : Nat} (h : n < 10) : dg n = [dgB n] := by rw [dg, if_pos h]
theorem dg_big {n : Nat} (h : ¬ n < 10) : dg n = dg (n / 10) ++ [dgB (n % 10)] := by rw [dg, if_neg h]
theorem dg_pos (n : Nat) : 1 ≤ (dg n).length := by
  by_cases h : n < 10
  · rw [dg_small h]; simp
  · rw [dg_big h]; simp
theorem dg_one {n : Nat} : (dg n).length = 1 ↔ n < 10 := by
  by_cases h : n < 10
  · rw [dg_small h]; simp [h]
  · rw [dg_big h, List.length_append]
    have := dg_pos (n / 10)
    rw [List.length_singleton]
    omega
theorem dgB_lt {a b : Nat} (h : a < b) (hb : b < 10) : dgB a < dgB b := by
  unfold dgB
  rw [UInt8.lt_iff_toNat_lt, UInt8.toNat_ofNat', UInt8.toNat_ofNat']
  omega
theorem dg_mono : ∀ (b a : Nat), a ≤ b → (dg a).length ≤ (dg b).length := by
  intro b
  induction b using Nat.strongRecOn with
  | _ b ih =>
    intro a h
    by_cases ha : a < 10
    · rw [dg_small ha]; have := dg_pos b; simpa using this
    · rw [dg_big ha, dg_big (show ¬ b < 10 by omega), List.length_append, List.length_append]
      have := ih (b / 10) (by omega) (a / 10) (Nat.div_le_div_right h)
      simpa using this
theorem less_left (p x y : List UInt8) : Op.bytesLess (p ++ x) (p ++ y) = Op.bytesLess x y := by
  induction p with
  | nil => rfl
  | cons a p ih =>
    show (decide (a < a) || (a == a && Op.bytesLess (p ++ x) (p ++ y))) = _
    have h1 : decide (a < a) = false := by simp
    rw [ih, h1]; simp
theorem less_app : ∀ (x y u v : List UInt8), x.length = y.length → Op.bytesLess x y = true → Op.bytesLess (x ++ u) (y ++ v) = true
  | [], [], _, _, _, h => by simp [Op.bytesLess] at h
  | a :: x, b :: y, u, v, hl, h => by
    have h2 : (decide (a < b) || (a == b && Op.bytesLess x y)) = true := h
    show (decide (a < b) || (a == b && Op.bytesLess (x ++ u) (y ++ v))) = true
    rw [Bool.or_eq_true] at h2 ⊢
    rcases h2 with h2 | h2
    · exact .inl h2
    · rw [Bool.and_eq_true] at h2
      exact .inr (by rw [Bool.and_eq_true]; exact ⟨h2.1, less_app x y u v (by simpa using hl) h2.2⟩)
  | [], b :: y, _, _, hl, _ => by simp at hl
  | a :: x, [], _, _, hl, _ => by simp at hl
theorem less_one {a b : UInt8} (h : a < b) : Op.bytesLess [a] [b] = true := by
  show (decide (a < b) || _) = true
  rw [decide_eq_true h]; rfl
/-- Of two numbers with as many digits the lesser one's stand ahead. -/
theorem dg_less : ∀ (b a : Nat), a < b → (dg a).length = (dg b).length → Op.bytesLess (dg a) (dg b) = true := by
  intro b
  induction b using Nat.strongRecOn with
  | _ b ih =>
    intro a h hl
    by_cases hb : b < 10
    · rw [dg_small hb, dg_small (by omega)]
      exact less_one (dgB_lt h hb)
    · have ha : ¬ a < 10 := fun ha => by
        have := dg_one.2 ha
        rw [hl] at this
        exact hb (dg_one.1 this)
      rw [dg_big ha, dg_big hb] at hl ⊢
      rw [List.length_append, List.length_append] at hl
      rcases Nat.lt_or_ge (a / 10) (b / 10) with c | c
      · exact less_app _ _ _ _ (by simpa using hl) (ih (b / 10) (by omega) (a / 10) c (by simpa using hl))
      · have e : a / 10 = b / 10 := by omega
        rw [e, less_left]
        exact less_one (dgB_lt (by omega) (by omega))
/-- Three digits. -/
def dg3 (m : Nat) : List UInt8 := [dgB (m / 100), dgB (m / 10 % 10), dgB (m % 10)]
def leB (x y : List UInt8) : Bool := Op.bytesLess x y || x == y
theorem dg3_le {a b : Nat} (h : a ≤ b) (hb : b < 1000) : leB (dg3 a) (dg3 b) = true := by
  unfold leB dg3
  rw [Bool.or_eq_true]
  rcases Nat.lt_or_ge (a / 100) (b / 100) with c1 | c1
  · left
    show (decide (dgB (a / 100) < dgB (b / 100)) || _) = true
    rw [decide_eq_true (dgB_lt c1 (by omega))]; rfl
  · have e1 : a / 100 = b / 100 := by omega
    rw [e1]
    rcases Nat.lt_or_ge (a / 10 % 10) (b / 10 % 10) with c2 | c2
    · left
      rw [show [dgB (b / 100), dgB (a / 10 % 10), dgB (a % 10)] = [dgB (b / 100)] ++ [dgB (a / 10 % 10), dgB (a % 10)] from rfl, show [dgB (b / 100), dgB (b / 10 % 10), dgB (b % 10)] = [dgB (b / 100)] ++ [dgB (b / 10 % 10), dgB (b % 10)] from rfl, less_left]
      show (decide (dgB (a / 10 % 10) < dgB (b / 10 % 10)) || _) = true
      rw [decide_eq_true (dgB_lt c2 (by omega))]; rfl
    · have e2 : a / 10 % 10 = b / 10 % 10 := by omega
      rw [e2]
      rcases Nat.lt_or_ge (a % 10) (b % 10) with c3 | c3
      · left
        rw [show [dgB (b / 100), dgB (b / 10 % 10), dgB (a % 10)] = [dgB (b / 100), dgB (b / 10 % 10)] ++ [dgB (a % 10)] from rfl, show [dgB (b / 100), dgB (b / 10 % 10), dgB (b % 10)] = [dgB (b / 100), dgB (b / 10 % 10)] ++ [dgB (b % 10)] from rfl, less_left]
        exact less_one (dgB_lt c3 (by omega))
      · right
        have e3 : a % 10 = b % 10 := by omega
        rw [e3]; simp
/-- Text of a share from 0 on. -/
def textL (n : Nat) : List UInt8 := dg (n / 1048576) ++ 46 :: dg3 (n % 1048576 * 1000 / 1048576)
theorem textL_len (n : Nat) : (textL n).length = (dg (n / 1048576)).length + 4 := by unfold textL dg3; simp
theorem textL_point (n : Nat) : (textL n)[(textL n).length - 4]? = some 46 := by
  rw [textL_len, Nat.add_sub_cancel]
  unfold textL
  rw [List.getElem?_append_right (Nat.le_refl _), Nat.sub_self]
  rfl
/-- UtilTexts. -/
theorem texts_rise {a b : Nat} (h : a ≤ b) : (textL a).length ≤ (textL b).length ∧ ((textL a).length < (textL b).length ∨ leB (textL a) (textL b) = true) ∧ 5 ≤ (textL a).length := by
  have hq : a / 1048576 ≤ b / 1048576 := Nat.div_le_div_right h
  have hm := dg_mono _ _ hq
  have hp := dg_pos (a / 1048576)
  rw [textL_len, textL_len]
  refine ⟨by omega, ?_, by omega⟩
  rcases Nat.lt_or_ge (dg (a / 1048576)).length (dg (b / 1048576)).length with c | c
  · left; omega
  · right
    have hl : (dg (a / 1048576)).length = (dg (b / 1048576)).length := by omega
    rcases Nat.lt_or_ge (a / 1048576) (b / 1048576) with d | d
    · unfold leB textL
      rw [less_app _ _ _ _ hl (dg_less _ _ d hl)]; rfl
    · have e : a / 1048576 = b / 1048576 := by omega
      have hr : a % 1048576 ≤ b % 1048576 := by omega
      have h3 := dg3_le (a := a % 1048576 * 1000 / 1048576) (b := b % 1048576 * 1000 / 1048576) (Nat.div_le_div_right (Nat.mul_le_mul_right _ hr)) (by omega)
      unfold leB textL at *
      rw [e, less_left, show (46 :: dg3 (a % 1048576 * 1000 / 1048576)) = [46] ++ dg3 (a % 1048576 * 1000 / 1048576) from rfl, show (46 :: dg3 (b % 1048576 * 1000 / 1048576)) = [46] ++ dg3 (b % 1048576 * 1000 / 1048576) from rfl, less_left]
      rw [Bool.or_eq_true] at h3 ⊢
      rcases h3 with h3 | h3
      · exact .inl h3
      · right
        rw [beq_iff_eq] at h3
        rw [h3]; simp
end Go.Proofs.Ytkjgpidiompmlaa
