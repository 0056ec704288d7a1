/- Plain mathematics for package num: what its functions answer, as functions of integers. No Go, no program. -/
namespace Go.Proofs.YtacffjkhbajgkaaDoor

/-- An int64 holds it. -/
def fitB (x : Int) : Bool := decide (-9223372036854775808 ≤ x ∧ x ≤ 9223372036854775807)
def cutZ (x : Int) : Int := if fitB x = true then x else 0
theorem fitB_true {x : Int} (h : -9223372036854775808 ≤ x ∧ x ≤ 9223372036854775807) : fitB x = true := by simp only [fitB, decide_eq_true_eq]; exact h
theorem fitB_false {x : Int} (h : ¬ (-9223372036854775808 ≤ x ∧ x ≤ 9223372036854775807)) : fitB x = false := by simp only [fitB, decide_eq_false_iff_not]; exact h
theorem fitB_iff {x : Int} : fitB x = true ↔ (-9223372036854775808 ≤ x ∧ x ≤ 9223372036854775807) := by simp only [fitB, decide_eq_true_eq]
theorem fitB_not {x : Int} : fitB x = false ↔ ¬ (-9223372036854775808 ≤ x ∧ x ≤ 9223372036854775807) := by simp only [fitB, decide_eq_false_iff_not]
theorem cutZ_true {x : Int} (h : fitB x = true) : cutZ x = x := by rw [cutZ, if_pos h]
theorem cutZ_false {x : Int} (h : fitB x = false) : cutZ x = 0 := by rw [cutZ, if_neg (by rw [h]; decide)]

/-- The order of two integers. -/
def cmpZ (x y : Int) : Int := if x < y then -1 else if y < x then 1 else 0
theorem cmpZ_lt {x y : Int} (h : x < y) : cmpZ x y = -1 := by rw [cmpZ, if_pos h]
theorem cmpZ_gt {x y : Int} (h : y < x) : cmpZ x y = 1 := by rw [cmpZ, if_neg (by omega), if_pos h]
theorem cmpZ_eq {x y : Int} (h : x = y) : cmpZ x y = 0 := by rw [cmpZ, if_neg (by omega), if_neg (by omega)]
theorem cmpZ_cases (x y : Int) : (x < y ∧ cmpZ x y = -1) ∨ (y < x ∧ cmpZ x y = 1) ∨ (x = y ∧ cmpZ x y = 0) := by
  by_cases h : x < y
  · exact .inl ⟨h, cmpZ_lt h⟩
  · by_cases h2 : y < x
    · exact .inr (.inl ⟨h2, cmpZ_gt h2⟩)
    · have e : x = y := by omega
      exact .inr (.inr ⟨e, cmpZ_eq e⟩)
theorem cmpZ_swap (x y : Int) : cmpZ x y = - cmpZ y x := by
  rcases cmpZ_cases x y with ⟨h, e⟩ | ⟨h, e⟩ | ⟨h, e⟩ <;> rw [e]
  · rw [cmpZ_gt h]
  · rw [cmpZ_lt h]; rfl
  · rw [cmpZ_eq h.symm]; rfl

/-- A 128-bit number in two halves compares as its value does. -/
theorem halves_cmp (x y : Int) : (x / 18446744073709551616 < y / 18446744073709551616 → x < y) ∧
    (x / 18446744073709551616 = y / 18446744073709551616 → (x % 18446744073709551616 < y % 18446744073709551616 ↔ x < y)) := by
  constructor <;> intro h <;> omega

/-- Shares, down and up. -/
def shareOk (x c : Int) : Bool := decide (1 ≤ c) && fitB (x / c)
def shareV (x c : Int) : Int := if shareOk x c = true then x / c else 0
def upZ (x c : Int) : Int := -((-x) / c)
def upOk (x c : Int) : Bool := decide (1 ≤ c) && fitB (upZ x c)
def upV (x c : Int) : Int := if upOk x c = true then upZ x c else 0

/-- The quotient of absolute values, as 'quotient' gives it. -/
def quoOk (n : Nat) (c : Int) : Bool := decide (1 ≤ c ∧ ((n / c.toNat : Nat) : Int) ≤ 9223372036854775808)

theorem abs_mul (a b : Int) : (a.natAbs * b.natAbs : Nat) = (a * b).natAbs := (Int.natAbs_mul a b).symm

/-- Down and up, from the absolute value's quotient q and rest. -/
theorem down_pos {x c : Int} (hc : 1 ≤ c) (hx : 0 ≤ x) : x / c = ((x.natAbs / c.toNat : Nat) : Int) := by
  obtain ⟨n, rfl⟩ := Int.eq_ofNat_of_zero_le hx
  obtain ⟨d, rfl⟩ := Int.eq_ofNat_of_zero_le (show 0 ≤ c by omega)
  rfl
theorem down_neg {x c : Int} (hc : 1 ≤ c) (hx : x < 0) :
    x / c = -((x.natAbs / c.toNat : Nat) : Int) - (if x.natAbs % c.toNat = 0 then 0 else 1) := by
  obtain ⟨n, rfl⟩ : ∃ n : Nat, x = -(n : Int) := ⟨x.natAbs, by omega⟩
  obtain ⟨d, rfl⟩ := Int.eq_ofNat_of_zero_le (show 0 ≤ c by omega)
  have hd : 0 < d := by omega
  rw [Int.natAbs_neg, Int.natAbs_natCast, Int.toNat_natCast]
  have h := Nat.div_add_mod n d
  have hm := Nat.mod_lt n hd
  split
  · rename_i h0
    have e : (-(n : Int)) = (d : Int) * (-((n / d : Nat) : Int)) := by
      rw [Int.mul_neg, ← Int.natCast_mul]; omega
    rw [e, Int.mul_ediv_cancel_left _ (by omega)]; omega
  · rename_i h0
    have e : (-(n : Int)) = ((d : Int) - ((n % d : Nat) : Int)) + (d : Int) * (-((n / d : Nat) : Int) - 1) := by
      rw [Int.mul_sub, Int.mul_neg, ← Int.natCast_mul]; omega
    rw [e, Int.add_mul_ediv_left _ _ (by omega), Int.ediv_eq_zero_of_lt (by omega) (by omega)]; omega
theorem up_neg {x c : Int} (hc : 1 ≤ c) (hx : x ≤ 0) : upZ x c = -((x.natAbs / c.toNat : Nat) : Int) := by
  unfold upZ; rw [down_pos hc (by omega), Int.natAbs_neg]
theorem up_pos {x c : Int} (hc : 1 ≤ c) (hx : 0 < x) :
    upZ x c = ((x.natAbs / c.toNat : Nat) : Int) + (if x.natAbs % c.toNat = 0 then 0 else 1) := by
  unfold upZ; rw [down_neg hc (by omega), Int.natAbs_neg]; omega

/-- The greatest common divisor, as the chapter tells it. -/
def gcdZ (a b : Int) : Int := if a = -9223372036854775808 ∨ b = -9223372036854775808 then 1 else (Nat.gcd a.natAbs b.natAbs : Nat)
theorem gcdZ_comm (a b : Int) : gcdZ a b = gcdZ b a := by
  unfold gcdZ; rw [Nat.gcd_comm]; simp only [Or.comm]

/-- One round of the least common multiple: none where it fails. -/
def lcmStep (n x : Int) : Option Int := if x < 1 then none else if fitB (n / gcdZ n x * x) = true then some (n / gcdZ n x * x) else none
def lcmGo : Int → List Int → Option Int
  | n, [] => some n
  | n, x :: l => match lcmStep n x with | none => none | some m => lcmGo m l
def lcmOk (most : Int) (l : List Int) : Bool := match lcmGo 1 l with | none => false | some n => decide (n ≤ most)
def lcmV (most : Int) (l : List Int) : Int := match lcmGo 1 l with | none => 0 | some n => if n ≤ most then n else 0
end Go.Proofs.YtacffjkhbajgkaaDoor
