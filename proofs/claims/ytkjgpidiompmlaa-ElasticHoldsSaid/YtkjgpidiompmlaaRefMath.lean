/- Plain mathematics of the document's own reckoning of layer 1: a product by quarters, a division bit by bit. No Go, no program. -/
import Derived.Lib.Mul64
import Derived.Laws.Bits64b
namespace Go.Proofs.Ytkjgpidiompmlaa
open Go

/-- The lower half of a product by quarters. -/
theorem quarters_lo (x y : Nat) (m2 low : Nat)
    (hlow : low = (x % 4294967296) * (y % 4294967296))
    (hm2 : m2 = ((x / 4294967296) * (y % 4294967296) + low / 4294967296) % 4294967296 + (x % 4294967296) * (y / 4294967296)) :
    (m2 * 4294967296 % 18446744073709551616 ||| low % 4294967296) = x * y % 18446744073709551616 := by
  have e : x * y = (x / 4294967296) * (y / 4294967296) * (4294967296 * 4294967296) + ((x / 4294967296) * (y % 4294967296) + (x % 4294967296) * (y / 4294967296)) * 4294967296 + (x % 4294967296) * (y % 4294967296) := by
    rw [← Lib.split_mul, Nat.div_add_mod' x 4294967296, Nat.div_add_mod' y 4294967296]
  have hm : m2 * 4294967296 % 18446744073709551616 = 2 ^ 32 * (m2 % 4294967296) := by
    rw [show (18446744073709551616 : Nat) = 4294967296 * 4294967296 from rfl, Nat.mul_mod_mul_right, Nat.mul_comm]
  rw [hm, ← Nat.two_pow_add_eq_or_of_lt (show low % 4294967296 < 2 ^ 32 from Nat.mod_lt _ (by decide)), e]
  rw [← hlow]
  generalize (x / 4294967296) * (y / 4294967296) = a at *
  generalize (x / 4294967296) * (y % 4294967296) = b at *
  generalize (x % 4294967296) * (y / 4294967296) = c at *
  clear hm e hlow
  subst hm2
  omega

/-- What the division keeps: hi and the bits of lo above place i, divided by c so far. -/
def BRel (hi lo c i q r : Nat) : Prop := hi * 2 ^ (64 - i) + lo / 2 ^ i = q * c + r ∧ r < c ∧ i ≤ 64

theorem BRel.start {hi lo c : Nat} (h : hi < c) (hl : lo < 18446744073709551616) : BRel hi lo c 64 0 hi := by
  refine ⟨?_, h, Nat.le_refl _⟩
  have : lo / 2 ^ 64 = 0 := Nat.div_eq_of_lt hl
  rw [this]; simp
theorem bit_next (lo i : Nat) : lo / 2 ^ i = 2 * (lo / 2 ^ (i + 1)) + lo / 2 ^ i % 2 := by
  have : lo / 2 ^ (i + 1) = lo / 2 ^ i / 2 := by rw [Nat.pow_succ, Nat.div_div_eq_div_mul]
  rw [this]; omega
theorem BRel.next {hi lo c i q r : Nat} (h : BRel hi lo c (i + 1) q r) :
    hi * 2 ^ (64 - i) + lo / 2 ^ i = 2 * q * c + (2 * r + lo / 2 ^ i % 2) := by
  obtain ⟨h1, h2, h3⟩ := h
  have e : 2 ^ (64 - i) = 2 * 2 ^ (64 - (i + 1)) := by
    have : 64 - i = (64 - (i + 1)) + 1 := by omega
    rw [this, Nat.pow_succ, Nat.mul_comm]
  have e2 : hi * 2 ^ (64 - i) = 2 * (hi * 2 ^ (64 - (i + 1))) := by rw [e]; rw [Nat.mul_left_comm]
  have e3 : 2 * q * c = 2 * (q * c) := Nat.mul_assoc _ _ _
  have e4 := bit_next lo i
  rw [e2, e3]
  omega
theorem BRel.take {hi lo c i q r : Nat} (h : BRel hi lo c (i + 1) q r) (hc : c ≤ 2 * r + lo / 2 ^ i % 2) : BRel hi lo c i (2 * q + 1) (2 * r + lo / 2 ^ i % 2 - c) := by
  have e := h.next
  obtain ⟨h1, h2, h3⟩ := h
  refine ⟨?_, by omega, by omega⟩
  rw [e, Nat.add_mul, Nat.one_mul]; omega
theorem BRel.skip {hi lo c i q r : Nat} (h : BRel hi lo c (i + 1) q r) (hc : ¬ c ≤ 2 * r + lo / 2 ^ i % 2) : BRel hi lo c i (2 * q) (2 * r + lo / 2 ^ i % 2) := by
  have e := h.next
  obtain ⟨h1, h2, h3⟩ := h
  exact ⟨e, by omega, by omega⟩
theorem BRel.done {hi lo c q r : Nat} (h : BRel hi lo c 0 q r) : q = (hi * 18446744073709551616 + lo) / c ∧ r = (hi * 18446744073709551616 + lo) % c := by
  obtain ⟨h1, h2, h3⟩ := h
  have e : hi * 18446744073709551616 + lo = r + q * c := by
    have : hi * 2 ^ (64 - 0) + lo / 2 ^ 0 = hi * 18446744073709551616 + lo := by simp
    omega
  rw [e, Nat.add_mul_div_right _ _ (by omega), Nat.add_mul_mod_self_right, Nat.div_eq_of_lt h2, Nat.mod_eq_of_lt h2]
  exact ⟨by omega, rfl⟩
theorem BRel.q_lt {hi lo c i q r : Nat} (h : BRel hi lo c i q r) (hh : hi < c) (hl : lo < 18446744073709551616) : q < 2 ^ (64 - i) := by
  obtain ⟨h1, h2, h3⟩ := h
  have hp := Nat.two_pow_pos (64 - i)
  have hlo : lo / 2 ^ i < 2 ^ (64 - i) := by
    rw [Nat.div_lt_iff_lt_mul (Nat.two_pow_pos _), ← Nat.pow_add, show 64 - i + i = 64 by omega]; exact hl
  have : hi * 2 ^ (64 - i) + 2 ^ (64 - i) ≤ c * 2 ^ (64 - i) := by
    have := Nat.mul_le_mul_right (2 ^ (64 - i)) (show hi + 1 ≤ c from hh)
    rw [Nat.add_mul, Nat.one_mul] at this; exact this
  have h4 : q * c < 2 ^ (64 - i) * c := by rw [Nat.mul_comm (2 ^ (64 - i)) c]; omega
  exact Nat.lt_of_mul_lt_mul_right h4
theorem half_lt {i q : Nat} (h : q < 2 ^ (64 - (i + 1))) (hi : i < 64) : 2 * q + 1 < 18446744073709551616 := by
  have : 2 ^ (64 - (i + 1)) ≤ 2 ^ 63 := Nat.pow_le_pow_right (by decide) (by omega)
  have e : (2 : Nat) ^ 63 = 9223372036854775808 := rfl
  omega
theorem and1 (a : Nat) (ha : a < 18446744073709551616) : bits .and .u64 (a : Int) 1 = ((a % 2 : Nat) : Int) := by
  have h := bits_and_u64_nat a 1 ha (by omega)
  have e : a &&& 1 = a % 2 := Nat.and_two_pow_sub_one_eq_mod a 1
  rw [e] at h
  exact h
theorem or1 (a b : Nat) (ha : 2 * a < 18446744073709551616) (hb : b < 2) : bits .or .u64 (2 * (a : Int)) (b : Int) = ((2 * a + b : Nat) : Int) := by
  have h := bits_or_u64_nat (2 * a) b ha (by omega)
  have e : 2 * a ||| b = 2 * a + b := by
    have := Nat.two_pow_add_eq_or_of_lt (show b < 2 ^ 1 from hb) a
    rw [Nat.pow_one] at this; exact this.symm
  rw [e] at h
  exact h
end Go.Proofs.Ytkjgpidiompmlaa
