/- Plain mathematics of a long division by two digits (Knuth's algorithm D, as math/bits.Div64 does it). No Go, no program. -/
import Derived.Lib.BitFns
import Derived.Laws.Bits64b
namespace Go.Proofs.Ytkjgpidiompmlaa
open Go

/-- What holds of a guessed digit q and its rest r at the head of the correcting loop. -/
def KRel (v1 u Q q r : Nat) : Prop := q * v1 + r = u ∧ r < 4294967296 ∧ Q ≤ q ∧ q ≤ 4294967297

theorem k_le {v1 v0 u z q r : Nat} (h : q * v1 + r = u) (hc : q * v0 ≤ 4294967296 * r + z) :
    q * (v1 * 4294967296 + v0) ≤ u * 4294967296 + z := by
  have e : q * (v1 * 4294967296 + v0) = q * v1 * 4294967296 + q * v0 := by rw [Nat.mul_add, Nat.mul_assoc]
  rw [e]
  generalize q * v1 = a at *
  generalize q * v0 = b at *
  omega
theorem k_lt {v1 v0 u z q r : Nat} (h : q * v1 + r = u) (hc : 4294967296 * r + z < q * v0) :
    u * 4294967296 + z < q * (v1 * 4294967296 + v0) := by
  have e : q * (v1 * 4294967296 + v0) = q * v1 * 4294967296 + q * v0 := by rw [Nat.mul_add, Nat.mul_assoc]
  rw [e]
  generalize q * v1 = a at *
  generalize q * v0 = b at *
  omega
theorem k_small {v u z : Nat} (hz : z < 4294967296) (hu : u < v) :
    (u * 4294967296 + z) / v < 4294967296 := by
  rw [Nat.div_lt_iff_lt_mul (by omega)]
  omega
theorem k_dec {v1 v0 u z q r : Nat} (hz : z < 4294967296) (hu : u < v1 * 4294967296 + v0)
    (h : KRel v1 u ((u * 4294967296 + z) / (v1 * 4294967296 + v0)) q r) (hc : 4294967296 ≤ q ∨ 4294967296 * r + z < q * v0) :
    1 ≤ q ∧ (u * 4294967296 + z) / (v1 * 4294967296 + v0) ≤ q - 1 ∧ (q - 1) * v1 + (r + v1) = u := by
  obtain ⟨h1, h2, h3, h4⟩ := h
  have hq : (u * 4294967296 + z) / (v1 * 4294967296 + v0) < q := by
    rcases hc with hc | hc
    · exact Nat.lt_of_lt_of_le (k_small hz hu) hc
    · rw [Nat.div_lt_iff_lt_mul (by omega)]; exact k_lt h1 hc
  refine ⟨Nat.lt_of_le_of_lt (Nat.zero_le _) hq, Nat.le_sub_one_of_lt hq, ?_⟩
  have hq1 : 1 ≤ q := Nat.lt_of_le_of_lt (Nat.zero_le _) hq
  clear hq hc h3 h4
  obtain ⟨p, rfl⟩ : ∃ p, q = p + 1 := ⟨q - 1, by omega⟩
  rw [Nat.add_mul] at h1
  simp only [Nat.add_sub_cancel]
  omega
theorem k_step {v1 v0 u z q r : Nat} (hz : z < 4294967296) (hu : u < v1 * 4294967296 + v0)
    (h : KRel v1 u ((u * 4294967296 + z) / (v1 * 4294967296 + v0)) q r) (hc : 4294967296 ≤ q ∨ 4294967296 * r + z < q * v0) (hr : r + v1 < 4294967296) :
    KRel v1 u ((u * 4294967296 + z) / (v1 * 4294967296 + v0)) (q - 1) (r + v1) := by
  obtain ⟨a, b, c⟩ := k_dec hz hu h hc
  exact ⟨c, hr, b, by have := h.2.2.2; omega⟩
theorem k_break {v1 v0 u z q r : Nat} (hz : z < 4294967296) (h0 : v0 < 4294967296) (hu : u < v1 * 4294967296 + v0)
    (h : KRel v1 u ((u * 4294967296 + z) / (v1 * 4294967296 + v0)) q r) (hc : 4294967296 ≤ q ∨ 4294967296 * r + z < q * v0) (hr : 4294967296 ≤ r + v1) :
    q - 1 = (u * 4294967296 + z) / (v1 * 4294967296 + v0) := by
  obtain ⟨a, b, c⟩ := k_dec hz hu h hc
  refine Nat.le_antisymm ?_ b
  rw [Nat.le_div_iff_mul_le (by omega)]
  refine k_le c ?_
  have h4 := h.2.2.2
  have : (q - 1) * v0 ≤ 4294967296 * 4294967295 := Nat.mul_le_mul (by omega) (by omega)
  omega
theorem k_exit {v1 v0 u z q r : Nat} (hu : u < v1 * 4294967296 + v0)
    (h : KRel v1 u ((u * 4294967296 + z) / (v1 * 4294967296 + v0)) q r) (hc : q * v0 ≤ 4294967296 * r + z) :
    q = (u * 4294967296 + z) / (v1 * 4294967296 + v0) := by
  refine Nat.le_antisymm ?_ h.2.2.1
  rw [Nat.le_div_iff_mul_le (by omega)]
  exact k_le h.1 hc
theorem k_start {v1 v0 u z : Nat} (hz : z < 4294967296) (h0 : v0 < 4294967296) (h1 : 2147483648 ≤ v1) (h2 : v1 < 4294967296) (hu : u < v1 * 4294967296 + v0) :
    KRel v1 u ((u * 4294967296 + z) / (v1 * 4294967296 + v0)) (u / v1) (u % v1) := by
  have hd := Nat.div_add_mod' u v1
  have hm := Nat.mod_lt u (show v1 > 0 by omega)
  have hq : u / v1 ≤ 4294967297 := by
    rw [← Nat.lt_succ_iff, Nat.div_lt_iff_lt_mul (by omega)]; omega
  refine ⟨hd, by omega, ?_, hq⟩
  rw [← Nat.lt_succ_iff, Nat.div_lt_iff_lt_mul (by omega)]
  have e : (u / v1).succ * (v1 * 4294967296 + v0) = u / v1 * v1 * 4294967296 + u / v1 * v0 + (v1 * 4294967296 + v0) := by
    rw [Nat.succ_mul, Nat.mul_add, Nat.mul_assoc]
  rw [e]
  generalize u / v1 * v1 = a at *
  generalize u / v1 * v0 = b at *
  omega

/-- The same with the digit and the divisor behind names. -/
def KIs (v1 v0 u z Q : Nat) : Prop := Q = (u * 4294967296 + z) / (v1 * 4294967296 + v0) ∧ u < v1 * 4294967296 + v0 ∧ z < 4294967296 ∧ v0 < 4294967296 ∧ 2147483648 ≤ v1 ∧ v1 < 4294967296
theorem KIs.step {v1 v0 u z Q q r : Nat} (i : KIs v1 v0 u z Q) (h : KRel v1 u Q q r) (hc : 4294967296 ≤ q ∨ 4294967296 * r + z < q * v0) (hr : r + v1 < 4294967296) : KRel v1 u Q (q - 1) (r + v1) := by
  obtain ⟨rfl, hu, hz, h0, _, _⟩ := i; exact k_step hz hu h hc hr
theorem KIs.brk {v1 v0 u z Q q r : Nat} (i : KIs v1 v0 u z Q) (h : KRel v1 u Q q r) (hc : 4294967296 ≤ q ∨ 4294967296 * r + z < q * v0) (hr : 4294967296 ≤ r + v1) : q - 1 = Q := by
  obtain ⟨rfl, hu, hz, h0, _, _⟩ := i; exact k_break hz h0 hu h hc hr
theorem KIs.pos {v1 v0 u z Q q r : Nat} (i : KIs v1 v0 u z Q) (h : KRel v1 u Q q r) (hc : 4294967296 ≤ q ∨ 4294967296 * r + z < q * v0) : 1 ≤ q := by
  obtain ⟨rfl, hu, hz, h0, _, _⟩ := i; exact (k_dec hz hu h hc).1
theorem KIs.done {v1 v0 u z Q q r : Nat} (i : KIs v1 v0 u z Q) (h : KRel v1 u Q q r) (hc : q * v0 ≤ 4294967296 * r + z) : q = Q := by
  obtain ⟨rfl, hu, hz, h0, _, _⟩ := i; exact k_exit hu h hc
theorem KIs.start {v1 v0 u z Q : Nat} (i : KIs v1 v0 u z Q) : KRel v1 u Q (u / v1) (u % v1) := by
  obtain ⟨rfl, hu, hz, h0, a, b⟩ := i; exact k_start hz h0 a b hu
theorem KIs.lt {v1 v0 u z Q : Nat} (i : KIs v1 v0 u z Q) : Q < 4294967296 := by
  obtain ⟨rfl, hu, hz, h0, a, b⟩ := i; exact k_small hz hu
theorem KRel.r_lt {v1 u Q q r : Nat} (h : KRel v1 u Q q r) : r < 4294967296 := h.2.1
theorem KRel.q_le {v1 u Q q r : Nat} (h : KRel v1 u Q q r) : q ≤ 4294967297 := h.2.2.2

/-- bitLen: the top bit. -/
theorem bitLen_lo : ∀ (n y : Nat), y < 2 ^ n → n ≤ 64 → y ≠ 0 → 2 ^ (Lib.bitLen y - 1) ≤ y ∧ y < 2 ^ Lib.bitLen y ∧ 1 ≤ Lib.bitLen y
  | 0, y, h, _, h0 => by simp at h; omega
  | n + 1, y, h, hn, h0 => by
    have hy : y < 2 ^ 64 := Nat.lt_of_lt_of_le h (Nat.pow_le_pow_right (by omega) hn)
    have hb := Lib.bitLen_half y h0 hy
    by_cases hh : y / 2 = 0
    · have : y = 1 := by omega
      subst this
      have e : Lib.bitLen 1 = 1 := by decide
      rw [e]; exact ⟨by decide, by decide, by decide⟩
    · have ih := bitLen_lo n (y / 2) (by rw [Nat.pow_succ] at h; omega) (by omega) hh
      obtain ⟨a, b, c⟩ := ih
      rw [hb]
      refine ⟨?_, ?_, by omega⟩
      · have e : 1 + Lib.bitLen (y / 2) - 1 = (Lib.bitLen (y / 2) - 1) + 1 := by omega
        rw [e, Nat.pow_succ]; omega
      · rw [Nat.add_comm, Nat.pow_succ]; omega

theorem norm_bits {y : Nat} (h0 : 1 ≤ y) (hy : y < 18446744073709551616) :
    Lib.bitLen y ≤ 64 ∧ 1 ≤ Lib.bitLen y ∧ 9223372036854775808 ≤ y * 2 ^ (64 - Lib.bitLen y) ∧ y * 2 ^ (64 - Lib.bitLen y) < 18446744073709551616 := by
  obtain ⟨a, b, c⟩ := bitLen_lo 64 y hy (Nat.le_refl _) (by omega)
  have d : Lib.bitLen y ≤ 64 := Lib.bitLen_le y 64 (Nat.le_refl _) hy
  refine ⟨d, c, ?_, ?_⟩
  · have := Nat.mul_le_mul_right (2 ^ (64 - Lib.bitLen y)) a
    rw [← Nat.pow_add] at this
    have e : Lib.bitLen y - 1 + (64 - Lib.bitLen y) = 63 := by omega
    rw [e] at this; exact this
  · have := Nat.mul_lt_mul_of_pos_right b (Nat.two_pow_pos (64 - Lib.bitLen y))
    rw [← Nat.pow_add] at this
    have e : Lib.bitLen y + (64 - Lib.bitLen y) = 64 := by omega
    rw [e] at this; exact this

/-- The shifted dividend: hi shifted, with lo's upper bits, and lo's lower bits shifted. -/
theorem norm_num {hi lo y s : Nat} (hs : s ≤ 63) (h : hi < y) (hl : lo < 18446744073709551616) (hv : y * 2 ^ s < 18446744073709551616) :
    hi * 2 ^ s < 18446744073709551616 ∧ lo / 2 ^ (64 - s) < 2 ^ s ∧ hi * 2 ^ s + lo / 2 ^ (64 - s) < y * 2 ^ s ∧
    (hi * 2 ^ s + lo / 2 ^ (64 - s)) * 18446744073709551616 + lo * 2 ^ s % 18446744073709551616 = (hi * 18446744073709551616 + lo) * 2 ^ s ∧
    (hi * 2 ^ s ||| lo / 2 ^ (64 - s)) = hi * 2 ^ s + lo / 2 ^ (64 - s) := by
  have hp := Nat.two_pow_pos s
  have e64 : 2 ^ s * 2 ^ (64 - s) = 18446744073709551616 := by rw [← Nat.pow_add, show s + (64 - s) = 64 by omega]
  have ht : lo / 2 ^ (64 - s) < 2 ^ s := by
    rw [Nat.div_lt_iff_lt_mul (Nat.two_pow_pos _), e64]; exact hl
  have h1 : hi * 2 ^ s + 2 ^ s ≤ y * 2 ^ s := by
    have := Nat.mul_le_mul_right (2 ^ s) (show hi + 1 ≤ y from h)
    rw [Nat.add_mul, Nat.one_mul] at this; exact this
  refine ⟨by omega, ht, by omega, ?_, ?_⟩
  · have hm : lo * 2 ^ s % 18446744073709551616 = lo % 2 ^ (64 - s) * 2 ^ s := by
      rw [← e64, Nat.mul_comm (2 ^ s), Nat.mul_mod_mul_right]
    have hd := Nat.div_add_mod' lo (2 ^ (64 - s))
    have e2 : lo / 2 ^ (64 - s) * 18446744073709551616 = lo / 2 ^ (64 - s) * 2 ^ (64 - s) * 2 ^ s := by
      rw [← e64, Nat.mul_comm (2 ^ s) (2 ^ (64 - s)), Nat.mul_assoc]
    rw [hm, Nat.add_mul, e2, Nat.add_mul]
    have e3 : lo * 2 ^ s = lo / 2 ^ (64 - s) * 2 ^ (64 - s) * 2 ^ s + lo % 2 ^ (64 - s) * 2 ^ s := by
      rw [← Nat.add_mul, hd]
    rw [e3, Nat.mul_right_comm hi]
    omega
  · rw [Nat.mul_comm hi, ← Nat.two_pow_add_eq_or_of_lt ht]

/-- Two digits in a row make the whole quotient. -/
theorem k_whole {u z1 z0 v Q1 r1 Q0 : Nat} (hv : 0 < v) (h1 : Q1 = (u * 4294967296 + z1) / v) (hr : r1 = (u * 4294967296 + z1) % v)
    (h0 : Q0 = (r1 * 4294967296 + z0) / v) :
    Q1 * 4294967296 + Q0 = (u * 18446744073709551616 + (z1 * 4294967296 + z0)) / v ∧
    (r1 * 4294967296 + z0) % v = (u * 18446744073709551616 + (z1 * 4294967296 + z0)) % v := by
  have d1 := Nat.div_add_mod' (u * 4294967296 + z1) v
  rw [← h1, ← hr] at d1
  have e : u * 18446744073709551616 + (z1 * 4294967296 + z0) = (r1 * 4294967296 + z0) + Q1 * 4294967296 * v := by
    have : Q1 * 4294967296 * v = Q1 * v * 4294967296 := Nat.mul_right_comm _ _ _
    rw [this]
    generalize Q1 * v = a at *
    omega
  rw [e, Nat.add_mul_div_right _ _ hv, Nat.add_mul_mod_self_right, ← h0]
  exact ⟨Nat.add_comm _ _, rfl⟩

/-- and the shift goes out again. -/
theorem k_back {n y s : Nat} : n * 2 ^ s / (y * 2 ^ s) = n / y ∧ n * 2 ^ s % (y * 2 ^ s) / 2 ^ s = n % y := by
  have hp := Nat.two_pow_pos s
  refine ⟨Nat.mul_div_mul_right _ _ hp, ?_⟩
  rw [Nat.mul_mod_mul_right, Nat.mul_div_cancel _ hp]
end Go.Proofs.Ytkjgpidiompmlaa
