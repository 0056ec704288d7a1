/- math/bits.Div64 answers the whole quotient and the rest of two words by one, where the upper word is less than the divisor. -/
import Derived.Test.YtkjgpidiompmlaaShelf
import Derived.Test.YtkjgpidiompmlaaChecked
import Derived.Test.YtkjgpidiompmlaaDivMath
import Derived.WalkKit
import Derived.Outline
import Derived.IntWalk
import Derived.BigQuiet
import Derived.Deep.QuietTactic
import Derived.Deep.DeepCutAuto
import Derived.Deep.CutBlock
import Derived.Laws.Bits64b
import Derived.Lib.Hide
namespace Go.Proofs.Ytkjgpidiompmlaa
open Go.RowKit

theorem wrapU (a : Nat) (h : a < 18446744073709551616) : IntKind.u64.wrap (a : Int) = (a : Int) := by rw [IntKind.wrap_u64]; omega

set_option maxHeartbeats 400000 in
set_option maxRecDepth 100000 in
theorem div64_core (hi lo y s v v1 v0 x t t64 u z z1 z0 q m r U1 M1 R1 q' m' r' : Nat) (w : World) (h0 : 1 ≤ hi) (h : hi < y) (hy : y < 18446744073709551616)
   (hs : s < 64) (hv1 : 1 ≤ v1) (hB : Hid (((2147483648 : Int) ≤ v1 ∧ (v1 : Int) < 4294967296) ∧ (v0 : Int) < 4294967296 ∧ (z1 : Int) < 4294967296 ∧ (z0 : Int) < 4294967296))
   (e1 : IntKind.u64.wrap (64 - ↑(Lib.bitLen y)) = (s:Int)) (e2 : min s 64 = s)
   (e3 : IntKind.u64.wrap (↑y * 2^s) = (v : Int)) (e4 : (v : Int)/4294967296 = ↑v1) (e5 : bits BinOp.and IntKind.u64 ↑v 4294967295 = ↑v0)
   (e6 : IntKind.u64.wrap (↑hi * 2^s) = (x : Int)) (e7 : IntKind.u64.wrap (64 - ↑s) = (t64 : Int)) (e7' : min t64 64 = t64)
   (e8 : (lo:Int) / 2^t64 = ↑t) (e9 : bits BinOp.or IntKind.u64 ↑x ↑t = ↑u) (e10 : IntKind.u64.wrap (↑lo * 2^s) = (z : Int))
   (e11 : (z:Int) / 4294967296 = ↑z1) (e12 : bits BinOp.and IntKind.u64 ↑z 4294967295 = ↑z0)
   (e13 : IntKind.u64.wrap (↑u / ↑v1) = (q : Int)) (e14 : IntKind.u64.wrap (↑q * ↑v1) = (m : Int)) (e15 : IntKind.u64.wrap (↑u - ↑m) = (r : Int))
   (Q1 : Nat) (hQ1 : KIs v1 v0 u z1 Q1) (hK1 : KRel v1 u Q1 q r)
   (e16 : IntKind.u64.wrap (↑u * 4294967296) = (U1 : Int)) (e17 : IntKind.u64.wrap (↑U1 + ↑z1) = (M1 : Int)) (e18 : IntKind.u64.wrap (↑Q1 * ↑v) = (R1 : Int)) (W1 : Nat)
   (e19 : IntKind.u64.wrap (↑M1 - ↑R1) = (W1 : Int))
   (e20 : IntKind.u64.wrap (↑W1 / ↑v1) = (q' : Int)) (e21 : IntKind.u64.wrap (↑q' * ↑v1) = (m' : Int)) (e22 : IntKind.u64.wrap (↑W1 - ↑m') = (r' : Int))
   (Q2 : Nat) (hQ2 : KIs v1 v0 W1 z0 Q2) (hK2 : KRel v1 W1 Q2 q' r')
   (P1 P2 F1 F2 F3 F4 : Nat) (e23 : IntKind.u64.wrap (↑Q1 * 4294967296) = (P1 : Int)) (e24 : IntKind.u64.wrap (↑P1 + ↑Q2) = (P2 : Int))
   (e25 : IntKind.u64.wrap (↑W1 * 4294967296) = (F1 : Int)) (e26 : IntKind.u64.wrap (↑F1 + ↑z0) = (F2 : Int)) (e27 : IntKind.u64.wrap (↑Q2 * ↑v) = (F3 : Int))
   (e28 : IntKind.u64.wrap (↑F2 - ↑F3) = (F4 : Int)) (G : Nat) (e29 : (F4 : Int) / 2 ^ s = (G : Int)) :
    Calls Try.prog 49 #[.int .u64 hi, .int .u64 lo, .int .u64 y] w fun e w' => e = .returned (.tuple #[.int .u64 (P2 : Int), .int .u64 (G : Int)]) ∧ w = w' := by
  have k1 : ((y : Int) == 0) = false := beq_eq_false_iff_ne.2 (by omega)
  have k2 : ((hi : Int) == 0) = false := beq_eq_false_iff_ne.2 (by omega)
  have k3 : ((v1 : Int) == 0) = false := beq_eq_false_iff_ne.2 (by omega)
  go_enter Try.func49, Try.ntmps49
  go_upto_block 0 with (go_at_call 50; refine (Try.bits_LeadingZeros64 _ _ (by omega) (by omega)).mono ?_; rintro e w' ⟨rfl, hw⟩; replace hw := hw.symm; subst hw)
  go_cut [15] (fun s15 wx => s15 = .int .u64 (Q1 : Int) ∧ w = wx)
  case first =>
    go_wp2_with fail
    go_loop [15, 16] (fun a b => ∃ q r : Nat, KRel v1 u Q1 q r ∧ a = .int .u64 (q : Int) ∧ b = .int .u64 (r : Int)) (fun a _ => (intOf a).toNat)
    case atStart => exact ⟨q, r, hK1, rfl, rfl⟩
    case round =>
      clear hK1 hK2 e13 e14 e15 e16 e17 e18 e19 e20 e21 e22 e23 e24 e25 e26 e27 e28 e29
      obtain ⟨q, r, hk, rfl, rfl⟩ := hrel
      obtain ⟨⟨hv1, hv1'⟩, hv0, hz1, -⟩ := hB.out
      have hr : (r : Int) < 4294967296 := by have := hk.r_lt; omega
      have hq : (q : Int) ≤ 4294967297 := by have := hk.q_le; omega
      by_cases c1 : (4294967296 : Int) ≤ q
      · by_cases c3 : (4294967296 : Int) ≤ r + v1
        · have hx := Lib.hid (hQ1.brk hk (Or.inl (by omega)) (by omega))
          go_wp2_with fail
          go_meet
          exact ⟨by rw [← hx.out]; go_num, rfl⟩
        · have hx := hQ1.step hk (Or.inl (by omega)) (by omega)
          go_wp2_with fail
          go_round
          case rel => exact ⟨q - 1, r + v1, hx, by go_num, by go_num⟩
          case measure => simp [intOf]; omega
      · have hp : q * v0 ≤ 4294967295 * 4294967295 := Nat.mul_le_mul (by omega) (by omega)
        obtain ⟨p, hpe⟩ : ∃ p, p = q * v0 := ⟨_, rfl⟩
        have ep : IntKind.u64.wrap (↑q * ↑v0) = (p : Int) := by rw [← Int.natCast_mul, ← hpe]; exact wrapU _ (by omega)
        rw [← hpe] at hp
        have hp' : (p : Int) ≤ 18446744065119617025 := by omega
        clear hp
        by_cases c2 : (4294967296 : Int) * r + z1 < p
        · have c2' : 4294967296 * r + z1 < q * v0 := by omega
          have hq1 := hQ1.pos hk (Or.inr c2')
          by_cases c3 : (4294967296 : Int) ≤ r + v1
          · have hx := Lib.hid (hQ1.brk hk (Or.inr c2') (by omega))
            clear c2' hpe
            go_wp2_with fail
            go_meet
            exact ⟨by rw [← hx.out]; go_num, rfl⟩
          · have hx := hQ1.step hk (Or.inr c2') (by omega)
            clear c2' hpe
            go_wp2_with fail
            go_round
            case rel => exact ⟨q - 1, r + v1, hx, by go_num, by go_num⟩
            case measure => simp [intOf]; omega
        · have hx := Lib.hid (hQ1.done hk (by omega))
          clear hpe
          go_wp2_with fail
          go_meet
          exact ⟨by rw [← hx.out], rfl⟩
  case rest =>
    obtain ⟨rfl, rfl⟩ := hcut
    clear hQ1 hK1
    go_upto_block 2 with fail
    go_cut [18] (fun s18 wx => s18 = .int .u64 (Q2 : Int) ∧ w = wx)
    case first =>
      go_wp2_with fail
      go_loop [18, 16] (fun a b => ∃ q r : Nat, KRel v1 W1 Q2 q r ∧ a = .int .u64 (q : Int) ∧ b = .int .u64 (r : Int)) (fun a _ => (intOf a).toNat)
      case atStart => exact ⟨q', r', hK2, rfl, rfl⟩
      case round =>
        clear hK2 e13 e14 e15 e16 e17 e18 e19 e20 e21 e22 e23 e24 e25 e26 e27 e28 e29
        obtain ⟨q, r, hk, rfl, rfl⟩ := hrel
        obtain ⟨⟨hv1, hv1'⟩, hv0, -, hz0⟩ := hB.out
        have hr : (r : Int) < 4294967296 := by have := hk.r_lt; omega
        have hq : (q : Int) ≤ 4294967297 := by have := hk.q_le; omega
        by_cases c1 : (4294967296 : Int) ≤ q
        · by_cases c3 : (4294967296 : Int) ≤ r + v1
          · have hx := Lib.hid (hQ2.brk hk (Or.inl (by omega)) (by omega))
            go_wp2_with fail
            go_meet
            exact ⟨by rw [← hx.out]; go_num, rfl⟩
          · have hx := hQ2.step hk (Or.inl (by omega)) (by omega)
            go_wp2_with fail
            go_round
            case rel => exact ⟨q - 1, r + v1, hx, by go_num, by go_num⟩
            case measure => simp [intOf]; omega
        · have hp : q * v0 ≤ 4294967295 * 4294967295 := Nat.mul_le_mul (by omega) (by omega)
          obtain ⟨p, hpe⟩ : ∃ p, p = q * v0 := ⟨_, rfl⟩
          have ep : IntKind.u64.wrap (↑q * ↑v0) = (p : Int) := by rw [← Int.natCast_mul, ← hpe]; exact wrapU _ (by omega)
          rw [← hpe] at hp
          have hp' : (p : Int) ≤ 18446744065119617025 := by omega
          clear hp
          by_cases c2 : (4294967296 : Int) * r + z0 < p
          · have c2' : 4294967296 * r + z0 < q * v0 := by omega
            have hq1 := hQ2.pos hk (Or.inr c2')
            by_cases c3 : (4294967296 : Int) ≤ r + v1
            · have hx := Lib.hid (hQ2.brk hk (Or.inr c2') (by omega))
              clear c2' hpe
              go_wp2_with fail
              go_meet
              exact ⟨by rw [← hx.out]; go_num, rfl⟩
            · have hx := hQ2.step hk (Or.inr c2') (by omega)
              clear c2' hpe
              go_wp2_with fail
              go_round
              case rel => exact ⟨q - 1, r + v1, hx, by go_num, by go_num⟩
              case measure => simp [intOf]; omega
          · have hx := Lib.hid (hQ2.done hk (by omega))
            clear hpe
            go_wp2_with fail
            go_meet
            exact ⟨by rw [← hx.out], rfl⟩
    case rest =>
      obtain ⟨rfl, rfl⟩ := hcut
      clear hQ2 hK2 hB
      go_wp2_with fail
      go_ret2
      exact ⟨rfl, rfl⟩

theorem maskU (a : Nat) (ha : a < 18446744073709551616) : bits .and .u64 (a : Int) 4294967295 = ((a % 4294967296 : Nat) : Int) := by
  have h := bits_and_u64_nat a 4294967295 ha (by omega)
  have e : a &&& 4294967295 = a % 4294967296 := Nat.and_two_pow_sub_one_eq_mod a 32
  rw [e] at h
  exact h
theorem wrapUmod (a : Nat) : IntKind.u64.wrap (a : Int) = ((a % 18446744073709551616 : Nat) : Int) := by rw [IntKind.wrap_u64]; omega
theorem wrapUsub (a b c : Nat) (h : ∃ k l : Nat, a + k * 18446744073709551616 = b + c + l * 18446744073709551616) (hc : c < 18446744073709551616) :
    IntKind.u64.wrap ((a : Int) - (b : Int)) = (c : Int) := by
  obtain ⟨k, l, h⟩ := h
  rw [IntKind.wrap_u64]; omega

/-- The whole of it, where the upper word is not 0. -/
theorem div64_big (hi lo y : Nat) (w : World) (h0 : 1 ≤ hi) (h : hi < y) (hl : lo < 18446744073709551616) (hy : y < 18446744073709551616) :
    Calls Try.prog 49 #[.int .u64 hi, .int .u64 lo, .int .u64 y] w fun e w' =>
      e = .returned (.tuple #[.int .u64 (((hi * 18446744073709551616 + lo) / y : Nat) : Int), .int .u64 (((hi * 18446744073709551616 + lo) % y : Nat) : Int)]) ∧ w = w' := by
  obtain ⟨b64, b1, nlo, nhi⟩ := norm_bits (y := y) (by omega) hy
  obtain ⟨s, hs⟩ : ∃ s, s = 64 - Lib.bitLen y := ⟨_, rfl⟩
  rw [← hs] at nlo nhi
  obtain ⟨m1, m2, m3, m4, m5⟩ := norm_num (s := s) (by omega) h hl nhi
  obtain ⟨v, hv⟩ : ∃ v, v = y * 2 ^ s := ⟨_, rfl⟩
  obtain ⟨x, hx⟩ : ∃ x, x = hi * 2 ^ s := ⟨_, rfl⟩
  obtain ⟨t, ht⟩ : ∃ t, t = lo / 2 ^ (64 - s) := ⟨_, rfl⟩
  obtain ⟨z, hz⟩ : ∃ z, z = lo * 2 ^ s % 18446744073709551616 := ⟨_, rfl⟩
  obtain ⟨u, hu⟩ : ∃ u, u = x + t := ⟨_, rfl⟩
  rw [← hx] at m1 m3 m4 m5
  rw [← ht] at m3 m4 m5
  rw [← hv] at nlo nhi m3
  rw [← hz, ← hu] at m4
  rw [← hu] at m3 m5
  have hvd := Nat.div_add_mod' v 4294967296
  have hzd := Nat.div_add_mod' z 4294967296
  obtain ⟨v1, hv1⟩ : ∃ v1, v1 = v / 4294967296 := ⟨_, rfl⟩
  obtain ⟨v0, hv0⟩ : ∃ v0, v0 = v % 4294967296 := ⟨_, rfl⟩
  obtain ⟨z1, hz1⟩ : ∃ z1, z1 = z / 4294967296 := ⟨_, rfl⟩
  obtain ⟨z0, hz0⟩ : ∃ z0, z0 = z % 4294967296 := ⟨_, rfl⟩
  have zlt : z < 18446744073709551616 := by rw [hz]; exact Nat.mod_lt _ (by omega)
  rw [← hv1, ← hv0] at hvd
  rw [← hz1, ← hz0] at hzd
  have lv1 : 2147483648 ≤ v1 := by omega
  have lv1' : v1 < 4294967296 := by omega
  have lv0 : v0 < 4294967296 := by omega
  have lz1 : z1 < 4294967296 := by omega
  have lz0 : z0 < 4294967296 := by omega
  obtain ⟨Q1, hQ1⟩ : ∃ Q, Q = (u * 4294967296 + z1) / (v1 * 4294967296 + v0) := ⟨_, rfl⟩
  have K1 : KIs v1 v0 u z1 Q1 := ⟨hQ1, by omega, lz1, lv0, lv1, lv1'⟩
  obtain ⟨W1, hW1⟩ : ∃ W, W = (u * 4294967296 + z1) % (v1 * 4294967296 + v0) := ⟨_, rfl⟩
  have wlt : W1 < v1 * 4294967296 + v0 := by rw [hW1]; exact Nat.mod_lt _ (by omega)
  obtain ⟨Q2, hQ2⟩ : ∃ Q, Q = (W1 * 4294967296 + z0) / (v1 * 4294967296 + v0) := ⟨_, rfl⟩
  have K2 : KIs v1 v0 W1 z0 Q2 := ⟨hQ2, wlt, lz0, lv0, lv1, lv1'⟩
  have q1lt := K1.lt
  have q2lt := K2.lt
  obtain ⟨w1, w2⟩ := k_whole (z0 := z0) (by omega) hQ1 hW1 hQ2
  have d1 := Nat.div_add_mod' (u * 4294967296 + z1) (v1 * 4294967296 + v0)
  have d2 := Nat.div_add_mod' (W1 * 4294967296 + z0) (v1 * 4294967296 + v0)
  rw [← hQ1, ← hW1] at d1
  rw [← hQ2] at d2
  rw [hzd, hvd] at w1 w2
  rw [hvd] at d1 d2 wlt
  rw [m4, hv] at w1 w2
  rw [k_back.1] at w1
  have w3 : (W1 * 4294967296 + z0) % (y * 2 ^ s) / 2 ^ s = (hi * 18446744073709551616 + lo) % y := by rw [w2]; exact k_back.2
  rw [← hv] at w3
  obtain ⟨F4, hF4⟩ : ∃ F, F = (W1 * 4294967296 + z0) % v := ⟨_, rfl⟩
  rw [← hF4] at w3 d2
  have f4lt : F4 < v := by rw [hF4]; exact Nat.mod_lt _ (by omega)
  have p2 : ((2 ^ s : Nat) : Int) = (2 : Int) ^ s := by rw [Int.natCast_pow]; rfl
  have p3 : ((2 ^ (64 - s) : Nat) : Int) = (2 : Int) ^ (64 - s) := by rw [Int.natCast_pow]; rfl
  have a1 : u / v1 * v1 ≤ u := Nat.div_mul_le_self _ _
  have a2 : W1 / v1 * v1 ≤ W1 := Nat.div_mul_le_self _ _
  have a3 := Nat.div_add_mod' u v1
  have a4 := Nat.div_add_mod' W1 v1
  have a5 : u / v1 ≤ u := Nat.div_le_self _ _
  have a6 : W1 / v1 ≤ W1 := Nat.div_le_self _ _
  have core := div64_core hi lo y s v v1 v0 x t (64 - s) u z z1 z0 (u / v1) (u / v1 * v1) (u % v1) (u * 4294967296 % 18446744073709551616) ((u * 4294967296 + z1) % 18446744073709551616) (Q1 * v % 18446744073709551616)
    (W1 / v1) (W1 / v1 * v1) (W1 % v1) w h0 h hy (by omega) (by omega) (Lib.hid ⟨⟨by omega, by omega⟩, by omega, by omega, by omega⟩)
    (by rw [IntKind.wrap_u64]; omega) (by omega)
    (by rw [← p2, ← Int.natCast_mul, ← hv]; exact wrapU _ nhi) (by omega) (by rw [maskU _ nhi, ← hv0])
    (by rw [← p2, ← Int.natCast_mul, ← hx]; exact wrapU _ m1) (by rw [IntKind.wrap_u64]; omega) (by omega)
    (by rw [← p3, ht]; rfl) (by rw [bits_or_u64_nat _ _ m1 (by omega), m5]) (by rw [← p2, ← Int.natCast_mul, wrapUmod, ← hz])
    (by omega) (by rw [maskU _ zlt, ← hz0])
    (by rw [show ((u : Int) / (v1 : Int)) = ((u / v1 : Nat) : Int) from rfl]; exact wrapU _ (by omega))
    (by rw [← Int.natCast_mul]; exact wrapU _ (by omega))
    (wrapUsub _ _ _ ⟨0, 0, by omega⟩ (by omega))
    Q1 K1 K1.start
    (by rw [show ((u : Int) * 4294967296) = ((u * 4294967296 : Nat) : Int) from rfl]; exact wrapUmod _)
    (by rw [IntKind.wrap_u64]; omega)
    (by rw [← Int.natCast_mul]; exact wrapUmod _)
    W1
    (wrapUsub _ _ _ ⟨(u * 4294967296 + z1) / 18446744073709551616, Q1 * v / 18446744073709551616, by
      generalize Q1 * v = a at *
      omega⟩ (by omega))
    (by rw [show ((W1 : Int) / (v1 : Int)) = ((W1 / v1 : Nat) : Int) from rfl]; exact wrapU _ (by omega))
    (by rw [← Int.natCast_mul]; exact wrapU _ (by omega))
    (wrapUsub _ _ _ ⟨0, 0, by omega⟩ (by omega))
    Q2 K2 K2.start
    (Q1 * 4294967296) (Q1 * 4294967296 + Q2) (W1 * 4294967296 % 18446744073709551616) ((W1 * 4294967296 + z0) % 18446744073709551616) (Q2 * v % 18446744073709551616) F4
    (by rw [IntKind.wrap_u64]; omega) (by rw [IntKind.wrap_u64]; omega)
    (by rw [show ((W1 : Int) * 4294967296) = ((W1 * 4294967296 : Nat) : Int) from rfl]; exact wrapUmod _)
    (by rw [IntKind.wrap_u64]; omega)
    (by rw [← Int.natCast_mul]; exact wrapUmod _)
    (wrapUsub _ _ _ ⟨(W1 * 4294967296 + z0) / 18446744073709551616, Q2 * v / 18446744073709551616, by
      generalize Q2 * v = a at *
      omega⟩ (by omega))
    (F4 / 2 ^ s)
    (by rw [← p2]; rfl)
  rw [← w1, ← w3]
  exact core
end Go.Proofs.Ytkjgpidiompmlaa
