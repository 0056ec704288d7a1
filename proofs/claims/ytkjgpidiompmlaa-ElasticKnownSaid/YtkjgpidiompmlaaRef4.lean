/- The contracts of the document's own reckoning of layer 1, the fourth part: differences, and the division bit by bit. -/
import Derived.Test.YtkjgpidiompmlaaRef3
namespace Go.Proofs.Ytkjgpidiompmlaa
open Go.RowKit
set_option linter.unusedVariables false
set_option linter.unusedSimpArgs false

theorem rsub_any (a b v : Int) (o : Bool) (w : World) (ha : fitB a = true) (hb : fitB b = true) (hv : cutZ (a - b) = v) (ho : fitB (a - b) = o) :
    Calls Try.prog 29 #[.int .i64 a, .int .i64 b] w (Ret (.tuple #[.int .i64 v, .bool o]) w) := by
  obtain ⟨a0, a1⟩ := fitB_iff.1 ha
  obtain ⟨b0, b1⟩ := fitB_iff.1 hb
  clear ha hb
  cases o
  · rw [cutZ_false ho] at hv
    subst hv
    have f2 := fitB_not.1 ho
    clear ho
    by_cases sa : a < 0
    · have e' : wrap64 (a - b) = a - b + 18446744073709551616 := by unfold wrap64; omega
      have e2 : decide (0 ≤ a - b + 18446744073709551616) = true := decide_eq_true (by omega)
      have e3 : decide (0 ≤ a) = false := decide_eq_false (by omega)
      have e4 : 0 < b := by omega
      go_enter Try.func29, Try.ntmps29
      go_wp2
      go_ret2
      exact ⟨rfl, 0, rfl⟩
    · have e' : wrap64 (a - b) = a - b - 18446744073709551616 := by unfold wrap64; omega
      have e2 : decide (a - b - 18446744073709551616 < 0) = true := decide_eq_true (by omega)
      have e3 : 0 ≤ a := by omega
      have e4 : b < 0 := by omega
      go_enter Try.func29, Try.ntmps29
      go_wp2
      go_ret2
      exact ⟨rfl, 0, rfl⟩
  · rw [cutZ_true ho] at hv
    subst hv
    obtain ⟨f0, f1⟩ := fitB_iff.1 ho
    clear ho
    by_cases p1 : 0 ≤ a
    · have r1 : decide (0 ≤ a) = true := decide_eq_true p1
      have r2 : decide (a < 0) = false := decide_eq_false (by omega)
      by_cases p2 : b < 0
      · have r3 : decide (b < 0) = true := decide_eq_true p2
        have r4 : decide (a - b < 0) = false := decide_eq_false (by omega)
        go_enter Try.func29, Try.ntmps29
        go_wp2
        go_ret2
        exact ⟨rfl, 0, rfl⟩
      · have r3 : decide (b < 0) = false := decide_eq_false p2
        go_enter Try.func29, Try.ntmps29
        go_wp2
        go_ret2
        exact ⟨rfl, 0, rfl⟩
    · have r1 : decide (0 ≤ a) = false := decide_eq_false p1
      have r2 : decide (a < 0) = true := decide_eq_true (by omega)
      by_cases p2 : 0 < b
      · have r3 : decide (0 < b) = true := decide_eq_true p2
        have r4 : decide (0 ≤ a - b) = false := decide_eq_false (by omega)
        go_enter Try.func29, Try.ntmps29
        go_wp2
        go_ret2
        exact ⟨rfl, 0, rfl⟩
      · have r3 : decide (0 < b) = false := decide_eq_false p2
        go_enter Try.func29, Try.ntmps29
        go_wp2
        go_ret2
        exact ⟨rfl, 0, rfl⟩

set_option maxHeartbeats 1000000 in
theorem divide_no (ng : Bool) (hi lo c : Nat) (w : World) (h : c ≤ hi) :
    Calls Try.prog 43 #[.agg #[.bool ng, .int .u64 (hi : Int), .int .u64 (lo : Int)], .int .u64 (c : Int)] w (RetB (.tuple #[.int .u64 0, .bool false, .bool false]) w) := by
  go_enter Try.func43, Try.ntmps43
  go_wp2
  go_ret3
  exact ⟨rfl, by repeat (first | exact Below.refl _ _ | refine Below.setCell ?_ (by first | omega | (simp; done) | (simp; omega)) _ | refine below_dN ?_ _ | refine Below.drew ?_ | refine Below.alloc ?_ (by first | omega | (simp; done) | (simp; omega)) _)⟩

set_option maxHeartbeats 1000000 in
theorem divide_yes (ng : Bool) (hi lo c q r : Nat) (x : Bool) (w : World) (h : hi < c) (hc : c < 18446744073709551616) (hl : lo < 18446744073709551616)
    (hq : (hi * 18446744073709551616 + lo) / c = q) (hx : decide ((hi * 18446744073709551616 + lo) % c ≠ 0) = x) :
    Calls Try.prog 43 #[.agg #[.bool ng, .int .u64 (hi : Int), .int .u64 (lo : Int)], .int .u64 (c : Int)] w (RetB (.tuple #[.int .u64 (q : Int), .bool x, .bool true]) w) := by
  have h' : ¬ (c ≤ hi) := by omega
  have HC := Lib.hid hc; have HL := Lib.hid hl; have HQ := Lib.hid (And.intro hq hx); have HH := Lib.hid h
  clear hc hl hq hx h
  go_enter Try.func43, Try.ntmps43
  go_wp2
  go_loop [7, 8, 9] (fun a b i => ∃ (z : Int) (j r q : Nat), BRel hi lo c j q r ∧ z + 1 = (j : Int) ∧ a = .int .u64 (r : Int) ∧ b = .int .u64 (q : Int) ∧ i = .int .i64 z) (fun _ _ i => (intOf i + 1).toNat)
  case atStart => exact ⟨63, 64, hi, 0, BRel.start HH.out HL.out, rfl, rfl, rfl, rfl⟩
  case round =>
    obtain ⟨z, j, r, q1, hrel, hz, rfl, rfl, rfl⟩ := hrel
    rcases j with _ | k
    · obtain rfl : z = -1 := by omega
      obtain ⟨e1, e2⟩ := hrel.done
      obtain ⟨g1, g2⟩ := HQ.out
      have HE := Lib.hid (e1.trans g1)
      have kx : ((r : Int) != 0) = x := by rw [← g2, ← e2]; by_cases k : r = 0 <;> simp [k]
      clear hrel e1 e2 g1 g2 hz
      go_wp2
      go_ret3
      exact ⟨by rw [← HE.out]; rfl, by repeat (first | exact Below.refl _ _ | refine Below.setCell ?_ (by first | omega | (simp; done) | (simp; omega)) _ | refine below_dN ?_ _ | refine Below.drew ?_ | refine Below.alloc ?_ (by first | omega | (simp; done) | (simp; omega)) _)⟩
    · obtain rfl : z = (k : Int) := by omega
      have hk : k ≤ 63 := by have := hrel.2.2; omega
      have hki : (k : Int) ≤ 63 := by omega
      have hqlt := hrel.q_lt HH.out HL.out
      have hq2 := half_lt hqlt (by omega)
      have hrc := hrel.2.1
      have hcl := HC.out
      have hll := HL.out
      have hr1 := hrel.take
      have hr2 := hrel.skip
      obtain ⟨t, ht⟩ : ∃ t, lo / 2 ^ k = t := ⟨_, rfl⟩
      obtain ⟨bit, hbit⟩ : ∃ b, t % 2 = b := ⟨_, rfl⟩
      rw [ht, hbit] at hr1 hr2
      have tlt : t < 18446744073709551616 := by rw [← ht]; exact Nat.lt_of_le_of_lt (Nat.div_le_self _ _) hll
      have blt : bit < 2 := by omega
      have e0 : min k 64 = k := by omega
      have p2 : ((2 ^ k : Nat) : Int) = (2 : Int) ^ k := by rw [Int.natCast_pow]; rfl
      have e1 : (lo : Int) / 2 ^ k = (t : Int) := by rw [← p2, ← ht]; rfl
      have e2 : bits BinOp.and IntKind.u64 (t : Int) 1 = (bit : Int) := by rw [and1 t tlt, hbit]
      have e5 : IntKind.u64.wrap ((q1 : Int) * 2) = ((2 * q1 : Nat) : Int) := by rw [IntKind.wrap_u64]; omega
      obtain ⟨q2, hqq⟩ : ∃ q2, q2 = 2 * q1 := ⟨_, rfl⟩
      have e8 : bits BinOp.or IntKind.u64 (q2 : Int) 1 = ((q2 + 1 : Nat) : Int) := by
        have := or1 q1 1 (by omega) (by omega)
        rw [hqq]; exact this
      rw [← hqq] at e5 hr1 hr2
      clear p2 hqlt hq2 hrel hz ht hbit tlt
      by_cases cy : 9223372036854775808 ≤ r
      · obtain ⟨r2, hr2'⟩ : ∃ r2, r2 = 2 * r - 18446744073709551616 := ⟨_, rfl⟩
        have e3 : IntKind.u64.wrap ((r : Int) * 2) = (r2 : Int) := by rw [IntKind.wrap_u64]; omega
        have e4 : bits BinOp.or IntKind.u64 (r2 : Int) (bit : Int) = ((r2 + bit : Nat) : Int) := by
          have := or1 (r - 9223372036854775808) bit (by omega) blt
          rw [show 2 * ((r - 9223372036854775808 : Nat) : Int) = (r2 : Int) by omega, show 2 * (r - 9223372036854775808) + bit = r2 + bit by omega] at this
          exact this
        have e6 : (r : Int) / 9223372036854775808 = 1 := by omega
        obtain ⟨s, hs⟩ : ∃ s, s = r2 + bit := ⟨_, rfl⟩
        rw [← hs] at e4
        have e7 : IntKind.u64.wrap ((s : Int) - (c : Int)) = ((2 * r + bit - c : Nat) : Int) := by rw [IntKind.wrap_u64]; omega
        have H1 := hr1 (by omega)
        obtain ⟨y, hy⟩ : ∃ y, y = 2 * r + bit - c := ⟨_, rfl⟩
        rw [← hy] at e7 H1
        clear hr1 hr2 hqq hr2' hs hy cy hrc hcl hll blt
        go_wp2
        go_round
        case rel => exact ⟨(k : Int) - 1, k, y, q2 + 1, H1, by omega, rfl, rfl, rfl⟩
        case measure => simp [intOf]
      · have e3 : IntKind.u64.wrap ((r : Int) * 2) = ((2 * r : Nat) : Int) := by rw [IntKind.wrap_u64]; omega
        obtain ⟨r2, hr2'⟩ : ∃ r2, r2 = 2 * r := ⟨_, rfl⟩
        have e4 : bits BinOp.or IntKind.u64 (r2 : Int) (bit : Int) = ((r2 + bit : Nat) : Int) := by
          have := or1 r bit (by omega) blt
          rw [hr2']; exact this
        have e6 : (r : Int) / 9223372036854775808 = 0 := by omega
        obtain ⟨s, hs⟩ : ∃ s, s = r2 + bit := ⟨_, rfl⟩
        rw [← hs] at e4
        rw [← hr2'] at e3 hr1 hr2
        rw [← hs] at hr1 hr2
        by_cases sc : c ≤ s
        · have H1 := hr1 sc
          obtain ⟨y, hy⟩ : ∃ y, y = s - c := ⟨_, rfl⟩
          have e7 : IntKind.u64.wrap ((s : Int) - (c : Int)) = (y : Int) := by rw [IntKind.wrap_u64]; omega
          rw [← hy] at H1
          have sc' : decide (c ≤ s) = true := decide_eq_true sc
          clear hr1 hr2 hqq hr2' hs hy cy hrc hcl hll blt sc
          go_wp2
          go_round
          case rel => exact ⟨(k : Int) - 1, k, y, q2 + 1, H1, by omega, rfl, rfl, rfl⟩
          case measure => simp [intOf]
        · have H1 := hr2 sc
          have sc' : decide (c ≤ s) = false := decide_eq_false sc
          clear hr1 hr2 hqq hr2' hs cy hrc hcl hll blt sc
          go_wp2
          go_round
          case rel => exact ⟨(k : Int) - 1, k, s, q2, H1, by omega, rfl, rfl, rfl⟩
          case measure => simp [intOf]
end Go.Proofs.Ytkjgpidiompmlaa
