/- The document's own Text. -/
import Derived.Test.YtacjbinjlooohaaDoorUtDig
namespace Go.Proofs.YtacjbinjlooohaaDoor
open Go.RowKit Go.PlainAid
open Go.Lib hiding intOf
set_option linter.unusedVariables false
set_option linter.unusedSimpArgs false

theorem and20 (a : Nat) (ha : a < 9223372036854775808) : bits .and .i64 (a : Int) 1048575 = ((a % 1048576 : Nat) : Int) := by
  have hx : a &&& 1048575 ≤ 1048575 := Nat.and_le_right
  have h1 : (BitVec.ofInt 64 (a : Int)).toNat = a := by
    rw [BitVec.ofInt_natCast, BitVec.toNat_ofNat]; exact Nat.mod_eq_of_lt (by omega)
  have h2 : (BitVec.ofInt 64 (1048575 : Int)).toNat = 1048575 := by rfl
  show IntKind.i64.wrap ((BitVec.ofInt 64 (a : Int) &&& BitVec.ofInt 64 (1048575 : Int)).toNat : Int) = _
  rw [BitVec.toNat_and, h1, h2, IntKind.wrap_i64]
  have e : a &&& 1048575 = a % 1048576 := Nat.and_two_pow_sub_one_eq_mod a 20
  rw [e]
  omega
/-- Any share's text. -/
def textZ (n : Int) : List UInt8 := if n < 0 then (if n = -9223372036854775808 then [45] else 45 :: textL (-n).toNat) else textL n.toNat
/-- Digits with noughts ahead. -/
def pad3 (j m : Nat) : List UInt8 := List.replicate j 48 ++ dg m
theorem dg_three {m : Nat} (h : m < 1000) : (dg m).length ≤ 3 := dg_lenk 2 m (by omega)
theorem pad3_eq {j m : Nat} (h : m < 1000) (hj : (pad3 j m).length = 3) : pad3 j m = dg3 m := by
  have hl : j + (dg m).length = 3 := by unfold pad3 at hj; simpa using hj
  unfold pad3 dg3
  by_cases h1 : m < 10
  · rw [dg_small h1] at hl ⊢
    obtain rfl : j = 2 := by simp at hl; omega
    rw [show m / 100 = 0 by omega, show m / 10 % 10 = 0 by omega, show m % 10 = m by omega]
    rfl
  · by_cases h2 : m < 100
    · rw [dg_big h1, dg_small (show m / 10 < 10 by omega)] at hl ⊢
      obtain rfl : j = 1 := by simp at hl; omega
      rw [show m / 100 = 0 by omega, show m / 10 % 10 = m / 10 by omega]
      rfl
    · rw [dg_big h1, dg_big (show ¬ m / 10 < 10 by omega), dg_small (show m / 10 / 10 < 10 by omega)] at hl ⊢
      obtain rfl : j = 0 := by simp at hl; omega
      rw [show m / 10 / 10 = m / 100 by omega]
      rfl
theorem textL_len18 {n : Nat} (h : n < 9223372036854775808) : (textL n).length ≤ 23 := by
  rw [textL_len]
  have := dg_len19 (n := n / 1048576) (by omega)
  omega
set_option maxHeartbeats 3200000 in
set_option maxRecDepth 1000000 in
theorem rtext_nn (n : Nat) (w : World) (hn : n < 9223372036854775808) : Calls Tryd.prog 16 #[.int .i64 (n : Int)] w (RetB (.string (bs (textL n))) w) := by
  obtain ⟨r, hr⟩ : ∃ r, n % 1048576 = r := ⟨_, rfl⟩
  obtain ⟨q, hq⟩ : ∃ q, n / 1048576 = q := ⟨_, rfl⟩
  obtain ⟨m, hm⟩ : ∃ m, r * 1000 / 1048576 = m := ⟨_, rfl⟩
  have hm1 : m < 1000 := by omega
  have e0 : decide ((n : Int) < 0) = false := decide_eq_false (by omega)
  have e1 : bits .and .i64 (n : Int) 1048575 = (r : Int) := by rw [and20 n hn, hr]
  have e2 : (n : Int) / 1048576 = (q : Int) := by omega
  have ht : textL n = dg q ++ 46 :: dg3 m := by unfold textL; rw [hr, hq, hm]
  have hl := dg_len19 (n := q) (by omega)
  have hs : shareV ((r : Int) * 1000) 1048576 = (m : Int) ∧ shareOk ((r : Int) * 1000) 1048576 = true := by
    have h1 : ((r : Int) * 1000) / 1048576 = (m : Int) := by omega
    have h2 : shareOk ((r : Int) * 1000) 1048576 = true := by
      unfold shareOk
      rw [h1, fitB_true ⟨by omega, by omega⟩]; rfl
    refine ⟨?_, h2⟩
    unfold shareV
    rw [if_pos h2, h1]
  have C1 := Lib.hid (rshare_any (r : Int) 1000 1048576 (m : Int) true · (fitB_true ⟨by omega, by omega⟩) (by decide) (by decide) hs.1 hs.2)
  have C2 := Lib.hid (rdig_nn m · (by omega))
  have C3 := Lib.hid (rdig_nn q · (by omega))
  have hm3 := Lib.hid hm1
  have h3 := dg_three hm1
  rw [ht]
  clear hn hr hq hm hs ht hm1
  go_enter Tryd.func16, Tryd.ntmps16
  go_wp2_with fail
  refine (C1.out _).mono ?_; rintro e aw ⟨rfl, a⟩
  have ga := Lib.hid a
  go_wp2_with fail
  refine (C2.out _).mono ?_; rintro e bw ⟨rfl, b⟩
  have gb : Hid (Below w.heap.size w bw) := below_on ga.out b
  clear C1 C2 a b ga e0 e1
  go_wp2
  go_loopw [5] (fun st wr => ∃ (j : Nat), st = .string (bs (pad3 j m)) ∧ (pad3 j m).length ≤ 3 ∧ wr = bw) (fun st _ => 3 - (match st with | .string s => s.size | _ => 0))
  case atStart => exact ⟨0, rfl, by simpa [pad3] using h3, rfl⟩
  case round =>
    obtain ⟨j, rfl, hj, rfl⟩ := hrel
    have hz := bs_size (pad3 j m)
    by_cases hlt : (pad3 j m).length < 3
    · have d1 : decide (((pad3 j m).length : Int) < 3) = true := decide_eq_true (by omega)
      have hadd : (⟨#[48]⟩ : ByteArray) ++ bs (pad3 j m) = bs (pad3 (j + 1) m) := by
        have := bs_add [48] (pad3 j m)
        rw [show [(48 : UInt8)] ++ pad3 j m = pad3 (j + 1) m from by unfold pad3; rw [List.replicate_succ]; rfl] at this
        exact this
      have hlen : (pad3 (j + 1) m).length = (pad3 j m).length + 1 := by unfold pad3; simp; omega
      have hz2 : (⟨#[48]⟩ : ByteArray).size = 1 := rfl
      have hz3 := bs_size (pad3 (j + 1) m)
      have hle : (pad3 (j + 1) m).length ≤ 3 := by omega
      have hmm : 3 - (pad3 (j + 1) m).length < 3 - (pad3 j m).length := by omega
      obtain ⟨P2, hP2⟩ : ∃ P, pad3 (j + 1) m = P := ⟨_, rfl⟩
      rw [hP2] at hadd hz3 hle hmm
      replace hP2 := Lib.hid hP2
      generalize pad3 j m = P at *
      have hb2 : 1 + P.length ≤ 100 := by omega
      clear hlen C3 hl e2 h3 hj hlt
      go_wp2
      go_roundw
      case rel => exact ⟨j + 1, by rw [hP2.out], by rw [hP2.out]; exact hle, by first | rfl | trivial⟩
      case measure => simp only [hz, hz3]; exact hmm
    · have d1 : decide (((pad3 j m).length : Int) < 3) = false := decide_eq_false (by omega)
      have e3 := pad3_eq hm3.out (show (pad3 j m).length = 3 by omega)
      rw [e3] at hz d1 ⊢
      have hl3 : (dg3 m).length = 3 := rfl
      rw [hl3] at hz d1
      generalize dg3 m = P at *
      generalize dg q = D at *
      have ha1 : bs D ++ (⟨#[46]⟩ : ByteArray) = bs (D ++ [46]) := bs_add D [46]
      have ha2 : bs (D ++ [46]) ++ bs P = bs (D ++ 46 :: P) := by rw [bs_add]; simp
      have z1 := bs_size D
      have z2 : (⟨#[46]⟩ : ByteArray).size = 1 := rfl
      have z3 : (bs (D ++ [46])).size = D.length + 1 := by rw [bs_size]; simp
      have z4 : D.length + 1 ≤ 100 := by omega
      have z5 : D.length + 1 + 3 ≤ 100 := by omega
      clear e3 hl3 hlt hj h3 hl
      go_wp2_with fail
      refine (C3.out _).mono ?_; rintro e cw ⟨rfl, c⟩
      have gc : Hid (Below w.heap.size w cw) := below_on gb.out c
      clear C3 c
      go_wp2
      go_ret
      exact ⟨rfl, by have s0 := gc.out.size; (try simp only [World.heap_drewN, World.size_alloc] at s0); repeat (first | exact Below.refl _ _ | exact gc.out | refine Below.trans ?_ (Below.mono gc.out (by first | omega | (simp; done) | (simp; omega))) | refine Below.setCell ?_ (by first | omega | (simp; done) | (simp; omega)) _ | refine below_dN ?_ _ | refine Below.drew ?_ | refine Below.alloc ?_ (by first | omega | (simp; done) | (simp; omega)) _)⟩
set_option maxHeartbeats 3200000 in
set_option maxRecDepth 1000000 in
theorem rtext_any (n : Int) (w : World) (hn : fitB n = true) : Calls Tryd.prog 16 #[.int .i64 n] w (RetB (.string (bs (textZ n))) w) := by
  obtain ⟨h1, h2⟩ := fitB_iff.1 hn
  unfold textZ
  by_cases h0 : n < 0
  · have d0 : decide (n < 0) = true := decide_eq_true h0
    rw [if_pos h0]
    by_cases hm : n = -9223372036854775808
    · rw [if_pos hm]
      have d1 : (n == -9223372036854775808) = true := beq_iff_eq.2 hm
      clear hm h0 hn h1 h2
      go_enter Tryd.func16, Tryd.ntmps16
      go_wp2
      go_ret
      exact ⟨rfl, by repeat (first | exact Below.refl _ _ | refine Below.setCell ?_ (by first | omega | (simp; done) | (simp; omega)) _ | refine below_dN ?_ _ | refine Below.drew ?_ | refine Below.alloc ?_ (by first | omega | (simp; done) | (simp; omega)) _)⟩
    · rw [if_neg hm]
      have d1 : (n == -9223372036854775808) = false := beq_eq_false_iff_ne.2 hm
      have C := Lib.hid fun w => rtext_nn (-n).toNat w (by omega)
      rw [show (((-n).toNat : Nat) : Int) = -n by omega] at C
      have hl := textL_len18 (n := (-n).toNat) (by omega)
      have e1 : wrap64 (-n) = -n := by unfold wrap64; omega
      generalize textL (-n).toNat = T at *
      have hadd : (⟨#[45]⟩ : ByteArray) ++ bs T = bs (45 :: T) := bs_add [45] T
      have hz1 := bs_size T
      have hz2 : (⟨#[45]⟩ : ByteArray).size = 1 := rfl
      have hz3 : 1 + T.length ≤ 100 := by omega
      clear hm h0 hn h1 h2 hl
      go_enter Tryd.func16, Tryd.ntmps16
      go_wp2_with fail
      refine (C.out _).mono ?_; rintro e hw ⟨rfl, h⟩
      go_wp2
      go_ret
      exact ⟨rfl, by have s0 := h.size; (try simp only [World.heap_drewN, World.size_alloc] at s0); repeat (first | exact Below.refl _ _ | exact h | refine Below.trans ?_ (Below.mono h (by first | omega | (simp; done) | (simp; omega))) | refine Below.setCell ?_ (by first | omega | (simp; done) | (simp; omega)) _ | refine below_dN ?_ _ | refine Below.drew ?_ | refine Below.alloc ?_ (by first | omega | (simp; done) | (simp; omega)) _)⟩
  · rw [if_neg h0]
    have C := rtext_nn n.toNat w (by omega)
    rw [show ((n.toNat : Nat) : Int) = n by omega] at C
    exact C
end Go.Proofs.YtacjbinjlooohaaDoor
