/- A number's digits, and what they say again. -/
import Derived.Test.YtkblddnnegkbfaaDoorName7
namespace Go.Proofs.YtkblddnnegkbfaaDoor
open Go.RowKit Go.Lib Go.PlainAid
set_option linter.unusedVariables false
set_option linter.unusedSimpArgs false

def dg (n : Nat) : UInt8 := UInt8.ofNat (48 + n)
theorem dg_nat (n : Nat) (h : n < 10) : (dg n).toNat = 48 + n := by
  unfold dg
  rw [UInt8.toNat_ofNat']
  omega
def digF : Nat → Nat → List UInt8
  | 0, n => [dg n]
  | f + 1, n => if n < 10 then [dg n] else digF f (n / 10) ++ [dg (n % 10)]

theorem conv_one (w : World) (n : Nat) (h : n < 10) : (convert 37 9 (.slice (some ⟨w.heap.size, 0, none⟩) 1 1)).run Tryd.prog (w.alloc (.cells #[.int .u8 (48 + (n : Nat))] 5)) = .ok (.string (bs [dg n])) (w.alloc (.cells #[.int .u8 (48 + (n : Nat))] 5)) := by
  refine run_convert_bytes_back (P := Tryd.prog) _ 37 9 5 ⟨w.heap.size, 0, none⟩ 1 [dg n] Tryd.underlying37 Tryd.underlying5 Tryd.underlying9 ?_
  intro j hj
  match j, hj with
  | 0, _ =>
    have := dg_nat n h
    simp [Addr.add]
    omega

set_option maxHeartbeats 1600000 in
set_option maxRecDepth 1000000 in
theorem digits_one (n : Nat) (w : World) (h : n < 10) : Calls Tryd.prog 22 #[.int .i64 (n : Nat)] w (RetB (.string (bs [dg n])) w) := by
  have hcv := conv_one w n h
  have h10 : (n : Int) < 10 := by omega
  go_enter Tryd.func22, Tryd.ntmps22
  go_wp2_with fail
  go_ret
  exact ⟨rfl, (Below.refl _ _).alloc (Nat.le_refl _) _⟩
theorem conv_kept {w cw : World} {n : Nat} (h : n < 10) (hb : Below (w.alloc (.cells #[.int .u8 (48 + (n : Nat))] 5)).drew.heap.size (w.alloc (.cells #[.int .u8 (48 + (n : Nat))] 5)).drew cw) :
    (convert 37 9 (.slice (some ⟨w.heap.size, 0, none⟩) 1 1)).run Tryd.prog cw = .ok (.string (bs [dg n])) cw := by
  refine run_convert_bytes_back (P := Tryd.prog) _ 37 9 5 ⟨w.heap.size, 0, none⟩ 1 [dg n] Tryd.underlying37 Tryd.underlying5 Tryd.underlying9 ?_
  intro j hj
  match j, hj with
  | 0, _ =>
    have := dg_nat n h
    rw [show (⟨w.heap.size, 0, none⟩ : Addr).add 0 = ⟨w.heap.size, 0, none⟩ by simp [Addr.add], hb.cell (p := ⟨w.heap.size, 0, none⟩) (by simp)]
    show (w.alloc (.cells #[.int .u8 (48 + (n : Nat))] 5)).cell? ⟨w.heap.size, 0, none⟩ = _
    simp
    omega

theorem below_undrew {w c : World} (h : Below w.drew.heap.size w.drew c) : Below w.heap.size w c := ⟨h.os, h.tape, h.output, h.size, h.block⟩
theorem below_two {w c : World} {o : Obj} (h : Below (w.alloc o).drew.heap.size (w.alloc o).drew c) : Below w.heap.size w c := below_on ((Below.refl _ w).alloc (Nat.le_refl _) o) (below_undrew h)
theorem dig_len : ∀ (f n : Nat), (digF f n).length ≤ f + 1
  | 0, n => by simp [digF]
  | f + 1, n => by
    unfold digF
    split
    · simp
    · have := dig_len f (n / 10); simp; omega

set_option maxHeartbeats 1600000 in
set_option maxRecDepth 1000000 in
theorem digits_nn (f : Nat) : ∀ (n : Nat) (w : World), f ≤ 11 → (n : Int) < p10 (f + 1) → Calls Tryd.prog 22 #[.int .i64 (n : Nat)] w (RetB (.string (bs (digF f n))) w) := by
  induction f with
  | zero => exact fun n w hf hn => digits_one n w (by have : p10 (0 + 1) = 10 := rfl; omega)
  | succ f IH =>
    intro n w hf hn
    unfold digF
    by_cases h10 : n < 10
    · rw [if_pos h10]
      exact digits_one n w h10
    · rw [if_neg h10]
      have hpe : p10 (f + 1 + 1) = 10 * p10 (f + 1) := rfl
      have hp12 := p10_12 (f + 1 + 1) (by omega)
      have ih := fun w => IH (n / 10) w (by omega) (by omega)
      clear IH
      have hlen := dig_len f (n / 10)
      obtain ⟨q, hq⟩ : ∃ q, n / 10 = q := ⟨_, rfl⟩
      obtain ⟨m, hm⟩ : ∃ m, n % 10 = m := ⟨_, rfl⟩
      have hm10 : m < 10 := by omega
      rw [hq] at ih hlen ⊢
      rw [hm]
      have hqn : n = 10 * q + m := by omega
      have hnb : (n : Int) ≤ 1000000000000 := by omega
      have e1 : IntKind.i64.wrap ((n : Int).tdiv 10) = (q : Nat) := by
        rw [IntWalk.i64_quo (n : Int) 10 ⟨by omega, by omega, by omega⟩]; omega
      have e2 : IntKind.i64.wrap ((n : Int).tmod 10) = (m : Nat) := by
        rw [Int.tmod_eq_emod_of_nonneg (by omega), show ((n : Int) % 10) = (m : Nat) by omega]
        rw [IntWalk.i64_left]; simp only [wrap64]; omega
      have e3 : IntKind.i64.wrap (48 + (m : Int)) = 48 + (m : Nat) := by rw [IntWalk.i64_left]; simp only [wrap64]; omega
      have e4 : IntKind.u8.wrap (48 + (m : Int)) = 48 + (m : Nat) := by simp [IntKind.wrap, IntKind.signed, IntKind.bits]; omega
      have e0 : IntKind.i64.wrap (q : Int) = (q : Nat) := by rw [IntWalk.i64_left]; simp only [wrap64]; omega
      have e0' : IntKind.i64.wrap (m : Int) = (m : Nat) := by rw [IntWalk.i64_left]; simp only [wrap64]; omega
      have f1 : (n : Int) / 10 = (q : Nat) := by omega
      have f2 : (n : Int) % 10 = (m : Nat) := by omega
      have f3 : (n : Int).tdiv 10 = (q : Nat) := by rw [Int.tdiv_eq_ediv_of_nonneg (by omega)]; omega
      have f4 : (n : Int).tmod 10 = (m : Nat) := by rw [Int.tmod_eq_emod_of_nonneg (by omega)]; omega
      have hcv : ∀ W : World, _ := fun W => conv_one W m hm10
      have hcv1 : (convert 37 9 (.slice (some ⟨w.heap.size, 0, none⟩) 1 1)).run Tryd.prog (w.drew.alloc (.cells #[.int .u8 (48 + (m : Nat))] 5)) = .ok (.string (bs [dg m])) (w.drew.alloc (.cells #[.int .u8 (48 + (m : Nat))] 5)) := conv_one w.drew m hm10
      have hcv3 := conv_kept (w := w) hm10 (Below.refl _ _)
      generalize digF f q = D at *
      have hadd := bs_add D [dg m]
      have hz1 : (bs D).size = D.length := bs_size D
      have hz2 : (bs [dg m]).size = 1 := bs_size _
      have hzb : (bs D).size + (bs [dg m]).size ≤ 100 := by omega
      replace ih := Lib.hid ih
      have h10' : (10 : Int) ≤ n := by omega
      clear hp12 hpe hn hq hm h10 hlen hqn
      go_enter Tryd.func22, Tryd.ntmps22
      go_wp2_with fail
      go_region_with (first
        | (go_at_call 22; refine (ih.out _).mono ?_; rintro e cw ⟨rfl, hb⟩; have hcv2 : (convert 37 9 (.slice (some ⟨w.heap.size, 0, none⟩) 1 1)).run Tryd.prog cw = .ok (.string (bs [dg m])) cw := conv_kept hm10 hb)
        | (go_at_call 22; refine (ih.out _).mono ?_; rintro e cw ⟨rfl, hb⟩))
      all_goals (go_wp2_with fail; go_ret; first | exact ⟨rfl, (below_undrew hb).alloc hb.size _⟩ | exact ⟨rfl, below_two hb⟩ | exact ⟨rfl, below_undrew hb⟩)
def digZ (n : Int) : List UInt8 := if n < 0 then 45 :: digF 11 (-n).toNat else digF 11 n.toNat

set_option maxHeartbeats 1600000 in
set_option maxRecDepth 1000000 in
theorem digits_any (n : Int) (w : World) (h1 : -999999999999 ≤ n) (h2 : n ≤ 999999999999) : Calls Tryd.prog 22 #[.int .i64 n] w (RetB (.string (bs (digZ n))) w) := by
  have hp : p10 (11 + 1) = 1000000000000 := by decide
  unfold digZ
  by_cases hn : n < 0
  · rw [if_pos hn]
    have C := digits_nn 11 (-n).toNat w (by omega) (by rw [hp]; omega)
    rw [show (((-n).toNat : Nat) : Int) = -n by omega] at C
    have hl := dig_len 11 (-n).toNat
    generalize digF 11 (-n).toNat = D at *
    have hadd : (⟨#[45]⟩ : ByteArray) ++ bs D = bs (45 :: D) := bs_add [45] D
    have hz1 : (bs D).size = D.length := bs_size D
    have hz2 : (⟨#[45]⟩ : ByteArray).size = 1 := rfl
    replace C := Lib.hid C
    clear hp
    go_enter Tryd.func22, Tryd.ntmps22
    go_wp2_with fail
    refine C.out.mono ?_; rintro e cw ⟨rfl, hb⟩
    go_wp2_with fail
    go_ret
    exact ⟨rfl, hb⟩
  · rw [if_neg hn]
    have C := digits_nn 11 n.toNat w (by omega) (by rw [hp]; omega)
    rw [show ((n.toNat : Nat) : Int) = n by omega] at C
    exact C

/-! What digits say -/
def valL (v : Int) (l : List UInt8) : Int := l.foldl (fun v b => v * 10 + ((b.toNat : Int) - 48)) v
theorem numGo_val : ∀ (l : List UInt8) (d : Nat) (v : Int), (∀ b ∈ l, dig b = true) → d + l.length ≤ 12 → 0 < d + l.length → numGo d v l = some (valL v l)
  | [], d, v, h, h1, h2 => by
    rw [numGo, if_neg (by simp at h2; omega)]; rfl
  | b :: l, d, v, h, h1, h2 => by
    simp only [List.length_cons] at h1
    rw [numGo, if_pos ⟨h b (by simp), by omega⟩, numGo_val l (d + 1) _ (fun c hc => h c (by simp [hc])) (by omega) (by omega)]
    rfl
theorem numGo_not : ∀ (l : List UInt8) (d : Nat) (v : Int) (x : UInt8), dig x = false → numGo d v (l ++ [x]) = none
  | [], d, v, x, hx => by rw [List.nil_append, numGo, if_neg (by simp [hx])]
  | b :: l, d, v, x, hx => by
    rw [List.cons_append, numGo]
    split
    · exact numGo_not l _ _ x hx
    · rfl
theorem dig_dg (n : Nat) (h : n < 10) : dig (dg n) = true := by rw [dig_iff, dg_nat n h]; omega
theorem digF_ok : ∀ (f n : Nat), (n : Int) < p10 (f + 1) → (∀ b ∈ digF f n, dig b = true) ∧ 0 < (digF f n).length ∧ valL 0 (digF f n) = n
  | 0, n, h => by
    have h10 : n < 10 := by have : p10 (0 + 1) = 10 := rfl; omega
    refine ⟨fun b hb => ?_, by simp [digF], ?_⟩
    · simp [digF] at hb; subst hb; exact dig_dg n h10
    · simp only [digF, valL, List.foldl_cons, List.foldl_nil, dg_nat n h10]; omega
  | f + 1, n, h => by
    unfold digF
    by_cases h10 : n < 10
    · rw [if_pos h10]
      refine ⟨fun b hb => ?_, by simp, ?_⟩
      · simp at hb; subst hb; exact dig_dg n h10
      · simp only [valL, List.foldl_cons, List.foldl_nil, dg_nat n h10]; omega
    · rw [if_neg h10]
      have hpe : p10 (f + 1 + 1) = 10 * p10 (f + 1) := rfl
      obtain ⟨a1, a2, a3⟩ := digF_ok f (n / 10) (by omega)
      refine ⟨fun b hb => ?_, by simp, ?_⟩
      · rcases List.mem_append.1 hb with hb | hb
        · exact a1 b hb
        · simp at hb; subst hb; exact dig_dg _ (by omega)
      · unfold valL at a3 ⊢
        rw [List.foldl_append, a3]
        simp only [List.foldl_cons, List.foldl_nil, dg_nat (n % 10) (by omega)]; omega
theorem numL_dig (b : UInt8) (r : List UInt8) (h : dig b = true) : numL (b :: r) = numGo 0 0 (b :: r) := by
  rw [numL, if_neg (by rw [dig_iff] at h; omega)]
theorem digZ_num (n : Int) (h1 : -999999999999 ≤ n) (h2 : n ≤ 999999999999) : numL (digZ n) = some n ∧ numL (digZ n ++ [120]) = none ∧ (digZ n).length ≤ 13 := by
  have hp : p10 (11 + 1) = 1000000000000 := by decide
  unfold digZ
  by_cases hn : n < 0
  · rw [if_pos hn]
    obtain ⟨a1, a2, a3⟩ := digF_ok 11 (-n).toNat (by rw [hp]; omega)
    have hl := dig_len 11 (-n).toNat
    generalize digF 11 (-n).toNat = D at *
    refine ⟨?_, ?_, by simp; omega⟩
    · rw [numL, if_pos (by decide), numGo_val D 0 0 a1 (by omega) (by omega), a3]
      simp; omega
    · rw [List.cons_append, numL, if_pos (by decide), numGo_not D 0 0 120 (by decide)]; rfl
  · rw [if_neg hn]
    obtain ⟨a1, a2, a3⟩ := digF_ok 11 n.toNat (by rw [hp]; omega)
    have hl := dig_len 11 n.toNat
    generalize digF 11 n.toNat = D at *
    cases D with
    | nil => simp at a2
    | cons b D =>
      refine ⟨?_, ?_, by omega⟩
      · rw [numL_dig b D (a1 b (by simp)), numGo_val _ 0 0 a1 (by omega) (by omega), a3]
        simp; omega
      · rw [List.cons_append, numL_dig b _ (a1 b (by simp)), ← List.cons_append, numGo_not _ 0 0 120 (by decide)]
end Go.Proofs.YtkblddnnegkbfaaDoor
