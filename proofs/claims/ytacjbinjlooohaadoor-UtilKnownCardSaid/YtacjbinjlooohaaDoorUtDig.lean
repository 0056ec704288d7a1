/- The document's own Digits, Text. -/
import Derived.Test.YtacjbinjlooohaaDoorUtRef
import Derived.Test.YtacjbinjlooohaaDoorNameBytes
import Derived.Deep.DeepCutAuto
import Derived.PlainAid
namespace Go.Proofs.YtacjbinjlooohaaDoor
open Go.RowKit Go.PlainAid
open Go.Lib hiding intOf
set_option linter.unusedVariables false
set_option linter.unusedSimpArgs false

theorem dgB_nat {n : Nat} (h : n < 10) : (dgB n).toNat = 48 + n := by
  unfold dgB
  rw [UInt8.toNat_ofNat']
  omega
theorem dg_lenk : ∀ (k n : Nat), n < 10 ^ (k + 1) → (dg n).length ≤ k + 1
  | 0, n, h => by rw [dg_small (by simpa using h)]; simp
  | k + 1, n, h => by
    by_cases c : n < 10
    · rw [dg_small c]; simp
    · rw [dg_big c, List.length_append]
      have := dg_lenk k (n / 10) (by rw [Nat.pow_succ] at h; omega)
      simp; omega
theorem dg_len19 {n : Nat} (h : n < 9223372036854775808) : (dg n).length ≤ 19 := dg_lenk 18 n (by omega)
theorem convU (w : World) (n : Nat) (h : n < 10) : (convert 47 9 (.slice (some ⟨w.heap.size, 0, none⟩) 1 1)).run Tryd.prog (w.alloc (.cells #[.int .u8 (48 + (n : Nat))] 5)) = .ok (.string (bs [dgB n])) (w.alloc (.cells #[.int .u8 (48 + (n : Nat))] 5)) := by
  refine run_convert_bytes_back (P := Tryd.prog) _ 47 9 5 ⟨w.heap.size, 0, none⟩ 1 [dgB n] Tryd.underlying47 Tryd.underlying5 Tryd.underlying9 ?_
  intro j hj
  match j, hj with
  | 0, _ =>
    have := dgB_nat h
    simp [Addr.add]
    omega
set_option maxHeartbeats 1600000 in
set_option maxRecDepth 1000000 in
theorem rdig_one (n : Nat) (w : World) (h : n < 10) : Calls Tryd.prog 25 #[.int .i64 (n : Int)] w (RetB (.string (bs [dgB n])) w) := by
  have hcv := convU w n h
  have h10 : decide ((n : Int) < 10) = true := decide_eq_true (by omega)
  have h0 : decide ((n : Int) < 0) = false := decide_eq_false (by omega)
  have e3 : wrap64 (48 + (n : Int)) = 48 + (n : Nat) := by unfold wrap64; omega
  have e4 : IntKind.u8.wrap (48 + (n : Int)) = 48 + (n : Nat) := by simp [IntKind.wrap, IntKind.signed, IntKind.bits]; omega
  go_enter Tryd.func25, Tryd.ntmps25
  go_wp2
  go_ret
  exact ⟨rfl, (Below.refl _ _).alloc (Nat.le_refl _) _⟩
set_option maxHeartbeats 1600000 in
set_option maxRecDepth 1000000 in
theorem rdig_nn : ∀ (n : Nat) (w : World), n < 9223372036854775808 → Calls Tryd.prog 25 #[.int .i64 (n : Int)] w (RetB (.string (bs (dg n))) w) := by
  intro n
  induction n using Nat.strongRecOn with
  | _ n IH =>
    intro w hn
    by_cases h10 : n < 10
    · rw [dg_small h10]; exact rdig_one n w h10
    · have hl := dg_len19 hn
      rw [dg_big h10] at hl ⊢
      obtain ⟨q, hq⟩ : ∃ q, n / 10 = q := ⟨_, rfl⟩
      obtain ⟨m, hm⟩ : ∃ m, n % 10 = m := ⟨_, rfl⟩
      have hm10 : m < 10 := by omega
      have C1 := Lib.hid fun w => IH (n / 10) (by omega) w (by omega)
      have C2 := Lib.hid fun w => rdig_one m w hm10
      clear IH
      rw [hq] at C1 hl ⊢
      rw [hm] at hl ⊢
      have t1 : decide ((n : Int) < 0) = false := decide_eq_false (by omega)
      have t2 : decide ((n : Int) < 10) = false := decide_eq_false (by omega)
      have f1 : (n : Int).tdiv 10 = (q : Nat) := by rw [Int.tdiv_eq_ediv_of_nonneg (by omega)]; omega
      have f2 : (n : Int).tmod 10 = (m : Nat) := by rw [Int.tmod_eq_emod_of_nonneg (by omega)]; omega
      have f3 : (n : Int) / 10 = (q : Nat) := by omega
      have f4 : (n : Int) % 10 = (m : Nat) := by omega
      have e1 : wrap64 (q : Int) = (q : Nat) := by unfold wrap64; omega
      have e2 : wrap64 (m : Int) = (m : Nat) := by unfold wrap64; omega
      generalize dg q = D at *
      have hadd := bs_add D [dgB m]
      have hz1 : (bs D).size = D.length := bs_size D
      have hz2 : (bs [dgB m]).size = 1 := bs_size _
      have hzb : (bs D).size + (bs [dgB m]).size ≤ 100 := by rw [List.length_append] at hl; omega
      clear hq hm h10 hl hn
      go_enter Tryd.func25, Tryd.ntmps25
      go_wp2_with fail
      refine (C1.out _).mono ?_; rintro e aw ⟨rfl, a⟩
      go_wp2_with fail
      refine (C2.out _).mono ?_; rintro e bw ⟨rfl, b⟩
      go_wp2
      go_ret
      exact ⟨rfl, by have s0 := a.size; (try simp only [World.heap_drewN, World.size_alloc] at s0); have s1 := b.size; (try simp only [World.heap_drewN, World.size_alloc] at s1); repeat (first | exact Below.refl _ _ | exact a | exact b | refine Below.trans ?_ (Below.mono a (by first | omega | (simp; done) | (simp; omega))) | refine Below.trans ?_ (Below.mono b (by first | omega | (simp; done) | (simp; omega))) | refine Below.setCell ?_ (by first | omega | (simp; done) | (simp; omega)) _ | refine below_dN ?_ _ | refine Below.drew ?_ | refine Below.alloc ?_ (by first | omega | (simp; done) | (simp; omega)) _)⟩
end Go.Proofs.YtacjbinjlooohaaDoor
