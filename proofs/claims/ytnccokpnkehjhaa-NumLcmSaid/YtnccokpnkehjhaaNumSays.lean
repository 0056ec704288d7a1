/- The walks of the laws NumSays and NumLcm: package num answers as the document's own reckoning does. -/
import Derived.Test.YtnccokpnkehjhaaRef6
import Derived.Test.YtnccokpnkehjhaaRows
namespace Go.Proofs.Ytnccokpnkehjhaa
open Go.RowKit
set_option linter.unusedVariables false
set_option linter.unusedSimpArgs false

set_option maxHeartbeats 4000000 in
set_option maxRecDepth 100000 in
theorem NumSays_ret (a b c d : Int) (w : World) (ha : fitB a = true) (hb : fitB b = true) (hc : fitB c = true) (hd : fitB d = true) :
    Calls Try.prog 4 #[.int .i64 a, .int .i64 b, .int .i64 c, .int .i64 d] w (RetB (.bool true) w) := by
  obtain ⟨v1, hv1⟩ : ∃ v, cutZ (a + b) = v := ⟨_, rfl⟩
  obtain ⟨o1, ho1⟩ : ∃ v, fitB (a + b) = v := ⟨_, rfl⟩
  obtain ⟨v2, hv2⟩ : ∃ v, cutZ (a - b) = v := ⟨_, rfl⟩
  obtain ⟨o2, ho2⟩ : ∃ v, fitB (a - b) = v := ⟨_, rfl⟩
  obtain ⟨v3, hv3⟩ : ∃ v, cutZ (a * b) = v := ⟨_, rfl⟩
  obtain ⟨o3, ho3⟩ : ∃ v, fitB (a * b) = v := ⟨_, rfl⟩
  obtain ⟨v4, hv4⟩ : ∃ v, shareV (a * b) c = v := ⟨_, rfl⟩
  obtain ⟨o4, ho4⟩ : ∃ v, shareOk (a * b) c = v := ⟨_, rfl⟩
  obtain ⟨v5, hv5⟩ : ∃ v, upV (a * b) c = v := ⟨_, rfl⟩
  obtain ⟨o5, ho5⟩ : ∃ v, upOk (a * b) c = v := ⟨_, rfl⟩
  obtain ⟨v6, hv6⟩ : ∃ v, cmpZ (a * b) (c * d) = v := ⟨_, rfl⟩
  obtain ⟨v7, hv7⟩ : ∃ v, gcdZ a b = v := ⟨_, rfl⟩
  have C1 := Lib.hid (add_named a b v1 o1 · ha hb hv1 ho1)
  have R1 := Lib.hid (radd_any a b v1 o1 · ha hb hv1 ho1)
  have C2 := Lib.hid (sub_named a b v2 o2 · ha hb hv2 ho2)
  have R2 := Lib.hid (rsub_any a b v2 o2 · ha hb hv2 ho2)
  have C3 := Lib.hid (mul_named a b v3 o3 · ha hb hv3 ho3)
  have R3 := Lib.hid (rmulTwo_any a b v3 o3 · ha hb hv3 ho3)
  have C4 := Lib.hid (share_any a b c v4 o4 · ha hb hc hv4 ho4)
  have R4 := Lib.hid (rshare_any a b c v4 o4 · ha hb hc hv4 ho4)
  have C5 := Lib.hid (up_any a b c v5 o5 · ha hb hc hv5 ho5)
  have R5 := Lib.hid (rup_any a b c v5 o5 · ha hb hc hv5 ho5)
  have C6 := Lib.hid (cmpMul_any a b c d v6 · ha hb hc hd hv6)
  have R6 := Lib.hid (rcmpMul_any a b c d v6 · ha hb hc hd hv6)
  have C7 := Lib.hid (gcd_any a b v7 · ha hb hv7)
  have R7 := Lib.hid (rgcd_any a b v7 · ha hb hv7)
  clear hv1 ho1 hv2 ho2 hv3 ho3 hv4 ho4 hv5 ho5 hv6 hv7 ha hb hc hd
  go_enter Try.func4, Try.ntmps4
  go_wp2_with fail
  refine (awake1 _).mono ?_; rintro e w' ⟨rfl, n1, rfl⟩
  go_wp2_with fail
  refine (C1.out _).mono ?_; rintro e w' ⟨rfl, n2, rfl⟩
  go_wp2_with fail
  refine (R1.out _).mono ?_; rintro e w' ⟨rfl, n3, rfl⟩
  go_wp2_with fail
  refine (C2.out _).mono ?_; rintro e w' ⟨rfl, n4, rfl⟩
  go_wp2_with fail
  refine (R2.out _).mono ?_; rintro e w' ⟨rfl, n5, rfl⟩
  go_wp2_with fail
  refine (C3.out _).mono ?_; rintro e w' ⟨rfl, n6, rfl⟩
  go_wp2_with fail
  refine (R3.out _).mono ?_; rintro e b3w ⟨rfl, b3⟩
  go_wp2_with fail
  refine (C4.out _).mono ?_; rintro e w' ⟨rfl, n7, rfl⟩
  go_wp2_with fail
  refine (R4.out _).mono ?_; rintro e b4w ⟨rfl, b4⟩
  go_wp2_with fail
  refine (C5.out _).mono ?_; rintro e w' ⟨rfl, n8, rfl⟩
  go_wp2_with fail
  refine (R5.out _).mono ?_; rintro e b5w ⟨rfl, b5⟩
  go_wp2_with fail
  refine (C6.out _).mono ?_; rintro e w' ⟨rfl, n9, rfl⟩
  go_wp2_with fail
  refine (R6.out _).mono ?_; rintro e b6w ⟨rfl, b6⟩
  go_wp2_with fail
  refine (C7.out _).mono ?_; rintro e w' ⟨rfl, n10, rfl⟩
  go_wp2_with fail
  refine (R7.out _).mono ?_; rintro e w' ⟨rfl, n11, rfl⟩
  go_wp2
  go_ret
  exact ⟨rfl, by have s0 := b3.size; (try simp only [World.heap_drewN, World.size_alloc] at s0); have s1 := b4.size; (try simp only [World.heap_drewN, World.size_alloc] at s1); have s2 := b5.size; (try simp only [World.heap_drewN, World.size_alloc] at s2); have s3 := b6.size; (try simp only [World.heap_drewN, World.size_alloc] at s3); repeat (first | exact Below.refl _ _ | exact b3 | exact b4 | exact b5 | exact b6 | refine Below.trans ?_ (Below.mono b3 (by first | omega | (simp; done) | (simp; omega))) | refine Below.trans ?_ (Below.mono b4 (by first | omega | (simp; done) | (simp; omega))) | refine Below.trans ?_ (Below.mono b5 (by first | omega | (simp; done) | (simp; omega))) | refine Below.trans ?_ (Below.mono b6 (by first | omega | (simp; done) | (simp; omega))) | refine Below.setCell ?_ (by first | omega | (simp; done) | (simp; omega)) _ | refine below_dN ?_ _ | refine Below.drew ?_ | refine Below.alloc ?_ (by first | omega | (simp; done) | (simp; omega)) _)⟩

theorem rem_zero {a d : Int} (h : d ∣ a) : a.tmod d = 0 ∧ a % d = 0 := ⟨Int.tmod_eq_zero_of_dvd h, Int.emod_eq_zero_of_dvd h⟩
/-- All of a list divide what their least common multiple is. -/
theorem lcmGo_all : ∀ (l : List Int) (n m : Int), 1 ≤ n → lcmGo n l = some m → 1 ≤ m ∧ n ∣ m ∧ ∀ x ∈ l, 1 ≤ x ∧ x ∣ m
  | [], n, m, h, e => by
    rw [lcmGo] at e
    obtain rfl : n = m := by simpa using e
    exact ⟨h, Int.dvd_refl _, by simp⟩
  | x :: l, n, m, h, e => by
    rw [lcmGo] at e
    by_cases x1 : x < 1
    · rw [lcmStep, if_pos x1] at e; cases e
    · by_cases f : fitB (n / gcdZ n x * x) = true
      · rw [lcmStep, if_neg x1, if_pos f] at e
        obtain ⟨k1, k2, k3⟩ := lcm_next h (show 1 ≤ x by omega)
        obtain ⟨j1, j2, j3⟩ := lcmGo_all l _ m k1 e
        refine ⟨j1, Int.dvd_trans k2 j2, fun y hy => ?_⟩
        rcases List.mem_cons.1 hy with rfl | hy
        · exact ⟨by omega, Int.dvd_trans k3 j2⟩
        · exact j3 y hy
      · rw [lcmStep, if_neg x1, if_neg f] at e; cases e
theorem lcm_all {most v : Int} {zs : List Int} (hv : lcmV most zs = v) (ho : lcmOk most zs = true) : 1 ≤ v ∧ ∀ x ∈ zs, 1 ≤ x ∧ x ∣ v := by
  unfold lcmOk at ho
  unfold lcmV at hv
  cases e : lcmGo 1 zs with
  | none => rw [e] at ho; cases ho
  | some n =>
    rw [e] at ho hv
    have hn : n ≤ most := of_decide_eq_true ho
    simp only [if_pos hn] at hv
    subst hv
    obtain ⟨h1, _, h3⟩ := lcmGo_all zs 1 n (by omega) e
    exact ⟨h1, h3⟩

set_option maxHeartbeats 2000000 in
theorem NumLcm_ret (most : Int) (A : Option Addr) (c : Nat) (zs : List Int) (w : World) (hm : fitB most = true) (hl : zs.length ≤ 9223372036854775807) (hf : ∀ x ∈ zs, fitB x = true) (hr : ReadsI w A zs)
    (hA : zs ≠ [] → ∀ ad, A = some ad → ad.block < w.heap.size) :
    Calls Try.prog 5 #[.int .i64 most, .slice A zs.length c] w (RetB (.bool true) w) := by
  obtain ⟨len, hlen⟩ : ∃ len, zs.length = len := ⟨_, rfl⟩
  by_cases h12 : 12 < len
  · clear hr hf hA
    rw [hlen] at hl ⊢
    have h12' : (12 : Int) < (len : Int) := by omega
    clear hlen
    go_enter Try.func5, Try.ntmps5
    go_wp2_with fail
    refine (awake1 _).mono ?_; rintro e w' ⟨rfl, n12, rfl⟩
    go_wp2
    go_ret
    exact ⟨rfl, by repeat (first | exact Below.refl _ _ | refine Below.setCell ?_ (by first | omega | (simp; done) | (simp; omega)) _ | refine below_dN ?_ _ | refine Below.drew ?_ | refine Below.alloc ?_ (by first | omega | (simp; done) | (simp; omega)) _)⟩
  · obtain ⟨v, hv⟩ : ∃ v, lcmV most zs = v := ⟨_, rfl⟩
    obtain ⟨o, ho⟩ : ∃ v, lcmOk most zs = v := ⟨_, rfl⟩
    have C1 := Lib.hid fun n => lcm_any most v o A c zs (w.drewN n) hl hf (hr.drewN n) hv ho
    have C2 := Lib.hid fun n => rlcm_any most v o A c zs (w.drewN n) hl hf (hr.drewN n) hA hv ho
    have F := fun h : o = true => lcm_all hv (ho.trans h)
    rw [hlen] at C1 C2
    rw [hlen] at hl ⊢
    have HL := Lib.hid hlen; have HR := Lib.hid hr; have HA := Lib.hid hA
    clear hv ho hf hr hA hlen
    have h12' : ¬ (12 : Int) < (len : Int) := by omega
    cases o
    · clear F
      go_enter Try.func5, Try.ntmps5
      go_wp2_with fail
      refine (awake1 _).mono ?_; rintro e w' ⟨rfl, n13, rfl⟩
      go_wp2_with fail
      refine (C1.out _).mono ?_; rintro e w' ⟨rfl, n2, rfl⟩
      go_wp2_with fail
      refine (C2.out _).mono ?_; rintro e b1w ⟨rfl, b1⟩
      go_wp2
      go_loop [9] (fun i => i = .int .i64 0) (fun _ => 0)
      case atStart => rfl
      case round =>
        subst hrel
        go_wp2
        go_ret
        exact ⟨rfl, by have s0 := b1.size; (try simp only [World.heap_drewN, World.size_alloc] at s0); repeat (first | exact Below.refl _ _ | exact b1 | refine Below.trans ?_ (Below.mono b1 (by first | omega | (simp; done) | (simp; omega))) | refine Below.setCell ?_ (by first | omega | (simp; done) | (simp; omega)) _ | refine below_dN ?_ _ | refine Below.drew ?_ | refine Below.alloc ?_ (by first | omega | (simp; done) | (simp; omega)) _)⟩
    · obtain ⟨v1, F⟩ := F rfl
      have HF := Lib.hid F; clear F
      go_enter Try.func5, Try.ntmps5
      go_wp2_with fail
      refine (awake1 _).mono ?_; rintro e w' ⟨rfl, n14, rfl⟩
      go_wp2_with fail
      refine (C1.out _).mono ?_; rintro e w' ⟨rfl, n2, rfl⟩
      go_wp2_with fail
      refine (C2.out _).mono ?_; rintro e b1w ⟨rfl, b1⟩
      go_wp2
      go_loop [9] (fun i => ∃ k : Nat, k ≤ len ∧ i = .int .i64 (k : Int)) (fun i => len - (intOf i).toNat)
      case atStart => exact ⟨0, Nat.zero_le _, rfl⟩
      case round =>
        obtain ⟨k, hk, rfl⟩ := hrel
        have v1' : decide (v < 1) = false := decide_eq_false (by omega)
        by_cases hlt : k < len
        · have hk' : k < zs.length := by rw [HL.out]; exact hlt
          obtain ⟨b, off, rfl, hc⟩ := HR.out k hk'
          have hblk := HA.out (fun h => by rw [h] at hk'; simp at hk') _ rfl
          obtain ⟨x, hx⟩ : ∃ x, zs.getD k 0 = x := ⟨_, rfl⟩
          have hmem : x ∈ zs := by rw [← hx, List.getD, List.getElem?_eq_getElem hk']; exact List.getElem_mem _
          obtain ⟨x1, xd⟩ := HF.out x hmem
          rw [hx] at hc
          have hc' : b1w.cell? ⟨b, off + k, none⟩ = some (.int .i64 x) := by
            rw [b1.cell (p := ⟨b, off + k, none⟩) hblk]; exact hc
          obtain ⟨r1, r2⟩ := rem_zero xd
          have xz : ¬ x = 0 := by omega
          have xz' : (x == 0) = false := beq_eq_false_iff_ne.2 xz
          clear hk' hblk hx hmem xd hc
          go_wp2
          go_round
          case rel => exact ⟨k + 1, by omega, by go_num⟩
          case measure => simp [intOf]; omega
        · go_wp2
          go_ret
          exact ⟨rfl, by have s0 := b1.size; (try simp only [World.heap_drewN, World.size_alloc] at s0); repeat (first | exact Below.refl _ _ | exact b1 | refine Below.trans ?_ (Below.mono b1 (by first | omega | (simp; done) | (simp; omega))) | refine Below.setCell ?_ (by first | omega | (simp; done) | (simp; omega)) _ | refine below_dN ?_ _ | refine Below.drew ?_ | refine Below.alloc ?_ (by first | omega | (simp; done) | (simp; omega)) _)⟩
end Go.Proofs.Ytnccokpnkehjhaa
