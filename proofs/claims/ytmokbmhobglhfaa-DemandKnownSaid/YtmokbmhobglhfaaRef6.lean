/- The contracts of the document's own reckoning of layer 1, the sixth part: Gcd, Lcm. -/
import Derived.Test.YtmokbmhobglhfaaRef5
import Derived.Test.YtmokbmhobglhfaaNumLcm
import Derived.Deep.RegionHeld3
import Derived.Deep.DeepCutAuto
namespace Go.Proofs.Ytmokbmhobglhfaa
open Go.RowKit
set_option linter.unusedVariables false
set_option linter.unusedSimpArgs false

set_option maxHeartbeats 400000 in
theorem rgcd_any (a b g : Int) (w : World) (ha : fitB a = true) (hb : fitB b = true) (hg : gcdZ a b = g) :
    Calls Try.prog 27 #[.int .i64 a, .int .i64 b] w (Ret (.int .i64 g) w) := by
  obtain ⟨a0, a1⟩ := fitB_iff.1 ha
  obtain ⟨b0, b1⟩ := fitB_iff.1 hb
  by_cases ma : a = -9223372036854775808
  · have hg1 : g = 1 := by rw [← hg, gcdZ, if_pos (.inl ma)]
    subst hg1
    have ka : (a == -9223372036854775808) = true := beq_iff_eq.2 ma
    clear hg ma ha hb
    go_enter Try.func27, Try.ntmps27
    go_wp2
    go_ret
    exact ⟨rfl, 0, rfl⟩
  · have ka : (a == -9223372036854775808) = false := beq_eq_false_iff_ne.2 ma
    by_cases mb : b = -9223372036854775808
    · have hg1 : g = 1 := by rw [← hg, gcdZ, if_pos (.inr mb)]
      subst hg1
      have kb : (b == -9223372036854775808) = true := beq_iff_eq.2 mb
      clear hg ma mb ha hb
      go_enter Try.func27, Try.ntmps27
      go_wp2
      go_ret
      exact ⟨rfl, 0, rfl⟩
    · have kb : (b == -9223372036854775808) = false := beq_eq_false_iff_ne.2 mb
      obtain ⟨x0, hx0⟩ : ∃ x, a.natAbs = x := ⟨_, rfl⟩
      obtain ⟨y0, hy0⟩ : ∃ x, b.natAbs = x := ⟨_, rfl⟩
      have C1 := Lib.hid (rsize_any a x0 · ha hx0)
      have C2 := Lib.hid (rsize_any b y0 · hb hy0)
      obtain ⟨n, hn⟩ : ∃ n, n = Nat.gcd x0 y0 := ⟨_, rfl⟩
      have hgn : g = (n : Int) := by rw [← hg, gcdZ, if_neg (by simp [ma, mb]), hn, hx0, hy0]
      have hr : GRel n x0 y0 := hn.symm
      subst hgn
      have x1 : (x0 : Int) ≤ 9223372036854775807 := by omega
      have y1 : (y0 : Int) ≤ 9223372036854775807 := by omega
      clear hg ma mb hn a0 b0 ha hb hx0 hy0 a1 b1
      go_enter Try.func27, Try.ntmps27
      go_wp2_with fail
      refine (C1.out _).mono ?_; rintro e w' ⟨rfl, n1, rfl⟩
      go_wp2_with fail
      refine (C2.out _).mono ?_; rintro e w' ⟨rfl, n2, rfl⟩
      go_wp2
      go_loopw [5, 6] (fun s t wx => ∃ (x y k : Nat), GRel n x y ∧ (x : Int) ≤ 9223372036854775807 ∧ (y : Int) ≤ 9223372036854775807 ∧ s = .int .u64 (x : Int) ∧ t = .int .u64 (y : Int) ∧ wx = w.drewN k) (fun _ t _ => (intOf t).natAbs)
      case atStart => exact ⟨x0, y0, _, hr, x1, y1, rfl, rfl, rfl⟩
      case round =>
        clear hr x1 y1 ka kb C1 C2
        obtain ⟨x, y, k, hr, x1, y1, rfl, rfl, rfl⟩ := hrel
        by_cases hy : y = 0
        · subst hy
          have hx : x = n := by unfold GRel at hr; simpa using hr
          subst hx
          clear hr
          go_wp2
          go_ret
          exact ⟨rfl, _, rfl⟩
        · have k1 : ((y : Int) != 0) = true := by rw [bne, beq_eq_false_iff_ne.2 (show (y : Int) ≠ 0 by omega)]; rfl
          have k2 : ((y : Int) == 0) = false := beq_eq_false_iff_ne.2 (by omega)
          have hm := Nat.mod_lt x (show y > 0 by omega)
          have hs := hr.step (show (y : Int) ≠ 0 by omega)
          have k3 : ¬ (y : Int) = 0 := by omega
          obtain ⟨z, hz⟩ : ∃ z, x % y = z := ⟨_, rfl⟩
          have e1 : ((x : Int)).tmod (y : Int) = (z : Int) := by rw [← hz]; rfl
          have e2 : ((x : Int)) % (y : Int) = (z : Int) := by rw [← hz]; rfl
          rw [e1] at hs
          rw [hz] at hm
          have m1 : (z : Int) ≤ 9223372036854775807 := by omega
          have HM := Lib.hid hm
          clear hy hr hm hz
          go_wp2
          go_quiet (fail)
          go_wp2
          exact ⟨⟨y, z, k + nq, hs, y1, m1, rfl, rfl, World.drewN_drewN _ _ _⟩, HM.out⟩

set_option maxHeartbeats 2000000 in
theorem rlcm_any (most v : Int) (o : Bool) (A : Option Addr) (c : Nat) (zs : List Int) (w : World) (hl : zs.length ≤ 9223372036854775807) (hf : ∀ x ∈ zs, fitB x = true) (hr : ReadsI w A zs) (hA : zs ≠ [] → ∀ ad, A = some ad → ad.block < w.heap.size)
    (hv : lcmV most zs = v) (ho : lcmOk most zs = o) :
    Calls Try.prog 23 #[.int .i64 most, .slice A zs.length c] w (RetB (.tuple #[.int .i64 v, .bool o]) w) := by
  have HR := Lib.hid hr; have HF := Lib.hid hf; have HV := Lib.hid (And.intro hv ho); have HA := Lib.hid hA
  clear hr hf hv ho hA
  obtain ⟨len, hlen⟩ : ∃ len, zs.length = len := ⟨_, rfl⟩
  rw [hlen] at hl ⊢
  have HL := Lib.hid hlen; clear hlen
  go_enter Try.func23, Try.ntmps23
  go_wp2
  go_loopw [6, 7] (fun s t wx => ∃ (k : Nat) (n : Int), LRel zs k n ∧ s = .int .i64 n ∧ t = .int .i64 (k : Int) ∧ Below w.heap.size w wx) (fun _ t _ => len - (intOf t).toNat)
  case atStart => exact ⟨0, 1, LRel.start zs, rfl, rfl, Below.refl _ _⟩
  case round =>
    obtain ⟨k, n, hrel, rfl, rfl, hbel⟩ := hrel
    have n1 := hrel.2.1
    have n2 := hrel.2.2.1
    by_cases hk : k < len
    · have hk' : k < zs.length := by rw [HL.out]; exact hk
      obtain ⟨b, off, rfl, hc⟩ := HR.out k hk'
      have hblk := HA.out (fun h => by rw [h] at hk'; simp at hk') _ rfl
      obtain ⟨x, hx⟩ : ∃ x, zs.getD k 0 = x := ⟨_, rfl⟩
      have hfx : fitB x = true := by rw [← hx]; refine HF.out _ ?_; rw [List.getD, List.getElem?_eq_getElem hk']; exact List.getElem_mem _
      rw [hx] at hc
      rw [← hbel.cell (p := ⟨b, off + k, none⟩) hblk] at hc
      by_cases x1 : x < 1
      · obtain ⟨e1, e2⟩ := hrel.small hk' hx x1 most
        have HE := Lib.hid (And.intro e1 e2)
        clear e1 e2 hrel hfx hx hk' hblk
        go_wp2
        go_ret2
        exact ⟨ret_ib (by rw [← HV.out.1, HE.out.1]) (by rw [← HV.out.2, HE.out.2]), hbel⟩
      · have C1 := Lib.hid (rgcd_any n x (gcdZ n x) · (fitB_true ⟨by omega, by omega⟩) hfx rfl)
        obtain ⟨g1, g2, g3, g4⟩ := gcdZ_pos n1 (show 1 ≤ x by omega)
        have hq : 0 ≤ n / gcdZ n x ∧ n / gcdZ n x ≤ n := ⟨Int.ediv_nonneg (by omega) (by omega), Int.ediv_le_self _ (by omega)⟩
        have C2 := fun v o => Lib.hid (rmulTwo_any (n / gcdZ n x) x v o · (fitB_true ⟨by omega, by omega⟩) hfx)
        have S1 := hrel.wide hk' hx x1
        have S2 := hrel.step hk' hx x1
        obtain ⟨g, hg⟩ : ∃ g, gcdZ n x = g := ⟨_, rfl⟩
        rw [hg] at C1 C2 S1 S2 g1 g2 hq
        obtain ⟨q, hqq⟩ : ∃ q, n / g = q := ⟨_, rfl⟩
        rw [hqq] at C2 S1 S2 hq
        have gz : ¬ g = 0 := by omega
        have gz' : (g == 0) = false := beq_eq_false_iff_ne.2 gz
        cases hb : fitB (q * x)
        · have C2' := Lib.hid fun w => (C2 0 false).out w (cutZ_false hb) hb
          have HE := Lib.hid (S1 hb most)
          clear S1 S2 C2 hb g3 g4 hg hrel hx hk' hfx
          go_upto_region 7 with fail
          go_cut [8, 9] (fun s8 s9 wx => s8 = .int .i64 0 ∧ s9 = .bool false ∧ Below w.heap.size w wx)
          case first =>
            have q1 : IntKind.i64.wrap (n.tdiv g) = q := by rw [← hqq]; exact IntWalk.i64_quo n g ⟨by omega, n2, g1⟩
            have q2 : wrap64 (n.tdiv g) = q := by rw [← IntWalk.i64_left]; exact q1
            have i1 : (0 : Int) ≤ (k : Int) := by omega
            have i2 : (k : Int) < (len : Int) := by omega
            go_region_with (first
              | (go_at_call 27; refine (C1.out _).mono ?_; rintro e w' ⟨rfl, m1, rfl⟩)
              | (go_at_call 26; refine (C2'.out _).mono ?_; rintro e w' ⟨rfl, hb2⟩))
            all_goals (go_wp2_with fail; go_meet; exact ⟨rfl, rfl, by have s0 := hbel.size; (try simp only [World.heap_drewN, World.size_alloc] at s0); have s1 := hb2.size; (try simp only [World.heap_drewN, World.size_alloc] at s1); repeat (first | exact Below.refl _ _ | exact hbel | exact hb2 | refine Below.trans ?_ (Below.mono hbel (by first | omega | (simp; done) | (simp; omega))) | refine Below.trans ?_ (Below.mono hb2 (by first | omega | (simp; done) | (simp; omega))) | refine Below.setCell ?_ (by first | omega | (simp; done) | (simp; omega)) _ | refine below_dN ?_ _ | refine Below.drew ?_ | refine Below.alloc ?_ (by first | omega | (simp; done) | (simp; omega)) _)⟩)
          case rest =>
            obtain ⟨rfl, rfl, hbel2⟩ := hcut
            go_wp2
            go_ret2
            exact ⟨ret_ib (by rw [← HV.out.1, HE.out.1]) (by rw [← HV.out.2, HE.out.2]), hbel2⟩
        · have C2' := Lib.hid fun w => (C2 (q * x) true).out w (cutZ_true hb) hb
          have HE := S2 hb
          obtain ⟨y, hy⟩ : ∃ y, q * x = y := ⟨_, rfl⟩
          rw [hy] at C2' HE
          clear S1 S2 C2 hb g3 g4 hg hrel hx hk' hfx hy
          go_upto_region 7 with fail
          go_cut [8, 9] (fun s8 s9 wx => s8 = .int .i64 y ∧ s9 = .bool true ∧ Below w.heap.size w wx)
          case first =>
            have q1 : IntKind.i64.wrap (n.tdiv g) = q := by rw [← hqq]; exact IntWalk.i64_quo n g ⟨by omega, n2, g1⟩
            have q2 : wrap64 (n.tdiv g) = q := by rw [← IntWalk.i64_left]; exact q1
            have i1 : (0 : Int) ≤ (k : Int) := by omega
            have i2 : (k : Int) < (len : Int) := by omega
            go_region_with (first
              | (go_at_call 27; refine (C1.out _).mono ?_; rintro e w' ⟨rfl, m1, rfl⟩)
              | (go_at_call 26; refine (C2'.out _).mono ?_; rintro e w' ⟨rfl, hb2⟩))
            all_goals (go_wp2_with fail; go_meet; exact ⟨rfl, rfl, by have s0 := hbel.size; (try simp only [World.heap_drewN, World.size_alloc] at s0); have s1 := hb2.size; (try simp only [World.heap_drewN, World.size_alloc] at s1); repeat (first | exact Below.refl _ _ | exact hbel | exact hb2 | refine Below.trans ?_ (Below.mono hbel (by first | omega | (simp; done) | (simp; omega))) | refine Below.trans ?_ (Below.mono hb2 (by first | omega | (simp; done) | (simp; omega))) | refine Below.setCell ?_ (by first | omega | (simp; done) | (simp; omega)) _ | refine below_dN ?_ _ | refine Below.drew ?_ | refine Below.alloc ?_ (by first | omega | (simp; done) | (simp; omega)) _)⟩)
          case rest =>
            obtain ⟨rfl, rfl, hbel2⟩ := hcut
            go_wp2
            go_roundw
            case rel => exact ⟨k + 1, y, HE, rfl, by go_num, hbel2⟩
            case measure => simp [intOf]; omega
    · have hk' : ¬ k < zs.length := by rw [HL.out]; exact hk
      by_cases hm : most < n
      · have HE := Lib.hid (hrel.over hk' hm)
        clear hrel hk'
        go_wp2
        go_ret2
        exact ⟨ret_ib (by rw [← HV.out.1, HE.out.1]) (by rw [← HV.out.2, HE.out.2]), hbel⟩
      · have HE := Lib.hid (hrel.done hk' hm)
        clear hrel hk'
        go_wp2
        go_ret2
        exact ⟨ret_ib (by rw [← HV.out.1, HE.out.1]) (by rw [← HV.out.2, HE.out.2]), hbel⟩
end Go.Proofs.Ytmokbmhobglhfaa
