/- RingCounts: as many are met as there are ones in the bits; bits and single ones are the same. -/
import Derived.Test.YtkajiogllcopbaaRgLast
namespace Go.Proofs.Ytkajiogllcopbaa
open Go.RowKit
set_option linter.unusedVariables false
set_option linter.unusedSimpArgs false

theorem atV_nat (h : List Bool) (k : Nat) : atV h (k : Int) = h.getD k false := by unfold atV; rw [if_pos (by omega)]; rfl
theorem atB_nat (h : List Bool) (k : Nat) : atB h (k : Int) = decide ((k : Int) < (h.length : Int)) := by
  unfold atB
  by_cases hk : (k : Int) < (h.length : Int)
  · rw [decide_eq_true hk]; exact decide_eq_true ⟨by omega, hk⟩
  · rw [decide_eq_false hk]; exact decide_eq_false fun q => hk q.2
theorem pc_le_self : ∀ (k x : Nat), pc k x ≤ k
  | 0, _ => Nat.le_refl _
  | k + 1, x => by have := pc_le_self k (x / 2); rw [pc]; omega
theorem pc_le (k x : Nat) (hk : k ≤ 64) : pc k x ≤ 64 := Nat.le_trans (pc_le_self k x) hk
set_option maxHeartbeats 6400000 in
set_option maxRecDepth 100000 in
theorem RingCounts_ret (size : Int) (A : Option Addr) (c : Nat) (l : List Bool) (w : World) (h1 : fitB size = true) (hlc : l.length ≤ c) (hc : c ≤ 9223372036854775807) (hrd : RdB w A l) :
    Calls Try.prog 5 #[.int .i64 size, .slice A l.length c] w (RetB (.bool true) w) := by
  have A0 := Lib.hid awake_any
  have hat := fit_iff h1
  clear h1
  replace hrd := Lib.hid hrd
  obtain ⟨n, hn⟩ : ∃ n : Nat, l.length = n := ⟨_, rfl⟩
  rw [hn] at hlc ⊢
  replace hn := Lib.hid hn
  go_enter Try.func5, Try.ntmps5
  go_wp2_with fail
  refine (A0.out _).mono ?_; rintro e b0w ⟨rfl, b0⟩
  by_cases k1 : size < 1
  · go_wp2
    go_ret
    exact ⟨rfl, by have s0 := b0.size; (try simp only [World.heap_drewN, World.size_alloc] at s0); repeat (first | exact Below.refl _ _ | exact b0 | refine Below.trans ?_ (Below.mono b0 (by first | omega | (simp; done) | (simp; omega))) | refine Below.setCell ?_ (by first | omega | (simp; done) | (simp; omega)) _ | refine below_dN ?_ _ | refine Below.drew ?_ | refine Below.alloc ?_ (by first | omega | (simp; done) | (simp; omega)) _)⟩
  have k1' : decide (size < 1) = false := decide_eq_false k1
  by_cases k2 : size > 64
  · go_wp2
    go_ret
    exact ⟨rfl, by have s0 := b0.size; (try simp only [World.heap_drewN, World.size_alloc] at s0); repeat (first | exact Below.refl _ _ | exact b0 | refine Below.trans ?_ (Below.mono b0 (by first | omega | (simp; done) | (simp; omega))) | refine Below.setCell ?_ (by first | omega | (simp; done) | (simp; omega)) _ | refine below_dN ?_ _ | refine Below.drew ?_ | refine Below.alloc ?_ (by first | omega | (simp; done) | (simp; omega)) _)⟩
  have k2' : decide (size > 64) = false := decide_eq_false k2
  by_cases k3 : (n : Int) > 150
  · go_wp2
    go_ret
    exact ⟨rfl, by have s0 := b0.size; (try simp only [World.heap_drewN, World.size_alloc] at s0); repeat (first | exact Below.refl _ _ | exact b0 | refine Below.trans ?_ (Below.mono b0 (by first | omega | (simp; done) | (simp; omega))) | refine Below.setCell ?_ (by first | omega | (simp; done) | (simp; omega)) _ | refine below_dN ?_ _ | refine Below.drew ?_ | refine Below.alloc ?_ (by first | omega | (simp; done) | (simp; omega)) _)⟩
  have k3' : decide ((n : Int) > 150) = false := decide_eq_false k3
  obtain ⟨m, rfl⟩ := Int.eq_ofNat_of_zero_le (a := size) (by omega)
  go_wp2_with fail
  refine (rnew (fun _ => 0) 1 _ m (by omega) (by omega)).mono ?_
  rintro e w1 ⟨rfl, o, s1, g1⟩
  have F := Lib.hid (And.intro g1 (((Lw.start w).on b0).step s1 (by decide)))
  clear b0 s1 g1
  generalize b0w.heap.size = a at *
  clear k1 k2 k3 k1' k2' k3' hat
  go_wp2
  go_loopw [7] (fun st wr => ∃ (i : Nat), st = .int .i64 (i : Int) ∧ i ≤ n ∧ Rg o 1 wr a m (hs m (l.take i)) ∧ Lw w o wr) (fun st _ => n - (intOf st).toNat)
  case atStart => exact ⟨0, rfl, by omega, by simpa [hs] using F.out.1, F.out.2⟩
  case round =>
    obtain ⟨i, rfl, hi, gA, lw⟩ := hrel
    clear F
    rcases Nat.lt_or_ge i n with hlt | hge
    · obtain ⟨x, hx⟩ : ∃ x, l[i]? = some x := ⟨_, List.getElem?_eq_getElem (by have := hn.out; omega)⟩
      obtain ⟨B, off, rfl, hcell⟩ := hrd.out.at_ lw.below hx
      have C := Lib.hid (radd_any x _ gA (hs_step hx))
      have G := Lib.hid lw
      clear gA lw hx
      go_wp2_with fail
      refine C.out.mono ?_
      rintro e w3 ⟨rfl, st, gA⟩
      generalize hh : hs m (List.take (i + 1) l) = h at *
      replace hh := Lib.hid hh
      have J := Lib.hid (And.intro gA (G.out.step st (by decide)))
      have hle := gA.le
      clear gA st C G hcell
      go_wp2
      go_loopw [8, 9] (fun s8 s9 wr => ∃ (k : Nat), s8 = .int .i64 (pc k (wd h) : Int) ∧ s9 = .int .i64 (k : Int) ∧ k ≤ 64 ∧ Rg o 1 wr a m h ∧ Lw w o wr) (fun _ s9 _ => 64 - (intOf s9).toNat)
      case atStart => exact ⟨0, rfl, rfl, by omega, J.out.1, J.out.2⟩
      case round =>
        obtain ⟨k, rfl, rfl, hk, gA, lw⟩ := hrel
        clear J
        rcases Nat.lt_or_ge k 64 with hkl | hkg
        · have hkl' : (k : Int) < 64 := by omega
          obtain ⟨v, hv⟩ : ∃ v, h.getD k false = v := ⟨_, rfl⟩
          obtain ⟨b, hb⟩ : ∃ b, decide ((k : Int) < (h.length : Int)) = b := ⟨_, rfl⟩
          have C1 := Lib.hid (rat (k : Int) v b gA (by rw [atV_nat]; exact hv) (by rw [atB_nat]; exact hb))
          have C2 := Lib.hid (rbits gA)
          have C3 := Lib.hid (rlen gA)
          have e1 : wd h / 2 ^ k % 2 = v.toNat := by rw [wd_bit, hv]
          have e3 := bit_eq (wd h) k v gA.word e1
          have hmn : min k 64 = k := by omega
          have hu : IntKind.u64.wrap (k : Int) = (k : Int) := wrapU k (by omega)
          have hpc := pc_succ k (wd h)
          rw [e1] at hpc
          have F := Lib.hid (And.intro gA (And.intro lw hpc))
          generalize hp : pc k (wd h) = p at *
          have hple : p ≤ 64 := by rw [← hp]; exact pc_le k _ hk
          generalize wd h = W at *
          generalize h.length = L at *
          clear gA lw hv e1 hpc hp
          go_wp2_with fail
          refine C1.out.mono ?_
          rintro e w5 ⟨rfl, rfl⟩
          go_wp2_with fail
          refine C2.out.mono ?_
          rintro e w5 ⟨rfl, rfl⟩
          have q1 : (v != v) = false := by simp
          have q2 : (b != b) = false := by simp
          go_wp2_with fail
          refine C3.out.mono ?_
          rintro e w5 ⟨rfl, rfl⟩
          clear C1 C2 C3
          have hb2 : decide (k < L) = b := by rw [← hb]; exact decide_eq_decide.2 (by omega)
          have q5 : (!b == decide (k < L)) = false := by rw [hb2]; cases b <;> rfl
          have q6 : (b != decide ((k : Int) < (L : Int))) = false := by rw [hb]; cases b <;> rfl
          clear hb hb2
          cases v with
          | false =>
            go_wp2
            go_roundw
            case rel => exact ⟨k + 1, by rw [F.out.2.2]; simp, by simp, by omega, F.out.1, F.out.2.1⟩
            case measure => simp [intOf]; omega
          | true =>
            have hz : IntKind.i64.wrap ((p : Int) + 1) = (p : Int) + 1 := by rw [IntKind.wrap_i64]; omega
            go_wp2
            go_roundw
            case rel => exact ⟨k + 1, by rw [F.out.2.2]; simp, by simp, by omega, F.out.1, F.out.2.1⟩
            case measure => simp [intOf]; omega
        · obtain rfl : k = 64 := by omega
          rw [pc_wd 64 h (Nat.le_trans gA.le gA.hi)]
          have C1 := Lib.hid (ryes gA)
          have C2 := Lib.hid (rlen gA)
          have F := Lib.hid (And.intro gA lw)
          have q1 : ((yes h : Int) != (yes h : Int)) = false := by simp
          generalize yes h = Y at *
          have q2 : decide ((h.length : Int) > (m : Int)) = false := decide_eq_false (by omega)
          generalize h.length = L at *
          clear gA lw hkg hk
          go_wp2_with fail
          refine C1.out.mono ?_
          rintro e w5 ⟨rfl, rfl⟩
          go_wp2_with fail
          refine C2.out.mono ?_
          rintro e w5 ⟨rfl, rfl⟩
          clear C1 C2
          go_wp2
          go_roundw
          case rel => exact ⟨i + 1, by simp, by omega, by rw [hh.out]; exact F.out.1, F.out.2⟩
          case measure => simp [intOf]; omega
    · obtain rfl : i = n := by omega
      replace lw := Lib.hid lw.below
      clear gA
      go_wp2
      go_ret
      exact ⟨rfl, lw.out⟩
end Go.Proofs.Ytkajiogllcopbaa
