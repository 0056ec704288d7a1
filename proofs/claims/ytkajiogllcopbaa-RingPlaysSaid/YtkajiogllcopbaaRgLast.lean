/- RingLast: only the last ones count. -/
import Derived.Test.YtkajiogllcopbaaRgReads
namespace Go.Proofs.Ytkajiogllcopbaa
open Go.RowKit
set_option linter.unusedVariables false
set_option linter.unusedSimpArgs false

/-- The history behind these elements, the oldest one first. -/
def hs (n : Nat) (l : List Bool) : List Bool := l.reverse.take n
theorem hs_next (n : Nat) (l : List Bool) (x : Bool) : radd n (hs n l) x = hs n (l ++ [x]) := by
  unfold radd hs
  rw [List.reverse_append]
  cases n with
  | zero => rfl
  | succ n => simp [List.take_succ_cons, List.take_take]
theorem take_next {l : List Bool} {i : Nat} {x : Bool} (h : l[i]? = some x) : l.take (i + 1) = l.take i ++ [x] := by rw [List.take_add_one, h]; rfl
theorem hs_step {n : Nat} {l : List Bool} {i : Nat} {x : Bool} (h : l[i]? = some x) : radd n (hs n (l.take i)) x = hs n (l.take (i + 1)) := by rw [hs_next, take_next h]
theorem hs_behind {n : Nat} (k : List Bool) {l : List Bool} {i : Nat} {x : Bool} (h : l[i]? = some x) : radd n (hs n (k ++ l.take i)) x = hs n (k ++ l.take (i + 1)) := by rw [hs_next, take_next h, List.append_assoc]
theorem hs_last {n : Nat} (k l : List Bool) (h : n ≤ l.length) : hs n (k ++ l) = hs n l := by
  unfold hs
  rw [List.reverse_append, List.take_append_of_le_length (by simpa using h)]
theorem hs_len {n : Nat} (l : List Bool) (h : n ≤ l.length) : (hs n l).length = n := by unfold hs; simp; omega
theorem RdB.at_ {w w' : World} {A : Option Addr} {l : List Bool} (h : RdB w A l) (hb : Below w.heap.size w w') {i : Nat} {x : Bool} (hx : l[i]? = some x) : ∃ b off, A = some ⟨b, off, none⟩ ∧ w'.cell? ⟨b, off + i, none⟩ = some (.bool x) := by
  obtain ⟨b, off, rfl, hc⟩ := h i x hx
  exact ⟨b, off, rfl, by rw [hb.cell (p := ⟨b, off + i, none⟩) (cell_lt hc)]; exact hc⟩
set_option maxHeartbeats 6400000 in
set_option maxRecDepth 100000 in
theorem RingLast_ret (size : Int) (A : Option Addr) (c : Nat) (l : List Bool) (A2 : Option Addr) (c2 : Nat) (l2 : List Bool) (w : World) (h1 : fitB size = true) (hlc : l.length ≤ c) (hc : c ≤ 9223372036854775807) (hrd : RdB w A l) (hlc2 : l2.length ≤ c2) (hc2 : c2 ≤ 9223372036854775807) (hrd2 : RdB w A2 l2) :
    Calls Try.prog 6 #[.int .i64 size, .slice A l.length c, .slice A2 l2.length c2] w (RetB (.bool true) w) := by
  have A0 := Lib.hid awake_any
  have hat := fit_iff h1
  clear h1
  replace hrd := Lib.hid hrd
  replace hrd2 := Lib.hid hrd2
  obtain ⟨n, hn⟩ : ∃ n : Nat, l.length = n := ⟨_, rfl⟩
  rw [hn] at hlc ⊢
  replace hn := Lib.hid hn
  obtain ⟨n2, hn2⟩ : ∃ n : Nat, l2.length = n := ⟨_, rfl⟩
  rw [hn2] at hlc2 ⊢
  replace hn2 := Lib.hid hn2
  go_enter Try.func6, Try.ntmps6
  go_wp2_with fail
  refine (A0.out _).mono ?_; rintro e b0w ⟨rfl, b0⟩
  by_cases k1 : size < 1
  · go_wp2
    go_ret
    exact ⟨rfl, by have s0 := b0.size; (try simp only [World.heap_drewN, World.size_alloc] at s0); repeat (first | exact Below.refl _ _ | exact b0 | refine Below.trans ?_ (Below.mono b0 (by first | omega | (simp; done) | (simp; omega))) | refine Below.setCell ?_ (by first | omega | (simp; done) | (simp; omega)) _ | refine below_dN ?_ _ | refine Below.drew ?_ | refine Below.alloc ?_ (by first | omega | (simp; done) | (simp; omega)) _)⟩
  have k1' : decide (size < 1) = false := decide_eq_false k1
  by_cases k2 : size > 64
  · go_wp2
    go_ret
    exact ⟨rfl, by have s0 := b0.size; (try simp only [World.heap_drewN, World.size_alloc] at s0); repeat (first | exact Below.refl _ _ | exact b0 | refine Below.trans ?_ (Below.mono b0 (by first | omega | (simp; done) | (simp; omega))) | refine Below.setCell ?_ (by first | omega | (simp; done) | (simp; omega)) _ | refine below_dN ?_ _ | refine Below.drew ?_ | refine Below.alloc ?_ (by first | omega | (simp; done) | (simp; omega)) _)⟩
  have k2' : decide (size > 64) = false := decide_eq_false k2
  by_cases k3 : (n : Int) > 100
  · go_wp2
    go_ret
    exact ⟨rfl, by have s0 := b0.size; (try simp only [World.heap_drewN, World.size_alloc] at s0); repeat (first | exact Below.refl _ _ | exact b0 | refine Below.trans ?_ (Below.mono b0 (by first | omega | (simp; done) | (simp; omega))) | refine Below.setCell ?_ (by first | omega | (simp; done) | (simp; omega)) _ | refine below_dN ?_ _ | refine Below.drew ?_ | refine Below.alloc ?_ (by first | omega | (simp; done) | (simp; omega)) _)⟩
  have k3' : decide ((n : Int) > 100) = false := decide_eq_false k3
  by_cases k4 : (n2 : Int) < size
  · go_wp2
    go_ret
    exact ⟨rfl, by have s0 := b0.size; (try simp only [World.heap_drewN, World.size_alloc] at s0); repeat (first | exact Below.refl _ _ | exact b0 | refine Below.trans ?_ (Below.mono b0 (by first | omega | (simp; done) | (simp; omega))) | refine Below.setCell ?_ (by first | omega | (simp; done) | (simp; omega)) _ | refine below_dN ?_ _ | refine Below.drew ?_ | refine Below.alloc ?_ (by first | omega | (simp; done) | (simp; omega)) _)⟩
  have k4' : decide ((n2 : Int) < size) = false := decide_eq_false k4
  by_cases k5 : (n2 : Int) > 100
  · go_wp2
    go_ret
    exact ⟨rfl, by have s0 := b0.size; (try simp only [World.heap_drewN, World.size_alloc] at s0); repeat (first | exact Below.refl _ _ | exact b0 | refine Below.trans ?_ (Below.mono b0 (by first | omega | (simp; done) | (simp; omega))) | refine Below.setCell ?_ (by first | omega | (simp; done) | (simp; omega)) _ | refine below_dN ?_ _ | refine Below.drew ?_ | refine Below.alloc ?_ (by first | omega | (simp; done) | (simp; omega)) _)⟩
  have k5' : decide ((n2 : Int) > 100) = false := decide_eq_false k5
  obtain ⟨m, rfl⟩ := Int.eq_ofNat_of_zero_le (a := size) (by omega)
  go_wp2_with fail
  refine (rnew (fun _ => 0) 1 _ m (by omega) (by omega)).mono ?_
  rintro e w1 ⟨rfl, o1, s1, g1⟩
  have lw1 := ((Lw.start w).on b0).step s1 (by decide)
  clear b0 s1
  generalize b0w.heap.size = a at *
  go_wp2_with fail
  refine (rnew o1 2 _ m (by omega) (by omega)).mono ?_
  rintro e w2 ⟨rfl, o, s2, g2⟩
  have F := Lib.hid (And.intro (g1.step s2 (by decide)) (And.intro g2 (lw1.step s2 (by decide))))
  clear lw1 s2 g1 g2
  generalize w1.heap.size = b at *
  have K := Lib.hid (And.intro k1 (And.intro k2 (And.intro k4 k1')))
  clear k1 k2 k3 k4 k5 k1' k2' k3' k4' k5' hat
  go_wp2
  go_loopw [11] (fun st wr => ∃ (i : Nat), st = .int .i64 (i : Int) ∧ i ≤ n ∧ Rg o 1 wr a m (hs m (l.take i)) ∧ Rg o 2 wr b m [] ∧ Lw w o wr) (fun st _ => n - (intOf st).toNat)
  case atStart => exact ⟨0, rfl, by omega, by simpa [hs] using F.out.1, F.out.2.1, F.out.2.2⟩
  case round =>
    obtain ⟨i, rfl, hi, gA, gB, lw⟩ := hrel
    clear F
    rcases Nat.lt_or_ge i n with hlt | hge
    · obtain ⟨x, hx⟩ : ∃ x, l[i]? = some x := ⟨_, List.getElem?_eq_getElem (by have := hn.out; omega)⟩
      obtain ⟨B, off, rfl, hcell⟩ := hrd.out.at_ lw.below hx
      have C := Lib.hid (radd_any x _ gA (hs_step hx))
      have G := Lib.hid (And.intro gB lw)
      clear gA gB lw hx
      go_wp2_with fail
      refine C.out.mono ?_
      rintro e w3 ⟨rfl, st, gA⟩
      obtain ⟨gB, lw⟩ := G.out
      have J := Lib.hid (And.intro gA (And.intro (gB.step st (by decide)) (lw.step st (by decide))))
      clear gA gB lw st C G hcell
      go_wp2
      go_roundw
      case rel => exact ⟨i + 1, by simp, by omega, J.out.1, J.out.2.1, J.out.2.2⟩
      case measure => simp [intOf]; omega
    · obtain rfl : i = n := by omega
      rw [List.take_of_length_le (by have := hn.out; omega)] at gA
      have F := Lib.hid (And.intro gA (And.intro gB lw))
      clear gA gB lw
      go_wp2
      go_loopw [12] (fun st wr => ∃ (j : Nat), st = .int .i64 (j : Int) ∧ j ≤ n2 ∧ Rg o 1 wr a m (hs m (l ++ l2.take j)) ∧ Rg o 2 wr b m (hs m (l2.take j)) ∧ Lw w o wr) (fun st _ => n2 - (intOf st).toNat)
      case atStart => exact ⟨0, rfl, by omega, by simpa using F.out.1, by simpa [hs] using F.out.2.1, F.out.2.2⟩
      case round =>
        obtain ⟨j, rfl, hj, gA, gB, lw⟩ := hrel
        clear F
        rcases Nat.lt_or_ge j n2 with hlt | hge
        · obtain ⟨x, hx⟩ : ∃ x, l2[j]? = some x := ⟨_, List.getElem?_eq_getElem (by have := hn2.out; omega)⟩
          obtain ⟨B, off, rfl, hcell⟩ := hrd2.out.at_ lw.below hx
          have C := Lib.hid (radd_any x _ gA (hs_behind l hx))
          have G := Lib.hid (And.intro gB (And.intro lw hx))
          clear gA gB lw hx
          go_wp2_with fail
          refine C.out.mono ?_
          rintro e w3 ⟨rfl, st, gA⟩
          obtain ⟨gB, lw, hx⟩ := G.out
          have lw3 := lw.step st (by decide)
          obtain ⟨B', off', hBB, hcell3⟩ := hrd2.out.at_ lw3.below hx
          cases hBB
          have C2 := Lib.hid (radd_any x _ (gB.step st (by decide)) (hs_step hx))
          have J := Lib.hid (And.intro gA lw3)
          clear gA gB lw lw3 st C G hx hcell
          go_wp2_with fail
          refine C2.out.mono ?_
          rintro e w4 ⟨rfl, st, gB⟩
          have M := Lib.hid (And.intro (J.out.1.step st (by decide)) (And.intro gB (J.out.2.step st (by decide))))
          clear gB st J C2 hcell3
          go_wp2
          go_roundw
          case rel => exact ⟨j + 1, by simp, by omega, M.out.1, M.out.2.1, M.out.2.2⟩
          case measure => simp [intOf]; omega
        · obtain rfl : j = n2 := by omega
          rw [List.take_of_length_le (by have := hn2.out; omega)] at gA gB
          have hml : m ≤ l2.length := by have := hn2.out; have := K.out.2.2.1; omega
          have hlen := hs_len l2 hml
          rw [hs_last l l2 hml] at gA
          generalize hs m l2 = hh at *
          have cA1 := Lib.hid (rbits gA)
          have cA2 := Lib.hid (ryes gA)
          have cA3 := Lib.hid (rlen gA)
          have cB1 := Lib.hid (rbits gB)
          have cB2 := Lib.hid (ryes gB)
          have cB3 := Lib.hid (rlen gB)
          rw [hlen] at cA3 cB3
          replace lw := Lib.hid lw.below
          generalize wd hh = W at *
          generalize yes hh = Y at *
          clear gA gB hlen hml hge hi hj K
          go_wp2_with fail
          refine cA1.out.mono ?_
          rintro e w5 ⟨rfl, rfl⟩
          go_wp2_with fail
          refine cB1.out.mono ?_
          rintro e w5 ⟨rfl, rfl⟩
          have q1 : ((W : Int) == (W : Int)) = true := by simp
          go_wp2_with fail
          refine cA2.out.mono ?_
          rintro e w5 ⟨rfl, rfl⟩
          go_wp2_with fail
          refine cB2.out.mono ?_
          rintro e w5 ⟨rfl, rfl⟩
          have q2 : ((Y : Int) == (Y : Int)) = true := by simp
          go_wp2_with fail
          refine cA3.out.mono ?_
          rintro e w5 ⟨rfl, rfl⟩
          have q3 : ((m : Int) == (m : Int)) = true := by simp
          go_wp2_with fail
          refine cB3.out.mono ?_
          rintro e w5 ⟨rfl, rfl⟩
          go_wp2
          go_ret
          exact ⟨rfl, lw.out⟩
end Go.Proofs.Ytkajiogllcopbaa
