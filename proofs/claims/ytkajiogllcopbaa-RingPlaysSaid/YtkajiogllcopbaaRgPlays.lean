/- RingPlays: how many, all bits, each one, are as the document says. -/
import Derived.Test.YtkajiogllcopbaaRgRadd
namespace Go.Proofs.Ytkajiogllcopbaa
open Go.RowKit
set_option linter.unusedVariables false
set_option linter.unusedSimpArgs false

theorem Ret.quiet {P : Program} {f : FuncId} {args : Array Value} {w : World} {n : Nat} {v : Value} (h : Calls P f args (w.drewN n) (Ret v (w.drewN n))) :
    Calls P f args (w.drewN n) fun e w'' => e = .returned v ∧ ∃ m, w'' = w.drewN m := Calls.quiet_of h
theorem ret_of {P : Program} {f : FuncId} {args : Array Value} {w : World} {v : Value} (h : Calls P f args w fun e w' => e = .returned v ∧ w' = w) : Calls P f args w (Ret v w) :=
  h.mono fun e w' ⟨h1, h2⟩ => ⟨h1, 0, h2⟩
theorem rev_next (n : Nat) (h : List Bool) (x : Bool) (hl : h.length ≤ n) : (h.reverse ++ [x]).drop (h.reverse.length + 1 - n) = (radd n h x).reverse := by
  unfold radd
  rw [List.reverse_take, List.reverse_cons, List.length_cons, List.length_reverse]
theorem yes_rev (h : List Bool) : yes h.reverse = yes h := by unfold yes; exact List.count_reverse
set_option maxHeartbeats 6400000 in
set_option maxRecDepth 100000 in
theorem RingPlays_ret (size : Int) (A : Option Addr) (c : Nat) (l : List Bool) (back : Int) (w : World) (h1 : fitB size = true) (hlc : l.length ≤ c) (hc : c ≤ 9223372036854775807) (hrd : RdB w A l) (h2 : fitB back = true) :
    Calls Try.prog 4 #[.int .i64 size, .slice A l.length c, .int .i64 back] w (RetB (.bool true) w) := by
  have A0 := Lib.hid awake_any
  have hat := fit_iff h1
  clear h1 h2
  replace hrd := Lib.hid hrd
  obtain ⟨n, hn⟩ : ∃ n : Nat, l.length = n := ⟨_, rfl⟩
  rw [hn] at hlc ⊢
  replace hn := Lib.hid hn
  go_enter Try.func4, Try.ntmps4
  go_wp2_with fail
  refine (A0.out _).mono ?_; rintro e b0w ⟨rfl, b0⟩
  by_cases k1 : size < 1
  · go_wp2_with fail
    refine (rnew_bad _ size (.inl k1)).mono ?_
    rintro e w1 ⟨rfl, rfl⟩
    go_wp2
    go_ret
    exact ⟨rfl, by have s0 := b0.size; (try simp only [World.heap_drewN, World.size_alloc] at s0); repeat (first | exact Below.refl _ _ | exact b0 | refine Below.trans ?_ (Below.mono b0 (by first | omega | (simp; done) | (simp; omega))) | refine Below.setCell ?_ (by first | omega | (simp; done) | (simp; omega)) _ | refine below_dN ?_ _ | refine Below.drew ?_ | refine Below.alloc ?_ (by first | omega | (simp; done) | (simp; omega)) _)⟩
  have k1' : decide (size < 1) = false := decide_eq_false k1
  by_cases k2 : size > 64
  · go_wp2_with fail
    refine (rnew_bad _ size (.inr k2)).mono ?_
    rintro e w1 ⟨rfl, rfl⟩
    go_wp2
    go_ret
    exact ⟨rfl, by have s0 := b0.size; (try simp only [World.heap_drewN, World.size_alloc] at s0); repeat (first | exact Below.refl _ _ | exact b0 | refine Below.trans ?_ (Below.mono b0 (by first | omega | (simp; done) | (simp; omega))) | refine Below.setCell ?_ (by first | omega | (simp; done) | (simp; omega)) _ | refine below_dN ?_ _ | refine Below.drew ?_ | refine Below.alloc ?_ (by first | omega | (simp; done) | (simp; omega)) _)⟩
  have k2' : decide (size > 64) = false := decide_eq_false k2
  obtain ⟨m, rfl⟩ := Int.eq_ofNat_of_zero_le (a := size) (by omega)
  have m1 : 1 ≤ m := by omega
  have m2 : m ≤ 64 := by omega
  go_wp2_with fail
  refine (rnew (fun _ => 0) 1 _ m m1 m2).mono ?_
  rintro e w1 ⟨rfl, o1, s1, g1⟩
  have lw1 := ((Lw.start w).on b0).step s1 (by decide)
  clear b0 s1
  generalize b0w.heap.size = a at *
  by_cases k3 : (n : Int) > 150
  · replace lw1 := Lib.hid lw1.below
    clear g1
    go_wp2
    go_ret
    exact ⟨rfl, lw1.out⟩
  have k3' : decide ((n : Int) > 150) = false := decide_eq_false k3
  have g2 := g1.alloc (.cells #[.int .i64 (m : Int), .slice none 0 0] 36) 2
  have lw2 := lw1.alloc (.cells #[.int .i64 (m : Int), .slice none 0 0] 36) 2
  have r2 : Rf (tag o1 w1.heap.size 2) 2 (w1.alloc (.cells #[.int .i64 (m : Int), .slice none 0 0] 36)) w1.heap.size m none 0 [] := ⟨Blk.made o1 2 w1 _ _, Nat.le_refl _, by decide, .inl ⟨rfl, rfl, rfl⟩⟩
  have F := Lib.hid (And.intro g2 (And.intro r2 lw2))
  clear g1 g2 r2 lw1 lw2
  go_wp2
  clear k1 k1' k2 k2' k3' hat
  generalize w1.alloc (.cells #[.int .i64 (m : Int), .slice none 0 0] 36) = w2 at *
  generalize tag o1 w1.heap.size 2 = o2 at *
  generalize w1.heap.size = b at *
  go_loopw [10] (fun st wr => ∃ (i : Nat) (o : Nat → Nat) (B : Option Addr) (cap : Nat), st = .int .i64 (i : Int) ∧ i ≤ n ∧ Rg o 1 wr a m (hs m (l.take i)) ∧ Rf o 2 wr b m B cap (hs m (l.take i)).reverse ∧ Lw w o wr) (fun st _ => n - (intOf st).toNat)
  case atStart => exact ⟨0, o2, none, 0, rfl, by omega, by simpa [hs] using F.out.1, by simpa [hs] using F.out.2.1, F.out.2.2⟩
  case round =>
    obtain ⟨i, o, B, cap, rfl, hi, gA, gB, lw⟩ := hrel
    clear F
    rcases Nat.lt_or_ge i n with hlt | hge
    · obtain ⟨x, hx⟩ : ∃ x, l[i]? = some x := ⟨_, List.getElem?_eq_getElem (by have := hn.out; omega)⟩
      obtain ⟨b', off', rfl, hcell⟩ := hrd.out.at_ lw.below hx
      have hrv := rev_next m _ x gA.le
      have C := Lib.hid (radd_any x _ gA rfl)
      have hsx : radd m (hs m (l.take i)) x = hs m (l.take (i + 1)) := hs_step hx
      have hle0 : (hs m (l.take i)).reverse.length ≤ m := by rw [List.length_reverse]; exact gA.le
      rw [hsx] at C hrv
      have HX := Lib.hid hx
      have G := Lib.hid (And.intro gB (And.intro lw (And.intro hle0 hrv)))
      generalize hh : hs m (l.take (i + 1)) = h at *
      replace hh := Lib.hid hh
      clear gA gB lw hx hsx hle0 hrv
      go_wp2_with fail
      refine C.out.mono ?_
      rintro e w3 ⟨rfl, st, gA⟩
      obtain ⟨gB, lw, hle0, hrv⟩ := G.out
      have lw3 := lw.step st (by decide)
      obtain ⟨b2, off2, hBB, hcell3⟩ := hrd.out.at_ lw3.below HX.out
      cases hBB
      have C2 := Lib.hid (rfadd x _ (gB.step st (by decide)) hle0 m1 m2 hrv)
      have J := Lib.hid (And.intro gA lw3)
      clear gA gB lw lw3 st C G hcell hle0 hrv
      go_wp2_with fail
      refine C2.out.mono ?_
      rintro e w4 ⟨rfl, o4, A4, c4, st, gB⟩
      have gA := J.out.1.step st (by decide)
      have lw4 := J.out.2.step st (by decide)
      clear C2 J st hcell3
      obtain ⟨v, hv⟩ : ∃ v, atV h back = v := ⟨_, rfl⟩
      obtain ⟨r, hr⟩ : ∃ r, atB h back = r := ⟨_, rfl⟩
      have hl1 : h.length ≤ 64 := Nat.le_trans gA.le gA.hi
      have hl2 : h.reverse.length ≤ 64 := by rw [List.length_reverse]; exact hl1
      have C1 := Lib.hid (rat back v r gA hv hr)
      have C2 := Lib.hid (rfat back v r gB hl2 (by rw [List.reverse_reverse]; exact hv) (by rw [List.reverse_reverse]; exact hr))
      have M := Lib.hid (And.intro gA (And.intro gB lw4))
      clear gA gB lw4 hv hr
      go_wp2_with fail
      refine C1.out.mono ?_
      rintro e w5 ⟨rfl, rfl⟩
      go_wp2_with fail
      refine C2.out.mono ?_
      rintro e w6 ⟨rfl, n6, rfl⟩
      obtain ⟨gA, gB, lw4⟩ := M.out
      replace gA := gA.drewN n6
      replace gB := gB.drewN n6
      replace lw4 := lw4.drewN n6
      generalize w5.drewN n6 = w6 at *
      clear C1 C2 M
      have K1 := Lib.hid (fun (k : Nat) => ret_of (ryes (gA.drewN k)))
      have K2 := Lib.hid (fun (k : Nat) => ret_of (rfyes (gB.drewN k) hl2))
      have K3 := Lib.hid (fun (k : Nat) => ret_of (rlen (gA.drewN k)))
      have K4 := Lib.hid (fun (k : Nat) => ret_of (rbits (gA.drewN k)))
      have K5 := Lib.hid (fun (k : Nat) => ret_of (rfbits (gB.drewN k) hl2))
      rw [yes_rev] at K2
      rw [List.reverse_reverse] at K5
      have c1 : w6.cell? ⟨b, 1, none⟩ = some (.slice A4 h.length c4) := by have := gB.c1; rwa [List.length_reverse] at this
      have hc4 : h.length ≤ c4 := by have := gB.lc; rwa [List.length_reverse] at this
      have hc5 := gB.cm
      have M := Lib.hid (fun (k : Nat) => And.intro (gA.drewN k) (And.intro (gB.drewN k) (lw4.drewN k)))
      clear gA gB lw4 hl2
      generalize wd h = W at *
      generalize yes h = Y at *
      generalize h.length = N at *
      have q1 : ((Y : Int) != (Y : Int)) = false := by simp
      have q2 : ((N : Int) != (N : Int)) = false := by simp
      have q3 : ((W : Int) != (W : Int)) = false := by simp
      have q4 : (v != v) = false := by simp
      have q5 : (r != r) = false := by simp
      go_wp2_with fail
      go_quiet (first
        | (go_at_call 12; refine Ret.quiet (K1.out _))
        | (go_at_call 16; refine Ret.quiet (K2.out _))
        | (go_at_call 13; refine Ret.quiet (K3.out _))
        | (go_at_call 10; refine Ret.quiet (K4.out _))
        | (go_at_call 17; refine Ret.quiet (K5.out _)))
      go_wp2
      go_roundw
      case rel => exact ⟨i + 1, o4, A4, c4, by simp, by omega, by rw [hh.out]; exact (M.out _).1, by rw [hh.out]; exact (M.out _).2.1, (M.out _).2.2⟩
      case measure => simp [intOf]; omega
    · obtain rfl : i = n := by omega
      replace lw := Lib.hid lw.below
      clear gA gB
      go_wp2
      go_ret
      exact ⟨rfl, lw.out⟩
end Go.Proofs.Ytkajiogllcopbaa
