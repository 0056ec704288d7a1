/- CleanWithin, CleanPlays. -/
import Derived.Test.YtipnnjhbhkohnaaClLaws
import Derived.Test.YtipnnjhbhkohnaaBools
import Derived.Test.YtipnnjhbhkohnaaRegT
import Derived.Deep.RegionHeld3
namespace Go.Proofs.Ytipnnjhbhkohnaa
open Go.RowKit
set_option linter.unusedVariables false
set_option linter.unusedSimpArgs false

set_option maxHeartbeats 6400000 in
theorem CleanWithin_ret (b a c at_ : Int) (w : World) (f1 : fitB b = true) (f2 : fitB a = true) (f3 : fitB c = true) (f4 : fitB at_ = true) :
    Calls Try.prog 5 #[.int .i64 b, .int .i64 a, .int .i64 c, .int .i64 at_] w (RetB (.bool true) w) := by
  have A0 := Lib.hid (awake17_any w)
  clear f1 f2 f3 f4
  go_enter Try.func5, Try.ntmps5
  go_wp2_with fail
  refine (A0.out).mono ?_; rintro e b0w ⟨rfl, b0⟩
  by_cases k1 : b < 1
  · go_wp2
    go_ret
    exact ⟨rfl, by have s0 := b0.size; (try simp only [World.heap_drewN, World.size_alloc] at s0); repeat (first | exact Below.refl _ _ | exact b0 | refine Below.trans ?_ (Below.mono b0 (by first | omega | (simp; done) | (simp; omega))) | refine Below.setCell ?_ (by first | omega | (simp; done) | (simp; omega)) _ | refine below_dN ?_ _ | refine Below.drew ?_ | refine Below.alloc ?_ (by first | omega | (simp; done) | (simp; omega)) _)⟩
  have k1' : decide (b < 1) = false := decide_eq_false k1
  by_cases k2 : b > 1000
  · go_wp2
    go_ret
    exact ⟨rfl, by have s0 := b0.size; (try simp only [World.heap_drewN, World.size_alloc] at s0); repeat (first | exact Below.refl _ _ | exact b0 | refine Below.trans ?_ (Below.mono b0 (by first | omega | (simp; done) | (simp; omega))) | refine Below.setCell ?_ (by first | omega | (simp; done) | (simp; omega)) _ | refine below_dN ?_ _ | refine Below.drew ?_ | refine Below.alloc ?_ (by first | omega | (simp; done) | (simp; omega)) _)⟩
  have k2' : decide (b > 1000) = false := decide_eq_false k2
  by_cases k3 : a < 1
  · go_wp2
    go_ret
    exact ⟨rfl, by have s0 := b0.size; (try simp only [World.heap_drewN, World.size_alloc] at s0); repeat (first | exact Below.refl _ _ | exact b0 | refine Below.trans ?_ (Below.mono b0 (by first | omega | (simp; done) | (simp; omega))) | refine Below.setCell ?_ (by first | omega | (simp; done) | (simp; omega)) _ | refine below_dN ?_ _ | refine Below.drew ?_ | refine Below.alloc ?_ (by first | omega | (simp; done) | (simp; omega)) _)⟩
  have k3' : decide (a < 1) = false := decide_eq_false k3
  by_cases k4 : a > 1000
  · go_wp2
    go_ret
    exact ⟨rfl, by have s0 := b0.size; (try simp only [World.heap_drewN, World.size_alloc] at s0); repeat (first | exact Below.refl _ _ | exact b0 | refine Below.trans ?_ (Below.mono b0 (by first | omega | (simp; done) | (simp; omega))) | refine Below.setCell ?_ (by first | omega | (simp; done) | (simp; omega)) _ | refine below_dN ?_ _ | refine Below.drew ?_ | refine Below.alloc ?_ (by first | omega | (simp; done) | (simp; omega)) _)⟩
  have k4' : decide (a > 1000) = false := decide_eq_false k4
  by_cases k5 : c < 0
  · go_wp2
    go_ret
    exact ⟨rfl, by have s0 := b0.size; (try simp only [World.heap_drewN, World.size_alloc] at s0); repeat (first | exact Below.refl _ _ | exact b0 | refine Below.trans ?_ (Below.mono b0 (by first | omega | (simp; done) | (simp; omega))) | refine Below.setCell ?_ (by first | omega | (simp; done) | (simp; omega)) _ | refine below_dN ?_ _ | refine Below.drew ?_ | refine Below.alloc ?_ (by first | omega | (simp; done) | (simp; omega)) _)⟩
  have k5' : decide (c < 0) = false := decide_eq_false k5
  by_cases k6 : c > 100
  · go_wp2
    go_ret
    exact ⟨rfl, by have s0 := b0.size; (try simp only [World.heap_drewN, World.size_alloc] at s0); repeat (first | exact Below.refl _ _ | exact b0 | refine Below.trans ?_ (Below.mono b0 (by first | omega | (simp; done) | (simp; omega))) | refine Below.setCell ?_ (by first | omega | (simp; done) | (simp; omega)) _ | refine below_dN ?_ _ | refine Below.drew ?_ | refine Below.alloc ?_ (by first | omega | (simp; done) | (simp; omega)) _)⟩
  have k6' : decide (c > 100) = false := decide_eq_false k6
  obtain ⟨b, rfl⟩ : ∃ n : Nat, b = n := ⟨b.toNat, by omega⟩
  obtain ⟨a, rfl⟩ : ∃ n : Nat, a = n := ⟨a.toNat, by omega⟩
  obtain ⟨c, rfl⟩ : ∃ n : Nat, c = n := ⟨c.toNat, by omega⟩
  have hok : (Lf.new b a c).Ok := Lf.new_ok (by omega) (by omega) (by omega) (by omega) (by omega)
  obtain ⟨M, hM⟩ : ∃ M, (Lf.new b a c).charge = M := ⟨_, rfl⟩
  have hMl : M ≤ 1100 := by
    rw [← hM]; unfold Lf.charge Lf.new; simp only [if_true]; omega
  go_wp2_with fail
  refine (cnew (fun _ => 0) 1 _ b a c (by omega) (by omega) (by omega) (by omega) (by omega)).mono ?_
  rintro e w1 ⟨p, rfl, o1, st1, h1⟩
  have F : Hid (CfAt 39 o1 1 w1 p (Lf.new b a c) ∧ Lw w o1 w1) := ⟨h1, ((Lw.start w).on b0).step st1 (by decide)⟩
  clear h1 st1 b0
  go_wp2_with fail
  refine (ccharge M F.out.1 hok hM).mono ?_
  rintro e w2 ⟨rfl, n2, rfl⟩
  replace F := Lib.hid (And.intro (F.out.1.drewN n2) (F.out.2.drewN n2))
  generalize w1.drewN n2 = w2 at *
  replace hM := Lib.hid hM
  replace hok := Lib.hid hok
  clear k1 k2 k3 k4 k5 k6
  go_wp2
  go_loopw [12] (fun s12 wr => ∃ (n : Nat) (y : Lf), s12 = .int .i64 (n : Int) ∧ n ≤ M ∧ Hid (CfAt 39 o1 1 wr p y ∧ Lw w o1 wr ∧ y.Ok ∧ y.ran + y.cl = n ∧ n + y.charge ≤ M ∧ y.a = a)) (fun st _ => M - (intOf st).toNat)
  case atStart => exact ⟨0, Lf.new b a c, rfl, by omega, Lib.hid ⟨F.out.1, F.out.2, hok.out, rfl, by rw [hM.out]; omega, rfl⟩⟩
  case round =>
    obtain ⟨n, y, rfl, hn, G⟩ := hrel
    clear F
    have z1 : (n : Int) ≤ (M : Int) := by omega
    by_cases hat : (n : Int) = at_
    · as_aux_lemma =>
        have z2 : ((n : Int) == at_) = true := by simp [hat]
        have hq := Lf.charge_abo G.out.2.2.1
        have hsm := Lf.same_abo y
        have C0 := Lib.hid (fun (w' : World) (h' : CfAt 39 o1 1 w' p y) => cabort y.aboE y.abo h' rfl rfl)
        have G1 := Lib.hid (And.intro (Lf.ok_abo G.out.2.2.1) (And.intro (hq.1.trans G.out.2.2.2.1) (And.intro (show n + y.abo.charge ≤ M from by have := G.out.2.2.2.2.1; omega) (hsm.2.1.trans G.out.2.2.2.2.2))))
        have K := Lib.hid (And.intro G.out.1 G.out.2.1)
        generalize y.aboE = ae at C0
        generalize y.abo = z at *
        clear G hq hsm hat
        go_wp2_with fail
        refine (C0.out _ K.out.1).mono ?_
        rintro e w3 ⟨rfl, st3, h3⟩
        have G := Lib.hid (And.intro h3 (And.intro (K.out.2.step st3 (by decide)) G1.out))
        clear C0 K G1 st3 h3
        obtain ⟨y, hyz⟩ : ∃ y, y = z := ⟨_, rfl⟩
        subst hyz
        by_cases hs : y.st ≤ 1
        · have hc := Lf.charge_run G.out.2.2.1 hs
          have hsm := Lf.same_run y
          have C1 := Lib.hid (fun (w' : World) (h' : CfAt 39 o1 1 w' p y) => crun true y.run h' G.out.2.2.1 (decide_eq_true hs) rfl)
          have hrc : y.run.ran + y.run.cl = n + 1 := by have := G.out.2.2.2.1; omega
          have hcm : n + 1 + y.run.charge ≤ M := by have := G.out.2.2.2.1; have := G.out.2.2.2.2.1; omega
          have hn1 : n + 1 ≤ M := by omega
          have G1 := Lib.hid (And.intro (Lf.ok_run G.out.2.2.1) (And.intro hrc (And.intro hcm (hsm.2.1.trans G.out.2.2.2.2.2))))
          have K := Lib.hid (And.intro G.out.1 G.out.2.1)
          clear G hc hsm hs hrc hcm
          go_wp2_with fail
          refine (C1.out _ K.out.1).mono ?_
          rintro e w4 ⟨rfl, st4, h4⟩
          have K4 := Lib.hid (And.intro h4 (K.out.2.step st4 (by decide)))
          clear C1 K st4 h4
          go_wp2
          go_roundw
          case rel => exact ⟨n + 1, y.run, by simp, hn1, Lib.hid ⟨K4.out.1, K4.out.2, G1.out⟩⟩
          case measure => simp [intOf]; omega
        · have hrun : y.run = y := by unfold Lf.run; rw [if_neg (by omega), if_neg (by omega)]
          have C1 := Lib.hid (fun (w' : World) (h' : CfAt 39 o1 1 w' p y) => crun false y.run h' G.out.2.2.1 (decide_eq_false hs) rfl)
          rw [hrun] at C1
          have C2 := Lib.hid (fun (w' : World) (h' : CfAt 39 o1 1 w' p y) => cused h')
          have C3 := Lib.hid (fun (w' : World) (h' : CfAt 39 o1 1 w' p y) => cstage h')
          have hy := G.out.2.2.1
          have h4 := hy.st
          have hra : y.ran ≤ 1000 ∧ y.cl ≤ 100 ∧ 2 ≤ y.st ∧ ((((y.st : Int) == 2) = true ∧ ((y.ran : Int) == (a : Int)) = true) ∨ (((y.st : Int) == 2) = false ∧ ((y.ran : Int) == (a : Int)) = false)) := by
            have ea := G.out.2.2.2.2.2
            have b1 := hy.b2
            have b3 := hy.c2
            rcases (by omega : y.st = 2 ∨ y.st = 3) with e | e
            · obtain ⟨d1, d2, d3⟩ := hy.don e
              exact ⟨by omega, by omega, by omega, .inl ⟨by rw [e]; decide, by simp; omega⟩⟩
            · obtain ⟨d1, d2, d3, d4⟩ := hy.gon e
              exact ⟨by omega, by omega, by omega, .inr ⟨by rw [e]; decide, by simp; omega⟩⟩
          have hsum := G.out.2.2.2.1
          obtain ⟨S, hS⟩ : ∃ S : Int, (y.st : Int) = S := ⟨_, rfl⟩
          obtain ⟨R, hR⟩ : ∃ R : Int, (y.ran : Int) = R := ⟨_, rfl⟩
          obtain ⟨Q, hQ⟩ : ∃ Q : Int, (y.cl : Int) = Q := ⟨_, rfl⟩
          rw [hS] at C3 hra
          rw [hR] at hra
          rw [hR, hQ] at C2
          obtain ⟨hr1, hr2, hr3, hr4⟩ := hra
          have e1 : wrap64 (R + Q) = (n : Int) := by unfold wrap64; omega
          have e2 : R + Q = (n : Int) := by omega
          have e3 : S ≥ 2 := by omega
          have e4 : ((n : Int) == (n : Int)) = true := by simp
          have K := Lib.hid (And.intro G.out.1 G.out.2.1)
          clear G hs hrun hy h4 hsum hS hR hQ hr1 hr2 hr3
          go_wp2_with fail
          refine (C1.out _ K.out.1).mono ?_
          rintro e w4 ⟨rfl, st4, h4⟩
          replace K := Lib.hid (And.intro h4 (K.out.2.step st4 (by decide)))
          clear C1 st4 h4
          go_wp2_with fail
          refine (C2.out _ K.out.1).mono ?_
          rintro e w5 ⟨rfl, n5, rfl⟩
          replace K := Lib.hid (And.intro (K.out.1.drewN n5) (K.out.2.drewN n5))
          generalize w4.drewN n5 = w5 at *
          go_wp2_with fail
          refine (C3.out _ K.out.1).mono ?_
          rintro e w6 ⟨rfl, n6, rfl⟩
          replace K := Lib.hid (And.intro (K.out.1.drewN n6) (K.out.2.drewN n6))
          generalize w5.drewN n6 = w6 at *
          go_wp2_with fail
          refine (C3.out _ K.out.1).mono ?_
          rintro e w6 ⟨rfl, n6, rfl⟩
          replace K := Lib.hid (And.intro (K.out.1.drewN n6) (K.out.2.drewN n6))
          generalize w6.drewN n6 = w6 at *
          clear C2 C3
          rcases hr4 with ⟨q1, q2⟩ | ⟨q1, q2⟩
          · go_wp2
            go_ret
            exact ⟨rfl, K.out.2.below⟩
          · go_wp2
            go_ret
            exact ⟨rfl, K.out.2.below⟩
    · as_aux_lemma =>
        have z2 : ((n : Int) == at_) = false := by simpa using hat
        clear hat
        obtain ⟨w3, hw3⟩ : ∃ v, v = wr := ⟨_, rfl⟩
        subst hw3
        by_cases hs : y.st ≤ 1
        · have hc := Lf.charge_run G.out.2.2.1 hs
          have hsm := Lf.same_run y
          have C1 := Lib.hid (fun (w' : World) (h' : CfAt 39 o1 1 w' p y) => crun true y.run h' G.out.2.2.1 (decide_eq_true hs) rfl)
          have hrc : y.run.ran + y.run.cl = n + 1 := by have := G.out.2.2.2.1; omega
          have hcm : n + 1 + y.run.charge ≤ M := by have := G.out.2.2.2.1; have := G.out.2.2.2.2.1; omega
          have hn1 : n + 1 ≤ M := by omega
          have G1 := Lib.hid (And.intro (Lf.ok_run G.out.2.2.1) (And.intro hrc (And.intro hcm (hsm.2.1.trans G.out.2.2.2.2.2))))
          have K := Lib.hid (And.intro G.out.1 G.out.2.1)
          clear G hc hsm hs hrc hcm
          go_wp2_with fail
          refine (C1.out _ K.out.1).mono ?_
          rintro e w4 ⟨rfl, st4, h4⟩
          have K4 := Lib.hid (And.intro h4 (K.out.2.step st4 (by decide)))
          clear C1 K st4 h4
          go_wp2
          go_roundw
          case rel => exact ⟨n + 1, y.run, by simp, hn1, Lib.hid ⟨K4.out.1, K4.out.2, G1.out⟩⟩
          case measure => simp [intOf]; omega
        · have hrun : y.run = y := by unfold Lf.run; rw [if_neg (by omega), if_neg (by omega)]
          have C1 := Lib.hid (fun (w' : World) (h' : CfAt 39 o1 1 w' p y) => crun false y.run h' G.out.2.2.1 (decide_eq_false hs) rfl)
          rw [hrun] at C1
          have C2 := Lib.hid (fun (w' : World) (h' : CfAt 39 o1 1 w' p y) => cused h')
          have C3 := Lib.hid (fun (w' : World) (h' : CfAt 39 o1 1 w' p y) => cstage h')
          have hy := G.out.2.2.1
          have h4 := hy.st
          have hra : y.ran ≤ 1000 ∧ y.cl ≤ 100 ∧ 2 ≤ y.st ∧ ((((y.st : Int) == 2) = true ∧ ((y.ran : Int) == (a : Int)) = true) ∨ (((y.st : Int) == 2) = false ∧ ((y.ran : Int) == (a : Int)) = false)) := by
            have ea := G.out.2.2.2.2.2
            have b1 := hy.b2
            have b3 := hy.c2
            rcases (by omega : y.st = 2 ∨ y.st = 3) with e | e
            · obtain ⟨d1, d2, d3⟩ := hy.don e
              exact ⟨by omega, by omega, by omega, .inl ⟨by rw [e]; decide, by simp; omega⟩⟩
            · obtain ⟨d1, d2, d3, d4⟩ := hy.gon e
              exact ⟨by omega, by omega, by omega, .inr ⟨by rw [e]; decide, by simp; omega⟩⟩
          have hsum := G.out.2.2.2.1
          obtain ⟨S, hS⟩ : ∃ S : Int, (y.st : Int) = S := ⟨_, rfl⟩
          obtain ⟨R, hR⟩ : ∃ R : Int, (y.ran : Int) = R := ⟨_, rfl⟩
          obtain ⟨Q, hQ⟩ : ∃ Q : Int, (y.cl : Int) = Q := ⟨_, rfl⟩
          rw [hS] at C3 hra
          rw [hR] at hra
          rw [hR, hQ] at C2
          obtain ⟨hr1, hr2, hr3, hr4⟩ := hra
          have e1 : wrap64 (R + Q) = (n : Int) := by unfold wrap64; omega
          have e2 : R + Q = (n : Int) := by omega
          have e3 : S ≥ 2 := by omega
          have e4 : ((n : Int) == (n : Int)) = true := by simp
          have K := Lib.hid (And.intro G.out.1 G.out.2.1)
          clear G hs hrun hy h4 hsum hS hR hQ hr1 hr2 hr3
          go_wp2_with fail
          refine (C1.out _ K.out.1).mono ?_
          rintro e w4 ⟨rfl, st4, h4⟩
          replace K := Lib.hid (And.intro h4 (K.out.2.step st4 (by decide)))
          clear C1 st4 h4
          go_wp2_with fail
          refine (C2.out _ K.out.1).mono ?_
          rintro e w5 ⟨rfl, n5, rfl⟩
          replace K := Lib.hid (And.intro (K.out.1.drewN n5) (K.out.2.drewN n5))
          generalize w4.drewN n5 = w5 at *
          go_wp2_with fail
          refine (C3.out _ K.out.1).mono ?_
          rintro e w6 ⟨rfl, n6, rfl⟩
          replace K := Lib.hid (And.intro (K.out.1.drewN n6) (K.out.2.drewN n6))
          generalize w5.drewN n6 = w6 at *
          go_wp2_with fail
          refine (C3.out _ K.out.1).mono ?_
          rintro e w6 ⟨rfl, n6, rfl⟩
          replace K := Lib.hid (And.intro (K.out.1.drewN n6) (K.out.2.drewN n6))
          generalize w6.drewN n6 = w6 at *
          clear C2 C3
          rcases hr4 with ⟨q1, q2⟩ | ⟨q1, q2⟩
          · go_wp2
            go_ret
            exact ⟨rfl, K.out.2.below⟩
          · go_wp2
            go_ret
            exact ⟨rfl, K.out.2.below⟩
/-- Both lives in one state; the law on its way. -/
structure Cp (w : World) (o : Nat → Nat) (W : World) (p q : Nat) (x : Lf) : Prop where
  g : CfAt 39 o 1 W p x
  r : LfAt 34 o 2 W q x
  ok : x.Ok
  lw : Lw w o W
section
variable {w W W' : World} {o o' : Nat → Nat} {p q : Nat} {x y : Lf}
theorem Cp.on (h : Cp w o W p q x) (hb : Below W.heap.size W W') : Cp w o W' p q x := ⟨h.g.below hb, h.r.below hb, h.ok, h.lw.on hb⟩
theorem Cp.drewN (h : Cp w o W p q x) (n : Nat) : Cp w o (W.drewN n) p q x := h.on (below_dN (Below.refl _ _) n)
theorem Cp.both {W1 W2 : World} (h : Cp w o W p q x) (st : Step o o 1 W W1) (h1 : CfAt 39 o 1 W1 p y) (st2 : Step o o 2 W1 W2) (h2 : LfAt 34 o 2 W2 q y) (hy : y.Ok) : Cp w o W2 p q y :=
  ⟨h1.step st2 (by decide), h2, hy, (h.lw.step st (by decide)).step st2 (by decide)⟩
end
set_option maxHeartbeats 12800000 in
set_option maxRecDepth 100000 in
theorem CleanPlays_ret (b a c : Int) (A : Option Addr) (cp : Nat) (l : List Bool) (w : World) (f1 : fitB b = true) (f2 : fitB a = true) (f3 : fitB c = true) (hlc : l.length ≤ cp) (hcm : cp ≤ 9223372036854775807) (hrd : RdB w A l) :
    Calls Try.prog 4 #[.int .i64 b, .int .i64 a, .int .i64 c, .slice A l.length cp] w (RetB (.bool true) w) := by
  have A0 := Lib.hid (awake17_any w)
  clear f1 f2 f3
  obtain ⟨N, hN⟩ : ∃ N : Nat, l.length = N := ⟨_, rfl⟩
  rw [hN] at hlc ⊢
  have Z := Lib.hid (And.intro hN hrd)
  clear hN hrd
  go_enter Try.func4, Try.ntmps4
  go_wp2_with fail
  refine (A0.out).mono ?_; rintro e b0w ⟨rfl, b0⟩
  by_cases hbad : b < 1 ∨ 1000 < b ∨ a < 1 ∨ 1000 < a ∨ c < 0 ∨ 100 < c
  · as_aux_lemma =>
      go_wp2_with fail
      refine (cnew_bad _ b a c hbad).mono ?_
      rintro e w1 ⟨rfl, rfl⟩
      by_cases k1 : b < 1
      · go_wp2
        go_ret
        exact ⟨rfl, by have s0 := b0.size; (try simp only [World.heap_drewN, World.size_alloc] at s0); repeat (first | exact Below.refl _ _ | exact b0 | refine Below.trans ?_ (Below.mono b0 (by first | omega | (simp; done) | (simp; omega))) | refine Below.setCell ?_ (by first | omega | (simp; done) | (simp; omega)) _ | refine below_dN ?_ _ | refine Below.drew ?_ | refine Below.alloc ?_ (by first | omega | (simp; done) | (simp; omega)) _)⟩
      have k1' : decide (b < 1) = false := decide_eq_false k1
      by_cases k2 : b > 1000
      · go_wp2
        go_ret
        exact ⟨rfl, by have s0 := b0.size; (try simp only [World.heap_drewN, World.size_alloc] at s0); repeat (first | exact Below.refl _ _ | exact b0 | refine Below.trans ?_ (Below.mono b0 (by first | omega | (simp; done) | (simp; omega))) | refine Below.setCell ?_ (by first | omega | (simp; done) | (simp; omega)) _ | refine below_dN ?_ _ | refine Below.drew ?_ | refine Below.alloc ?_ (by first | omega | (simp; done) | (simp; omega)) _)⟩
      have k2' : decide (b > 1000) = false := decide_eq_false k2
      by_cases k3 : a < 1
      · go_wp2
        go_ret
        exact ⟨rfl, by have s0 := b0.size; (try simp only [World.heap_drewN, World.size_alloc] at s0); repeat (first | exact Below.refl _ _ | exact b0 | refine Below.trans ?_ (Below.mono b0 (by first | omega | (simp; done) | (simp; omega))) | refine Below.setCell ?_ (by first | omega | (simp; done) | (simp; omega)) _ | refine below_dN ?_ _ | refine Below.drew ?_ | refine Below.alloc ?_ (by first | omega | (simp; done) | (simp; omega)) _)⟩
      have k3' : decide (a < 1) = false := decide_eq_false k3
      by_cases k4 : a > 1000
      · go_wp2
        go_ret
        exact ⟨rfl, by have s0 := b0.size; (try simp only [World.heap_drewN, World.size_alloc] at s0); repeat (first | exact Below.refl _ _ | exact b0 | refine Below.trans ?_ (Below.mono b0 (by first | omega | (simp; done) | (simp; omega))) | refine Below.setCell ?_ (by first | omega | (simp; done) | (simp; omega)) _ | refine below_dN ?_ _ | refine Below.drew ?_ | refine Below.alloc ?_ (by first | omega | (simp; done) | (simp; omega)) _)⟩
      have k4' : decide (a > 1000) = false := decide_eq_false k4
      by_cases k5 : c < 0
      · go_wp2
        go_ret
        exact ⟨rfl, by have s0 := b0.size; (try simp only [World.heap_drewN, World.size_alloc] at s0); repeat (first | exact Below.refl _ _ | exact b0 | refine Below.trans ?_ (Below.mono b0 (by first | omega | (simp; done) | (simp; omega))) | refine Below.setCell ?_ (by first | omega | (simp; done) | (simp; omega)) _ | refine below_dN ?_ _ | refine Below.drew ?_ | refine Below.alloc ?_ (by first | omega | (simp; done) | (simp; omega)) _)⟩
      have k5' : decide (c < 0) = false := decide_eq_false k5
      by_cases k6 : c > 100
      · go_wp2
        go_ret
        exact ⟨rfl, by have s0 := b0.size; (try simp only [World.heap_drewN, World.size_alloc] at s0); repeat (first | exact Below.refl _ _ | exact b0 | refine Below.trans ?_ (Below.mono b0 (by first | omega | (simp; done) | (simp; omega))) | refine Below.setCell ?_ (by first | omega | (simp; done) | (simp; omega)) _ | refine below_dN ?_ _ | refine Below.drew ?_ | refine Below.alloc ?_ (by first | omega | (simp; done) | (simp; omega)) _)⟩
      have k6' : decide (c > 100) = false := decide_eq_false k6
      omega
  obtain ⟨b, rfl⟩ : ∃ n : Nat, b = n := ⟨b.toNat, by omega⟩
  obtain ⟨a, rfl⟩ : ∃ n : Nat, a = n := ⟨a.toNat, by omega⟩
  obtain ⟨c, rfl⟩ : ∃ n : Nat, c = n := ⟨c.toNat, by omega⟩
  have k1 : decide ((b : Int) < 1) = false := decide_eq_false (by omega)
  have k2 : decide ((b : Int) > 1000) = false := decide_eq_false (by omega)
  have k3 : decide ((a : Int) < 1) = false := decide_eq_false (by omega)
  have k4 : decide ((a : Int) > 1000) = false := decide_eq_false (by omega)
  have k5 : decide ((c : Int) < 0) = false := decide_eq_false (by omega)
  have k6 : decide ((c : Int) > 100) = false := decide_eq_false (by omega)
  have hok : (Lf.new b a c).Ok := Lf.new_ok (by omega) (by omega) (by omega) (by omega) (by omega)
  go_wp2_with fail
  refine (cnew (fun _ => 0) 1 _ b a c (by omega) (by omega) (by omega) (by omega) (by omega)).mono ?_
  rintro e w1 ⟨p, rfl, o1, st1, h1⟩
  have l1 := ((Lw.start w).on b0).step st1 (by decide)
  clear hbad
  by_cases k7 : (N : Int) > 100
  · as_aux_lemma =>
      replace l1 := Lib.hid l1
      clear h1 st1 b0 hok
      go_wp2
      go_ret
      exact ⟨rfl, l1.out.below⟩
  have k7' : decide ((N : Int) > 100) = false := decide_eq_false k7
  have k9 : N ≤ 100 := by omega
  have P0 := Lib.hid (show Cp w (tag o1 w1.heap.size 2) (w1.alloc (.cells #[.int .i64 (b : Int), .int .i64 (a : Int), .int .i64 (c : Int), .int .i64 0, .int .i64 0, .int .i64 0] 34)) p w1.heap.size (Lf.new b a c) from
    ⟨h1.alloc _ 2, Blk.made o1 2 w1 _ _, hok, l1.alloc _ 2⟩)
  clear h1 st1 b0 l1 hok k7
  go_wp2
  generalize w1.heap.size = q at *
  generalize tag o1 q 2 = o2 at *
  generalize (w1.alloc (.cells #[.int .i64 (b : Int), .int .i64 (a : Int), .int .i64 (c : Int), .int .i64 0, .int .i64 0, .int .i64 0] 34)) = w2 at *
  go_loopw [12] (fun s12 wr => ∃ (i : Nat) (x : Lf), s12 = .int .i64 (i : Int) ∧ i ≤ N ∧ Hid (Cp w o2 wr p q x)) (fun st _ => N - (intOf st).toNat)
  case atStart => exact ⟨0, _, rfl, by omega, P0⟩
  case round =>
    obtain ⟨i, x, rfl, hi, P⟩ := hrel
    clear P0
    rcases Nat.lt_or_ge i N with hlt | hge
    · obtain ⟨v, hv⟩ : ∃ v, l[i]? = some v := ⟨_, List.getElem?_eq_getElem (by rw [Z.out.1]; exact hlt)⟩
      obtain ⟨bl, off, rfl, dw⟩ := Z.out.2.at_ (Below.refl _ _) hv
      have qb : bl < w.heap.size := World.block_lt_of_cell? _ _ dw
      have DR : Hid (∀ W, Below w.heap.size w W → W.cell? ⟨bl, off + i, none⟩ = some (.bool v)) := fun W hb => (hb.cell (p := ⟨bl, _, none⟩) qb).trans dw
      have d0 := DR.out wr P.out.lw.below
      clear dw qb
      have z1 : (i : Int) < (N : Int) := by omega
      have z2 : (0 : Int) ≤ (i : Int) := by omega
      clear hv
      cases v with
      | true =>
        as_aux_lemma =>
          obtain ⟨y, hy⟩ : ∃ y, x.run = y := ⟨_, rfl⟩
          obtain ⟨r, hr⟩ : ∃ r, x.runB = r := ⟨_, rfl⟩
          have C1 := Lib.hid (crun r y P.out.g P.out.ok hr hy)
          have C2 := Lib.hid (fun (w' : World) (h' : LfAt 34 o2 2 w' q x) => drun r y h' P.out.ok hr hy)
          have hyk := Lib.hid (hy ▸ Lf.ok_run P.out.ok)
          have y0 : (r != r) = false := by simp
          clear hy hr
          go_wp2_with fail
          refine C1.out.mono ?_
          rintro e w3 ⟨rfl, st3, h3⟩
          replace C2 := Lib.hid (C2.out _ (P.out.r.step st3 (by decide)))
          have S3 := Lib.hid (And.intro st3 h3)
          clear C1 st3 h3
          go_wp2_with fail
          refine C2.out.mono ?_
          rintro e w4 ⟨rfl, st4, h4⟩
          have Q := Lib.hid (P.out.both S3.out.1 S3.out.2 st4 h4 hyk.out)
          clear C2 st4 h4 S3 P hyk d0
          have d4 := DR.out w4 Q.out.lw.below
          go_wp2_with fail
          refine (cused Q.out.g).mono ?_
          rintro e w5 ⟨rfl, n5, rfl⟩
          replace Q := Lib.hid (Q.out.drewN n5)
          clear d4 DR
          generalize w4.drewN n5 = w5 at *
          go_wp2
          obtain ⟨L, hL⟩ : ∃ L, y.left = L := ⟨_, rfl⟩
          obtain ⟨H, hH⟩ : ∃ H, y.charge = H := ⟨_, rfl⟩
          obtain ⟨S, hS⟩ : ∃ S : Int, (y.st : Int) = S := ⟨_, rfl⟩
          obtain ⟨R, hR⟩ : ∃ R : Int, (y.ran : Int) = R := ⟨_, rfl⟩
          obtain ⟨Q2, hQ2⟩ : ∃ Q2 : Int, (y.cl : Int) = Q2 := ⟨_, rfl⟩
          have D1 := Lib.hid (fun (w' : World) (h' : Cp w o2 w' p q y) => (show Calls Try.prog 14 #[.pointer (some ⟨p, 0, none⟩)] w' (Ret (.int .i64 S) w') from hS ▸ cstage h'.g))
          have D2 := Lib.hid (fun (w' : World) (h' : Cp w o2 w' p q y) => cleft L h'.g h'.ok hL)
          have D3 := Lib.hid (fun (w' : World) (h' : Cp w o2 w' p q y) => dleft L h'.r h'.ok hL)
          have D4 := Lib.hid (fun (w' : World) (h' : Cp w o2 w' p q y) => ccharge H h'.g h'.ok hH)
          have D5 := Lib.hid (fun (w' : World) (h' : Cp w o2 w' p q y) => dcharge H h'.r h'.ok hH)
          have KS : Hid (∀ W, Cp w o2 W p q y → W.cell? ⟨q, 5, none⟩ = some (.int .i64 S) ∧ W.cell? ⟨q, 3, none⟩ = some (.int .i64 R) ∧ W.cell? ⟨q, 4, none⟩ = some (.int .i64 Q2)) := fun W h => by
            obtain ⟨_, _, _, e3, e4, e5⟩ := six_cells h.r
            rw [hS] at e5; rw [hR] at e3; rw [hQ2] at e4; exact ⟨e5, e3, e4⟩
          rw [hR, hQ2]
          have y1 : (S != S) = false := by simp
          have y2 : ((L : Int) != (L : Int)) = false := by simp
          have y3 : ((H : Int) != (H : Int)) = false := by simp
          have y4 : (R != R) = false := by simp
          have y5 : (Q2 != Q2) = false := by simp
          replace Q := Lib.hid (show Cp w o2 w5.drew p q y from Q.out.drewN 1)
          have K5 := KS.out w5.drew Q.out
          clear hL hH hS hR hQ2 y0
          refine wp_region_held_drew (S := fun W => W.cell? ⟨q, 5, none⟩ = some (.int .i64 S) ∧ W.cell? ⟨q, 3, none⟩ = some (.int .i64 R) ∧ W.cell? ⟨q, 4, none⟩ = some (.int .i64 Q2)) (by kernel_rfl) K5 (fun hHeld => ?_)
          generalize w5.drew = w5d at *
          refine wpAnyH_take (i := 0) (v := (.pointer (some ⟨p, 0, none⟩))) rfl (by kernel_rfl) (by kernel_rfl) (by kernel_rfl) (fun _ _ _ h => h) (Or.inl ⟨by rfl, ?_⟩) hHeld ?_
          · intro w hSw; go_simp
          try simp only [List.getElem_toArray, List.getElem_cons_zero, List.getElem_cons_succ, Act.put, List.setIfInBounds_toArray, List.set_cons_zero, List.set_cons_succ]
          refine wpAnyH_take (i := 2) (v := (.pointer (some ⟨q, 0, none⟩))) rfl (by kernel_rfl) (by kernel_rfl) (by kernel_rfl) (fun _ _ _ h => h) (Or.inl ⟨by rfl, ?_⟩) hHeld ?_
          · intro w hSw; go_simp
          try simp only [List.getElem_toArray, List.getElem_cons_zero, List.getElem_cons_succ, Act.put, List.setIfInBounds_toArray, List.set_cons_zero, List.set_cons_succ]
          refine wpAnyH_take (i := 3) (v := (.pointer (some ⟨q, 0, none⟩))) rfl (by kernel_rfl) (by kernel_rfl) (by kernel_rfl) (fun _ _ _ h => h) (Or.inl ⟨by rfl, ?_⟩) hHeld ?_
          · intro w hSw; go_simp
          try simp only [List.getElem_toArray, List.getElem_cons_zero, List.getElem_cons_succ, Act.put, List.setIfInBounds_toArray, List.set_cons_zero, List.set_cons_succ]
          refine wpAnyH_take (i := 4) (v := (.pointer (some ⟨q, 5, none⟩))) rfl (by kernel_rfl) (by kernel_rfl) (by kernel_rfl) (fun _ _ _ h => h) (Or.inl ⟨by rfl, ?_⟩) hHeld ?_
          · intro w hSw; go_simp
          try simp only [List.getElem_toArray, List.getElem_cons_zero, List.getElem_cons_succ, Act.put, List.setIfInBounds_toArray, List.set_cons_zero, List.set_cons_succ]
          refine wpAnyH_take (i := 5) (v := (.int .i64 S)) rfl (by kernel_rfl) (by kernel_rfl) (by kernel_rfl) (fun _ _ _ h => h) (Or.inl ⟨by rfl, ?_⟩) hHeld ?_
          · intro w hSw; obtain ⟨s0, s1, s2⟩ := hSw; go_simp
          try simp only [List.getElem_toArray, List.getElem_cons_zero, List.getElem_cons_succ, Act.put, List.setIfInBounds_toArray, List.set_cons_zero, List.set_cons_succ]
          refine wpAnyH_ready (rs := [1]) (by kernel_rfl) (by simp) ?_
          refine AllReadyH.cons rfl (fun K hK => ?_) AllReadyH.nil
          clear hHeld
          go_simp
          refine (D1.out _ Q.out).mono ?_
          rintro e w6 ⟨rfl, n6, rfl⟩
          replace Q := Lib.hid (Q.out.drewN n6)
          generalize w5d.drewN n6 = w5e at *
          refine hK.out _ _ (KS.out _ Q.out) (fun hHeld => ?_)
          clear hK K D1
          refine wpAnyH_take (i := 6) (v := (.bool false)) rfl (by kernel_rfl) (by kernel_rfl) (by kernel_rfl) (fun _ _ _ h => h) (Or.inl ⟨by rfl, ?_⟩) hHeld ?_
          · intro w hSw; go_simp
          try simp only [List.getElem_toArray, List.getElem_cons_zero, List.getElem_cons_succ, Act.put, List.setIfInBounds_toArray, List.set_cons_zero, List.set_cons_succ]
          refine wpAnyH_take (i := 7) (v := (.bool false)) rfl (by kernel_rfl) (by kernel_rfl) (by kernel_rfl) (fun _ _ _ h => h) (Or.inl ⟨by rfl, ?_⟩) hHeld ?_
          · intro w hSw; go_simp
          try simp only [List.getElem_toArray, List.getElem_cons_zero, List.getElem_cons_succ, Act.put, List.setIfInBounds_toArray, List.set_cons_zero, List.set_cons_succ]
          refine wpAnyH_take (i := 8) (v := (.pointer (some ⟨p, 0, none⟩))) rfl (by kernel_rfl) (by kernel_rfl) (by kernel_rfl) (fun _ _ _ h => h) (Or.inl ⟨by rfl, ?_⟩) hHeld ?_
          · intro w hSw; go_simp
          try simp only [List.getElem_toArray, List.getElem_cons_zero, List.getElem_cons_succ, Act.put, List.setIfInBounds_toArray, List.set_cons_zero, List.set_cons_succ]
          refine wpAnyH_take (i := 10) (v := (.pointer (some ⟨q, 0, none⟩))) rfl (by kernel_rfl) (by kernel_rfl) (by kernel_rfl) (fun _ _ _ h => h) (Or.inl ⟨by rfl, ?_⟩) hHeld ?_
          · intro w hSw; go_simp
          try simp only [List.getElem_toArray, List.getElem_cons_zero, List.getElem_cons_succ, Act.put, List.setIfInBounds_toArray, List.set_cons_zero, List.set_cons_succ]
          refine wpAnyH_ready (rs := [9]) (by kernel_rfl) (by simp) ?_
          refine AllReadyH.cons rfl (fun K hK => ?_) AllReadyH.nil
          clear hHeld
          go_simp
          refine (D2.out _ Q.out).mono ?_
          rintro e w6 ⟨rfl, n6, rfl⟩
          replace Q := Lib.hid (Q.out.drewN n6)
          generalize w5e.drewN n6 = w6 at *
          refine hK.out _ _ (KS.out _ Q.out) (fun hHeld => ?_)
          clear hK K D2
          refine wpAnyH_ready (rs := [11]) (by kernel_rfl) (by simp) ?_
          refine AllReadyH.cons rfl (fun K hK => ?_) AllReadyH.nil
          clear hHeld
          go_simp
          refine (D3.out _ Q.out).mono ?_
          rintro e w7 ⟨rfl, b7⟩
          replace Q := Lib.hid (Q.out.on b7)
          clear b7
          refine hK.out _ _ (KS.out _ Q.out) (fun hHeld => ?_)
          clear hK K D3
          refine wpAnyH_take (i := 12) (v := (.bool false)) rfl (by kernel_rfl) (by kernel_rfl) (by kernel_rfl) (fun _ _ _ h => h) (Or.inl ⟨by rfl, ?_⟩) hHeld ?_
          · intro w hSw; go_simp
          try simp only [List.getElem_toArray, List.getElem_cons_zero, List.getElem_cons_succ, Act.put, List.setIfInBounds_toArray, List.set_cons_zero, List.set_cons_succ]
          refine wpAnyH_take (i := 13) (v := (.bool false)) rfl (by kernel_rfl) (by kernel_rfl) (by kernel_rfl) (fun _ _ _ h => h) (Or.inl ⟨by rfl, ?_⟩) hHeld ?_
          · intro w hSw; go_simp
          try simp only [List.getElem_toArray, List.getElem_cons_zero, List.getElem_cons_succ, Act.put, List.setIfInBounds_toArray, List.set_cons_zero, List.set_cons_succ]
          refine wpAnyH_take (i := 14) (v := (.bool false)) rfl (by kernel_rfl) (by kernel_rfl) (by kernel_rfl) (fun _ _ _ h => h) (Or.inl ⟨by rfl, ?_⟩) hHeld ?_
          · intro w hSw; go_simp
          try simp only [List.getElem_toArray, List.getElem_cons_zero, List.getElem_cons_succ, Act.put, List.setIfInBounds_toArray, List.set_cons_zero, List.set_cons_succ]
          refine wpAnyH_take (i := 15) (v := (.pointer (some ⟨p, 0, none⟩))) rfl (by kernel_rfl) (by kernel_rfl) (by kernel_rfl) (fun _ _ _ h => h) (Or.inl ⟨by rfl, ?_⟩) hHeld ?_
          · intro w hSw; go_simp
          try simp only [List.getElem_toArray, List.getElem_cons_zero, List.getElem_cons_succ, Act.put, List.setIfInBounds_toArray, List.set_cons_zero, List.set_cons_succ]
          refine wpAnyH_take (i := 17) (v := (.pointer (some ⟨q, 0, none⟩))) rfl (by kernel_rfl) (by kernel_rfl) (by kernel_rfl) (fun _ _ _ h => h) (Or.inl ⟨by rfl, ?_⟩) hHeld ?_
          · intro w hSw; go_simp
          try simp only [List.getElem_toArray, List.getElem_cons_zero, List.getElem_cons_succ, Act.put, List.setIfInBounds_toArray, List.set_cons_zero, List.set_cons_succ]
          refine wpAnyH_ready (rs := [16]) (by kernel_rfl) (by simp) ?_
          refine AllReadyH.cons rfl (fun K hK => ?_) AllReadyH.nil
          clear hHeld
          go_simp
          refine (D4.out _ Q.out).mono ?_
          rintro e w8 ⟨rfl, n8, rfl⟩
          replace Q := Lib.hid (Q.out.drewN n8)
          generalize w7.drewN n8 = w8 at *
          refine hK.out _ _ (KS.out _ Q.out) (fun hHeld => ?_)
          clear hK K D4
          refine wpAnyH_ready (rs := [18]) (by kernel_rfl) (by simp) ?_
          refine AllReadyH.cons rfl (fun K hK => ?_) AllReadyH.nil
          clear hHeld
          go_simp
          refine (D5.out _ Q.out).mono ?_
          rintro e w9 ⟨rfl, n9, rfl⟩
          replace Q := Lib.hid (Q.out.drewN n9)
          generalize w8.drewN n9 = w9 at *
          refine hK.out _ _ (KS.out _ Q.out) (fun hHeld => ?_)
          clear hK K D5
          refine wpAnyH_take (i := 19) (v := (.bool false)) rfl (by kernel_rfl) (by kernel_rfl) (by kernel_rfl) (fun _ _ _ h => h) (Or.inl ⟨by rfl, ?_⟩) hHeld ?_
          · intro w hSw; go_simp
          try simp only [List.getElem_toArray, List.getElem_cons_zero, List.getElem_cons_succ, Act.put, List.setIfInBounds_toArray, List.set_cons_zero, List.set_cons_succ]
          refine wpAnyH_take (i := 20) (v := (.bool false)) rfl (by kernel_rfl) (by kernel_rfl) (by kernel_rfl) (fun _ _ _ h => h) (Or.inl ⟨by rfl, ?_⟩) hHeld ?_
          · intro w hSw; go_simp
          try simp only [List.getElem_toArray, List.getElem_cons_zero, List.getElem_cons_succ, Act.put, List.setIfInBounds_toArray, List.set_cons_zero, List.set_cons_succ]
          refine wpAnyH_take (i := 21) (v := (.bool false)) rfl (by kernel_rfl) (by kernel_rfl) (by kernel_rfl) (fun _ _ _ h => h) (Or.inl ⟨by rfl, ?_⟩) hHeld ?_
          · intro w hSw; go_simp
          try simp only [List.getElem_toArray, List.getElem_cons_zero, List.getElem_cons_succ, Act.put, List.setIfInBounds_toArray, List.set_cons_zero, List.set_cons_succ]
          refine wpAnyH_take (i := 22) (v := (.int .i64 R)) rfl (by kernel_rfl) (by kernel_rfl) (by kernel_rfl) (fun _ _ _ h => h) (Or.inl ⟨by rfl, ?_⟩) hHeld ?_
          · intro w hSw; go_simp
          try simp only [List.getElem_toArray, List.getElem_cons_zero, List.getElem_cons_succ, Act.put, List.setIfInBounds_toArray, List.set_cons_zero, List.set_cons_succ]
          refine wpAnyH_take (i := 23) (v := (.pointer (some ⟨q, 0, none⟩))) rfl (by kernel_rfl) (by kernel_rfl) (by kernel_rfl) (fun _ _ _ h => h) (Or.inl ⟨by rfl, ?_⟩) hHeld ?_
          · intro w hSw; go_simp
          try simp only [List.getElem_toArray, List.getElem_cons_zero, List.getElem_cons_succ, Act.put, List.setIfInBounds_toArray, List.set_cons_zero, List.set_cons_succ]
          refine wpAnyH_take (i := 24) (v := (.pointer (some ⟨q, 0, none⟩))) rfl (by kernel_rfl) (by kernel_rfl) (by kernel_rfl) (fun _ _ _ h => h) (Or.inl ⟨by rfl, ?_⟩) hHeld ?_
          · intro w hSw; go_simp
          try simp only [List.getElem_toArray, List.getElem_cons_zero, List.getElem_cons_succ, Act.put, List.setIfInBounds_toArray, List.set_cons_zero, List.set_cons_succ]
          refine wpAnyH_take (i := 25) (v := (.pointer (some ⟨q, 3, none⟩))) rfl (by kernel_rfl) (by kernel_rfl) (by kernel_rfl) (fun _ _ _ h => h) (Or.inl ⟨by rfl, ?_⟩) hHeld ?_
          · intro w hSw; go_simp
          try simp only [List.getElem_toArray, List.getElem_cons_zero, List.getElem_cons_succ, Act.put, List.setIfInBounds_toArray, List.set_cons_zero, List.set_cons_succ]
          refine wpAnyH_take (i := 26) (v := (.int .i64 R)) rfl (by kernel_rfl) (by kernel_rfl) (by kernel_rfl) (fun _ _ _ h => h) (Or.inl ⟨by rfl, ?_⟩) hHeld ?_
          · intro w hSw; obtain ⟨s0, s1, s2⟩ := hSw; go_simp
          try simp only [List.getElem_toArray, List.getElem_cons_zero, List.getElem_cons_succ, Act.put, List.setIfInBounds_toArray, List.set_cons_zero, List.set_cons_succ]
          refine wpAnyH_take (i := 27) (v := (.bool false)) rfl (by kernel_rfl) (by kernel_rfl) (by kernel_rfl) (fun _ _ _ h => h) (Or.inl ⟨by rfl, ?_⟩) hHeld ?_
          · intro w hSw; go_simp
          try simp only [List.getElem_toArray, List.getElem_cons_zero, List.getElem_cons_succ, Act.put, List.setIfInBounds_toArray, List.set_cons_zero, List.set_cons_succ]
          refine wpAnyH_take (i := 28) (v := (.bool false)) rfl (by kernel_rfl) (by kernel_rfl) (by kernel_rfl) (fun _ _ _ h => h) (Or.inl ⟨by rfl, ?_⟩) hHeld ?_
          · intro w hSw; go_simp
          try simp only [List.getElem_toArray, List.getElem_cons_zero, List.getElem_cons_succ, Act.put, List.setIfInBounds_toArray, List.set_cons_zero, List.set_cons_succ]
          refine wpAnyH_take (i := 29) (v := (.bool false)) rfl (by kernel_rfl) (by kernel_rfl) (by kernel_rfl) (fun _ _ _ h => h) (Or.inl ⟨by rfl, ?_⟩) hHeld ?_
          · intro w hSw; go_simp
          try simp only [List.getElem_toArray, List.getElem_cons_zero, List.getElem_cons_succ, Act.put, List.setIfInBounds_toArray, List.set_cons_zero, List.set_cons_succ]
          refine wpAnyH_take (i := 30) (v := (.int .i64 Q2)) rfl (by kernel_rfl) (by kernel_rfl) (by kernel_rfl) (fun _ _ _ h => h) (Or.inl ⟨by rfl, ?_⟩) hHeld ?_
          · intro w hSw; go_simp
          try simp only [List.getElem_toArray, List.getElem_cons_zero, List.getElem_cons_succ, Act.put, List.setIfInBounds_toArray, List.set_cons_zero, List.set_cons_succ]
          refine wpAnyH_take (i := 31) (v := (.pointer (some ⟨q, 0, none⟩))) rfl (by kernel_rfl) (by kernel_rfl) (by kernel_rfl) (fun _ _ _ h => h) (Or.inl ⟨by rfl, ?_⟩) hHeld ?_
          · intro w hSw; go_simp
          try simp only [List.getElem_toArray, List.getElem_cons_zero, List.getElem_cons_succ, Act.put, List.setIfInBounds_toArray, List.set_cons_zero, List.set_cons_succ]
          refine wpAnyH_take (i := 32) (v := (.pointer (some ⟨q, 0, none⟩))) rfl (by kernel_rfl) (by kernel_rfl) (by kernel_rfl) (fun _ _ _ h => h) (Or.inl ⟨by rfl, ?_⟩) hHeld ?_
          · intro w hSw; go_simp
          try simp only [List.getElem_toArray, List.getElem_cons_zero, List.getElem_cons_succ, Act.put, List.setIfInBounds_toArray, List.set_cons_zero, List.set_cons_succ]
          refine wpAnyH_take (i := 33) (v := (.pointer (some ⟨q, 4, none⟩))) rfl (by kernel_rfl) (by kernel_rfl) (by kernel_rfl) (fun _ _ _ h => h) (Or.inl ⟨by rfl, ?_⟩) hHeld ?_
          · intro w hSw; go_simp
          try simp only [List.getElem_toArray, List.getElem_cons_zero, List.getElem_cons_succ, Act.put, List.setIfInBounds_toArray, List.set_cons_zero, List.set_cons_succ]
          refine wpAnyH_take (i := 34) (v := (.int .i64 Q2)) rfl (by kernel_rfl) (by kernel_rfl) (by kernel_rfl) (fun _ _ _ h => h) (Or.inl ⟨by rfl, ?_⟩) hHeld ?_
          · intro w hSw; obtain ⟨s0, s1, s2⟩ := hSw; go_simp
          try simp only [List.getElem_toArray, List.getElem_cons_zero, List.getElem_cons_succ, Act.put, List.setIfInBounds_toArray, List.set_cons_zero, List.set_cons_succ]
          refine wpAnyH_take (i := 35) (v := (.bool false)) rfl (by kernel_rfl) (by kernel_rfl) (by kernel_rfl) (fun _ _ _ h => h) (Or.inl ⟨by rfl, ?_⟩) hHeld ?_
          · intro w hSw; go_simp
          try simp only [List.getElem_toArray, List.getElem_cons_zero, List.getElem_cons_succ, Act.put, List.setIfInBounds_toArray, List.set_cons_zero, List.set_cons_succ]
          refine wpAnyH_take (i := 36) (v := (.bool false)) rfl (by kernel_rfl) (by kernel_rfl) (by kernel_rfl) (fun _ _ _ h => h) (Or.inl ⟨by rfl, ?_⟩) hHeld ?_
          · intro w hSw; go_simp
          try simp only [List.getElem_toArray, List.getElem_cons_zero, List.getElem_cons_succ, Act.put, List.setIfInBounds_toArray, List.set_cons_zero, List.set_cons_succ]
          refine wpAnyH_done (by kernel_rfl) ?_ _
          clear hHeld KS K5
          go_wp2
          go_roundw
          case rel => exact ⟨i + 1, y, by simp, by omega, Q⟩
          case measure => simp [intOf]; omega
      | false =>
        as_aux_lemma =>
          obtain ⟨y, hy⟩ : ∃ y, x.abo = y := ⟨_, rfl⟩
          obtain ⟨r, hr⟩ : ∃ r, x.aboE = r := ⟨_, rfl⟩
          have C1 := Lib.hid (cabort r y P.out.g hr hy)
          have C2 := Lib.hid (fun (w' : World) (h' : LfAt 34 o2 2 w' q x) => dabort r y h' hr hy)
          have hyk := Lib.hid (hy ▸ Lf.ok_abo P.out.ok)
          have y0 : (r != r) = false := by simp
          clear hy hr
          go_wp2_with fail
          refine C1.out.mono ?_
          rintro e w3 ⟨rfl, st3, h3⟩
          replace C2 := Lib.hid (C2.out _ (P.out.r.step st3 (by decide)))
          have S3 := Lib.hid (And.intro st3 h3)
          clear C1 st3 h3
          go_wp2_with fail
          refine C2.out.mono ?_
          rintro e w4 ⟨rfl, st4, h4⟩
          have Q := Lib.hid (P.out.both S3.out.1 S3.out.2 st4 h4 hyk.out)
          clear C2 st4 h4 S3 P hyk d0
          have d4 := DR.out w4 Q.out.lw.below
          go_wp2_with fail
          refine (cused Q.out.g).mono ?_
          rintro e w5 ⟨rfl, n5, rfl⟩
          replace Q := Lib.hid (Q.out.drewN n5)
          clear d4 DR
          generalize w4.drewN n5 = w5 at *
          go_wp2
          obtain ⟨L, hL⟩ : ∃ L, y.left = L := ⟨_, rfl⟩
          obtain ⟨H, hH⟩ : ∃ H, y.charge = H := ⟨_, rfl⟩
          obtain ⟨S, hS⟩ : ∃ S : Int, (y.st : Int) = S := ⟨_, rfl⟩
          obtain ⟨R, hR⟩ : ∃ R : Int, (y.ran : Int) = R := ⟨_, rfl⟩
          obtain ⟨Q2, hQ2⟩ : ∃ Q2 : Int, (y.cl : Int) = Q2 := ⟨_, rfl⟩
          have D1 := Lib.hid (fun (w' : World) (h' : Cp w o2 w' p q y) => (show Calls Try.prog 14 #[.pointer (some ⟨p, 0, none⟩)] w' (Ret (.int .i64 S) w') from hS ▸ cstage h'.g))
          have D2 := Lib.hid (fun (w' : World) (h' : Cp w o2 w' p q y) => cleft L h'.g h'.ok hL)
          have D3 := Lib.hid (fun (w' : World) (h' : Cp w o2 w' p q y) => dleft L h'.r h'.ok hL)
          have D4 := Lib.hid (fun (w' : World) (h' : Cp w o2 w' p q y) => ccharge H h'.g h'.ok hH)
          have D5 := Lib.hid (fun (w' : World) (h' : Cp w o2 w' p q y) => dcharge H h'.r h'.ok hH)
          have KS : Hid (∀ W, Cp w o2 W p q y → W.cell? ⟨q, 5, none⟩ = some (.int .i64 S) ∧ W.cell? ⟨q, 3, none⟩ = some (.int .i64 R) ∧ W.cell? ⟨q, 4, none⟩ = some (.int .i64 Q2)) := fun W h => by
            obtain ⟨_, _, _, e3, e4, e5⟩ := six_cells h.r
            rw [hS] at e5; rw [hR] at e3; rw [hQ2] at e4; exact ⟨e5, e3, e4⟩
          rw [hR, hQ2]
          have y1 : (S != S) = false := by simp
          have y2 : ((L : Int) != (L : Int)) = false := by simp
          have y3 : ((H : Int) != (H : Int)) = false := by simp
          have y4 : (R != R) = false := by simp
          have y5 : (Q2 != Q2) = false := by simp
          replace Q := Lib.hid (show Cp w o2 w5.drew p q y from Q.out.drewN 1)
          have K5 := KS.out w5.drew Q.out
          clear hL hH hS hR hQ2 y0
          refine wp_region_held_drew (S := fun W => W.cell? ⟨q, 5, none⟩ = some (.int .i64 S) ∧ W.cell? ⟨q, 3, none⟩ = some (.int .i64 R) ∧ W.cell? ⟨q, 4, none⟩ = some (.int .i64 Q2)) (by kernel_rfl) K5 (fun hHeld => ?_)
          generalize w5.drew = w5d at *
          refine wpAnyH_take (i := 0) (v := (.pointer (some ⟨p, 0, none⟩))) rfl (by kernel_rfl) (by kernel_rfl) (by kernel_rfl) (fun _ _ _ h => h) (Or.inl ⟨by rfl, ?_⟩) hHeld ?_
          · intro w hSw; go_simp
          try simp only [List.getElem_toArray, List.getElem_cons_zero, List.getElem_cons_succ, Act.put, List.setIfInBounds_toArray, List.set_cons_zero, List.set_cons_succ]
          refine wpAnyH_take (i := 2) (v := (.pointer (some ⟨q, 0, none⟩))) rfl (by kernel_rfl) (by kernel_rfl) (by kernel_rfl) (fun _ _ _ h => h) (Or.inl ⟨by rfl, ?_⟩) hHeld ?_
          · intro w hSw; go_simp
          try simp only [List.getElem_toArray, List.getElem_cons_zero, List.getElem_cons_succ, Act.put, List.setIfInBounds_toArray, List.set_cons_zero, List.set_cons_succ]
          refine wpAnyH_take (i := 3) (v := (.pointer (some ⟨q, 0, none⟩))) rfl (by kernel_rfl) (by kernel_rfl) (by kernel_rfl) (fun _ _ _ h => h) (Or.inl ⟨by rfl, ?_⟩) hHeld ?_
          · intro w hSw; go_simp
          try simp only [List.getElem_toArray, List.getElem_cons_zero, List.getElem_cons_succ, Act.put, List.setIfInBounds_toArray, List.set_cons_zero, List.set_cons_succ]
          refine wpAnyH_take (i := 4) (v := (.pointer (some ⟨q, 5, none⟩))) rfl (by kernel_rfl) (by kernel_rfl) (by kernel_rfl) (fun _ _ _ h => h) (Or.inl ⟨by rfl, ?_⟩) hHeld ?_
          · intro w hSw; go_simp
          try simp only [List.getElem_toArray, List.getElem_cons_zero, List.getElem_cons_succ, Act.put, List.setIfInBounds_toArray, List.set_cons_zero, List.set_cons_succ]
          refine wpAnyH_take (i := 5) (v := (.int .i64 S)) rfl (by kernel_rfl) (by kernel_rfl) (by kernel_rfl) (fun _ _ _ h => h) (Or.inl ⟨by rfl, ?_⟩) hHeld ?_
          · intro w hSw; obtain ⟨s0, s1, s2⟩ := hSw; go_simp
          try simp only [List.getElem_toArray, List.getElem_cons_zero, List.getElem_cons_succ, Act.put, List.setIfInBounds_toArray, List.set_cons_zero, List.set_cons_succ]
          refine wpAnyH_ready (rs := [1]) (by kernel_rfl) (by simp) ?_
          refine AllReadyH.cons rfl (fun K hK => ?_) AllReadyH.nil
          clear hHeld
          go_simp
          refine (D1.out _ Q.out).mono ?_
          rintro e w6 ⟨rfl, n6, rfl⟩
          replace Q := Lib.hid (Q.out.drewN n6)
          generalize w5d.drewN n6 = w5e at *
          refine hK.out _ _ (KS.out _ Q.out) (fun hHeld => ?_)
          clear hK K D1
          refine wpAnyH_take (i := 6) (v := (.bool false)) rfl (by kernel_rfl) (by kernel_rfl) (by kernel_rfl) (fun _ _ _ h => h) (Or.inl ⟨by rfl, ?_⟩) hHeld ?_
          · intro w hSw; go_simp
          try simp only [List.getElem_toArray, List.getElem_cons_zero, List.getElem_cons_succ, Act.put, List.setIfInBounds_toArray, List.set_cons_zero, List.set_cons_succ]
          refine wpAnyH_take (i := 7) (v := (.bool false)) rfl (by kernel_rfl) (by kernel_rfl) (by kernel_rfl) (fun _ _ _ h => h) (Or.inl ⟨by rfl, ?_⟩) hHeld ?_
          · intro w hSw; go_simp
          try simp only [List.getElem_toArray, List.getElem_cons_zero, List.getElem_cons_succ, Act.put, List.setIfInBounds_toArray, List.set_cons_zero, List.set_cons_succ]
          refine wpAnyH_take (i := 8) (v := (.pointer (some ⟨p, 0, none⟩))) rfl (by kernel_rfl) (by kernel_rfl) (by kernel_rfl) (fun _ _ _ h => h) (Or.inl ⟨by rfl, ?_⟩) hHeld ?_
          · intro w hSw; go_simp
          try simp only [List.getElem_toArray, List.getElem_cons_zero, List.getElem_cons_succ, Act.put, List.setIfInBounds_toArray, List.set_cons_zero, List.set_cons_succ]
          refine wpAnyH_take (i := 10) (v := (.pointer (some ⟨q, 0, none⟩))) rfl (by kernel_rfl) (by kernel_rfl) (by kernel_rfl) (fun _ _ _ h => h) (Or.inl ⟨by rfl, ?_⟩) hHeld ?_
          · intro w hSw; go_simp
          try simp only [List.getElem_toArray, List.getElem_cons_zero, List.getElem_cons_succ, Act.put, List.setIfInBounds_toArray, List.set_cons_zero, List.set_cons_succ]
          refine wpAnyH_ready (rs := [9]) (by kernel_rfl) (by simp) ?_
          refine AllReadyH.cons rfl (fun K hK => ?_) AllReadyH.nil
          clear hHeld
          go_simp
          refine (D2.out _ Q.out).mono ?_
          rintro e w6 ⟨rfl, n6, rfl⟩
          replace Q := Lib.hid (Q.out.drewN n6)
          generalize w5e.drewN n6 = w6 at *
          refine hK.out _ _ (KS.out _ Q.out) (fun hHeld => ?_)
          clear hK K D2
          refine wpAnyH_ready (rs := [11]) (by kernel_rfl) (by simp) ?_
          refine AllReadyH.cons rfl (fun K hK => ?_) AllReadyH.nil
          clear hHeld
          go_simp
          refine (D3.out _ Q.out).mono ?_
          rintro e w7 ⟨rfl, b7⟩
          replace Q := Lib.hid (Q.out.on b7)
          clear b7
          refine hK.out _ _ (KS.out _ Q.out) (fun hHeld => ?_)
          clear hK K D3
          refine wpAnyH_take (i := 12) (v := (.bool false)) rfl (by kernel_rfl) (by kernel_rfl) (by kernel_rfl) (fun _ _ _ h => h) (Or.inl ⟨by rfl, ?_⟩) hHeld ?_
          · intro w hSw; go_simp
          try simp only [List.getElem_toArray, List.getElem_cons_zero, List.getElem_cons_succ, Act.put, List.setIfInBounds_toArray, List.set_cons_zero, List.set_cons_succ]
          refine wpAnyH_take (i := 13) (v := (.bool false)) rfl (by kernel_rfl) (by kernel_rfl) (by kernel_rfl) (fun _ _ _ h => h) (Or.inl ⟨by rfl, ?_⟩) hHeld ?_
          · intro w hSw; go_simp
          try simp only [List.getElem_toArray, List.getElem_cons_zero, List.getElem_cons_succ, Act.put, List.setIfInBounds_toArray, List.set_cons_zero, List.set_cons_succ]
          refine wpAnyH_take (i := 14) (v := (.bool false)) rfl (by kernel_rfl) (by kernel_rfl) (by kernel_rfl) (fun _ _ _ h => h) (Or.inl ⟨by rfl, ?_⟩) hHeld ?_
          · intro w hSw; go_simp
          try simp only [List.getElem_toArray, List.getElem_cons_zero, List.getElem_cons_succ, Act.put, List.setIfInBounds_toArray, List.set_cons_zero, List.set_cons_succ]
          refine wpAnyH_take (i := 15) (v := (.pointer (some ⟨p, 0, none⟩))) rfl (by kernel_rfl) (by kernel_rfl) (by kernel_rfl) (fun _ _ _ h => h) (Or.inl ⟨by rfl, ?_⟩) hHeld ?_
          · intro w hSw; go_simp
          try simp only [List.getElem_toArray, List.getElem_cons_zero, List.getElem_cons_succ, Act.put, List.setIfInBounds_toArray, List.set_cons_zero, List.set_cons_succ]
          refine wpAnyH_take (i := 17) (v := (.pointer (some ⟨q, 0, none⟩))) rfl (by kernel_rfl) (by kernel_rfl) (by kernel_rfl) (fun _ _ _ h => h) (Or.inl ⟨by rfl, ?_⟩) hHeld ?_
          · intro w hSw; go_simp
          try simp only [List.getElem_toArray, List.getElem_cons_zero, List.getElem_cons_succ, Act.put, List.setIfInBounds_toArray, List.set_cons_zero, List.set_cons_succ]
          refine wpAnyH_ready (rs := [16]) (by kernel_rfl) (by simp) ?_
          refine AllReadyH.cons rfl (fun K hK => ?_) AllReadyH.nil
          clear hHeld
          go_simp
          refine (D4.out _ Q.out).mono ?_
          rintro e w8 ⟨rfl, n8, rfl⟩
          replace Q := Lib.hid (Q.out.drewN n8)
          generalize w7.drewN n8 = w8 at *
          refine hK.out _ _ (KS.out _ Q.out) (fun hHeld => ?_)
          clear hK K D4
          refine wpAnyH_ready (rs := [18]) (by kernel_rfl) (by simp) ?_
          refine AllReadyH.cons rfl (fun K hK => ?_) AllReadyH.nil
          clear hHeld
          go_simp
          refine (D5.out _ Q.out).mono ?_
          rintro e w9 ⟨rfl, n9, rfl⟩
          replace Q := Lib.hid (Q.out.drewN n9)
          generalize w8.drewN n9 = w9 at *
          refine hK.out _ _ (KS.out _ Q.out) (fun hHeld => ?_)
          clear hK K D5
          refine wpAnyH_take (i := 19) (v := (.bool false)) rfl (by kernel_rfl) (by kernel_rfl) (by kernel_rfl) (fun _ _ _ h => h) (Or.inl ⟨by rfl, ?_⟩) hHeld ?_
          · intro w hSw; go_simp
          try simp only [List.getElem_toArray, List.getElem_cons_zero, List.getElem_cons_succ, Act.put, List.setIfInBounds_toArray, List.set_cons_zero, List.set_cons_succ]
          refine wpAnyH_take (i := 20) (v := (.bool false)) rfl (by kernel_rfl) (by kernel_rfl) (by kernel_rfl) (fun _ _ _ h => h) (Or.inl ⟨by rfl, ?_⟩) hHeld ?_
          · intro w hSw; go_simp
          try simp only [List.getElem_toArray, List.getElem_cons_zero, List.getElem_cons_succ, Act.put, List.setIfInBounds_toArray, List.set_cons_zero, List.set_cons_succ]
          refine wpAnyH_take (i := 21) (v := (.bool false)) rfl (by kernel_rfl) (by kernel_rfl) (by kernel_rfl) (fun _ _ _ h => h) (Or.inl ⟨by rfl, ?_⟩) hHeld ?_
          · intro w hSw; go_simp
          try simp only [List.getElem_toArray, List.getElem_cons_zero, List.getElem_cons_succ, Act.put, List.setIfInBounds_toArray, List.set_cons_zero, List.set_cons_succ]
          refine wpAnyH_take (i := 22) (v := (.int .i64 R)) rfl (by kernel_rfl) (by kernel_rfl) (by kernel_rfl) (fun _ _ _ h => h) (Or.inl ⟨by rfl, ?_⟩) hHeld ?_
          · intro w hSw; go_simp
          try simp only [List.getElem_toArray, List.getElem_cons_zero, List.getElem_cons_succ, Act.put, List.setIfInBounds_toArray, List.set_cons_zero, List.set_cons_succ]
          refine wpAnyH_take (i := 23) (v := (.pointer (some ⟨q, 0, none⟩))) rfl (by kernel_rfl) (by kernel_rfl) (by kernel_rfl) (fun _ _ _ h => h) (Or.inl ⟨by rfl, ?_⟩) hHeld ?_
          · intro w hSw; go_simp
          try simp only [List.getElem_toArray, List.getElem_cons_zero, List.getElem_cons_succ, Act.put, List.setIfInBounds_toArray, List.set_cons_zero, List.set_cons_succ]
          refine wpAnyH_take (i := 24) (v := (.pointer (some ⟨q, 0, none⟩))) rfl (by kernel_rfl) (by kernel_rfl) (by kernel_rfl) (fun _ _ _ h => h) (Or.inl ⟨by rfl, ?_⟩) hHeld ?_
          · intro w hSw; go_simp
          try simp only [List.getElem_toArray, List.getElem_cons_zero, List.getElem_cons_succ, Act.put, List.setIfInBounds_toArray, List.set_cons_zero, List.set_cons_succ]
          refine wpAnyH_take (i := 25) (v := (.pointer (some ⟨q, 3, none⟩))) rfl (by kernel_rfl) (by kernel_rfl) (by kernel_rfl) (fun _ _ _ h => h) (Or.inl ⟨by rfl, ?_⟩) hHeld ?_
          · intro w hSw; go_simp
          try simp only [List.getElem_toArray, List.getElem_cons_zero, List.getElem_cons_succ, Act.put, List.setIfInBounds_toArray, List.set_cons_zero, List.set_cons_succ]
          refine wpAnyH_take (i := 26) (v := (.int .i64 R)) rfl (by kernel_rfl) (by kernel_rfl) (by kernel_rfl) (fun _ _ _ h => h) (Or.inl ⟨by rfl, ?_⟩) hHeld ?_
          · intro w hSw; obtain ⟨s0, s1, s2⟩ := hSw; go_simp
          try simp only [List.getElem_toArray, List.getElem_cons_zero, List.getElem_cons_succ, Act.put, List.setIfInBounds_toArray, List.set_cons_zero, List.set_cons_succ]
          refine wpAnyH_take (i := 27) (v := (.bool false)) rfl (by kernel_rfl) (by kernel_rfl) (by kernel_rfl) (fun _ _ _ h => h) (Or.inl ⟨by rfl, ?_⟩) hHeld ?_
          · intro w hSw; go_simp
          try simp only [List.getElem_toArray, List.getElem_cons_zero, List.getElem_cons_succ, Act.put, List.setIfInBounds_toArray, List.set_cons_zero, List.set_cons_succ]
          refine wpAnyH_take (i := 28) (v := (.bool false)) rfl (by kernel_rfl) (by kernel_rfl) (by kernel_rfl) (fun _ _ _ h => h) (Or.inl ⟨by rfl, ?_⟩) hHeld ?_
          · intro w hSw; go_simp
          try simp only [List.getElem_toArray, List.getElem_cons_zero, List.getElem_cons_succ, Act.put, List.setIfInBounds_toArray, List.set_cons_zero, List.set_cons_succ]
          refine wpAnyH_take (i := 29) (v := (.bool false)) rfl (by kernel_rfl) (by kernel_rfl) (by kernel_rfl) (fun _ _ _ h => h) (Or.inl ⟨by rfl, ?_⟩) hHeld ?_
          · intro w hSw; go_simp
          try simp only [List.getElem_toArray, List.getElem_cons_zero, List.getElem_cons_succ, Act.put, List.setIfInBounds_toArray, List.set_cons_zero, List.set_cons_succ]
          refine wpAnyH_take (i := 30) (v := (.int .i64 Q2)) rfl (by kernel_rfl) (by kernel_rfl) (by kernel_rfl) (fun _ _ _ h => h) (Or.inl ⟨by rfl, ?_⟩) hHeld ?_
          · intro w hSw; go_simp
          try simp only [List.getElem_toArray, List.getElem_cons_zero, List.getElem_cons_succ, Act.put, List.setIfInBounds_toArray, List.set_cons_zero, List.set_cons_succ]
          refine wpAnyH_take (i := 31) (v := (.pointer (some ⟨q, 0, none⟩))) rfl (by kernel_rfl) (by kernel_rfl) (by kernel_rfl) (fun _ _ _ h => h) (Or.inl ⟨by rfl, ?_⟩) hHeld ?_
          · intro w hSw; go_simp
          try simp only [List.getElem_toArray, List.getElem_cons_zero, List.getElem_cons_succ, Act.put, List.setIfInBounds_toArray, List.set_cons_zero, List.set_cons_succ]
          refine wpAnyH_take (i := 32) (v := (.pointer (some ⟨q, 0, none⟩))) rfl (by kernel_rfl) (by kernel_rfl) (by kernel_rfl) (fun _ _ _ h => h) (Or.inl ⟨by rfl, ?_⟩) hHeld ?_
          · intro w hSw; go_simp
          try simp only [List.getElem_toArray, List.getElem_cons_zero, List.getElem_cons_succ, Act.put, List.setIfInBounds_toArray, List.set_cons_zero, List.set_cons_succ]
          refine wpAnyH_take (i := 33) (v := (.pointer (some ⟨q, 4, none⟩))) rfl (by kernel_rfl) (by kernel_rfl) (by kernel_rfl) (fun _ _ _ h => h) (Or.inl ⟨by rfl, ?_⟩) hHeld ?_
          · intro w hSw; go_simp
          try simp only [List.getElem_toArray, List.getElem_cons_zero, List.getElem_cons_succ, Act.put, List.setIfInBounds_toArray, List.set_cons_zero, List.set_cons_succ]
          refine wpAnyH_take (i := 34) (v := (.int .i64 Q2)) rfl (by kernel_rfl) (by kernel_rfl) (by kernel_rfl) (fun _ _ _ h => h) (Or.inl ⟨by rfl, ?_⟩) hHeld ?_
          · intro w hSw; obtain ⟨s0, s1, s2⟩ := hSw; go_simp
          try simp only [List.getElem_toArray, List.getElem_cons_zero, List.getElem_cons_succ, Act.put, List.setIfInBounds_toArray, List.set_cons_zero, List.set_cons_succ]
          refine wpAnyH_take (i := 35) (v := (.bool false)) rfl (by kernel_rfl) (by kernel_rfl) (by kernel_rfl) (fun _ _ _ h => h) (Or.inl ⟨by rfl, ?_⟩) hHeld ?_
          · intro w hSw; go_simp
          try simp only [List.getElem_toArray, List.getElem_cons_zero, List.getElem_cons_succ, Act.put, List.setIfInBounds_toArray, List.set_cons_zero, List.set_cons_succ]
          refine wpAnyH_take (i := 36) (v := (.bool false)) rfl (by kernel_rfl) (by kernel_rfl) (by kernel_rfl) (fun _ _ _ h => h) (Or.inl ⟨by rfl, ?_⟩) hHeld ?_
          · intro w hSw; go_simp
          try simp only [List.getElem_toArray, List.getElem_cons_zero, List.getElem_cons_succ, Act.put, List.setIfInBounds_toArray, List.set_cons_zero, List.set_cons_succ]
          refine wpAnyH_done (by kernel_rfl) ?_ _
          clear hHeld KS K5
          go_wp2
          go_roundw
          case rel => exact ⟨i + 1, y, by simp, by omega, Q⟩
          case measure => simp [intOf]; omega
    · obtain rfl : i = N := by omega
      go_wp2
      go_ret
      exact ⟨rfl, P.out.lw.below⟩
end Go.Proofs.Ytipnnjhbhkohnaa
