/- CleanLeft, CleanWithin. -/
import Derived.Test.YtipnnjhbhkohnaaClAwake
namespace Go.Proofs.Ytipnnjhbhkohnaa
open Go.RowKit
set_option linter.unusedVariables false
set_option linter.unusedSimpArgs false

/-- Never aborted from without: it is cleaned only where it needs more than its budget. -/
def Nab (x : Lf) : Prop := x.st = 1 ∨ x.st = 3 → x.b < x.a
theorem nab_run {x : Lf} (h : x.Ok) (hn : Nab x) : Nab x.run := by
  obtain ⟨b, a, c, r, cl, st⟩ := x
  obtain ⟨h1, h2, h3, h4, h5, h6, h7, h8, h9, h10⟩ := h
  unfold Nab at *
  simp only at *
  unfold Lf.run
  simp only
  repeat' split
  all_goals (simp only; omega)
theorem left_new (b a c : Nat) : (Lf.new b a c).left = if b < a then b + c else a := by
  unfold Lf.left Lf.new
  simp only [if_true]
  by_cases h : a ≤ b
  · rw [if_pos h, if_neg (by omega)]; omega
  · rw [if_neg h, if_pos (by omega)]; omega
set_option maxHeartbeats 6400000 in
theorem CleanLeft_ret (b a c : Int) (w : World) (f1 : fitB b = true) (f2 : fitB a = true) (f3 : fitB c = true) :
    Calls Try.prog 6 #[.int .i64 b, .int .i64 a, .int .i64 c] w (RetB (.bool true) w) := by
  have A0 := Lib.hid (awake17_any w)
  clear f1 f2 f3
  go_enter Try.func6, Try.ntmps6
  go_wp2_with fail
  refine (A0.out).mono ?_; rintro e b0w ⟨rfl, b0⟩
  by_cases k1 : b < 1
  · go_wp2
    go_ret
    exact ⟨rfl, by have s0 := b0.size; (try simp only [World.heap_drewN, World.size_alloc] at s0); repeat (first | exact Below.refl _ _ | exact b0 | refine Below.trans ?_ (Below.mono b0 (by first | omega | (simp; done) | (simp; omega))) | refine Below.setCell ?_ (by first | omega | (simp; done) | (simp; omega)) _ | refine below_dN ?_ _ | refine Below.drew ?_ | refine Below.alloc ?_ (by first | omega | (simp; done) | (simp; omega)) _)⟩
  have k1' : decide (b < 1) = false := decide_eq_false k1
  by_cases k2 : b > 200
  · go_wp2
    go_ret
    exact ⟨rfl, by have s0 := b0.size; (try simp only [World.heap_drewN, World.size_alloc] at s0); repeat (first | exact Below.refl _ _ | exact b0 | refine Below.trans ?_ (Below.mono b0 (by first | omega | (simp; done) | (simp; omega))) | refine Below.setCell ?_ (by first | omega | (simp; done) | (simp; omega)) _ | refine below_dN ?_ _ | refine Below.drew ?_ | refine Below.alloc ?_ (by first | omega | (simp; done) | (simp; omega)) _)⟩
  have k2' : decide (b > 200) = false := decide_eq_false k2
  by_cases k3 : a < 1
  · go_wp2
    go_ret
    exact ⟨rfl, by have s0 := b0.size; (try simp only [World.heap_drewN, World.size_alloc] at s0); repeat (first | exact Below.refl _ _ | exact b0 | refine Below.trans ?_ (Below.mono b0 (by first | omega | (simp; done) | (simp; omega))) | refine Below.setCell ?_ (by first | omega | (simp; done) | (simp; omega)) _ | refine below_dN ?_ _ | refine Below.drew ?_ | refine Below.alloc ?_ (by first | omega | (simp; done) | (simp; omega)) _)⟩
  have k3' : decide (a < 1) = false := decide_eq_false k3
  by_cases k4 : a > 1000
  · go_wp2
    go_ret
    exact ⟨rfl, by have s0 := b0.size; (try simp only [World.heap_drewN, World.size_alloc] at s0); repeat (first | exact Below.refl _ _ | exact b0 | refine Below.trans ?_ (Below.mono b0 (by first | omega | (simp; done) | (simp; omega))) | refine Below.setCell ?_ (by first | omega | (simp; done) | (simp; omega)) _ | refine below_dN ?_ _ | refine Below.drew ?_ | refine Below.alloc ?_ (by first | omega | (simp; done) | (simp; omega)) _)⟩
  have k4' : decide (a > 1000) = false := decide_eq_false k4
  by_cases k5 : c < 0
  · go_wp2
    go_ret
    exact ⟨rfl, by have s0 := b0.size; (try simp only [World.heap_drewN, World.size_alloc] at s0); repeat (first | exact Below.refl _ _ | exact b0 | refine Below.trans ?_ (Below.mono b0 (by first | omega | (simp; done) | (simp; omega))) | refine Below.setCell ?_ (by first | omega | (simp; done) | (simp; omega)) _ | refine below_dN ?_ _ | refine Below.drew ?_ | refine Below.alloc ?_ (by first | omega | (simp; done) | (simp; omega)) _)⟩
  have k5' : decide (c < 0) = false := decide_eq_false k5
  by_cases k6 : c > 100
  · go_wp2
    go_ret
    exact ⟨rfl, by have s0 := b0.size; (try simp only [World.heap_drewN, World.size_alloc] at s0); repeat (first | exact Below.refl _ _ | exact b0 | refine Below.trans ?_ (Below.mono b0 (by first | omega | (simp; done) | (simp; omega))) | refine Below.setCell ?_ (by first | omega | (simp; done) | (simp; omega)) _ | refine below_dN ?_ _ | refine Below.drew ?_ | refine Below.alloc ?_ (by first | omega | (simp; done) | (simp; omega)) _)⟩
  have k6' : decide (c > 100) = false := decide_eq_false k6
  obtain ⟨b, rfl⟩ : ∃ n : Nat, b = n := ⟨b.toNat, by omega⟩
  obtain ⟨a, rfl⟩ : ∃ n : Nat, a = n := ⟨a.toNat, by omega⟩
  obtain ⟨c, rfl⟩ : ∃ n : Nat, c = n := ⟨c.toNat, by omega⟩
  have hok : (Lf.new b a c).Ok := Lf.new_ok (by omega) (by omega) (by omega) (by omega) (by omega)
  have hnw := left_new b a c
  go_wp2_with fail
  refine (cnew (fun _ => 0) 1 _ b a c (by omega) (by omega) (by omega) (by omega) (by omega)).mono ?_
  rintro e w1 ⟨p, rfl, o1, st1, h1⟩
  have F : Hid (CfAt 39 o1 1 w1 p (Lf.new b a c) ∧ Lw w o1 w1) := ⟨h1, ((Lw.start w).on b0).step st1 (by decide)⟩
  have hb2 : b ≤ 200 := by omega
  have ha2 : a ≤ 1000 := by omega
  have hc2 : c ≤ 100 := by omega
  obtain ⟨W, hW⟩ : ∃ W : Nat, (Lf.new b a c).left = W := ⟨_, rfl⟩
  rw [hW] at hnw
  clear h1 st1 b0 k1 k2 k3 k4 k5 k6
  have main : ∀ wx : World, wx = w1 → True := fun _ _ => trivial
  clear main
  by_cases hab : b < a
  · rw [if_pos hab] at hnw
    have q1 : (a : Int) > (b : Int) := by omega
    have q2 : wrap64 ((b : Int) + (c : Int)) = (W : Int) := by unfold wrap64; omega
    have hW2 : W = b + c := hnw
    have hWl : W ≤ 1000 := by omega
    have hrs : ((b : Int) + (c : Int)) = (W : Int) := by omega
    clear hnw hW2
    go_wp2
    go_loopw [10] (fun s10 wr => ∃ (n : Nat) (y : Lf), s10 = .int .i64 (n : Int) ∧ n ≤ W ∧ Hid (CfAt 39 o1 1 wr p y ∧ Lw w o1 wr ∧ y.Ok ∧ Nab y ∧ y.left = n ∧ y.b = b ∧ y.a = a)) (fun st _ => (intOf st).toNat)
    case atStart => exact ⟨W, Lf.new b a c, by first | rfl | simp [q2] | simp [hrs], by omega, Lib.hid ⟨F.out.1, F.out.2, hok, by unfold Nab Lf.new; simp, hW, rfl, rfl⟩⟩
    case round =>
      obtain ⟨n, y, rfl, hn, G⟩ := hrel
      clear F
      rcases Nat.eq_zero_or_pos n with h0 | h0
      · subst h0
        have hs : ¬ y.st ≤ 1 := fun hs => by have := Lf.left_some G.out.2.2.1 hs; have := G.out.2.2.2.2.1; omega
        have hy := G.out.2.2.1
        have C1 := Lib.hid (fun (w' : World) (h' : CfAt 39 o1 1 w' p y) => cleft 0 h' hy G.out.2.2.2.2.1)
        have C2 := Lib.hid (fun (w' : World) (h' : CfAt 39 o1 1 w' p y) => crun false y.run h' hy (decide_eq_false hs) rfl)
        have hrun : y.run = y := by unfold Lf.run; rw [if_neg (by omega), if_neg (by omega)]
        rw [hrun] at C2
        have hst : (((y.st : Int) == 3) = true ∧ b < a) ∨ (((y.st : Int) == 3) = false ∧ ¬ b < a) := by
          have h4 := hy.st
          have h5 := G.out.2.2.2.1
          unfold Nab at h5
          rw [G.out.2.2.2.2.2.1, G.out.2.2.2.2.2.2] at h5
          rcases (by omega : y.st = 2 ∨ y.st = 3) with e | e
          · obtain ⟨d1, d2, _⟩ := hy.don e
            rw [G.out.2.2.2.2.2.1] at d2
            rw [G.out.2.2.2.2.2.2] at d1
            exact .inr ⟨by rw [e]; decide, by omega⟩
          · exact .inl ⟨by rw [e]; decide, h5 (.inr e)⟩
        have C3 := Lib.hid (fun (w' : World) (h' : CfAt 39 o1 1 w' p y) => cstage h')
        obtain ⟨S, hS⟩ : ∃ S : Int, (y.st : Int) = S := ⟨_, rfl⟩
        rw [hS] at C3 hst
        have K := Lib.hid (And.intro G.out.1 G.out.2.1)
        clear G hs hy hrun hS
        obtain ⟨q8, _⟩ : (S == 3) = true ∧ b < a := by rcases hst with h | h; exact h; exact absurd hab h.2
        go_wp2_with fail
        refine (C1.out _ K.out.1).mono ?_
        rintro e w5 ⟨rfl, n5, rfl⟩
        replace K := Lib.hid (And.intro (K.out.1.drewN n5) (K.out.2.drewN n5))
        generalize wr.drewN n5 = w5 at *
        go_wp2_with fail
        refine (C2.out _ K.out.1).mono ?_
        rintro e w6 ⟨rfl, st6, h6⟩
        replace K := Lib.hid (And.intro h6 (K.out.2.step st6 (by decide)))
        clear st6 h6
        go_wp2_with fail
        refine (C3.out _ K.out.1).mono ?_
        rintro e w7 ⟨rfl, n7, rfl⟩
        replace K := Lib.hid (And.intro (K.out.1.drewN n7) (K.out.2.drewN n7))
        generalize w6.drewN n7 = w7 at *
        clear C1 C2 C3
        go_wp2
        go_ret
        exact ⟨rfl, K.out.2.below⟩
      · have hs : y.st ≤ 1 := by
          by_cases hs : y.st ≤ 1
          · exact hs
          · have := Lf.left_end hs; have := G.out.2.2.2.2.1; omega
        have hy := G.out.2.2.1
        have hlr := Lf.left_run hy hs
        have hlc := Lf.left_charge hy
        have hsm := Lf.same_run y
        obtain ⟨ch, hch⟩ : ∃ ch, y.charge = ch := ⟨_, rfl⟩
        have C1 := Lib.hid (fun (w' : World) (h' : CfAt 39 o1 1 w' p y) => cleft n h' hy G.out.2.2.2.2.1)
        have C4 := Lib.hid (fun (w' : World) (h' : CfAt 39 o1 1 w' p y) => ccharge ch h' hy hch)
        have C2 := Lib.hid (fun (w' : World) (h' : CfAt 39 o1 1 w' p y) => crun true y.run h' hy (decide_eq_true hs) rfl)
        rw [hch, G.out.2.2.2.2.1] at hlc
        rw [G.out.2.2.2.2.1] at hlr
        have I := Lib.hid (And.intro (Lf.ok_run hy) (And.intro (nab_run hy G.out.2.2.2.1) (And.intro (show y.run.left = n - 1 from by omega) (And.intro (hsm.1.trans G.out.2.2.2.2.2.1) (hsm.2.1.trans G.out.2.2.2.2.2.2)))))
        have K := Lib.hid (And.intro G.out.1 G.out.2.1)
        have z1 : (n : Int) > 0 := by omega
        have z2 : ((n : Int) != (n : Int)) = false := by simp
        have z3 : decide ((n : Int) > (ch : Int)) = false := decide_eq_false (by omega)
        have z4 : decide (ch < n) = false := decide_eq_false (by omega)
        clear G hs hy hlr hlc hsm hch
        go_wp2_with fail
        refine (C1.out _ K.out.1).mono ?_
        rintro e w5 ⟨rfl, n5, rfl⟩
        replace K := Lib.hid (And.intro (K.out.1.drewN n5) (K.out.2.drewN n5))
        generalize wr.drewN n5 = w5 at *
        go_wp2_with fail
        refine (C1.out _ K.out.1).mono ?_
        rintro e w6 ⟨rfl, n6, rfl⟩
        replace K := Lib.hid (And.intro (K.out.1.drewN n6) (K.out.2.drewN n6))
        generalize w5.drewN n6 = w6 at *
        go_wp2_with fail
        refine (C4.out _ K.out.1).mono ?_
        rintro e w7 ⟨rfl, n7, rfl⟩
        replace K := Lib.hid (And.intro (K.out.1.drewN n7) (K.out.2.drewN n7))
        generalize w6.drewN n7 = w7 at *
        go_wp2_with fail
        refine (C2.out _ K.out.1).mono ?_
        rintro e w8 ⟨rfl, st8, h8⟩
        replace K := Lib.hid (And.intro h8 (K.out.2.step st8 (by decide)))
        clear st8 h8 C1 C2 C4
        have z5 : wrap64 ((n : Int) - 1) = ((n - 1 : Nat) : Int) := by unfold wrap64; omega
        go_wp2
        go_roundw
        case rel => exact ⟨n - 1, y.run, by first | rfl | (simp; omega) | (simp only [Value.int.injEq, true_and]; omega), by omega, Lib.hid ⟨K.out.1, K.out.2, I.out.1, I.out.2.1, I.out.2.2.1, I.out.2.2.2.1, I.out.2.2.2.2⟩⟩
        case measure => simp [intOf]; omega
  · rw [if_neg hab] at hnw
    have q1 : decide ((a : Int) > (b : Int)) = false := decide_eq_false (by omega)
    have hW2 : W = a := hnw
    subst hW2
    have hWl : W ≤ 1000 := by omega
    clear hnw
    go_wp2
    go_loopw [10] (fun s10 wr => ∃ (n : Nat) (y : Lf), s10 = .int .i64 (n : Int) ∧ n ≤ W ∧ Hid (CfAt 39 o1 1 wr p y ∧ Lw w o1 wr ∧ y.Ok ∧ Nab y ∧ y.left = n ∧ y.b = b ∧ y.a = W)) (fun st _ => (intOf st).toNat)
    case atStart => exact ⟨W, Lf.new b W c, by first | rfl | simp [q2] | simp [hrs], by omega, Lib.hid ⟨F.out.1, F.out.2, hok, by unfold Nab Lf.new; simp, hW, rfl, rfl⟩⟩
    case round =>
      obtain ⟨n, y, rfl, hn, G⟩ := hrel
      clear F
      rcases Nat.eq_zero_or_pos n with h0 | h0
      · subst h0
        have hs : ¬ y.st ≤ 1 := fun hs => by have := Lf.left_some G.out.2.2.1 hs; have := G.out.2.2.2.2.1; omega
        have hy := G.out.2.2.1
        have C1 := Lib.hid (fun (w' : World) (h' : CfAt 39 o1 1 w' p y) => cleft 0 h' hy G.out.2.2.2.2.1)
        have C2 := Lib.hid (fun (w' : World) (h' : CfAt 39 o1 1 w' p y) => crun false y.run h' hy (decide_eq_false hs) rfl)
        have hrun : y.run = y := by unfold Lf.run; rw [if_neg (by omega), if_neg (by omega)]
        rw [hrun] at C2
        have hst : (((y.st : Int) == 3) = true ∧ b < W) ∨ (((y.st : Int) == 3) = false ∧ ¬ b < W) := by
          have h4 := hy.st
          have h5 := G.out.2.2.2.1
          unfold Nab at h5
          rw [G.out.2.2.2.2.2.1, G.out.2.2.2.2.2.2] at h5
          rcases (by omega : y.st = 2 ∨ y.st = 3) with e | e
          · obtain ⟨d1, d2, _⟩ := hy.don e
            rw [G.out.2.2.2.2.2.1] at d2
            rw [G.out.2.2.2.2.2.2] at d1
            exact .inr ⟨by rw [e]; decide, by omega⟩
          · exact .inl ⟨by rw [e]; decide, h5 (.inr e)⟩
        have C3 := Lib.hid (fun (w' : World) (h' : CfAt 39 o1 1 w' p y) => cstage h')
        obtain ⟨S, hS⟩ : ∃ S : Int, (y.st : Int) = S := ⟨_, rfl⟩
        rw [hS] at C3 hst
        have K := Lib.hid (And.intro G.out.1 G.out.2.1)
        clear G hs hy hrun hS
        obtain ⟨q8, _⟩ : (S == 3) = false ∧ ¬ b < W := by rcases hst with h | h; exact absurd h.2 hab; exact h
        go_wp2_with fail
        refine (C1.out _ K.out.1).mono ?_
        rintro e w5 ⟨rfl, n5, rfl⟩
        replace K := Lib.hid (And.intro (K.out.1.drewN n5) (K.out.2.drewN n5))
        generalize wr.drewN n5 = w5 at *
        go_wp2_with fail
        refine (C2.out _ K.out.1).mono ?_
        rintro e w6 ⟨rfl, st6, h6⟩
        replace K := Lib.hid (And.intro h6 (K.out.2.step st6 (by decide)))
        clear st6 h6
        go_wp2_with fail
        refine (C3.out _ K.out.1).mono ?_
        rintro e w7 ⟨rfl, n7, rfl⟩
        replace K := Lib.hid (And.intro (K.out.1.drewN n7) (K.out.2.drewN n7))
        generalize w6.drewN n7 = w7 at *
        clear C1 C2 C3
        go_wp2
        go_ret
        exact ⟨rfl, K.out.2.below⟩
      · have hs : y.st ≤ 1 := by
          by_cases hs : y.st ≤ 1
          · exact hs
          · have := Lf.left_end hs; have := G.out.2.2.2.2.1; omega
        have hy := G.out.2.2.1
        have hlr := Lf.left_run hy hs
        have hlc := Lf.left_charge hy
        have hsm := Lf.same_run y
        obtain ⟨ch, hch⟩ : ∃ ch, y.charge = ch := ⟨_, rfl⟩
        have C1 := Lib.hid (fun (w' : World) (h' : CfAt 39 o1 1 w' p y) => cleft n h' hy G.out.2.2.2.2.1)
        have C4 := Lib.hid (fun (w' : World) (h' : CfAt 39 o1 1 w' p y) => ccharge ch h' hy hch)
        have C2 := Lib.hid (fun (w' : World) (h' : CfAt 39 o1 1 w' p y) => crun true y.run h' hy (decide_eq_true hs) rfl)
        rw [hch, G.out.2.2.2.2.1] at hlc
        rw [G.out.2.2.2.2.1] at hlr
        have I := Lib.hid (And.intro (Lf.ok_run hy) (And.intro (nab_run hy G.out.2.2.2.1) (And.intro (show y.run.left = n - 1 from by omega) (And.intro (hsm.1.trans G.out.2.2.2.2.2.1) (hsm.2.1.trans G.out.2.2.2.2.2.2)))))
        have K := Lib.hid (And.intro G.out.1 G.out.2.1)
        have z1 : (n : Int) > 0 := by omega
        have z2 : ((n : Int) != (n : Int)) = false := by simp
        have z3 : decide ((n : Int) > (ch : Int)) = false := decide_eq_false (by omega)
        have z4 : decide (ch < n) = false := decide_eq_false (by omega)
        clear G hs hy hlr hlc hsm hch
        go_wp2_with fail
        refine (C1.out _ K.out.1).mono ?_
        rintro e w5 ⟨rfl, n5, rfl⟩
        replace K := Lib.hid (And.intro (K.out.1.drewN n5) (K.out.2.drewN n5))
        generalize wr.drewN n5 = w5 at *
        go_wp2_with fail
        refine (C1.out _ K.out.1).mono ?_
        rintro e w6 ⟨rfl, n6, rfl⟩
        replace K := Lib.hid (And.intro (K.out.1.drewN n6) (K.out.2.drewN n6))
        generalize w5.drewN n6 = w6 at *
        go_wp2_with fail
        refine (C4.out _ K.out.1).mono ?_
        rintro e w7 ⟨rfl, n7, rfl⟩
        replace K := Lib.hid (And.intro (K.out.1.drewN n7) (K.out.2.drewN n7))
        generalize w6.drewN n7 = w7 at *
        go_wp2_with fail
        refine (C2.out _ K.out.1).mono ?_
        rintro e w8 ⟨rfl, st8, h8⟩
        replace K := Lib.hid (And.intro h8 (K.out.2.step st8 (by decide)))
        clear st8 h8 C1 C2 C4
        have z5 : wrap64 ((n : Int) - 1) = ((n - 1 : Nat) : Int) := by unfold wrap64; omega
        go_wp2
        go_roundw
        case rel => exact ⟨n - 1, y.run, by first | rfl | (simp; omega) | (simp only [Value.int.injEq, true_and]; omega), by omega, Lib.hid ⟨K.out.1, K.out.2, I.out.1, I.out.2.1, I.out.2.2.1, I.out.2.2.2.1, I.out.2.2.2.2⟩⟩
        case measure => simp [intOf]; omega
end Go.Proofs.Ytipnnjhbhkohnaa
