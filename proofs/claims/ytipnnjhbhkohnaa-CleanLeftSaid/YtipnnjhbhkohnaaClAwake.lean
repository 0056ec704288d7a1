/- Package clean at known lives: what the statements ask first; CleanKnown. -/
import Derived.Test.YtipnnjhbhkohnaaCl1
import Derived.Test.YtipnnjhbhkohnaaClRef
namespace Go.Proofs.Ytipnnjhbhkohnaa
open Go.RowKit
set_option linter.unusedVariables false
set_option linter.unusedSimpArgs false

set_option maxHeartbeats 6400000 in
theorem awake17_any (w : World) : Calls Try.prog 7 #[] w (RetB (.bool true) w) := by
  go_enter Try.func7, Try.ntmps7
  go_wp2_with fail
  refine (cnew (fun _ => 0) 1 _ 2 3 1 (by decide) (by decide) (by decide) (by decide) (by decide)).mono ?_
  rintro e wz1 ⟨x, rfl, oz1, st1, h1⟩
  have F : Hid (CfAt 39 oz1 1 wz1 x (Lf.mk 2 3 1 0 0 0) ∧ Lw w oz1 wz1) := ⟨h1, (Lw.start w).step st1 (by decide)⟩
  clear h1 st1
  go_wp2_with fail
  refine (cleft (x := (Lf.mk 2 3 1 0 0 0)) 3 F.out.1 (by constructor <;> simp) (by rfl)).mono ?_
  rintro e w3 ⟨rfl, n3, rfl⟩
  replace F := Lib.hid (And.intro ((F.out.1).drewN n3) ((F.out.2).drewN n3))
  generalize wz1.drewN n3 = wz2 at *
  go_wp2_with fail
  refine (crun (x := (Lf.mk 2 3 1 0 0 0)) true (Lf.mk 2 3 1 1 0 0) F.out.1 (by constructor <;> simp) (by rfl) (by rfl)).mono ?_
  rintro e wz3 ⟨rfl, st2, h2⟩
  replace F := Lib.hid (And.intro h2 ((F.out.2).step st2 (by decide)))
  clear h2 st2
  go_wp2_with fail
  refine (crun (x := (Lf.mk 2 3 1 1 0 0)) true (Lf.mk 2 3 1 2 0 1) F.out.1 (by constructor <;> simp) (by rfl) (by rfl)).mono ?_
  rintro e wz4 ⟨rfl, st2, h2⟩
  replace F := Lib.hid (And.intro h2 ((F.out.2).step st2 (by decide)))
  clear h2 st2
  go_wp2_with fail
  refine (cstage (x := (Lf.mk 2 3 1 2 0 1)) F.out.1).mono ?_
  rintro e w3 ⟨rfl, n3, rfl⟩
  replace F := Lib.hid (And.intro ((F.out.1).drewN n3) ((F.out.2).drewN n3))
  generalize wz4.drewN n3 = wz5 at *
  go_wp2_with fail
  refine (crun (x := (Lf.mk 2 3 1 2 0 1)) true (Lf.mk 2 3 1 2 1 3) F.out.1 (by constructor <;> simp) (by rfl) (by rfl)).mono ?_
  rintro e wz6 ⟨rfl, st2, h2⟩
  replace F := Lib.hid (And.intro h2 ((F.out.2).step st2 (by decide)))
  clear h2 st2
  go_wp2_with fail
  refine (cstage (x := (Lf.mk 2 3 1 2 1 3)) F.out.1).mono ?_
  rintro e w3 ⟨rfl, n3, rfl⟩
  replace F := Lib.hid (And.intro ((F.out.1).drewN n3) ((F.out.2).drewN n3))
  generalize wz6.drewN n3 = wz7 at *
  go_wp2_with fail
  refine (crun (x := (Lf.mk 2 3 1 2 1 3)) false (Lf.mk 2 3 1 2 1 3) F.out.1 (by constructor <;> simp) (by rfl) (by rfl)).mono ?_
  rintro e wz8 ⟨rfl, st2, h2⟩
  replace F := Lib.hid (And.intro h2 ((F.out.2).step st2 (by decide)))
  clear h2 st2
  go_wp2
  go_ret
  exact ⟨rfl, F.out.2.below⟩
set_option maxHeartbeats 12800000 in
theorem CleanKnown_ret (w : World) : Calls Try.prog 3 #[] w (RetB (.bool true) w) := by
  have A0 := Lib.hid (awake17_any w)
  go_enter Try.func3, Try.ntmps3
  go_wp2_with fail
  refine (A0.out).mono ?_; rintro e b0w ⟨rfl, b0⟩
  go_wp2_with fail
  refine (cnew_bad _ 0 1 1 (by decide)).mono ?_
  rintro e w1 ⟨rfl, rfl⟩
  go_wp2_with fail
  refine (cnew_bad _ 1 1 101 (by decide)).mono ?_
  rintro e w1 ⟨rfl, rfl⟩
  go_wp2_with fail
  refine (cnew (fun _ => 0) 1 _ 5 2 3 (by decide) (by decide) (by decide) (by decide) (by decide)).mono ?_
  rintro e wz1 ⟨x, rfl, oz1, st1, h1⟩
  have F : Hid (CfAt 39 oz1 1 wz1 x (Lf.mk 5 2 3 0 0 0) ∧ Lw w oz1 wz1) := ⟨h1, ((Lw.start w).on b0).step st1 (by decide)⟩
  clear h1 st1
  clear b0
  go_wp2_with fail
  refine (ccharge (x := (Lf.mk 5 2 3 0 0 0)) 8 F.out.1 (by constructor <;> simp) (by rfl)).mono ?_
  rintro e w3 ⟨rfl, n3, rfl⟩
  replace F := Lib.hid (And.intro ((F.out.1).drewN n3) ((F.out.2).drewN n3))
  generalize wz1.drewN n3 = wz2 at *
  go_wp2_with fail
  refine (crun (x := (Lf.mk 5 2 3 0 0 0)) true (Lf.mk 5 2 3 1 0 0) F.out.1 (by constructor <;> simp) (by rfl) (by rfl)).mono ?_
  rintro e wz3 ⟨rfl, st2, h2⟩
  replace F := Lib.hid (And.intro h2 ((F.out.2).step st2 (by decide)))
  clear h2 st2
  go_wp2_with fail
  refine (cabort (x := (Lf.mk 5 2 3 1 0 0)) 0 (Lf.mk 5 2 3 1 0 1) F.out.1 (by rfl) (by rfl)).mono ?_
  rintro e wz4 ⟨rfl, st2, h2⟩
  replace F := Lib.hid (And.intro h2 ((F.out.2).step st2 (by decide)))
  clear h2 st2
  go_wp2_with fail
  refine (cabort (x := (Lf.mk 5 2 3 1 0 1)) 4 (Lf.mk 5 2 3 1 0 1) F.out.1 (by rfl) (by rfl)).mono ?_
  rintro e wz5 ⟨rfl, st2, h2⟩
  replace F := Lib.hid (And.intro h2 ((F.out.2).step st2 (by decide)))
  clear h2 st2
  go_wp2_with fail
  refine (cused (x := (Lf.mk 5 2 3 1 0 1)) F.out.1).mono ?_
  rintro e w3 ⟨rfl, n3, rfl⟩
  replace F := Lib.hid (And.intro ((F.out.1).drewN n3) ((F.out.2).drewN n3))
  generalize wz5.drewN n3 = wz6 at *
  go_wp2_with fail
  refine (cleft (x := (Lf.mk 5 2 3 1 0 1)) 3 F.out.1 (by constructor <;> simp) (by rfl)).mono ?_
  rintro e w3 ⟨rfl, n3, rfl⟩
  replace F := Lib.hid (And.intro ((F.out.1).drewN n3) ((F.out.2).drewN n3))
  generalize wz6.drewN n3 = wz7 at *
  go_wp2_with fail
  refine (cnew oz1 2 _ 5 5 0 (by decide) (by decide) (by decide) (by decide) (by decide)).mono ?_
  rintro e wz8 ⟨y, rfl, oz8, st1, h1⟩
  replace F := Lib.hid (And.intro ((F.out.1).step st1 (by decide)) (And.intro h1 ((F.out.2).step st1 (by decide))))
  clear h1 st1
  go_wp2
  go_loopw [15] (fun s wr => ∃ (i : Nat) (o : Nat → Nat), s = .int .i64 (i : Int) ∧ i ≤ 5 ∧ Hid (CfAt 39 o 1 wr x (Lf.mk 5 2 3 1 0 1) ∧ CfAt 39 o 2 wr y ⟨5, 5, 0, i, 0, if i = 5 then 2 else 0⟩ ∧ Lw w o wr)) (fun st _ => 5 - (intOf st).toNat)
  case atStart => exact ⟨0, _, rfl, by omega, F⟩
  case round =>
    clear F
    obtain ⟨i, o, rfl, hi, F⟩ := hrel
    rcases Nat.lt_or_ge i 5 with hlt | hge
    · have z1 : (i : Int) < 5 := by omega
      have hxo : (Lf.mk 5 5 0 i 0 (if i = 5 then 2 else 0)).Ok := by rw [if_neg (by omega)]; constructor <;> simp <;> omega
      have hrun : (Lf.mk 5 5 0 i 0 (if i = 5 then 2 else 0)).run = ⟨5, 5, 0, i + 1, 0, if i + 1 = 5 then 2 else 0⟩ := by
        rw [if_neg (by omega)]
        unfold Lf.run
        simp only [if_true]
        by_cases e : i + 1 = 5
        · simp [e]
        · simp [e]
      go_wp2_with fail
      refine (crun true _ F.out.2.1 hxo (by rw [if_neg (by omega)]; rfl) hrun).mono ?_
      rintro e w2 ⟨rfl, st2, h2⟩
      replace F := Lib.hid (And.intro (F.out.1.step st2 (by decide)) (And.intro h2 (F.out.2.2.step st2 (by decide))))
      clear h2 st2 hxo hrun
      go_wp2
      go_roundw
      case rel => exact ⟨i + 1, o, by simp, by omega, F⟩
      case measure => simp [intOf]; omega
    · obtain rfl : i = 5 := by omega
      have F2 : Hid (CfAt 39 o 1 wr x (Lf.mk 5 2 3 1 0 1) ∧ CfAt 39 o 2 wr y (Lf.mk 5 5 0 5 0 2) ∧ Lw w o wr) := F
      replace F := F2
      clear F2
      have z1 : decide (((5 : Nat) : Int) < 5) = false := by decide
      go_wp2_with fail
      refine (cnew o 3 _ 5 5 0 (by decide) (by decide) (by decide) (by decide) (by decide)).mono ?_
      rintro e wz9 ⟨z, rfl, oz9, st1, h1⟩
      replace F := Lib.hid (And.intro ((F.out.1).step st1 (by decide)) (And.intro ((F.out.2.1).step st1 (by decide)) (And.intro h1 ((F.out.2.2).step st1 (by decide)))))
      clear h1 st1
      go_wp2_with fail
      refine (cabort (x := (Lf.mk 5 5 0 0 0 0)) 0 (Lf.mk 5 5 0 0 0 3) F.out.2.2.1 (by rfl) (by rfl)).mono ?_
      rintro e wz10 ⟨rfl, st2, h2⟩
      replace F := Lib.hid (And.intro ((F.out.1).step st2 (by decide)) (And.intro ((F.out.2.1).step st2 (by decide)) (And.intro h2 ((F.out.2.2.2).step st2 (by decide)))))
      clear h2 st2
      go_wp2_with fail
      refine (ccharge (x := (Lf.mk 5 2 3 1 0 1)) 3 F.out.1 (by constructor <;> simp) (by rfl)).mono ?_
      rintro e w3 ⟨rfl, n3, rfl⟩
      replace F := Lib.hid (And.intro ((F.out.1).drewN n3) (And.intro ((F.out.2.1).drewN n3) (And.intro ((F.out.2.2.1).drewN n3) ((F.out.2.2.2).drewN n3))))
      generalize wz10.drewN n3 = wz11 at *
      go_wp2_with fail
      refine (cstage (x := (Lf.mk 5 5 0 5 0 2)) F.out.2.1).mono ?_
      rintro e w3 ⟨rfl, n3, rfl⟩
      replace F := Lib.hid (And.intro ((F.out.1).drewN n3) (And.intro ((F.out.2.1).drewN n3) (And.intro ((F.out.2.2.1).drewN n3) ((F.out.2.2.2).drewN n3))))
      generalize wz11.drewN n3 = wz12 at *
      go_wp2_with fail
      refine (ccharge (x := (Lf.mk 5 5 0 5 0 2)) 0 F.out.2.1 (by constructor <;> simp) (by rfl)).mono ?_
      rintro e w3 ⟨rfl, n3, rfl⟩
      replace F := Lib.hid (And.intro ((F.out.1).drewN n3) (And.intro ((F.out.2.1).drewN n3) (And.intro ((F.out.2.2.1).drewN n3) ((F.out.2.2.2).drewN n3))))
      generalize wz12.drewN n3 = wz13 at *
      go_wp2_with fail
      refine (cstage (x := (Lf.mk 5 5 0 0 0 3)) F.out.2.2.1).mono ?_
      rintro e w3 ⟨rfl, n3, rfl⟩
      replace F := Lib.hid (And.intro ((F.out.1).drewN n3) (And.intro ((F.out.2.1).drewN n3) (And.intro ((F.out.2.2.1).drewN n3) ((F.out.2.2.2).drewN n3))))
      generalize wz13.drewN n3 = wz14 at *
      go_wp2_with fail
      refine (cabort (x := (Lf.mk 5 5 0 5 0 2)) 4 (Lf.mk 5 5 0 5 0 2) F.out.2.1 (by rfl) (by rfl)).mono ?_
      rintro e wz15 ⟨rfl, st2, h2⟩
      replace F := Lib.hid (And.intro ((F.out.1).step st2 (by decide)) (And.intro h2 (And.intro ((F.out.2.2.1).step st2 (by decide)) ((F.out.2.2.2).step st2 (by decide)))))
      clear h2 st2
      go_wp2
      go_ret
      exact ⟨rfl, F.out.2.2.2.below⟩
end Go.Proofs.Ytipnnjhbhkohnaa
