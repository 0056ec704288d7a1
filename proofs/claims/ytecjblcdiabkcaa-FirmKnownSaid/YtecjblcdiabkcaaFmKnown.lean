/- FirmKnown. -/
import Derived.Test.YtecjblcdiabkcaaFmAwake
namespace Go.Proofs.Ytecjblcdiabkcaa
open Go.RowKit
set_option linter.unusedVariables false
set_option linter.unusedSimpArgs false

set_option maxHeartbeats 6400000 in
set_option maxRecDepth 100000 in
theorem FirmKnown_ret (w : World) : Calls Try.prog 3 #[] w (RetB (.bool true) w) := by
  have A0 := Lib.hid (awake16_any w)
  go_enter Try.func3, Try.ntmps3
  go_wp2_with fail
  refine (A0.out).mono ?_; rintro e b0w ⟨rfl, b0⟩
  have F := Lib.hid ((Lw.start w).on b0)
  clear b0
  go_wp2_with fail
  refine (wnew_bad _ (2) (1) (by decide)).mono ?_
  rintro e w1 ⟨rfl, hb⟩
  replace F := Lib.hid (F.out.on hb)
  clear hb
  go_wp2_with fail
  refine (wnew_bad _ (0) (65) (by decide)).mono ?_
  rintro e w1 ⟨rfl, hb⟩
  replace F := Lib.hid (F.out.on hb)
  clear hb
  go_wp2_with fail
  refine (wnew_bad _ (-1) (1) (by decide)).mono ?_
  rintro e w1 ⟨rfl, hb⟩
  replace F := Lib.hid (F.out.on hb)
  clear hb
  go_wp2_with fail
  refine (wnew (fun _ => 0) 1 _ 2 3 (by decide) (by decide) (by decide)).mono ?_
  rintro e w1 ⟨a, rfl, o1, st, h1⟩
  replace F := Lib.hid (And.intro h1 (F.out.step st (by decide)))
  clear h1 st
  go_wp2_with fail
  refine (wworst (L := []) 0 false F.out.1 (by decide) (by decide) (by decide)).mono ?_
  rintro e w1 ⟨rfl, nq, rfl⟩
  replace F := Lib.hid (And.intro (F.out.1.drewN nq) (F.out.2.drewN nq))
  generalize World.drewN _ nq = w1 at *
  go_wp2_with fail
  refine (wmay (L := []) (2) true F.out.1 (by decide) (by decide +kernel)).mono ?_
  rintro e w1 ⟨rfl, hb⟩
  replace F := Lib.hid (And.intro (F.out.1.below hb) (F.out.2.on hb))
  clear hb
  go_wp2_with fail
  refine (wmay (L := []) (3) false F.out.1 (by decide) (by decide +kernel)).mono ?_
  rintro e w1 ⟨rfl, hb⟩
  replace F := Lib.hid (And.intro (F.out.1.below hb) (F.out.2.on hb))
  clear hb
  go_wp2_with fail
  refine (wadd true true [true] F.out.1 (by decide) rfl (by decide)).mono ?_
  rintro e w1 ⟨rfl, o1, st, h1⟩
  replace F := Lib.hid (And.intro h1 (F.out.2.step st (by decide)))
  clear h1 st
  go_wp2_with fail
  refine (wadd true true [true, true] F.out.1 (by decide) rfl (by decide)).mono ?_
  rintro e w1 ⟨rfl, o1, st, h1⟩
  replace F := Lib.hid (And.intro h1 (F.out.2.step st (by decide)))
  clear h1 st
  go_wp2_with fail
  refine (wmay (L := [true, true]) (1) true F.out.1 (by decide) (by decide +kernel)).mono ?_
  rintro e w1 ⟨rfl, hb⟩
  replace F := Lib.hid (And.intro (F.out.1.below hb) (F.out.2.on hb))
  clear hb
  go_wp2_with fail
  refine (wmay (L := [true, true]) (2) false F.out.1 (by decide) (by decide +kernel)).mono ?_
  rintro e w1 ⟨rfl, hb⟩
  replace F := Lib.hid (And.intro (F.out.1.below hb) (F.out.2.on hb))
  clear hb
  go_wp2_with fail
  refine (wadd false true [true, true, false] F.out.1 (by decide) rfl (by decide)).mono ?_
  rintro e w1 ⟨rfl, o1, st, h1⟩
  replace F := Lib.hid (And.intro h1 (F.out.2.step st (by decide)))
  clear h1 st
  go_wp2_with fail
  refine (wworst (L := [true, true, false]) 2 true F.out.1 (by decide) (by decide) (by decide)).mono ?_
  rintro e w1 ⟨rfl, nq, rfl⟩
  replace F := Lib.hid (And.intro (F.out.1.drewN nq) (F.out.2.drewN nq))
  generalize World.drewN _ nq = w1 at *
  go_wp2_with fail
  refine (wnew o1 2 _ 0 4 (by decide) (by decide) (by decide)).mono ?_
  rintro e w1 ⟨z, rfl, o2, st, h1⟩
  replace F := Lib.hid (And.intro h1 (And.intro (F.out.1.step st (by decide)) (F.out.2.step st (by decide))))
  clear h1 st
  go_wp2_with fail
  refine (wmay (L := []) (1099511627776) true F.out.1 (by decide) (by decide +kernel)).mono ?_
  rintro e w1 ⟨rfl, hb⟩
  replace F := Lib.hid (And.intro (F.out.1.below hb) (And.intro (F.out.2.1.below hb) (F.out.2.2.on hb)))
  clear hb
  go_wp2_with fail
  refine (wmay (L := [true, true, false]) (1) false F.out.2.1 (by decide) (by decide +kernel)).mono ?_
  rintro e w1 ⟨rfl, hb⟩
  replace F := Lib.hid (And.intro (F.out.1.below hb) (And.intro (F.out.2.1.below hb) (F.out.2.2.on hb)))
  clear hb
  go_wp2_with fail
  refine (wmay (L := [true, true, false]) (-1) true F.out.2.1 (by decide) (by decide +kernel)).mono ?_
  rintro e w1 ⟨rfl, hb⟩
  replace F := Lib.hid (And.intro (F.out.1.below hb) (And.intro (F.out.2.1.below hb) (F.out.2.2.on hb)))
  clear hb
  go_wp2
  go_ret
  exact ⟨rfl, F.out.2.2.below⟩
end Go.Proofs.Ytecjblcdiabkcaa
