/- What the statements of layer 16 ask first. -/
import Derived.Test.YtecjblcdiabkcaaFm1
import Derived.Deep.RegionHeld3
namespace Go.Proofs.Ytecjblcdiabkcaa
open Go.RowKit
set_option linter.unusedVariables false
set_option linter.unusedSimpArgs false

set_option maxHeartbeats 6400000 in
set_option maxRecDepth 100000 in
theorem awake16_any (w : World) : Calls Try.prog 7 #[] w (RetB (.bool true) w) := by
  go_enter Try.func7, Try.ntmps7
  have C := Lib.hid (wnew (fun _ => 0) 1 w 1 2 (by decide) (by decide) (by decide))
  go_wp2_with fail
  refine C.out.mono ?_
  rintro e w1 ⟨a, rfl, o1, st, h1⟩
  have l1 := (Lw.start w).step st (by decide)
  clear C st
  have C := Lib.hid (wadd true true [true] h1 (by decide) rfl rfl)
  go_wp2_with fail
  refine C.out.mono ?_
  rintro e w2 ⟨rfl, o2, st, h2⟩
  have l2 := l1.step st (by decide)
  clear C st h1 l1
  have C := Lib.hid (wadd false true [true, false] h2 (by decide) rfl rfl)
  go_wp2_with fail
  refine C.out.mono ?_
  rintro e w3 ⟨rfl, o3, st, h3⟩
  have l3 := l2.step st (by decide)
  clear C st h2 l2
  have C := Lib.hid (wadd false false [true, false, false] h3 (by decide) rfl rfl)
  go_wp2_with fail
  refine C.out.mono ?_
  rintro e w4 ⟨rfl, o4, st, h4⟩
  have l4 := l3.step st (by decide)
  clear C st h3 l3
  have C := Lib.hid (wbroken h4 (by decide))
  have L := Lib.hid l4.below
  clear l4 h4
  go_wp2_with fail
  refine C.out.mono ?_
  rintro e w5 ⟨v', rfl, hown, hb⟩
  have e : brkI 1 2 [true, false, false] [true, false, false].length = [2] := by decide
  rw [e] at hown
  obtain ⟨A, c, rfl⟩ := own_any hown
  have hr := Row.fresh 1 hown (fun _ => 0)
  have hl := L.out
  have R1 := hr.rdN.below ((Below.refl w5.heap.size w5).alloc (Nat.le_refl _) (.cells #[.int .i64 2] 3))
  have R2 : RdN (w5.alloc (.cells #[.int .i64 2] 3)) (some ⟨w5.heap.size, 0, none⟩) [2] := by
    intro i x hx
    match i, hx with
    | 0, hx => simp at hx; subst hx; exact ⟨w5.heap.size, rfl, by simp, by simp⟩
  obtain ⟨k1, k2⟩ := hr.capsM
  have C := Lib.hid (ints_any A (some ⟨w5.heap.size, 0, none⟩) c 1 [2] _ (by decide) R1 R2 k1 (by decide) k2 (by decide))
  have LL := Lib.hid ((below_on hl hb).alloc (below_on hl hb).size (.cells #[.int .i64 2] 3))
  clear hr hown R1 R2 e hb hl L
  go_wp2_with fail
  refine C.out.mono ?_
  rintro e w6 ⟨rfl, n6, rfl⟩
  go_wp2
  go_ret
  exact ⟨rfl, below_dN LL.out _⟩
end Go.Proofs.Ytecjblcdiabkcaa
