/- What the statements ask first: a place that is used again. -/
import Derived.Test.YtenokhdfbomkkaaArS5
namespace Go.Proofs.Ytenokhdfbomkkaa
open Go.RowKit
set_option linter.unusedVariables false
set_option linter.unusedSimpArgs false

set_option maxHeartbeats 3200000 in
set_option maxRecDepth 100000 in
theorem awake_any (w : World) : Calls Try.prog 8 #[] w (RetB (.bool true) w) := by
  have C1 := Lib.hid (new_s (fun _ => 0) 1 w 4 (by decide) (by decide))
  go_enter Try.func8, Try.ntmps8
  go_wp2_with fail
  refine C1.out.mono ?_
  rintro e w1 ⟨rfl, o1, vs1, vf1, st1, h1⟩
  go_wp2_with fail
  refine (put_new_s _ h1 (by decide) (by decide)).mono ?_
  rintro e w2 ⟨rfl, o2, vs2, vf2, st2, h2⟩
  go_wp2_with fail
  have h2a := h2.alloc (.cells #[.int .i64 0, .int .i64 1] 28) 2
  have l2 := (((Lw.start w).step st1 (by decide)).step st2 (by decide)).alloc (.cells #[.int .i64 0, .int .i64 1] 28) 2
  refine (free_at_s (i := 0) h2a rfl rfl (by decide) (by decide) (by decide)).mono ?_
  rintro e w3 ⟨rfl, o3, vs3, vf3, st3, h3⟩
  have l3 := l2.step st3 (by decide)
  clear h1 h2 h2a st1 st2 st3 l2
  go_wp2_with fail
  refine (put_pop_s (s := (⟨#[]⟩, 1, false)) (p := 0) (fr := []) _ h3 rfl (by decide) (by decide) (by decide) (by decide)).mono ?_
  rintro e w4 ⟨rfl, o4, vs4, vf4, st4, h4⟩
  have l4 := l3.step st4 (by decide)
  clear h3 st4 l3
  go_wp2_with fail
  have h4a := h4.alloc (.cells #[.int .i64 0, .int .i64 2] 28) 2
  have l4a := l4.alloc (.cells #[.int .i64 0, .int .i64 2] 28) 2
  refine (get_at_s (i := 0) h4a rfl rfl (by decide) (by decide)).mono ?_
  rintro e w5 ⟨rfl, hb5⟩
  have l5 := l4a.on hb5
  have d0 : w5.cell? ⟨w4.heap.size, 0, none⟩ = some (.int .i64 0) := by rw [hb5.cell (p := ⟨w4.heap.size, 0, none⟩) (by simp)]; simp
  have d1 : w5.cell? ⟨w4.heap.size, 1, none⟩ = some (.int .i64 2) := by rw [hb5.cell (p := ⟨w4.heap.size, 1, none⟩) (by simp)]; simp
  have L := Lib.hid l5.below
  clear h4 h4a l4 l4a l5 hb5
  go_wp2
  go_ret
  exact ⟨rfl, L.out⟩
end Go.Proofs.Ytenokhdfbomkkaa
