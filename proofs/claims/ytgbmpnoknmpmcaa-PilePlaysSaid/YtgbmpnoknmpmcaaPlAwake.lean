/- What the statements ask first; and what chapter 5 says of ties and of what is there already. -/
import Derived.Test.YtgbmpnoknmpmcaaPlOps3
namespace Go.Proofs.Ytgbmpnoknmpmcaa
open Go.RowKit
set_option linter.unusedVariables false
set_option linter.unusedSimpArgs false

set_option maxHeartbeats 3200000 in
set_option maxRecDepth 100000 in
theorem awake_any (w : World) : Calls Try.prog 8 #[] w (RetB (.bool true) w) := by
  have C1 := Lib.hid (pnew (fun _ => 0) 1 w 9 (by decide) (by decide))
  go_enter Try.func8, Try.ntmps8
  go_wp2_with fail
  refine C1.out.mono ?_
  rintro e w1 ⟨rfl, o1, v1, st1, h1⟩
  have i1 := PInv.start (room := 9) (by decide) (by decide)
  have C2 := Lib.hid (ppush (1, 5, 0) 0 [(1, 5, 0)] h1 i1 (by decide) (by decide))
  have l1 := (Lw.start w).step st1 (by decide)
  have i2 : PInv 9 [(1, 5, 0)] := i1.push (1, 5, 0)
  clear C1 h1 st1 i1
  go_wp2_with fail
  refine C2.out.mono ?_
  rintro e w2 ⟨rfl, o2, v2, st2, h2⟩
  have C3 := Lib.hid (ppush (2, 3, 0) 0 [(2, 3, 0), (1, 5, 0)] h2 i2 (by decide) (by decide))
  have l2 := l1.step st2 (by decide)
  have i3 : PInv 9 [(2, 3, 0), (1, 5, 0)] := i2.push (2, 3, 0)
  clear C2 h2 st2 l1 i2
  go_wp2_with fail
  refine C3.out.mono ?_
  rintro e w3 ⟨rfl, o3, v3, st3, h3⟩
  have C4 := Lib.hid (ptop (2, 3, 0) true h3 (by decide) rfl)
  have l3 := l2.step st3 (by decide)
  clear C3 st3 l2 i3
  go_wp2_with fail
  refine C4.out.mono ?_
  rintro e w4 ⟨rfl, b4⟩
  have h4 := (h3.below b4).alloc (.cells #[.int .i64 2, .int .i64 3, .int .i64 0] 29) 2
  have l4 := (l3.on b4).alloc (.cells #[.int .i64 2, .int .i64 3, .int .i64 0] 29) 2
  have C5 := Lib.hid (phas 1 true h4 (by decide) (by decide))
  clear C4 b4 l3 h3 h4
  unfold vI
  go_wp2_with fail
  refine C5.out.mono ?_
  rintro e w5 ⟨rfl, b5⟩
  have L := Lib.hid (l4.on b5).below
  clear C5 b5 l4
  go_wp2
  go_ret
  exact ⟨rfl, L.out⟩
set_option maxHeartbeats 6400000 in
set_option maxRecDepth 100000 in
theorem PileKnown_ret (w : World) : Calls Try.prog 3 #[] w (RetB (.bool true) w) := by
  have C0 := Lib.hid (awake_any w)
  go_enter Try.func3, Try.ntmps3
  go_wp2_with fail
  refine C0.out.mono ?_
  rintro e w0 ⟨rfl, b0⟩
  have l0 := (Lw.start w).on b0
  clear C0 b0
  have C1 := Lib.hid (pnew_bad w0 0 (by decide))
  go_wp2_with fail
  refine C1.out.mono ?_
  rintro e w1 ⟨rfl, rfl⟩
  clear C1
  have C2 := Lib.hid (pnew (fun _ => 0) 1 w1 2 (by decide) (by decide))
  go_wp2_with fail
  refine C2.out.mono ?_
  rintro e w2 ⟨rfl, o2, v2, st2, h2⟩
  have i2 := PInv.start (room := 2) (by decide) (by decide)
  have l2 := l0.step st2 (by decide)
  clear C2 st2 l0
  have C := Lib.hid (ppush (9, 1, 2) 0 [(9, 1, 2)] h2 i2 (by decide) (by decide))
  go_wp2_with fail
  refine C.out.mono ?_
  rintro e w3 ⟨rfl, o3, v3, st, h3⟩
  have i3 : PInv 2 [(9, 1, 2)] := i2.push (9, 1, 2)
  have l3 := l2.step st (by decide)
  clear C st h2 l2 i2
  have C := Lib.hid (ppush (9, 7, 0) 5 [(9, 1, 2)] h3 i3 (by decide) (by decide))
  go_wp2_with fail
  refine C.out.mono ?_
  rintro e w4 ⟨rfl, o4, v4, st, h4⟩
  have i4 : PInv 2 [(9, 1, 2)] := i3
  have l4 := l3.step st (by decide)
  clear C st h3 l3 i3
  have C := Lib.hid (ppush (3, 1, 2) 0 [(3, 1, 2), (9, 1, 2)] h4 i4 (by decide) (by decide))
  go_wp2_with fail
  refine C.out.mono ?_
  rintro e w5 ⟨rfl, o5, v5, st, h5⟩
  have i5 : PInv 2 [(3, 1, 2), (9, 1, 2)] := i4.push (3, 1, 2)
  have l5 := l4.step st (by decide)
  clear C st h4 l4 i4
  have C := Lib.hid (ppush (4, 0, 0) 6 [(3, 1, 2), (9, 1, 2)] h5 i5 (by decide) (by decide))
  go_wp2_with fail
  refine C.out.mono ?_
  rintro e w6 ⟨rfl, o6, v6, st, h6⟩
  have i6 : PInv 2 [(3, 1, 2), (9, 1, 2)] := i5
  have l6 := l5.step st (by decide)
  clear C st h5 l5 i5
  have C := Lib.hid (ptop (3, 1, 2) true h6 (by decide) rfl)
  go_wp2_with fail
  refine C.out.mono ?_
  rintro e w7 ⟨rfl, b7⟩
  unfold vI
  have h7 := (h6.below b7).alloc (.cells #[.int .i64 3, .int .i64 1, .int .i64 2] 29) 2
  have l7 := (l6.on b7).alloc (.cells #[.int .i64 3, .int .i64 1, .int .i64 2] 29) 2
  have x7 := Blk.made o6 2 w7 #[.int .i64 3, .int .i64 1, .int .i64 2] 29
  have i7 := i6
  clear C b7 h6 l6 i6
  have C := Lib.hid (pmove 3 2 0 [(9, 1, 2), (3, 2, 2)] h7 i7 (by decide) (by decide))
  go_wp2_with fail
  refine C.out.mono ?_
  rintro e w8 ⟨rfl, o8, v8, st, h8⟩
  have i8 : PInv 2 [(9, 1, 2), (3, 2, 2)] := i7.move 3 2
  have l8 := l7.step st (by decide)
  have x8 := x7.step st (by decide)
  clear C st h7 l7 i7 x7
  have C := Lib.hid (ppop (9, 1, 2) true h8 (by decide) rfl)
  go_wp2_with fail
  refine C.out.mono ?_
  rintro e w9 ⟨rfl, o9, v9, st, h9⟩
  unfold vI
  have i9 : PInv 2 [(3, 2, 2)] := i8.tail
  have l9 := l8.step st (by decide)
  have x9 := x8.step st (by decide)
  clear C st h8 l8 i8 x8
  have h10 := h9.alloc (.cells #[.int .i64 9, .int .i64 1, .int .i64 2] 29) 2
  have l10 := l9.alloc (.cells #[.int .i64 9, .int .i64 1, .int .i64 2] 29) 2
  have x10 := x9.alloc (.cells #[.int .i64 9, .int .i64 1, .int .i64 2] 29) 2
  have y10 := Blk.made o9 2 w9 #[.int .i64 9, .int .i64 1, .int .i64 2] 29
  clear h9 l9 x9
  have C := Lib.hid (pmove 8 1 4 [(3, 2, 2)] h10 i9 (by decide) (by decide))
  go_wp2_with fail
  refine C.out.mono ?_
  rintro e w11 ⟨rfl, o11, v11, st, h11⟩
  have l11 := l10.step st (by decide)
  have x11 := x10.step st (by decide)
  have y11 := y10.step st (by decide)
  clear C st h10 l10 x10 y10
  have C := Lib.hid (pdrop 8 4 [(3, 2, 2)] h11 (by decide) (by decide) (by decide))
  go_wp2_with fail
  refine C.out.mono ?_
  rintro e w12 ⟨rfl, o12, v12, st, h12⟩
  have l12 := l11.step st (by decide)
  have x12 := x11.step st (by decide)
  have y12 := y11.step st (by decide)
  clear C st h11 l11 x11 y11
  have C := Lib.hid (pdrop 3 0 [] h12 (by decide) (by decide) (by decide))
  go_wp2_with fail
  refine C.out.mono ?_
  rintro e w13 ⟨rfl, o13, v13, st, h13⟩
  have l13 := l12.step st (by decide)
  have x13 := x12.step st (by decide)
  have y13 := y12.step st (by decide)
  clear C st h12 l12 x12 y12
  have C := Lib.hid (ppop (0, 0, 0) false h13 (by decide) rfl)
  go_wp2_with fail
  refine C.out.mono ?_
  rintro e w14 ⟨rfl, o14, v14, st, h14⟩
  unfold vI
  have l14 := l13.step st (by decide)
  have x14 := x13.step st (by decide)
  have y14 := y13.step st (by decide)
  have d0 : w14.cell? ⟨w7.heap.size, 0, none⟩ = some (.int .i64 3) := by rw [x14.cell]; simp
  have e0 : w14.cell? ⟨w9.heap.size, 0, none⟩ = some (.int .i64 9) := by rw [y14.cell]; simp
  have e1 : w14.cell? ⟨w9.heap.size, 1, none⟩ = some (.int .i64 1) := by rw [y14.cell]; simp
  have e2 : w14.cell? ⟨w9.heap.size, 2, none⟩ = some (.int .i64 2) := by rw [y14.cell]; simp
  have k1 := x14.lt
  have k2 := y14.lt
  have L := Lib.hid l14
  clear C st h13 l13 x13 y13 h14 x14 y14 l14
  go_wp2
  go_ret
  exact ⟨rfl, (L.out.alloc _ 0).below⟩
end Go.Proofs.Ytgbmpnoknmpmcaa
