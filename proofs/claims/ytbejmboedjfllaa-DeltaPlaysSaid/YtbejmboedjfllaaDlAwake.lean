/- What the statements ask first; and what chapter 6 says of what is set anew, of room. -/
import Derived.Test.YtbejmboedjfllaaDlInts
namespace Go.Proofs.Ytbejmboedjfllaa
open Go.RowKit
set_option linter.unusedVariables false
set_option linter.unusedSimpArgs false

set_option maxHeartbeats 3200000 in
set_option maxRecDepth 100000 in
theorem awake_any (w : World) : Calls Try.prog 8 #[] w (RetB (.bool true) w) := by
  go_enter Try.func8, Try.ntmps8
  have C := Lib.hid (qnew (fun _ => 0) 1 w 3 (by decide) (by decide))
  go_wp2_with fail
  refine C.out.mono ?_
  rintro e w1 ⟨rfl, o1, v1, st, h1⟩
  have i1 := QInv.start (room := 3) (by decide) (by decide)
  have l1 := (Lw.start w).step st (by decide)
  clear C st
  have C := Lib.hid (qset 7 2 0 [(7, 2)] h1 i1 (by decide) (by decide) (by decide))
  go_wp2_with fail
  refine C.out.mono ?_
  rintro e w2 ⟨rfl, o2, v2, st, h2⟩
  have i2 : QInv 3 0 [(7, 2)] := i1.set 7 2
  have l2 := l1.step st (by decide)
  clear C st h1 l1 i1
  have C := Lib.hid (qticks 2 [] [(7, 2)] (by decide) h2 i2 (by decide) (by decide) (by decide))
  go_wp2_with fail
  refine C.out.mono ?_
  rintro e w3 ⟨A3, c3, rfl, o3, v3, st, h3, r3⟩
  have i3 : QInv 3 1 [(7, 2)] := i2.tick
  obtain ⟨k3, m3⟩ := r3.caps
  simp only [List.length_cons, List.length_nil, Nat.zero_add, Nat.reduceAdd] at r3 k3
  clear r3
  have l3 := l2.step st (by decide)
  clear C st h2 l2 i2
  have C := Lib.hid (qticks 2 [7] [] (by decide) h3 i3 (by decide) (by decide) (by decide))
  go_wp2_with fail
  refine C.out.mono ?_
  rintro e w4 ⟨A4, c4, rfl, o4, v4, st, h4, r4⟩
  have i4 : QInv 3 2 [] := i3.tick
  obtain ⟨k4, m4⟩ := r4.caps
  simp only [List.length_cons, List.length_nil, Nat.zero_add, Nat.reduceAdd] at r4 k4
  have l4 := l3.step st (by decide)
  clear C st h3 l3 i3
  have C := Lib.hid (ints_rows (l := [7]) (by decide) (r4.alloc (.cells #[.int .i64 7] 3) 3) (made_row o4 3 w4 [7] 3 (by decide)))
  simp only [List.length_cons, List.length_nil, Nat.zero_add, Nat.reduceAdd] at C
  have h5 := h4.alloc (.cells #[.int .i64 7] 3) 3
  have l5 := l4.alloc (.cells #[.int .i64 7] 3) 3
  go_wp2_with fail
  refine C.out.mono ?_
  rintro e w5 ⟨rfl, n5, rfl⟩
  replace h5 := h5.drewN n5
  replace l5 := l5.drewN n5
  have i5 := i4
  generalize (w4.alloc (.cells #[.int .i64 7] 3)).drewN n5 = w5 at *
  generalize tag o4 w4.heap.size 3 = o5 at *
  clear C r4 h4 l4
  have C := Lib.hid (qlen h5 (by decide))
  go_wp2_with fail
  refine C.out.mono ?_
  rintro e w6 ⟨rfl, rfl⟩
  have b := Below.refl w6.heap.size w6
  have h6 := h5.below b
  have i6 := i5
  have l6 := l5.on b
  clear C b h5 l5 i5
  have C := Lib.hid (qnow h6)
  go_wp2_with fail
  refine C.out.mono ?_
  rintro e w7 ⟨rfl, rfl⟩
  have b := Below.refl w7.heap.size w7
  have h7 := h6.below b
  have i7 := i6
  have l7 := l6.on b
  clear C b h6 l6 i6
  have L := Lib.hid l7.below
  clear h7 i7 l7
  go_wp2
  go_ret
  exact ⟨rfl, L.out⟩
set_option maxHeartbeats 6400000 in
set_option maxRecDepth 100000 in
theorem DeltaKnown_ret (w : World) : Calls Try.prog 3 #[] w (RetB (.bool true) w) := by
  have C0 := Lib.hid (awake_any w)
  go_enter Try.func3, Try.ntmps3
  go_wp2_with fail
  refine C0.out.mono ?_
  rintro e w0 ⟨rfl, b0⟩
  have l0 := (Lw.start w).on b0
  clear C0 b0
  have C1 := Lib.hid (qnew_bad w0 1001 (by decide))
  go_wp2_with fail
  refine C1.out.mono ?_
  rintro e w1 ⟨rfl, rfl⟩
  clear C1
  have C := Lib.hid (qnew (fun _ => 0) 1 w1 2 (by decide) (by decide))
  go_wp2_with fail
  refine C.out.mono ?_
  rintro e w1 ⟨rfl, o1, v1, st, h1⟩
  have i1 := QInv.start (room := 2) (by decide) (by decide)
  have l1 := l0.step st (by decide)
  clear C st l0
  have C := Lib.hid (qset 1 0 1 [] h1 i1 (by decide) (by decide) (by decide))
  go_wp2_with fail
  refine C.out.mono ?_
  rintro e w2 ⟨rfl, o2, v2, st, h2⟩
  have i2 : QInv 2 0 [] := i1.set 1 0
  have l2 := l1.step st (by decide)
  clear C st h1 l1 i1
  have C := Lib.hid (qset 1 10001 1 [] h2 i2 (by decide) (by decide) (by decide))
  go_wp2_with fail
  refine C.out.mono ?_
  rintro e w3 ⟨rfl, o3, v3, st, h3⟩
  have i3 : QInv 2 0 [] := i2.set 1 10001
  have l3 := l2.step st (by decide)
  clear C st h2 l2 i2
  have C := Lib.hid (qset 1 3 0 [(1, 3)] h3 i3 (by decide) (by decide) (by decide))
  go_wp2_with fail
  refine C.out.mono ?_
  rintro e w4 ⟨rfl, o4, v4, st, h4⟩
  have i4 : QInv 2 0 [(1, 3)] := i3.set 1 3
  have l4 := l3.step st (by decide)
  clear C st h3 l3 i3
  have C := Lib.hid (qset 2 3 0 [(1, 3), (2, 3)] h4 i4 (by decide) (by decide) (by decide))
  go_wp2_with fail
  refine C.out.mono ?_
  rintro e w5 ⟨rfl, o5, v5, st, h5⟩
  have i5 : QInv 2 0 [(1, 3), (2, 3)] := i4.set 2 3
  have l5 := l4.step st (by decide)
  clear C st h4 l4 i4
  have C := Lib.hid (qset 3 1 6 [(1, 3), (2, 3)] h5 i5 (by decide) (by decide) (by decide))
  go_wp2_with fail
  refine C.out.mono ?_
  rintro e w6 ⟨rfl, o6, v6, st, h6⟩
  have i6 : QInv 2 0 [(1, 3), (2, 3)] := i5.set 3 1
  have l6 := l5.step st (by decide)
  clear C st h5 l5 i5
  have C := Lib.hid (qset 1 3 0 [(2, 3), (1, 3)] h6 i6 (by decide) (by decide) (by decide))
  go_wp2_with fail
  refine C.out.mono ?_
  rintro e w7 ⟨rfl, o7, v7, st, h7⟩
  have i7 : QInv 2 0 [(2, 3), (1, 3)] := i6.set 1 3
  have l7 := l6.step st (by decide)
  clear C st h6 l6 i6
  have C := Lib.hid (qleft 1 3 true h7 i7 (by decide) (by decide))
  go_wp2_with fail
  refine C.out.mono ?_
  rintro e w8 ⟨rfl, b⟩
  have h8 := h7.below b
  have i8 := i7
  have l8 := l7.on b
  clear C b h7 l7 i7
  have C := Lib.hid (qticks 2 [] [(2, 3), (1, 3)] (by decide) h8 i8 (by decide) (by decide) (by decide))
  go_wp2_with fail
  refine C.out.mono ?_
  rintro e w9 ⟨A9, c9, rfl, o9, v9, st, h9, r9⟩
  have i9 : QInv 2 1 [(2, 3), (1, 3)] := i8.tick
  obtain ⟨k9, m9⟩ := r9.caps
  simp only [List.length_cons, List.length_nil, Nat.zero_add, Nat.reduceAdd] at r9 k9
  clear r9
  have l9 := l8.step st (by decide)
  clear C st h8 l8 i8
  have C := Lib.hid (qticks 2 [] [(2, 3), (1, 3)] (by decide) h9 i9 (by decide) (by decide) (by decide))
  go_wp2_with fail
  refine C.out.mono ?_
  rintro e w10 ⟨A10, c10, rfl, o10, v10, st, h10, r10⟩
  have i10 : QInv 2 2 [(2, 3), (1, 3)] := i9.tick
  obtain ⟨k10, m10⟩ := r10.caps
  simp only [List.length_cons, List.length_nil, Nat.zero_add, Nat.reduceAdd] at r10 k10
  clear r10
  have l10 := l9.step st (by decide)
  clear C st h9 l9 i9
  have C := Lib.hid (qticks 2 [2, 1] [] (by decide) h10 i10 (by decide) (by decide) (by decide))
  go_wp2_with fail
  refine C.out.mono ?_
  rintro e w11 ⟨A11, c11, rfl, o11, v11, st, h11, r11⟩
  have i11 : QInv 2 3 [] := i10.tick
  obtain ⟨k11, m11⟩ := r11.caps
  simp only [List.length_cons, List.length_nil, Nat.zero_add, Nat.reduceAdd] at r11 k11
  have l11 := l10.step st (by decide)
  clear C st h10 l10 i10
  have C := Lib.hid (qset 5 1 0 [(5, 4)] h11 i11 (by decide) (by decide) (by decide))
  go_wp2_with fail
  refine C.out.mono ?_
  rintro e w12 ⟨rfl, o12, v12, st, h12⟩
  have i12 : QInv 2 3 [(5, 4)] := i11.set 5 1
  have l12 := l11.step st (by decide)
  have r11 := r11.step st (by decide)
  clear C st h11 l11 i11
  have C := Lib.hid (qstop 5 true [] h12 (by decide) (by decide) (by decide))
  go_wp2_with fail
  refine C.out.mono ?_
  rintro e w13 ⟨rfl, o13, v13, st, h13⟩
  have i13 : QInv 2 3 [] := i12.stop 5
  have l13 := l12.step st (by decide)
  have r11 := r11.step st (by decide)
  clear C st h12 l12 i12
  have C := Lib.hid (qstop 5 false [] h13 (by decide) (by decide) (by decide))
  go_wp2_with fail
  refine C.out.mono ?_
  rintro e w14 ⟨rfl, o14, v14, st, h14⟩
  have i14 : QInv 2 3 [] := i13.stop 5
  have l14 := l13.step st (by decide)
  have r11 := r11.step st (by decide)
  clear C st h13 l13 i13
  have C := Lib.hid (qleft 5 0 false h14 i14 (by decide) (by decide))
  go_wp2_with fail
  refine C.out.mono ?_
  rintro e w15 ⟨rfl, b⟩
  have h15 := h14.below b
  have i15 := i14
  have l15 := l14.on b
  have r11 := r11.below b
  clear C b h14 l14 i14
  have C := Lib.hid (ints_rows (l := [2, 1]) (by decide) (r11.alloc (.cells #[.int .i64 2, .int .i64 1] 3) 3) (made_row o14 3 w15 [2, 1] 3 (by decide)))
  simp only [List.length_cons, List.length_nil, Nat.zero_add, Nat.reduceAdd] at C
  have h16 := h15.alloc (.cells #[.int .i64 2, .int .i64 1] 3) 3
  have l16 := l15.alloc (.cells #[.int .i64 2, .int .i64 1] 3) 3
  go_wp2_with fail
  refine C.out.mono ?_
  rintro e w16 ⟨rfl, n16, rfl⟩
  replace h16 := h16.drewN n16
  replace l16 := l16.drewN n16
  have i16 := i15
  generalize (w15.alloc (.cells #[.int .i64 2, .int .i64 1] 3)).drewN n16 = w16 at *
  generalize tag o14 w15.heap.size 3 = o16 at *
  clear C r11 h15 l15
  have L := Lib.hid l16.below
  clear h16 i16 l16
  go_wp2
  go_ret
  exact ⟨rfl, L.out⟩
end Go.Proofs.Ytbejmboedjfllaa
