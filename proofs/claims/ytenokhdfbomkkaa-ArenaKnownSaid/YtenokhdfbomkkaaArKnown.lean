/- ArenaKnown: the examples of the chapter. -/
import Derived.Test.YtenokhdfbomkkaaArAwake
import Derived.Test.YtenokhdfbomkkaaArI5
namespace Go.Proofs.Ytenokhdfbomkkaa
open Go.RowKit
set_option linter.unusedVariables false
set_option linter.unusedSimpArgs false

set_option maxHeartbeats 6400000 in
set_option maxRecDepth 100000 in
theorem ArenaKnown_ret (w : World) : Calls Try.prog 3 #[] w (RetB (.bool true) w) := by
  have A := Lib.hid awake_any
  go_enter Try.func3, Try.ntmps3
  go_wp2_with fail
  refine (A.out _).mono ?_; rintro e b0w ⟨rfl, b0⟩
  go_wp2_with fail
  refine (new_bad_i _ 0 (by decide)).mono ?_
  rintro e w1 ⟨rfl, rfl⟩
  go_wp2_with fail
  refine (new_bad_i _ 1001 (by decide)).mono ?_
  rintro e w1 ⟨rfl, rfl⟩
  go_wp2_with fail
  refine (new_i (fun _ => 0) 1 _ 2 (by decide) (by decide)).mono ?_
  rintro e w1 ⟨rfl, o1, vs1, vf1, s1, h1⟩
  have l1 := ((Lw.start w).on b0).step s1 (by decide)
  clear b0 s1
  go_wp2_with fail
  refine (put_new_i 1 h1 (by decide) (by decide)).mono ?_
  rintro e w2 ⟨rfl, o2, vs2, vf2, s2, h2⟩
  have l2 := l1.step s2 (by decide)
  clear h1 l1 s2
  go_wp2_with fail
  have h2a := h2.alloc (.cells #[.int .i64 0, .int .i64 1] 28) 2
  have l2a := l2.alloc (.cells #[.int .i64 0, .int .i64 1] 28) 2
  have Xx2a := Blk.made o2 2 w2 #[.int .i64 0, .int .i64 1] 28
  refine (put_new_i 2 h2a (by decide) (by decide)).mono ?_
  rintro e w3 ⟨rfl, o3, vs3, vf3, s3, h3⟩
  have l3 := l2a.step s3 (by decide)
  have Xx3 := Xx2a.step s3 (by decide)
  clear h2 l2 s3 h2a l2a Xx2a
  have x0 : w3.cell? ⟨w2.heap.size, 0, none⟩ = some (.int .i64 0) := by rw [Xx3.cell]; simp
  have x1 : w3.cell? ⟨w2.heap.size, 1, none⟩ = some (.int .i64 1) := by rw [Xx3.cell]; simp
  have x2 : ∀ x, (w3.alloc x).cell? ⟨w2.heap.size, 0, none⟩ = some (.int .i64 0) := fun x => by rw [(Xx3.alloc x 0).cell]; simp
  have x3 : ∀ x, (w3.alloc x).cell? ⟨w2.heap.size, 1, none⟩ = some (.int .i64 1) := fun x => by rw [(Xx3.alloc x 0).cell]; simp
  go_wp2_with fail
  have h3a := h3.alloc (.cells #[.int .i64 1, .int .i64 1] 28) 2
  have l3a := l3.alloc (.cells #[.int .i64 1, .int .i64 1] 28) 2
  have Xx3a := Xx3.alloc (.cells #[.int .i64 1, .int .i64 1] 28) 2
  have Xy3a := Blk.made o3 2 w3 #[.int .i64 1, .int .i64 1] 28
  refine (put_full_i 3 h3a rfl (by decide)).mono ?_
  rintro e w4 ⟨rfl, s4⟩
  have l4 := l3a.on s4
  have h4 := h3a.below s4
  have Xx4 := Xx3a.below s4
  have Xy4 := Xy3a.below s4
  generalize hoo : (tag o3 w3.heap.size 2) = o4 at *
  clear hoo
  clear h3 l3 s4 Xx3 h3a l3a Xx3a Xy3a x0 x1 x2 x3
  have x0 : w4.cell? ⟨w2.heap.size, 0, none⟩ = some (.int .i64 0) := by rw [Xx4.cell]; simp
  have x1 : w4.cell? ⟨w2.heap.size, 1, none⟩ = some (.int .i64 1) := by rw [Xx4.cell]; simp
  have x2 : ∀ x, (w4.alloc x).cell? ⟨w2.heap.size, 0, none⟩ = some (.int .i64 0) := fun x => by rw [(Xx4.alloc x 0).cell]; simp
  have x3 : ∀ x, (w4.alloc x).cell? ⟨w2.heap.size, 1, none⟩ = some (.int .i64 1) := fun x => by rw [(Xx4.alloc x 0).cell]; simp
  have y0 : w4.cell? ⟨w3.heap.size, 0, none⟩ = some (.int .i64 1) := by rw [Xy4.cell]; simp
  have y1 : w4.cell? ⟨w3.heap.size, 1, none⟩ = some (.int .i64 1) := by rw [Xy4.cell]; simp
  have y2 : ∀ x, (w4.alloc x).cell? ⟨w3.heap.size, 0, none⟩ = some (.int .i64 1) := fun x => by rw [(Xy4.alloc x 0).cell]; simp
  have y3 : ∀ x, (w4.alloc x).cell? ⟨w3.heap.size, 1, none⟩ = some (.int .i64 1) := fun x => by rw [(Xy4.alloc x 0).cell]; simp
  go_wp2_with fail
  have h4a := h4.alloc (.cells #[.int .i64 0, .int .i64 0] 28) 2
  have l4a := l4.alloc (.cells #[.int .i64 0, .int .i64 0] 28) 2
  have Xx4a := Xx4.alloc (.cells #[.int .i64 0, .int .i64 0] 28) 2
  have Xy4a := Xy4.alloc (.cells #[.int .i64 0, .int .i64 0] 28) 2
  refine (free_at_i (i := 0) h4a rfl rfl (by decide) (by decide) (by decide)).mono ?_
  rintro e w5 ⟨rfl, o5, vs5, vf5, s5, h5⟩
  have l5 := l4a.step s5 (by decide)
  have Xx5 := Xx4a.step s5 (by decide)
  have Xy5 := Xy4a.step s5 (by decide)
  clear h4 l4 s5 Xx4 Xy4 h4a l4a Xx4a Xy4a x0 x1 x2 x3 y0 y1 y2 y3
  have x0 : w5.cell? ⟨w2.heap.size, 0, none⟩ = some (.int .i64 0) := by rw [Xx5.cell]; simp
  have x1 : w5.cell? ⟨w2.heap.size, 1, none⟩ = some (.int .i64 1) := by rw [Xx5.cell]; simp
  have x2 : ∀ x, (w5.alloc x).cell? ⟨w2.heap.size, 0, none⟩ = some (.int .i64 0) := fun x => by rw [(Xx5.alloc x 0).cell]; simp
  have x3 : ∀ x, (w5.alloc x).cell? ⟨w2.heap.size, 1, none⟩ = some (.int .i64 1) := fun x => by rw [(Xx5.alloc x 0).cell]; simp
  have y0 : w5.cell? ⟨w3.heap.size, 0, none⟩ = some (.int .i64 1) := by rw [Xy5.cell]; simp
  have y1 : w5.cell? ⟨w3.heap.size, 1, none⟩ = some (.int .i64 1) := by rw [Xy5.cell]; simp
  have y2 : ∀ x, (w5.alloc x).cell? ⟨w3.heap.size, 0, none⟩ = some (.int .i64 1) := fun x => by rw [(Xy5.alloc x 0).cell]; simp
  have y3 : ∀ x, (w5.alloc x).cell? ⟨w3.heap.size, 1, none⟩ = some (.int .i64 1) := fun x => by rw [(Xy5.alloc x 0).cell]; simp
  go_wp2_with fail
  refine (free_at_i (i := 1) h5 rfl rfl (by decide) (by decide) (by decide)).mono ?_
  rintro e w6 ⟨rfl, o6, vs6, vf6, s6, h6⟩
  have l6 := l5.step s6 (by decide)
  have Xx6 := Xx5.step s6 (by decide)
  have Xy6 := Xy5.step s6 (by decide)
  clear h5 l5 s6 Xx5 Xy5 x0 x1 x2 x3 y0 y1 y2 y3
  have x0 : w6.cell? ⟨w2.heap.size, 0, none⟩ = some (.int .i64 0) := by rw [Xx6.cell]; simp
  have x1 : w6.cell? ⟨w2.heap.size, 1, none⟩ = some (.int .i64 1) := by rw [Xx6.cell]; simp
  have x2 : ∀ x, (w6.alloc x).cell? ⟨w2.heap.size, 0, none⟩ = some (.int .i64 0) := fun x => by rw [(Xx6.alloc x 0).cell]; simp
  have x3 : ∀ x, (w6.alloc x).cell? ⟨w2.heap.size, 1, none⟩ = some (.int .i64 1) := fun x => by rw [(Xx6.alloc x 0).cell]; simp
  have y0 : w6.cell? ⟨w3.heap.size, 0, none⟩ = some (.int .i64 1) := by rw [Xy6.cell]; simp
  have y1 : w6.cell? ⟨w3.heap.size, 1, none⟩ = some (.int .i64 1) := by rw [Xy6.cell]; simp
  have y2 : ∀ x, (w6.alloc x).cell? ⟨w3.heap.size, 0, none⟩ = some (.int .i64 1) := fun x => by rw [(Xy6.alloc x 0).cell]; simp
  have y3 : ∀ x, (w6.alloc x).cell? ⟨w3.heap.size, 1, none⟩ = some (.int .i64 1) := fun x => by rw [(Xy6.alloc x 0).cell]; simp
  go_wp2_with fail
  refine (put_pop_i (s := (0, 1, false)) (p := 1) (fr := [0]) 4 h6 rfl (by decide) (by decide) (by decide) (by decide)).mono ?_
  rintro e w7 ⟨rfl, o7, vs7, vf7, s7, h7⟩
  have l7 := l6.step s7 (by decide)
  have Xx7 := Xx6.step s7 (by decide)
  have Xy7 := Xy6.step s7 (by decide)
  clear h6 l6 s7 Xx6 Xy6 x0 x1 x2 x3 y0 y1 y2 y3
  have x0 : w7.cell? ⟨w2.heap.size, 0, none⟩ = some (.int .i64 0) := by rw [Xx7.cell]; simp
  have x1 : w7.cell? ⟨w2.heap.size, 1, none⟩ = some (.int .i64 1) := by rw [Xx7.cell]; simp
  have x2 : ∀ x, (w7.alloc x).cell? ⟨w2.heap.size, 0, none⟩ = some (.int .i64 0) := fun x => by rw [(Xx7.alloc x 0).cell]; simp
  have x3 : ∀ x, (w7.alloc x).cell? ⟨w2.heap.size, 1, none⟩ = some (.int .i64 1) := fun x => by rw [(Xx7.alloc x 0).cell]; simp
  have y0 : w7.cell? ⟨w3.heap.size, 0, none⟩ = some (.int .i64 1) := by rw [Xy7.cell]; simp
  have y1 : w7.cell? ⟨w3.heap.size, 1, none⟩ = some (.int .i64 1) := by rw [Xy7.cell]; simp
  have y2 : ∀ x, (w7.alloc x).cell? ⟨w3.heap.size, 0, none⟩ = some (.int .i64 1) := fun x => by rw [(Xy7.alloc x 0).cell]; simp
  have y3 : ∀ x, (w7.alloc x).cell? ⟨w3.heap.size, 1, none⟩ = some (.int .i64 1) := fun x => by rw [(Xy7.alloc x 0).cell]; simp
  go_wp2_with fail
  have h7a := h7.alloc (.cells #[.int .i64 1, .int .i64 2] 28) 2
  have l7a := l7.alloc (.cells #[.int .i64 1, .int .i64 2] 28) 2
  have Xx7a := Xx7.alloc (.cells #[.int .i64 1, .int .i64 2] 28) 2
  have Xy7a := Xy7.alloc (.cells #[.int .i64 1, .int .i64 2] 28) 2
  have Xz7a := Blk.made o7 2 w7 #[.int .i64 1, .int .i64 2] 28
  refine (get_no_i 0 1 7 h7a rfl (by decide) (by decide) (by decide)).mono ?_
  rintro e w8 ⟨rfl, s8⟩
  have l8 := l7a.on s8
  have h8 := h7a.below s8
  have Xx8 := Xx7a.below s8
  have Xy8 := Xy7a.below s8
  have Xz8 := Xz7a.below s8
  generalize hoo : (tag o7 w7.heap.size 2) = o8 at *
  clear hoo
  clear h7 l7 s8 Xx7 Xy7 h7a l7a Xx7a Xy7a Xz7a x0 x1 x2 x3 y0 y1 y2 y3
  have x0 : w8.cell? ⟨w2.heap.size, 0, none⟩ = some (.int .i64 0) := by rw [Xx8.cell]; simp
  have x1 : w8.cell? ⟨w2.heap.size, 1, none⟩ = some (.int .i64 1) := by rw [Xx8.cell]; simp
  have x2 : ∀ x, (w8.alloc x).cell? ⟨w2.heap.size, 0, none⟩ = some (.int .i64 0) := fun x => by rw [(Xx8.alloc x 0).cell]; simp
  have x3 : ∀ x, (w8.alloc x).cell? ⟨w2.heap.size, 1, none⟩ = some (.int .i64 1) := fun x => by rw [(Xx8.alloc x 0).cell]; simp
  have y0 : w8.cell? ⟨w3.heap.size, 0, none⟩ = some (.int .i64 1) := by rw [Xy8.cell]; simp
  have y1 : w8.cell? ⟨w3.heap.size, 1, none⟩ = some (.int .i64 1) := by rw [Xy8.cell]; simp
  have y2 : ∀ x, (w8.alloc x).cell? ⟨w3.heap.size, 0, none⟩ = some (.int .i64 1) := fun x => by rw [(Xy8.alloc x 0).cell]; simp
  have y3 : ∀ x, (w8.alloc x).cell? ⟨w3.heap.size, 1, none⟩ = some (.int .i64 1) := fun x => by rw [(Xy8.alloc x 0).cell]; simp
  have z0 : w8.cell? ⟨w7.heap.size, 0, none⟩ = some (.int .i64 1) := by rw [Xz8.cell]; simp
  have z1 : w8.cell? ⟨w7.heap.size, 1, none⟩ = some (.int .i64 2) := by rw [Xz8.cell]; simp
  have z2 : ∀ x, (w8.alloc x).cell? ⟨w7.heap.size, 0, none⟩ = some (.int .i64 1) := fun x => by rw [(Xz8.alloc x 0).cell]; simp
  have z3 : ∀ x, (w8.alloc x).cell? ⟨w7.heap.size, 1, none⟩ = some (.int .i64 2) := fun x => by rw [(Xz8.alloc x 0).cell]; simp
  go_wp2_with fail
  refine (get_no_i 1 1 7 h8 rfl (by decide) (by decide) (by decide)).mono ?_
  rintro e w9 ⟨rfl, s9⟩
  have l9 := l8.on s9
  have h9 := h8.below s9
  have Xx9 := Xx8.below s9
  have Xy9 := Xy8.below s9
  have Xz9 := Xz8.below s9
  obtain ⟨o9, ho9⟩ : ∃ o, o8 = o := ⟨_, rfl⟩
  rw [ho9] at l9 h9 Xx9 Xy9 Xz9
  clear h8 l8 s9 Xx8 Xy8 Xz8 x0 x1 x2 x3 y0 y1 y2 y3 z0 z1 z2 z3 ho9
  have x0 : w9.cell? ⟨w2.heap.size, 0, none⟩ = some (.int .i64 0) := by rw [Xx9.cell]; simp
  have x1 : w9.cell? ⟨w2.heap.size, 1, none⟩ = some (.int .i64 1) := by rw [Xx9.cell]; simp
  have x2 : ∀ x, (w9.alloc x).cell? ⟨w2.heap.size, 0, none⟩ = some (.int .i64 0) := fun x => by rw [(Xx9.alloc x 0).cell]; simp
  have x3 : ∀ x, (w9.alloc x).cell? ⟨w2.heap.size, 1, none⟩ = some (.int .i64 1) := fun x => by rw [(Xx9.alloc x 0).cell]; simp
  have y0 : w9.cell? ⟨w3.heap.size, 0, none⟩ = some (.int .i64 1) := by rw [Xy9.cell]; simp
  have y1 : w9.cell? ⟨w3.heap.size, 1, none⟩ = some (.int .i64 1) := by rw [Xy9.cell]; simp
  have y2 : ∀ x, (w9.alloc x).cell? ⟨w3.heap.size, 0, none⟩ = some (.int .i64 1) := fun x => by rw [(Xy9.alloc x 0).cell]; simp
  have y3 : ∀ x, (w9.alloc x).cell? ⟨w3.heap.size, 1, none⟩ = some (.int .i64 1) := fun x => by rw [(Xy9.alloc x 0).cell]; simp
  have z0 : w9.cell? ⟨w7.heap.size, 0, none⟩ = some (.int .i64 1) := by rw [Xz9.cell]; simp
  have z1 : w9.cell? ⟨w7.heap.size, 1, none⟩ = some (.int .i64 2) := by rw [Xz9.cell]; simp
  have z2 : ∀ x, (w9.alloc x).cell? ⟨w7.heap.size, 0, none⟩ = some (.int .i64 1) := fun x => by rw [(Xz9.alloc x 0).cell]; simp
  have z3 : ∀ x, (w9.alloc x).cell? ⟨w7.heap.size, 1, none⟩ = some (.int .i64 2) := fun x => by rw [(Xz9.alloc x 0).cell]; simp
  go_wp2_with fail
  refine (get_no_i 2 1 1 h9 rfl (by decide) (by decide) (by decide)).mono ?_
  rintro e w10 ⟨rfl, s10⟩
  have l10 := l9.on s10
  have h10 := h9.below s10
  have Xx10 := Xx9.below s10
  have Xy10 := Xy9.below s10
  have Xz10 := Xz9.below s10
  obtain ⟨o10, ho10⟩ : ∃ o, o9 = o := ⟨_, rfl⟩
  rw [ho10] at l10 h10 Xx10 Xy10 Xz10
  clear h9 l9 s10 Xx9 Xy9 Xz9 x0 x1 x2 x3 y0 y1 y2 y3 z0 z1 z2 z3 ho10
  have x0 : w10.cell? ⟨w2.heap.size, 0, none⟩ = some (.int .i64 0) := by rw [Xx10.cell]; simp
  have x1 : w10.cell? ⟨w2.heap.size, 1, none⟩ = some (.int .i64 1) := by rw [Xx10.cell]; simp
  have x2 : ∀ x, (w10.alloc x).cell? ⟨w2.heap.size, 0, none⟩ = some (.int .i64 0) := fun x => by rw [(Xx10.alloc x 0).cell]; simp
  have x3 : ∀ x, (w10.alloc x).cell? ⟨w2.heap.size, 1, none⟩ = some (.int .i64 1) := fun x => by rw [(Xx10.alloc x 0).cell]; simp
  have y0 : w10.cell? ⟨w3.heap.size, 0, none⟩ = some (.int .i64 1) := by rw [Xy10.cell]; simp
  have y1 : w10.cell? ⟨w3.heap.size, 1, none⟩ = some (.int .i64 1) := by rw [Xy10.cell]; simp
  have y2 : ∀ x, (w10.alloc x).cell? ⟨w3.heap.size, 0, none⟩ = some (.int .i64 1) := fun x => by rw [(Xy10.alloc x 0).cell]; simp
  have y3 : ∀ x, (w10.alloc x).cell? ⟨w3.heap.size, 1, none⟩ = some (.int .i64 1) := fun x => by rw [(Xy10.alloc x 0).cell]; simp
  have z0 : w10.cell? ⟨w7.heap.size, 0, none⟩ = some (.int .i64 1) := by rw [Xz10.cell]; simp
  have z1 : w10.cell? ⟨w7.heap.size, 1, none⟩ = some (.int .i64 2) := by rw [Xz10.cell]; simp
  have z2 : ∀ x, (w10.alloc x).cell? ⟨w7.heap.size, 0, none⟩ = some (.int .i64 1) := fun x => by rw [(Xz10.alloc x 0).cell]; simp
  have z3 : ∀ x, (w10.alloc x).cell? ⟨w7.heap.size, 1, none⟩ = some (.int .i64 2) := fun x => by rw [(Xz10.alloc x 0).cell]; simp
  go_wp2_with fail
  refine (free_no_i 0 1 7 h10 rfl (by decide) (by decide) (by decide)).mono ?_
  rintro e w11 ⟨rfl, s11⟩
  have l11 := l10.on s11
  have h11 := h10.below s11
  have Xx11 := Xx10.below s11
  have Xy11 := Xy10.below s11
  have Xz11 := Xz10.below s11
  obtain ⟨o11, ho11⟩ : ∃ o, o10 = o := ⟨_, rfl⟩
  rw [ho11] at l11 h11 Xx11 Xy11 Xz11
  clear h10 l10 s11 Xx10 Xy10 Xz10 x0 x1 x2 x3 y0 y1 y2 y3 z0 z1 z2 z3 ho11
  have x0 : w11.cell? ⟨w2.heap.size, 0, none⟩ = some (.int .i64 0) := by rw [Xx11.cell]; simp
  have x1 : w11.cell? ⟨w2.heap.size, 1, none⟩ = some (.int .i64 1) := by rw [Xx11.cell]; simp
  have x2 : ∀ x, (w11.alloc x).cell? ⟨w2.heap.size, 0, none⟩ = some (.int .i64 0) := fun x => by rw [(Xx11.alloc x 0).cell]; simp
  have x3 : ∀ x, (w11.alloc x).cell? ⟨w2.heap.size, 1, none⟩ = some (.int .i64 1) := fun x => by rw [(Xx11.alloc x 0).cell]; simp
  have y0 : w11.cell? ⟨w3.heap.size, 0, none⟩ = some (.int .i64 1) := by rw [Xy11.cell]; simp
  have y1 : w11.cell? ⟨w3.heap.size, 1, none⟩ = some (.int .i64 1) := by rw [Xy11.cell]; simp
  have y2 : ∀ x, (w11.alloc x).cell? ⟨w3.heap.size, 0, none⟩ = some (.int .i64 1) := fun x => by rw [(Xy11.alloc x 0).cell]; simp
  have y3 : ∀ x, (w11.alloc x).cell? ⟨w3.heap.size, 1, none⟩ = some (.int .i64 1) := fun x => by rw [(Xy11.alloc x 0).cell]; simp
  have z0 : w11.cell? ⟨w7.heap.size, 0, none⟩ = some (.int .i64 1) := by rw [Xz11.cell]; simp
  have z1 : w11.cell? ⟨w7.heap.size, 1, none⟩ = some (.int .i64 2) := by rw [Xz11.cell]; simp
  have z2 : ∀ x, (w11.alloc x).cell? ⟨w7.heap.size, 0, none⟩ = some (.int .i64 1) := fun x => by rw [(Xz11.alloc x 0).cell]; simp
  have z3 : ∀ x, (w11.alloc x).cell? ⟨w7.heap.size, 1, none⟩ = some (.int .i64 2) := fun x => by rw [(Xz11.alloc x 0).cell]; simp
  go_wp2_with fail
  refine (set_at_i (i := 1) 9 h11 rfl rfl (by decide) (by decide)).mono ?_
  rintro e w12 ⟨rfl, o12, vs12, vf12, s12, h12⟩
  have l12 := l11.step s12 (by decide)
  have Xx12 := Xx11.step s12 (by decide)
  have Xy12 := Xy11.step s12 (by decide)
  have Xz12 := Xz11.step s12 (by decide)
  clear h11 l11 s12 Xx11 Xy11 Xz11 x0 x1 x2 x3 y0 y1 y2 y3 z0 z1 z2 z3
  have x0 : w12.cell? ⟨w2.heap.size, 0, none⟩ = some (.int .i64 0) := by rw [Xx12.cell]; simp
  have x1 : w12.cell? ⟨w2.heap.size, 1, none⟩ = some (.int .i64 1) := by rw [Xx12.cell]; simp
  have x2 : ∀ x, (w12.alloc x).cell? ⟨w2.heap.size, 0, none⟩ = some (.int .i64 0) := fun x => by rw [(Xx12.alloc x 0).cell]; simp
  have x3 : ∀ x, (w12.alloc x).cell? ⟨w2.heap.size, 1, none⟩ = some (.int .i64 1) := fun x => by rw [(Xx12.alloc x 0).cell]; simp
  have y0 : w12.cell? ⟨w3.heap.size, 0, none⟩ = some (.int .i64 1) := by rw [Xy12.cell]; simp
  have y1 : w12.cell? ⟨w3.heap.size, 1, none⟩ = some (.int .i64 1) := by rw [Xy12.cell]; simp
  have y2 : ∀ x, (w12.alloc x).cell? ⟨w3.heap.size, 0, none⟩ = some (.int .i64 1) := fun x => by rw [(Xy12.alloc x 0).cell]; simp
  have y3 : ∀ x, (w12.alloc x).cell? ⟨w3.heap.size, 1, none⟩ = some (.int .i64 1) := fun x => by rw [(Xy12.alloc x 0).cell]; simp
  have z0 : w12.cell? ⟨w7.heap.size, 0, none⟩ = some (.int .i64 1) := by rw [Xz12.cell]; simp
  have z1 : w12.cell? ⟨w7.heap.size, 1, none⟩ = some (.int .i64 2) := by rw [Xz12.cell]; simp
  have z2 : ∀ x, (w12.alloc x).cell? ⟨w7.heap.size, 0, none⟩ = some (.int .i64 1) := fun x => by rw [(Xz12.alloc x 0).cell]; simp
  have z3 : ∀ x, (w12.alloc x).cell? ⟨w7.heap.size, 1, none⟩ = some (.int .i64 2) := fun x => by rw [(Xz12.alloc x 0).cell]; simp
  go_wp2_with fail
  refine (get_at_i (i := 1) h12 rfl rfl (by decide) (by decide)).mono ?_
  rintro e w13 ⟨rfl, s13⟩
  have l13 := l12.on s13
  have h13 := h12.below s13
  have Xx13 := Xx12.below s13
  have Xy13 := Xy12.below s13
  have Xz13 := Xz12.below s13
  obtain ⟨o13, ho13⟩ : ∃ o, o12 = o := ⟨_, rfl⟩
  rw [ho13] at l13 h13 Xx13 Xy13 Xz13
  clear h12 l12 s13 Xx12 Xy12 Xz12 x0 x1 x2 x3 y0 y1 y2 y3 z0 z1 z2 z3 ho13
  have x0 : w13.cell? ⟨w2.heap.size, 0, none⟩ = some (.int .i64 0) := by rw [Xx13.cell]; simp
  have x1 : w13.cell? ⟨w2.heap.size, 1, none⟩ = some (.int .i64 1) := by rw [Xx13.cell]; simp
  have x2 : ∀ x, (w13.alloc x).cell? ⟨w2.heap.size, 0, none⟩ = some (.int .i64 0) := fun x => by rw [(Xx13.alloc x 0).cell]; simp
  have x3 : ∀ x, (w13.alloc x).cell? ⟨w2.heap.size, 1, none⟩ = some (.int .i64 1) := fun x => by rw [(Xx13.alloc x 0).cell]; simp
  have y0 : w13.cell? ⟨w3.heap.size, 0, none⟩ = some (.int .i64 1) := by rw [Xy13.cell]; simp
  have y1 : w13.cell? ⟨w3.heap.size, 1, none⟩ = some (.int .i64 1) := by rw [Xy13.cell]; simp
  have y2 : ∀ x, (w13.alloc x).cell? ⟨w3.heap.size, 0, none⟩ = some (.int .i64 1) := fun x => by rw [(Xy13.alloc x 0).cell]; simp
  have y3 : ∀ x, (w13.alloc x).cell? ⟨w3.heap.size, 1, none⟩ = some (.int .i64 1) := fun x => by rw [(Xy13.alloc x 0).cell]; simp
  have z0 : w13.cell? ⟨w7.heap.size, 0, none⟩ = some (.int .i64 1) := by rw [Xz13.cell]; simp
  have z1 : w13.cell? ⟨w7.heap.size, 1, none⟩ = some (.int .i64 2) := by rw [Xz13.cell]; simp
  have z2 : ∀ x, (w13.alloc x).cell? ⟨w7.heap.size, 0, none⟩ = some (.int .i64 1) := fun x => by rw [(Xz13.alloc x 0).cell]; simp
  have z3 : ∀ x, (w13.alloc x).cell? ⟨w7.heap.size, 1, none⟩ = some (.int .i64 2) := fun x => by rw [(Xz13.alloc x 0).cell]; simp
  go_wp2_with fail
  refine (len_i 1 h13 rfl (by decide)).mono ?_
  rintro e w' ⟨rfl, nl, rfl⟩
  go_wp2_with fail
  refine (all_i 1 (h13.drewN nl) rfl (by decide)).mono ?_
  rintro e wf ⟨v, rfl, hv, bf⟩
  have L := Lib.hid ((l13.drewN nl).on bf).below
  obtain ⟨A, c, rfl⟩ : ∃ A c, v = .slice A 1 c := own_any hv
  clear hv bf
  go_wp2
  go_ret
  exact ⟨rfl, L.out⟩
end Go.Proofs.Ytenokhdfbomkkaa
