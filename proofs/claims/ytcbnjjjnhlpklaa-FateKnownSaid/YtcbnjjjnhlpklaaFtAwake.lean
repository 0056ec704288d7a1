/- Package fate at known words; FateKnown. -/
import Derived.Test.YtcbnjjjnhlpklaaFtInts
import Derived.Test.YtcbnjjjnhlpklaaFtRef
import Derived.Test.YtcbnjjjnhlpklaaFtActs
namespace Go.Proofs.Ytcbnjjjnhlpklaa
open Go.RowKit
set_option linter.unusedVariables false
set_option linter.unusedSimpArgs false

theorem fnew2 (o : Nat → Nat) (σ : Nat) (w : World) : Calls Try.prog 7 #[.int .i64 2] w fun e w' => ∃ a, e = .returned (.tuple #[.pointer (some ⟨a, 0, none⟩), .int .i64 0]) ∧ w.heap.size ≤ a ∧
    ∃ o' v, Step o o' σ w w' ∧ Bk 49 o' σ w' a v [(0, 0), (0, 0)] := fnew o σ w 2 (by decide)
theorem lit_row (o : Nat → Nat) (τ : Nat) (w : World) (x : Int) (e : TypeId) : Row (tag o w.heap.size τ) τ (w.alloc (.cells #[.int .i64 x] e)) e 1 (.slice (some ⟨w.heap.size, 0, none⟩) 1 1) 1 (cellsN [x]) := by
  have := World.ownsRow_lit (e := e) (size := 1) (base := w.heap.size) w #[.int .i64 x] 1 (Nat.le_refl _) (by decide) rfl
  exact Row.fresh τ this o
theorem step_newF {w w' : World} (o : Nat → Nat) (σ : Nat) (hb : Below w.heap.size w w') (τ : Nat) : Step o (tag o w.heap.size τ) σ w w' :=
  ⟨hb.os, hb.tape, hb.output, hb.size, fun k hk => tag_old hk, fun k hk _ => hb.block k hk⟩
set_option maxHeartbeats 6400000 in
theorem awake15_any (w : World) : Calls Try.prog 6 #[] w (RetB (.bool true) w) := by
  have C0 := Lib.hid (fnew2 (fun _ => 0) 1 w)
  have C1 := Lib.hid (fun (o : Nat → Nat) (w' : World) (a : Nat) (v : Value) (h : Bk 49 o 1 w' a v [(0, 0), (0, 0)]) => (show Calls Try.prog 8 #[.pointer (some ⟨a, 0, none⟩), .int .i64 0, .int .i64 1, .int .i64 5] w' fun e w2 => e = .returned (.int .i64 0) ∧ ∃ o' v', Step o o' 1 w' w2 ∧ Bk 49 o' 1 w2 a v' [(1, 5), (0, 0)] from
    fsay 0 1 5 0 _ h (by decide) (by decide) (by decide)))
  have C2 := Lib.hid (fun (o : Nat → Nat) (w' : World) (a : Nat) (v : Value) (h : Bk 49 o 1 w' a v [(1, 5), (0, 0)]) => (show Calls Try.prog 8 #[.pointer (some ⟨a, 0, none⟩), .int .i64 0, .int .i64 3, .int .i64 6] w' fun e w2 => e = .returned (.int .i64 5) ∧ ∃ o' v', Step o o' 1 w' w2 ∧ Bk 49 o' 1 w2 a v' [(1, 5), (0, 0)] from
    fsay 0 3 6 5 _ h (by decide) (by decide) (by decide)))
  have C3 := Lib.hid (fun (o : Nat → Nat) (w' : World) (a : Nat) (v : Value) (h : Bk 49 o 1 w' a v [(1, 5), (0, 0)]) => fof 0 h (by decide) (x1 := 1) (x2 := 5) (r := true) (by decide) (by decide))
  have C4 := Lib.hid (fun (o : Nat → Nat) (w' : World) (a : Nat) (v : Value) (h : Bk 49 o 1 w' a v [(1, 5), (0, 0)]) => (show Calls Try.prog 10 #[.pointer (some ⟨a, 0, none⟩), .int .i64 1] w' (RetB (.int .i64 1) w') from fcount 1 1 h (by decide) (by decide)))
  have C5 := Lib.hid (fun (o : Nat → Nat) (w' : World) (a : Nat) (v : Value) (h : Bk 49 o 1 w' a v [(1, 5), (0, 0)]) => (show Calls Try.prog 15 #[.pointer (some ⟨a, 0, none⟩)] w' fun e w2 => ∃ v', e = .returned v' ∧ w2.ownsRow w'.heap.size 3 1 v' 1 (cellsN [1]) ∧ Below w'.heap.size w' w2 from fopen h (by decide)))
  have q0 := fun w' => fate_eql w' 1 5 1 5
  go_enter Try.func6, Try.ntmps6
  go_wp2_with fail
  refine C0.out.mono ?_
  rintro e w1 ⟨a, rfl, _, o1, v1, st1, h1⟩
  have F := Lib.hid (And.intro h1 ((Lw.start w).step st1 (by decide)))
  clear C0 h1 st1
  go_wp2_with fail
  refine (C1.out _ _ _ _ F.out.1).mono ?_
  rintro e w2 ⟨rfl, o2, v2, st2, h2⟩
  replace F := Lib.hid (And.intro h2 (F.out.2.step st2 (by decide)))
  clear C1 h2 st2
  go_wp2_with fail
  refine (C2.out _ _ _ _ F.out.1).mono ?_
  rintro e w3 ⟨rfl, o3, v3, st3, h3⟩
  replace F := Lib.hid (And.intro h3 (F.out.2.step st3 (by decide)))
  clear C2 h3 st3
  go_wp2_with fail
  refine (C3.out _ _ _ _ F.out.1).mono ?_
  rintro e w4 ⟨rfl, b4⟩
  replace F := Lib.hid (And.intro ((F.out.1.below b4).alloc (.cells #[.int .i64 1, .int .i64 5] 29) 9) ((F.out.2.on b4).alloc (.cells #[.int .i64 1, .int .i64 5] 29) 9))
  clear C3 b4
  go_wp2_with fail
  refine (C4.out _ _ _ _ F.out.1).mono ?_
  rintro e w5 ⟨rfl, b5⟩
  replace F := Lib.hid (And.intro (F.out.1.below b5) (F.out.2.on b5))
  clear C4 b5
  go_wp2_with fail
  refine (C5.out _ _ _ _ F.out.1).mono ?_
  rintro e w6 ⟨v6, rfl, hown, b6⟩
  have r6 := (Row.fresh (w0 := w5) 3 hown (fun _ => 0)).alloc (.cells #[.int .i64 1] 3) 4
  have s6 := lit_row (tag (fun _ => 0) w5.heap.size 3) 4 w6 1 3
  have C6 := Lib.hid (ints_rows (l := [1]) (by decide) r6 s6)
  replace F := Lib.hid ((F.out.2.on b6).alloc (.cells #[.int .i64 1] 3) 9)
  obtain ⟨A6, c6, rfl⟩ := own_any hown
  clear C5 b6 hown r6 s6
  go_wp2_with fail
  refine C6.out.mono ?_
  rintro e w7 ⟨rfl, n7, rfl⟩
  clear C6
  go_wp2
  go_ret
  exact ⟨rfl, (F.out.drewN _).below⟩
set_option maxHeartbeats 6400000 in
theorem FateKnown_ret (w : World) : Calls Try.prog 3 #[] w (RetB (.bool true) w) := by
  have A0 := Lib.hid (awake15_any w)
  have q0 := fun w' => fate_eql w' 0 0 0 0
  replace q0 := Lib.hid q0
  have CS : Hid (∀ (i k t : Int), sayE [(0, 0), (0, 0)] i k t = 1 → ∀ (o : Nat → Nat) (w' : World) (a : Nat) (v : Value) (h : Bk 49 o 1 w' a v [(0, 0), (0, 0)]), Calls Try.prog 8 #[.pointer (some ⟨a, 0, none⟩), .int .i64 i, .int .i64 k, .int .i64 t] w' fun e w2 => e = .returned (.int .i64 1) ∧ ∃ o' v', Step o o' 1 w' w2 ∧ Bk 49 o' 1 w2 a v' [(0, 0), (0, 0)]) := fun i k t he o w' a v h =>
    fsay i k t 1 _ h (by decide) he (by unfold sayL; rw [he]; rfl)
  have C3 := Lib.hid (fun (o : Nat → Nat) (w' : World) (a : Nat) (v : Value) (h : Bk 49 o 1 w' a v [(0, 0), (0, 0)]) => fof (-1) h (by decide) (x1 := 0) (x2 := 0) (r := false) (by decide) (by decide))
  have C4 := Lib.hid (fun (o : Nat → Nat) (w' : World) (a : Nat) (v : Value) (h : Bk 49 o 1 w' a v [(0, 0), (0, 0)]) => fof 1 h (by decide) (x1 := 0) (x2 := 0) (r := true) (by decide) (by decide))
  have C5 := Lib.hid (fun (o : Nat → Nat) (w' : World) (a : Nat) (v : Value) (h : Bk 49 o 1 w' a v [(0, 0), (0, 0)]) => (show Calls Try.prog 10 #[.pointer (some ⟨a, 0, none⟩), .int .i64 0] w' (RetB (.int .i64 2) w') from fcount 0 2 h (by decide) (by decide)))
  have C6 := Lib.hid (fun (o : Nat → Nat) (w' : World) (a : Nat) (v : Value) (h : Bk 49 o 1 w' a v [(0, 0), (0, 0)]) => (show Calls Try.prog 10 #[.pointer (some ⟨a, 0, none⟩), .int .i64 9] w' (RetB (.int .i64 0) w') from fcount 9 0 h (by decide) (by decide)))
  have C7 := Lib.hid (fun (o : Nat → Nat) (w' : World) (a : Nat) (v : Value) (h : Bk 49 o 1 w' a v [(0, 0), (0, 0)]) => (show Calls Try.prog 11 #[.pointer (some ⟨a, 0, none⟩)] w' fun e w2 => ∃ v', e = .returned v' ∧ w2.ownsRow w'.heap.size 29 2 v' 2 (cellsT [(0, 0), (0, 0)]) ∧ Below w'.heap.size w' w2 from fall h (by decide)))
  go_enter Try.func3, Try.ntmps3
  go_wp2_with fail
  refine (A0.out).mono ?_; rintro e b0w ⟨rfl, b0⟩
  go_wp2_with fail
  refine (fnew_bad _ (-1) (by decide)).mono ?_
  rintro e w1 ⟨rfl, rfl⟩
  go_wp2_with fail
  refine (fnew_bad _ 201 (by decide)).mono ?_
  rintro e w1 ⟨rfl, rfl⟩
  go_wp2_with fail
  refine (fnew2 (fun _ => 0) 1 _).mono ?_
  rintro e w2 ⟨a, rfl, _, o2, v2, st2, h2⟩
  have F := Lib.hid (And.intro h2 (((Lw.start w).on b0).step st2 (by decide)))
  clear b0 h2 st2
  go_wp2_with fail
  refine (CS.out 2 1 (0) (by decide) _ _ _ _ F.out.1).mono ?_
  rintro e w3 ⟨rfl, o3, v3, st3, h3⟩
  replace F := Lib.hid (And.intro h3 (F.out.2.step st3 (by decide)))
  clear h3 st3
  go_wp2_with fail
  refine (CS.out 0 0 (0) (by decide) _ _ _ _ F.out.1).mono ?_
  rintro e w3 ⟨rfl, o3, v3, st3, h3⟩
  replace F := Lib.hid (And.intro h3 (F.out.2.step st3 (by decide)))
  clear h3 st3
  go_wp2_with fail
  refine (CS.out 0 6 (0) (by decide) _ _ _ _ F.out.1).mono ?_
  rintro e w3 ⟨rfl, o3, v3, st3, h3⟩
  replace F := Lib.hid (And.intro h3 (F.out.2.step st3 (by decide)))
  clear h3 st3
  go_wp2_with fail
  refine (CS.out 0 1 (-1) (by decide) _ _ _ _ F.out.1).mono ?_
  rintro e w3 ⟨rfl, o3, v3, st3, h3⟩
  replace F := Lib.hid (And.intro h3 (F.out.2.step st3 (by decide)))
  clear h3 st3
  clear CS
  go_wp2_with fail
  refine (C3.out _ _ _ _ F.out.1).mono ?_
  rintro e w4 ⟨rfl, b4⟩
  replace F := Lib.hid (And.intro ((F.out.1.below b4).alloc (.cells #[.int .i64 0, .int .i64 0] 29) 9) ((F.out.2.on b4).alloc (.cells #[.int .i64 0, .int .i64 0] 29) 9))
  clear C3 b4
  go_wp2_with fail
  refine (C4.out _ _ _ _ F.out.1).mono ?_
  rintro e w5 ⟨rfl, b5⟩
  replace F := Lib.hid (And.intro ((F.out.1.below b5).alloc (.cells #[.int .i64 0, .int .i64 0] 29) 9) ((F.out.2.on b5).alloc (.cells #[.int .i64 0, .int .i64 0] 29) 9))
  clear C4 b5
  replace q0 := q0.out
  go_wp2_with fail
  refine (C5.out _ _ _ _ F.out.1).mono ?_
  rintro e w6 ⟨rfl, b6⟩
  replace F := Lib.hid (And.intro (F.out.1.below b6) (F.out.2.on b6))
  clear C5 b6
  go_wp2_with fail
  refine (C6.out _ _ _ _ F.out.1).mono ?_
  rintro e w7 ⟨rfl, b7⟩
  replace F := Lib.hid (And.intro (F.out.1.below b7) (F.out.2.on b7))
  clear C6 b7
  go_wp2_with fail
  refine (C7.out _ _ _ _ F.out.1).mono ?_
  rintro e w8 ⟨v8, rfl, hown, b8⟩
  replace F := Lib.hid (F.out.2.on b8)
  obtain ⟨A8, c8, rfl⟩ := own_any hown
  clear C7 b8 hown
  go_wp2
  go_ret
  exact ⟨rfl, F.out.below⟩
end Go.Proofs.Ytcbnjjjnhlpklaa
