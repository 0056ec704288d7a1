/- ElasticKnown: the examples of chapter 13. -/
import Derived.Test.YtkjgpidiompmlaaElAwake
namespace Go.Proofs.Ytkjgpidiompmlaa
open Go.RowKit
open Go.Lib hiding intOf
set_option linter.unusedVariables false
set_option linter.unusedSimpArgs false

theorem known_press1 : PressR 20 [⟨10, 9, 5⟩, ⟨10, 0, 1⟩, ⟨4, 0, 0⟩] 0 [9, 7, 4] := by
  have h : Pressed 20 [⟨10, 9, 5⟩, ⟨10, 0, 1⟩, ⟨4, 0, 0⟩] 3 1 := ⟨by decide, by decide, by decide⟩
  have := PressR.part (room := 20) (l := [⟨10, 9, 5⟩, ⟨10, 0, 1⟩, ⟨4, 0, 0⟩]) (by decide) (by decide) (by decide) h
  have e : ([⟨10, 9, 5⟩, ⟨10, 0, 1⟩, ⟨4, 0, 0⟩] : List Sp).map (shareZ 3 1) = [9, 7, 4] := by decide
  rw [e] at this
  exact this
theorem known_press6 : PressR 10 [⟨10, 0, 1⟩, ⟨10, 0, 2⟩] 0 [6, 3] := by
  have h : Pressed 10 [⟨10, 0, 1⟩, ⟨10, 0, 2⟩] 10 3 := ⟨by decide, by decide, by decide⟩
  have := PressR.part (room := 10) (l := [⟨10, 0, 1⟩, ⟨10, 0, 2⟩]) (by decide) (by decide) (by decide) h
  have e : ([⟨10, 0, 1⟩, ⟨10, 0, 2⟩] : List Sp).map (shareZ 10 3) = [6, 3] := by decide
  rw [e] at this
  exact this
theorem known_press2 : PressR 12 [⟨10, 9, 5⟩, ⟨4, 0, 0⟩] 9 [] := PressR.nofit (by decide) (by decide)
theorem known_press3 : PressR 12 [⟨1, 2, 0⟩] 1 [] := PressR.bad (by decide)
theorem known_press4 : PressR (-1) [] 1 [] := PressR.bad (by decide)
theorem known_press5 : PressR 7 [⟨3, 0, 1⟩, ⟨4, 0, 1⟩] 0 [3, 4] := PressR.all (by decide) (by decide) (by decide)
theorem known_cost : (costV [⟨10, 0, 1⟩, ⟨10, 0, 3⟩, ⟨5, 0, 0⟩] [9, 7, 0] = 4 ∧ costOk [⟨10, 0, 1⟩, ⟨10, 0, 3⟩, ⟨5, 0, 0⟩] [9, 7, 0] = true) ∧ (costV [⟨10, 0, 1⟩] [11] = 0 ∧ costOk [⟨10, 0, 1⟩] [11] = false) := by decide
theorem known_floor : floorV [⟨10, 9, 5⟩, ⟨4, 0, 0⟩] = 13 ∧ floorOk [⟨10, 9, 5⟩, ⟨4, 0, 0⟩] = true := by decide
theorem cost_new (l : List Sp) (xs : List Int) (n m : Nat) (v : Int) (o : Bool) (cs ds : Array Value) (hn : l.length = n) (hn2 : n ≤ 1000) (hm : xs.length = m) (hm2 : m ≤ 1000) (hf : ∀ x ∈ xs, fitB x = true) (hc : cs = (cellsSp l).toArray) (hd : ds = (xs.map (Value.int .i64)).toArray) (hv : costV l xs = v) (ho : costOk l xs = o) (w' : World) (B B2 : Nat) (hB : w'.heap.size = B) (hB2 : w'.heap.size + 1 = B2) :
    Calls Try.prog 11 #[.slice (some ⟨B, 0, none⟩) n n, .slice (some ⟨B2, 0, none⟩) m m] ((w'.alloc (.cells cs 28)).alloc (.cells ds 2)) (fun en w2 => en = .returned (.tuple #[.int .i64 v, .bool o]) ∧ Below w'.heap.size w' w2) := by
  subst hB
  subst hB2
  subst hn
  subst hm
  have b1 : Below w'.heap.size w' (w'.alloc (.cells cs 28)) := (Below.refl _ _).alloc (Nat.le_refl _) _
  have b2 : Below (w'.alloc (.cells cs 28)).heap.size (w'.alloc (.cells cs 28)) ((w'.alloc (.cells cs 28)).alloc (.cells ds 2)) := (Below.refl _ _).alloc (Nat.le_refl _) _
  have hr := ints_new (w'.alloc (.cells cs 28)) 2 xs ds hd
  rw [World.size_alloc] at hr
  refine (ecost_b _ l.length l _ xs.length xs v o _ (by omega) (Nat.le_refl _) ((rdSp_new w' 28 l cs hc).below b2) (by omega) hf hr hv ho).mono ?_
  rintro en w2 ⟨h1, h2⟩
  exact ⟨h1, below_on (below_on b1 b2) h2⟩
theorem floor_new (l : List Sp) (n : Nat) (v : Int) (o : Bool) (cs : Array Value) (hn : l.length = n) (hn2 : n ≤ 1000) (hc : cs = (cellsSp l).toArray) (hv : floorV l = v) (ho : floorOk l = o) (w' : World) (B : Nat) (hB : w'.heap.size = B) :
    Calls Try.prog 12 #[.slice (some ⟨B, 0, none⟩) n n] (w'.alloc (.cells cs 28)) (fun en w2 => en = .returned (.tuple #[.int .i64 v, .bool o]) ∧ Below w'.heap.size w' w2) := by
  subst hB
  subst hn
  refine (efloor_b _ l.length l v o _ (by omega) (Nat.le_refl _) (rdSp_new w' 28 l cs hc) hv ho).mono ?_
  rintro en w2 ⟨h1, h2⟩
  exact ⟨h1, below_on ((Below.refl _ _).alloc (Nat.le_refl _) _) h2⟩
set_option maxHeartbeats 6400000 in
set_option maxRecDepth 100000 in
theorem ElasticKnown_ret (w : World) : Calls Try.prog 3 #[] w (RetB (.bool true) w) := by
  have A0 := Lib.hid awake13_any
  have C1 := Lib.hid (press_new [⟨10, 9, 5⟩, ⟨10, 0, 1⟩, ⟨4, 0, 0⟩] 3 20 0 [9, 7, 4] #[.int .i64 10, .int .i64 9, .int .i64 5, .int .i64 10, .int .i64 0, .int .i64 1, .int .i64 4, .int .i64 0, .int .i64 0] rfl (by decide) rfl (by decide) known_press1)
  have C2 := Lib.hid (press_new [⟨10, 9, 5⟩, ⟨4, 0, 0⟩] 2 12 9 [] #[.int .i64 10, .int .i64 9, .int .i64 5, .int .i64 4, .int .i64 0, .int .i64 0] rfl (by decide) rfl (by decide) known_press2)
  have C3 := Lib.hid (press_new [⟨1, 2, 0⟩] 1 12 1 [] #[.int .i64 1, .int .i64 2, .int .i64 0] rfl (by decide) rfl (by decide) known_press3)
  have C4 : Hid (∀ w', Calls Try.prog 10 #[.slice none 0 0, .int .i64 (-1)] w' (PressA 1 [] w')) := fun w' => epress_b none 0 [] (-1) 1 [] w' (by decide) (by decide) (fun k x hx => by simp at hx) (by decide) known_press4
  have C5 := Lib.hid (press_new [⟨3, 0, 1⟩, ⟨4, 0, 1⟩] 2 7 0 [3, 4] #[.int .i64 3, .int .i64 0, .int .i64 1, .int .i64 4, .int .i64 0, .int .i64 1] rfl (by decide) rfl (by decide) known_press5)
  have C6 := Lib.hid (press_new [⟨10, 0, 1⟩, ⟨10, 0, 2⟩] 2 10 0 [6, 3] #[.int .i64 10, .int .i64 0, .int .i64 1, .int .i64 10, .int .i64 0, .int .i64 2] rfl (by decide) rfl (by decide) known_press6)
  obtain ⟨⟨k1, k2⟩, ⟨k3, k4⟩⟩ := known_cost
  have C7 := Lib.hid (cost_new [⟨10, 0, 1⟩, ⟨10, 0, 3⟩, ⟨5, 0, 0⟩] [9, 7, 0] 3 3 4 true #[.int .i64 10, .int .i64 0, .int .i64 1, .int .i64 10, .int .i64 0, .int .i64 3, .int .i64 5, .int .i64 0, .int .i64 0] #[.int .i64 9, .int .i64 7, .int .i64 0] rfl (by decide) rfl (by decide) (fun x hx => by simp at hx; rcases hx with rfl | rfl | rfl <;> decide) rfl rfl k1 k2)
  have C8 := Lib.hid (cost_new [⟨10, 0, 1⟩] [11] 1 1 0 false #[.int .i64 10, .int .i64 0, .int .i64 1] #[.int .i64 11] rfl (by decide) rfl (by decide) (fun x hx => by simp at hx; subst hx; decide) rfl rfl k3 k4)
  have C9 := Lib.hid (floor_new [⟨10, 9, 5⟩, ⟨4, 0, 0⟩] 2 13 true #[.int .i64 10, .int .i64 9, .int .i64 5, .int .i64 4, .int .i64 0, .int .i64 0] rfl (by decide) rfl known_floor.1 known_floor.2)
  have SH : Hid (∀ (l : List Int) (n : Nat) (cs : Array Value) (A' : Option Addr) (c : Nat) (w' : World) (B : Nat), cs = (l.map (Value.int .i64)).toArray → l.length = n → n ≤ 1000 → w'.heap.size = B → n ≤ c → ReadsI w' A' l → Calls Try.prog 13 #[.slice A' n c, .slice (some ⟨B, 0, none⟩) n n] (w'.alloc (.cells cs 2)) (Ret (.bool true) (w'.alloc (.cells cs 2)))) := fun l n cs A' c w' B hc hn hn2 hB h1 h2 => by
    subst hB
    exact shares_any A' _ c n l n _ (by omega) hn (h2.on ((Below.refl _ _).alloc (Nat.le_refl _) _)) (ints_new w' _ l cs hc) h1 (Nat.le_refl _)
  clear k1 k2 k3 k4
  go_enter Try.func3, Try.ntmps3
  go_wp2_with fail
  refine (A0.out _).mono ?_; rintro e aw ⟨rfl, a⟩
  have ga := Lib.hid a
  clear A0 a
  go_wp2_with fail
  refine (C1.out aw _ rfl).mono ?_; rintro e w1 ⟨X1, x1, rfl, p1, _, r1, b1⟩
  replace b1 := Lib.hid (below_on ga.out b1)
  replace r1 := Lib.hid r1
  clear C1 ga
  go_wp2_with fail
  refine (C2.out w1 _ rfl).mono ?_; rintro e w2 ⟨X2, x2, rfl, _, _, _, b2⟩
  replace r1 := Lib.hid (r1.out.on b2)
  replace b2 := Lib.hid (below_on b1.out b2)
  clear C2 b1
  go_wp2_with fail
  refine (C3.out w2 _ rfl).mono ?_; rintro e w3 ⟨X3, x3, rfl, _, _, _, b3⟩
  replace r1 := Lib.hid (r1.out.on b3)
  replace b3 := Lib.hid (below_on b2.out b3)
  clear C3 b2
  go_wp2_with fail
  refine (C4.out w3).mono ?_; rintro e w4 ⟨X4, x4, rfl, _, _, _, b4⟩
  replace r1 := Lib.hid (r1.out.on b4)
  replace b4 := Lib.hid (below_on b3.out b4)
  clear C4 b3
  go_wp2_with fail
  refine (C5.out w4 _ rfl).mono ?_; rintro e w5 ⟨X5, x5, rfl, p5, _, r5, b5⟩
  replace r1 := Lib.hid (r1.out.on b5)
  replace r5 := Lib.hid r5
  replace b5 := Lib.hid (below_on b4.out b5)
  clear C5 b4
  go_wp2_with fail
  refine (C6.out w5 _ rfl).mono ?_; rintro e w6 ⟨X6, x6, rfl, p6, _, r6, b6⟩
  replace r1 := Lib.hid (r1.out.on b6)
  replace r5 := Lib.hid (r5.out.on b6)
  replace r6 := Lib.hid r6
  replace b6 := Lib.hid (below_on b5.out b6)
  clear C6 b5
  go_wp2_with fail
  refine (C7.out w6 _ _ rfl (by simp)).mono ?_; rintro e w7 ⟨rfl, b7⟩
  replace r1 := Lib.hid (r1.out.on b7)
  replace r5 := Lib.hid (r5.out.on b7)
  replace r6 := Lib.hid (r6.out.on b7)
  replace b7 := Lib.hid (below_on b6.out b7)
  clear C7 b6
  go_wp2_with fail
  refine (C8.out w7 _ _ rfl (by simp)).mono ?_; rintro e w8 ⟨rfl, b8⟩
  replace r1 := Lib.hid (r1.out.on b8)
  replace r5 := Lib.hid (r5.out.on b8)
  replace r6 := Lib.hid (r6.out.on b8)
  replace b8 := Lib.hid (below_on b7.out b8)
  clear C8 b7
  go_wp2_with fail
  refine (C9.out w8 _ rfl).mono ?_; rintro e w9 ⟨rfl, b9⟩
  replace r1 := Lib.hid (r1.out.on b9)
  replace r5 := Lib.hid (r5.out.on b9)
  replace r6 := Lib.hid (r6.out.on b9)
  replace b9 := Lib.hid (below_on b8.out b9)
  clear C9 b8
  have al : ∀ (a : World) (ob : Obj) (q : Nat), Below a.heap.size a ((a.alloc ob).drewN q) := fun a ob q => below_dN ((Below.refl _ _).alloc (Nat.le_refl _) _) q
  have S1 := Lib.hid (SH.out [9, 7, 4] 3 #[.int .i64 9, .int .i64 7, .int .i64 4] X1 x1 w9 _ rfl rfl (by decide) rfl p1 r1.out)
  clear r1 p1
  go_wp2_with fail
  refine S1.out.mono ?_; rintro e w' ⟨rfl, q1, rfl⟩
  clear S1
  have bA := al w9 (.cells #[.int .i64 9, .int .i64 7, .int .i64 4] 2) q1
  generalize (w9.alloc (.cells #[.int .i64 9, .int .i64 7, .int .i64 4] 2)).drewN q1 = wA at *
  replace r5 := Lib.hid (r5.out.on bA)
  replace r6 := Lib.hid (r6.out.on bA)
  replace bA := Lib.hid (below_on b9.out bA)
  clear b9
  have S5 := Lib.hid (SH.out [3, 4] 2 #[.int .i64 3, .int .i64 4] X5 x5 wA _ rfl rfl (by decide) rfl p5 r5.out)
  clear r5 p5
  go_wp2_with fail
  refine S5.out.mono ?_; rintro e w' ⟨rfl, q2, rfl⟩
  clear S5
  have bB := al wA (.cells #[.int .i64 3, .int .i64 4] 2) q2
  generalize (wA.alloc (.cells #[.int .i64 3, .int .i64 4] 2)).drewN q2 = wB at *
  replace r6 := Lib.hid (r6.out.on bB)
  replace bB := Lib.hid (below_on bA.out bB)
  clear bA
  have S6 := Lib.hid (SH.out [6, 3] 2 #[.int .i64 6, .int .i64 3] X6 x6 wB _ rfl rfl (by decide) rfl p6 r6.out)
  clear r6 p6
  go_wp2_with fail
  refine S6.out.mono ?_; rintro e w' ⟨rfl, q3, rfl⟩
  clear S6
  have bC := Lib.hid (below_on bB.out (al wB (.cells #[.int .i64 6, .int .i64 3] 2) q3))
  generalize (wB.alloc (.cells #[.int .i64 6, .int .i64 3] 2)).drewN q3 = wC at *
  clear bB al
  go_wp2
  go_ret
  exact ⟨rfl, by have s0 := bC.out.size; (try simp only [World.heap_drewN, World.size_alloc] at s0); repeat (first | exact Below.refl _ _ | exact bC.out | refine Below.trans ?_ (Below.mono bC.out (by first | omega | (simp; done) | (simp; omega))) | refine Below.setCell ?_ (by first | omega | (simp; done) | (simp; omega)) _ | refine below_dN ?_ _ | refine Below.drew ?_ | refine Below.alloc ?_ (by first | omega | (simp; done) | (simp; omega)) _)⟩
end Go.Proofs.Ytkjgpidiompmlaa
