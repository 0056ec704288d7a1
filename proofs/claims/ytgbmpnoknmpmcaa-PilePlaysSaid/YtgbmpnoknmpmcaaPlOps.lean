/- The calls of a pile: New, Push, Top, Pop, Move, Drop. -/
import Derived.Test.YtgbmpnoknmpmcaaPlDel
namespace Go.Proofs.Ytgbmpnoknmpmcaa
open Go.RowKit
set_option linter.unusedVariables false
set_option linter.unusedSimpArgs false

/-- What a pile keeps. -/
structure PInv (room : Nat) (l : List It) : Prop where
  sorted : SortedI l
  ids : (l.map (·.1)).Nodup
  le : l.length ≤ room
  room1 : 1 ≤ room
  room2 : room ≤ 1000
def pushE (room : Nat) (l : List It) (x : It) : Int := if 0 ≤ idxI x.1 l then 5 else if l.length = room then 6 else 0
def pushL (room : Nat) (l : List It) (x : It) : List It := if 0 ≤ idxI x.1 l then l else if l.length = room then l else ins x l
def topI : List It → It × Bool
  | [] => ((0, 0, 0), false)
  | y :: _ => (y, true)
def moveE (l : List It) (id : Int) : Int := if 0 ≤ idxI id l then 0 else 4
def moveL (l : List It) (id key : Int) : List It := match l.findIdx? (fun x => decide (x.1 = id)) with
  | some i => match l[i]? with
    | some y => ins (y.1, key, y.2.2) (l.eraseIdx i)
    | none => l
  | none => l
def dropL (l : List It) (id : Int) : List It := match l.findIdx? (fun x => decide (x.1 = id)) with
  | some i => l.eraseIdx i
  | none => l
theorem idx_neg {id : Int} {l : List It} (h : idxI id l < 0) : ∀ y ∈ l, y.1 ≠ id := by
  cases hf : l.findIdx? (fun x => decide (x.1 = id)) with
  | none => exact (idxI_none hf).2
  | some i => have := (idxI_some hf).1; omega
theorem PInv.start {room : Nat} (h1 : 1 ≤ room) (h2 : room ≤ 1000) : PInv room [] := ⟨List.Pairwise.nil, List.nodup_nil, Nat.zero_le _, h1, h2⟩
theorem PInv.ins {room : Nat} {l : List It} (h : PInv room l) {x : It} (hx : ∀ y ∈ l, y.1 ≠ x.1) (hl : l.length < room) : PInv room (ins x l) := by
  refine ⟨ins_sorted h.sorted hx, ?_, by rw [ins_length]; omega, h.room1, h.room2⟩
  have hp := (ins_perm x l).map (·.1)
  rw [hp.nodup_iff, List.map_cons, List.nodup_cons]
  refine ⟨fun hm => ?_, h.ids⟩
  obtain ⟨y, hy, he⟩ := List.mem_map.1 hm
  exact hx y hy he
theorem PInv.erase {room : Nat} {l : List It} (h : PInv room l) (i : Nat) : PInv room (l.eraseIdx i) :=
  ⟨h.sorted.sublist (List.eraseIdx_sublist _ _), h.ids.sublist ((List.eraseIdx_sublist _ _).map _), Nat.le_trans (List.eraseIdx_sublist _ _).length_le h.le, h.room1, h.room2⟩
theorem PInv.push {room : Nat} {l : List It} (h : PInv room l) (x : It) : PInv room (pushL room l x) := by
  unfold pushL
  split
  · exact h
  · rename_i h1
    split
    · exact h
    · rename_i h2
      exact h.ins (idx_neg (by omega)) (by have := h.le; omega)
theorem PInv.drop {room : Nat} {l : List It} (h : PInv room l) (id : Int) : PInv room (dropL l id) := by
  unfold dropL
  split
  · exact h.erase _
  · exact h
/-- The others have other IDs. -/
theorem ids_erase {l : List It} (h : (l.map (·.1)).Nodup) {i : Nat} {y : It} (hy : l[i]? = some y) : ∀ z ∈ l.eraseIdx i, z.1 ≠ y.1 := by
  intro z hz he
  obtain ⟨hi, hyi⟩ := List.getElem?_eq_some_iff.1 hy
  obtain ⟨j, hji, hj⟩ := (List.mem_eraseIdx_iff_getElem?).1 hz
  obtain ⟨hjl, hzj⟩ := List.getElem?_eq_some_iff.1 hj
  have hne := List.pairwise_iff_getElem.1 h
  rcases Nat.lt_or_gt_of_ne hji with hlt | hgt
  · exact hne j i (by simpa using hjl) (by simpa using hi) hlt (by simp [hzj, hyi, he])
  · exact hne i j (by simpa using hi) (by simpa using hjl) hgt (by simp [hzj, hyi, he])
theorem PInv.move {room : Nat} {l : List It} (h : PInv room l) (id key : Int) : PInv room (moveL l id key) := by
  unfold moveL
  split
  · split
    · rename_i i hi _ y hy
      have hil := (List.getElem?_eq_some_iff.1 hy).1
      exact (h.erase i).ins (x := (y.1, key, y.2.2)) (fun z hz => (ids_erase h.ids hy z hz : z.1 ≠ y.1)) (by rw [List.length_eraseIdx_of_lt hil]; have := h.le; omega)
    · exact h
  · exact h
theorem PInv.tail {room : Nat} {l : List It} (h : PInv room l) : PInv room l.tail := by
  have := h.erase 0
  rwa [List.eraseIdx_zero] at this

section
variable {o : Nat → Nat} {σ : Nat} {w : World} {a room : Nat} {v : Value} {l : List It}
set_option maxHeartbeats 800000 in
theorem pnew_bad (w : World) (r : Int) (h : r < 1 ∨ 1000 < r) : Calls Try.prog 9 #[.int .i64 r] w fun e w' => e = .returned (.tuple #[.pointer none, .int .i64 1]) ∧ w' = w := by
  go_enter Try.func9, Try.ntmps9
  by_cases h1 : r < 1
  · go_wp2
    go_ret2
    exact ⟨rfl, rfl⟩
  · have h1' : decide (r < 1) = false := decide_eq_false h1
    have h2 : r > 1000 := by omega
    clear h
    go_wp2
    go_ret2
    exact ⟨rfl, rfl⟩
set_option maxHeartbeats 800000 in
theorem pnew (o : Nat → Nat) (σ : Nat) (w : World) (room : Nat) (h0 : 1 ≤ room) (h1 : room ≤ 1000) : Calls Try.prog 9 #[.int .i64 (room : Int)] w fun e w' => e = .returned (.tuple #[.pointer (some ⟨w.heap.size, 0, none⟩), .int .i64 0]) ∧
    ∃ o' v, Step o o' σ w w' ∧ Pl o' σ w' w.heap.size room v [] := by
  go_enter Try.func9, Try.ntmps9
  have h0' : decide ((room : Int) < 1) = false := decide_eq_false (by omega)
  have h1' : decide ((room : Int) > 1000) = false := decide_eq_false (by omega)
  go_wp2
  go_ret2
  exact ⟨rfl, _, _, (Step.refl o σ w).alloc σ _, Blk.made o σ w _ _, Row.nil _ _ _ _ _⟩
set_option maxHeartbeats 1600000 in
theorem ppush (x : It) (c : Int) (L : List It) (h : Pl o σ w a room v l) (hi : PInv room l) (hc : pushE room l x = c) (hL : pushL room l x = L) :
    Calls Try.prog 10 #[.pointer (some ⟨a, 0, none⟩), vI x] w fun e w' => e = .returned (.int .i64 c) ∧ ∃ o' v', Step o o' σ w w' ∧ Pl o' σ w' a room v' L := by
  have hl := hi.le
  have hr := hi.room2
  have h1 := h.alloc (.cells #[.int .i64 x.1, .int .i64 x.2.1, .int .i64 x.2.2] 29) (σ + 1)
  have st1 := (Step.refl o σ w).alloc (σ + 1) (.cells #[.int .i64 x.1, .int .i64 x.2.1, .int .i64 x.2.2] 29)
  have hbx := Blk.made o (σ + 1) w #[.int .i64 x.1, .int .i64 x.2.1, .int .i64 x.2.2] 29
  obtain ⟨b, hb⟩ : ∃ b, decide (0 ≤ idxI x.1 l) = b := ⟨_, rfl⟩
  have C1 := Lib.hid (phas x.1 b h1 (by omega) hb)
  have C2 := Lib.hid (fun (o' : Nat → Nat) (w' : World) (h' : Pl o' σ w' a room v l) (hlt : l.length < room) => pinsert x h' (by omega) hi.sorted)
  obtain ⟨A, cap, rfl⟩ := h.row.any
  unfold pushE at hc
  unfold pushL at hL
  have F := Lib.hid (And.intro h1 (And.intro st1 hbx))
  clear h h1 st1 hbx hi
  obtain ⟨xi, xk, xt⟩ := x
  unfold vI at *
  simp only at *
  go_enter Try.func10, Try.ntmps10
  go_wp2_with fail
  refine C1.out.mono ?_
  rintro e gw ⟨rfl, g⟩
  obtain ⟨h1, st1, hbx⟩ := F.out
  have P2 := h1.below g
  have B2 := hbx.below g
  have c0 : gw.cell? ⟨a, 0, none⟩ = some (.int .i64 (room : Int)) := by rw [P2.box.cell]; simp
  have c1 : gw.cell? ⟨a, 1, none⟩ = some (.slice A l.length cap) := by rw [P2.box.cell]; simp
  have d0 : gw.cell? ⟨w.heap.size, 0, none⟩ = some (.int .i64 xi) := by rw [B2.cell]; simp
  have d1 : gw.cell? ⟨w.heap.size, 1, none⟩ = some (.int .i64 xk) := by rw [B2.cell]; simp
  have d2 : gw.cell? ⟨w.heap.size, 2, none⟩ = some (.int .i64 xt) := by rw [B2.cell]; simp
  have G := Lib.hid (And.intro P2 (st1.below g))
  clear P2 B2 h1 st1 hbx g F
  by_cases h0 : 0 ≤ idxI xi l
  · rw [decide_eq_true h0] at hb
    rw [if_pos h0] at hc
    rw [if_pos h0] at hL
    subst hb hc hL
    clear h0 C1 C2
    go_wp2
    go_ret
    exact ⟨rfl, _, _, G.out.2, G.out.1⟩
  · rw [decide_eq_false h0] at hb
    rw [if_neg h0] at hc
    rw [if_neg h0] at hL
    subst hb
    clear h0 C1
    by_cases h2 : l.length = room
    · rw [if_pos h2] at hc
      rw [if_pos h2] at hL
      have e1 : ((l.length : Int) == (room : Int)) = true := by simp [h2]
      subst hc hL
      clear C2 h2
      go_wp2
      go_quiet (fail)
      go_wp2
      go_ret
      exact ⟨rfl, _, _, G.out.2.drewN _, G.out.1.drewN _⟩
    · rw [if_neg h2] at hc
      rw [if_neg h2] at hL
      have hlt : l.length < room := by omega
      have e1 : ((l.length : Int) == (room : Int)) = false := by simp; omega
      subst hc hL
      clear h2
      go_wp2
      go_quiet (fail)
      go_wp2_with fail
      refine (C2.out _ _ (G.out.1.drewN _) hlt).mono ?_
      rintro e w3 ⟨rfl, o3, v3, st3, P3⟩
      have K := Lib.hid (And.intro ((G.out.2.drewN _).trans st3) P3)
      clear st3 P3 C2
      go_wp2
      go_ret
      exact ⟨rfl, o3, v3, K.out.1, K.out.2⟩
end
end Go.Proofs.Ytgbmpnoknmpmcaa
