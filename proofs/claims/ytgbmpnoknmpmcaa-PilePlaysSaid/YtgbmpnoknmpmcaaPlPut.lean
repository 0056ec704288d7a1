/- A pile's insert. -/
import Derived.Test.YtgbmpnoknmpmcaaPlIns
import Derived.Deep.RegionWith
namespace Go.Proofs.Ytgbmpnoknmpmcaa
open Go.RowKit
set_option linter.unusedVariables false
set_option linter.unusedSimpArgs false

section
variable {o : Nat → Nat} {σ : Nat} {w : World} {a room : Nat} {v : Value} {l : List It}
theorem box_item {wx W : World} {b1 b2 : Nat} {s x0 x1 x2 : Value} (hb : Below wx.heap.size wx W) (l1 : b1 < wx.heap.size) (l2 : b2 < wx.heap.size)
    (r1 : wx.cell? ⟨b1, 1, none⟩ = some s) (r2 : wx.cell? ⟨b2, 0, none⟩ = some x0 ∧ wx.cell? ⟨b2, 1, none⟩ = some x1 ∧ wx.cell? ⟨b2, 2, none⟩ = some x2) :
    Below wx.heap.size wx W ∧ W.cell? ⟨b1, 1, none⟩ = some s ∧ (W.cell? ⟨b2, 0, none⟩ = some x0 ∧ W.cell? ⟨b2, 1, none⟩ = some x1 ∧ W.cell? ⟨b2, 2, none⟩ = some x2) := by
  refine ⟨hb, ?_, ?_, ?_, ?_⟩
  · rw [hb.cell (p := ⟨b1, 1, none⟩) l1]; exact r1
  · rw [hb.cell (p := ⟨b2, 0, none⟩) l2]; exact r2.1
  · rw [hb.cell (p := ⟨b2, 1, none⟩) l2]; exact r2.2.1
  · rw [hb.cell (p := ⟨b2, 2, none⟩) l2]; exact r2.2.2
set_option maxHeartbeats 3200000 in
theorem pinsert (x : It) (h : Pl o σ w a room v l) (hl : l.length < 1000) (hs : SortedI l) :
    Calls Try.prog 23 #[.pointer (some ⟨a, 0, none⟩), vI x] w fun e w' => e = .returned (.tuple #[]) ∧ ∃ o' v', Step o o' σ w w' ∧ Pl o' σ w' a room v' (ins x l) := by
  obtain ⟨A, cap, rfl⟩ := h.row.any
  obtain ⟨hlc, hcap⟩ := h.row.caps
  obtain ⟨p, hp⟩ : ∃ p, place x l = p := ⟨_, rfl⟩
  have hpl := place_le x l
  rw [hp] at hpl
  have C1 := Lib.hid (fun (w' : World) (hR : RdI w' A l) => search_any A cap l x p w' (by omega) hs hR hp hcap hlc)
  have C2 := Lib.hid (fun (o' : Nat → Nat) (w' : World) (vb : Nat) (hr : Row o' σ w' 29 3 (.slice A l.length cap) l.length (cellsI l)) (hv : w'.heap[vb]? = some (.cells #[.int .i64 x.1, .int .i64 x.2.1, .int .i64 x.2.2] 29 (0, 0))) (hne : (Value.slice A l.length cap).ownBlock ≠ some vb) => insert_grown (i := p) hr hv hne (by omega) hpl)
  have h1 := h.alloc (.cells #[.int .i64 x.1, .int .i64 x.2.1, .int .i64 x.2.2] 29) (σ + 1)
  have hbx := Blk.made o (σ + 1) w #[.int .i64 x.1, .int .i64 x.2.1, .int .i64 x.2.2] 29
  have hins : ins x l = l.take p ++ x :: l.drop p := by rw [ins, hp]
  have hle : (ins x l).length = l.length + 1 := ins_length x l
  obtain ⟨xi, xk, xt⟩ := x
  unfold vI
  simp only at *
  generalize hx : w.alloc (.cells #[.int .i64 xi, .int .i64 xk, .int .i64 xt] 29) = wx at *
  have r1 : wx.cell? ⟨a, 1, none⟩ = some (.slice A l.length cap) := by rw [h1.box.cell]; simp
  have r2 : wx.cell? ⟨w.heap.size, 0, none⟩ = some (.int .i64 xi) ∧ wx.cell? ⟨w.heap.size, 1, none⟩ = some (.int .i64 xk) ∧ wx.cell? ⟨w.heap.size, 2, none⟩ = some (.int .i64 xt) := by refine ⟨?_, ?_, ?_⟩ <;> (rw [hbx.cell]; simp)
  have l1 := h1.box.lt
  have l2 := hbx.lt
  have hst : Step o (tag o w.heap.size (σ + 1)) σ w wx := by rw [← hx]; exact (Step.refl o σ w).alloc (σ + 1) _
  have R0 := Lib.hid h1.row.rd
  have F := Lib.hid (And.intro h1 (And.intro hbx (And.intro hst (And.intro hins hle))))
  clear h h1 hbx hst hins hle hs hp
  go_enter Try.func23, Try.ntmps23
  go_wp2
  clear hx
  go_region_held3 (fun W => Below wx.heap.size wx W ∧ W.cell? ⟨a, 1, none⟩ = some (.slice A l.length cap) ∧ (W.cell? ⟨w.heap.size, 0, none⟩ = some (.int .i64 xi) ∧ W.cell? ⟨w.heap.size, 1, none⟩ = some (.int .i64 xk) ∧ W.cell? ⟨w.heap.size, 2, none⟩ = some (.int .i64 xt)))
    (first | assumption | exact box_item (Below.drew (Below.refl _ _)) l1 l2 r1 r2 | exact box_item (Below.trans (Below.drew (Below.refl _ _)) hb2) l1 l2 r1 r2)
    (first
      | (go_at_call 29; refine (C1.out _ (R0.out.below (Below.drew (Below.refl _ _)))).mono ?_; rintro e w2 ⟨⟨bq, rfl⟩, hb2⟩))
  have b2 : Below wx.heap.size wx w2 := And.left (by assumption)
  rename_i hheld
  obtain ⟨_, c1, d0, d1, d2⟩ := id hheld
  clear hheld hb2 r1 r2
  have P2 := F.out.1.below b2
  obtain ⟨wy, hwy⟩ : ∃ wy, wy = (w2.alloc (.cells #[.int .i64 xi, .int .i64 xk, .int .i64 xt] 29)).drew := ⟨_, rfl⟩
  have P3 : Pl (tag (tag o w.heap.size (σ + 1)) w2.heap.size (σ + 1)) σ wy a room (.slice A l.length cap) l := by rw [hwy]; exact (P2.alloc _ (σ + 1)).drewN 1
  have st3 : Step o (tag (tag o w.heap.size (σ + 1)) w2.heap.size (σ + 1)) σ w wy := by rw [hwy]; exact ((F.out.2.2.1.below b2).alloc (σ + 1) _).drew
  have hv3 : wy.heap[w2.heap.size]? = some (.cells #[.int .i64 xi, .int .i64 xk, .int .i64 xt] 29 (0, 0)) := by rw [hwy]; exact heap_alloc_new w2 _
  have hne3 : (Value.slice A l.length cap).ownBlock ≠ some w2.heap.size := fun e => by have := P2.row.lt e; exact absurd this (Nat.lt_irrefl _)
  have C3 := Lib.hid (C2.out _ wy w2.heap.size P3.row hv3 hne3)
  have G := Lib.hid (And.intro P3 st3)
  have hra : ∀ (w4 : World), wy.grownBy w4 (Value.slice A l.length cap).ownBlock → w4.cell? ⟨a, 1, none⟩ = some (.slice A l.length cap) ∧ w4.frozen? ⟨a, 1, none⟩ = false := fun w4 hg => by
    have hb := P3.box.grown hg (P3.row.ne_blk P3.box.at_ (by decide)) 0
    exact ⟨by rw [hb.cell]; simp, hb.frozen 1⟩
  replace hra := Lib.hid hra
  have c1a : ∀ ob : Obj, (w2.alloc ob).cell? ⟨a, 1, none⟩ = some (.slice A l.length cap) := fun ob => by rw [(P2.alloc ob 0).box.cell]; simp
  clear P3 st3 hv3 hne3 P2 b2 C2
  go_wp2
  subst hwy
  go_region_with (first
    | (go_at_call 31; refine C3.out.mono ?_; rintro e w4 ⟨v', rfl, hg4, ho4, hl4⟩; obtain ⟨x1, x2⟩ := hra.out w4 hg4; obtain ⟨A4, c4, rfl⟩ := own_any ho4))
  all_goals
    go_wp2
    go_end0
    obtain ⟨P3, st3⟩ := G.out
    obtain ⟨_, _, _, hins, hle⟩ := F.out
    have hb4 := P3.box.grown hg4 (P3.row.ne_blk P3.box.at_ (by decide)) σ
    have r4 := P3.row.after ho4 hl4
    refine ⟨rfl, _, _, (st3.grown hg4 (fun k hk => .inr (P3.row.mine k hk)) σ).setCell (.inr hb4.mine) _, hb4.set 1 _, ?_⟩
    rw [hle, hins]
    exact r4.other (r4.ne_blk hb4.at_ (by decide)) _
end
end Go.Proofs.Ytgbmpnoknmpmcaa
