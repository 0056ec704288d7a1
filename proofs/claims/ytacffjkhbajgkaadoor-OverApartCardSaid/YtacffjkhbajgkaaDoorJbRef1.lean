/- The document's own jobs (chapter 8): Good, Charge, Work. (Written by genjref.py.) -/
import Derived.Test.YtacffjkhbajgkaaDoorJb1
import Derived.Test.YtacffjkhbajgkaaDoorName2
namespace Go.Proofs.YtacffjkhbajgkaaDoor
open Go.RowKit Go.Lib
set_option linter.unusedVariables false
set_option linter.unusedSimpArgs false

set_option maxHeartbeats 3200000 in
set_option maxRecDepth 100000 in
theorem rjgood_raw (s : ByteArray) (r d b a v c : Int) (h g : Bool) (w : World) (hs : s.size ≤ 1000000) (hL : Ltr w) (hg : (goodB s && jnum r d b a v c) = g) :
    Calls Tryd.prog 32 #[.agg #[.string s, .int .i64 r, .int .i64 d, .int .i64 b, .int .i64 a, .int .i64 v, .int .i64 c, .bool h]] w (RetB (.bool g) w) := by
  have C0 : Hid (Calls Tryd.prog 40 #[.string s] (w.alloc (.cells #[.string s, .int .i64 r, .int .i64 d, .int .i64 b, .int .i64 a, .int .i64 v, .int .i64 c, .bool h] 55)) (RetB (.bool (goodB s)) (w.alloc (.cells #[.string s, .int .i64 r, .int .i64 d, .int .i64 b, .int .i64 a, .int .i64 v, .int .i64 c, .bool h] 55)))) := rgood_any s _ hs (hL.below ((Below.refl _ _).alloc (Nat.le_refl _) _))
  obtain ⟨b0, h0⟩ : ∃ b0, goodB s = b0 := ⟨_, rfl⟩
  obtain ⟨b1, h1⟩ : ∃ b1, decide (0 ≤ r) = b1 := ⟨_, rfl⟩
  obtain ⟨b2, h2⟩ : ∃ b2, decide (r < d) = b2 := ⟨_, rfl⟩
  obtain ⟨b3, h3⟩ : ∃ b3, decide (d ≤ 10000) = b3 := ⟨_, rfl⟩
  obtain ⟨b4, h4⟩ : ∃ b4, decide (1 ≤ b) = b4 := ⟨_, rfl⟩
  obtain ⟨b5, h5⟩ : ∃ b5, decide (b ≤ 1000) = b5 := ⟨_, rfl⟩
  obtain ⟨b6, h6⟩ : ∃ b6, decide (1 ≤ a) = b6 := ⟨_, rfl⟩
  obtain ⟨b7, h7⟩ : ∃ b7, decide (a ≤ 1000) = b7 := ⟨_, rfl⟩
  obtain ⟨b8, h8⟩ : ∃ b8, decide (0 ≤ v) = b8 := ⟨_, rfl⟩
  obtain ⟨b9, h9⟩ : ∃ b9, decide (v ≤ 1000000) = b9 := ⟨_, rfl⟩
  obtain ⟨b10, h10⟩ : ∃ b10, decide (0 ≤ c) = b10 := ⟨_, rfl⟩
  obtain ⟨b11, h11⟩ : ∃ b11, decide (c ≤ 100) = b11 := ⟨_, rfl⟩
  have hj : jnum r d b a v c = (b1 && (b2 && (b3 && (b4 && (b5 && (b6 && (b7 && (b8 && (b9 && (b10 && b11)))))))))) := by
    rw [← h1, ← h2, ← h3, ← h4, ← h5, ← h6, ← h7, ← h8, ← h9, ← h10, ← h11, Bool.eq_iff_iff, jnum_iff]
    simp only [Bool.and_eq_true, decide_eq_true_eq]
    omega
  rw [h0] at C0
  rw [h0, hj] at hg
  clear h0 hj hL
  subst hg
  go_enter Tryd.func32, Tryd.ntmps32
  go_wp2_with fail
  refine C0.out.mono ?_; rintro e gw ⟨rfl, gb⟩
  obtain ⟨c0, c1, c2, c3, c4, c5, c6, c7⟩ := (JAt.below (JAt.made w 55 s r d b a v c h) (by simp) gb).box
  replace gb : Hid (Below w.heap.size w gw) := below_on ((Below.refl _ _).alloc (Nat.le_refl _) _) gb
  clear C0
  cases b0
  · go_wp2
    go_ret
    exact ⟨rfl, by have s0 := gb.out.size; (try simp only [World.heap_drewN, World.size_alloc] at s0); repeat (first | exact Below.refl _ _ | exact gb.out | refine Below.trans ?_ (Below.mono gb.out (by first | omega | (simp; done) | (simp; omega))) | refine Below.setCell ?_ (by first | omega | (simp; done) | (simp; omega)) _ | refine below_dN ?_ _ | refine Below.drew ?_ | refine Below.alloc ?_ (by first | omega | (simp; done) | (simp; omega)) _)⟩
  cases b1
  · go_wp2
    go_ret
    exact ⟨rfl, by have s0 := gb.out.size; (try simp only [World.heap_drewN, World.size_alloc] at s0); repeat (first | exact Below.refl _ _ | exact gb.out | refine Below.trans ?_ (Below.mono gb.out (by first | omega | (simp; done) | (simp; omega))) | refine Below.setCell ?_ (by first | omega | (simp; done) | (simp; omega)) _ | refine below_dN ?_ _ | refine Below.drew ?_ | refine Below.alloc ?_ (by first | omega | (simp; done) | (simp; omega)) _)⟩
  cases b2
  · go_wp2
    go_ret
    exact ⟨rfl, by have s0 := gb.out.size; (try simp only [World.heap_drewN, World.size_alloc] at s0); repeat (first | exact Below.refl _ _ | exact gb.out | refine Below.trans ?_ (Below.mono gb.out (by first | omega | (simp; done) | (simp; omega))) | refine Below.setCell ?_ (by first | omega | (simp; done) | (simp; omega)) _ | refine below_dN ?_ _ | refine Below.drew ?_ | refine Below.alloc ?_ (by first | omega | (simp; done) | (simp; omega)) _)⟩
  cases b3
  · go_wp2
    go_ret
    exact ⟨rfl, by have s0 := gb.out.size; (try simp only [World.heap_drewN, World.size_alloc] at s0); repeat (first | exact Below.refl _ _ | exact gb.out | refine Below.trans ?_ (Below.mono gb.out (by first | omega | (simp; done) | (simp; omega))) | refine Below.setCell ?_ (by first | omega | (simp; done) | (simp; omega)) _ | refine below_dN ?_ _ | refine Below.drew ?_ | refine Below.alloc ?_ (by first | omega | (simp; done) | (simp; omega)) _)⟩
  cases b4
  · go_wp2
    go_ret
    exact ⟨rfl, by have s0 := gb.out.size; (try simp only [World.heap_drewN, World.size_alloc] at s0); repeat (first | exact Below.refl _ _ | exact gb.out | refine Below.trans ?_ (Below.mono gb.out (by first | omega | (simp; done) | (simp; omega))) | refine Below.setCell ?_ (by first | omega | (simp; done) | (simp; omega)) _ | refine below_dN ?_ _ | refine Below.drew ?_ | refine Below.alloc ?_ (by first | omega | (simp; done) | (simp; omega)) _)⟩
  cases b5
  · go_wp2
    go_ret
    exact ⟨rfl, by have s0 := gb.out.size; (try simp only [World.heap_drewN, World.size_alloc] at s0); repeat (first | exact Below.refl _ _ | exact gb.out | refine Below.trans ?_ (Below.mono gb.out (by first | omega | (simp; done) | (simp; omega))) | refine Below.setCell ?_ (by first | omega | (simp; done) | (simp; omega)) _ | refine below_dN ?_ _ | refine Below.drew ?_ | refine Below.alloc ?_ (by first | omega | (simp; done) | (simp; omega)) _)⟩
  cases b6
  · go_wp2
    go_ret
    exact ⟨rfl, by have s0 := gb.out.size; (try simp only [World.heap_drewN, World.size_alloc] at s0); repeat (first | exact Below.refl _ _ | exact gb.out | refine Below.trans ?_ (Below.mono gb.out (by first | omega | (simp; done) | (simp; omega))) | refine Below.setCell ?_ (by first | omega | (simp; done) | (simp; omega)) _ | refine below_dN ?_ _ | refine Below.drew ?_ | refine Below.alloc ?_ (by first | omega | (simp; done) | (simp; omega)) _)⟩
  cases b7
  · go_wp2
    go_ret
    exact ⟨rfl, by have s0 := gb.out.size; (try simp only [World.heap_drewN, World.size_alloc] at s0); repeat (first | exact Below.refl _ _ | exact gb.out | refine Below.trans ?_ (Below.mono gb.out (by first | omega | (simp; done) | (simp; omega))) | refine Below.setCell ?_ (by first | omega | (simp; done) | (simp; omega)) _ | refine below_dN ?_ _ | refine Below.drew ?_ | refine Below.alloc ?_ (by first | omega | (simp; done) | (simp; omega)) _)⟩
  cases b8
  · go_wp2
    go_ret
    exact ⟨rfl, by have s0 := gb.out.size; (try simp only [World.heap_drewN, World.size_alloc] at s0); repeat (first | exact Below.refl _ _ | exact gb.out | refine Below.trans ?_ (Below.mono gb.out (by first | omega | (simp; done) | (simp; omega))) | refine Below.setCell ?_ (by first | omega | (simp; done) | (simp; omega)) _ | refine below_dN ?_ _ | refine Below.drew ?_ | refine Below.alloc ?_ (by first | omega | (simp; done) | (simp; omega)) _)⟩
  cases b9
  · go_wp2
    go_ret
    exact ⟨rfl, by have s0 := gb.out.size; (try simp only [World.heap_drewN, World.size_alloc] at s0); repeat (first | exact Below.refl _ _ | exact gb.out | refine Below.trans ?_ (Below.mono gb.out (by first | omega | (simp; done) | (simp; omega))) | refine Below.setCell ?_ (by first | omega | (simp; done) | (simp; omega)) _ | refine below_dN ?_ _ | refine Below.drew ?_ | refine Below.alloc ?_ (by first | omega | (simp; done) | (simp; omega)) _)⟩
  cases b10
  · go_wp2
    go_ret
    exact ⟨rfl, by have s0 := gb.out.size; (try simp only [World.heap_drewN, World.size_alloc] at s0); repeat (first | exact Below.refl _ _ | exact gb.out | refine Below.trans ?_ (Below.mono gb.out (by first | omega | (simp; done) | (simp; omega))) | refine Below.setCell ?_ (by first | omega | (simp; done) | (simp; omega)) _ | refine below_dN ?_ _ | refine Below.drew ?_ | refine Below.alloc ?_ (by first | omega | (simp; done) | (simp; omega)) _)⟩
  cases b11
  all_goals
    go_wp2
    go_ret
    exact ⟨rfl, by have s0 := gb.out.size; (try simp only [World.heap_drewN, World.size_alloc] at s0); repeat (first | exact Below.refl _ _ | exact gb.out | refine Below.trans ?_ (Below.mono gb.out (by first | omega | (simp; done) | (simp; omega))) | refine Below.setCell ?_ (by first | omega | (simp; done) | (simp; omega)) _ | refine below_dN ?_ _ | refine Below.drew ?_ | refine Below.alloc ?_ (by first | omega | (simp; done) | (simp; omega)) _)⟩
set_option maxHeartbeats 800000 in
set_option maxRecDepth 100000 in
theorem rjcharge_raw (s : ByteArray) (r d b a v c : Int) (h g : Bool) (z : Int) (w : World) (hs : s.size ≤ 1000000) (hL : Ltr w) (hg : (goodB s && jnum r d b a v c) = g) (hz : (if g then b + c else 0) = z) :
    Calls Tryd.prog 26 #[.agg #[.string s, .int .i64 r, .int .i64 d, .int .i64 b, .int .i64 a, .int .i64 v, .int .i64 c, .bool h]] w (RetB (.int .i64 z) w) := by
  have C := Lib.hid (rjgood_raw s r d b a v c h g (w.alloc (.cells #[.string s, .int .i64 r, .int .i64 d, .int .i64 b, .int .i64 a, .int .i64 v, .int .i64 c, .bool h] 55)) hs (hL.below ((Below.refl _ _).alloc (Nat.le_refl _) _)) hg)
  have e1 : g = true → wrap64 (b + c) = z := by
    intro hgt
    subst hgt
    have hj : jnum r d b a v c = true := (Bool.and_eq_true_iff.1 hg).2
    rw [jnum_iff] at hj
    rw [← hz, if_pos rfl]; unfold wrap64; omega
  clear hg hL
  go_enter Tryd.func26, Tryd.ntmps26
  go_wp2_with fail
  refine C.out.mono ?_; rintro e gw ⟨rfl, gb⟩
  obtain ⟨c0, c1, c2, c3, c4, c5, c6, c7⟩ := (JAt.below (JAt.made w 55 s r d b a v c h) (by simp) gb).box
  have G := Lib.hid (below_on ((Below.refl _ _).alloc (Nat.le_refl _) _) gb)
  clear C gb
  cases g
  · obtain rfl : 0 = z := hz
    clear e1
    go_wp2
    go_ret
    exact ⟨rfl, by have s0 := G.out.size; (try simp only [World.heap_drewN, World.size_alloc] at s0); repeat (first | exact Below.refl _ _ | exact G.out | refine Below.trans ?_ (Below.mono G.out (by first | omega | (simp; done) | (simp; omega))) | refine Below.setCell ?_ (by first | omega | (simp; done) | (simp; omega)) _ | refine below_dN ?_ _ | refine Below.drew ?_ | refine Below.alloc ?_ (by first | omega | (simp; done) | (simp; omega)) _)⟩
  · replace e1 := e1 rfl
    clear hz
    go_wp2
    go_ret
    exact ⟨ret_i e1, G.out⟩
theorem rjgood_any (j : Jb) (w : World) (hs : j.name.size ≤ 1000000) (hL : Ltr w) : Calls Tryd.prog 32 #[.agg j.cells] w (RetB (.bool j.good) w) := rjgood_raw _ _ _ _ _ _ _ _ _ w hs hL rfl
theorem rjcharge_any (j : Jb) (w : World) (hs : j.name.size ≤ 1000000) (hL : Ltr w) : Calls Tryd.prog 26 #[.agg j.cells] w (RetB (.int .i64 j.charge) w) := rjcharge_raw _ _ _ _ _ _ _ _ _ _ w hs hL rfl rfl
end Go.Proofs.YtacffjkhbajgkaaDoor
