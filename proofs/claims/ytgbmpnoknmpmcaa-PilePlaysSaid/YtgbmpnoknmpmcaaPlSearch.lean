/- slices.BinarySearchFunc over items in order. -/
import Derived.Test.YtgbmpnoknmpmcaaPlFind
namespace Go.Proofs.Ytgbmpnoknmpmcaa
open Go.RowKit
set_option linter.unusedVariables false
set_option linter.unusedSimpArgs false

theorem two_items {wx W : World} {b1 b2 k : Nat} {x0 x1 x2 y0 y1 y2 : Value} (hb : Below wx.heap.size wx W) (l1 : b1 < wx.heap.size) (l2 : b2 < wx.heap.size)
    (r1 : wx.cell? ⟨b1, k, none⟩ = some x0 ∧ wx.cell? ⟨b1, k + 1, none⟩ = some x1 ∧ wx.cell? ⟨b1, k + 2, none⟩ = some x2)
    (r2 : wx.cell? ⟨b2, 0, none⟩ = some y0 ∧ wx.cell? ⟨b2, 1, none⟩ = some y1 ∧ wx.cell? ⟨b2, 2, none⟩ = some y2) :
    Below wx.heap.size wx W ∧ (W.cell? ⟨b1, k, none⟩ = some x0 ∧ W.cell? ⟨b1, k + 1, none⟩ = some x1 ∧ W.cell? ⟨b1, k + 2, none⟩ = some x2) ∧ (W.cell? ⟨b2, 0, none⟩ = some y0 ∧ W.cell? ⟨b2, 1, none⟩ = some y1 ∧ W.cell? ⟨b2, 2, none⟩ = some y2) := by
  refine ⟨hb, ⟨?_, ?_, ?_⟩, ?_, ?_, ?_⟩
  · rw [hb.cell (p := ⟨b1, k, none⟩) l1]; exact r1.1
  · rw [hb.cell (p := ⟨b1, k + 1, none⟩) l1]; exact r1.2.1
  · rw [hb.cell (p := ⟨b1, k + 2, none⟩) l1]; exact r1.2.2
  · rw [hb.cell (p := ⟨b2, 0, none⟩) l2]; exact r2.1
  · rw [hb.cell (p := ⟨b2, 1, none⟩) l2]; exact r2.2.1
  · rw [hb.cell (p := ⟨b2, 2, none⟩) l2]; exact r2.2.2
set_option maxHeartbeats 3200000 in
theorem search_any (A : Option Addr) (cap : Nat) (l : List It) (x : It) (p : Nat) (w : World) (hn : l.length ≤ 1000) (hs : SortedI l) (hR : RdI w A l) (hp : place x l = p) (hcap : cap ≤ 9223372036854775807) (hlc : l.length ≤ cap) :
    Calls Try.prog 29 #[.slice A l.length cap, vI x, .func (.func 30) #[] #[]] w fun e w' => (∃ b, e = .returned (.tuple #[.int .i64 (p : Int), .bool b])) ∧ Below w.heap.size w w' := by
  have C := Lib.hid (fun (y : It) (c : Int) (hc : ordI y x = c) (w : World) => order_any y x c hc w)
  have hpl := place_le x l
  rw [hp] at hpl
  have hP := Lib.hid (fun (i : Nat) (y : It) (h : l[i]? = some y) => place_iff x hs h)
  have hR1 := Lib.hid (hR.below (w' := w.alloc (.cells #[.int .i64 x.1, .int .i64 x.2.1, .int .i64 x.2.2] 29)) (by repeat (first | exact Below.refl _ _ | refine Below.setCell ?_ (by first | omega | (simp; done) | (simp; omega)) _ | refine below_dN ?_ _ | refine Below.drew ?_ | refine Below.alloc ?_ (by first | omega | (simp; done) | (simp; omega)) _)))
  clear hR hs
  obtain ⟨xi, xk, xt⟩ := x
  unfold vI
  simp only
  go_enter Try.func29, Try.ntmps29
  go_wp2
  go_loopw [9, 10] (fun s1 s2 wr => ∃ (i j : Nat), s1 = .int .i64 (i : Int) ∧ s2 = .int .i64 (j : Int) ∧ i ≤ p ∧ p ≤ j ∧ j ≤ l.length ∧ Below (w.alloc (.cells #[.int .i64 xi, .int .i64 xk, .int .i64 xt] 29)).heap.size (w.alloc (.cells #[.int .i64 xi, .int .i64 xk, .int .i64 xt] 29)) wr) (fun s1 s2 _ => (intOf s2).toNat - (intOf s1).toNat)
  case atStart => exact ⟨0, l.length, rfl, rfl, by omega, by omega, by omega, Below.refl _ _⟩
  case round =>
    obtain ⟨i, j, rfl, rfl, h1, h2, h3, hb⟩ := hrel
    have b0 : wr.cell? ⟨w.heap.size, 0, none⟩ = some (.int .i64 xi) := by rw [hb.cell (p := ⟨w.heap.size, 0, none⟩) (by simp)]; simp
    have b1 : wr.cell? ⟨w.heap.size, 1, none⟩ = some (.int .i64 xk) := by rw [hb.cell (p := ⟨w.heap.size, 1, none⟩) (by simp)]; simp
    have b2 : wr.cell? ⟨w.heap.size, 2, none⟩ = some (.int .i64 xt) := by rw [hb.cell (p := ⟨w.heap.size, 2, none⟩) (by simp)]; simp
    have hRr := hR1.out.below hb
    have hbs : w.heap.size < wr.heap.size := by have := hb.size; simp at this; omega
    rcases Nat.lt_or_ge i j with hlt | hge
    · obtain ⟨k, hk⟩ : ∃ k, (i + j) / 2 = k := ⟨_, rfl⟩
      have hk1 : i ≤ k := by omega
      have hk2 : k < j := by omega
      obtain ⟨y, hy⟩ : ∃ y, l[k]? = some y := ⟨_, List.getElem?_eq_getElem (by omega)⟩
      obtain ⟨g, rfl, hg, d0, d1, d2⟩ := hRr k y hy
      obtain ⟨yi, yk, yt⟩ := y
      obtain ⟨c, hc⟩ : ∃ c, ordI (yi, yk, yt) (xi, xk, xt) = c := ⟨_, rfl⟩
      have C1 := Lib.hid (C.out (yi, yk, yt) c hc)
      have hcp : decide (c < 0) = decide (k < p) := by rw [← hc, ordI_neg, hP.out k _ hy, hp]
      have q1 : IntKind.i64.wrap ((i : Int) + (j : Int)) = (i : Int) + (j : Int) := by rw [IntKind.wrap_i64]; omega
      have q2 : IntKind.u64.wrap ((i : Int) + (j : Int)) = (i : Int) + (j : Int) := by rw [IntKind.wrap_u64]; omega
      have q3 : ((i : Int) + (j : Int)) / 2 = (k : Int) := by omega
      have hk0 : (0 : Int) ≤ (k : Int) := by omega
      have hk3 : (k : Int) < (l.length : Int) := by omega
      have r1 : wr.cell? ⟨g, k * 3, none⟩ = some (.int .i64 yi) ∧ wr.cell? ⟨g, k * 3 + 1, none⟩ = some (.int .i64 yk) ∧ wr.cell? ⟨g, k * 3 + 2, none⟩ = some (.int .i64 yt) := ⟨d0, d1, d2⟩
      have r2 : wr.cell? ⟨w.heap.size, 0, none⟩ = some (.int .i64 xi) ∧ wr.cell? ⟨w.heap.size, 1, none⟩ = some (.int .i64 xk) ∧ wr.cell? ⟨w.heap.size, 2, none⟩ = some (.int .i64 xt) := ⟨b0, b1, b2⟩
      have HB := Lib.hid hb
      have HC := Lib.hid hcp
      clear hy hRr hc d0 d1 d2 b0 b1 b2 hb hcp hP C hp
      go_wp2
      go_region_held3 (fun W => Below wr.heap.size wr W ∧ (W.cell? ⟨g, k * 3, none⟩ = some (.int .i64 yi) ∧ W.cell? ⟨g, k * 3 + 1, none⟩ = some (.int .i64 yk) ∧ W.cell? ⟨g, k * 3 + 2, none⟩ = some (.int .i64 yt)) ∧ (W.cell? ⟨w.heap.size, 0, none⟩ = some (.int .i64 xi) ∧ W.cell? ⟨w.heap.size, 1, none⟩ = some (.int .i64 xk) ∧ W.cell? ⟨w.heap.size, 2, none⟩ = some (.int .i64 xt)))
        (first | assumption | exact two_items (Below.drew (Below.refl _ _)) hg hbs r1 r2 | exact two_items (Below.trans (Below.drew (Below.refl _ _)) hb2) hg hbs r1 r2 | exact two_items (Below.trans (below_dN (Below.refl _ _) _) hb2) hg hbs r1 r2)
        (first
          | (go_at_call 30; refine (C1.out _).mono ?_; rintro e w2 ⟨rfl, hb2⟩))
      have B2 := Lib.hid (below_on HB.out (And.left (by assumption) : Below wr.heap.size wr w2))
      clear hb2
      rename_i hheld
      clear hheld r1 r2
      by_cases hkp : k < p
      · have e1 : decide (c < 0) = true := by rw [HC.out]; exact decide_eq_true hkp
        clear q1 q2 q3
        rw [e1]
        clear e1
        go_wp2
        go_roundw
        case rel => exact ⟨k + 1, j, by simp, rfl, by omega, h2, h3, B2.out⟩
        case measure => simp [intOf]; omega
      · have e1 : decide (c < 0) = false := by rw [HC.out]; exact decide_eq_false hkp
        clear q1 q2 q3
        rw [e1]
        clear e1
        go_wp2
        go_roundw
        case rel => exact ⟨i, k, rfl, rfl, h1, by omega, by omega, B2.out⟩
        case measure => simp [intOf]; omega
    · obtain rfl : i = p := by omega
      obtain rfl : i = j := by omega
      have HB := Lib.hid (show Below w.heap.size w wr from (Below.alloc (Below.refl _ _) (Nat.le_refl _) _).trans (hb.mono (by simp)))
      rcases Nat.lt_or_ge i l.length with hlt | hgl
      · obtain ⟨y, hy⟩ : ∃ y, l[i]? = some y := ⟨_, List.getElem?_eq_getElem (by omega)⟩
        obtain ⟨g, rfl, hg, d0, d1, d2⟩ := hRr i y hy
        obtain ⟨yi, yk, yt⟩ := y
        obtain ⟨c, hc⟩ : ∃ c, ordI (yi, yk, yt) (xi, xk, xt) = c := ⟨_, rfl⟩
        have C1 := Lib.hid (C.out (yi, yk, yt) c hc)
        have hk0 : (0 : Int) ≤ (i : Int) := by omega
        have hk3 : (i : Int) < (l.length : Int) := by omega
        have r1 : wr.cell? ⟨g, i * 3, none⟩ = some (.int .i64 yi) ∧ wr.cell? ⟨g, i * 3 + 1, none⟩ = some (.int .i64 yk) ∧ wr.cell? ⟨g, i * 3 + 2, none⟩ = some (.int .i64 yt) := ⟨d0, d1, d2⟩
        have r2 : wr.cell? ⟨w.heap.size, 0, none⟩ = some (.int .i64 xi) ∧ wr.cell? ⟨w.heap.size, 1, none⟩ = some (.int .i64 xk) ∧ wr.cell? ⟨w.heap.size, 2, none⟩ = some (.int .i64 xt) := ⟨b0, b1, b2⟩
        clear hy hRr hc d0 d1 d2 b0 b1 b2 hb hP C hp hR1
        go_wp2
        go_region_held3 (fun W => Below wr.heap.size wr W ∧ (W.cell? ⟨g, i * 3, none⟩ = some (.int .i64 yi) ∧ W.cell? ⟨g, i * 3 + 1, none⟩ = some (.int .i64 yk) ∧ W.cell? ⟨g, i * 3 + 2, none⟩ = some (.int .i64 yt)) ∧ (W.cell? ⟨w.heap.size, 0, none⟩ = some (.int .i64 xi) ∧ W.cell? ⟨w.heap.size, 1, none⟩ = some (.int .i64 xk) ∧ W.cell? ⟨w.heap.size, 2, none⟩ = some (.int .i64 xt)))
        (first | assumption | exact two_items (Below.drew (Below.refl _ _)) hg hbs r1 r2 | exact two_items (Below.trans (Below.drew (Below.refl _ _)) hb2) hg hbs r1 r2 | exact two_items (Below.trans (below_dN (Below.refl _ _) _) hb2) hg hbs r1 r2)
        (first
          | (go_at_call 30; refine (C1.out _).mono ?_; rintro e w2 ⟨rfl, hb2⟩))
        go_wp2
        go_ret2
        exact ⟨⟨_, rfl⟩, below_on HB.out (And.left (by assumption))⟩
      · have hk3 : decide ((i : Int) < (l.length : Int)) = false := decide_eq_false (by omega)
        have hk4 : decide (i < l.length) = false := decide_eq_false (by omega)
        have hk5 : ¬ (i < l.length) := by omega
        clear hRr b0 b1 b2 hb hP C hp hR1
        go_wp2
        go_quiet (fail)
        go_wp2
        go_ret2
        exact ⟨⟨_, rfl⟩, below_dN HB.out _⟩
end Go.Proofs.Ytgbmpnoknmpmcaa
