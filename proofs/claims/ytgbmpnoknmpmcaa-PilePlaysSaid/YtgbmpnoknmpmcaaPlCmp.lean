/- cmp.Compare, cmp.Or, and the order of items. -/
import Derived.Test.YtgbmpnoknmpmcaaPlMath
import Derived.Deep.RegionHeld3
namespace Go.Proofs.Ytgbmpnoknmpmcaa
open Go.RowKit
set_option linter.unusedVariables false
set_option linter.unusedSimpArgs false

theorem isnan_int64 (x : Int) (w : World) : Calls Try.prog 41 #[.int .i64 x] w (Ret (.bool false) w) := by
  have h : (x != x) = false := by simp
  go_enter Try.func41, Try.ntmps41
  go_wp2
  go_ret
  exact ⟨rfl, 0, rfl⟩
set_option maxHeartbeats 400000 in
theorem compare_int64 (x y c : Int) (hc : cmpI x y = c) (w : World) : Calls Try.prog 37 #[.int .i64 x, .int .i64 y] w (Ret (.int .i64 c) w) := by
  have C1 := Lib.hid (fun w => isnan_int64 x w)
  have C2 := Lib.hid (fun w => isnan_int64 y w)
  unfold cmpI at hc
  go_enter Try.func37, Try.ntmps37
  go_wp2_with fail
  refine (C1.out _).mono ?_; rintro e w' ⟨rfl, n1, rfl⟩
  go_wp2_with fail
  refine (C2.out _).mono ?_; rintro e w' ⟨rfl, n2, rfl⟩
  by_cases h1 : x < y
  · have : c = -1 := by rw [← hc, if_pos h1]
    subst this; clear hc
    go_wp2
    go_ret
    exact ⟨rfl, _, rfl⟩
  · have h1' : decide (x < y) = false := decide_eq_false h1
    rw [if_neg h1] at hc
    by_cases h2 : x > y
    · have : c = 1 := by rw [← hc, if_pos h2]
      subst this; clear hc
      go_wp2
      go_ret
      exact ⟨rfl, _, rfl⟩
    · have h2' : decide (x > y) = false := decide_eq_false h2
      have : c = 0 := by rw [← hc, if_neg h2]
      subst this; clear hc
      go_wp2
      go_ret
      exact ⟨rfl, _, rfl⟩
theorem isnan_int (x : Int) (w : World) : Calls Try.prog 42 #[.int .i64 x] w (Ret (.bool false) w) := by
  have h : (x != x) = false := by simp
  go_enter Try.func42, Try.ntmps42
  go_wp2
  go_ret
  exact ⟨rfl, 0, rfl⟩
set_option maxHeartbeats 400000 in
theorem compare_int (x y c : Int) (hc : cmpI x y = c) (w : World) : Calls Try.prog 38 #[.int .i64 x, .int .i64 y] w (Ret (.int .i64 c) w) := by
  have C1 := Lib.hid (fun w => isnan_int x w)
  have C2 := Lib.hid (fun w => isnan_int y w)
  unfold cmpI at hc
  go_enter Try.func38, Try.ntmps38
  go_wp2_with fail
  refine (C1.out _).mono ?_; rintro e w' ⟨rfl, n3, rfl⟩
  go_wp2_with fail
  refine (C2.out _).mono ?_; rintro e w' ⟨rfl, n4, rfl⟩
  by_cases h1 : x < y
  · have : c = -1 := by rw [← hc, if_pos h1]
    subst this; clear hc
    go_wp2
    go_ret
    exact ⟨rfl, _, rfl⟩
  · have h1' : decide (x < y) = false := decide_eq_false h1
    rw [if_neg h1] at hc
    by_cases h2 : x > y
    · have : c = 1 := by rw [← hc, if_pos h2]
      subst this; clear hc
      go_wp2
      go_ret
      exact ⟨rfl, _, rfl⟩
    · have h2' : decide (x > y) = false := decide_eq_false h2
      have : c = 0 := by rw [← hc, if_neg h2]
      subst this; clear hc
      go_wp2
      go_ret
      exact ⟨rfl, _, rfl⟩

set_option maxHeartbeats 800000 in
/-- cmp.Or of a row of ints. -/
theorem or_any (b n cap : Nat) (vs : List Int) (c : Int) (w : World) (hl : vs.length = n) (hn : n ≤ 1000) (hnc : n ≤ cap) (hcap : cap ≤ 1000) (hc : orL vs = c) (hv : ∀ (i : Nat) (x : Int), vs[i]? = some x → w.cell? ⟨b, i, none⟩ = some (.int .i64 x)) :
    Calls Try.prog 36 #[.slice (some ⟨b, 0, none⟩) n cap] w (Ret (.int .i64 c) w) := by
  replace hv := Lib.hid hv
  go_enter Try.func36, Try.ntmps36
  go_wp2
  go_loopw [8] (fun st wr => ∃ (i : Nat), st = .int .i64 (i : Int) ∧ i ≤ n ∧ orL (vs.drop i) = c ∧ wr = w) (fun st _ => n - (intOf st).toNat)
  case atStart => exact ⟨0, rfl, by omega, by simpa using hc, rfl⟩
  case round =>
    obtain ⟨i, rfl, hi, ho, rfl⟩ := hrel
    rcases Nat.lt_or_ge i n with hlt | hge
    · obtain ⟨x, hx⟩ : ∃ x, vs[i]? = some x := ⟨_, List.getElem?_eq_getElem (by omega)⟩
      have d := hv.out i x hx
      rw [List.drop_eq_getElem_cons (by omega : i < vs.length), (List.getElem?_eq_some_iff.1 hx).2, orL] at ho
      by_cases h0 : x = 0
      · have hb : (x != 0) = false := by simp [h0]
        rw [if_pos h0] at ho
        replace ho := Lib.hid ho
        clear h0
        go_wp2
        go_roundw
        case rel => exact ⟨i + 1, by simp, by omega, ho.out, by first | rfl | trivial⟩
        case measure => simp [intOf]; omega
      · have hb : (x != 0) = true := by simp [h0]
        rw [if_neg h0] at ho
        subst ho
        clear h0
        go_wp2
        go_ret
        exact ⟨rfl, 0, rfl⟩
    · obtain rfl : i = n := by omega
      rw [← hl, List.drop_length] at ho
      simp only [orL] at ho
      subst ho
      go_wp2
      go_ret
      exact ⟨rfl, 0, rfl⟩
/-- An item's value. -/
def vI (x : It) : Value := .agg #[.int .i64 x.1, .int .i64 x.2.1, .int .i64 x.2.2]
theorem two_boxes {wx W : World} {b1 b2 : Nat} {x0 x1 x2 y0 y1 y2 : Value} (hb : Below wx.heap.size wx W) (l1 : b1 < wx.heap.size) (l2 : b2 < wx.heap.size)
    (r1 : wx.cell? ⟨b1, 0, none⟩ = some x0 ∧ wx.cell? ⟨b1, 1, none⟩ = some x1 ∧ wx.cell? ⟨b1, 2, none⟩ = some x2)
    (r2 : wx.cell? ⟨b2, 0, none⟩ = some y0 ∧ wx.cell? ⟨b2, 1, none⟩ = some y1 ∧ wx.cell? ⟨b2, 2, none⟩ = some y2) :
    Below wx.heap.size wx W ∧ (W.cell? ⟨b1, 0, none⟩ = some x0 ∧ W.cell? ⟨b1, 1, none⟩ = some x1 ∧ W.cell? ⟨b1, 2, none⟩ = some x2) ∧ (W.cell? ⟨b2, 0, none⟩ = some y0 ∧ W.cell? ⟨b2, 1, none⟩ = some y1 ∧ W.cell? ⟨b2, 2, none⟩ = some y2) := by
  refine ⟨hb, ⟨?_, ?_, ?_⟩, ?_, ?_, ?_⟩
  · rw [hb.cell (p := ⟨b1, 0, none⟩) l1]; exact r1.1
  · rw [hb.cell (p := ⟨b1, 1, none⟩) l1]; exact r1.2.1
  · rw [hb.cell (p := ⟨b1, 2, none⟩) l1]; exact r1.2.2
  · rw [hb.cell (p := ⟨b2, 0, none⟩) l2]; exact r2.1
  · rw [hb.cell (p := ⟨b2, 1, none⟩) l2]; exact r2.2.1
  · rw [hb.cell (p := ⟨b2, 2, none⟩) l2]; exact r2.2.2
theorem cells_three (w : World) (c1 c2 c3 : Int) (t : TypeId) : ∀ (i : Nat) (x : Int), [c1, c2, c3][i]? = some x → (w.alloc (.cells #[.int .i64 c1, .int .i64 c2, .int .i64 c3] t)).cell? ⟨w.heap.size, i, none⟩ = some (.int .i64 x) := by
  intro i x h
  match i, h with
  | 0, h => simp at h; subst h; simp
  | 1, h => simp at h; subst h; simp
  | 2, h => simp at h; subst h; simp
set_option maxHeartbeats 1600000 in
theorem order_any (x y : It) (c : Int) (hc : ordI x y = c) (w : World) : Calls Try.prog 30 #[vI x, vI y] w (RetB (.int .i64 c) w) := by
  obtain ⟨xi, xk, xt⟩ := x
  obtain ⟨yi, yk, yt⟩ := y
  obtain ⟨c1, h1⟩ : ∃ q, cmpI xk yk = q := ⟨_, rfl⟩
  obtain ⟨c2, h2⟩ : ∃ q, cmpI xt yt = q := ⟨_, rfl⟩
  obtain ⟨c3, h3⟩ : ∃ q, cmpI xi yi = q := ⟨_, rfl⟩
  simp only [ordI, h1, h2, h3] at hc
  have C1 := Lib.hid (compare_int64 xk yk c1 h1)
  have C2 := Lib.hid (compare_int64 xt yt c2 h2)
  have C3 := Lib.hid (compare_int xi yi c3 h3)
  have C4 := Lib.hid (fun (b : Nat) (w : World) (hv : ∀ (i : Nat) (x : Int), [c1, c2, c3][i]? = some x → w.cell? ⟨b, i, none⟩ = some (.int .i64 x)) => or_any b 3 3 [c1, c2, c3] c w rfl (by decide) (by decide) (by decide) hc hv)
  clear h1 h2 h3 hc
  unfold vI
  simp only
  go_enter Try.func30, Try.ntmps30
  go_wp2
  generalize hx : (w.alloc (.cells #[.int .i64 xi, .int .i64 xk, .int .i64 xt] 29)).alloc (.cells #[.int .i64 yi, .int .i64 yk, .int .i64 yt] 29) = wx
  have r1 : wx.cell? ⟨w.heap.size, 0, none⟩ = some (.int .i64 xi) ∧ wx.cell? ⟨w.heap.size, 1, none⟩ = some (.int .i64 xk) ∧ wx.cell? ⟨w.heap.size, 2, none⟩ = some (.int .i64 xt) := by subst hx; exact ⟨by go_simp, by go_simp, by go_simp⟩
  have r2 : wx.cell? ⟨w.heap.size + 1, 0, none⟩ = some (.int .i64 yi) ∧ wx.cell? ⟨w.heap.size + 1, 1, none⟩ = some (.int .i64 yk) ∧ wx.cell? ⟨w.heap.size + 1, 2, none⟩ = some (.int .i64 yt) := by subst hx; exact ⟨by go_simp, by go_simp, by go_simp⟩
  have Bx : Below w.heap.size w wx := by subst hx; exact by repeat (first | exact Below.refl _ _ | refine Below.setCell ?_ (by first | omega | (simp; done) | (simp; omega)) _ | refine below_dN ?_ _ | refine Below.drew ?_ | refine Below.alloc ?_ (by first | omega | (simp; done) | (simp; omega)) _)
  have l1 : w.heap.size < wx.heap.size := by subst hx; simp; omega
  have l2 : w.heap.size + 1 < wx.heap.size := by subst hx; simp
  have BX := Lib.hid (show ∀ wf, Below wx.heap.size wx wf → Below w.heap.size w wf from fun wf h => Bx.trans (Below.mono h (by omega)))
  clear hx Bx
  generalize w.heap.size + 1 = b2 at r2 l2 ⊢
  generalize w.heap.size = b1 at r1 l1 ⊢
  go_region_held3 (fun W => Below wx.heap.size wx W ∧ (W.cell? ⟨b1, 0, none⟩ = some (.int .i64 xi) ∧ W.cell? ⟨b1, 1, none⟩ = some (.int .i64 xk) ∧ W.cell? ⟨b1, 2, none⟩ = some (.int .i64 xt)) ∧ (W.cell? ⟨b2, 0, none⟩ = some (.int .i64 yi) ∧ W.cell? ⟨b2, 1, none⟩ = some (.int .i64 yk) ∧ W.cell? ⟨b2, 2, none⟩ = some (.int .i64 yt)))
    (first | assumption | exact two_boxes (by repeat (first | exact Below.refl _ _ | refine Below.setCell ?_ (by first | omega | (simp; done) | (simp; omega)) _ | refine below_dN ?_ _ | refine Below.drew ?_ | refine Below.alloc ?_ (by first | omega | (simp; done) | (simp; omega)) _)) l1 l2 r1 r2)
    (first
      | (go_at_call_of 37 xk; refine (C1.out _).mono ?_; rintro e w2 ⟨rfl, n, rfl⟩)
      | (go_at_call_of 37 xt; refine (C2.out _).mono ?_; rintro e w2 ⟨rfl, n, rfl⟩)
      | (go_at_call 38; refine (C3.out _).mono ?_; rintro e w2 ⟨rfl, n, rfl⟩)
      | (go_at_call 36; refine (C4.out _ _ (cells_three _ _ _ _ _)).mono ?_; rintro e w2 ⟨rfl, n, rfl⟩))
  all_goals (go_wp2; go_ret; exact ⟨rfl, BX.out _ (by repeat (first | exact Below.refl _ _ | refine Below.setCell ?_ (by first | omega | (simp; done) | (simp; omega)) _ | refine below_dN ?_ _ | refine Below.drew ?_ | refine Below.alloc ?_ (by first | omega | (simp; done) | (simp; omega)) _))⟩)
end Go.Proofs.Ytgbmpnoknmpmcaa
