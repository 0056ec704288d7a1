/- JobSays: any jobs may be or not, take as much, stand in the order, as the document says. (Its region is written by genjsays.py.) -/
import Derived.Test.YtnbidigilmjloaaDoorJbRefBy
namespace Go.Proofs.YtnbidigilmjloaaDoor
open Go.RowKit Go.Lib
set_option linter.unusedVariables false
set_option linter.unusedSimpArgs false

set_option maxHeartbeats 1600000 in
theorem ints8_any (A1 A2 : Option Addr) (c1 c2 : Nat) (l : List Int) (n : Nat) (w : World) (hl : n ≤ 1000) (hn : l.length = n) (h1 : RdN w A1 l) (h2 : RdN w A2 l) (k1 : n ≤ c1) (k2 : n ≤ c2) (m1 : c1 ≤ 9223372036854775807) (m2 : c2 ≤ 9223372036854775807) :
    Calls Tryd.prog 14 #[.slice A1 n c1, .slice A2 n c2] w (Ret (.bool true) w) := by
  replace h1 := Lib.hid h1
  replace h2 := Lib.hid h2
  replace hn := Lib.hid hn
  have e5 : ((n : Int) != (n : Int)) = false := by simp
  go_enter Tryd.func14, Tryd.ntmps14
  go_wp2
  clear e5
  go_loopw [5] (fun st wr => ∃ (j : Nat) (k : Nat), st = .int .i64 (j : Int) ∧ j ≤ n ∧ wr = w.drewN k) (fun st _ => n - (intOf st).toNat)
  case atStart => exact ⟨0, 0, rfl, by omega, rfl⟩
  case round =>
    obtain ⟨j, k, rfl, hj, rfl⟩ := hrel
    rcases Nat.lt_or_ge j n with hlt | hge
    · obtain ⟨x, hx⟩ : ∃ x, l[j]? = some x := ⟨_, List.getElem?_eq_getElem (by rw [hn.out]; exact hlt)⟩
      obtain ⟨g, rfl, hg, d0⟩ := h1.out j _ hx
      obtain ⟨g', rfl, hg', y0⟩ := h2.out j _ hx
      have q1 : (j : Int) < (n : Int) := by omega
      have q2 : (0 : Int) ≤ (j : Int) := by omega
      have q3 : (x != x) = false := by simp
      clear hx
      go_wp2
      go_quiet (fail)
      go_wp2
      go_roundw
      case rel => exact ⟨j + 1, _, by simp, by omega, rfl⟩
      case measure => simp [intOf]; omega
    · obtain rfl : j = n := by omega
      go_wp2
      go_ret
      exact ⟨rfl, _, rfl⟩
theorem held2_job {wx W W2 : World} {bj bx : Nat} {s : ByteArray} {r d b a v c : Int} {h : Bool} (k : Below wx.heap.size wx W ∧ (W.cell? ⟨bj, 0, none⟩ = some (.string s) ∧ W.cell? ⟨bj, 1, none⟩ = some (.int .i64 r) ∧ W.cell? ⟨bj, 2, none⟩ = some (.int .i64 d) ∧ W.cell? ⟨bj, 3, none⟩ = some (.int .i64 b) ∧ W.cell? ⟨bj, 4, none⟩ = some (.int .i64 a) ∧ W.cell? ⟨bj, 5, none⟩ = some (.int .i64 v) ∧ W.cell? ⟨bj, 6, none⟩ = some (.int .i64 c) ∧ W.cell? ⟨bj, 7, none⟩ = some (.bool h)) ∧ (W.cell? ⟨bx, 0, none⟩ = some (.string s) ∧ W.cell? ⟨bx, 1, none⟩ = some (.int .i64 r) ∧ W.cell? ⟨bx, 2, none⟩ = some (.int .i64 d) ∧ W.cell? ⟨bx, 3, none⟩ = some (.int .i64 b) ∧ W.cell? ⟨bx, 4, none⟩ = some (.int .i64 a) ∧ W.cell? ⟨bx, 5, none⟩ = some (.int .i64 v) ∧ W.cell? ⟨bx, 6, none⟩ = some (.int .i64 c) ∧ W.cell? ⟨bx, 7, none⟩ = some (.bool h))) (hb : Below W.heap.size W W2) : Below wx.heap.size wx W2 ∧ (W2.cell? ⟨bj, 0, none⟩ = some (.string s) ∧ W2.cell? ⟨bj, 1, none⟩ = some (.int .i64 r) ∧ W2.cell? ⟨bj, 2, none⟩ = some (.int .i64 d) ∧ W2.cell? ⟨bj, 3, none⟩ = some (.int .i64 b) ∧ W2.cell? ⟨bj, 4, none⟩ = some (.int .i64 a) ∧ W2.cell? ⟨bj, 5, none⟩ = some (.int .i64 v) ∧ W2.cell? ⟨bj, 6, none⟩ = some (.int .i64 c) ∧ W2.cell? ⟨bj, 7, none⟩ = some (.bool h)) ∧ (W2.cell? ⟨bx, 0, none⟩ = some (.string s) ∧ W2.cell? ⟨bx, 1, none⟩ = some (.int .i64 r) ∧ W2.cell? ⟨bx, 2, none⟩ = some (.int .i64 d) ∧ W2.cell? ⟨bx, 3, none⟩ = some (.int .i64 b) ∧ W2.cell? ⟨bx, 4, none⟩ = some (.int .i64 a) ∧ W2.cell? ⟨bx, 5, none⟩ = some (.int .i64 v) ∧ W2.cell? ⟨bx, 6, none⟩ = some (.int .i64 c) ∧ W2.cell? ⟨bx, 7, none⟩ = some (.bool h)) := by
  have j1 : JAt W bj 0 ⟨s, r, d, b, a, v, c, h⟩ := k.2.1
  have j2 : JAt W bx 0 ⟨s, r, d, b, a, v, c, h⟩ := k.2.2
  exact ⟨below_on k.1 hb, j1.below j1.lt hb, j2.below j2.lt hb⟩
theorem by_rdN (A : Option Addr) (cap : Nat) (l : List Jb) (w : World) (hn : l.length ≤ 40) (hcap : cap ≤ 9223372036854775807) (hlc : l.length ≤ cap) (hR : RdJ w A l) :
    Calls Tryd.prog 15 #[.slice A l.length cap] w (fun e w' => ∃ (B : Nat) (L : List Int), e = .returned (.slice (some ⟨B, 0, none⟩) l.length l.length) ∧ L.length = l.length ∧ Ord (dlOf l) L l.length ∧ RdN w' (some ⟨B, 0, none⟩) L ∧ Below w.heap.size w w') := by
  refine (by_any A cap l w hn hcap hlc hR).mono ?_
  rintro e w' ⟨B, g, rfl, h1, h2, h3, h4, h5⟩
  refine ⟨B, (List.range l.length).map g, rfl, by simp, run_ord h4, fun i x hx => ⟨B, rfl, h2, ?_⟩, h3⟩
  have hi : i < l.length := by have := (List.getElem?_eq_some_iff.1 hx).1; simpa using this
  rw [List.getElem?_map, List.getElem?_range hi] at hx
  simp at hx
  rw [h5 i hi, hx]

theorem own_one (j : Jb) (w' : World) : Calls Tryd.prog 17 #[.slice (some ⟨w'.heap.size, 0, none⟩) 1 1] (w'.alloc (.cells j.cells 24)) (fun e w2 => ∃ A' c, e = .returned (.slice A' 1 c) ∧ 1 ≤ c ∧ c ≤ 9223372036854775807 ∧ RdJ w2 A' [j] ∧ Below (w'.alloc (.cells j.cells 24)).heap.size (w'.alloc (.cells j.cells 24)) w2) := by
  have h := ownJ_any (some ⟨w'.heap.size, 0, none⟩) 1 [j] (w'.alloc (.cells j.cells 24)) (by simp) (by decide) (by simp) (rdJ_one w' 24 j)
  rw [show ([j] : List Jb).length = 1 from rfl] at h
  exact h

set_option maxHeartbeats 12800000 in
set_option maxRecDepth 100000 in
theorem JobSays_ret (A : Option Addr) (cap : Nat) (l : List Jb) (j : Jb) (w : World) (hL : Ltr w) (hlc : l.length ≤ cap) (hcap : cap ≤ 9223372036854775807) (hR : RdJ w A l) :
    Calls Tryd.prog 4 #[.slice A l.length cap, .agg j.cells] w (RetB (.bool true) w) := by
  have A0 := Lib.hid (fun w' (hb : Below w.heap.size w w') => awake_any w' (hL.below hb))
  obtain ⟨g, hg⟩ : ∃ g, heavyB 30 10000 l = g := ⟨_, rfl⟩
  have A1 := Lib.hid (fun w' (hb : Below w.heap.size w w') => heavy_any A cap l 30 10000 g w' hcap hlc (hR.below hb) hg)
  obtain ⟨n, hl⟩ : ∃ n, l.length = n := ⟨_, rfl⟩
  by_cases hgo : g = false ∧ j.name.size ≤ 100
  · obtain ⟨rfl, hnm⟩ := hgo
    obtain ⟨h30, hns⟩ := heavy_none hg
    have hss : ∀ x ∈ l, x.name.size ≤ 1000000 := fun x hx => by have := (hns x hx).1; omega
    have hjs : j.name.size ≤ 1000000 := by omega
    obtain ⟨gj, hgj⟩ : ∃ z, j.good = z := ⟨_, rfl⟩
    obtain ⟨ga, hga⟩ : ∃ z, allB l = z := ⟨_, rfl⟩
    obtain ⟨zc, hzc⟩ : ∃ z, j.charge = z := ⟨_, rfl⟩
    obtain ⟨zw, hzw⟩ : ∃ z, j.work = z := ⟨_, rfl⟩
    obtain ⟨rr, hrr⟩ : ∃ z, j.runs = z := ⟨_, rfl⟩
    obtain ⟨ze, hze⟩ : ∃ z, endZ l = z := ⟨_, rfl⟩
    have C1 : Hid (∀ w', Below w.heap.size w w' → Calls Tryd.prog 8 #[.agg j.cells] w' (RetB (.bool gj) w')) := fun w' hb => hgj ▸ jgood_any j w' hjs (hL.below hb)
    have R1 : Hid (∀ w', Below w.heap.size w w' → Calls Tryd.prog 18 #[.agg j.cells] w' (RetB (.bool gj) w')) := fun w' hb => hgj ▸ rjgood_any j w' hjs (hL.below hb)
    have C2 : Hid (∀ w', Below w.heap.size w w' → Calls Tryd.prog 13 #[.slice A l.length cap] w' (RetB (.bool ga) w')) := fun w' hb => all_any A cap l ga w' hcap hlc hss (hL.below hb) (hR.below hb) hga
    have O1 : Hid (∀ w', Below w.heap.size w w' → Calls Tryd.prog 17 #[.slice A l.length cap] w' (fun e w2 => ∃ A' c, e = .returned (.slice A' l.length c) ∧ l.length ≤ c ∧ c ≤ 9223372036854775807 ∧ RdJ w2 A' l ∧ Below w'.heap.size w' w2)) := fun w' hb => ownJ_any A cap l w' (by omega) hcap hlc (hR.below hb)
    have R2 : Hid (∀ A' c' w', Below w.heap.size w w' → l.length ≤ c' → c' ≤ 9223372036854775807 → RdJ w' A' l → Calls Tryd.prog 19 #[.slice A' l.length c'] w' (RetB (.bool ga) w')) := fun A' c' w' hb h1 h2 h3 => rjall_any A' c' l ga w' (by omega) h2 h1 hss (hL.below hb) h3 hga
    have C3 : Hid (∀ w', Below w.heap.size w w' → Calls Tryd.prog 10 #[.agg j.cells] w' (RetB (.int .i64 zc) w')) := fun w' hb => hzc ▸ jcharge_any j w' hjs (hL.below hb)
    have R3 : Hid (∀ w', Below w.heap.size w w' → Calls Tryd.prog 20 #[.agg j.cells] w' (RetB (.int .i64 zc) w')) := fun w' hb => hzc ▸ rjcharge_any j w' hjs (hL.below hb)
    have C4 : Hid (∀ w', Below w.heap.size w w' → Calls Tryd.prog 9 #[.agg j.cells] w' (RetB (.int .i64 zw) w')) := fun w' hb => hzw ▸ jwork_any j w' hjs (hL.below hb)
    have R4 : Hid (∀ w', Below w.heap.size w w' → Calls Tryd.prog 21 #[.agg j.cells] w' (RetB (.int .i64 zw) w')) := fun w' hb => hzw ▸ rjwork_any j w' hjs (hL.below hb)
    have C5 : Hid (∀ w', Calls Tryd.prog 11 #[.agg j.cells] w' (RetB (.bool rr) w')) := fun w' => hrr ▸ jruns_any j w'
    have C6 : Hid (∀ w', Below w.heap.size w w' → Calls Tryd.prog 12 #[.slice A l.length cap] w' (RetB (.int .i64 ze) w')) := fun w' hb => end_any A cap l ze w' hcap hlc hss (hL.below hb) (hR.below hb) hze
    have R6 : Hid (∀ A' c' w', Below w.heap.size w w' → l.length ≤ c' → c' ≤ 9223372036854775807 → RdJ w' A' l → Calls Tryd.prog 22 #[.slice A' l.length c'] w' (RetB (.int .i64 ze) w')) := fun A' c' w' hb h1 h2 h3 => rjend_any A' c' l ze w' (by omega) h2 h1 hss (hL.below hb) h3 hze
    have C7 : Hid (∀ w', Below w.heap.size w w' → Calls Tryd.prog 15 #[.slice A l.length cap] w' (fun e w2 => ∃ (B : Nat) (L : List Int), e = .returned (.slice (some ⟨B, 0, none⟩) l.length l.length) ∧ L.length = l.length ∧ Ord (dlOf l) L l.length ∧ RdN w2 (some ⟨B, 0, none⟩) L ∧ Below w'.heap.size w' w2)) := fun w' hb => by_rdN A cap l w' (by omega) hcap hlc (hR.below hb)
    have R7 : Hid (∀ A' c' w', Below w.heap.size w w' → l.length ≤ c' → c' ≤ 9223372036854775807 → RdJ w' A' l → Calls Tryd.prog 23 #[.slice A' l.length c'] w' (fun e w2 => ∃ A2 c R, e = .returned (.slice A2 l.length c) ∧ R.length = l.length ∧ l.length ≤ c ∧ c ≤ 9223372036854775807 ∧ Ord (dlOf l) R l.length ∧ RdN w2 A2 R ∧ Below w'.heap.size w' w2)) := fun A' c' w' hb h1 h2 h3 => rjby_any A' c' l w' (by omega) h2 h1 h3
    have OJ := Lib.hid (own_one j)
    have hrr2 : decide (j.act ≤ j.bud) = rr := hrr
    rw [hl] at A1 hlc h30 C2 O1 R2 C6 R6 C7 R7 ⊢
    clear hL hR hg hl hns hss hjs hgj hga hzc hzw hrr hze
    unfold Jb.cells at *
    obtain ⟨s, r, d, b, a, v, c, h⟩ := j
    simp only at *
    replace hrr2 := Lib.hid hrr2
    have d1 : decide ((s.size : Int) > 100) = false := decide_eq_false (by omega)
    have d1' : decide (100 < s.size) = false := decide_eq_false (by omega)
    go_enter Tryd.func4, Tryd.ntmps4
    go_wp2_with fail
    refine (A0.out _ (by repeat (first | exact Below.refl _ _ | refine Below.setCell ?_ (by first | omega | (simp; done) | (simp; omega)) _ | refine below_dN ?_ _ | refine Below.drew ?_ | refine Below.alloc ?_ (by first | omega | (simp; done) | (simp; omega)) _))).mono ?_; rintro e w0 ⟨rfl, b0⟩
    have K := JAt.below (JAt.made w 24 s r d b a v c h) (by simp) b0
    replace b0 : Hid (Below w.heap.size w w0) := by refine below_on ?_ b0; exact by repeat (first | exact Below.refl _ _ | refine Below.setCell ?_ (by first | omega | (simp; done) | (simp; omega)) _ | refine below_dN ?_ _ | refine Below.drew ?_ | refine Below.alloc ?_ (by first | omega | (simp; done) | (simp; omega)) _)
    go_wp2_with fail
    refine (A1.out _ b0.out).mono ?_; rintro e w1 ⟨rfl, q1, rfl⟩
    have K1 : JAt (w0.drewN q1) w.heap.size 0 ⟨s, r, d, b, a, v, c, h⟩ := K
    replace b0 : Hid (Below w.heap.size w (w0.drewN q1)) := below_dN b0.out q1
    generalize w0.drewN q1 = w1 at *
    clear K A0 A1
    obtain ⟨c0, c1, c2, c3, c4, c5, c6, c7⟩ := K1.box
    replace K1 := Lib.hid K1
    go_wp2_with fail
    refine (OJ.out _).mono ?_; rintro e w2 ⟨A9, q9, rfl, hq9, hq9', hR9, b2⟩
    obtain ⟨B9, off9, rfl, hJ9⟩ := hR9 0 _ rfl
    have hJ8 : JAt w2 B9 off9 ⟨s, r, d, b, a, v, c, h⟩ := by simpa using hJ9
    have hB9 := hJ8.lt
    have b2' : Below w1.heap.size w1 w2 := by refine below_on ?_ b2; exact by repeat (first | exact Below.refl _ _ | refine Below.setCell ?_ (by first | omega | (simp; done) | (simp; omega)) _ | refine below_dN ?_ _ | refine Below.drew ?_ | refine Below.alloc ?_ (by first | omega | (simp; done) | (simp; omega)) _)
    have K2 := K1.out.below K1.out.lt b2'
    replace b0 : Hid (Below w.heap.size w w2) := below_on b0.out b2'
    unfold JAt at hJ8
    obtain ⟨e0, e1, e2, e3, e4, e5, e6, e7⟩ := hJ8
    replace K2 := Lib.hid K2
    clear OJ c0 c1 c2 c3 c4 c5 c6 c7 K1 b2 b2' hR9 hJ9
    go_wp2_with fail
    obtain ⟨wx, hwx⟩ : ∃ wx, w2.alloc (.cells #[.string s, .int .i64 r, .int .i64 d, .int .i64 b, .int .i64 a, .int .i64 v, .int .i64 c, .bool h] 34) = wx := ⟨_, rfl⟩
    have b3 : Below w2.heap.size w2 wx := by rw [← hwx]; exact by repeat (first | exact Below.refl _ _ | refine Below.setCell ?_ (by first | omega | (simp; done) | (simp; omega)) _ | refine below_dN ?_ _ | refine Below.drew ?_ | refine Below.alloc ?_ (by first | omega | (simp; done) | (simp; omega)) _)
    have J1 : JAt wx w.heap.size 0 ⟨s, r, d, b, a, v, c, h⟩ := K2.out.below K2.out.lt b3
    have J2 : JAt wx w2.heap.size 0 ⟨s, r, d, b, a, v, c, h⟩ := by rw [← hwx]; exact JAt.made w2 34 s r d b a v c h
    have BX : Hid (∀ W, Below wx.heap.size wx W → Below w.heap.size w W) := fun W hb => below_on (below_on b0.out b3) hb
    rw [hwx]
    clear hwx b3 K2 b0 e0 e1 e2 e3 e4 e5 e6 e7
    replace C1 := Lib.hid (fun (w' : World) (hb : Below wx.heap.size wx w') => C1.out w' (BX.out w' hb))
    replace R1 := Lib.hid (fun (w' : World) (hb : Below wx.heap.size wx w') => R1.out w' (BX.out w' hb))
    replace C2 := Lib.hid (fun (w' : World) (hb : Below wx.heap.size wx w') => C2.out w' (BX.out w' hb))
    replace O1 := Lib.hid (fun (w' : World) (hb : Below wx.heap.size wx w') => O1.out w' (BX.out w' hb))
    replace C3 := Lib.hid (fun (w' : World) (hb : Below wx.heap.size wx w') => C3.out w' (BX.out w' hb))
    replace R3 := Lib.hid (fun (w' : World) (hb : Below wx.heap.size wx w') => R3.out w' (BX.out w' hb))
    replace C4 := Lib.hid (fun (w' : World) (hb : Below wx.heap.size wx w') => C4.out w' (BX.out w' hb))
    replace R4 := Lib.hid (fun (w' : World) (hb : Below wx.heap.size wx w') => R4.out w' (BX.out w' hb))
    replace C6 := Lib.hid (fun (w' : World) (hb : Below wx.heap.size wx w') => C6.out w' (BX.out w' hb))
    replace C7 := Lib.hid (fun (w' : World) (hb : Below wx.heap.size wx w') => C7.out w' (BX.out w' hb))
    replace R2 := Lib.hid (fun (A' : Option Addr) (c' : Nat) (w' : World) (hb : Below wx.heap.size wx w') => R2.out A' c' w' (BX.out w' hb))
    replace R6 := Lib.hid (fun (A' : Option Addr) (c' : Nat) (w' : World) (hb : Below wx.heap.size wx w') => R6.out A' c' w' (BX.out w' hb))
    replace R7 := Lib.hid (fun (A' : Option Addr) (c' : Nat) (w' : World) (hb : Below wx.heap.size wx w') => R7.out A' c' w' (BX.out w' hb))
    generalize w.heap.size = bj at J1 ⊢
    generalize w2.heap.size = bx at J2 ⊢
    have hS0 : Below wx.heap.size wx wx.drew ∧ (wx.drew.cell? ⟨bj, 0, none⟩ = some (.string s) ∧ wx.drew.cell? ⟨bj, 1, none⟩ = some (.int .i64 r) ∧ wx.drew.cell? ⟨bj, 2, none⟩ = some (.int .i64 d) ∧ wx.drew.cell? ⟨bj, 3, none⟩ = some (.int .i64 b) ∧ wx.drew.cell? ⟨bj, 4, none⟩ = some (.int .i64 a) ∧ wx.drew.cell? ⟨bj, 5, none⟩ = some (.int .i64 v) ∧ wx.drew.cell? ⟨bj, 6, none⟩ = some (.int .i64 c) ∧ wx.drew.cell? ⟨bj, 7, none⟩ = some (.bool h)) ∧ (wx.drew.cell? ⟨bx, 0, none⟩ = some (.string s) ∧ wx.drew.cell? ⟨bx, 1, none⟩ = some (.int .i64 r) ∧ wx.drew.cell? ⟨bx, 2, none⟩ = some (.int .i64 d) ∧ wx.drew.cell? ⟨bx, 3, none⟩ = some (.int .i64 b) ∧ wx.drew.cell? ⟨bx, 4, none⟩ = some (.int .i64 a) ∧ wx.drew.cell? ⟨bx, 5, none⟩ = some (.int .i64 v) ∧ wx.drew.cell? ⟨bx, 6, none⟩ = some (.int .i64 c) ∧ wx.drew.cell? ⟨bx, 7, none⟩ = some (.bool h)) := ⟨(Below.refl _ _).drew, J1, J2⟩
    have hrr3 := hrr2.out
    clear J1 J2 hB9 hq9 hq9' hnm d1 d1'
    refine wp_region_held_drew (S := fun W => Below wx.heap.size wx W ∧ (W.cell? ⟨bj, 0, none⟩ = some (.string s) ∧ W.cell? ⟨bj, 1, none⟩ = some (.int .i64 r) ∧ W.cell? ⟨bj, 2, none⟩ = some (.int .i64 d) ∧ W.cell? ⟨bj, 3, none⟩ = some (.int .i64 b) ∧ W.cell? ⟨bj, 4, none⟩ = some (.int .i64 a) ∧ W.cell? ⟨bj, 5, none⟩ = some (.int .i64 v) ∧ W.cell? ⟨bj, 6, none⟩ = some (.int .i64 c) ∧ W.cell? ⟨bj, 7, none⟩ = some (.bool h)) ∧ (W.cell? ⟨bx, 0, none⟩ = some (.string s) ∧ W.cell? ⟨bx, 1, none⟩ = some (.int .i64 r) ∧ W.cell? ⟨bx, 2, none⟩ = some (.int .i64 d) ∧ W.cell? ⟨bx, 3, none⟩ = some (.int .i64 b) ∧ W.cell? ⟨bx, 4, none⟩ = some (.int .i64 a) ∧ W.cell? ⟨bx, 5, none⟩ = some (.int .i64 v) ∧ W.cell? ⟨bx, 6, none⟩ = some (.int .i64 c) ∧ W.cell? ⟨bx, 7, none⟩ = some (.bool h))) (by kernel_rfl) hS0 (fun hHeld => ?_)
    have hSS := hHeld
    refine wpAnyH_take (i := 0) (v := (.agg #[.string s, .int .i64 r, .int .i64 d, .int .i64 b, .int .i64 a, .int .i64 v, .int .i64 c, .bool h])) rfl (by kernel_rfl) (by kernel_rfl) (by kernel_rfl) (fun _ _ _ h => h) (Or.inl ⟨by rfl, ?_⟩) hHeld ?_
    · intro w hSw; obtain ⟨sb, ⟨s0, s1, s2, s3, s4, s5, s6, s7⟩, t0, t1, t2, t3, t4, t5, t6, t7⟩ := hSw; go_simp
    try simp only [List.getElem_toArray, List.getElem_cons_zero, List.getElem_cons_succ, Act.put, List.setIfInBounds_toArray, List.set_cons_zero, List.set_cons_succ]
    refine wpAnyH_take (i := 2) (v := (.agg #[.string s, .int .i64 r, .int .i64 d, .int .i64 b, .int .i64 a, .int .i64 v, .int .i64 c, .bool h])) rfl (by kernel_rfl) (by kernel_rfl) (by kernel_rfl) (fun _ _ _ h => h) (Or.inl ⟨by rfl, ?_⟩) hHeld ?_
    · intro w hSw; obtain ⟨sb, ⟨s0, s1, s2, s3, s4, s5, s6, s7⟩, t0, t1, t2, t3, t4, t5, t6, t7⟩ := hSw; go_simp
    try simp only [List.getElem_toArray, List.getElem_cons_zero, List.getElem_cons_succ, Act.put, List.setIfInBounds_toArray, List.set_cons_zero, List.set_cons_succ]
    refine wpAnyH_ready (rs := [1]) (by kernel_rfl) (by simp) ?_
    refine AllReadyH.cons rfl (fun K hK => ?_) AllReadyH.nil
    clear hHeld
    go_simp
    refine (C1.out _ hSS.1).mono ?_
    rintro e y1 ⟨rfl, hb⟩
    replace hSS := held2_job hSS hb
    refine hK.out _ _ hSS (fun hHeld => ?_)
    clear hK K hb
    refine wpAnyH_ready (rs := [3]) (by kernel_rfl) (by simp) ?_
    refine AllReadyH.cons rfl (fun K hK => ?_) AllReadyH.nil
    clear hHeld
    go_simp
    refine (R1.out _ hSS.1).mono ?_
    rintro e y2 ⟨rfl, hb⟩
    replace hSS := held2_job hSS hb
    refine hK.out _ _ hSS (fun hHeld => ?_)
    clear hK K hb
    refine wpAnyH_take (i := 4) (v := (.bool true)) rfl (by kernel_rfl) (by kernel_rfl) (by kernel_rfl) (fun _ _ _ h => h) (Or.inl ⟨by rfl, ?_⟩) hHeld ?_
    · intro w hSw; go_simp
    try simp only [List.getElem_toArray, List.getElem_cons_zero, List.getElem_cons_succ, Act.put, List.setIfInBounds_toArray, List.set_cons_zero, List.set_cons_succ]
    refine wpAnyH_take (i := 5) (v := (.bool true)) rfl (by kernel_rfl) (by kernel_rfl) (by kernel_rfl) (fun _ _ _ h => h) (Or.inl ⟨by rfl, ?_⟩) hHeld ?_
    · intro w hSw; go_simp
    try simp only [List.getElem_toArray, List.getElem_cons_zero, List.getElem_cons_succ, Act.put, List.setIfInBounds_toArray, List.set_cons_zero, List.set_cons_succ]
    refine wpAnyH_take (i := 6) (v := (.slice A n cap)) rfl (by kernel_rfl) (by kernel_rfl) (by kernel_rfl) (fun _ _ _ h => h) (Or.inl ⟨by rfl, ?_⟩) hHeld ?_
    · intro w hSw; go_simp
    try simp only [List.getElem_toArray, List.getElem_cons_zero, List.getElem_cons_succ, Act.put, List.setIfInBounds_toArray, List.set_cons_zero, List.set_cons_succ]
    refine wpAnyH_take (i := 8) (v := (.slice A n cap)) rfl (by kernel_rfl) (by kernel_rfl) (by kernel_rfl) (fun _ _ _ h => h) (Or.inl ⟨by rfl, ?_⟩) hHeld ?_
    · intro w hSw; go_simp
    try simp only [List.getElem_toArray, List.getElem_cons_zero, List.getElem_cons_succ, Act.put, List.setIfInBounds_toArray, List.set_cons_zero, List.set_cons_succ]
    refine wpAnyH_ready (rs := [7]) (by kernel_rfl) (by simp) ?_
    refine AllReadyH.cons rfl (fun K hK => ?_) AllReadyH.nil
    clear hHeld
    go_simp
    refine (C2.out _ hSS.1).mono ?_
    rintro e y3 ⟨rfl, hb⟩
    replace hSS := held2_job hSS hb
    refine hK.out _ _ hSS (fun hHeld => ?_)
    clear hK K hb
    refine wpAnyH_ready (rs := [9]) (by kernel_rfl) (by simp) ?_
    refine AllReadyH.cons rfl (fun K hK => ?_) AllReadyH.nil
    clear hHeld
    go_simp
    refine (O1.out _ hSS.1).mono ?_
    rintro e y4 ⟨A1, q1, rfl, k1, k2, k3, hb⟩
    replace hSS := held2_job hSS hb
    refine hK.out _ _ hSS (fun hHeld => ?_)
    clear hK K hb
    refine wpAnyH_ready (rs := [10]) (by kernel_rfl) (by simp) ?_
    refine AllReadyH.cons rfl (fun K hK => ?_) AllReadyH.nil
    clear hHeld
    go_simp
    refine (R2.out _ _ _ hSS.1 k1 k2 k3).mono ?_
    rintro e y5 ⟨rfl, hb⟩
    clear k1 k2 k3
    replace hSS := held2_job hSS hb
    refine hK.out _ _ hSS (fun hHeld => ?_)
    clear hK K hb
    refine wpAnyH_take (i := 11) (v := (.bool true)) rfl (by kernel_rfl) (by kernel_rfl) (by kernel_rfl) (fun _ _ _ h => h) (Or.inl ⟨by rfl, ?_⟩) hHeld ?_
    · intro w hSw; go_simp
    try simp only [List.getElem_toArray, List.getElem_cons_zero, List.getElem_cons_succ, Act.put, List.setIfInBounds_toArray, List.set_cons_zero, List.set_cons_succ]
    refine wpAnyH_take (i := 12) (v := (.bool true)) rfl (by kernel_rfl) (by kernel_rfl) (by kernel_rfl) (fun _ _ _ h => h) (Or.inl ⟨by rfl, ?_⟩) hHeld ?_
    · intro w hSw; go_simp
    try simp only [List.getElem_toArray, List.getElem_cons_zero, List.getElem_cons_succ, Act.put, List.setIfInBounds_toArray, List.set_cons_zero, List.set_cons_succ]
    refine wpAnyH_take (i := 13) (v := (.bool true)) rfl (by kernel_rfl) (by kernel_rfl) (by kernel_rfl) (fun _ _ _ h => h) (Or.inl ⟨by rfl, ?_⟩) hHeld ?_
    · intro w hSw; go_simp
    try simp only [List.getElem_toArray, List.getElem_cons_zero, List.getElem_cons_succ, Act.put, List.setIfInBounds_toArray, List.set_cons_zero, List.set_cons_succ]
    refine wpAnyH_take (i := 14) (v := (.agg #[.string s, .int .i64 r, .int .i64 d, .int .i64 b, .int .i64 a, .int .i64 v, .int .i64 c, .bool h])) rfl (by kernel_rfl) (by kernel_rfl) (by kernel_rfl) (fun _ _ _ h => h) (Or.inl ⟨by rfl, ?_⟩) hHeld ?_
    · intro w hSw; obtain ⟨sb, ⟨s0, s1, s2, s3, s4, s5, s6, s7⟩, t0, t1, t2, t3, t4, t5, t6, t7⟩ := hSw; go_simp
    try simp only [List.getElem_toArray, List.getElem_cons_zero, List.getElem_cons_succ, Act.put, List.setIfInBounds_toArray, List.set_cons_zero, List.set_cons_succ]
    refine wpAnyH_take (i := 16) (v := (.agg #[.string s, .int .i64 r, .int .i64 d, .int .i64 b, .int .i64 a, .int .i64 v, .int .i64 c, .bool h])) rfl (by kernel_rfl) (by kernel_rfl) (by kernel_rfl) (fun _ _ _ h => h) (Or.inl ⟨by rfl, ?_⟩) hHeld ?_
    · intro w hSw; obtain ⟨sb, ⟨s0, s1, s2, s3, s4, s5, s6, s7⟩, t0, t1, t2, t3, t4, t5, t6, t7⟩ := hSw; go_simp
    try simp only [List.getElem_toArray, List.getElem_cons_zero, List.getElem_cons_succ, Act.put, List.setIfInBounds_toArray, List.set_cons_zero, List.set_cons_succ]
    refine wpAnyH_ready (rs := [15]) (by kernel_rfl) (by simp) ?_
    refine AllReadyH.cons rfl (fun K hK => ?_) AllReadyH.nil
    clear hHeld
    go_simp
    refine (C3.out _ hSS.1).mono ?_
    rintro e y6 ⟨rfl, hb⟩
    replace hSS := held2_job hSS hb
    refine hK.out _ _ hSS (fun hHeld => ?_)
    clear hK K hb
    refine wpAnyH_ready (rs := [17]) (by kernel_rfl) (by simp) ?_
    refine AllReadyH.cons rfl (fun K hK => ?_) AllReadyH.nil
    clear hHeld
    go_simp
    refine (R3.out _ hSS.1).mono ?_
    rintro e y7 ⟨rfl, hb⟩
    replace hSS := held2_job hSS hb
    refine hK.out _ _ hSS (fun hHeld => ?_)
    clear hK K hb
    refine wpAnyH_take (i := 18) (v := (.bool true)) rfl (by kernel_rfl) (by kernel_rfl) (by kernel_rfl) (fun _ _ _ h => h) (Or.inl ⟨by rfl, ?_⟩) hHeld ?_
    · intro w hSw; go_simp
    try simp only [List.getElem_toArray, List.getElem_cons_zero, List.getElem_cons_succ, Act.put, List.setIfInBounds_toArray, List.set_cons_zero, List.set_cons_succ]
    refine wpAnyH_take (i := 19) (v := (.bool true)) rfl (by kernel_rfl) (by kernel_rfl) (by kernel_rfl) (fun _ _ _ h => h) (Or.inl ⟨by rfl, ?_⟩) hHeld ?_
    · intro w hSw; go_simp
    try simp only [List.getElem_toArray, List.getElem_cons_zero, List.getElem_cons_succ, Act.put, List.setIfInBounds_toArray, List.set_cons_zero, List.set_cons_succ]
    refine wpAnyH_take (i := 20) (v := (.bool true)) rfl (by kernel_rfl) (by kernel_rfl) (by kernel_rfl) (fun _ _ _ h => h) (Or.inl ⟨by rfl, ?_⟩) hHeld ?_
    · intro w hSw; go_simp
    try simp only [List.getElem_toArray, List.getElem_cons_zero, List.getElem_cons_succ, Act.put, List.setIfInBounds_toArray, List.set_cons_zero, List.set_cons_succ]
    refine wpAnyH_take (i := 21) (v := (.agg #[.string s, .int .i64 r, .int .i64 d, .int .i64 b, .int .i64 a, .int .i64 v, .int .i64 c, .bool h])) rfl (by kernel_rfl) (by kernel_rfl) (by kernel_rfl) (fun _ _ _ h => h) (Or.inl ⟨by rfl, ?_⟩) hHeld ?_
    · intro w hSw; obtain ⟨sb, ⟨s0, s1, s2, s3, s4, s5, s6, s7⟩, t0, t1, t2, t3, t4, t5, t6, t7⟩ := hSw; go_simp
    try simp only [List.getElem_toArray, List.getElem_cons_zero, List.getElem_cons_succ, Act.put, List.setIfInBounds_toArray, List.set_cons_zero, List.set_cons_succ]
    refine wpAnyH_take (i := 23) (v := (.agg #[.string s, .int .i64 r, .int .i64 d, .int .i64 b, .int .i64 a, .int .i64 v, .int .i64 c, .bool h])) rfl (by kernel_rfl) (by kernel_rfl) (by kernel_rfl) (fun _ _ _ h => h) (Or.inl ⟨by rfl, ?_⟩) hHeld ?_
    · intro w hSw; obtain ⟨sb, ⟨s0, s1, s2, s3, s4, s5, s6, s7⟩, t0, t1, t2, t3, t4, t5, t6, t7⟩ := hSw; go_simp
    try simp only [List.getElem_toArray, List.getElem_cons_zero, List.getElem_cons_succ, Act.put, List.setIfInBounds_toArray, List.set_cons_zero, List.set_cons_succ]
    refine wpAnyH_ready (rs := [22]) (by kernel_rfl) (by simp) ?_
    refine AllReadyH.cons rfl (fun K hK => ?_) AllReadyH.nil
    clear hHeld
    go_simp
    refine (C4.out _ hSS.1).mono ?_
    rintro e y8 ⟨rfl, hb⟩
    replace hSS := held2_job hSS hb
    refine hK.out _ _ hSS (fun hHeld => ?_)
    clear hK K hb
    refine wpAnyH_ready (rs := [24]) (by kernel_rfl) (by simp) ?_
    refine AllReadyH.cons rfl (fun K hK => ?_) AllReadyH.nil
    clear hHeld
    go_simp
    refine (R4.out _ hSS.1).mono ?_
    rintro e y9 ⟨rfl, hb⟩
    replace hSS := held2_job hSS hb
    refine hK.out _ _ hSS (fun hHeld => ?_)
    clear hK K hb
    refine wpAnyH_take (i := 25) (v := (.bool true)) rfl (by kernel_rfl) (by kernel_rfl) (by kernel_rfl) (fun _ _ _ h => h) (Or.inl ⟨by rfl, ?_⟩) hHeld ?_
    · intro w hSw; go_simp
    try simp only [List.getElem_toArray, List.getElem_cons_zero, List.getElem_cons_succ, Act.put, List.setIfInBounds_toArray, List.set_cons_zero, List.set_cons_succ]
    refine wpAnyH_take (i := 26) (v := (.bool true)) rfl (by kernel_rfl) (by kernel_rfl) (by kernel_rfl) (fun _ _ _ h => h) (Or.inl ⟨by rfl, ?_⟩) hHeld ?_
    · intro w hSw; go_simp
    try simp only [List.getElem_toArray, List.getElem_cons_zero, List.getElem_cons_succ, Act.put, List.setIfInBounds_toArray, List.set_cons_zero, List.set_cons_succ]
    refine wpAnyH_take (i := 27) (v := (.bool true)) rfl (by kernel_rfl) (by kernel_rfl) (by kernel_rfl) (fun _ _ _ h => h) (Or.inl ⟨by rfl, ?_⟩) hHeld ?_
    · intro w hSw; go_simp
    try simp only [List.getElem_toArray, List.getElem_cons_zero, List.getElem_cons_succ, Act.put, List.setIfInBounds_toArray, List.set_cons_zero, List.set_cons_succ]
    refine wpAnyH_take (i := 28) (v := (.agg #[.string s, .int .i64 r, .int .i64 d, .int .i64 b, .int .i64 a, .int .i64 v, .int .i64 c, .bool h])) rfl (by kernel_rfl) (by kernel_rfl) (by kernel_rfl) (fun _ _ _ h => h) (Or.inl ⟨by rfl, ?_⟩) hHeld ?_
    · intro w hSw; obtain ⟨sb, ⟨s0, s1, s2, s3, s4, s5, s6, s7⟩, t0, t1, t2, t3, t4, t5, t6, t7⟩ := hSw; go_simp
    try simp only [List.getElem_toArray, List.getElem_cons_zero, List.getElem_cons_succ, Act.put, List.setIfInBounds_toArray, List.set_cons_zero, List.set_cons_succ]
    refine wpAnyH_take (i := 30) (v := (.pointer (some ⟨bj, 4, none⟩))) rfl (by kernel_rfl) (by kernel_rfl) (by kernel_rfl) (fun _ _ _ h => h) (Or.inl ⟨by rfl, ?_⟩) hHeld ?_
    · intro w hSw; go_simp
    try simp only [List.getElem_toArray, List.getElem_cons_zero, List.getElem_cons_succ, Act.put, List.setIfInBounds_toArray, List.set_cons_zero, List.set_cons_succ]
    refine wpAnyH_take (i := 31) (v := (.int .i64 a)) rfl (by kernel_rfl) (by kernel_rfl) (by kernel_rfl) (fun _ _ _ h => h) (Or.inl ⟨by rfl, ?_⟩) hHeld ?_
    · intro w hSw; obtain ⟨sb, ⟨s0, s1, s2, s3, s4, s5, s6, s7⟩, t0, t1, t2, t3, t4, t5, t6, t7⟩ := hSw; go_simp
    try simp only [List.getElem_toArray, List.getElem_cons_zero, List.getElem_cons_succ, Act.put, List.setIfInBounds_toArray, List.set_cons_zero, List.set_cons_succ]
    refine wpAnyH_take (i := 32) (v := (.pointer (some ⟨bj, 3, none⟩))) rfl (by kernel_rfl) (by kernel_rfl) (by kernel_rfl) (fun _ _ _ h => h) (Or.inl ⟨by rfl, ?_⟩) hHeld ?_
    · intro w hSw; go_simp
    try simp only [List.getElem_toArray, List.getElem_cons_zero, List.getElem_cons_succ, Act.put, List.setIfInBounds_toArray, List.set_cons_zero, List.set_cons_succ]
    refine wpAnyH_take (i := 33) (v := (.int .i64 b)) rfl (by kernel_rfl) (by kernel_rfl) (by kernel_rfl) (fun _ _ _ h => h) (Or.inl ⟨by rfl, ?_⟩) hHeld ?_
    · intro w hSw; obtain ⟨sb, ⟨s0, s1, s2, s3, s4, s5, s6, s7⟩, t0, t1, t2, t3, t4, t5, t6, t7⟩ := hSw; go_simp
    try simp only [List.getElem_toArray, List.getElem_cons_zero, List.getElem_cons_succ, Act.put, List.setIfInBounds_toArray, List.set_cons_zero, List.set_cons_succ]
    refine wpAnyH_take (i := 34) (v := (.bool rr)) rfl (by kernel_rfl) (by kernel_rfl) (by kernel_rfl) (fun _ _ _ h => h) (Or.inl ⟨by rfl, ?_⟩) hHeld ?_
    · intro w hSw; go_simp
    try simp only [List.getElem_toArray, List.getElem_cons_zero, List.getElem_cons_succ, Act.put, List.setIfInBounds_toArray, List.set_cons_zero, List.set_cons_succ]
    refine wpAnyH_ready (rs := [29]) (by kernel_rfl) (by simp) ?_
    refine AllReadyH.cons rfl (fun K hK => ?_) AllReadyH.nil
    clear hHeld
    go_simp
    refine (C5.out _).mono ?_
    rintro e y10 ⟨rfl, hb⟩
    replace hSS := held2_job hSS hb
    refine hK.out _ _ hSS (fun hHeld => ?_)
    clear hK K hb
    refine wpAnyH_take (i := 35) (v := (.bool true)) rfl (by kernel_rfl) (by kernel_rfl) (by kernel_rfl) (fun _ _ _ h => h) (Or.inl ⟨by rfl, ?_⟩) hHeld ?_
    · intro w hSw; go_simp
    try simp only [List.getElem_toArray, List.getElem_cons_zero, List.getElem_cons_succ, Act.put, List.setIfInBounds_toArray, List.set_cons_zero, List.set_cons_succ]
    refine wpAnyH_take (i := 36) (v := (.bool true)) rfl (by kernel_rfl) (by kernel_rfl) (by kernel_rfl) (fun _ _ _ h => h) (Or.inl ⟨by rfl, ?_⟩) hHeld ?_
    · intro w hSw; go_simp
    try simp only [List.getElem_toArray, List.getElem_cons_zero, List.getElem_cons_succ, Act.put, List.setIfInBounds_toArray, List.set_cons_zero, List.set_cons_succ]
    refine wpAnyH_take (i := 37) (v := (.bool true)) rfl (by kernel_rfl) (by kernel_rfl) (by kernel_rfl) (fun _ _ _ h => h) (Or.inl ⟨by rfl, ?_⟩) hHeld ?_
    · intro w hSw; go_simp
    try simp only [List.getElem_toArray, List.getElem_cons_zero, List.getElem_cons_succ, Act.put, List.setIfInBounds_toArray, List.set_cons_zero, List.set_cons_succ]
    refine wpAnyH_take (i := 38) (v := (.slice A n cap)) rfl (by kernel_rfl) (by kernel_rfl) (by kernel_rfl) (fun _ _ _ h => h) (Or.inl ⟨by rfl, ?_⟩) hHeld ?_
    · intro w hSw; go_simp
    try simp only [List.getElem_toArray, List.getElem_cons_zero, List.getElem_cons_succ, Act.put, List.setIfInBounds_toArray, List.set_cons_zero, List.set_cons_succ]
    refine wpAnyH_take (i := 40) (v := (.slice A n cap)) rfl (by kernel_rfl) (by kernel_rfl) (by kernel_rfl) (fun _ _ _ h => h) (Or.inl ⟨by rfl, ?_⟩) hHeld ?_
    · intro w hSw; go_simp
    try simp only [List.getElem_toArray, List.getElem_cons_zero, List.getElem_cons_succ, Act.put, List.setIfInBounds_toArray, List.set_cons_zero, List.set_cons_succ]
    refine wpAnyH_ready (rs := [39]) (by kernel_rfl) (by simp) ?_
    refine AllReadyH.cons rfl (fun K hK => ?_) AllReadyH.nil
    clear hHeld
    go_simp
    refine (C6.out _ hSS.1).mono ?_
    rintro e y11 ⟨rfl, hb⟩
    replace hSS := held2_job hSS hb
    refine hK.out _ _ hSS (fun hHeld => ?_)
    clear hK K hb
    refine wpAnyH_ready (rs := [41]) (by kernel_rfl) (by simp) ?_
    refine AllReadyH.cons rfl (fun K hK => ?_) AllReadyH.nil
    clear hHeld
    go_simp
    refine (O1.out _ hSS.1).mono ?_
    rintro e y12 ⟨A2, q2, rfl, k1, k2, k3, hb⟩
    replace hSS := held2_job hSS hb
    refine hK.out _ _ hSS (fun hHeld => ?_)
    clear hK K hb
    refine wpAnyH_ready (rs := [42]) (by kernel_rfl) (by simp) ?_
    refine AllReadyH.cons rfl (fun K hK => ?_) AllReadyH.nil
    clear hHeld
    go_simp
    refine (R6.out _ _ _ hSS.1 k1 k2 k3).mono ?_
    rintro e y13 ⟨rfl, hb⟩
    clear k1 k2 k3
    replace hSS := held2_job hSS hb
    refine hK.out _ _ hSS (fun hHeld => ?_)
    clear hK K hb
    refine wpAnyH_take (i := 43) (v := (.bool true)) rfl (by kernel_rfl) (by kernel_rfl) (by kernel_rfl) (fun _ _ _ h => h) (Or.inl ⟨by rfl, ?_⟩) hHeld ?_
    · intro w hSw; go_simp
    try simp only [List.getElem_toArray, List.getElem_cons_zero, List.getElem_cons_succ, Act.put, List.setIfInBounds_toArray, List.set_cons_zero, List.set_cons_succ]
    refine wpAnyH_take (i := 44) (v := (.bool true)) rfl (by kernel_rfl) (by kernel_rfl) (by kernel_rfl) (fun _ _ _ h => h) (Or.inl ⟨by rfl, ?_⟩) hHeld ?_
    · intro w hSw; go_simp
    try simp only [List.getElem_toArray, List.getElem_cons_zero, List.getElem_cons_succ, Act.put, List.setIfInBounds_toArray, List.set_cons_zero, List.set_cons_succ]
    refine wpAnyH_take (i := 45) (v := (.bool true)) rfl (by kernel_rfl) (by kernel_rfl) (by kernel_rfl) (fun _ _ _ h => h) (Or.inl ⟨by rfl, ?_⟩) hHeld ?_
    · intro w hSw; go_simp
    try simp only [List.getElem_toArray, List.getElem_cons_zero, List.getElem_cons_succ, Act.put, List.setIfInBounds_toArray, List.set_cons_zero, List.set_cons_succ]
    refine wpAnyH_take (i := 46) (v := (.slice A n cap)) rfl (by kernel_rfl) (by kernel_rfl) (by kernel_rfl) (fun _ _ _ h => h) (Or.inl ⟨by rfl, ?_⟩) hHeld ?_
    · intro w hSw; go_simp
    try simp only [List.getElem_toArray, List.getElem_cons_zero, List.getElem_cons_succ, Act.put, List.setIfInBounds_toArray, List.set_cons_zero, List.set_cons_succ]
    refine wpAnyH_take (i := 48) (v := (.slice A n cap)) rfl (by kernel_rfl) (by kernel_rfl) (by kernel_rfl) (fun _ _ _ h => h) (Or.inl ⟨by rfl, ?_⟩) hHeld ?_
    · intro w hSw; go_simp
    try simp only [List.getElem_toArray, List.getElem_cons_zero, List.getElem_cons_succ, Act.put, List.setIfInBounds_toArray, List.set_cons_zero, List.set_cons_succ]
    refine wpAnyH_ready (rs := [47]) (by kernel_rfl) (by simp) ?_
    refine AllReadyH.cons rfl (fun K hK => ?_) AllReadyH.nil
    clear hHeld
    go_simp
    refine (C7.out _ hSS.1).mono ?_
    rintro e y14 ⟨B7, L7, rfl, hL7, hO7, hN7, hb⟩
    replace hSS := held2_job hSS hb
    refine hK.out _ _ hSS (fun hHeld => ?_)
    clear hK K hb
    refine wpAnyH_ready (rs := [49]) (by kernel_rfl) (by simp) ?_
    refine AllReadyH.cons rfl (fun K hK => ?_) AllReadyH.nil
    clear hHeld
    go_simp
    refine (O1.out _ hSS.1).mono ?_
    rintro e y15 ⟨A3, q3, rfl, k1, k2, k3, hb⟩
    replace hN7 := hN7.below hb
    replace hSS := held2_job hSS hb
    refine hK.out _ _ hSS (fun hHeld => ?_)
    clear hK K hb
    refine wpAnyH_ready (rs := [50]) (by kernel_rfl) (by simp) ?_
    refine AllReadyH.cons rfl (fun K hK => ?_) AllReadyH.nil
    clear hHeld
    go_simp
    refine (R7.out _ _ _ hSS.1 k1 k2 k3).mono ?_
    rintro e y16 ⟨A4, q4, L8, rfl, hL8, hq1, hq2, hO8, hN8, hb⟩
    replace hN7 := hN7.below hb
    rw [← ord_uniq hO7 hO8] at hN8
    clear k1 k2 k3
    replace hSS := held2_job hSS hb
    refine hK.out _ _ hSS (fun hHeld => ?_)
    clear hK K hb
    refine wpAnyH_ready (rs := [51]) (by kernel_rfl) (by simp) ?_
    refine AllReadyH.cons rfl (fun K hK => ?_) AllReadyH.nil
    clear hHeld
    go_simp
    refine (ints8_any (some ⟨B7, 0, none⟩) A4 n q4 L7 n _ (by omega) hL7 hN7 hN8 (Nat.le_refl _) hq1 (by omega) hq2).mono ?_
    rintro e y17 ⟨rfl, m, rfl⟩
    have hb := below_dN (Below.refl (World.heap y16).size y16) m
    replace hSS := held2_job hSS hb
    refine hK.out _ _ hSS (fun hHeld => ?_)
    clear hK K hb
    refine wpAnyH_take (i := 52) (v := (.bool true)) rfl (by kernel_rfl) (by kernel_rfl) (by kernel_rfl) (fun _ _ _ h => h) (Or.inl ⟨by rfl, ?_⟩) hHeld ?_
    · intro w hSw; go_simp
    try simp only [List.getElem_toArray, List.getElem_cons_zero, List.getElem_cons_succ, Act.put, List.setIfInBounds_toArray, List.set_cons_zero, List.set_cons_succ]
    refine wpAnyH_take (i := 53) (v := (.bool true)) rfl (by kernel_rfl) (by kernel_rfl) (by kernel_rfl) (fun _ _ _ h => h) (Or.inl ⟨by rfl, ?_⟩) hHeld ?_
    · intro w hSw; go_simp
    try simp only [List.getElem_toArray, List.getElem_cons_zero, List.getElem_cons_succ, Act.put, List.setIfInBounds_toArray, List.set_cons_zero, List.set_cons_succ]
    refine wpAnyH_done (by kernel_rfl) ?_ _
    clear hHeld
    go_wp2
    go_ret
    exact ⟨rfl, BX.out _ hSS.1⟩
  · rw [hl] at A1 hlc ⊢
    clear hL hR hg hl
    unfold Jb.cells
    obtain ⟨s, r, d, b, a, v, c, h⟩ := j
    simp only at hgo ⊢
    go_enter Tryd.func4, Tryd.ntmps4
    go_wp2_with fail
    refine (A0.out _ (by repeat (first | exact Below.refl _ _ | refine Below.setCell ?_ (by first | omega | (simp; done) | (simp; omega)) _ | refine below_dN ?_ _ | refine Below.drew ?_ | refine Below.alloc ?_ (by first | omega | (simp; done) | (simp; omega)) _))).mono ?_; rintro e w0 ⟨rfl, b0⟩
    have K := JAt.below (JAt.made w 24 s r d b a v c h) (by simp) b0
    replace b0 : Hid (Below w.heap.size w w0) := by refine below_on ?_ b0; exact by repeat (first | exact Below.refl _ _ | refine Below.setCell ?_ (by first | omega | (simp; done) | (simp; omega)) _ | refine below_dN ?_ _ | refine Below.drew ?_ | refine Below.alloc ?_ (by first | omega | (simp; done) | (simp; omega)) _)
    go_wp2_with fail
    refine (A1.out _ b0.out).mono ?_; rintro e w1 ⟨rfl, q1, rfl⟩
    have c0 := K.1
    clear K A0 A1
    cases g
    · have hs : ¬ s.size ≤ 100 := fun h => hgo ⟨rfl, h⟩
      have d1 : decide ((s.size : Int) > 100) = true := decide_eq_true (by omega)
      have d1' : decide (100 < s.size) = true := decide_eq_true (by omega)
      go_wp2
      go_ret
      exact ⟨rfl, by have s0 := b0.out.size; (try simp only [World.heap_drewN, World.size_alloc] at s0); repeat (first | exact Below.refl _ _ | exact b0.out | refine Below.trans ?_ (Below.mono b0.out (by first | omega | (simp; done) | (simp; omega))) | refine Below.setCell ?_ (by first | omega | (simp; done) | (simp; omega)) _ | refine below_dN ?_ _ | refine Below.drew ?_ | refine Below.alloc ?_ (by first | omega | (simp; done) | (simp; omega)) _)⟩
    · go_wp2
      go_ret
      exact ⟨rfl, by have s0 := b0.out.size; (try simp only [World.heap_drewN, World.size_alloc] at s0); repeat (first | exact Below.refl _ _ | exact b0.out | refine Below.trans ?_ (Below.mono b0.out (by first | omega | (simp; done) | (simp; omega))) | refine Below.setCell ?_ (by first | omega | (simp; done) | (simp; omega)) _ | refine below_dN ?_ _ | refine Below.drew ?_ | refine Below.alloc ?_ (by first | omega | (simp; done) | (simp; omega)) _)⟩
end Go.Proofs.YtnbidigilmjloaaDoor
