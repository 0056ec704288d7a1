/- The document's own life: Run, Abort, Charge, Left. -/
import Derived.Test.YtipnnjhbhkohnaaClAt
import Derived.BigQuiet
namespace Go.Proofs.Ytipnnjhbhkohnaa
open Go.RowKit
set_option linter.unusedVariables false
set_option linter.unusedSimpArgs false

section
variable {o : Nat → Nat} {σ : Nat} {w : World} {p : Nat} {x : Lf}
set_option maxHeartbeats 3200000 in
theorem dabort (c : Int) (y : Lf) (h : LfAt 34 o σ w p x) (hc : x.aboE = c) (hy : x.abo = y) :
    Calls Try.prog 16 #[.pointer (some ⟨p, 0, none⟩)] w fun e w' => e = .returned (.int .i64 c) ∧ Step o o σ w w' ∧ LfAt 34 o σ w' p y := by
  have hm := h.mine
  unfold LfAt at h
  unfold Lf.aboE at hc
  unfold Lf.abo at hy
  by_cases h0 : x.st = 0
  · rw [if_pos h0] at hc hy
    subst hc
    rw [h0] at h
    obtain ⟨C, hC⟩ : ∃ C : Int, (x.c : Int) = C := ⟨_, rfl⟩
    have hc2 : C = 0 ↔ x.c = 0 := by omega
    rw [hC] at h
    have h1 := six_set5 h 1
    obtain ⟨_, _, _, _, _, c5⟩ := six_cells h
    have f5 := h.frozen 5
    have st1 := (Step.refl o σ w).setCell (p := ⟨p, 5, none⟩) (.inr hm) (.int .i64 1)
    by_cases hz : x.c = 0
    · have hz2 := hc2.2 hz
      rw [if_pos hz] at hy
      subst hy hz2
      have h2 := six_set5 h1 3
      have st2 := st1.setCell (p := ⟨p, 5, none⟩) (.inr hm) (.int .i64 3)
      obtain ⟨_, _, d2, _, _, d5⟩ := six_cells h1
      have g5 := h1.frozen 5
      have F := Lib.hid (And.intro st2 h2)
      clear h h1 h2 st1 st2 hm hz
      go_enter Try.func16, Try.ntmps16
      go_wp2
      go_ret
      refine ⟨rfl, F.out.1, ?_⟩
      have := F.out.2
      unfold LfAt
      simp only
      rw [hC]
      exact this
    · have hz2 : (C == 0) = false := by simp; omega
      rw [if_neg hz] at hy
      subst hy
      obtain ⟨_, _, d2, _, _, d5⟩ := six_cells h1
      have F := Lib.hid (And.intro st1 h1)
      clear h h1 st1 hm hc2 hz
      go_enter Try.func16, Try.ntmps16
      go_wp2
      go_ret
      refine ⟨rfl, F.out.1, ?_⟩
      have := F.out.2
      unfold LfAt
      simp only
      rw [hC]
      exact this
  · rw [if_neg h0] at hc hy
    subst hc hy
    obtain ⟨S, hS⟩ : ∃ S : Int, (x.st : Int) = S := ⟨_, rfl⟩
    rw [hS] at h
    have k : (S != 0) = true := by simp; omega
    obtain ⟨_, _, _, _, _, c5⟩ := six_cells h
    have F := Lib.hid h
    clear h hm
    go_enter Try.func16, Try.ntmps16
    go_wp2
    go_ret
    exact ⟨rfl, Step.refl o σ w, by unfold LfAt; rw [hS]; exact F.out⟩
set_option maxHeartbeats 6400000 in
theorem drun (r : Bool) (y : Lf) (h : LfAt 34 o σ w p x) (hx : x.Ok) (hr : x.runB = r) (hy : x.run = y) :
    Calls Try.prog 15 #[.pointer (some ⟨p, 0, none⟩)] w fun e w' => e = .returned (.bool r) ∧ Step o o σ w w' ∧ LfAt 34 o σ w' p y := by
  have hm := h.mine
  have H := Lib.hid h
  have HX := Lib.hid hx
  have b1 := hx.b2
  have b2 := hx.a2
  have b3 := hx.c2
  have b4 := hx.st
  unfold LfAt at h
  unfold Lf.runB at hr
  unfold Lf.run at hy
  obtain ⟨B, hB⟩ : ∃ B : Int, (x.b : Int) = B := ⟨_, rfl⟩
  obtain ⟨A, hA⟩ : ∃ A : Int, (x.a : Int) = A := ⟨_, rfl⟩
  obtain ⟨C, hC⟩ : ∃ C : Int, (x.c : Int) = C := ⟨_, rfl⟩
  obtain ⟨R, hR⟩ : ∃ R : Int, (x.ran : Int) = R := ⟨_, rfl⟩
  obtain ⟨K, hK⟩ : ∃ K : Int, (x.cl : Int) = K := ⟨_, rfl⟩
  rw [hB, hA, hC, hR, hK] at h
  by_cases h0 : x.st = 0
  · obtain ⟨r1, r2, r3⟩ := hx.run h0
    rw [if_pos h0] at hy
    obtain rfl : true = r := by rw [← hr, h0]; rfl
    rw [h0] at h
    obtain ⟨R1, hR1⟩ : ∃ R1 : Int, R + 1 = R1 := ⟨_, rfl⟩
    have hRn : ((x.ran + 1 : Nat) : Int) = R1 := by omega
    have e1 : wrap64 (R + 1) = R1 := by unfold wrap64; omega
    have h1 := six_set3 h R1
    obtain ⟨_, _, _, c3, _, c5⟩ := six_cells h
    have f3 := h.frozen 3
    have st1 := (Step.refl o σ w).setCell (p := ⟨p, 3, none⟩) (.inr hm) (.int .i64 R1)
    obtain ⟨d0, d1, d2, d3, d4, d5⟩ := six_cells h1
    have g5 := h1.frozen 5
    by_cases ha : x.ran + 1 = x.a
    · rw [if_pos ha] at hy
      subst hy
      have k1 : (R1 == A) = true := by simp; omega
      have F := Lib.hid (And.intro st1 (And.intro h1 hm))
      have E := Lib.hid (And.intro hB (And.intro hA (And.intro hC (And.intro hRn hK))))
      clear h h1 st1 hm hR hB hA hC hK hRn hR1 r1 r2 r3 ha hr h0 hx b1 b2 b3 b4 H HX
      go_enter Try.func15, Try.ntmps15
      go_wp2
      go_quiet (fail)
      go_wp2
      go_ret
      have h2 := six_set5 (F.out.2.1.drewN nq) 2
      refine ⟨rfl, (F.out.1.drewN _).setCell (.inr F.out.2.2) _, ?_⟩
      unfold LfAt
      simp only
      rw [E.out.1, E.out.2.1, E.out.2.2.1, E.out.2.2.2.1, E.out.2.2.2.2]
      exact h2
    · rw [if_neg ha] at hy
      have k1 : (R1 == A) = false := by simp; omega
      by_cases hb : x.ran + 1 = x.b
      · rw [if_pos hb] at hy
        have k2 : (R1 == B) = true := by simp; omega
        have hx2 : (Lf.mk x.b x.a x.c (x.ran + 1) x.cl 0).abo = y := by
          rw [← hy]; unfold Lf.abo; simp only [if_true, h0]
        have CA := Lib.hid (fun (w' : World) (h' : LfAt 34 o σ w' p ⟨x.b, x.a, x.c, x.ran + 1, x.cl, 0⟩) => dabort 0 y h' rfl hx2)
        have F := Lib.hid (And.intro st1 (And.intro h1 hm))
        have E := Lib.hid (And.intro hB (And.intro hA (And.intro hC (And.intro hRn hK))))
        clear h h1 st1 hm hR hB hA hC hK hRn hR1 r1 r2 r3 ha hb hr h0 hx b1 b2 b3 b4 hy hx2 H HX
        go_enter Try.func15, Try.ntmps15
        go_wp2
        go_quiet (fail)
        obtain ⟨m1, hm1⟩ : ∃ v, v = nq := ⟨nq, rfl⟩
        subst hm1
        go_wp2
        go_quiet (fail)
        have h2 : LfAt 34 o σ ((w.setCell ⟨p, 3, none⟩ (.int .i64 R1)).drewN (m1 + nq)) p ⟨x.b, x.a, x.c, x.ran + 1, x.cl, 0⟩ := by
          unfold LfAt
          simp only
          rw [E.out.1, E.out.2.1, E.out.2.2.1, E.out.2.2.2.1, E.out.2.2.2.2]
          exact F.out.2.1.drewN (m1 + nq)
        replace CA := Lib.hid (CA.out _ h2)
        go_wp2_with fail
        refine CA.out.mono ?_
        rintro e w5 ⟨rfl, st5, h5⟩
        go_wp2
        go_ret
        exact ⟨rfl, (F.out.1.drewN (m1 + nq)).trans st5, h5⟩
      · rw [if_neg hb] at hy
        subst hy
        have k2 : (R1 == B) = false := by simp; omega
        have F := Lib.hid (And.intro st1 (And.intro h1 hm))
        have E := Lib.hid (And.intro hB (And.intro hA (And.intro hC (And.intro hRn hK))))
        have E0 := Lib.hid h0
        clear h h1 st1 hm hR hB hA hC hK hRn hR1 r1 r2 r3 ha hb hr h0 hx b1 b2 b3 b4 H HX
        go_enter Try.func15, Try.ntmps15
        go_wp2
        go_quiet (fail)
        go_wp2
        go_quiet (fail)
        go_wp2
        go_ret
        refine ⟨rfl, (F.out.1.drewN _).drewN _, ?_⟩
        unfold LfAt
        simp only
        rw [E.out.1, E.out.2.1, E.out.2.2.1, E.out.2.2.2.1, E.out.2.2.2.2, E0.out]
        exact (F.out.2.1.drewN _).drewN _
  · rw [if_neg h0] at hy
    by_cases h1s : x.st = 1
    · obtain ⟨r1, _⟩ := hx.cln h1s
      rw [if_pos h1s] at hy
      obtain rfl : true = r := by rw [← hr, h1s]; rfl
      rw [h1s] at h
      obtain ⟨K1, hK1⟩ : ∃ K1 : Int, K + 1 = K1 := ⟨_, rfl⟩
      have hKn : ((x.cl + 1 : Nat) : Int) = K1 := by omega
      have e1 : wrap64 (K + 1) = K1 := by unfold wrap64; omega
      have h1 := six_set4 h K1
      obtain ⟨_, _, _, _, c4, c5⟩ := six_cells h
      have f4 := h.frozen 4
      have st1 := (Step.refl o σ w).setCell (p := ⟨p, 4, none⟩) (.inr hm) (.int .i64 K1)
      obtain ⟨d0, d1, d2, d3, d4, d5⟩ := six_cells h1
      have g5 := h1.frozen 5
      by_cases hc : x.cl + 1 = x.c
      · rw [if_pos hc] at hy
        subst hy
        have k1 : (K1 == C) = true := by simp; omega
        have F := Lib.hid (And.intro st1 (And.intro h1 hm))
        have E := Lib.hid (And.intro hB (And.intro hA (And.intro hC (And.intro hR hKn))))
        clear h h1 st1 hm hR hB hA hC hK hKn hK1 r1 hc hr h0 h1s hx b1 b2 b3 b4 H HX
        go_enter Try.func15, Try.ntmps15
        go_wp2
        go_quiet (fail)
        go_wp2
        go_ret
        have h2 := six_set5 (F.out.2.1.drewN nq) 3
        refine ⟨rfl, (F.out.1.drewN _).setCell (.inr F.out.2.2) _, ?_⟩
        unfold LfAt
        simp only
        rw [E.out.1, E.out.2.1, E.out.2.2.1, E.out.2.2.2.1, E.out.2.2.2.2]
        exact h2
      · rw [if_neg hc] at hy
        subst hy
        have k1 : (K1 == C) = false := by simp; omega
        have F := Lib.hid (And.intro st1 (And.intro h1 hm))
        have E := Lib.hid (And.intro hB (And.intro hA (And.intro hC (And.intro hR hKn))))
        have E0 := Lib.hid h1s
        clear h h1 st1 hm hR hB hA hC hK hKn hK1 r1 hc hr h0 h1s hx b1 b2 b3 b4 H HX
        go_enter Try.func15, Try.ntmps15
        go_wp2
        go_quiet (fail)
        go_wp2
        go_ret
        refine ⟨rfl, F.out.1.drewN _, ?_⟩
        unfold LfAt
        simp only
        rw [E.out.1, E.out.2.1, E.out.2.2.1, E.out.2.2.2.1, E.out.2.2.2.2, E0.out]
        exact F.out.2.1.drewN _
    · rw [if_neg h1s] at hy
      subst hy
      obtain rfl : false = r := by rw [← hr]; exact (decide_eq_false (by omega)).symm
      obtain ⟨S, hS⟩ : ∃ S : Int, (x.st : Int) = S := ⟨_, rfl⟩
      rw [hS] at h
      have k1 : (S == 0) = false := by simp; omega
      have k2 : (S == 1) = false := by simp; omega
      obtain ⟨_, _, _, _, _, c5⟩ := six_cells h
      clear h hm hR hB hA hC hK hr h0 h1s hx b1 b2 b3 b4 HX hS
      go_enter Try.func15, Try.ntmps15
      go_wp2
      go_ret
      exact ⟨rfl, Step.refl o σ w, H.out⟩
set_option maxHeartbeats 1600000 in
theorem dcharge (c : Nat) (h : LfAt 34 o σ w p x) (hx : x.Ok) (hc : x.charge = c) :
    Calls Try.prog 18 #[.pointer (some ⟨p, 0, none⟩)] w (Ret (.int .i64 (c : Int)) w) := by
  have b1 := hx.b2
  have b2 := hx.a2
  have b3 := hx.c2
  unfold LfAt at h
  unfold Lf.charge at hc
  obtain ⟨B, hB⟩ : ∃ B : Int, (x.b : Int) = B := ⟨_, rfl⟩
  obtain ⟨C, hC⟩ : ∃ C : Int, (x.c : Int) = C := ⟨_, rfl⟩
  obtain ⟨R, hR⟩ : ∃ R : Int, (x.ran : Int) = R := ⟨_, rfl⟩
  obtain ⟨K, hK⟩ : ∃ K : Int, (x.cl : Int) = K := ⟨_, rfl⟩
  obtain ⟨Z, hZ⟩ : ∃ Z : Int, (c : Int) = Z := ⟨_, rfl⟩
  rw [hB, hC, hR, hK] at h
  rw [hZ]
  by_cases h0 : x.st = 0
  · obtain ⟨r1, r2, r3⟩ := hx.run h0
    rw [if_pos h0] at hc
    rw [h0] at h
    obtain ⟨c0, _, c2, c3, c4, c5⟩ := six_cells h
    obtain ⟨D, hD⟩ : ∃ D : Int, B - R = D := ⟨_, rfl⟩
    have e1 : IntKind.i64.wrap (B - R) = D := by rw [IntKind.wrap_i64]; omega
    have e2 : IntKind.i64.wrap (D + C) = Z := by rw [IntKind.wrap_i64]; omega
    clear h hx h0 hc r1 r2 r3 b1 b2 b3 hD hB hC hR hK hZ
    go_enter Try.func18, Try.ntmps18
    go_wp2
    go_quiet (fail)
    go_wp2
    go_ret
    exact ⟨rfl, _, rfl⟩
  · rw [if_neg h0] at hc
    by_cases h1s : x.st = 1
    · obtain ⟨r1, _⟩ := hx.cln h1s
      rw [if_pos h1s] at hc
      rw [h1s] at h
      obtain ⟨_, _, c2, _, c4, c5⟩ := six_cells h
      have e1 : IntKind.i64.wrap (C - K) = Z := by rw [IntKind.wrap_i64]; omega
      clear h hx h0 hc r1 b1 b2 b3 hB hC hR hK hZ
      go_enter Try.func18, Try.ntmps18
      go_wp2
      go_quiet (fail)
      go_wp2
      go_ret
      exact ⟨rfl, _, rfl⟩
    · rw [if_neg h1s] at hc
      obtain rfl : (0 : Int) = Z := by omega
      obtain ⟨S, hS⟩ : ∃ S : Int, (x.st : Int) = S := ⟨_, rfl⟩
      rw [hS] at h
      have k1 : (S == 0) = false := by simp; omega
      have k2 : (S == 1) = false := by simp; omega
      obtain ⟨_, _, _, _, _, c5⟩ := six_cells h
      clear h hx h0 h1s hc b1 b2 b3 hB hC hR hK hZ hS
      go_enter Try.func18, Try.ntmps18
      go_wp2
      go_ret
      exact ⟨rfl, 0, rfl⟩
set_option maxHeartbeats 3200000 in
theorem dleft (c : Nat) (h : LfAt 34 o σ w p x) (hx : x.Ok) (hc : x.left = c) :
    Calls Try.prog 17 #[.pointer (some ⟨p, 0, none⟩)] w (RetB (.int .i64 (c : Int)) w) := by
  have hcl := hc ▸ Lf.left_le hx
  have HX := Lib.hid (And.intro hx hc)
  obtain ⟨c0, c1, c2, c3, c4, c5⟩ := six_cells h
  have h1 : LfAt 34 (tag (fun _ => 0) w.heap.size 1) 1 (w.alloc (.cells (six x.b x.a x.c x.ran x.cl x.st) 34)) w.heap.size x := Blk.made _ 1 w _ _
  have l1 := (Lw.start w).alloc (.cells (six x.b x.a x.c x.ran x.cl x.st) 34) 1
  have F0 := Lib.hid (And.intro h1 l1)
  unfold six at F0
  clear h h1 l1 hx hc
  go_enter Try.func17, Try.ntmps17
  go_wp2
  generalize tag (fun _ => 0) w.heap.size 1 = o1 at *
  go_loopw [4] (fun s4 wr => ∃ (n : Nat) (y : Lf), s4 = .int .i64 (n : Int) ∧ n ≤ c ∧ Hid (LfAt 34 o1 1 wr w.heap.size y ∧ Lw w o1 wr ∧ y.Ok ∧ y.left + n = c)) (fun st _ => c - (intOf st).toNat)
  case atStart => exact ⟨0, x, rfl, by omega, Lib.hid ⟨F0.out.1, F0.out.2, HX.out.1, HX.out.2⟩⟩
  case round =>
    obtain ⟨n, y, rfl, hn, F⟩ := hrel
    have z1 : (n : Int) < 2000 := by omega
    by_cases hs : y.st ≤ 1
    · have C1 := Lib.hid (drun true y.run F.out.1 F.out.2.2.1 (decide_eq_true hs) rfl)
      have hl := Lf.left_run F.out.2.2.1 hs
      have hcn := F.out.2.2.2
      have G := Lib.hid (And.intro F.out.2.1 (And.intro (Lf.ok_run F.out.2.2.1) (show y.run.left + (n + 1) = c from by omega)))
      have hn1 : n + 1 ≤ c := by omega
      clear F F0 hl hcn hs
      go_wp2_with fail
      refine C1.out.mono ?_
      rintro e w5 ⟨rfl, st5, h5⟩
      have F5 := Lib.hid (And.intro h5 (G.out.1.step st5 (by decide)))
      clear C1 st5 h5
      go_wp2
      go_roundw
      case rel => exact ⟨n + 1, y.run, by simp, hn1, Lib.hid ⟨F5.out.1, F5.out.2, G.out.2.1, G.out.2.2⟩⟩
      case measure => simp [intOf]; omega
    · have C1 := Lib.hid (drun false y.run F.out.1 F.out.2.2.1 (decide_eq_false hs) rfl)
      have hl := Lf.left_end hs
      obtain rfl : n = c := by have := F.out.2.2.2; omega
      have G := Lib.hid F.out.2.1
      clear F F0 hl hs
      go_wp2_with fail
      refine C1.out.mono ?_
      rintro e w5 ⟨rfl, st5, h5⟩
      have F5 := Lib.hid (G.out.step st5 (by decide))
      clear C1 st5 h5
      go_wp2
      go_ret
      exact ⟨rfl, F5.out.below⟩
end
end Go.Proofs.Ytipnnjhbhkohnaa
