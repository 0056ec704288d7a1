/- The document's pile: Push, Pop, Move, Drop. -/
import Derived.Test.YtgbmpnoknmpmcaaPlTake
import Derived.Test.YtgbmpnoknmpmcaaPlRput
namespace Go.Proofs.Ytgbmpnoknmpmcaa
open Go.RowKit
set_option linter.unusedVariables false
set_option linter.unusedSimpArgs false

section
variable {o : Nat → Nat} {σ : Nat} {w : World} {b room : Nat} {v : Value} {l : List It}
set_option maxHeartbeats 1600000 in
theorem rpush (x : It) (c : Int) (L : List It) (h : Rp o σ w b room v l) (hi : PInv room l) (hc : pushE room l x = c) (hL : pushL room l x = L) :
    Calls Try.prog 15 #[.pointer (some ⟨b, 0, none⟩), vI x] w fun e w' => e = .returned (.int .i64 c) ∧ ∃ o' v', Step o o' σ w w' ∧ Rp o' σ w' b room v' L := by
  have hl := hi.le
  have hr := hi.room2
  have h1 := h.alloc (.cells #[.int .i64 x.1, .int .i64 x.2.1, .int .i64 x.2.2] 42) (σ + 1)
  have st1 := (Step.refl o σ w).alloc (σ + 1) (.cells #[.int .i64 x.1, .int .i64 x.2.1, .int .i64 x.2.2] 42)
  have hbx := Blk.made o (σ + 1) w #[.int .i64 x.1, .int .i64 x.2.1, .int .i64 x.2.2] 42
  obtain ⟨f, hf⟩ : ∃ f, idxI x.1 l = f := ⟨_, rfl⟩
  have C1 := Lib.hid (rfind x.1 f h1 (by omega) hf)
  have C2 := Lib.hid (fun (o' : Nat → Nat) (w' : World) (h' : Rp o' σ w' b room v l) => rput x h' (by omega))
  obtain ⟨A, cap, rfl⟩ := h.row.any
  unfold pushE at hc
  unfold pushL at hL
  rw [hf] at hc hL
  have F := Lib.hid (And.intro h1 (And.intro st1 hbx))
  clear h h1 st1 hbx hi
  obtain ⟨xi, xk, xt⟩ := x
  unfold vI at *
  simp only at *
  go_enter Try.func15, Try.ntmps15
  go_wp2_with fail
  refine C1.out.mono ?_
  rintro e gw ⟨rfl, rfl⟩
  obtain ⟨h1, st1, hbx⟩ := F.out
  generalize w.alloc (.cells #[.int .i64 xi, .int .i64 xk, .int .i64 xt] 42) = gw at *
  have c0 : gw.cell? ⟨b, 0, none⟩ = some (.int .i64 (room : Int)) := by rw [h1.box.cell]; simp
  have c1 : gw.cell? ⟨b, 1, none⟩ = some (.slice A l.length cap) := by rw [h1.box.cell]; simp
  have d0 : gw.cell? ⟨w.heap.size, 0, none⟩ = some (.int .i64 xi) := by rw [hbx.cell]; simp
  have d1 : gw.cell? ⟨w.heap.size, 1, none⟩ = some (.int .i64 xk) := by rw [hbx.cell]; simp
  have d2 : gw.cell? ⟨w.heap.size, 2, none⟩ = some (.int .i64 xt) := by rw [hbx.cell]; simp
  have G := Lib.hid (And.intro h1 st1)
  clear h1 st1 hbx F C1 hf
  by_cases h0 : 0 ≤ f
  · rw [if_pos h0] at hc hL
    have g0 : f ≥ 0 := h0
    subst hc hL
    clear C2
    go_wp2
    go_ret
    exact ⟨rfl, _, _, G.out.2, G.out.1⟩
  · rw [if_neg h0] at hc hL
    have g0 : decide (f ≥ 0) = false := decide_eq_false h0
    have g1 : decide (0 ≤ f) = false := decide_eq_false h0
    by_cases h2 : l.length = room
    · rw [if_pos h2] at hc hL
      have e1 : (l.length : Int) ≥ (room : Int) := by omega
      subst hc hL
      clear C2 h2 h0
      go_wp2
      go_quiet (fail)
      go_wp2
      go_ret
      exact ⟨rfl, _, _, G.out.2.drewN _, G.out.1.drewN _⟩
    · rw [if_neg h2] at hc hL
      have e1 : decide ((l.length : Int) ≥ (room : Int)) = false := decide_eq_false (by omega)
      have e2 : decide ((room : Int) ≤ (l.length : Int)) = false := decide_eq_false (by omega)
      have e3 : decide (room ≤ l.length) = false := decide_eq_false (by omega)
      subst hc hL
      clear h2 h0
      go_wp2
      go_quiet (fail)
      go_wp2_with fail
      refine (C2.out _ _ (G.out.1.drewN _)).mono ?_
      rintro e w3 ⟨rfl, o3, v3, st3, P3⟩
      have K := Lib.hid (And.intro ((G.out.2.drewN _).trans st3) P3)
      clear st3 P3 C2
      go_wp2
      go_ret
      exact ⟨rfl, o3, v3, K.out.1, K.out.2⟩
set_option maxHeartbeats 1600000 in
theorem rpop (y : It) (t : Bool) (h : Rp o σ w b room v l) (hl : l.length ≤ 1000) (ht : topI l = (y, t)) :
    Calls Try.prog 16 #[.pointer (some ⟨b, 0, none⟩)] w fun e w' => e = .returned (.tuple #[vI y, .bool t]) ∧ ∃ o' v', Step o o' σ w w' ∧ Rp o' σ w' b room v' l.tail := by
  obtain ⟨A, cap, rfl⟩ := h.row.any
  have h1 := h.alloc (.cells #[.int .i64 0, .int .i64 0, .int .i64 0] 42) (σ + 1)
  have st1 := (Step.refl o σ w).alloc (σ + 1) (.cells #[.int .i64 0, .int .i64 0, .int .i64 0] 42)
  have hbx := Blk.made o (σ + 1) w #[.int .i64 0, .int .i64 0, .int .i64 0] 42
  have c1 : (w.alloc (.cells #[.int .i64 0, .int .i64 0, .int .i64 0] 42)).cell? ⟨b, 1, none⟩ = some (.slice A l.length cap) := by rw [h1.box.cell]; simp
  have hm : tag o w.heap.size (σ + 1) w.heap.size ≠ σ := by rw [hbx.mine]; omega
  have hbl := h.box.lt
  have hne : b ≠ w.heap.size := by omega
  cases l with
  | nil =>
    simp only [topI, Prod.mk.injEq] at ht
    obtain ⟨rfl, rfl⟩ := ht
    have G := Lib.hid (And.intro h1 (And.intro st1 hm))
    clear h h1 st1 hbx hm
    unfold vI
    go_enter Try.func16, Try.ntmps16
    go_wp2
    (try simp only [Exit.inBlock, Exit.then])
    refine bodyPost_ret (v := .tuple #[.agg #[.int .i64 0, .int .i64 0, .int .i64 0], .bool false]) ?_ rfl ⟨rfl, ?_⟩
    · rw [results_cell_tmp rfl]; go_simp
    · exact ⟨_, _, G.out.2.1, G.out.1⟩
  | cons z l =>
    simp only [topI, Prod.mk.injEq] at ht
    obtain ⟨rfl, rfl⟩ := ht
    have C2 := Lib.hid (rtake (i := 0) (y := z) h1 hl rfl)
    obtain ⟨zi, zk, zt⟩ := z
    unfold vI at *
    simp only at *
    have G := Lib.hid (And.intro st1 hbx)
    have hlz : (((l.length + 1 : Nat) : Int) == 0) = false := by simp; omega
    simp only [List.length_cons] at c1
    clear h h1 st1 hbx hm
    go_enter Try.func16, Try.ntmps16
    go_wp2_with fail
    refine C2.out.mono ?_
    rintro e w3 ⟨rfl, o3, v3, st3, P3⟩
    have B3 := G.out.2.step st3 (by omega)
    have S3 := G.out.1.trans st3
    have k0 : ∀ i, w3.frozen? ⟨w.heap.size, i, none⟩ = false := fun i => B3.frozen i
    have k1 : w3.cell? ⟨w.heap.size, 0, none⟩ = some (.int .i64 0) := by rw [B3.cell]; simp
    have k2 : w3.cell? ⟨w.heap.size, 1, none⟩ = some (.int .i64 0) := by rw [B3.cell]; simp
    have k3 : w3.cell? ⟨w.heap.size, 2, none⟩ = some (.int .i64 0) := by rw [B3.cell]; simp
    have hm3 : o3 w.heap.size ≠ σ := by rw [B3.mine]; omega
    have K := Lib.hid (And.intro P3 (And.intro S3 hm3))
    clear P3 st3 B3 S3 hm3 G C2 c1
    go_wp2
    (try simp only [Exit.inBlock, Exit.then])
    refine bodyPost_ret (v := .tuple #[.agg #[.int .i64 zi, .int .i64 zk, .int .i64 zt], .bool true]) ?_ rfl ⟨rfl, ?_⟩
    · rw [results_cell_tmp rfl]; go_simp
    · obtain ⟨P3, S3, hm⟩ := K.out
      exact ⟨o3, v3, (((S3.setCell (.inl (Nat.le_refl _)) _).setCell (.inl (Nat.le_refl _)) _).setCell (.inl (Nat.le_refl _)) _), ((P3.far hm _).far hm _).far hm _⟩
set_option maxHeartbeats 1600000 in
theorem rdrop (id c : Int) (L : List It) (h : Rp o σ w b room v l) (hl : l.length ≤ 1000) (hc : moveE l id = c) (hL : dropL l id = L) :
    Calls Try.prog 18 #[.pointer (some ⟨b, 0, none⟩), .int .i64 id] w fun e w' => e = .returned (.int .i64 c) ∧ ∃ o' v', Step o o' σ w w' ∧ Rp o' σ w' b room v' L := by
  unfold moveE at hc
  unfold dropL at hL
  cases hf : l.findIdx? (fun x => decide (x.1 = id)) with
  | none =>
    have hi := (idxI_none hf).1
    rw [hi, if_neg (by decide)] at hc
    rw [hf] at hL
    simp only at hL
    subst hc hL
    have C := Lib.hid (rfind id (-1) h hl hi)
    replace h := Lib.hid h
    clear hf hi
    go_enter Try.func18, Try.ntmps18
    go_wp2_with fail
    refine C.out.mono ?_
    rintro e gw ⟨rfl, rfl⟩
    go_wp2
    go_ret
    exact ⟨rfl, o, v, Step.refl o σ _, h.out⟩
  | some i =>
    obtain ⟨hi, hlt, y, hy, _⟩ := idxI_some hf
    rw [hi, if_pos (by omega)] at hc
    rw [hf] at hL
    simp only at hL
    subst hc hL
    have C := Lib.hid (rfind id (i : Int) h hl hi)
    have C2 := Lib.hid (rtake h hl hy)
    have hn : decide ((i : Int) < 0) = false := decide_eq_false (by omega)
    clear hf hi h
    go_enter Try.func18, Try.ntmps18
    go_wp2_with fail
    refine C.out.mono ?_
    rintro e gw ⟨rfl, rfl⟩
    go_wp2_with fail
    refine C2.out.mono ?_
    rintro e w3 ⟨rfl, o3, v3, st3, P3⟩
    have K := Lib.hid (And.intro st3 P3)
    clear st3 P3 C2 C
    go_wp2
    go_ret
    exact ⟨rfl, o3, v3, K.out.1, K.out.2⟩
set_option maxHeartbeats 1600000 in
theorem rmove (id key c : Int) (L : List It) (h : Rp o σ w b room v l) (hl : l.length ≤ 1000) (hc : moveE l id = c) (hL : moveL l id key = L) :
    Calls Try.prog 17 #[.pointer (some ⟨b, 0, none⟩), .int .i64 id, .int .i64 key] w fun e w' => e = .returned (.int .i64 c) ∧ ∃ o' v', Step o o' σ w w' ∧ Rp o' σ w' b room v' L := by
  unfold moveE at hc
  unfold moveL at hL
  cases hf : l.findIdx? (fun x => decide (x.1 = id)) with
  | none =>
    have hi := (idxI_none hf).1
    rw [hi, if_neg (by decide)] at hc
    rw [hf] at hL
    simp only at hL
    subst hc hL
    have C := Lib.hid (rfind id (-1) h hl hi)
    replace h := Lib.hid h
    clear hf hi
    go_enter Try.func17, Try.ntmps17
    go_wp2_with fail
    refine C.out.mono ?_
    rintro e gw ⟨rfl, rfl⟩
    go_wp2
    go_ret
    exact ⟨rfl, o, v, Step.refl o σ _, h.out⟩
  | some i =>
    obtain ⟨hi, hlt, ⟨yi, yk, yt⟩, hy, hye⟩ := idxI_some hf
    simp only at hye
    subst hye
    rw [hi, if_pos (by omega)] at hc
    rw [hf] at hL
    simp only at hL
    rw [hy] at hL
    simp only at hL
    subst hc hL
    have C := Lib.hid (rfind yi (i : Int) h hl hi)
    have C2 := Lib.hid (rtake h hl hy)
    have hel : (l.eraseIdx i).length ≤ 1000 := by rw [List.length_eraseIdx_of_lt hlt]; omega
    have C3 := Lib.hid (fun (o' : Nat → Nat) (w' : World) (v' : Value) (h' : Rp o' σ w' b room v' (l.eraseIdx i)) => rput (yi, key, yt) h' hel)
    unfold vI at C2 C3
    simp only at C2 C3
    have hn : decide ((i : Int) < 0) = false := decide_eq_false (by omega)
    clear hf hi h
    go_enter Try.func17, Try.ntmps17
    go_wp2_with fail
    refine C.out.mono ?_
    rintro e gw ⟨rfl, rfl⟩
    go_wp2_with fail
    refine C2.out.mono ?_
    rintro e w3 ⟨rfl, o3, v3, st3, P3⟩
    have K := Lib.hid (And.intro (P3.alloc (.cells #[.int .i64 yi, .int .i64 key, .int .i64 yt] 42) (σ + 1)) (st3.alloc (σ + 1) (.cells #[.int .i64 yi, .int .i64 key, .int .i64 yt] 42)))
    clear P3 st3 C2 C
    go_wp2_with fail
    refine (C3.out _ _ v3 K.out.1).mono ?_
    rintro e w4 ⟨rfl, o4, v4, st4, P4⟩
    have K4 := Lib.hid (And.intro (K.out.2.trans st4) P4)
    clear st4 P4 C3 K
    go_wp2
    go_ret
    exact ⟨rfl, o4, v4, K4.out.1, K4.out.2⟩
end
end Go.Proofs.Ytgbmpnoknmpmcaa
