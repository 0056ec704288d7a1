/- The calls of a pile: Drop, Move. -/
import Derived.Test.YtgbmpnoknmpmcaaPlOps2
namespace Go.Proofs.Ytgbmpnoknmpmcaa
open Go.RowKit
set_option linter.unusedVariables false
set_option linter.unusedSimpArgs false

section
variable {o : Nat → Nat} {σ : Nat} {w : World} {a room : Nat} {v : Value} {l : List It}
set_option maxHeartbeats 1600000 in
theorem pdrop (id c : Int) (L : List It) (h : Pl o σ w a room v l) (hl : l.length ≤ 1000) (hc : moveE l id = c) (hL : dropL l id = L) :
    Calls Try.prog 14 #[.pointer (some ⟨a, 0, none⟩), .int .i64 id] w fun e w' => e = .returned (.int .i64 c) ∧ ∃ o' v', Step o o' σ w w' ∧ Pl o' σ w' a room v' L := by
  unfold moveE at hc
  unfold dropL at hL
  cases hf : l.findIdx? (fun x => decide (x.1 = id)) with
  | none =>
    have hi := (idxI_none hf).1
    rw [hi, if_neg (by decide)] at hc
    rw [hf] at hL
    simp only at hL
    subst hc hL
    have C := Lib.hid (pfind id (-1) h hl hi)
    replace h := Lib.hid h
    clear hf hi
    go_enter Try.func14, Try.ntmps14
    go_wp2_with fail
    refine C.out.mono ?_
    rintro e gw ⟨rfl, g⟩
    replace g := Lib.hid g
    go_wp2
    go_ret
    exact ⟨rfl, o, v, (Step.refl o σ w).below g.out, h.out.below g.out⟩
  | some i =>
    obtain ⟨hi, hlt, _⟩ := idxI_some hf
    rw [hi, if_pos (by omega)] at hc
    rw [hf] at hL
    simp only at hL
    subst hc hL
    have C := Lib.hid (pfind id (i : Int) h hl hi)
    have C2 := Lib.hid (fun (o' : Nat → Nat) (w' : World) (h' : Pl o' σ w' a room v l) => premove (i := i) h' hl hlt)
    have hn : decide ((i : Int) < 0) = false := decide_eq_false (by omega)
    replace h := Lib.hid h
    clear hf hi
    go_enter Try.func14, Try.ntmps14
    go_wp2_with fail
    refine C.out.mono ?_
    rintro e gw ⟨rfl, g⟩
    replace g := Lib.hid g
    go_wp2_with fail
    refine (C2.out o _ (h.out.below g.out)).mono ?_
    rintro e w3 ⟨rfl, o3, v3, st3, P3⟩
    have K := Lib.hid (And.intro (((Step.refl o σ w).below g.out).trans st3) P3)
    clear st3 P3 C2 C g
    go_wp2
    go_ret
    exact ⟨rfl, o3, v3, K.out.1, K.out.2⟩
set_option maxHeartbeats 1600000 in
theorem pmove (id key c : Int) (L : List It) (h : Pl o σ w a room v l) (hi : PInv room l) (hc : moveE l id = c) (hL : moveL l id key = L) :
    Calls Try.prog 12 #[.pointer (some ⟨a, 0, none⟩), .int .i64 id, .int .i64 key] w fun e w' => e = .returned (.int .i64 c) ∧ ∃ o' v', Step o o' σ w w' ∧ Pl o' σ w' a room v' L := by
  have hl : l.length ≤ 1000 := Nat.le_trans hi.le hi.room2
  have hs := hi.sorted
  clear hi
  unfold moveE at hc
  unfold moveL at hL
  cases hf : l.findIdx? (fun x => decide (x.1 = id)) with
  | none =>
    have hi := (idxI_none hf).1
    rw [hi, if_neg (by decide)] at hc
    rw [hf] at hL
    simp only at hL
    subst hc hL
    have C := Lib.hid (pfind id (-1) h hl hi)
    replace h := Lib.hid h
    clear hf hi
    go_enter Try.func12, Try.ntmps12
    go_wp2_with fail
    refine C.out.mono ?_
    rintro e gw ⟨rfl, g⟩
    replace g := Lib.hid g
    go_wp2
    go_ret
    exact ⟨rfl, o, v, (Step.refl o σ w).below g.out, h.out.below g.out⟩
  | some i =>
    obtain ⟨hi, hlt, ⟨yi, yk, yt⟩, hy, hye⟩ := idxI_some hf
    simp only at hye
    subst hye
    rw [hi, if_pos (by omega)] at hc
    rw [hf] at hL
    simp only at hL
    rw [hy] at hL
    simp only at hL
    subst hc hL
    have C := Lib.hid (pfind yi (i : Int) h hl hi)
    have C2 := Lib.hid (fun (o' : Nat → Nat) (w' : World) (h' : Pl o' σ w' a room v l) => premove (i := i) h' hl hlt)
    have hel : (l.eraseIdx i).length < 1000 := by rw [List.length_eraseIdx_of_lt hlt]; omega
    have C3 := Lib.hid (fun (o' : Nat → Nat) (w' : World) (v' : Value) (h' : Pl o' σ w' a room v' (l.eraseIdx i)) => pinsert (yi, key, yt) h' hel (hs.sublist (List.eraseIdx_sublist _ _)))
    unfold vI at C3
    simp only at C3
    have hn : decide ((i : Int) < 0) = false := decide_eq_false (by omega)
    have hn2 : (i : Int) < (l.length : Int) := by omega
    have hn3 : (0 : Int) ≤ (i : Int) := by omega
    obtain ⟨A, cap, rfl⟩ := h.row.any
    replace h := Lib.hid h
    clear hf hi hs
    go_enter Try.func12, Try.ntmps12
    go_wp2_with fail
    refine C.out.mono ?_
    rintro e gw ⟨rfl, g⟩
    have P2 := h.out.below g
    have S2 := (Step.refl o σ w).below g
    have c1 : gw.cell? ⟨a, 1, none⟩ = some (.slice A l.length cap) := by rw [P2.box.cell]; simp
    obtain ⟨gg, rfl, hg, d0, d1, d2⟩ := P2.row.rd i _ hy
    have G := Lib.hid (And.intro P2 S2)
    clear P2 S2 g C
    go_wp2_with fail
    refine (C2.out _ _ (G.out.1.alloc _ (σ + 1))).mono ?_
    rintro e w3 ⟨rfl, o3, v3, st3, P3⟩
    have L3 := (Blk.made o (σ + 1) gw #[.int .i64 yi, .int .i64 key, .int .i64 yt] 29).step st3 (by omega)
    have S3 := (G.out.2.alloc (σ + 1) (.cells #[.int .i64 yi, .int .i64 key, .int .i64 yt] 29)).trans st3
    have m1 : w3.cell? ⟨gw.heap.size, 0, none⟩ = some (.int .i64 yi) := by rw [L3.cell]; simp
    have m2 : w3.cell? ⟨gw.heap.size, 1, none⟩ = some (.int .i64 key) := by rw [L3.cell]; simp
    have m3 : w3.cell? ⟨gw.heap.size, 2, none⟩ = some (.int .i64 yt) := by rw [L3.cell]; simp
    have K := Lib.hid (And.intro P3 S3)
    clear P3 st3 L3 S3 G C2 c1 d0 d1 d2
    go_wp2_with fail
    refine (C3.out o3 _ v3 K.out.1).mono ?_
    rintro e w4 ⟨rfl, o4, v4, st4, P4⟩
    have K4 := Lib.hid (And.intro (K.out.2.trans st4) P4)
    clear st4 P4 C3 K m1 m2 m3
    go_wp2
    go_ret
    exact ⟨rfl, o4, v4, K4.out.1, K4.out.2⟩
end
end Go.Proofs.Ytgbmpnoknmpmcaa
