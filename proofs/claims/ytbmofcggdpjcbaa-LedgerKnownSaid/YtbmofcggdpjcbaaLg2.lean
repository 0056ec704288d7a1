/- Package ledger: Earn, Lose, Till, By. -/
import Derived.Test.YtbmofcggdpjcbaaLg1
namespace Go.Proofs.Ytbmofcggdpjcbaa
open Go.RowKit
set_option linter.unusedVariables false
set_option linter.unusedSimpArgs false

section
variable {o : Nat → Nat} {σ : Nat} {w : World} {a : Nat} {v : Value} {l : List Rw}
set_option maxHeartbeats 3200000 in
theorem learn (t z c : Int) (n : List UInt8) (L : List Rw) (h : Lg o σ w a v l) (hi : LInv l) (hl : l.length ≤ 1000) (hz : fitB z = true) (hc : earnE l t z = c) (hL : earnL l t n z = L) :
    Calls Try.prog 10 #[.pointer (some ⟨a, 0, none⟩), .int .i64 t, .string (bs n), .int .i64 z] w fun e w' => e = .returned (.int .i64 c) ∧ ∃ o' v', Step o o' σ w w' ∧ Lg o' σ w' a v' L := by
  have C := Lib.hid (check_any t z (earned l) c h hl hz (earned_nn l) hi.e hc)
  have c1 : w.cell? ⟨a, 1, none⟩ = some (.int .i64 (earned l)) := by rw [h.box.cell]; simp
  unfold earnL at hL
  rw [hc] at hL
  by_cases hc0 : c = 0
  · subst hc0
    rw [if_pos rfl] at hL C
    subst hL
    obtain ⟨_, k2, _, k4⟩ := putE_zero hc
    have S := Lib.hid (earned_snoc l t n z k2)
    obtain ⟨ez, hez⟩ : ∃ ez, earned l + z = ez := ⟨_, rfl⟩
    obtain ⟨ee, hee⟩ : ∃ ee, earned l = ee := ⟨_, rfl⟩
    have h0 := h
    have hb0 := h.box
    rw [hez] at C
    rw [hee] at C c1 hez hb0
    obtain ⟨i0, hi0, hz0, hz1, hz2⟩ := info_parts Try.infoRow
    obtain ⟨A, cap, rfl⟩ := h.row.any
    have F := Lib.hid (And.intro h.row hb0)
    have HE := Lib.hid (And.intro hez hee)
    clear h h0 hb0 hi hc k2 k4 hz hez hee
    go_enter Try.func10, Try.ntmps10
    go_wp2_with fail
    refine C.out.mono ?_
    rintro e w1 ⟨rfl, m, rfl⟩
    have hb1 := F.out.2.drewN m
    have c0 : (w.drewN m).cell? ⟨a, 0, none⟩ = some (.slice A l.length cap) := by rw [hb1.cell]; simp
    have f1 : (w.drewN m).frozen? ⟨a, 1, none⟩ = false := hb1.frozen 1
    have hb2 := hb1.set 1 (.int .i64 ez)
    have hr2 := (⟨F.out.1.own, F.out.1.mine⟩ : Row o σ (w.drewN m) 34 3 (.slice A l.length cap) l.length (cellsW l)).other (p := ⟨a, 1, none⟩) (F.out.1.ne_blk F.out.2.at_ (by decide)) (.int .i64 ez)
    have st2 := ((Step.refl o σ w).drewN m).setCell (p := ⟨a, 1, none⟩) (.inr hb1.mine) (.int .i64 ez)
    simp only [List.setIfInBounds_toArray, List.set_cons_succ, List.set_cons_zero] at hb2
    have G := Lib.hid (And.intro hb2 (And.intro hr2 st2))
    clear hb1 hb2 hr2 st2 C F
    go_wp2_with (at_builtin; refine wpList_append_own_at _ rfl (.tmp 33) (.tmp 38) 31 rfl 0 34 i0 (.agg #[.int .i64 0, .string ⟨#[]⟩, .int .i64 0]) 3 32 Try.underlying31 hi0 hz0 hz1 hz2 rfl (by decide) _ _ _ rfl (G.out.2.1.own.alloc _) ⟨w.heap.size, 0, none⟩ 1 1 (cellsW [⟨t, n, z⟩]) rfl rfl (newsW _ ⟨t, n, z⟩ _ _ (by simp)) (cellsW_ones _) (by unfold maxLen; omega) (by omega) (Nat.zero_le _) ?_)
    intro v' w3 hown' hgrow' hnil hloc
    obtain ⟨hb2, hr2, st2⟩ := G.out
    have hb3 := hb2.alloc (.cells #[.int .i64 t, .string (bs n), .int .i64 z] 34) σ
    have hr3 := hr2.alloc (.cells #[.int .i64 t, .string (bs n), .int .i64 z] 34) σ
    have st3 := st2.alloc σ (.cells #[.int .i64 t, .string (bs n), .int .i64 z] 34)
    have hb4 := hb3.grown hgrow' (hr3.ne_blk hb3.at_ (by decide)) σ
    have hr4 := hr3.appended hown' (by simpa using hloc)
    have st4 := st3.grown hgrow' (fun k hk => .inr (hr3.mine k hk)) σ
    obtain ⟨g3, cap3, rfl, hc3, hc4, _, _⟩ := hr4.form (by omega)
    have e0 : w3.cell? ⟨a, 0, none⟩ = some (.slice A l.length cap) := by rw [hb4.cell]; simp
    have e1 : w3.frozen? ⟨a, 0, none⟩ = false := hb4.frozen 0
    have K := Lib.hid (And.intro hb4 (And.intro hr4 st4))
    clear hb2 hr2 st2 hb3 hr3 st3 hb4 hr4 st4 hown' hgrow' hnil hloc G
    go_wp2
    go_ret
    obtain ⟨hb4, hr4, st4⟩ := K.out
    obtain ⟨s1, s2⟩ := S.out
    have hb5 := hb4.set 0 (.slice (some ⟨g3, 0, none⟩) (l.length + 1) cap3)
    simp only [List.setIfInBounds_toArray, List.set_cons_zero] at hb5
    have hr5 := hr4.other (p := ⟨a, 0, none⟩) (hr4.ne_blk hb4.at_ (by decide)) (.slice (some ⟨g3, 0, none⟩) (l.length + 1) cap3)
    refine ⟨rfl, _, .slice (some ⟨g3, 0, none⟩) (l.length + 1) cap3, st4.setCell (.inr hb4.mine) _, ?_, ?_⟩
    · rw [s1, s2, HE.out.2, HE.out.1]
      exact hb5
    · rw [cellsW_append, List.length_append]
      exact hr5
  · rw [if_neg hc0] at hL
    subst hL
    have k : (c != 0) = true := by simp [hc0]
    rw [if_neg hc0] at C
    have F := Lib.hid h
    clear h hi hc hz hc0
    go_enter Try.func10, Try.ntmps10
    go_wp2_with fail
    refine C.out.mono ?_
    rintro e w1 ⟨rfl, m, rfl⟩
    clear C
    go_wp2
    go_ret
    exact ⟨rfl, o, v, (Step.refl o σ w).drewN m, F.out.drewN m⟩
set_option maxHeartbeats 3200000 in
theorem llose (t z c : Int) (n : List UInt8) (L : List Rw) (h : Lg o σ w a v l) (hi : LInv l) (hl : l.length ≤ 1000) (hz : fitB z = true) (hc : loseE l t z = c) (hL : loseL l t n z = L) :
    Calls Try.prog 11 #[.pointer (some ⟨a, 0, none⟩), .int .i64 t, .string (bs n), .int .i64 z] w fun e w' => e = .returned (.int .i64 c) ∧ ∃ o' v', Step o o' σ w w' ∧ Lg o' σ w' a v' L := by
  have C := Lib.hid (check_any t z (lost l) c h hl hz (lost_nn l) hi.lo hc)
  have c1 : w.cell? ⟨a, 2, none⟩ = some (.int .i64 (lost l)) := by rw [h.box.cell]; simp
  unfold loseL at hL
  rw [hc] at hL
  by_cases hc0 : c = 0
  · subst hc0
    rw [if_pos rfl] at hL C
    subst hL
    obtain ⟨_, k2, _, k4⟩ := putE_zero hc
    have S := Lib.hid (lost_snoc l t n z k2)
    obtain ⟨ez, hez⟩ : ∃ ez, lost l + z = ez := ⟨_, rfl⟩
    obtain ⟨ee, hee⟩ : ∃ ee, lost l = ee := ⟨_, rfl⟩
    have h0 := h
    have hb0 := h.box
    rw [hez] at C
    rw [hee] at C c1 hez hb0
    obtain ⟨i0, hi0, hz0, hz1, hz2⟩ := info_parts Try.infoRow
    obtain ⟨A, cap, rfl⟩ := h.row.any
    have F := Lib.hid (And.intro h.row hb0)
    have HE := Lib.hid (And.intro hez hee)
    obtain ⟨z0, z1⟩ := fitB_iff.1 hz
    have hneg : wrap64 (-z) = -z := by unfold wrap64; omega
    clear h h0 hb0 hi hc k4 hz hez hee z0 z1 k2
    go_enter Try.func11, Try.ntmps11
    go_wp2_with fail
    refine C.out.mono ?_
    rintro e w1 ⟨rfl, m, rfl⟩
    have hb1 := F.out.2.drewN m
    have c0 : (w.drewN m).cell? ⟨a, 0, none⟩ = some (.slice A l.length cap) := by rw [hb1.cell]; simp
    have f1 : (w.drewN m).frozen? ⟨a, 2, none⟩ = false := hb1.frozen 2
    have hb2 := hb1.set 2 (.int .i64 ez)
    have hr2 := (⟨F.out.1.own, F.out.1.mine⟩ : Row o σ (w.drewN m) 34 3 (.slice A l.length cap) l.length (cellsW l)).other (p := ⟨a, 2, none⟩) (F.out.1.ne_blk F.out.2.at_ (by decide)) (.int .i64 ez)
    have st2 := ((Step.refl o σ w).drewN m).setCell (p := ⟨a, 2, none⟩) (.inr hb1.mine) (.int .i64 ez)
    simp only [List.setIfInBounds_toArray, List.set_cons_succ, List.set_cons_zero] at hb2
    have G := Lib.hid (And.intro hb2 (And.intro hr2 st2))
    clear hb1 hb2 hr2 st2 C F
    go_wp2_with (at_builtin; refine wpList_append_own_at _ rfl (.tmp 33) (.tmp 39) 31 rfl 0 34 i0 (.agg #[.int .i64 0, .string ⟨#[]⟩, .int .i64 0]) 3 32 Try.underlying31 hi0 hz0 hz1 hz2 rfl (by decide) _ _ _ rfl (G.out.2.1.own.alloc _) ⟨w.heap.size, 0, none⟩ 1 1 (cellsW [⟨t, n, -z⟩]) rfl rfl (newsW _ ⟨t, n, -z⟩ _ _ (by simp)) (cellsW_ones _) (by unfold maxLen; omega) (by omega) (Nat.zero_le _) ?_)
    intro v' w3 hown' hgrow' hnil hloc
    obtain ⟨hb2, hr2, st2⟩ := G.out
    have hb3 := hb2.alloc (.cells #[.int .i64 t, .string (bs n), .int .i64 (-z)] 34) σ
    have hr3 := hr2.alloc (.cells #[.int .i64 t, .string (bs n), .int .i64 (-z)] 34) σ
    have st3 := st2.alloc σ (.cells #[.int .i64 t, .string (bs n), .int .i64 (-z)] 34)
    have hb4 := hb3.grown hgrow' (hr3.ne_blk hb3.at_ (by decide)) σ
    have hr4 := hr3.appended hown' (by simpa using hloc)
    have st4 := st3.grown hgrow' (fun k hk => .inr (hr3.mine k hk)) σ
    obtain ⟨g3, cap3, rfl, hc3, hc4, _, _⟩ := hr4.form (by omega)
    have e0 : w3.cell? ⟨a, 0, none⟩ = some (.slice A l.length cap) := by rw [hb4.cell]; simp
    have e1 : w3.frozen? ⟨a, 0, none⟩ = false := hb4.frozen 0
    have K := Lib.hid (And.intro hb4 (And.intro hr4 st4))
    clear hb2 hr2 st2 hb3 hr3 st3 hb4 hr4 st4 hown' hgrow' hnil hloc G
    go_wp2
    go_ret
    obtain ⟨hb4, hr4, st4⟩ := K.out
    obtain ⟨s1, s2⟩ := S.out
    have hb5 := hb4.set 0 (.slice (some ⟨g3, 0, none⟩) (l.length + 1) cap3)
    simp only [List.setIfInBounds_toArray, List.set_cons_zero] at hb5
    have hr5 := hr4.other (p := ⟨a, 0, none⟩) (hr4.ne_blk hb4.at_ (by decide)) (.slice (some ⟨g3, 0, none⟩) (l.length + 1) cap3)
    refine ⟨rfl, _, .slice (some ⟨g3, 0, none⟩) (l.length + 1) cap3, st4.setCell (.inr hb4.mine) _, ?_, ?_⟩
    · rw [s1, s2, HE.out.2, HE.out.1]
      exact hb5
    · rw [cellsW_append, List.length_append]
      exact hr5
  · rw [if_neg hc0] at hL
    subst hL
    have k : (c != 0) = true := by simp [hc0]
    rw [if_neg hc0] at C
    have F := Lib.hid h
    clear h hi hc hz hc0
    go_enter Try.func11, Try.ntmps11
    go_wp2_with fail
    refine C.out.mono ?_
    rintro e w1 ⟨rfl, m, rfl⟩
    clear C
    go_wp2
    go_ret
    exact ⟨rfl, o, v, (Step.refl o σ w).drewN m, F.out.drewN m⟩
end
end Go.Proofs.Ytbmofcggdpjcbaa
