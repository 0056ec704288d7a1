/- The contracts of Arena[string]: Free, Len. -/
import Derived.Test.YtenokhdfbomkkaaArS3
import Derived.Deep.RegionHeld3
import Derived.Deep.RegionLaw
import Derived.Deep.AppendLies
import Derived.Deep.DrawnRows
namespace Go.Proofs.Ytenokhdfbomkkaa
open Go.RowKit
set_option linter.unusedVariables false
set_option linter.unusedSimpArgs false
attribute [local go_sem ↓] Go.wp_at_zero Go.wp_at_succ

set_option maxHeartbeats 1600000 in
theorem free_no_s {o : Nat → Nat} {σ : Nat} {w : World} {a room : Nat} {vs vf : Value} {ss : List (ByteArray × Int × Bool)} {fr : List Nat} (slot gen c : Int)
    (h : ArS o σ w a room vs vf ss fr) (hc : findE room ss slot gen = c) (hc0 : c ≠ 0) (hr : room ≤ 1000) (hl : ss.length ≤ room) :
    Calls Try.prog 23 #[.pointer (some ⟨a, 0, none⟩), .agg #[.int .i64 slot, .int .i64 gen]] w (RetB (.int .i64 c) w) := by
  have C := Lib.hid (find_no_s slot gen c (h.alloc (.cells #[.int .i64 slot, .int .i64 gen] 28) 0) hc hc0 hr hl)
  clear h hc
  have hc0' : (c != 0) = true := by simp [hc0]
  go_enter Try.func23, Try.ntmps23
  go_wp2_with fail
  refine C.out.mono ?_
  rintro e w2 ⟨rfl, n, rfl⟩
  go_wp2
  go_ret
  exact ⟨rfl, by repeat (first | exact Below.refl _ _ | refine Below.setCell ?_ (by first | omega | (simp; done) | (simp; omega)) _ | refine below_dN ?_ _ | refine Below.drew ?_ | refine Below.alloc ?_ (by first | omega | (simp; done) | (simp; omega)) _)⟩
set_option maxHeartbeats 1600000 in
theorem free_yes_s {o : Nat → Nat} {σ : Nat} {w : World} {a room i : Nat} {vs vf : Value} {ss : List (ByteArray × Int × Bool)} {fr : List Nat} {sv : ByteArray} {gen : Int}
    (h : ArS o σ w a room vs vf ss fr) (hs : ss[i]? = some (sv, gen, true)) (hr : room ≤ 1000) (hl : ss.length ≤ room) (hf : fr.length ≤ 1000) :
    Calls Try.prog 23 #[.pointer (some ⟨a, 0, none⟩), .agg #[.int .i64 (i : Int), .int .i64 gen]] w fun e w' => e = .returned (.int .i64 0) ∧
      ∃ o' vs' vf', Step o o' σ w w' ∧ ArS o' σ w' a room vs' vf' (ss.set i (⟨#[]⟩, gen, false)) (fr ++ [i]) := by
  have hi : i < ss.length := (List.getElem?_eq_some_iff.1 hs).1
  obtain ⟨i0, hi0, hz0, hz1, hz2⟩ := info_parts Try.infoInt
  obtain ⟨g, cap, rfl, hc1, hc2, hog, hgl⟩ := h.rs.form (by omega)
  have q := cells3_get (mk := Value.string) ss i _ hs
  have C := Lib.hid (find_yes_s (h.alloc (.cells #[.int .i64 (i : Int), .int .i64 gen] 28) 0) hs hr hl)
  have h2 := (h.alloc (.cells #[.int .i64 (i : Int), .int .i64 gen] 28) 0).alloc (.cells #[.int .i64 (i : Int), .int .i64 gen] 28) 0
  have d0 : w.cell? ⟨g, i * 3, none⟩ = some (.string sv) := by rw [h.rs.cellAt _ (by omega)]; exact q.1
  have d1 : w.cell? ⟨g, i * 3 + 1, none⟩ = some (.int .i64 gen) := by rw [h.rs.cellAt _ (by omega)]; exact q.2.1
  have d2 : w.cell? ⟨g, i * 3 + 2, none⟩ = some (.bool true) := by rw [h.rs.cellAt _ (by omega)]; exact q.2.2
  have f0 : ∀ j, w.frozen? ⟨g, j, none⟩ = false := fun j => h.rs.frozenAt _
  replace h2 := Lib.hid h2
  clear h q
  go_enter Try.func23, Try.ntmps23
  go_wp2_with fail
  refine C.out.mono ?_
  rintro e w2 ⟨rfl, n, rfl⟩
  clear C
  go_wp2
  have h3 := (((h2.out.drewN n).setV hs ⟨#[]⟩).setG (i := i) (s := (⟨#[]⟩, gen, true)) (by simp [hi]) gen).setH (i := i) (s := (⟨#[]⟩, gen, true)) (by simp [hi]) false
  simp only [List.set_set] at h3
  have st3 := (((((((Step.refl o σ w).alloc 0 (.cells #[.int .i64 (i : Int), .int .i64 gen] 28)).alloc 0 (.cells #[.int .i64 (i : Int), .int .i64 gen] 28)).drewN n).setCell (p := ⟨g, i * 3, none⟩) (.inr (by simpa using h2.out.rs.mine g rfl)) (.string ⟨#[]⟩)).setCell (p := ⟨g, i * 3 + 1, none⟩) (.inr (by simpa using h2.out.rs.mine g rfl)) (.int .i64 gen)).setCell (p := ⟨g, i * 3 + 2, none⟩) (.inr (by simpa using h2.out.rs.mine g rfl)) (.bool false))
  have hng : w.heap.size ≠ g := by omega
  have hb3 := ((((Blk.made o 0 w #[.int .i64 (i : Int), .int .i64 gen] 28).alloc (.cells #[.int .i64 (i : Int), .int .i64 gen] 28) 0).drewN n).other (p := ⟨g, i * 3, none⟩) hng (.string ⟨#[]⟩)).other (p := ⟨g, i * 3 + 1, none⟩) hng (.int .i64 gen) |>.other (p := ⟨g, i * 3 + 2, none⟩) hng (.bool false)
  generalize (((((((w.alloc (.cells #[.int .i64 (i : Int), .int .i64 gen] 28)).alloc (.cells #[.int .i64 (i : Int), .int .i64 gen] 28)).drewN n).setCell ⟨g, i * 3, none⟩ (.string ⟨#[]⟩)).setCell ⟨g, i * 3 + 1, none⟩ (.int .i64 gen)).setCell ⟨g, i * 3 + 2, none⟩ (.bool false))) = wX at *
  generalize (tag (tag o w.heap.size 0) (w.alloc (.cells #[.int .i64 (i : Int), .int .i64 gen] 28)).heap.size 0) = o3 at *
  clear d0 d1 d2 f0 h2
  obtain ⟨Af, cf, rfl⟩ := h3.rf.any
  have c2 : wX.cell? ⟨a, 2, none⟩ = some (.slice Af fr.length cf) := by rw [h3.box.cell]; simp
  have f2 : wX.frozen? ⟨a, 2, none⟩ = false := h3.box.frozen 2
  have f2a : ∀ x, (wX.alloc x).frozen? ⟨a, 2, none⟩ = false := fun x => (h3.box.alloc x 0).frozen 2
  have c2a : ∀ x, (wX.alloc x).cell? ⟨a, 2, none⟩ = some (.slice Af fr.length cf) := fun x => by rw [(h3.box.alloc x 0).cell]; simp
  have b0 : wX.cell? ⟨w.heap.size, 0, none⟩ = some (.int .i64 (i : Int)) := by rw [hb3.cell]; simp
  have hra : some a ≠ (Value.slice Af fr.length cf).ownBlock := fun e => h3.rf.ne_blk h3.box.at_ (by decide) e.symm
  have hrb : some w.heap.size ≠ (Value.slice Af fr.length cf).ownBlock := fun e => h3.rf.ne_blk hb3.at_ (by decide) e.symm
  have hla := h3.box.lt
  have hlb := hb3.lt
  have F := Lib.hid (And.intro h3 st3)
  have R := Lib.hid h3.rf.own
  clear h3 st3 hb3
  go_region_law
    ((refine step_append_lies _ (by rfl) _ _ 46 (by rfl) 0 3 i0 (.int .i64 0) 1 8 Try.underlying46 hi0 hz0 hz1 hz2 rfl (by decide) (.slice Af fr.length cf) fr.length (natCells fr) (by rfl) ((R.out).alloc _) ⟨wX.heap.size, 0, none⟩ 1 1 [.int .i64 (i : Int)] (by rfl) rfl (news_one _ _ _) (one_int _) (by omega) (by unfold maxLen; omega) (by omega) (Nat.zero_le _) (wX.heap.size + 1) (by simp) ?_; intro gn capn w1 hown hgrow hat hlt; have hca := (hgrow.cell_far ⟨a, 2, none⟩ (by simp; omega) hra).trans (c2a _); have hfa := (hgrow.frozen_far ⟨a, 2, none⟩ (by simp; omega) hra).trans (f2a _)))
  all_goals
    go_wp2
    go_ret
    obtain ⟨h3, st3⟩ := F.out
    have h4 := h3.alloc (.cells #[.int .i64 (i : Int)] 3) σ
    have st4 := st3.alloc σ (.cells #[.int .i64 (i : Int)] 3)
    have st5 := st4.grown (w'' := w1) ⟨hgrow.os, hgrow.tape, hgrow.output, hgrow.size, hgrow.block⟩ (fun k hk => .inr (h4.rf.mine k hk)) σ
    have hb5 := h4.box.grown (w' := w1) ⟨hgrow.os, hgrow.tape, hgrow.output, hgrow.size, hgrow.block⟩ (fun e => hra e.symm) σ
    have hs5 := h4.rs.grown (w' := w1) ⟨hgrow.os, hgrow.tape, hgrow.output, hgrow.size, hgrow.block⟩ (fun k hk => h4.rs.ne_row h4.rf (by decide) k hk) σ
    have hf5 := h4.rf.appended hown (by rcases hat with hat | hat
                                        · exact .inl hat.symm
                                        · exact .inr (by rw [hat]; simp [Value.ownBlock]))
    refine ⟨rfl, _, .slice (some ⟨g, 0, none⟩) ss.length cap, _, st5.setCell (.inr hb5.mine) _, hb5.set 2 _, hs5.other (hs5.ne_blk hb5.at_ (by decide)) _, ?_⟩
    have := hf5.other (p := ⟨a, 2, none⟩) (hf5.ne_blk hb5.at_ (by decide)) (.slice (some ⟨gn, 0, none⟩) (fr.length + 1) capn)
    rw [natCells_append, List.length_append]
    exact this
end Go.Proofs.Ytenokhdfbomkkaa
