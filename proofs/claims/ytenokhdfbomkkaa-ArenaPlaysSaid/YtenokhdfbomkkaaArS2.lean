/- The contracts of Arena[string]: New, Put. -/
import Derived.Test.YtenokhdfbomkkaaArS1
namespace Go.Proofs.Ytenokhdfbomkkaa
open Go.RowKit
set_option linter.unusedVariables false
set_option linter.unusedSimpArgs false

set_option maxHeartbeats 1600000 in
theorem put_with_s {o : Nat → Nat} {σ : Nat} {w : World} {a room p : Nat} {vs vf : Value} {ss ss' : List (ByteArray × Int × Bool)} {fr fr' : List Nat} {s : ByteArray × Int × Bool} (v : ByteArray)
    (h : ArS o σ w a room vs vf ss fr)
    (hT : ∀ o1 w1, ArS o1 σ w1 a room vs vf ss fr → Calls Try.prog 30 #[.pointer (some ⟨a, 0, none⟩)] w1 fun e w' => e = .returned (.tuple #[.int .i64 (p : Int), .bool true]) ∧
      ∃ o' vs' vf', Step o1 o' σ w1 w' ∧ ArS o' σ w' a room vs' vf' ss' fr')
    (hp : ss'[p]? = some s) (hg0 : 0 ≤ s.2.1) (hg1 : s.2.1 ≤ 1000000) (hl : ss'.length ≤ 1000) :
    Calls Try.prog 17 #[.pointer (some ⟨a, 0, none⟩), .string v] w fun e w' => e = .returned (.tuple #[.agg #[.int .i64 (p : Int), .int .i64 (s.2.1 + 1)], .int .i64 0]) ∧
      ∃ o' vs' vf', Step o o' σ w w' ∧ ArS o' σ w' a room vs' vf' (ss'.set p (v, s.2.1 + 1, true)) fr' := by
  have hpl : p < ss'.length := (List.getElem?_eq_some_iff.1 hp).1
  obtain ⟨sv, sg, sh⟩ := s
  simp only at hg0 hg1 ⊢
  replace hT := Lib.hid hT
  replace h := Lib.hid h
  go_enter Try.func17, Try.ntmps17
  go_wp2_with fail
  refine (hT.out _ _ (h.out.alloc _ (σ + 1))).mono ?_
  rintro e w2 ⟨rfl, o2, vs2, vf2, st2, h2⟩
  have hbx := (Blk.made o (σ + 1) w #[.int .i64 0, .int .i64 0] 28).step st2 (by omega)
  obtain ⟨g, cap, rfl, hc1, hc2, hog, hgl⟩ := h2.rs.form (by omega)
  have c1 : w2.cell? ⟨a, 1, none⟩ = some (.slice (some ⟨g, 0, none⟩) ss'.length cap) := by rw [h2.box.cell]; simp
  have q := cells3_get (mk := Value.string) ss' p _ hp
  have d0 : w2.cell? ⟨g, p * 3, none⟩ = some (.string sv) := by rw [h2.rs.cellAt _ (by omega)]; exact q.1
  have d1 : w2.cell? ⟨g, p * 3 + 1, none⟩ = some (.int .i64 sg) := by rw [h2.rs.cellAt _ (by omega)]; exact q.2.1
  have d2 : w2.cell? ⟨g, p * 3 + 2, none⟩ = some (.bool sh) := by rw [h2.rs.cellAt _ (by omega)]; exact q.2.2
  have f0 : ∀ j, w2.frozen? ⟨g, j, none⟩ = false := fun j => h2.rs.frozenAt j
  have b0 : w2.cell? ⟨w.heap.size, 0, none⟩ = some (.int .i64 0) := by rw [hbx.cell]; simp
  have b1 : w2.cell? ⟨w.heap.size, 1, none⟩ = some (.int .i64 0) := by rw [hbx.cell]; simp
  have k0 : ∀ j, w2.frozen? ⟨w.heap.size, j, none⟩ = false := fun j => hbx.frozen j
  have hgw : g ≠ w.heap.size := fun e => by have := hbx.mine; rw [← e, hog] at this; omega
  have F := Lib.hid (And.intro h2 (And.intro st2 hbx))
  clear h2 st2 hbx q
  unfold maxLen at hc2
  go_wp2
  (try simp only [Exit.inBlock, Exit.then])
  obtain ⟨h2, st2, hbx⟩ := F.out
  have hga : (Value.slice (some ⟨g, 0, none⟩) ss'.length cap).ownBlock ≠ some a := h2.rs.ne_blk h2.box.at_ (by decide)
  have hga' : a ≠ g := fun e => hga (by rw [e]; rfl)
  have haw : a ≠ w.heap.size := fun e => by have := hbx.mine; rw [← e, h2.box.mine] at this; omega
  have hgw2 : (Value.slice (some ⟨g, 0, none⟩) ss'.length cap).ownBlock ≠ some w.heap.size := fun e => hgw (by cases e; rfl)
  have hfg : vf2.ownBlock ≠ some g := fun e => h2.rf.ne_row h2.rs (by decide) g e rfl
  have hfw : vf2.ownBlock ≠ some w.heap.size := fun e => by have := h2.rf.mine _ e; rw [hbx.mine] at this; omega
  refine bodyPost_ret (v := .tuple #[.agg #[.int .i64 (p : Int), .int .i64 (sg + 1)], .int .i64 0]) ?_ rfl ⟨rfl, o2, .slice (some ⟨g, 0, none⟩) ss'.length cap, vf2, ?_, ?_⟩
  · rw [results_cell_tmp rfl]; go_simp
  · exact (((((((Step.refl o σ w).alloc (σ + 1) _).trans st2).setCell (.inr hog) _).setCell (.inr hog) _).setCell (.inr hog) _).setCell (.inl (Nat.le_refl _)) _).setCell (.inl (Nat.le_refl _)) _
  · refine ⟨((((h2.box.other hga' _).other hga' _).other hga' _).other haw _).other haw _, ?_, ((((h2.rf.other hfg _).other hfg _).other hfg _).other hfw _).other hfw _⟩
    have hr := ((((h2.rs.set (p * 3) (.string v)).set (p * 3 + 2) (.bool true)).set (p * 3 + 1) (.int .i64 (sg + 1))).other (p := ⟨w.heap.size, 0, none⟩) hgw2 (.int .i64 (p : Int))).other (p := ⟨w.heap.size, 1, none⟩) hgw2 (.int .i64 (sg + 1))
    rw [cells3_put ss' p _ hp] at hr
    rw [List.length_set]
    exact hr
theorem put_pop_s {o : Nat → Nat} {σ : Nat} {w : World} {a room p : Nat} {vs vf : Value} {ss : List (ByteArray × Int × Bool)} {fr : List Nat} {s : ByteArray × Int × Bool} (v : ByteArray)
    (h : ArS o σ w a room vs vf ss (fr ++ [p])) (hp : ss[p]? = some s) (hg0 : 0 ≤ s.2.1) (hg1 : s.2.1 ≤ 1000000) (hl : ss.length ≤ 1000) (hf : fr.length ≤ 1000) :
    Calls Try.prog 17 #[.pointer (some ⟨a, 0, none⟩), .string v] w fun e w' => e = .returned (.tuple #[.agg #[.int .i64 (p : Int), .int .i64 (s.2.1 + 1)], .int .i64 0]) ∧
      ∃ o' vs' vf', Step o o' σ w w' ∧ ArS o' σ w' a room vs' vf' (ss.set p (v, s.2.1 + 1, true)) fr :=
  put_with_s v h (fun o1 w1 h1 => take_pop_s h1 hf) hp hg0 hg1 hl
theorem put_new_s {o : Nat → Nat} {σ : Nat} {w : World} {a room : Nat} {vs vf : Value} {ss : List (ByteArray × Int × Bool)} (v : ByteArray)
    (h : ArS o σ w a room vs vf ss []) (hl : ss.length < room) (hr : room ≤ 1000) :
    Calls Try.prog 17 #[.pointer (some ⟨a, 0, none⟩), .string v] w fun e w' => e = .returned (.tuple #[.agg #[.int .i64 (ss.length : Int), .int .i64 1], .int .i64 0]) ∧
      ∃ o' vs' vf', Step o o' σ w w' ∧ ArS o' σ w' a room vs' vf' (ss ++ [(v, 1, true)]) [] := by
  have hq := put_with_s (s := (⟨#[]⟩, 0, false)) v h (fun o1 w1 h1 => take_new_s h1 hl hr) (by simp) (by simp) (by simp) (by simp; omega)
  simpa using hq
set_option maxHeartbeats 1600000 in
theorem put_full_s {o : Nat → Nat} {σ : Nat} {w : World} {a room : Nat} {vs vf : Value} {ss : List (ByteArray × Int × Bool)} (v : ByteArray)
    (h : ArS o σ w a room vs vf ss []) (hl : ss.length = room) (hr : room ≤ 1000) :
    Calls Try.prog 17 #[.pointer (some ⟨a, 0, none⟩), .string v] w (RetB (.tuple #[.agg #[.int .i64 0, .int .i64 0], .int .i64 6]) w) := by
  have C := Lib.hid (take_full_s (h.alloc (.cells #[.int .i64 0, .int .i64 0] 28) 0) hl hr)
  clear h
  go_enter Try.func17, Try.ntmps17
  go_wp2_with fail
  refine C.out.mono ?_
  rintro e w2 ⟨rfl, n, rfl⟩
  go_wp2
  (try simp only [Exit.inBlock, Exit.then])
  refine bodyPost_ret (v := .tuple #[.agg #[.int .i64 0, .int .i64 0], .int .i64 6]) ?_ rfl ⟨rfl, ?_⟩
  · rw [results_cell_tmp rfl]; go_simp
  · exact by repeat (first | exact Below.refl _ _ | refine Below.setCell ?_ (by first | omega | (simp; done) | (simp; omega)) _ | refine below_dN ?_ _ | refine Below.drew ?_ | refine Below.alloc ?_ (by first | omega | (simp; done) | (simp; omega)) _)
set_option maxHeartbeats 800000 in
theorem new_bad_s (w : World) (r : Int) (h : r < 1 ∨ 1000 < r) : Calls Try.prog 16 #[.int .i64 r] w fun e w' => e = .returned (.tuple #[.pointer none, .int .i64 1]) ∧ w' = w := by
  go_enter Try.func16, Try.ntmps16
  by_cases h1 : r < 1
  · go_wp2
    go_ret2
    exact ⟨rfl, rfl⟩
  · have h1' : decide (r < 1) = false := decide_eq_false h1
    have h2 : r > 1000 := by omega
    clear h
    go_wp2
    go_ret2
    exact ⟨rfl, rfl⟩
set_option maxHeartbeats 800000 in
theorem new_s (o : Nat → Nat) (σ : Nat) (w : World) (room : Nat) (h0 : 1 ≤ room) (h1 : room ≤ 1000) : Calls Try.prog 16 #[.int .i64 (room : Int)] w fun e w' => e = .returned (.tuple #[.pointer (some ⟨w.heap.size, 0, none⟩), .int .i64 0]) ∧
    ∃ o' vs vf, Step o o' σ w w' ∧ ArS o' σ w' w.heap.size room vs vf [] [] := by
  go_enter Try.func16, Try.ntmps16
  have h0' : decide ((room : Int) < 1) = false := decide_eq_false (by omega)
  have h1' : decide ((room : Int) > 1000) = false := decide_eq_false (by omega)
  go_wp2
  go_ret2
  exact ⟨rfl, _, _, _, (Step.refl o σ w).alloc σ _, Blk.made o σ w _ _, Row.nil _ _ _ _ _, Row.nil _ _ _ _ _⟩
end Go.Proofs.Ytenokhdfbomkkaa
