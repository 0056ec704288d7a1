/- The document's pile: take. -/
import Derived.Test.YtgbmpnoknmpmcaaPlRef2
namespace Go.Proofs.Ytgbmpnoknmpmcaa
open Go.RowKit
set_option linter.unusedVariables false
set_option linter.unusedSimpArgs false

section
variable {o : Nat → Nat} {σ : Nat} {w : World} {b room : Nat} {v : Value} {l : List It}
set_option maxHeartbeats 6400000 in
set_option maxRecDepth 100000 in
theorem rtake {i : Nat} {y : It} (h : Rp o σ w b room v l) (hl : l.length ≤ 1000) (hy : l[i]? = some y) :
    Calls Try.prog 27 #[.pointer (some ⟨b, 0, none⟩), .int .i64 (i : Int)] w fun e w' => e = .returned (vI y) ∧ ∃ o' v', Step o o' σ w w' ∧ Rp o' σ w' b room v' (l.eraseIdx i) := by
  have hi : i < l.length := (List.getElem?_eq_some_iff.1 hy).1
  obtain ⟨A, cap, rfl⟩ := h.row.any
  obtain ⟨hlc, hcap⟩ := h.row.caps
  have hshape := h.shape
  obtain ⟨n, hn⟩ : ∃ n, l.length = n := ⟨_, rfl⟩
  obtain ⟨src1, hs1, k1⟩ := cut_low (l := l) hshape rfl (Nat.le_of_lt hi) hlc hcap
  obtain ⟨src2, hs2, k2⟩ := cut_high (k := i + 1) (l := l) hshape rfl hi hlc hcap
  obtain ⟨yi, yk, yt⟩ := y
  obtain ⟨g, rfl, hg, d0, d1, d2⟩ := h.row.rd i _ hy
  have e1 : w.cell? ⟨b, 1, none⟩ = some (.slice (some ⟨g, 0, none⟩) n cap) := by rw [h.box.cell, ← hn]; simp
  have hbl := h.box.lt
  rw [hn] at hs1 hs2 k2 hl hlc hi hshape
  have z1 : IntKind.i64.wrap ((i : Int) + 1) = (i : Int) + 1 := by rw [IntKind.wrap_i64]; omega
  have z2 : (i : Int) < (n : Int) := by omega
  have z3 : (0 : Int) ≤ (i : Int) := by omega
  have hne1 : b ≠ w.heap.size := by omega
  have hne2 : g ≠ w.heap.size := by omega
  replace h := Lib.hid h
  replace hn := Lib.hid hn
  replace hs1 := Lib.hid hs1
  replace hs2 := Lib.hid (show ∀ w', (Instr.slice 36 (.slice (some ⟨g, 0, none⟩) n cap) (some (.int .i64 ((i : Int) + 1))) none none).run Try.prog w' = .ok src2 w' from hs2)
  clear hy hshape
  unfold vI
  simp only at d0 d1 d2 ⊢
  go_enter Try.func27, Try.ntmps27
  go_wp2
  refine wp_region_T (fun W => W.cell? ⟨b, 1, none⟩ = some (.slice (some ⟨g, 0, none⟩) n cap)) 19 (by kernel_rfl) ?_
  obtain ⟨wB, hwB⟩ : ∃ wB, wB = ((w.alloc (.cells #[.int .i64 0, .int .i64 0, .int .i64 0] 42)).alloc (.cells #[.int .i64 yi, .int .i64 yk, .int .i64 yt] 42)).drew := ⟨_, rfl⟩
  have b0 : Below w.heap.size w wB := by rw [hwB]; exact by repeat (first | exact Below.refl _ _ | refine Below.setCell ?_ (by first | omega | (simp; done) | (simp; omega)) _ | refine below_dN ?_ _ | refine Below.drew ?_ | refine Below.alloc ?_ (by first | omega | (simp; done) | (simp; omega)) _)
  have hB : w.heap.size + 1 < wB.heap.size := by rw [hwB]; simp
  have x0 : wB.heap[w.heap.size]? = some (.cells #[.int .i64 0, .int .i64 0, .int .i64 0] 42 (0, 0)) := by rw [hwB]; exact (Below.heap_alloc _ _ _ (by simp)).trans (heap_alloc_new w _)
  have x1 : wB.heap[w.heap.size + 1]? = some (.cells #[.int .i64 yi, .int .i64 yk, .int .i64 yt] 42 (0, 0)) := by
    rw [hwB]
    have := heap_alloc_new (w.alloc (.cells #[.int .i64 0, .int .i64 0, .int .i64 0] 42)) (.cells #[.int .i64 yi, .int .i64 yk, .int .i64 yt] 42)
    rw [World.size_alloc] at this
    exact this
  rw [← hwB]
  clear hwB d0 d1 d2
  have hP := h.out.below b0
  have c1 : wB.cell? ⟨b, 1, none⟩ = some (.slice (some ⟨g, 0, none⟩) n cap) := by rw [b0.cell (p := ⟨b, 1, none⟩) hbl]; exact e1
  have SW := Lib.hid (show ∀ W, Below wB.heap.size wB W → W.cell? ⟨b, 1, none⟩ = some (.slice (some ⟨g, 0, none⟩) n cap) from fun W hb => by rw [hb.cell (p := ⟨b, 1, none⟩) (by show b < _; omega)]; exact c1)
  have FW := Lib.hid (show ∀ W, Below wB.heap.size wB W → W.frozen? ⟨b, 1, none⟩ = false from fun W hb => (hP.box.below hb).frozen 1)
  have HS1 := Lib.hid (show ∀ W, Below wB.heap.size wB W → SrcI W src1 i (cellsI (l.take i)) from fun W hb => k1 W (hP.row.rd.below hb))
  have HS2 := Lib.hid (show ∀ W, Below wB.heap.size wB W → SrcI W src2 (n - (i + 1)) (cellsI (l.drop (i + 1))) from fun W hb => k2 W (hP.row.rd.below hb))
  replace hP := Lib.hid hP
  have X := Lib.hid (And.intro x0 x1)
  clear x0 x1 k1 k2 e1
  have hnl := hn.out
  replace hs1 := hs1.out
  replace hs2 := hs2.out
  refine wpAnyT_free (i := 0) (v := (.pointer (some ⟨b, 0, none⟩))) rfl (by kernel_rfl) (fun _ _ _ h => h) (Or.inl ⟨by rfl, ?_⟩) (fun _ => c1) ?_
  · intro w _; go_simp
  simp only [List.getElem_toArray, List.getElem_cons_zero, List.getElem_cons_succ, Act.put, List.setIfInBounds_toArray, List.set_cons_zero, List.set_cons_succ]
  refine wpAnyT_free (i := 2) (v := (.pointer (some ⟨b, 0, none⟩))) rfl (by kernel_rfl) (fun _ _ _ h => h) (Or.inl ⟨by rfl, ?_⟩) (fun _ => c1) ?_
  · intro w _; go_simp
  simp only [List.getElem_toArray, List.getElem_cons_zero, List.getElem_cons_succ, Act.put, List.setIfInBounds_toArray, List.set_cons_zero, List.set_cons_succ]
  refine wpAnyT_free (i := 3) (v := (.pointer (some ⟨b, 0, none⟩))) rfl (by kernel_rfl) (fun _ _ _ h => h) (Or.inl ⟨by rfl, ?_⟩) (fun _ => c1) ?_
  · intro w _; go_simp
  simp only [List.getElem_toArray, List.getElem_cons_zero, List.getElem_cons_succ, Act.put, List.setIfInBounds_toArray, List.set_cons_zero, List.set_cons_succ]
  refine wpAnyT_free (i := 4) (v := (.pointer (some ⟨b, 1, none⟩))) rfl (by kernel_rfl) (fun _ _ _ h => h) (Or.inl ⟨by rfl, ?_⟩) (fun _ => c1) ?_
  · intro w _; go_simp
  simp only [List.getElem_toArray, List.getElem_cons_zero, List.getElem_cons_succ, Act.put, List.setIfInBounds_toArray, List.set_cons_zero, List.set_cons_succ]
  refine wpAnyT_take (i := 5) (v := (.slice (some ⟨g, 0, none⟩) n cap)) rfl (by kernel_rfl) (fun _ _ _ h => h) (Or.inl ⟨by rfl, ?_⟩) c1 ?_
  · intro w hSw; go_simp
  simp only [List.getElem_toArray, List.getElem_cons_zero, List.getElem_cons_succ, Act.put, List.setIfInBounds_toArray, List.set_cons_zero, List.set_cons_succ]
  refine wpAnyT_free (i := 6) (v := (.int .i64 (i : Int))) rfl (by kernel_rfl) (fun _ _ _ h => h) (Or.inl ⟨by rfl, ?_⟩) (fun _ => c1) ?_
  · intro w _; go_simp
  simp only [List.getElem_toArray, List.getElem_cons_zero, List.getElem_cons_succ, Act.put, List.setIfInBounds_toArray, List.set_cons_zero, List.set_cons_succ]
  refine wpAnyT_free (i := 7) (v := src1) rfl (by kernel_rfl) (fun _ _ _ h => h) (Or.inl ⟨by rfl, ?_⟩) (fun _ => c1) ?_
  · intro w _; go_simp
  simp only [List.getElem_toArray, List.getElem_cons_zero, List.getElem_cons_succ, Act.put, List.setIfInBounds_toArray, List.set_cons_zero, List.set_cons_succ]
  refine wpAnyT_free (i := 9) (v := (.pointer (some ⟨b, 0, none⟩))) rfl (by kernel_rfl) (fun _ _ _ h => h) (Or.inl ⟨by rfl, ?_⟩) (fun _ => c1) ?_
  · intro w _; go_simp
  simp only [List.getElem_toArray, List.getElem_cons_zero, List.getElem_cons_succ, Act.put, List.setIfInBounds_toArray, List.set_cons_zero, List.set_cons_succ]
  refine wpAnyT_free (i := 10) (v := (.pointer (some ⟨b, 0, none⟩))) rfl (by kernel_rfl) (fun _ _ _ h => h) (Or.inl ⟨by rfl, ?_⟩) (fun _ => c1) ?_
  · intro w _; go_simp
  simp only [List.getElem_toArray, List.getElem_cons_zero, List.getElem_cons_succ, Act.put, List.setIfInBounds_toArray, List.set_cons_zero, List.set_cons_succ]
  refine wpAnyT_free (i := 11) (v := (.pointer (some ⟨b, 1, none⟩))) rfl (by kernel_rfl) (fun _ _ _ h => h) (Or.inl ⟨by rfl, ?_⟩) (fun _ => c1) ?_
  · intro w _; go_simp
  simp only [List.getElem_toArray, List.getElem_cons_zero, List.getElem_cons_succ, Act.put, List.setIfInBounds_toArray, List.set_cons_zero, List.set_cons_succ]
  refine wpAnyT_take (i := 12) (v := (.slice (some ⟨g, 0, none⟩) n cap)) rfl (by kernel_rfl) (fun _ _ _ h => h) (Or.inl ⟨by rfl, ?_⟩) c1 ?_
  · intro w hSw; go_simp
  simp only [List.getElem_toArray, List.getElem_cons_zero, List.getElem_cons_succ, Act.put, List.setIfInBounds_toArray, List.set_cons_zero, List.set_cons_succ]
  refine wpAnyT_free (i := 13) (v := (.int .i64 (i : Int))) rfl (by kernel_rfl) (fun _ _ _ h => h) (Or.inl ⟨by rfl, ?_⟩) (fun _ => c1) ?_
  · intro w _; go_simp
  simp only [List.getElem_toArray, List.getElem_cons_zero, List.getElem_cons_succ, Act.put, List.setIfInBounds_toArray, List.set_cons_zero, List.set_cons_succ]
  refine wpAnyT_free (i := 14) (v := (.int .i64 ((i : Int) + 1))) rfl (by kernel_rfl) (fun _ _ _ h => h) (Or.inl ⟨by rfl, ?_⟩) (fun _ => c1) ?_
  · intro w _; go_simp
  simp only [List.getElem_toArray, List.getElem_cons_zero, List.getElem_cons_succ, Act.put, List.setIfInBounds_toArray, List.set_cons_zero, List.set_cons_succ]
  refine wpAnyT_free (i := 15) (v := src2) rfl (by kernel_rfl) (fun _ _ _ h => h) (Or.inl ⟨by rfl, ?_⟩) (fun _ => c1) ?_
  · intro w _; go_simp
  simp only [List.getElem_toArray, List.getElem_cons_zero, List.getElem_cons_succ, Act.put, List.setIfInBounds_toArray, List.set_cons_zero, List.set_cons_succ]
  refine wpAnyT_ready (rs := [1]) (by kernel_rfl) (by simp) ?_
  refine AllT.cons rfl (fun K hK => ?_) (AllT.nil)
  go_simp
  have b1 : Below wB.heap.size wB (wB.alloc (.cells #[] 42)) := (Below.refl _ wB).alloc (Nat.le_refl _) _
  have E1 := World.ownsRow_made (base := wB.heap.size) (e := 42) (size := 3) wB #[] 0 (Nat.le_refl _) (by decide) rfl
  have n1 : wB.heap.size ≤ (wB.alloc (.cells #[] 42)).heap.size := b1.size
  generalize wB.alloc (.cells #[] 42) = w1 at *
  generalize Value.slice (some ⟨wB.heap.size, 0, none⟩) 0 0 = v1 at *
  refine hK _ _ (fun _ => SW.out _ b1) ?_
  clear hK K
  try simp only [List.getElem_toArray, List.getElem_cons_zero, List.getElem_cons_succ, Act.put, List.setIfInBounds_toArray, List.set_cons_zero, List.set_cons_succ]
  refine wpAnyT_ready (rs := [8]) (by kernel_rfl) (by simp) ?_
  refine AllT.cons rfl (fun K hK => ?_) (AllT.nil)
  obtain ⟨v2, w2, r2, E2, g2, q2⟩ := run_append_src (l := l.take i) 36 E1 (HS1.out _ b1) (by rw [List.length_take]; omega) n1 (by omega)
  have b2 := made_on b1 E1 g2 n1
  have n2 := b2.size
  refine step_append_of rfl (.tmp 14) (.tmp 20) 36 36 rfl v1 src1 (by rfl) (by rfl) r2 ?_
  refine hK _ _ (fun _ => SW.out _ b2) ?_
  clear hK K
  try simp only [List.getElem_toArray, List.getElem_cons_zero, List.getElem_cons_succ, Act.put, List.setIfInBounds_toArray, List.set_cons_zero, List.set_cons_succ]
  refine wpAnyT_ready (rs := [16]) (by kernel_rfl) (by simp) ?_
  refine AllT.cons rfl (fun K hK => ?_) (AllT.nil)
  obtain ⟨v3, w3, r3, E3, g3, q3⟩ := run_append_src (l := l.drop (i + 1)) 36 E2 (HS2.out _ b2) (by rw [List.length_drop]; omega) n2 (by omega)
  have b3 := made_on b2 E2 g3 n2
  obtain ⟨A3, c3, rfl⟩ := own_any E3
  refine step_append_of rfl (.tmp 21) (.tmp 28) 36 36 rfl v2 src2 (by rfl) (by rfl) r3 ?_
  have c3' := SW.out _ b3
  have f3 := FW.out _ b3
  refine hK _ _ (fun _ => c3') ?_
  clear hK K
  try simp only [List.getElem_toArray, List.getElem_cons_zero, List.getElem_cons_succ, Act.put, List.setIfInBounds_toArray, List.set_cons_zero, List.set_cons_succ]
  refine wpAnyT_free (i := 17) (v := (.pointer (some ⟨b, 0, none⟩))) rfl (by kernel_rfl) (fun _ _ _ h => h) (Or.inl ⟨by rfl, ?_⟩) (fun _ => c3') ?_
  · intro w _; go_simp
  simp only [List.getElem_toArray, List.getElem_cons_zero, List.getElem_cons_succ, Act.put, List.setIfInBounds_toArray, List.set_cons_zero, List.set_cons_succ]
  refine wpAnyT_free (i := 18) (v := (.pointer (some ⟨b, 1, none⟩))) rfl (by kernel_rfl) (fun _ _ _ h => h) (Or.inl ⟨by rfl, ?_⟩) (fun _ => c3') ?_
  · intro w _; go_simp
  simp only [List.getElem_toArray, List.getElem_cons_zero, List.getElem_cons_succ, Act.put, List.setIfInBounds_toArray, List.set_cons_zero, List.set_cons_succ]
  refine wpAnyT_ready (rs := [19]) (by kernel_rfl) (by simp) ?_
  refine AllT.cons rfl (fun K hK => ?_) (AllT.nil)
  have K3 := Lib.hid (And.intro b3 E3)
  clear b1 E1 n1 r2 E2 g2 q2 b2 n2 r3 g3 q3 E3 b3
  go_simp
  refine hK _ _ (fun h => absurd (h.symm.trans (by kernel_rfl)) Bool.false_ne_true) ?_
  clear hK K
  try simp only [List.getElem_toArray, List.getElem_cons_zero, List.getElem_cons_succ, Act.put, List.setIfInBounds_toArray, List.set_cons_zero, List.set_cons_succ]
  refine wpAnyT_done (by kernel_rfl) ?_ _
  obtain ⟨b3, E3⟩ := K3.out
  obtain ⟨x0, x1⟩ := X.out
  have hlen : (l.eraseIdx i).length = 0 + i + (n - (i + 1)) := by rw [List.length_eraseIdx_of_lt (by omega), hnl]; omega
  have hcl : [] ++ cellsI (l.take i) ++ cellsI (l.drop (i + 1)) = cellsI (l.eraseIdx i) := by rw [List.nil_append]; exact del_cells l i
  rw [hcl, ← hlen] at E3
  have P3 := hP.out.below b3
  have y0 := (b3.block _ (by omega : w.heap.size < wB.heap.size)).trans x0
  have y1 := (b3.block _ (by omega : w.heap.size + 1 < wB.heap.size)).trans x1
  have r0 : ∀ k, w3.cell? ⟨w.heap.size, k, none⟩ = #[Value.int .i64 0, .int .i64 0, .int .i64 0][k]? := fun k => by simp [World.cell?, y0]
  have r1 : ∀ k, w3.cell? ⟨w.heap.size + 1, k, none⟩ = #[Value.int .i64 yi, .int .i64 yk, .int .i64 yt][k]? := fun k => by simp [World.cell?, y1]
  have f0 : ∀ k, w3.frozen? ⟨w.heap.size, k, none⟩ = false := fun k => by simp [World.frozen?, y0]
  have p0 : w3.cell? ⟨w.heap.size, 0, none⟩ = some (.int .i64 0) := by rw [r0]; rfl
  have p1 : w3.cell? ⟨w.heap.size, 1, none⟩ = some (.int .i64 0) := by rw [r0]; rfl
  have p2 : w3.cell? ⟨w.heap.size, 2, none⟩ = some (.int .i64 0) := by rw [r0]; rfl
  have t0 : w3.cell? ⟨w.heap.size + 1, 0, none⟩ = some (.int .i64 yi) := by rw [r1]; rfl
  have t1 : w3.cell? ⟨w.heap.size + 1, 1, none⟩ = some (.int .i64 yk) := by rw [r1]; rfl
  have t2 : w3.cell? ⟨w.heap.size + 1, 2, none⟩ = some (.int .i64 yt) := by rw [r1]; rfl
  have B3 : Below w.heap.size w w3 := b0.trans (b3.mono (by omega))
  have G := Lib.hid (And.intro P3 (And.intro E3 (And.intro B3 hlen)))
  have hb1 : w.heap.size ≠ b := fun e => hne1 e.symm
  have hb2 : w.heap.size + 1 ≠ b := by omega
  clear K3 b3 E3 X x0 x1 hcl P3 y0 y1 r0 r1 B3 hP SW FW HS1 HS2 hs1 hs2 c1 c3' hlen
  go_wp2
  (try simp only [Exit.inBlock, Exit.then])
  refine bodyPost_ret (v := .agg #[.int .i64 yi, .int .i64 yk, .int .i64 yt]) ?_ rfl ⟨rfl, ?_⟩
  · rw [results_one rfl]; go_simp
  · obtain ⟨P3, E3, B3, hlen⟩ := G.out
    rw [show i + (n - (i + 1)) = (l.eraseIdx i).length by omega]
    have st : Step o (tag o w.heap.size σ) σ w w3 := Step.newly o σ B3 σ
    have R3 : Row (tag o w.heap.size σ) σ w3 42 3 (.slice A3 (l.eraseIdx i).length c3) (l.eraseIdx i).length (cellsI (l.eraseIdx i)) := Row.fresh (w0 := w) σ (own_from E3 (by omega)) o
    have X3 : Blk (tag o w.heap.size σ) σ w3 b #[.int .i64 (room : Int), .slice (some ⟨g, 0, none⟩) l.length cap] 38 := ⟨P3.box.at_, by rw [tag_old hbl]; exact P3.box.mine⟩
    have hmw : (Value.slice A3 (l.eraseIdx i).length c3).ownBlock ≠ some w.heap.size := fun e => by have := (E3.lt _ e).1; omega
    refine ⟨_, _, (((st.setCell (.inr X3.mine) _).setCell (.inl (Nat.le_refl _)) _).setCell (.inl (Nat.le_refl _)) _).setCell (.inl (Nat.le_refl _)) _, ((((X3.set 1 _).other hne1 _).other hne1 _).other hne1 _), ?_⟩
    exact (((R3.other (R3.ne_blk X3.at_ (by decide)) _).other hmw _).other hmw _).other hmw _
end
end Go.Proofs.Ytgbmpnoknmpmcaa
