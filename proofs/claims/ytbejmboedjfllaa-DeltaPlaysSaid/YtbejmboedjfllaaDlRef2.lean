/- The document's queue: Stop. -/
import Derived.Test.YtbejmboedjfllaaDlRef1
import Derived.Test.YtbejmboedjfllaaRegT
namespace Go.Proofs.Ytbejmboedjfllaa
open Go.RowKit
set_option linter.unusedVariables false
set_option linter.unusedSimpArgs false

section
variable {o : Nat → Nat} {σ : Nat} {w : World} {b room now : Nat} {v : Value} {l : List Tm}
theorem rq_shut {wB w3 : World} {A3 : Option Addr} {c3 n : Nat} {m : List Tm} (h : Rq o σ w b room now v l) (b0 : Below w.heap.size w wB) (hB : w.heap.size = wB.heap.size) (b3 : Below wB.heap.size wB w3)
    (E3 : w3.ownsRow wB.heap.size 57 2 (.slice A3 n c3) n (cellsT m)) (hn : n = m.length) :
    ∃ o' v', Step o o' σ w (w3.setCell ⟨b, 2, none⟩ (.slice A3 n c3)) ∧ Rq o' σ (w3.setCell ⟨b, 2, none⟩ (.slice A3 n c3)) b room now v' m := by
  subst hn
  have B3 : Below w.heap.size w w3 := b0.trans (by rw [hB]; exact b3)
  have P3 := h.below B3
  have st : Step o (tag o w.heap.size σ) σ w w3 := Step.newly o σ B3 σ
  have R3 : Row (tag o w.heap.size σ) σ w3 57 2 (.slice A3 m.length c3) m.length (cellsT m) := Row.fresh (w0 := w) σ (by rw [hB]; exact E3) o
  have X3 : Blk (tag o w.heap.size σ) σ w3 b #[.int .i64 (room : Int), .int .i64 (now : Int), v] 38 := ⟨P3.box.at_, by rw [tag_old h.box.lt]; exact P3.box.mine⟩
  exact ⟨_, _, st.setCell (.inr X3.mine) _, X3.set 2 _, R3.other (R3.ne_blk X3.at_ (by decide)) _⟩
theorem del_cells' (l : List Tm) (i : Nat) : cellsT (l.take i) ++ cellsT (l.drop (i + 1)) = cellsT (l.eraseIdx i) := by
  rw [← cellsT_append, List.eraseIdx_eq_take_drop_succ]
theorem rstop_shut {wB w3 : World} {A3 : Option Addr} {c3 i : Nat} (h : Rq o σ w b room now v l) (b0 : Below w.heap.size w wB) (hB : w.heap.size = wB.heap.size) (hP : Rq o σ wB b room now v l) (b3 : Below wB.heap.size wB w3)
    (E3 : w3.ownsRow wB.heap.size 57 2 (.slice A3 (0 + i + (l.length - (i + 1))) c3) (0 + i + (l.length - (i + 1))) ([] ++ cellsT (l.take i) ++ cellsT (l.drop (i + 1)))) (hi : i < l.length) :
    ∃ o' v', Step o o' σ w (w3.setCell ⟨b, 2, none⟩ (.slice A3 (i + (l.length - (i + 1))) c3)) ∧ Rq o' σ (w3.setCell ⟨b, 2, none⟩ (.slice A3 (i + (l.length - (i + 1))) c3)) b room now v' (l.eraseIdx i) := by
  rw [List.nil_append, del_cells', Nat.zero_add] at E3
  exact rq_shut h b0 hB b3 E3 (by rw [List.length_eraseIdx_of_lt hi]; omega)
set_option maxHeartbeats 6400000 in
set_option maxRecDepth 100000 in
theorem rstop (id : Int) (r : Bool) (L : List Tm) (h : Rq o σ w b room now v l) (hl : l.length ≤ 1000) (hr : stopB l id = r) (hL : stopL l id = L) :
    Calls Try.prog 17 #[.pointer (some ⟨b, 0, none⟩), .int .i64 id] w fun e w' => e = .returned (.bool r) ∧ ∃ o' v', Step o o' σ w w' ∧ Rq o' σ w' b room now v' L := by
  obtain ⟨A, cap, rfl⟩ := h.row.any
  obtain ⟨hlc, hcap⟩ := h.row.caps
  have hshape := h.shape
  have c2 : w.cell? ⟨b, 2, none⟩ = some (.slice A l.length cap) := by rw [h.box.cell]; simp
  have hR := Lib.hid h.row.rdT
  have HX := Lib.hid (And.intro hr hL)
  replace h := Lib.hid h
  replace hshape := Lib.hid hshape
  clear hr hL
  go_enter Try.func17, Try.ntmps17
  go_wp2
  go_loopw [5] (fun st wr => ∃ (i : Nat), st = .int .i64 (i : Int) ∧ i ≤ l.length ∧ (∀ z ∈ l.take i, isId id z = false) ∧ wr = w) (fun st _ => l.length - (intOf st).toNat)
  case atStart => exact ⟨0, rfl, by omega, by simp, rfl⟩
  case round =>
    obtain ⟨i, rfl, hi2, hz, rfl⟩ := hrel
    rcases Nat.lt_or_ge i l.length with hlt | hge
    · obtain ⟨⟨yi, ya⟩, hy⟩ : ∃ y, l[i]? = some y := ⟨_, List.getElem?_eq_getElem hlt⟩
      cases he : isId id (yi, ya) with
      | true =>
        have hfd := find_at hz hy he
        obtain ⟨hr, hL⟩ := HX.out
        unfold stopB at hr
        unfold stopL at hL
        rw [hfd] at hr hL
        simp only [Option.isSome] at hr hL
        subst hr
        have HL := Lib.hid hL.symm
        obtain ⟨src1, hs1, k1⟩ := cut_low (l := l) hshape.out rfl (Nat.le_of_lt hlt) hlc hcap
        obtain ⟨src2, hs2, k2⟩ := cut_high (k := i + 1) (l := l) hshape.out rfl hlt hlc hcap
        replace hs2 : ∀ w', (Instr.slice 36 (.slice A l.length cap) (some (.int .i64 ((i : Int) + 1))) none none).run Try.prog w' = .ok src2 w' := hs2
        obtain ⟨g, rfl, hg, d0, d1⟩ := hR.out i _ hy
        simp only at d0 d1
        have z1 : IntKind.i64.wrap ((i : Int) + 1) = (i : Int) + 1 := by rw [IntKind.wrap_i64]; omega
        have z2 : (i : Int) < (l.length : Int) := by omega
        have z3 : (0 : Int) ≤ (i : Int) := by omega
        have he' : (yi == id) = true := by simpa [isId] using he
        clear hfd hL hz hy he HX
        go_wp2
        refine wp_region_T (fun W => W.cell? ⟨b, 2, none⟩ = some (.slice (some ⟨g, 0, none⟩) l.length cap)) 19 (by kernel_rfl) ?_
        have b0 : Below wr.heap.size wr wr.drew := Below.drew (Below.refl _ _)
        generalize hwB : wr.drew = wB at *
        have hB : wr.heap.size = wB.heap.size := by rw [← hwB]; rfl
        clear hwB
        have hP := h.out.below b0
        have c1 : wB.cell? ⟨b, 2, none⟩ = some (.slice (some ⟨g, 0, none⟩) l.length cap) := by rw [hP.box.cell]; rfl
        have SW := Lib.hid (show ∀ W, Below wB.heap.size wB W → W.cell? ⟨b, 2, none⟩ = some (.slice (some ⟨g, 0, none⟩) l.length cap) from fun W hb => by rw [(hP.box.below hb).cell]; rfl)
        have FW := Lib.hid (show ∀ W, Below wB.heap.size wB W → W.frozen? ⟨b, 2, none⟩ = false from fun W hb => (hP.box.below hb).frozen 2)
        have HS1 := Lib.hid (show ∀ W, Below wB.heap.size wB W → SrcT W src1 i (cellsT (l.take i)) from fun W hb => k1 W (hP.row.rdT.below hb))
        have HS2 := Lib.hid (show ∀ W, Below wB.heap.size wB W → SrcT W src2 (l.length - (i + 1)) (cellsT (l.drop (i + 1))) from fun W hb => k2 W (hP.row.rdT.below hb))
        replace hP := Lib.hid hP
        clear k1 k2
        refine wpAnyT_free (i := 0) (v := (.pointer (some ⟨b, 0, none⟩))) rfl (by kernel_rfl) (fun _ _ _ h => h) (Or.inl ⟨by rfl, ?_⟩) (fun _ => c1) ?_
        · intro w _; go_simp
        try simp only [List.getElem_toArray, List.getElem_cons_zero, List.getElem_cons_succ, Act.put, List.setIfInBounds_toArray, List.set_cons_zero, List.set_cons_succ]
        refine wpAnyT_free (i := 2) (v := (.pointer (some ⟨b, 0, none⟩))) rfl (by kernel_rfl) (fun _ _ _ h => h) (Or.inl ⟨by rfl, ?_⟩) (fun _ => c1) ?_
        · intro w _; go_simp
        try simp only [List.getElem_toArray, List.getElem_cons_zero, List.getElem_cons_succ, Act.put, List.setIfInBounds_toArray, List.set_cons_zero, List.set_cons_succ]
        refine wpAnyT_free (i := 3) (v := (.pointer (some ⟨b, 0, none⟩))) rfl (by kernel_rfl) (fun _ _ _ h => h) (Or.inl ⟨by rfl, ?_⟩) (fun _ => c1) ?_
        · intro w _; go_simp
        try simp only [List.getElem_toArray, List.getElem_cons_zero, List.getElem_cons_succ, Act.put, List.setIfInBounds_toArray, List.set_cons_zero, List.set_cons_succ]
        refine wpAnyT_free (i := 4) (v := (.pointer (some ⟨b, 2, none⟩))) rfl (by kernel_rfl) (fun _ _ _ h => h) (Or.inl ⟨by rfl, ?_⟩) (fun _ => c1) ?_
        · intro w _; go_simp
        try simp only [List.getElem_toArray, List.getElem_cons_zero, List.getElem_cons_succ, Act.put, List.setIfInBounds_toArray, List.set_cons_zero, List.set_cons_succ]
        refine wpAnyT_take (i := 5) (v := (.slice (some ⟨g, 0, none⟩) l.length cap)) rfl (by kernel_rfl) (fun _ _ _ h => h) (Or.inl ⟨by rfl, ?_⟩) c1 ?_
        · intro w hSw; go_simp
        try simp only [List.getElem_toArray, List.getElem_cons_zero, List.getElem_cons_succ, Act.put, List.setIfInBounds_toArray, List.set_cons_zero, List.set_cons_succ]
        refine wpAnyT_free (i := 6) (v := (.int .i64 (i : Int))) rfl (by kernel_rfl) (fun _ _ _ h => h) (Or.inl ⟨by rfl, ?_⟩) (fun _ => c1) ?_
        · intro w _; go_simp
        try simp only [List.getElem_toArray, List.getElem_cons_zero, List.getElem_cons_succ, Act.put, List.setIfInBounds_toArray, List.set_cons_zero, List.set_cons_succ]
        refine wpAnyT_free (i := 7) (v := src1) rfl (by kernel_rfl) (fun _ _ _ h => h) (Or.inl ⟨by rfl, ?_⟩) (fun _ => c1) ?_
        · intro w _; go_simp
        try simp only [List.getElem_toArray, List.getElem_cons_zero, List.getElem_cons_succ, Act.put, List.setIfInBounds_toArray, List.set_cons_zero, List.set_cons_succ]
        refine wpAnyT_free (i := 9) (v := (.pointer (some ⟨b, 0, none⟩))) rfl (by kernel_rfl) (fun _ _ _ h => h) (Or.inl ⟨by rfl, ?_⟩) (fun _ => c1) ?_
        · intro w _; go_simp
        try simp only [List.getElem_toArray, List.getElem_cons_zero, List.getElem_cons_succ, Act.put, List.setIfInBounds_toArray, List.set_cons_zero, List.set_cons_succ]
        refine wpAnyT_free (i := 10) (v := (.pointer (some ⟨b, 0, none⟩))) rfl (by kernel_rfl) (fun _ _ _ h => h) (Or.inl ⟨by rfl, ?_⟩) (fun _ => c1) ?_
        · intro w _; go_simp
        try simp only [List.getElem_toArray, List.getElem_cons_zero, List.getElem_cons_succ, Act.put, List.setIfInBounds_toArray, List.set_cons_zero, List.set_cons_succ]
        refine wpAnyT_free (i := 11) (v := (.pointer (some ⟨b, 2, none⟩))) rfl (by kernel_rfl) (fun _ _ _ h => h) (Or.inl ⟨by rfl, ?_⟩) (fun _ => c1) ?_
        · intro w _; go_simp
        try simp only [List.getElem_toArray, List.getElem_cons_zero, List.getElem_cons_succ, Act.put, List.setIfInBounds_toArray, List.set_cons_zero, List.set_cons_succ]
        refine wpAnyT_take (i := 12) (v := (.slice (some ⟨g, 0, none⟩) l.length cap)) rfl (by kernel_rfl) (fun _ _ _ h => h) (Or.inl ⟨by rfl, ?_⟩) c1 ?_
        · intro w hSw; go_simp
        try simp only [List.getElem_toArray, List.getElem_cons_zero, List.getElem_cons_succ, Act.put, List.setIfInBounds_toArray, List.set_cons_zero, List.set_cons_succ]
        refine wpAnyT_free (i := 13) (v := (.int .i64 (i : Int))) rfl (by kernel_rfl) (fun _ _ _ h => h) (Or.inl ⟨by rfl, ?_⟩) (fun _ => c1) ?_
        · intro w _; go_simp
        try simp only [List.getElem_toArray, List.getElem_cons_zero, List.getElem_cons_succ, Act.put, List.setIfInBounds_toArray, List.set_cons_zero, List.set_cons_succ]
        refine wpAnyT_free (i := 14) (v := (.int .i64 ((i : Int) + 1))) rfl (by kernel_rfl) (fun _ _ _ h => h) (Or.inl ⟨by rfl, ?_⟩) (fun _ => c1) ?_
        · intro w _; go_simp
        try simp only [List.getElem_toArray, List.getElem_cons_zero, List.getElem_cons_succ, Act.put, List.setIfInBounds_toArray, List.set_cons_zero, List.set_cons_succ]
        refine wpAnyT_free (i := 15) (v := src2) rfl (by kernel_rfl) (fun _ _ _ h => h) (Or.inl ⟨by rfl, ?_⟩) (fun _ => c1) ?_
        · intro w _; go_simp
        try simp only [List.getElem_toArray, List.getElem_cons_zero, List.getElem_cons_succ, Act.put, List.setIfInBounds_toArray, List.set_cons_zero, List.set_cons_succ]
        refine wpAnyT_ready (rs := [1]) (by kernel_rfl) (by simp) ?_
        refine AllT.cons rfl (fun K hK => ?_) AllT.nil
        go_simp
        have b1 : Below wB.heap.size wB (wB.alloc (.cells #[] 57)) := (Below.refl _ wB).alloc (Nat.le_refl _) _
        have E1 := World.ownsRow_made (base := wB.heap.size) (e := 57) (size := 2) wB #[] 0 (Nat.le_refl _) (by decide) rfl
        have n1 : wB.heap.size ≤ (wB.alloc (.cells #[] 57)).heap.size := b1.size
        generalize wB.alloc (.cells #[] 57) = w1 at *
        generalize Value.slice (some ⟨wB.heap.size, 0, none⟩) 0 0 = v1 at *
        refine hK _ _ (fun _ => SW.out _ b1) ?_
        clear hK K
        try simp only [List.getElem_toArray, List.getElem_cons_zero, List.getElem_cons_succ, Act.put, List.setIfInBounds_toArray, List.set_cons_zero, List.set_cons_succ]
        refine wpAnyT_ready (rs := [8]) (by kernel_rfl) (by simp) ?_
        refine AllT.cons rfl (fun K hK => ?_) AllT.nil
        obtain ⟨v2, w2, r2, E2, g2, q2⟩ := run_append_src (l := l.take i) 36 E1 (HS1.out _ b1) (by rw [List.length_take]; omega) n1 (by omega)
        have b2 := made_on b1 E1 g2 n1
        have n2 := b2.size
        refine step_append_of rfl (.tmp 26) (.tmp 32) 36 36 rfl v1 src1 (by rfl) (by rfl) r2 ?_
        refine hK _ _ (fun _ => SW.out _ b2) ?_
        clear hK K
        try simp only [List.getElem_toArray, List.getElem_cons_zero, List.getElem_cons_succ, Act.put, List.setIfInBounds_toArray, List.set_cons_zero, List.set_cons_succ]
        refine wpAnyT_ready (rs := [16]) (by kernel_rfl) (by simp) ?_
        refine AllT.cons rfl (fun K hK => ?_) AllT.nil
        obtain ⟨v3, w3, r3, E3, g3, q3⟩ := run_append_src (l := l.drop (i + 1)) 36 E2 (HS2.out _ b2) (by rw [List.length_drop]) n2 (by omega)
        have b3 := made_on b2 E2 g3 n2
        obtain ⟨A3, c3, rfl⟩ := own_any E3
        refine step_append_of rfl (.tmp 33) (.tmp 40) 36 36 rfl v2 src2 (by rfl) (by rfl) r3 ?_
        have c3' := SW.out _ b3
        have f3 := FW.out _ b3
        refine hK _ _ (fun _ => c3') ?_
        clear hK K
        try simp only [List.getElem_toArray, List.getElem_cons_zero, List.getElem_cons_succ, Act.put, List.setIfInBounds_toArray, List.set_cons_zero, List.set_cons_succ]
        refine wpAnyT_free (i := 17) (v := (.pointer (some ⟨b, 0, none⟩))) rfl (by kernel_rfl) (fun _ _ _ h => h) (Or.inl ⟨by rfl, ?_⟩) (fun _ => c3') ?_
        · intro w _; go_simp
        try simp only [List.getElem_toArray, List.getElem_cons_zero, List.getElem_cons_succ, Act.put, List.setIfInBounds_toArray, List.set_cons_zero, List.set_cons_succ]
        refine wpAnyT_free (i := 18) (v := (.pointer (some ⟨b, 2, none⟩))) rfl (by kernel_rfl) (fun _ _ _ h => h) (Or.inl ⟨by rfl, ?_⟩) (fun _ => c3') ?_
        · intro w _; go_simp
        try simp only [List.getElem_toArray, List.getElem_cons_zero, List.getElem_cons_succ, Act.put, List.setIfInBounds_toArray, List.set_cons_zero, List.set_cons_succ]
        refine wpAnyT_ready (rs := [19]) (by kernel_rfl) (by simp) ?_
        refine AllT.cons rfl (fun K hK => ?_) AllT.nil
        have K3 := Lib.hid (And.intro b3 E3)
        clear b1 E1 n1 r2 E2 g2 q2 b2 n2 r3 g3 q3 E3 b3
        go_simp
        refine hK _ _ (fun h => absurd (h.symm.trans (by kernel_rfl)) Bool.false_ne_true) ?_
        clear hK K
        try simp only [List.getElem_toArray, List.getElem_cons_zero, List.getElem_cons_succ, Act.put, List.setIfInBounds_toArray, List.set_cons_zero, List.set_cons_succ]
        refine wpAnyT_done (by kernel_rfl) ?_ _
        go_wp2
        go_ret
        refine ⟨rfl, ?_⟩
        rw [HL.out]
        exact rstop_shut h.out b0 hB hP.out K3.out.1 K3.out.2 hlt
      | false =>
        obtain ⟨g, rfl, hg, d0, d1⟩ := hR.out i _ hy
        simp only at d0 d1
        have F2 := Lib.hid (takeP_next hz hy he)
        have he' : (yi == id) = false := by simpa [isId] using he
        clear he hz hy
        go_wp2
        go_roundw
        case rel => exact ⟨i + 1, by simp, by omega, F2.out, by first | rfl | trivial⟩
        case measure => simp [intOf]; omega
    · obtain rfl : i = l.length := by omega
      rw [List.take_length] at hz
      have hfd := find_out hz
      obtain ⟨hr, hL⟩ := HX.out
      unfold stopB at hr
      unfold stopL at hL
      rw [hfd] at hr hL
      simp only [Option.isSome] at hr hL
      subst hr
      have HL := Lib.hid hL.symm
      clear hz hfd hL HX
      go_wp2
      go_ret
      rw [HL.out]
      first | exact ⟨rfl, o, _, Step.refl o σ _, h.out⟩ | exact ⟨rfl, o, Step.refl o σ _, _, h.out⟩
end
end Go.Proofs.Ytbejmboedjfllaa
