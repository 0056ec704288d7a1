/- The document's queue: Set. -/
import Derived.Test.YtbejmboedjfllaaDlRef2
namespace Go.Proofs.Ytbejmboedjfllaa
open Go.RowKit
set_option linter.unusedVariables false
set_option linter.unusedSimpArgs false

section
variable {o : Nat → Nat} {σ : Nat} {w : World} {b room now : Nat} {v : Value} {l : List Tm}
theorem src_one {W : World} {B : Nat} {x : Tm} {t : TypeId} (h : W.heap[B]? = some (.cells #[.int .i64 x.1, .int .i64 x.2] t (0, 0))) : SrcT W (.slice (some ⟨B, 0, none⟩) 1 1) 1 (cellsT [x]) :=
  .inr ⟨⟨B, 0, none⟩, 1, rfl, fun j u hj => by
    rw [Addr.add_lit, Nat.zero_add]
    have : W.cell? ⟨B, j, none⟩ = #[Value.int .i64 x.1, .int .i64 x.2][j]? := by simp [World.cell?, h]
    rw [this]
    simpa [cellsT] using hj⟩
theorem row_src {o : Nat → Nat} {σ : Nat} {W : World} {v : Value} {m : List Tm} (h : Row o σ W 57 2 v m.length (cellsT m)) : SrcT W v m.length (cellsT m) := by
  rcases h.own.2 with ⟨rfl, h0⟩ | ⟨g, cap, cur, rfl, _⟩
  · obtain rfl : m = [] := List.eq_nil_of_length_eq_zero h0
    exact .inl ⟨rfl, rfl, rfl⟩
  · exact .inr ⟨⟨g, 0, none⟩, cap, rfl, fun j u hj => by
      rw [Addr.add_lit, Nat.zero_add]
      exact rd_cell h.rdT hj⟩
theorem rset_shut {o2 : Nat → Nat} {w2 wB W : World} {A3 : Option Addr} {d3 : Nat} {M : List Tm} {x : Tm} (st : Step o o2 σ w w2) (h : Rq o2 σ w2 b room now v M) (b0 : Below w2.heap.size w2 wB) (hB : w2.heap.size = wB.heap.size) (hb : Below wB.heap.size wB W)
    (hE : W.ownsRow wB.heap.size 57 2 (.slice A3 (0 + M.length + 1) d3) (0 + M.length + 1) ([] ++ cellsT M ++ cellsT [x])) :
    ∃ o' v', Step o o' σ w (W.setCell ⟨b, 2, none⟩ (.slice A3 (M.length + 1) d3)) ∧ Rq o' σ (W.setCell ⟨b, 2, none⟩ (.slice A3 (M.length + 1) d3)) b room now v' (M ++ [x]) := by
  rw [List.nil_append, ← cellsT_append, Nat.zero_add] at hE
  obtain ⟨o', v', s, r⟩ := rq_shut h b0 hB hb hE (by simp)
  exact ⟨o', v', st.trans s, r⟩
set_option maxHeartbeats 12800000 in
set_option maxRecDepth 100000 in
theorem rset (id after c : Int) (L : List Tm) (h : Rq o σ w b room now v l) (hi : QInv room now l) (hn : now ≤ 1000000) (hc : setE room l id after = c) (hL : setL room now l id after = L) :
    Calls Try.prog 15 #[.pointer (some ⟨b, 0, none⟩), .int .i64 id, .int .i64 after] w fun e w' => e = .returned (.int .i64 c) ∧ ∃ o' v', Step o o' σ w w' ∧ Rq o' σ w' b room now v' L := by
  have hl := Nat.le_trans hi.le hi.room2
  unfold setE at hc
  unfold setL at hL
  by_cases h1 : after < 1 ∨ 10000 < after
  · rw [if_pos h1] at hc hL
    subst hc hL
    replace h := Lib.hid h
    clear hi
    go_enter Try.func15, Try.ntmps15
    by_cases k1 : after < 1
    · go_wp2
      go_ret
      first | exact ⟨rfl, o, v, Step.refl o σ w, h.out⟩ | exact ⟨rfl, o, Step.refl o σ w, v, h.out⟩
    · have k1' : decide (after < 1) = false := decide_eq_false k1
      have k2 : after > 10000 := by omega
      clear h1
      go_wp2
      go_ret
      first | exact ⟨rfl, o, v, Step.refl o σ w, h.out⟩ | exact ⟨rfl, o, Step.refl o σ w, v, h.out⟩
  rw [if_neg h1] at hc hL
  have k1' : decide (after < 1) = false := decide_eq_false (by omega)
  have k2' : decide (after > 10000) = false := decide_eq_false (by omega)
  obtain ⟨r, hr⟩ : ∃ r, stopB l id = r := ⟨_, rfl⟩
  obtain ⟨M, hM⟩ : ∃ M, stopL l id = M := ⟨_, rfl⟩
  have hMl : M.length ≤ 1000 := by rw [← hM]; exact Nat.le_trans (stopL_sub l id).length_le hl
  obtain ⟨lx, hlx⟩ : ∃ lx, leftV now l id = (lx, r) := by
    unfold stopB at hr
    unfold leftV
    cases hf : l.findIdx? (isId id) with
    | none => rw [hf] at hr; simp at hr; subst hr; exact ⟨_, rfl⟩
    | some i => rw [hf] at hr; simp at hr; subst hr; exact ⟨_, rfl⟩
  have C1 := Lib.hid (rleft id lx r h hi hn hlx)
  have C2 := Lib.hid (fun (w' : World) (h' : Rq o σ w' b room now v l) => rstop id r M h' hl hr hM)
  obtain ⟨A0, cap0, rfl⟩ := h.row.any
  have c0 : w.cell? ⟨b, 0, none⟩ = some (.int .i64 (room : Int)) := by rw [h.box.cell]; simp
  have c2 : w.cell? ⟨b, 2, none⟩ = some (.slice A0 l.length cap0) := by rw [h.box.cell]; simp
  rw [hr] at hc hL
  rw [hM] at hL
  have hz : IntKind.i64.wrap ((now : Int) + after) = (now : Int) + after := by rw [IntKind.wrap_i64]; omega
  have hle := hi.le
  replace h := Lib.hid h
  clear hi h1 hr hM hlx
  by_cases hfull : r = false ∧ l.length = room
  · obtain ⟨rfl, hroom⟩ := hfull
    rw [if_pos ⟨rfl, hroom⟩] at hc hL
    subst hc hL
    have e1 : (l.length : Int) ≥ (room : Int) := by omega
    clear hroom C2
    go_enter Try.func15, Try.ntmps15
    go_wp2_with fail
    refine C1.out.mono ?_
    rintro e w' ⟨rfl, n1, rfl⟩
    go_wp2
    go_quiet (fail)
    go_wp2
    go_ret
    first | exact ⟨rfl, o, _, (Step.refl o σ w).drewN _ |>.drewN _, (h.out.drewN _).drewN _⟩ | exact ⟨rfl, o, ((Step.refl o σ w).drewN _).drewN _, _, (h.out.drewN _).drewN _⟩ | exact ⟨rfl, o, _, (Step.refl o σ w).drewN _, h.out.drewN _⟩ | exact ⟨rfl, o, (Step.refl o σ w).drewN _, _, h.out.drewN _⟩
  rw [if_neg hfull] at hc hL
  subst hc hL
  have hcase : r = true ∨ (r = false ∧ decide ((l.length : Int) ≥ (room : Int)) = false ∧ decide ((room : Int) ≤ (l.length : Int)) = false ∧ decide (room ≤ l.length) = false) := by
    cases r with
    | true => exact .inl rfl
    | false => exact .inr ⟨rfl, decide_eq_false (fun e => hfull ⟨rfl, by omega⟩), decide_eq_false (fun e => hfull ⟨rfl, by omega⟩), decide_eq_false (fun e => hfull ⟨rfl, by omega⟩)⟩
  clear hfull hle
  rcases hcase with rfl | ⟨rfl, e1, e2, e3⟩
  all_goals
    as_aux_lemma =>
      go_enter Try.func15, Try.ntmps15
      go_wp2_with fail
      refine C1.out.mono ?_
      rintro e w' ⟨rfl, n1, rfl⟩
      go_wp2
      go_quiet (fail)
      go_wp2_with fail
      refine (C2.out _ ?_).mono ?_
      · first | exact (h.out.drewN _).drewN _ | exact h.out.drewN _
      rintro e w2 ⟨rfl, o2, v2, st2, h2⟩
      replace st2 : Step o o2 σ w w2 := by first | exact (((Step.refl o σ w).drewN _).drewN _).trans st2 | exact ((Step.refl o σ w).drewN _).trans st2
      obtain ⟨A, cap, rfl⟩ := h2.row.any
      have BW0 : Below w2.heap.size w2 w2.drew := Below.drew (Below.refl _ _)
      replace h2 := Lib.hid h2
      replace st2 := Lib.hid st2
      clear C1 C2 c0 c2 h
      go_wp2
      refine wp_region_T (fun W => W.cell? ⟨b, 1, none⟩ = some (.int .i64 (now : Int)) ∧ W.cell? ⟨b, 2, none⟩ = some (.slice A M.length cap)) 19 (by kernel_rfl) ?_
      have hBs : w2.heap.size = w2.drew.heap.size := rfl
      generalize w2.drew = wB at *
      have hP := h2.out.below BW0
      have SW := Lib.hid (show ∀ W, Below wB.heap.size wB W → W.cell? ⟨b, 1, none⟩ = some (.int .i64 (now : Int)) ∧ W.cell? ⟨b, 2, none⟩ = some (.slice A M.length cap) from fun W hb => ⟨by rw [(hP.box.below hb).cell]; rfl, by rw [(hP.box.below hb).cell]; rfl⟩)
      have FW := Lib.hid (show ∀ W, Below wB.heap.size wB W → W.frozen? ⟨b, 2, none⟩ = false from fun W hb => (hP.box.below hb).frozen 2)
      have HS1 := Lib.hid (show ∀ W, Below wB.heap.size wB W → SrcT W (.slice A M.length cap) M.length (cellsT M) from fun W hb => row_src (hP.row.below hb))
      have BW := Lib.hid BW0
      have bB : Below wB.heap.size wB wB := Below.refl _ _
      have nB : wB.heap.size ≤ wB.heap.size := Nat.le_refl _
      have c1 := SW.out _ bB
      clear hP BW0
      refine wpAnyT_free (i := 0) (v := (.pointer (some ⟨b, 0, none⟩))) rfl (by kernel_rfl) (fun _ _ _ h => h) (Or.inl ⟨by rfl, ?_⟩) (fun _ => c1) ?_
      · intro w _; go_simp
      try simp only [List.getElem_toArray, List.getElem_cons_zero, List.getElem_cons_succ, Act.put, List.setIfInBounds_toArray, List.set_cons_zero, List.set_cons_succ]
      refine wpAnyT_free (i := 2) (v := (.pointer (some ⟨b, 0, none⟩))) rfl (by kernel_rfl) (fun _ _ _ h => h) (Or.inl ⟨by rfl, ?_⟩) (fun _ => c1) ?_
      · intro w _; go_simp
      try simp only [List.getElem_toArray, List.getElem_cons_zero, List.getElem_cons_succ, Act.put, List.setIfInBounds_toArray, List.set_cons_zero, List.set_cons_succ]
      refine wpAnyT_free (i := 3) (v := (.pointer (some ⟨b, 0, none⟩))) rfl (by kernel_rfl) (fun _ _ _ h => h) (Or.inl ⟨by rfl, ?_⟩) (fun _ => c1) ?_
      · intro w _; go_simp
      try simp only [List.getElem_toArray, List.getElem_cons_zero, List.getElem_cons_succ, Act.put, List.setIfInBounds_toArray, List.set_cons_zero, List.set_cons_succ]
      refine wpAnyT_free (i := 4) (v := (.pointer (some ⟨b, 2, none⟩))) rfl (by kernel_rfl) (fun _ _ _ h => h) (Or.inl ⟨by rfl, ?_⟩) (fun _ => c1) ?_
      · intro w _; go_simp
      try simp only [List.getElem_toArray, List.getElem_cons_zero, List.getElem_cons_succ, Act.put, List.setIfInBounds_toArray, List.set_cons_zero, List.set_cons_succ]
      refine wpAnyT_take (i := 5) (v := (.slice A M.length cap)) rfl (by kernel_rfl) (fun _ _ _ h => h) (Or.inl ⟨by rfl, ?_⟩) c1 ?_
      · intro w hSw; obtain ⟨s0, s1⟩ := hSw; go_simp
      try simp only [List.getElem_toArray, List.getElem_cons_zero, List.getElem_cons_succ, Act.put, List.setIfInBounds_toArray, List.set_cons_zero, List.set_cons_succ]
      refine wpAnyT_free (i := 7) (v := (.int .i64 id)) rfl (by kernel_rfl) (fun _ _ _ h => h) (Or.inl ⟨by rfl, ?_⟩) (fun _ => c1) ?_
      · intro w _; go_simp
      try simp only [List.getElem_toArray, List.getElem_cons_zero, List.getElem_cons_succ, Act.put, List.setIfInBounds_toArray, List.set_cons_zero, List.set_cons_succ]
      refine wpAnyT_free (i := 8) (v := (.pointer (some ⟨b, 0, none⟩))) rfl (by kernel_rfl) (fun _ _ _ h => h) (Or.inl ⟨by rfl, ?_⟩) (fun _ => c1) ?_
      · intro w _; go_simp
      try simp only [List.getElem_toArray, List.getElem_cons_zero, List.getElem_cons_succ, Act.put, List.setIfInBounds_toArray, List.set_cons_zero, List.set_cons_succ]
      refine wpAnyT_free (i := 9) (v := (.pointer (some ⟨b, 0, none⟩))) rfl (by kernel_rfl) (fun _ _ _ h => h) (Or.inl ⟨by rfl, ?_⟩) (fun _ => c1) ?_
      · intro w _; go_simp
      try simp only [List.getElem_toArray, List.getElem_cons_zero, List.getElem_cons_succ, Act.put, List.setIfInBounds_toArray, List.set_cons_zero, List.set_cons_succ]
      refine wpAnyT_free (i := 10) (v := (.pointer (some ⟨b, 1, none⟩))) rfl (by kernel_rfl) (fun _ _ _ h => h) (Or.inl ⟨by rfl, ?_⟩) (fun _ => c1) ?_
      · intro w _; go_simp
      try simp only [List.getElem_toArray, List.getElem_cons_zero, List.getElem_cons_succ, Act.put, List.setIfInBounds_toArray, List.set_cons_zero, List.set_cons_succ]
      refine wpAnyT_take (i := 11) (v := (.int .i64 (now : Int))) rfl (by kernel_rfl) (fun _ _ _ h => h) (Or.inl ⟨by rfl, ?_⟩) c1 ?_
      · intro w hSw; obtain ⟨s0, s1⟩ := hSw; go_simp
      try simp only [List.getElem_toArray, List.getElem_cons_zero, List.getElem_cons_succ, Act.put, List.setIfInBounds_toArray, List.set_cons_zero, List.set_cons_succ]
      refine wpAnyT_free (i := 12) (v := (.int .i64 after)) rfl (by kernel_rfl) (fun _ _ _ h => h) (Or.inl ⟨by rfl, ?_⟩) (fun _ => c1) ?_
      · intro w _; go_simp
      try simp only [List.getElem_toArray, List.getElem_cons_zero, List.getElem_cons_succ, Act.put, List.setIfInBounds_toArray, List.set_cons_zero, List.set_cons_succ]
      refine wpAnyT_free (i := 13) (v := (.int .i64 ((now : Int) + after))) rfl (by kernel_rfl) (fun _ _ _ h => h) (Or.inl ⟨by rfl, ?_⟩) (fun _ => c1) ?_
      · intro w _; go_simp
      try simp only [List.getElem_toArray, List.getElem_cons_zero, List.getElem_cons_succ, Act.put, List.setIfInBounds_toArray, List.set_cons_zero, List.set_cons_succ]
      refine wpAnyT_free (i := 14) (v := (.agg #[.int .i64 id, .int .i64 ((now : Int) + after)])) rfl (by kernel_rfl) (fun _ _ _ h => h) (Or.inl ⟨by rfl, ?_⟩) (fun _ => c1) ?_
      · intro w _; go_simp
      try simp only [List.getElem_toArray, List.getElem_cons_zero, List.getElem_cons_succ, Act.put, List.setIfInBounds_toArray, List.set_cons_zero, List.set_cons_succ]
      refine wpAnyT_ready (rs := [1, 15]) (by kernel_rfl) (by simp) ?_
      refine AllT.cons rfl (fun K hK => ?_) (AllT.cons rfl (fun K hK => ?_) (AllT.nil))
      · skip
        go_simp
        have b1 := bB.alloc nB (.cells #[] 57)
        have E1 := World.ownsRow_made (base := wB.heap.size) (e := 57) (size := 2) wB #[] 0 nB (by decide) rfl
        have n1 := b1.size
        generalize wB.alloc (.cells #[] 57) = W1 at *
        generalize Value.slice (some ⟨wB.heap.size, 0, none⟩) 0 0 = v1 at *
        refine hK _ _ (fun _ => SW.out _ b1) ?_
        clear hK K
        try simp only [List.getElem_toArray, List.getElem_cons_zero, List.getElem_cons_succ, Act.put, List.setIfInBounds_toArray, List.set_cons_zero, List.set_cons_succ]
        refine wpAnyT_ready (rs := [6, 15]) (by kernel_rfl) (by simp) ?_
        refine AllT.cons rfl (fun K hK => ?_) (AllT.cons rfl (fun K hK => ?_) (AllT.nil))
        · skip
          obtain ⟨v2, W2, r2, E2, g2, q2⟩ := run_append_src (l := M) 36 E1 (HS1.out _ b1) rfl n1 (by omega)
          have b2 := made_on b1 E1 g2 n1
          have n2 := b2.size
          refine step_append_of rfl (.tmp 39) (.tmp 43) 36 36 rfl v1 (.slice A M.length cap) (by rfl) (by rfl) r2 ?_
          refine hK _ _ (fun _ => SW.out _ b2) ?_
          clear hK K
          try simp only [List.getElem_toArray, List.getElem_cons_zero, List.getElem_cons_succ, Act.put, List.setIfInBounds_toArray, List.set_cons_zero, List.set_cons_succ]
          refine wpAnyT_ready (rs := [15]) (by kernel_rfl) (by simp) ?_
          refine AllT.cons rfl (fun K hK => ?_) (AllT.nil)
          go_simp
          have b3 := b2.alloc n2 (.cells #[.int .i64 id, .int .i64 ((now : Int) + after)] 57)
          have T3 := heap_alloc_new W2 (.cells #[.int .i64 id, .int .i64 ((now : Int) + after)] 57)
          have ne3 : v2.ownBlock ≠ some W2.heap.size := fun e => absurd (E2.lt _ e).2 (Nat.lt_irrefl _)
          have E3 := E2.alloc (.cells #[.int .i64 id, .int .i64 ((now : Int) + after)] 57)
          have n3 := b3.size
          have lt3 : W2.heap.size < (W2.alloc (.cells #[.int .i64 id, .int .i64 ((now : Int) + after)] 57)).heap.size := by simp
          generalize W2.alloc (.cells #[.int .i64 id, .int .i64 ((now : Int) + after)] 57) = W3 at *
          generalize W2.heap.size = B3 at *
          refine hK _ _ (fun _ => SW.out _ b3) ?_
          clear hK K
          try simp only [List.getElem_toArray, List.getElem_cons_zero, List.getElem_cons_succ, Act.put, List.setIfInBounds_toArray, List.set_cons_zero, List.set_cons_succ]
          refine wpAnyT_ready (rs := [16]) (by kernel_rfl) (by simp) ?_
          refine AllT.cons rfl (fun K hK => ?_) (AllT.nil)
          obtain ⟨v4, W4, r4, E4, g4, q4⟩ := run_append_src (l := [(id, (now : Int) + after)]) (m := 1) 36 E3 (src_one T3) rfl n3 (by omega)
          have b4 := made_on b3 E3 g4 n3
          have n4 := b4.size
          refine step_append_of rfl (.tmp 44) (.tmp 53) 36 36 rfl v2 (.slice (some ⟨B3, 0, none⟩) 1 1) (by rfl) (by rfl) r4 ?_
          refine hK _ _ (fun _ => SW.out _ b4) ?_
          clear hK K
          try simp only [List.getElem_toArray, List.getElem_cons_zero, List.getElem_cons_succ, Act.put, List.setIfInBounds_toArray, List.set_cons_zero, List.set_cons_succ]
          obtain ⟨Az, dz, rfl⟩ := own_any E4
          have cz := SW.out _ b4
          have fz := FW.out _ b4
          refine wpAnyT_free (i := 17) (v := (.pointer (some ⟨b, 0, none⟩))) rfl (by kernel_rfl) (fun _ _ _ h => h) (Or.inl ⟨by rfl, ?_⟩) (fun _ => cz) ?_
          · intro w _; go_simp
          try simp only [List.getElem_toArray, List.getElem_cons_zero, List.getElem_cons_succ, Act.put, List.setIfInBounds_toArray, List.set_cons_zero, List.set_cons_succ]
          refine wpAnyT_free (i := 18) (v := (.pointer (some ⟨b, 2, none⟩))) rfl (by kernel_rfl) (fun _ _ _ h => h) (Or.inl ⟨by rfl, ?_⟩) (fun _ => cz) ?_
          · intro w _; go_simp
          try simp only [List.getElem_toArray, List.getElem_cons_zero, List.getElem_cons_succ, Act.put, List.setIfInBounds_toArray, List.set_cons_zero, List.set_cons_succ]
          refine wpAnyT_ready (rs := [19]) (by kernel_rfl) (by simp) ?_
          refine AllT.cons rfl (fun K hK => ?_) AllT.nil
          have KK := Lib.hid (And.intro b4 E4)
          have cz2 := cz.2
          clear b1 E1 n1 r2 E2 g2 q2 b2 n2 b3 T3 ne3 E3 n3 lt3 r4 E4 g4 q4 b4 n4 cz
          go_simp
          refine hK _ _ (fun h => absurd (h.symm.trans (by kernel_rfl)) Bool.false_ne_true) ?_
          clear hK K
          try simp only [List.getElem_toArray, List.getElem_cons_zero, List.getElem_cons_succ, Act.put, List.setIfInBounds_toArray, List.set_cons_zero, List.set_cons_succ]
          refine wpAnyT_done (by kernel_rfl) ?_ _
          go_wp2
          go_ret
          exact ⟨rfl, rset_shut st2.out h2.out BW.out hBs KK.out.1 KK.out.2⟩
        · skip
          go_simp
          have b5 := b1.alloc n1 (.cells #[.int .i64 id, .int .i64 ((now : Int) + after)] 57)
          have T5 := heap_alloc_new W1 (.cells #[.int .i64 id, .int .i64 ((now : Int) + after)] 57)
          have ne5 : v1.ownBlock ≠ some W1.heap.size := fun e => absurd (E1.lt _ e).2 (Nat.lt_irrefl _)
          have E5 := E1.alloc (.cells #[.int .i64 id, .int .i64 ((now : Int) + after)] 57)
          have n5 := b5.size
          have lt5 : W1.heap.size < (W1.alloc (.cells #[.int .i64 id, .int .i64 ((now : Int) + after)] 57)).heap.size := by simp
          generalize W1.alloc (.cells #[.int .i64 id, .int .i64 ((now : Int) + after)] 57) = W5 at *
          generalize W1.heap.size = B5 at *
          refine hK _ _ (fun _ => SW.out _ b5) ?_
          clear hK K
          try simp only [List.getElem_toArray, List.getElem_cons_zero, List.getElem_cons_succ, Act.put, List.setIfInBounds_toArray, List.set_cons_zero, List.set_cons_succ]
          refine wpAnyT_ready (rs := [6]) (by kernel_rfl) (by simp) ?_
          refine AllT.cons rfl (fun K hK => ?_) (AllT.nil)
          obtain ⟨v6, W6, r6, E6, g6, q6⟩ := run_append_src (l := M) 36 E5 (HS1.out _ b5) rfl n5 (by omega)
          have b6 := made_on b5 E5 g6 n5
          have n6 := b6.size
          have T6 := (g6.block B5 lt5 (fun e => ne5 e.symm)).trans T5
          have ne6 : v6.ownBlock ≠ some (B5) := fun e => by rcases q6 with q | q <;> rw [q] at e <;> first | exact ne5 e | (simp at e; omega)
          have lt6 := Nat.lt_of_lt_of_le lt5 g6.size
          refine step_append_of rfl (.tmp 39) (.tmp 43) 36 36 rfl v1 (.slice A M.length cap) (by rfl) (by rfl) r6 ?_
          refine hK _ _ (fun _ => SW.out _ b6) ?_
          clear hK K
          try simp only [List.getElem_toArray, List.getElem_cons_zero, List.getElem_cons_succ, Act.put, List.setIfInBounds_toArray, List.set_cons_zero, List.set_cons_succ]
          refine wpAnyT_ready (rs := [16]) (by kernel_rfl) (by simp) ?_
          refine AllT.cons rfl (fun K hK => ?_) (AllT.nil)
          obtain ⟨v7, W7, r7, E7, g7, q7⟩ := run_append_src (l := [(id, (now : Int) + after)]) (m := 1) 36 E6 (src_one T6) rfl n6 (by omega)
          have b7 := made_on b6 E6 g7 n6
          have n7 := b7.size
          refine step_append_of rfl (.tmp 44) (.tmp 53) 36 36 rfl v6 (.slice (some ⟨B5, 0, none⟩) 1 1) (by rfl) (by rfl) r7 ?_
          refine hK _ _ (fun _ => SW.out _ b7) ?_
          clear hK K
          try simp only [List.getElem_toArray, List.getElem_cons_zero, List.getElem_cons_succ, Act.put, List.setIfInBounds_toArray, List.set_cons_zero, List.set_cons_succ]
          obtain ⟨Az, dz, rfl⟩ := own_any E7
          have cz := SW.out _ b7
          have fz := FW.out _ b7
          refine wpAnyT_free (i := 17) (v := (.pointer (some ⟨b, 0, none⟩))) rfl (by kernel_rfl) (fun _ _ _ h => h) (Or.inl ⟨by rfl, ?_⟩) (fun _ => cz) ?_
          · intro w _; go_simp
          try simp only [List.getElem_toArray, List.getElem_cons_zero, List.getElem_cons_succ, Act.put, List.setIfInBounds_toArray, List.set_cons_zero, List.set_cons_succ]
          refine wpAnyT_free (i := 18) (v := (.pointer (some ⟨b, 2, none⟩))) rfl (by kernel_rfl) (fun _ _ _ h => h) (Or.inl ⟨by rfl, ?_⟩) (fun _ => cz) ?_
          · intro w _; go_simp
          try simp only [List.getElem_toArray, List.getElem_cons_zero, List.getElem_cons_succ, Act.put, List.setIfInBounds_toArray, List.set_cons_zero, List.set_cons_succ]
          refine wpAnyT_ready (rs := [19]) (by kernel_rfl) (by simp) ?_
          refine AllT.cons rfl (fun K hK => ?_) AllT.nil
          have KK := Lib.hid (And.intro b7 E7)
          have cz2 := cz.2
          clear b1 E1 n1 b5 T5 ne5 E5 n5 lt5 r6 E6 g6 q6 b6 n6 T6 ne6 lt6 r7 E7 g7 q7 b7 n7 cz
          go_simp
          refine hK _ _ (fun h => absurd (h.symm.trans (by kernel_rfl)) Bool.false_ne_true) ?_
          clear hK K
          try simp only [List.getElem_toArray, List.getElem_cons_zero, List.getElem_cons_succ, Act.put, List.setIfInBounds_toArray, List.set_cons_zero, List.set_cons_succ]
          refine wpAnyT_done (by kernel_rfl) ?_ _
          go_wp2
          go_ret
          exact ⟨rfl, rset_shut st2.out h2.out BW.out hBs KK.out.1 KK.out.2⟩
      · skip
        go_simp
        have b8 := bB.alloc nB (.cells #[.int .i64 id, .int .i64 ((now : Int) + after)] 57)
        have T8 := heap_alloc_new wB (.cells #[.int .i64 id, .int .i64 ((now : Int) + after)] 57)
        have n8 := b8.size
        have lt8 : wB.heap.size < (wB.alloc (.cells #[.int .i64 id, .int .i64 ((now : Int) + after)] 57)).heap.size := by simp
        generalize wB.alloc (.cells #[.int .i64 id, .int .i64 ((now : Int) + after)] 57) = W8 at *
        refine hK _ _ (fun _ => SW.out _ b8) ?_
        clear hK K
        try simp only [List.getElem_toArray, List.getElem_cons_zero, List.getElem_cons_succ, Act.put, List.setIfInBounds_toArray, List.set_cons_zero, List.set_cons_succ]
        refine wpAnyT_ready (rs := [1]) (by kernel_rfl) (by simp) ?_
        refine AllT.cons rfl (fun K hK => ?_) (AllT.nil)
        go_simp
        have b9 := b8.alloc n8 (.cells #[] 57)
        have E9 := World.ownsRow_made (base := wB.heap.size) (e := 57) (size := 2) W8 #[] 0 n8 (by decide) rfl
        have T9 := (Below.heap_alloc W8 (.cells #[] 57) wB.heap.size lt8).trans T8
        have ne9 : (Value.slice (some ⟨W8.heap.size, 0, none⟩) 0 0).ownBlock ≠ some (wB.heap.size) := fun e => by simp [Value.ownBlock] at e; omega
        have lt9 : wB.heap.size < (W8.alloc (.cells #[] 57)).heap.size := by simp; omega
        have n9 := b9.size
        generalize W8.alloc (.cells #[] 57) = W9 at *
        generalize Value.slice (some ⟨W8.heap.size, 0, none⟩) 0 0 = v9 at *
        refine hK _ _ (fun _ => SW.out _ b9) ?_
        clear hK K
        try simp only [List.getElem_toArray, List.getElem_cons_zero, List.getElem_cons_succ, Act.put, List.setIfInBounds_toArray, List.set_cons_zero, List.set_cons_succ]
        refine wpAnyT_ready (rs := [6]) (by kernel_rfl) (by simp) ?_
        refine AllT.cons rfl (fun K hK => ?_) (AllT.nil)
        obtain ⟨v10, W10, r10, E10, g10, q10⟩ := run_append_src (l := M) 36 E9 (HS1.out _ b9) rfl n9 (by omega)
        have b10 := made_on b9 E9 g10 n9
        have n10 := b10.size
        have T10 := (g10.block wB.heap.size lt9 (fun e => ne9 e.symm)).trans T9
        have ne10 : v10.ownBlock ≠ some (wB.heap.size) := fun e => by rcases q10 with q | q <;> rw [q] at e <;> first | exact ne9 e | (simp at e; omega)
        have lt10 := Nat.lt_of_lt_of_le lt9 g10.size
        refine step_append_of rfl (.tmp 39) (.tmp 43) 36 36 rfl v9 (.slice A M.length cap) (by rfl) (by rfl) r10 ?_
        refine hK _ _ (fun _ => SW.out _ b10) ?_
        clear hK K
        try simp only [List.getElem_toArray, List.getElem_cons_zero, List.getElem_cons_succ, Act.put, List.setIfInBounds_toArray, List.set_cons_zero, List.set_cons_succ]
        refine wpAnyT_ready (rs := [16]) (by kernel_rfl) (by simp) ?_
        refine AllT.cons rfl (fun K hK => ?_) (AllT.nil)
        obtain ⟨v11, W11, r11, E11, g11, q11⟩ := run_append_src (l := [(id, (now : Int) + after)]) (m := 1) 36 E10 (src_one T10) rfl n10 (by omega)
        have b11 := made_on b10 E10 g11 n10
        have n11 := b11.size
        refine step_append_of rfl (.tmp 44) (.tmp 53) 36 36 rfl v10 (.slice (some ⟨wB.heap.size, 0, none⟩) 1 1) (by rfl) (by rfl) r11 ?_
        refine hK _ _ (fun _ => SW.out _ b11) ?_
        clear hK K
        try simp only [List.getElem_toArray, List.getElem_cons_zero, List.getElem_cons_succ, Act.put, List.setIfInBounds_toArray, List.set_cons_zero, List.set_cons_succ]
        obtain ⟨Az, dz, rfl⟩ := own_any E11
        have cz := SW.out _ b11
        have fz := FW.out _ b11
        refine wpAnyT_free (i := 17) (v := (.pointer (some ⟨b, 0, none⟩))) rfl (by kernel_rfl) (fun _ _ _ h => h) (Or.inl ⟨by rfl, ?_⟩) (fun _ => cz) ?_
        · intro w _; go_simp
        try simp only [List.getElem_toArray, List.getElem_cons_zero, List.getElem_cons_succ, Act.put, List.setIfInBounds_toArray, List.set_cons_zero, List.set_cons_succ]
        refine wpAnyT_free (i := 18) (v := (.pointer (some ⟨b, 2, none⟩))) rfl (by kernel_rfl) (fun _ _ _ h => h) (Or.inl ⟨by rfl, ?_⟩) (fun _ => cz) ?_
        · intro w _; go_simp
        try simp only [List.getElem_toArray, List.getElem_cons_zero, List.getElem_cons_succ, Act.put, List.setIfInBounds_toArray, List.set_cons_zero, List.set_cons_succ]
        refine wpAnyT_ready (rs := [19]) (by kernel_rfl) (by simp) ?_
        refine AllT.cons rfl (fun K hK => ?_) AllT.nil
        have KK := Lib.hid (And.intro b11 E11)
        have cz2 := cz.2
        clear b8 T8 n8 lt8 b9 E9 T9 ne9 lt9 n9 r10 E10 g10 q10 b10 n10 T10 ne10 lt10 r11 E11 g11 q11 b11 n11 cz
        go_simp
        refine hK _ _ (fun h => absurd (h.symm.trans (by kernel_rfl)) Bool.false_ne_true) ?_
        clear hK K
        try simp only [List.getElem_toArray, List.getElem_cons_zero, List.getElem_cons_succ, Act.put, List.setIfInBounds_toArray, List.set_cons_zero, List.set_cons_succ]
        refine wpAnyT_done (by kernel_rfl) ?_ _
        go_wp2
        go_ret
        exact ⟨rfl, rset_shut st2.out h2.out BW.out hBs KK.out.1 KK.out.2⟩
end
end Go.Proofs.Ytbejmboedjfllaa
