/- The calls of a queue: Tick. -/
import Derived.Test.YtbejmboedjfllaaDlSet
namespace Go.Proofs.Ytbejmboedjfllaa
open Go.RowKit
set_option linter.unusedVariables false
set_option linter.unusedSimpArgs false

theorem Try.infoInt : (Try.prog.info? 3).map (fun i => (i.zero, i.size, i.bytes)) = some (some (.int .i64 0), 1, 8) := by kernel_rfl
theorem news_one (w : World) (x : Value) (e : TypeId) : ∀ j u, ([x] : List Value)[j]? = some u → (w.alloc (.cells #[x] e)).cell? ((⟨w.heap.size, 0, none⟩ : Addr).add j) = some u := by
  intro j u hj
  rw [Addr.add_lit]
  match j, hj with
  | 0, hj => simp at hj; subst hj; simp
theorem one_int (x : Int) : ∀ u ∈ [Value.int .i64 x], u.oneCell' = true := by intro u hu; simp at hu; subst hu; rfl
/-- The ids of those among the first i timers that expire at t. -/
def expT (t : Int) (l : List Tm) (i : Nat) : List Int := ((l.take i).filter (isAt t)).map (·.1)
theorem expT_next {t : Int} {l : List Tm} {i : Nat} {x : Tm} (hx : l[i]? = some x) : expT t l (i + 1) = if isAt t x then expT t l i ++ [x.1] else expT t l i := by
  unfold expT
  rw [List.take_add_one, hx, List.filter_append, List.map_append]
  cases h : isAt t x <;> simp [h]
theorem expT_all (t : Int) (l : List Tm) : expT t l l.length = (l.filter (isAt t)).map (·.1) := by unfold expT; rw [List.take_length]
theorem expT_le (t : Int) (l : List Tm) (i : Nat) : (expT t l i).length ≤ l.length := by
  unfold expT
  rw [List.length_map]
  exact Nat.le_trans (List.length_filter_le _ _) (by simp; omega)
section
variable {o : Nat → Nat} {σ : Nat} {w : World} {a room now : Nat} {v : Value} {l : List Tm}
set_option maxHeartbeats 6400000 in
theorem qtick (τ : Nat) (hτ : τ ≠ σ) (h : Qu o σ w a room now v l) (hi : QInv room now l) (hn : now ≤ 1000000) :
    Calls Try.prog 12 #[.pointer (some ⟨a, 0, none⟩)] w fun e w' => ∃ ve, e = .returned ve ∧ ∃ o' v', Step o o' σ w w' ∧ Qu o' σ w' a room (now + 1) v' (tickL now l) ∧ Row o' τ w' 3 1 ve (tickR now l).length (cellsN (tickR now l)) := by
  have hl := Nat.le_trans hi.le hi.room2
  obtain ⟨A, cap, rfl⟩ := h.row.any
  obtain ⟨hlc, hcap⟩ := h.row.caps
  obtain ⟨i0, hi0, hz0, hz1, hz2⟩ := info_parts Try.infoInt
  have hbl := h.box.lt
  have hne : a ≠ w.heap.size := by omega
  have c1 : w.cell? ⟨a, 1, none⟩ = some (.int .i64 (now : Int)) := by rw [h.box.cell]; simp
  have c2 : w.cell? ⟨a, 2, none⟩ = some (.slice A l.length cap) := by rw [h.box.cell]; simp
  have f1 : w.frozen? ⟨a, 1, none⟩ = false := h.box.frozen 1
  have z : IntKind.i64.wrap ((now : Int) + 1) = ((now + 1 : Nat) : Int) := by rw [IntKind.wrap_i64]; omega
  replace h := Lib.hid h
  clear hi
  go_enter Try.func12, Try.ntmps12
  go_wp2
  have h1 : Qu o σ (w.setCell ⟨a, 1, none⟩ (.int .i64 ((now : Int) + 1))) a room (now + 1) (.slice A l.length cap) l := by
    refine ⟨?_, h.out.row.other (h.out.row.ne_blk h.out.box.at_ (by decide)) _⟩
    have := h.out.box.set 1 (.int .i64 ((now : Int) + 1))
    simpa using this
  have s1 := ((Step.refl o σ w).setCell (p := ⟨a, 1, none⟩) (.inr h.out.box.mine) (.int .i64 ((now : Int) + 1))).alloc τ (.cells #[.pointer (some ⟨a, 0, none⟩)] 23)
  have h2 := h1.alloc (.cells #[.pointer (some ⟨a, 0, none⟩)] 23) τ
  have B2 := Blk.made o τ (w.setCell ⟨a, 1, none⟩ (.int .i64 ((now : Int) + 1))) #[.pointer (some ⟨a, 0, none⟩)] 23
  simp only [World.size_setCell] at h2 B2 s1
  generalize (w.setCell ⟨a, 1, none⟩ (.int .i64 ((now : Int) + 1))).alloc (.cells #[.pointer (some ⟨a, 0, none⟩)] 23) = w1 at *
  generalize tag o w.heap.size τ = o1 at *
  obtain ⟨T, hT⟩ : ∃ T : Int, (now : Int) + 1 = T := ⟨_, rfl⟩
  obtain ⟨B, hB⟩ : ∃ B : Nat, w.heap.size = B := ⟨_, rfl⟩
  rw [hB] at B2
  simp only [hT, hB]
  have hT2 : ((now + 1 : Nat) : Int) = T := by rw [← hT]; simp
  have S0 := Lib.hid (And.intro s1 (And.intro h2 B2))
  have HT := Lib.hid (And.intro hT hT2)
  clear h1 s1 h2 B2 h c1 c2 f1 z hT hT2 hne hbl hB
  go_loopw [3, 5, 18] (fun s3 _ s18 wr => ∃ (i : Nat) (or : Nat → Nat), s18 = .int .i64 (i : Int) ∧ i ≤ l.length ∧ Step o or σ w wr ∧ Qu or σ wr a room (now + 1) (.slice A l.length cap) l ∧ Blk or τ wr B #[.pointer (some ⟨a, 0, none⟩)] 23 ∧ Row or τ wr 3 1 s3 (expT T l i).length (cellsN (expT T l i)) ∧ (∀ k, s3.ownBlock = some k → w.heap.size ≤ k)) (fun _ _ s18 _ => l.length - (intOf s18).toNat)
  case atStart => exact ⟨0, o1, rfl, Nat.zero_le _, S0.out.1, S0.out.2.1, S0.out.2.2, Row.nil _ _ _ _ _, fun k hk => by cases hk⟩
  case round =>
    obtain ⟨i, or, rfl, hi, st, h, B2, R, hnew⟩ := hrel
    have HN := Lib.hid hnew
    clear hnew
    clear S0
    rcases Nat.lt_or_ge i l.length with hlt | hge
    · obtain ⟨⟨xi, xa⟩, hx⟩ : ∃ x, l[i]? = some x := ⟨_, List.getElem?_eq_getElem hlt⟩
      obtain ⟨g, rfl, hg, d0, d1⟩ := h.row.rdT i _ hx
      have hex := expT_next (t := T) hx
      have hle := expT_le T l i
      simp only at d0 d1
      have cB : wr.cell? ⟨B, 0, none⟩ = some (.pointer (some ⟨a, 0, none⟩)) := by rw [B2.cell]; simp
      have c1 : wr.cell? ⟨a, 1, none⟩ = some (.int .i64 T) := by rw [h.box.cell, ← HT.out.2]; simp
      have hal := h.box.lt
      have hBl := B2.lt
      have F := Lib.hid (And.intro st (And.intro h (And.intro B2 R)))
      have F2 := Lib.hid (And.intro (st.alloc τ (.cells #[.int .i64 xi, .int .i64 xa] 51)) (And.intro (h.alloc (.cells #[.int .i64 xi, .int .i64 xa] 51) τ) (And.intro (B2.alloc (.cells #[.int .i64 xi, .int .i64 xa] 51) τ) (R.alloc (.cells #[.int .i64 xi, .int .i64 xa] 51) τ))))
      have X2 := Blk.made or τ wr #[.int .i64 xi, .int .i64 xa] 51
      clear st h B2 R hx F
      go_wp2
      generalize tag or wr.heap.size τ = o2 at *
      generalize wr.alloc (.cells #[.int .i64 xi, .int .i64 xa] 51) = w2 at *
      clear d0 d1 cB c1 hal hBl hg
      generalize wr.heap.size = X at *
      have x0 : w2.cell? ⟨X, 0, none⟩ = some (.int .i64 xi) := by rw [X2.cell]; simp
      have x1 : w2.cell? ⟨X, 1, none⟩ = some (.int .i64 xa) := by rw [X2.cell]; simp
      have cB : w2.cell? ⟨B, 0, none⟩ = some (.pointer (some ⟨a, 0, none⟩)) := by rw [F2.out.2.2.1.cell]; simp
      have c1 : w2.cell? ⟨a, 1, none⟩ = some (.int .i64 T) := by rw [F2.out.2.1.box.cell, ← HT.out.2]; simp
      clear X2
      obtain ⟨r, hr⟩ : ∃ r, isAt T (xi, xa) = r := ⟨_, rfl⟩
      have hr' : (xa == T) = r := by rw [← hr]; rfl
      rw [hr] at hex
      clear hr
      cases r with
      | false =>
        simp only [Bool.false_eq_true, if_false] at hex
        go_quiet (fail)
        go_wp2
        go_roundw
        case rel => exact ⟨i + 1, o2, by simp, by omega, F2.out.1.drewN _, F2.out.2.1.drewN _, F2.out.2.2.1.drewN _, by rw [hex]; exact ⟨F2.out.2.2.2.own, F2.out.2.2.2.mine⟩, HN.out⟩
        case measure => simp [intOf]; omega
      | true =>
        simp only [if_true] at hex
        go_quiet (fail)
        go_wp2_with (at_builtin; refine wpList_append_own_at _ rfl (.tmp 29) (.tmp 32) 30 rfl 0 3 i0 (.int .i64 0) 1 8 Try.underlying30 hi0 hz0 hz1 hz2 rfl (by decide) _ _ _ rfl (F2.out.2.2.2.own.alloc _) ⟨w2.heap.size, 0, none⟩ 1 1 [.int .i64 xi] rfl rfl (news_one _ _ _) (one_int _) (by unfold maxLen; omega) (by omega) (Nat.zero_le _) ?_)
        intro v' w3 hown' hgrow' hnil hloc
        obtain ⟨st, h, B2, R⟩ := F2.out
        have st1 := (st.drewN nq).alloc τ (.cells #[.int .i64 xi] 3)
        have h1 := (h.drewN nq).alloc (.cells #[.int .i64 xi] 3) τ
        have B1 := (B2.drewN nq).alloc (.cells #[.int .i64 xi] 3) τ
        have R1 : Row (tag o2 (w2.drewN nq).heap.size τ) τ ((w2.drewN nq).alloc (.cells #[.int .i64 xi] 3)) 3 1 u3 (expT T l i).length (cellsN (expT T l i)) := Row.alloc (w := w2.drewN nq) ⟨R.own, R.mine⟩ _ τ
        have st3 := st1.grown hgrow' (fun k hk => .inl (HN.out k hk)) τ
        have h3b := h1.box.grown hgrow' (R1.ne_blk h1.box.at_ (by decide)) τ
        have h3r := h1.row.grown hgrow' (fun k hk => h1.row.ne_row R1 (by decide) k hk) τ
        have B3 := B1.grown hgrow' (R1.ne_blk B1.at_ (by decide)) τ
        have R3 := R1.appended hown' (by simpa using hloc)
        have N3 : ∀ k, v'.ownBlock = some k → w.heap.size ≤ k := fun k hk => by
          rcases hloc with e | e
          · exact HN.out k (e ▸ hk)
          · rw [e] at hk; cases hk; have := st.size; omega
        have G := Lib.hid (And.intro st3 (And.intro (Qu.mk h3b h3r) (And.intro B3 (And.intro R3 N3))))
        clear st1 h1 B1 R1 st3 h3b h3r B3 R3 N3 st h B2 R hown' hgrow' hnil hloc F2 x0 x1 cB c1
        go_wp2
        go_roundw
        case rel => exact ⟨i + 1, _, by simp, by omega, G.out.1, G.out.2.1, G.out.2.2.1, by rw [hex, cellsN_append, List.length_append]; exact G.out.2.2.2.1, G.out.2.2.2.2⟩
        case measure => simp [intOf]; omega
    · obtain rfl : i = l.length := by omega
      have F2 := Lib.hid (And.intro st (And.intro h (And.intro B2 R)))
      clear st h B2 R
      go_wp2
      refine wp_region_T (fun W => W.cell? ⟨B, 0, none⟩ = some (.pointer (some ⟨a, 0, none⟩)) ∧ W.cell? ⟨a, 2, none⟩ = some (.slice A l.length cap)) 9 (by kernel_rfl) ?_
      obtain ⟨st, h, B2, R⟩ := F2.out
      have cc : wr.drew.cell? ⟨B, 0, none⟩ = some (.pointer (some ⟨a, 0, none⟩)) ∧ wr.drew.cell? ⟨a, 2, none⟩ = some (.slice A l.length cap) := ⟨((B2.drewN 1).cell 0).trans (by simp), ((h.drewN 1).box.cell 2).trans (by simp)⟩
      refine wpAnyT_take (i := 0) (v := (.pointer (some ⟨a, 0, none⟩))) rfl (by kernel_rfl) (fun _ _ _ h => h) (Or.inl ⟨by rfl, ?_⟩) cc ?_
      · intro w hSw; obtain ⟨s0, s1⟩ := hSw; go_simp
      try simp only [List.getElem_toArray, List.getElem_cons_zero, List.getElem_cons_succ, Act.put, List.setIfInBounds_toArray, List.set_cons_zero, List.set_cons_succ]
      refine wpAnyT_take (i := 1) (v := (.pointer (some ⟨a, 0, none⟩))) rfl (by kernel_rfl) (fun _ _ _ h => h) (Or.inl ⟨by rfl, ?_⟩) cc ?_
      · intro w hSw; obtain ⟨s0, s1⟩ := hSw; go_simp
      try simp only [List.getElem_toArray, List.getElem_cons_zero, List.getElem_cons_succ, Act.put, List.setIfInBounds_toArray, List.set_cons_zero, List.set_cons_succ]
      refine wpAnyT_free (i := 2) (v := (.pointer (some ⟨a, 0, none⟩))) rfl (by kernel_rfl) (fun _ _ _ h => h) (Or.inl ⟨by rfl, ?_⟩) (fun _ => cc) ?_
      · intro w _; go_simp
      try simp only [List.getElem_toArray, List.getElem_cons_zero, List.getElem_cons_succ, Act.put, List.setIfInBounds_toArray, List.set_cons_zero, List.set_cons_succ]
      refine wpAnyT_free (i := 3) (v := (.pointer (some ⟨a, 2, none⟩))) rfl (by kernel_rfl) (fun _ _ _ h => h) (Or.inl ⟨by rfl, ?_⟩) (fun _ => cc) ?_
      · intro w _; go_simp
      try simp only [List.getElem_toArray, List.getElem_cons_zero, List.getElem_cons_succ, Act.put, List.setIfInBounds_toArray, List.set_cons_zero, List.set_cons_succ]
      refine wpAnyT_take (i := 4) (v := (.slice A l.length cap)) rfl (by kernel_rfl) (fun _ _ _ h => h) (Or.inl ⟨by rfl, ?_⟩) cc ?_
      · intro w hSw; obtain ⟨s0, s1⟩ := hSw; go_simp
      try simp only [List.getElem_toArray, List.getElem_cons_zero, List.getElem_cons_succ, Act.put, List.setIfInBounds_toArray, List.set_cons_zero, List.set_cons_succ]
      refine wpAnyT_free (i := 5) (v := (.func (.func 24) #[] #[.pointer (some ⟨B, 0, none⟩)])) rfl (by kernel_rfl) (fun _ _ _ h => h) (Or.inl ⟨by rfl, ?_⟩) (fun _ => cc) ?_
      · intro w _; go_simp
      try simp only [List.getElem_toArray, List.getElem_cons_zero, List.getElem_cons_succ, Act.put, List.setIfInBounds_toArray, List.set_cons_zero, List.set_cons_succ]
      refine wpAnyT_ready (rs := [6]) (by kernel_rfl) (by simp) ?_
      refine AllT.cons rfl (fun K hK => ?_) AllT.nil
      go_simp
      have hd := h.drewN 1
      have Bd := B2.drewN 1
      refine (delfunc_grown T B a hd.row hl Bd.lt hd.box.lt ((Bd.cell 0).trans (by simp)) ((hd.box.cell 1).trans (by rw [← HT.out.2]; simp)) (hd.row.ne_blk Bd.at_ (by decide)) (hd.row.ne_blk hd.box.at_ (by decide))).mono ?_
      rintro e w4 ⟨v4, rfl, g4, E4, q4⟩
      have h4 := hd.box.grown g4 (hd.row.ne_blk hd.box.at_ (by decide)) σ
      have B4 := Bd.grown g4 (hd.row.ne_blk Bd.at_ (by decide)) σ
      have st4 := (st.drewN 1).grown g4 (fun k hk => .inr (hd.row.mine k hk)) σ
      have R4 := hd.row.after E4 q4
      have X4 := Row.grown (w := wr.drewN 1) (⟨R.own, R.mine⟩ : Row or τ (wr.drewN 1) 3 1 u3 (expT T l l.length).length (cellsN (expT T l l.length))) g4 (fun k hk => R.ne_row h.row (by decide) k hk) σ
      obtain ⟨A4, c4, rfl⟩ := own_any E4
      have dd : w4.cell? ⟨B, 0, none⟩ = some (.pointer (some ⟨a, 0, none⟩)) ∧ w4.cell? ⟨a, 2, none⟩ = some (.slice A l.length cap) := ⟨(B4.cell 0).trans (by simp), (h4.cell 2).trans (by simp)⟩
      have f4 : w4.frozen? ⟨a, 2, none⟩ = false := h4.frozen 2
      refine hK _ _ (fun _ => dd) ?_
      clear hK K
      try simp only [List.getElem_toArray, List.getElem_cons_zero, List.getElem_cons_succ, Act.put, List.setIfInBounds_toArray, List.set_cons_zero, List.set_cons_succ]
      refine wpAnyT_free (i := 7) (v := (.pointer (some ⟨a, 0, none⟩))) rfl (by kernel_rfl) (fun _ _ _ h => h) (Or.inl ⟨by rfl, ?_⟩) (fun _ => dd) ?_
      · intro w _; go_simp
      try simp only [List.getElem_toArray, List.getElem_cons_zero, List.getElem_cons_succ, Act.put, List.setIfInBounds_toArray, List.set_cons_zero, List.set_cons_succ]
      refine wpAnyT_free (i := 8) (v := (.pointer (some ⟨a, 2, none⟩))) rfl (by kernel_rfl) (fun _ _ _ h => h) (Or.inl ⟨by rfl, ?_⟩) (fun _ => dd) ?_
      · intro w _; go_simp
      try simp only [List.getElem_toArray, List.getElem_cons_zero, List.getElem_cons_succ, Act.put, List.setIfInBounds_toArray, List.set_cons_zero, List.set_cons_succ]
      refine wpAnyT_ready (rs := [9]) (by kernel_rfl) (by simp) ?_
      refine AllT.cons rfl (fun K hK => ?_) AllT.nil
      have K4 := Lib.hid (And.intro h4 (And.intro st4 (And.intro R4 X4)))
      have d2 := dd.2
      clear h4 st4 R4 X4 B4 g4 E4 q4 hd Bd st h B2 R dd cc F2
      go_simp
      refine hK _ _ (fun h => absurd (h.symm.trans (by kernel_rfl)) Bool.false_ne_true) ?_
      clear hK K
      try simp only [List.getElem_toArray, List.getElem_cons_zero, List.getElem_cons_succ, Act.put, List.setIfInBounds_toArray, List.set_cons_zero, List.set_cons_succ]
      refine wpAnyT_done (by kernel_rfl) ?_ _
      go_wp2
      go_ret
      obtain ⟨h4, st4, R4, X4⟩ := K4.out
      rw [expT_all, ← HT.out.1] at X4
      rw [← HT.out.1] at R4
      rw [← HT.out.1]
      exact ⟨_, rfl, _, _, st4.setCell (.inr h4.mine) _, ⟨h4.set 2 _, R4.other (R4.ne_blk h4.at_ (by decide)) _⟩, X4.other (X4.ne_blk h4.at_ (by decide)) _⟩
end
end Go.Proofs.Ytbejmboedjfllaa
