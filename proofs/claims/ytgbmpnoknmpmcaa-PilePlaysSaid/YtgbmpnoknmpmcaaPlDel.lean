/- slices.Delete of one item, slices.Clone; a pile's remove and All. -/
import Derived.Test.YtgbmpnoknmpmcaaPlPut
import Derived.Lib.SliceRun
namespace Go.Proofs.Ytgbmpnoknmpmcaa
open Go.RowKit
set_option linter.unusedVariables false
set_option linter.unusedSimpArgs false

theorem over_del (L : List Value) (a b : Nat) (D Z : List Value) (hD : D.length = b) (hL : a + b + Z.length ≤ L.length) : (over (over L a D) (a + b) Z).take (a + b) = L.take a ++ D := by
  subst hD
  unfold over
  rw [List.append_assoc, List.take_append_of_le_length (by simp; omega), List.take_take, Nat.min_self, List.append_assoc, List.take_append]
  simp only [List.length_take, Nat.min_eq_left (by omega : a ≤ L.length)]
  rw [show a + D.length - a = D.length by omega, List.take_left, List.take_of_length_le (by simp; omega)]
theorem zero_item : (Builtin.zeroCells (Value.agg #[Value.int .i64 0, .int .i64 0, .int .i64 0]).cells 1).toList = [Value.int .i64 0, .int .i64 0, .int .i64 0] := by kernel_rfl
theorem del_cells (l : List It) (i : Nat) : cellsI (l.take i) ++ cellsI (l.drop (i + 1)) = cellsI (l.eraseIdx i) := by
  rw [← cellsI_append, List.eraseIdx_eq_take_drop_succ]
section
variable {o : Nat → Nat} {σ τ : Nat} {w : World} {v : Value} {l : List It}
set_option maxHeartbeats 6400000 in
theorem delete_row {A : Option Addr} {cap i n : Nat} (hr : Row o σ w 29 3 (.slice A n cap) n (cellsI l)) (hn : n = l.length) (hl : n ≤ 1000) (hi : i < n) :
    Calls Try.prog 34 #[.slice A n cap, .int .i64 (i : Int), .int .i64 ((i + 1 : Nat) : Int)] w fun e w' => ∃ v', e = .returned v' ∧ Step o o σ w w' ∧ Row o σ w' 29 3 v' (n - 1) (cellsI (l.eraseIdx i)) := by
  obtain ⟨i0, hi0, hz0, hz1, hz2⟩ := info_parts Try.infoItem
  obtain ⟨cap', cur, ⟨g, hvv, hg, hog, hgl⟩, h1, h2, h3, h4⟩ := hr.block (by omega)
  injection hvv with e1 e2 e3
  subst e1 e3
  have hcs : ∀ j u, (cellsI l)[j]? = some u → w.cell? ⟨g, j, none⟩ = some u := by
    intro j u hj
    have hjl := (List.getElem?_eq_some_iff.1 hj).1
    rw [cellsI_length] at hjl
    rw [cell_row hg, ← Array.getElem?_toList]
    rw [← h4, List.getElem?_take, if_pos (by omega)] at hj
    exact hj
  have hDl : (cellsI (l.drop (i + 1))).length = (n - (i + 1)) * 3 := by rw [cellsI_length, List.length_drop, hn]
  obtain ⟨Ad, hA, hsrc⟩ : ∃ Ad : Addr, (if cap = i + 1 then some (⟨g, 0, none⟩ : Addr) else some ⟨g, (i + 1) * 3, none⟩) = some Ad ∧ (∀ j u, (cellsI (l.drop (i + 1)))[j]? = some u → w.drew.cell? (Ad.add j) = some u) := by
    by_cases h : cap = i + 1
    · refine ⟨⟨g, 0, none⟩, by simp [h], fun j u hu => ?_⟩
      have h0 : (cellsI (l.drop (i + 1))).length = 0 := by rw [hDl]; omega
      rw [List.length_eq_zero_iff.1 h0] at hu
      simp at hu
    · refine ⟨⟨g, (i + 1) * 3, none⟩, by simp [h], fun j u hu => ?_⟩
      rw [Addr.add_lit]
      exact hcs _ u (by rw [← List.getElem?_drop, cellsI_drop]; exact hu)
  have hap : ∀ ty c, (Builtin.append_ #[46, 46] ty #[.slice (some ⟨g, 0, none⟩) i cap, .slice (some Ad) (n - (i + 1)) c]).run Try.prog w.drew = .ok (.slice (some ⟨g, 0, none⟩) (n - 1) cap) (w.drew.setRow g (over cur.toList (i * 3) (cellsI (l.drop (i + 1)))).toArray) := fun ty c => by
    have h := run_append_room (P := Try.prog) w.drew 46 ty 29 i0 Try.underlying46 hi0 g i cap cur hg Ad (n - (i + 1)) c (cellsI (l.drop (i + 1))) (by rw [hz1, hDl]) hsrc (cellsI_ones _) (by omega) (by rw [hz1, hDl]; omega)
    rw [h, hz1, show i + (n - (i + 1)) = n - 1 by omega]
    rfl
  obtain ⟨W1, hW1⟩ : ∃ W1, W1 = w.drew.setRow g (over cur.toList (i * 3) (cellsI (l.drop (i + 1)))).toArray := ⟨_, rfl⟩
  have hg1 : W1.heap[g]? = some (.cells (over cur.toList (i * 3) (cellsI (l.drop (i + 1)))).toArray 29 (0, 0)) := by rw [hW1]; exact setRow_heap w.drew g cur _ _ _ hg
  have hol : (over cur.toList (i * 3) (cellsI (l.drop (i + 1)))).length = cap * 3 := by rw [over_length (by rw [hDl]; simp; omega)]; simp [h3]
  have hcl : ∀ ty c, (Builtin.clear_ #[46] ty #[.slice (some ⟨g, (n - 1) * 3, none⟩) 1 c]).run Try.prog W1 = .ok (.tuple #[]) (W1.setRow g (over (over cur.toList (i * 3) (cellsI (l.drop (i + 1)))) ((n - 1) * 3) [.int .i64 0, .int .i64 0, .int .i64 0]).toArray) := fun ty c => by
    exact run_clear_k W1 46 29 ty _ Try.underlying46 Try.zeroValue29 g ((n - 1) * 3) 1 c (over cur.toList (i * 3) (cellsI (l.drop (i + 1)))).toArray 29 (by decide) [.int .i64 0, .int .i64 0, .int .i64 0] zero_item hg1 (by rw [List.size_toArray, hol]; simp; omega) (cellsI_three (0, 0, 0))
  obtain ⟨W2, hW2⟩ : ∃ W2, W2 = W1.setRow g (over (over cur.toList (i * 3) (cellsI (l.drop (i + 1)))) ((n - 1) * 3) [.int .i64 0, .int .i64 0, .int .i64 0]).toArray := ⟨_, rfl⟩
  have E := Lib.hid (show Step o o σ w W2 ∧ Row o σ W2 29 3 (.slice (some ⟨g, 0, none⟩) (n - 1) cap) (n - 1) (cellsI (l.eraseIdx i)) from by
    refine ⟨?_, ?_⟩
    · rw [hW2, hW1]; exact ((Step.refl o σ w).drew.setRow (.inr hog) _).setRow (.inr hog) _
    · rw [hW2]
      refine Row.written (setRow_heap W1 g _ _ _ _ hg1) hog (by omega) h2 ?_ ?_
      · rw [List.size_toArray, over_length (by simp [hol]; omega), hol]
      · rw [List.toList_toArray, show (n - 1) * 3 = i * 3 + (n - (i + 1)) * 3 by omega, over_del cur.toList (i * 3) ((n - (i + 1)) * 3) _ _ hDl (by simp [h3]; omega), ← del_cells, ← cellsI_take, ← h4, List.take_take, Nat.min_eq_left (by omega)])
  rw [← hW1] at hap
  rw [← hW2] at hcl
  unfold maxLen at h2
  have z0 : ((i : Int) == ((i + 1 : Nat) : Int)) = false := by simp; omega
  have z1 : ¬ ((i : Int) = ((i + 1 : Nat) : Int)) := by omega
  have z2 : (0 : Int) ≤ (i : Int) := by omega
  have z3 : (0 : Int) ≤ (i : Int) + 1 := by omega
  have z4 : i ≤ n := by omega
  have z5 : i + 1 ≤ n := by omega
  have z6 : ¬ (cap = n - 1) := by omega
  have z7 : n - 1 ≤ n := by omega
  have z8 : n - (n - 1) = 1 := by omega
  have z9 : i ≤ cap := by omega
  have z10 : (i : Int) + 1 ≤ (n : Int) := by omega
  have z11 : (((n - 1 : Nat)) : Int) ≤ (n : Int) := by omega
  have z12 : (0 : Int) ≤ ((n - 1 : Nat) : Int) := by omega
  clear hr hDl hg1 hol h4 hn h3 hg hW1 hW2 hcs hi0 hz0 hz1 hz2 hsrc
  go_enter Try.func34, Try.ntmps34
  go_wp2_with fail
  go_region_law (refine step_append_of rfl _ _ 46 46 rfl (.slice (some ⟨g, 0, none⟩) i cap) (.slice (some Ad) (n - (i + 1)) (cap - (i + 1))) (by simp [Act.eval, Act.put]) (by simp [Act.eval, Act.put]) (hap _ _) ?_)
  go_wp2
  go_ret
  exact ⟨_, rfl, E.out.1, E.out.2⟩
theorem delete_grown {i : Nat} (hr : Row o σ w 29 3 v l.length (cellsI l)) (hl : l.length ≤ 1000) (hi : i < l.length) :
    Calls Try.prog 34 #[v, .int .i64 (i : Int), .int .i64 ((i + 1 : Nat) : Int)] w fun e w' => ∃ v', e = .returned v' ∧ w.grownBy w' v.ownBlock ∧ w'.ownsRow 0 29 3 v' (l.length - 1) (cellsI (l.eraseIdx i)) ∧ (∀ k, v'.ownBlock = some k → v.ownBlock = some k ∨ w.heap.size ≤ k) := by
  obtain ⟨A, cap, rfl⟩ := hr.any
  refine (delete_row hr.alone rfl hl hi).mono ?_
  rintro e w' ⟨v', rfl, st, r⟩
  exact ⟨v', rfl, st.alone, r.own, r.lies st⟩
set_option maxHeartbeats 1600000 in
theorem clone_any (hr : Row o σ w 29 3 v l.length (cellsI l)) (hl : l.length ≤ 1000) :
    Calls Try.prog 28 #[v] w fun e w' => ∃ v', e = .returned v' ∧ w'.ownsRow w.heap.size 29 3 v' l.length (cellsI l) ∧ Below w.heap.size w w' := by
  obtain ⟨i0, hi0, hz0, hz1, hz2⟩ := info_parts Try.infoItem
  have q : ∀ (w : World) (a : Option Addr) (n c n' c' : Nat), (binOp .eql 46 (.slice a n c) (.slice none n' c')).run Try.prog w = .ok (.bool a.isNone) w := fun w a n c n' c' => Lib.run_eql_slice_nil w _ _ a n c n' c' Try.underlying46
  rcases hr.own.2 with ⟨rfl, h0⟩ | ⟨g, cap, cur, rfl, _, hg, h1, h2, h3, h4⟩
  · have hnil : l = [] := List.eq_nil_of_length_eq_zero h0
    subst hnil
    clear hr
    go_enter Try.func28, Try.ntmps28
    go_wp2
    go_ret
    exact ⟨_, rfl, World.ownsRow_nil _ _ _ _, Below.refl _ _⟩
  · have hc : ∀ (ob : Obj) j u, (cellsI l)[j]? = some u → (w.alloc ob).cell? ((⟨g, 0, none⟩ : Addr).add j) = some u := fun ob j u hj => by
      rw [Addr.add_lit, Nat.zero_add]
      exact Lib.cell?_alloc_some _ (by rw [hr.cellAt j (by have := (List.getElem?_eq_some_iff.1 hj).1; rwa [cellsI_length] at this)]; exact hj)
    have F := Lib.hid hc
    clear hc hr hg h3 h4
    go_enter Try.func28, Try.ntmps28
    go_wp2_with (at_builtin; refine wpList_append_own _ rfl _ _ 46 rfl w.heap.size 29 i0 (.agg #[.int .i64 0, .int .i64 0, .int .i64 0]) 3 24 Try.underlying46 hi0 hz0 hz1 hz2 rfl (by decide) _ _ _ rfl (World.ownsRow_made w #[] 0 (Nat.le_refl _) (Nat.zero_le _) (by simp)) ⟨g, 0, none⟩ l.length cap (cellsI l) rfl (cellsI_length l) (F.out _) (cellsI_ones l) (by unfold maxLen; omega) (by omega) (by simp) ?_)
    intro v' w1 hown hgrow hnil
    have hb : Below w.heap.size w w1 := ((Below.refl _ w).alloc (Nat.le_refl _) _).grown hgrow (by simp) (by intro k hk; simp [Value.ownBlock] at hk; omega)
    have G := Lib.hid (And.intro hown hb)
    clear hown hgrow hnil hb
    go_wp2
    go_ret
    refine ⟨v', rfl, by simpa using G.out.1, G.out.2⟩
end
section
variable {o : Nat → Nat} {σ : Nat} {w : World} {a room : Nat} {v : Value} {l : List It}
set_option maxHeartbeats 800000 in
theorem pall (h : Pl o σ w a room v l) (hl : l.length ≤ 1000) :
    Calls Try.prog 20 #[.pointer (some ⟨a, 0, none⟩)] w fun e w' => ∃ v', e = .returned v' ∧ w'.ownsRow w.heap.size 29 3 v' l.length (cellsI l) ∧ Below w.heap.size w w' := by
  have C := Lib.hid (clone_any h.row hl)
  have c1 : w.cell? ⟨a, 1, none⟩ = some v := by rw [h.box.cell]; simp
  obtain ⟨A, cap, rfl⟩ := h.row.any
  clear h
  go_enter Try.func20, Try.ntmps20
  go_wp2_with fail
  refine C.out.mono ?_
  rintro e w1 ⟨v', rfl, hown, hb⟩
  have G := Lib.hid (And.intro hown hb)
  clear hown hb
  go_wp2
  go_ret
  exact ⟨v', rfl, G.out.1, G.out.2⟩
set_option maxHeartbeats 1600000 in
theorem premove {i : Nat} (h : Pl o σ w a room v l) (hl : l.length ≤ 1000) (hi : i < l.length) :
    Calls Try.prog 25 #[.pointer (some ⟨a, 0, none⟩), .int .i64 (i : Int)] w fun e w' => e = .returned (.tuple #[]) ∧ ∃ o' v', Step o o' σ w w' ∧ Pl o' σ w' a room v' (l.eraseIdx i) := by
  have C := Lib.hid (delete_grown h.row hl hi)
  have c1 : w.cell? ⟨a, 1, none⟩ = some v := by rw [h.box.cell]; simp
  obtain ⟨A, cap, rfl⟩ := h.row.any
  have z : IntKind.i64.wrap ((i : Int) + 1) = ((i + 1 : Nat) : Int) := by rw [IntKind.wrap_i64]; omega
  replace h := Lib.hid h
  go_enter Try.func25, Try.ntmps25
  go_wp2_with fail
  refine C.out.mono ?_
  rintro e w4 ⟨v', rfl, hg4, ho4, hl4⟩
  have hb4 := h.out.box.grown hg4 (h.out.row.ne_blk h.out.box.at_ (by decide)) σ
  have x1 : w4.cell? ⟨a, 1, none⟩ = some (.slice A l.length cap) := by rw [hb4.cell]; simp
  have x2 : w4.frozen? ⟨a, 1, none⟩ = false := hb4.frozen 1
  obtain ⟨A4, c4, rfl⟩ := own_any ho4
  have G := Lib.hid (And.intro hb4 (And.intro hg4 (And.intro ho4 hl4)))
  clear hb4 hg4 ho4 hl4 c1 z
  go_wp2
  go_end0
  obtain ⟨hb4, hg4, ho4, hl4⟩ := G.out
  have r4 := h.out.row.after ho4 hl4
  refine ⟨rfl, _, _, ((Step.refl o σ w).grown hg4 (fun k hk => .inr (h.out.row.mine k hk)) σ).setCell (.inr hb4.mine) _, hb4.set 1 _, ?_⟩
  rw [List.length_eraseIdx_of_lt hi]
  exact r4.other (r4.ne_blk hb4.at_ (by decide)) _
end
end Go.Proofs.Ytgbmpnoknmpmcaa
