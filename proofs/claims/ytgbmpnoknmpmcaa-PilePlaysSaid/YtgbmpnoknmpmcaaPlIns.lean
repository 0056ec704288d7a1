/- slices.Insert at items. -/
import Derived.Test.YtgbmpnoknmpmcaaPlSearch
import Derived.Test.YtgbmpnoknmpmcaaPlRow
import Derived.Laws.NewBlocks
import Derived.Laws.Externs
import Derived.Deep.RegionLaw
namespace Go.Proofs.Ytgbmpnoknmpmcaa
open Go.RowKit
set_option linter.unusedVariables false
set_option linter.unusedSimpArgs false

theorem Try.infoItem : (Try.prog.info? 29).map (fun i => (i.zero, i.size, i.bytes)) = some (some (.agg #[.int .i64 0, .int .i64 0, .int .i64 0]), 3, 24) := by kernel_rfl
theorem Try.sizeItem : (Try.prog.info? 29).map (·.size) = some 3 := by kernel_rfl
/-- First the tail is moved up, then x laid in. -/
theorem over_up (L : List Value) (a b c : Nat) (X D : List Value) (hX : X.length = c) (hD : D.length = b) (hL : a + c + b ≤ L.length) : (over (over L (a + c) D) a X).take (a + c + b) = L.take a ++ X ++ D := by
  subst hX hD
  apply List.ext_getElem?
  intro j
  simp only [over, List.getElem?_take, List.getElem?_append, List.length_append, List.length_take, List.getElem?_drop, List.length_drop]
  have e1 : min (a + X.length) L.length = a + X.length := by omega
  have e2 : min a L.length = a := by omega
  have e3 : min a (a + X.length + D.length + (L.length - (a + X.length + D.length))) = a := by omega
  simp only [e1, e2, e3]
  by_cases h1 : j < a
  · have : j < a + X.length + D.length := by omega
    have h2 : j < a + X.length := by omega
    simp [h1, this, h2]
  · by_cases h2 : j < a + X.length
    · have : j < a + X.length + D.length := by omega
      simp [h1, h2, this]
    · by_cases h3 : j < a + X.length + D.length
      · have h4 : ¬ (a + X.length + (j - (a + X.length)) < a + X.length) := by omega
        have h5 : a + X.length + (j - (a + X.length)) = j := by omega
        simp [h1, h2, h3, h4, h5]
      · rw [if_neg h3, if_neg h2, List.getElem?_eq_none (by omega)]
/-- First x is laid in, then the tail. -/
theorem over_new (L : List Value) (a b c : Nat) (X D : List Value) (hX : X.length = c) (hD : D.length = b) (hL : a + c + b ≤ L.length) : (over (over L a X) (a + c) D).take (a + c + b) = L.take a ++ X ++ D := by
  subst hX hD
  apply List.ext_getElem?
  intro j
  simp only [over, List.getElem?_take, List.getElem?_append, List.length_append, List.length_take, List.getElem?_drop, List.length_drop]
  have e2 : min a L.length = a := by omega
  have e3 : min (a + X.length) (a + X.length + (L.length - (a + X.length))) = a + X.length := by omega
  simp only [e2, e3]
  by_cases h1 : j < a
  · have : j < a + X.length + D.length := by omega
    have h2 : j < a + X.length := by omega
    simp [h1, this, h2]
  · by_cases h2 : j < a + X.length
    · have : j < a + X.length + D.length := by omega
      simp [h1, h2, this]
    · by_cases h3 : j < a + X.length + D.length
      · simp [h1, h2, h3]
      · rw [if_neg h3, if_neg h2, List.getElem?_eq_none (by omega)]
theorem ins_cells (l : List It) (i : Nat) (x : It) : cellsI (l.take i) ++ [Value.int .i64 x.1, .int .i64 x.2.1, .int .i64 x.2.2] ++ cellsI (l.drop i) = cellsI (l.take i ++ x :: l.drop i) := by
  rw [cellsI_append, cellsI_cons]; simp

section
variable {o : Nat → Nat} {σ τ : Nat} {w : World} {v : Value} {l : List It} {vb : Nat} {x : It}
set_option maxHeartbeats 3200000 in
theorem insert_end (hr : Row o σ w 29 3 v l.length (cellsI l)) (hv : Blk o τ w vb #[.int .i64 x.1, .int .i64 x.2.1, .int .i64 x.2.2] 29) (hl : l.length ≤ 1000) :
    Calls Try.prog 31 #[v, .int .i64 (l.length : Int), .slice (some ⟨vb, 0, none⟩) 1 1] w fun e w' => ∃ v' o', e = .returned v' ∧ Step o o' σ w w' ∧ Row o' σ w' 29 3 v' (l.length + 1) (cellsI (l ++ [x])) := by
  obtain ⟨i0, hi0, hz0, hz1, hz2⟩ := info_parts Try.infoItem
  obtain ⟨A, cap, rfl⟩ := hr.any
  obtain ⟨hlc, hcap⟩ := hr.caps
  have hsrc : ∀ j u, [Value.int .i64 x.1, .int .i64 x.2.1, .int .i64 x.2.2][j]? = some u → w.cell? ((⟨vb, 0, none⟩ : Addr).add j) = some u := by
    intro j u hj
    rw [Addr.add_lit, Nat.zero_add, hv.cell]
    simpa using hj
  replace hr := Lib.hid hr
  replace hsrc := Lib.hid hsrc
  have hle : (l.length : Int) ≤ (cap : Int) := by omega
  clear hv
  by_cases hce : cap = l.length
  · subst hce
    go_enter Try.func31, Try.ntmps31
    go_wp2_with (at_builtin; refine wpList_append_own_at _ rfl (.tmp 23) (.tmp 24) 46 rfl 0 29 i0 (.agg #[.int .i64 0, .int .i64 0, .int .i64 0]) 3 24 Try.underlying46 hi0 hz0 hz1 hz2 rfl (by decide) _ _ _ rfl hr.out.own ⟨vb, 0, none⟩ 1 1 [.int .i64 x.1, .int .i64 x.2.1, .int .i64 x.2.2] rfl rfl hsrc.out (cellsI_three x) (by unfold maxLen; omega) (by omega) (Nat.zero_le _) ?_)
    intro v' w3 hown' hgrow' hnil hloc
    have st := (Step.refl o σ w).grown hgrow' (fun k hk => .inr (hr.out.mine k hk)) σ
    have r3 := hr.out.appended hown' hloc
    rw [← cellsI_one, ← cellsI_append] at r3
    have F := Lib.hid (And.intro st r3)
    clear st r3 hown' hgrow' hnil hloc
    go_wp2
    go_ret
    exact ⟨_, _, rfl, F.out.1, F.out.2⟩
  · skip
    go_enter Try.func31, Try.ntmps31
    go_wp2_with (at_builtin; refine wpList_append_own_at _ rfl (.tmp 23) (.tmp 24) 46 rfl 0 29 i0 (.agg #[.int .i64 0, .int .i64 0, .int .i64 0]) 3 24 Try.underlying46 hi0 hz0 hz1 hz2 rfl (by decide) _ _ _ rfl hr.out.own ⟨vb, 0, none⟩ 1 1 [.int .i64 x.1, .int .i64 x.2.1, .int .i64 x.2.2] rfl rfl hsrc.out (cellsI_three x) (by unfold maxLen; omega) (by omega) (Nat.zero_le _) ?_)
    intro v' w3 hown' hgrow' hnil hloc
    have st := (Step.refl o σ w).grown hgrow' (fun k hk => .inr (hr.out.mine k hk)) σ
    have r3 := hr.out.appended hown' hloc
    rw [← cellsI_one, ← cellsI_append] at r3
    have F := Lib.hid (And.intro st r3)
    clear st r3 hown' hgrow' hnil hloc
    go_wp2
    go_ret
    exact ⟨_, _, rfl, F.out.1, F.out.2⟩
set_option maxHeartbeats 6400000 in
theorem insert_shift {A : Option Addr} {cap i n : Nat} (hr : Row o σ w 29 3 (.slice A n cap) n (cellsI l)) (hv : Blk o τ w vb #[.int .i64 x.1, .int .i64 x.2.1, .int .i64 x.2.2] 29) (hτ : τ ≠ σ) (hn : n = l.length) (hl : n ≤ 1000) (hi : i < n) (hroom : n + 1 ≤ cap) :
    Calls Try.prog 31 #[.slice A n cap, .int .i64 (i : Int), .slice (some ⟨vb, 0, none⟩) 1 1] w fun e w' => ∃ v' o', e = .returned v' ∧ Step o o' σ w w' ∧ Row o' σ w' 29 3 v' (n + 1) (cellsI (l.take i ++ x :: l.drop i)) := by
  obtain ⟨cap', cur, ⟨g, hvv, hg, hog, hgl⟩, h1, h2, h3, h4⟩ := hr.block (by omega)
  injection hvv with e1 e2 e3
  subst e1 e3
  have hvg : vb ≠ g := fun e => hτ (by rw [← hv.mine, e, hog])
  have h2' := h2
  unfold maxLen at h2'
  have hX : ∀ j u, [Value.int .i64 x.1, .int .i64 x.2.1, .int .i64 x.2.2][j]? = some u → w.cell? ⟨vb, j, none⟩ = some u := by
    intro j u hj
    rw [hv.cell]
    simpa using hj
  have hDl : (cellsI (l.drop i)).length = (n - i) * 3 := by rw [cellsI_length, List.length_drop, hn]
  have hov : ∀ lb cb, (callFunc 39 #[.slice (some ⟨vb, 0, none⟩) 1 1, .slice (some ⟨g, (i + 1) * 3, none⟩) lb cb]).run Try.prog w = .ok (.value (.bool false)) w := fun lb cb => by
    rw [run_callFunc_extern Try.func39 (by kernel_rfl) (by kernel_rfl) (by kernel_rfl) (e := Extern.SlicesOverlaps.overlaps #[46, 46] #[4]) (by kernel_rfl),
      Lib.run_overlaps_apart w 46 4 29 Try.underlying46 3 Try.sizeOf29 ⟨vb, 0, none⟩ ⟨g, (i + 1) * 3, none⟩ 1 1 lb cb hvg 29 29 3 cur.size (by simp [World.shape?, hv.at_]) (by simp [World.shape?, hg]) (by omega) (hv.frozen 0) (hv.frozen 3)]
    rfl
  have hcp1 : ∀ ty dc sc, (Builtin.copy_ #[46, 46] ty #[.slice (some ⟨g, (i + 1) * 3, none⟩) (n - i) dc, .slice (some ⟨g, i * 3, none⟩) (n + 1 - i) sc]).run Try.prog w.drew = .ok (goInt ((n - i : Nat) : Int)) (w.drew.setRow g (over cur.toList ((i + 1) * 3) (cellsI (l.drop i))).toArray) := fun ty dc sc =>
    run_copy_k w.drew _ 46 ty 29 g ((i + 1) * 3) (n - i) dc ⟨g, i * 3, none⟩ (n + 1 - i) sc cur 29 (cellsI (l.drop i)) 3 (n - i) Try.underlying46 Try.sizeItem hg (by simp only [Nat.min_def]; split <;> omega) hDl
      (fun j u hj => by
        rw [Addr.add_lit]
        show w.cell? _ = _
        rw [cell_row hg, ← Array.getElem?_toList]
        have hjl : j < (n - i) * 3 := by have := (List.getElem?_eq_some_iff.1 hj).1; rwa [hDl] at this
        have : (cellsI l)[i * 3 + j]? = some u := by rw [← List.getElem?_drop, cellsI_drop]; exact hj
        rw [← h4, List.getElem?_take, if_pos (by omega)] at this
        exact this) (by rw [hDl]; omega) (cellsI_ones _)
  obtain ⟨W1, hW1⟩ : ∃ W1, W1 = w.drew.setRow g (over cur.toList ((i + 1) * 3) (cellsI (l.drop i))).toArray := ⟨_, rfl⟩
  have hg1 : W1.heap[g]? = some (.cells (over cur.toList ((i + 1) * 3) (cellsI (l.drop i))).toArray 29 (0, 0)) := by rw [hW1]; exact setRow_heap w.drew g cur _ _ _ hg
  have hcl : (over cur.toList ((i + 1) * 3) (cellsI (l.drop i))).length = cap * 3 := by rw [over_length (by rw [hDl]; simp; omega)]; simp [h3]
  have hcp2 : ∀ ty dc, (Builtin.copy_ #[46, 46] ty #[.slice (some ⟨g, i * 3, none⟩) (n + 1 - i) dc, .slice (some ⟨vb, 0, none⟩) 1 1]).run Try.prog W1 = .ok (goInt 1) (W1.setRow g (over (over cur.toList ((i + 1) * 3) (cellsI (l.drop i))) (i * 3) [Value.int .i64 x.1, .int .i64 x.2.1, .int .i64 x.2.2]).toArray) := fun ty dc =>
    run_copy_k W1 _ 46 ty 29 g (i * 3) (n + 1 - i) dc ⟨vb, 0, none⟩ 1 1 _ 29 _ 3 1 Try.underlying46 Try.sizeItem hg1 (by simp only [Nat.min_def]; split <;> omega) rfl
      (fun j u hj => by
        rw [Addr.add_lit, Nat.zero_add, hW1, World.cell?_of_block (setRow_other _ _ _ _ hvg)]
        exact hX j u hj) (by simp [hcl]; omega) (cellsI_three x)
  have E := Lib.hid (show ∃ v' o', Value.slice (some ⟨g, 0, none⟩) (n + 1) cap = v' ∧ Step o o' σ w (W1.setRow g (over (over cur.toList ((i + 1) * 3) (cellsI (l.drop i))) (i * 3) [Value.int .i64 x.1, .int .i64 x.2.1, .int .i64 x.2.2]).toArray) ∧ Row o' σ (W1.setRow g (over (over cur.toList ((i + 1) * 3) (cellsI (l.drop i))) (i * 3) [Value.int .i64 x.1, .int .i64 x.2.1, .int .i64 x.2.2]).toArray) 29 3 v' (n + 1) (cellsI (l.take i ++ x :: l.drop i)) from by
    refine ⟨_, o, rfl, ?_, ?_⟩
    · rw [hW1]; exact ((Step.refl o σ w).drew.setRow (.inr hog) _).setRow (.inr hog) _
    · refine Row.written (setRow_heap W1 g _ _ _ _ hg1) hog hroom h2 ?_ ?_
      · rw [List.size_toArray, over_length (by simp [hcl]; omega), hcl]
      · rw [List.toList_toArray, show (n + 1) * 3 = i * 3 + 3 + (n - i) * 3 by omega, show (i + 1) * 3 = i * 3 + 3 by omega, over_up cur.toList (i * 3) ((n - i) * 3) 3 _ _ rfl hDl (by simp [h3]; omega), ← ins_cells, ← cellsI_take, ← h4, List.take_take, Nat.min_eq_left (by omega)])
  rw [← hW1] at hcp1
  clear hW1
  have z1 : ¬ ((i : Int) = (n : Int)) := by omega
  have z2 : ((i : Int) == (n : Int)) = false := by simp; omega
  have z3 : decide ((n : Int) + 1 > (cap : Int)) = false := decide_eq_false (by omega)
  have z4 : ¬ (cap = i) := by omega
  have z5 : ¬ (cap = i + 1) := by omega
  have z6 : (0 : Int) ≤ (i : Int) := by omega
  have z7 : IntKind.i64.wrap ((i : Int) + 1) = ((i + 1 : Nat) : Int) := by rw [IntKind.wrap_i64]; omega
  have z9 : (0 : Int) ≤ (i : Int) + 1 := by omega
  have z10 : i ≤ n := by omega
  have z11 : (i : Int) ≤ (n : Int) + 1 := by omega
  have z8 : IntKind.i64.wrap ((n : Int) + 1) = ((n + 1 : Nat) : Int) := by rw [IntKind.wrap_i64]; omega
  clear hr hv hX hDl hg1 hcl h4 hn h3 hg
  go_enter Try.func31, Try.ntmps31
  go_wp2_with (simp only [hov])
  go_region_law (refine step_copy_of rfl _ _ 46 46 rfl (.slice (some ⟨g, (i + 1) * 3, none⟩) (n - i) (cap - (i + 1))) (.slice (some ⟨g, i * 3, none⟩) (n + 1 - i) (cap - i)) (by simp [Act.eval, Act.put]) (by simp [Act.eval, Act.put]) (hcp1 _ _ _) ?_)
  go_wp2_with (at_builtin; refine wpList_copy_of _ rfl _ _ 46 46 rfl _ _ rfl rfl (hcp2 _ _) ?_)
  go_ret
  obtain ⟨v', o', h5, h6, h7⟩ := E.out
  subst h5
  exact ⟨_, o', rfl, h6, h7⟩
set_option maxHeartbeats 6400000 in
theorem insert_grow {A : Option Addr} {cap i n : Nat} (hr : Row o σ w 29 3 (.slice A n cap) n (cellsI l)) (hv : Blk o τ w vb #[.int .i64 x.1, .int .i64 x.2.1, .int .i64 x.2.2] 29) (hn : n = l.length) (hl : n ≤ 1000) (hi : i < n) (hroom : cap < n + 1) :
    Calls Try.prog 31 #[.slice A n cap, .int .i64 (i : Int), .slice (some ⟨vb, 0, none⟩) 1 1] w fun e w' => ∃ v' o', e = .returned v' ∧ Step o o' σ w w' ∧ Row o' σ w' 29 3 v' (n + 1) (cellsI (l.take i ++ x :: l.drop i)) := by
  obtain ⟨i0, hi0, hz0, hz1, hz2⟩ := info_parts Try.infoItem
  obtain ⟨cap', cur, ⟨g, hvv, hg, hog, hgl⟩, h1, h2, h3, h4⟩ := hr.block (by omega)
  injection hvv with e1 e2 e3
  subst e1 e3
  have hvw := hv.lt
  have hX : ∀ j u, [Value.int .i64 x.1, .int .i64 x.2.1, .int .i64 x.2.2][j]? = some u → w.cell? ⟨vb, j, none⟩ = some u := by
    intro j u hj
    rw [hv.cell]
    simpa using hj
  have hcs : ∀ j u, (cellsI l)[j]? = some u → w.cell? ⟨g, j, none⟩ = some u := by
    intro j u hj
    have hjl := (List.getElem?_eq_some_iff.1 hj).1
    rw [cellsI_length] at hjl
    rw [cell_row hg, ← Array.getElem?_toList]
    rw [← h4, List.getElem?_take, if_pos (by omega)] at hj
    exact hj
  have hDl : (cellsI (l.drop i)).length = (n - i) * 3 := by rw [cellsI_length, List.length_drop, hn]
  have hTl : (cellsI (l.take i)).length = i * 3 := by rw [cellsI_length, List.length_take, Nat.min_eq_left (by omega)]
  have hold : (Builtin.firstCells i0.size i (.slice (some ⟨g, 0, none⟩) i cap)).run Try.prog w.drew = .ok (cellsI (l.take i)).toArray w.drew := by
    rw [hz1]
    exact run_firstCells_some w.drew 3 i ⟨g, 0, none⟩ i cap (cellsI (l.take i)) hTl (fun j u hj => by
      rw [Addr.add_lit, Nat.zero_add]
      rw [← cellsI_take, List.getElem?_take] at hj
      split at hj
      · exact hcs j u hj
      · cases hj)
  have hik : i + (n + 1 - i) = n + 1 := by omega
  obtain ⟨G, hG⟩ : ∃ G, G = grownCap w (n + 1) cap 29 := ⟨_, rfl⟩
  obtain ⟨ROW, hROW⟩ : ∃ ROW : Array Value, ROW = (cellsI (l.take i)).toArray ++ Builtin.zeroCells (Value.agg #[.int .i64 0, .int .i64 0, .int .i64 0]).cells (n + 1 - i) ++ Builtin.zeroCells (Value.agg #[.int .i64 0, .int .i64 0, .int .i64 0]).cells (G - (n + 1)) := ⟨_, rfl⟩
  have hrz : ∀ ty, (Builtin.append_ #[46, 3] ty #[.slice (some ⟨g, 0, none⟩) i cap, .int .i64 ((n + 1 - i : Nat) : Int)]).run Try.prog w = .ok (.slice (some ⟨w.heap.size, 0, none⟩) (n + 1) G) (w.drew.alloc (.cells ROW 29)) := fun ty => by
    have h := Lib.run_append_grow_zeros w 46 3 ty 29 i0 _ .i64 .i64 Try.underlying46 Try.underlying3 hi0 hz0 (some ⟨g, 0, none⟩) i cap (cellsI (l.take i)) hold (n + 1 - i) (by omega) (by rw [hz1]; decide) (by omega) (by omega) (by rw [hz2]; omega) (by rw [hz2, hik]; exact growslice_fits hroom (by omega))
    rw [hik] at h
    rw [h, hROW, hG]
  have hGn : n + 1 ≤ G := by rw [hG]; exact grownCap_ge w _ _ _
  have hGm : G ≤ maxLen := by rw [hG]; exact grownCap_le_maxLen w (n + 1) cap _ (by unfold maxLen; omega)
  have hRs : ROW.size = G * 3 := by rw [hROW]; simp [size_zeroCells, hTl, Value.cells]; omega
  have hRt : ROW.toList.take (i * 3) = cellsI (l.take i) := by
    rw [hROW]; simp only [Array.toList_append, List.append_assoc]; rw [← hTl]; simp
  clear hROW hG hold
  obtain ⟨W1, hW1⟩ : ∃ W1, W1 = w.drew.alloc (.cells ROW 29) := ⟨_, rfl⟩
  have hN : W1.heap[w.heap.size]? = some (.cells ROW 29 (0, 0)) := by rw [hW1]; exact heap_alloc_new w.drew _
  have hcpA : ∀ ty dc, (Builtin.copy_ #[46, 46] ty #[.slice (some ⟨w.heap.size, i * 3, none⟩) (n + 1 - i) dc, .slice (some ⟨vb, 0, none⟩) 1 1]).run Try.prog W1 = .ok (goInt 1) (W1.setRow w.heap.size (over ROW.toList (i * 3) [Value.int .i64 x.1, .int .i64 x.2.1, .int .i64 x.2.2]).toArray) := fun ty dc =>
    run_copy_k W1 _ 46 ty 29 w.heap.size (i * 3) (n + 1 - i) dc ⟨vb, 0, none⟩ 1 1 ROW 29 _ 3 1 Try.underlying46 Try.sizeItem hN (by simp only [Nat.min_def]; split <;> omega) rfl
      (fun j u hj => by
        rw [Addr.add_lit, Nat.zero_add, hW1, World.cell?_of_block (Below.heap_alloc w.drew _ vb hvw)]
        exact hX j u hj) (by simp [hRs]; omega) (cellsI_three x)
  obtain ⟨W2, hW2⟩ : ∃ W2, W2 = W1.setRow w.heap.size (over ROW.toList (i * 3) [Value.int .i64 x.1, .int .i64 x.2.1, .int .i64 x.2.2]).toArray := ⟨_, rfl⟩
  have hN2 : W2.heap[w.heap.size]? = some (.cells (over ROW.toList (i * 3) [Value.int .i64 x.1, .int .i64 x.2.1, .int .i64 x.2.2]).toArray 29 (0, 0)) := by rw [hW2]; exact setRow_heap W1 _ _ _ _ _ hN
  have hol : (over ROW.toList (i * 3) [Value.int .i64 x.1, .int .i64 x.2.1, .int .i64 x.2.2]).length = G * 3 := by rw [over_length (by simp [hRs]; omega)]; simp [hRs]
  have hgo : W2.heap[g]? = w.heap[g]? := by
    rw [hW2, setRow_other _ _ _ _ (by omega), hW1]; exact Below.heap_alloc w.drew _ g hgl
  have hcpB : ∀ ty dc sc, (Builtin.copy_ #[46, 46] ty #[.slice (some ⟨w.heap.size, (i + 1) * 3, none⟩) (n - i) dc, .slice (some ⟨g, i * 3, none⟩) (n - i) sc]).run Try.prog W2.drew = .ok (goInt ((n - i : Nat) : Int)) (W2.drew.setRow w.heap.size (over (over ROW.toList (i * 3) [Value.int .i64 x.1, .int .i64 x.2.1, .int .i64 x.2.2]) ((i + 1) * 3) (cellsI (l.drop i))).toArray) := fun ty dc sc =>
    run_copy_k W2.drew _ 46 ty 29 w.heap.size ((i + 1) * 3) (n - i) dc ⟨g, i * 3, none⟩ (n - i) sc (over ROW.toList (i * 3) [Value.int .i64 x.1, .int .i64 x.2.1, .int .i64 x.2.2]).toArray 29 (cellsI (l.drop i)) 3 (n - i) Try.underlying46 Try.sizeItem hN2 (by simp only [Nat.min_def]; split <;> omega) hDl
      (fun j u hj => by
        rw [Addr.add_lit]
        show W2.cell? _ = _
        rw [World.cell?_of_block hgo]
        exact hcs _ u (by rw [← List.getElem?_drop, cellsI_drop]; exact hj)) (by rw [hDl, List.size_toArray, hol]; omega) (cellsI_ones _)
  obtain ⟨W3, hW3⟩ : ∃ W3, W3 = W2.drew.setRow w.heap.size (over (over ROW.toList (i * 3) [Value.int .i64 x.1, .int .i64 x.2.1, .int .i64 x.2.2]) ((i + 1) * 3) (cellsI (l.drop i))).toArray := ⟨_, rfl⟩
  have E := Lib.hid (show ∃ v' o', Value.slice (some ⟨w.heap.size, 0, none⟩) (n + 1) G = v' ∧ Step o o' σ w W3 ∧ Row o' σ W3 29 3 v' (n + 1) (cellsI (l.take i ++ x :: l.drop i)) from by
    refine ⟨_, tag o w.heap.size σ, rfl, ?_, ?_⟩
    · rw [hW3, hW2, hW1]; exact ((((Step.refl o σ w).drew.alloc σ _).setRow (.inl (Nat.le_refl _)) _).drew.setRow (.inl (Nat.le_refl _)) _)
    · rw [hW3]
      refine Row.written (setRow_heap W2.drew _ _ _ _ _ hN2) (tag_new (Nat.le_refl _)) hGn hGm ?_ ?_
      · rw [List.size_toArray, over_length (by rw [hDl, hol]; omega), hol]
      · rw [List.toList_toArray, show (n + 1) * 3 = i * 3 + 3 + (n - i) * 3 by omega, show (i + 1) * 3 = i * 3 + 3 by omega, over_new ROW.toList (i * 3) ((n - i) * 3) 3 _ _ rfl hDl (by simp [hRs]; omega), ← ins_cells, hRt])
  rw [← hW1] at hrz
  rw [← hW2] at hcpA
  rw [← hW3] at hcpB
  unfold maxLen at hGm h2
  have z1 : ¬ ((i : Int) = (n : Int)) := by omega
  have z2 : ((i : Int) == (n : Int)) = false := by simp; omega
  have z3 : (n : Int) + 1 > (cap : Int) := by omega
  have z4 : ¬ (cap = i) := by omega
  have z5 : ¬ (G = i + 1) := by omega
  have z5' : ¬ (G = i) := by omega
  have z6 : (0 : Int) ≤ (i : Int) := by omega
  have z7 : IntKind.i64.wrap ((i : Int) + 1) = ((i + 1 : Nat) : Int) := by rw [IntKind.wrap_i64]; omega
  have z9 : (0 : Int) ≤ (i : Int) + 1 := by omega
  have z10 : i ≤ n := by omega
  have z11 : (i : Int) ≤ (n : Int) + 1 := by omega
  have z8 : IntKind.i64.wrap ((n : Int) + 1) = ((n + 1 : Nat) : Int) := by rw [IntKind.wrap_i64]; omega
  have z12 : IntKind.i64.wrap (((n + 1 : Nat) : Int) - (i : Int)) = ((n + 1 - i : Nat) : Int) := by rw [IntKind.wrap_i64]; omega
  have z13 : IntKind.i64.wrap (((n : Int) + 1) - (i : Int)) = ((n + 1 - i : Nat) : Int) := by rw [IntKind.wrap_i64]; omega
  clear hr hv hX hDl hTl hN hN2 hol h4 hn h3 hg hW1 hW2 hW3 hgo hRt hRs hcs hi0 hz0 hz1 hz2 hik
  go_enter Try.func31, Try.ntmps31
  go_wp2_with (first
    | (at_builtin; refine Lib.wpList_append_run _ rfl _ _ _ _ rfl _ _ rfl rfl _ _ (hrz _) ?_)
    | (at_builtin; refine wpList_copy_of _ rfl _ _ 46 46 rfl _ _ rfl rfl (hcpA _ _) ?_))
  go_region_law (refine step_copy_of rfl _ _ 46 46 rfl (.slice (some ⟨w.heap.size, (i + 1) * 3, none⟩) (n - i) (G - (i + 1))) (.slice (some ⟨g, i * 3, none⟩) (n - i) (cap - i)) (by simp [Act.eval, Act.put]) (by simp [Act.eval, Act.put]) (hcpB _ _ _) ?_)
  go_wp2
  go_ret
  obtain ⟨v', o', h5, h6, h7⟩ := E.out
  subst h5
  exact ⟨_, o', rfl, h6, h7⟩
/-- slices.Insert of one item that lies in a block of its own. -/
theorem insert_all {i : Nat} (hr : Row o σ w 29 3 v l.length (cellsI l)) (hv : Blk o τ w vb #[.int .i64 x.1, .int .i64 x.2.1, .int .i64 x.2.2] 29) (hτ : τ ≠ σ) (hl : l.length ≤ 1000) (hi : i ≤ l.length) :
    Calls Try.prog 31 #[v, .int .i64 (i : Int), .slice (some ⟨vb, 0, none⟩) 1 1] w fun e w' => ∃ v' o', e = .returned v' ∧ Step o o' σ w w' ∧ Row o' σ w' 29 3 v' (l.length + 1) (cellsI (l.take i ++ x :: l.drop i)) := by
  obtain ⟨A, cap, rfl⟩ := hr.any
  rcases Nat.eq_or_lt_of_le hi with he | hlt
  · subst he
    have := insert_end hr hv hl
    rw [List.take_length, List.drop_length]
    exact this
  · rcases Nat.lt_or_ge cap (l.length + 1) with hc | hc
    · exact insert_grow hr hv rfl hl hlt hc
    · exact insert_shift hr hv hτ rfl hl hlt hc
theorem insert_grown {i : Nat} (hr : Row o σ w 29 3 v l.length (cellsI l)) (hv : w.heap[vb]? = some (.cells #[.int .i64 x.1, .int .i64 x.2.1, .int .i64 x.2.2] 29 (0, 0))) (hne : v.ownBlock ≠ some vb) (hl : l.length ≤ 1000) (hi : i ≤ l.length) :
    Calls Try.prog 31 #[v, .int .i64 (i : Int), .slice (some ⟨vb, 0, none⟩) 1 1] w fun e w' => ∃ v', e = .returned v' ∧ w.grownBy w' v.ownBlock ∧ w'.ownsRow 0 29 3 v' (l.length + 1) (cellsI (l.take i ++ x :: l.drop i)) ∧ (∀ k, v'.ownBlock = some k → v.ownBlock = some k ∨ w.heap.size ≤ k) := by
  refine (insert_all (τ := 0) hr.alone ⟨hv, rowOwn_no hne⟩ (by decide) hl hi).mono ?_
  rintro e w' ⟨v', o', rfl, st, r⟩
  exact ⟨v', rfl, st.alone, r.own, r.lies st⟩
end
end Go.Proofs.Ytgbmpnoknmpmcaa
