/- slices.Delete of one timer, and slices.DeleteFunc of all that expire now. -/
import Derived.Test.YtbejmboedjfllaaDlFind
import Derived.Test.YtbejmboedjfllaaPlRow
import Derived.Lib.SliceRun
import Derived.Deep.RegionLaw
namespace Go.Proofs.Ytbejmboedjfllaa
open Go.RowKit
set_option linter.unusedVariables false
set_option linter.unusedSimpArgs false

theorem Try.infoTimer : (Try.prog.info? 51).map (fun i => (i.zero, i.size, i.bytes)) = some (some (.agg #[.int .i64 0, .int .i64 0]), 2, 16) := by kernel_rfl
theorem over_del (L : List Value) (a b : Nat) (D Z : List Value) (hD : D.length = b) (hL : a + b + Z.length ≤ L.length) : (over (over L a D) (a + b) Z).take (a + b) = L.take a ++ D := by
  subst hD
  unfold over
  rw [List.append_assoc, List.take_append_of_le_length (by simp; omega), List.take_take, Nat.min_self, List.append_assoc, List.take_append]
  simp only [List.length_take, Nat.min_eq_left (by omega : a ≤ L.length)]
  rw [show a + D.length - a = D.length by omega, List.take_left, List.take_of_length_le (by simp; omega)]
theorem zero_timer : (Builtin.zeroCells (Value.agg #[Value.int .i64 0, .int .i64 0]).cells 1).toList = [Value.int .i64 0, .int .i64 0] := by kernel_rfl
theorem del_cells (l : List Tm) (i : Nat) : cellsT (l.take i) ++ cellsT (l.drop (i + 1)) = cellsT (l.eraseIdx i) := by
  rw [← cellsT_append, List.eraseIdx_eq_take_drop_succ]
section
variable {o : Nat → Nat} {σ τ : Nat} {w : World} {v : Value} {l : List Tm}
set_option maxHeartbeats 6400000 in
theorem delete_row {A : Option Addr} {cap i n : Nat} (hr : Row o σ w 51 2 (.slice A n cap) n (cellsT l)) (hn : n = l.length) (hl : n ≤ 1000) (hi : i < n) :
    Calls Try.prog 25 #[.slice A n cap, .int .i64 (i : Int), .int .i64 ((i + 1 : Nat) : Int)] w fun e w' => ∃ v', e = .returned v' ∧ Step o o σ w w' ∧ Row o σ w' 51 2 v' (n - 1) (cellsT (l.eraseIdx i)) := by
  obtain ⟨i0, hi0, hz0, hz1, hz2⟩ := info_parts Try.infoTimer
  obtain ⟨cap', cur, ⟨g, hvv, hg, hog, hgl⟩, h1, h2, h3, h4⟩ := hr.block (by omega)
  injection hvv with e1 e2 e3
  subst e1 e3
  have hcs : ∀ j u, (cellsT l)[j]? = some u → w.cell? ⟨g, j, none⟩ = some u := by
    intro j u hj
    have hjl := (List.getElem?_eq_some_iff.1 hj).1
    rw [cellsT_length] at hjl
    rw [cell_row hg, ← Array.getElem?_toList]
    rw [← h4, List.getElem?_take, if_pos (by omega)] at hj
    exact hj
  have hDl : (cellsT (l.drop (i + 1))).length = (n - (i + 1)) * 2 := by rw [cellsT_length, List.length_drop, hn]
  obtain ⟨Ad, hA, hsrc⟩ : ∃ Ad : Addr, (if cap = i + 1 then some (⟨g, 0, none⟩ : Addr) else some ⟨g, (i + 1) * 2, none⟩) = some Ad ∧ (∀ j u, (cellsT (l.drop (i + 1)))[j]? = some u → w.drew.cell? (Ad.add j) = some u) := by
    by_cases h : cap = i + 1
    · refine ⟨⟨g, 0, none⟩, by simp [h], fun j u hu => ?_⟩
      have h0 : (cellsT (l.drop (i + 1))).length = 0 := by rw [hDl]; omega
      rw [List.length_eq_zero_iff.1 h0] at hu
      simp at hu
    · refine ⟨⟨g, (i + 1) * 2, none⟩, by simp [h], fun j u hu => ?_⟩
      rw [Addr.add_lit]
      exact hcs _ u (by rw [← List.getElem?_drop, cellsT_drop]; exact hu)
  have hap : ∀ ty c, (Builtin.append_ #[47, 47] ty #[.slice (some ⟨g, 0, none⟩) i cap, .slice (some Ad) (n - (i + 1)) c]).run Try.prog w.drew = .ok (.slice (some ⟨g, 0, none⟩) (n - 1) cap) (w.drew.setRow g (over cur.toList (i * 2) (cellsT (l.drop (i + 1)))).toArray) := fun ty c => by
    have h := run_append_room (P := Try.prog) w.drew 47 ty 51 i0 Try.underlying47 hi0 g i cap cur hg Ad (n - (i + 1)) c (cellsT (l.drop (i + 1))) (by rw [hz1, hDl]) hsrc (cellsT_ones _) (by omega) (by rw [hz1, hDl]; omega)
    rw [h, hz1, show i + (n - (i + 1)) = n - 1 by omega]
    rfl
  obtain ⟨W1, hW1⟩ : ∃ W1, W1 = w.drew.setRow g (over cur.toList (i * 2) (cellsT (l.drop (i + 1)))).toArray := ⟨_, rfl⟩
  have hg1 : W1.heap[g]? = some (.cells (over cur.toList (i * 2) (cellsT (l.drop (i + 1)))).toArray 51 (0, 0)) := by rw [hW1]; exact setRow_heap w.drew g cur _ _ _ hg
  have hol : (over cur.toList (i * 2) (cellsT (l.drop (i + 1)))).length = cap * 2 := by rw [over_length (by rw [hDl]; simp; omega)]; simp [h3]
  have hcl : ∀ ty c, (Builtin.clear_ #[47] ty #[.slice (some ⟨g, (n - 1) * 2, none⟩) 1 c]).run Try.prog W1 = .ok (.tuple #[]) (W1.setRow g (over (over cur.toList (i * 2) (cellsT (l.drop (i + 1)))) ((n - 1) * 2) [.int .i64 0, .int .i64 0]).toArray) := fun ty c => by
    exact run_clear_k W1 47 51 ty _ Try.underlying47 Try.zeroValue51 g ((n - 1) * 2) 1 c (over cur.toList (i * 2) (cellsT (l.drop (i + 1)))).toArray 51 (by decide) [.int .i64 0, .int .i64 0] zero_timer hg1 (by rw [List.size_toArray, hol]; simp; omega) (cellsT_two (0, 0))
  obtain ⟨W2, hW2⟩ : ∃ W2, W2 = W1.setRow g (over (over cur.toList (i * 2) (cellsT (l.drop (i + 1)))) ((n - 1) * 2) [.int .i64 0, .int .i64 0]).toArray := ⟨_, rfl⟩
  have E := Lib.hid (show Step o o σ w W2 ∧ Row o σ W2 51 2 (.slice (some ⟨g, 0, none⟩) (n - 1) cap) (n - 1) (cellsT (l.eraseIdx i)) from by
    refine ⟨?_, ?_⟩
    · rw [hW2, hW1]; exact ((Step.refl o σ w).drew.setRow (.inr hog) _).setRow (.inr hog) _
    · rw [hW2]
      refine Row.written (setRow_heap W1 g _ _ _ _ hg1) hog (by omega) h2 ?_ ?_
      · rw [List.size_toArray, over_length (by simp [hol]; omega), hol]
      · rw [List.toList_toArray, show (n - 1) * 2 = i * 2 + (n - (i + 1)) * 2 by omega, over_del cur.toList (i * 2) ((n - (i + 1)) * 2) _ _ hDl (by simp [h3]; omega), ← del_cells, ← cellsT_take, ← h4, List.take_take, Nat.min_eq_left (by omega)])
  rw [← hW1] at hap
  rw [← hW2] at hcl
  unfold maxLen at h2
  have z0 : ((i : Int) == ((i + 1 : Nat) : Int)) = false := by simp; omega
  have z1 : ¬ ((i : Int) = ((i + 1 : Nat) : Int)) := by omega
  have z2 : (0 : Int) ≤ (i : Int) := by omega
  have z3 : (0 : Int) ≤ (i : Int) + 1 := by omega
  have z4 : i ≤ n := by omega
  have z5 : i + 1 ≤ n := by omega
  have z6 : ¬ (cap = n - 1) := by omega
  have z7 : n - 1 ≤ n := by omega
  have z8 : n - (n - 1) = 1 := by omega
  have z9 : i ≤ cap := by omega
  have z10 : (i : Int) + 1 ≤ (n : Int) := by omega
  have z11 : (((n - 1 : Nat)) : Int) ≤ (n : Int) := by omega
  have z12 : (0 : Int) ≤ ((n - 1 : Nat) : Int) := by omega
  clear hr hDl hg1 hol h4 hn h3 hg hW1 hW2 hcs hi0 hz0 hz1 hz2 hsrc
  go_enter Try.func25, Try.ntmps25
  go_wp2_with fail
  go_region_law (refine step_append_of rfl _ _ 47 47 rfl (.slice (some ⟨g, 0, none⟩) i cap) (.slice (some Ad) (n - (i + 1)) (cap - (i + 1))) (by simp [Act.eval, Act.put]) (by simp [Act.eval, Act.put]) (hap _ _) ?_)
  go_wp2
  go_ret
  exact ⟨_, rfl, E.out.1, E.out.2⟩
theorem delete_grown {i : Nat} (hr : Row o σ w 51 2 v l.length (cellsT l)) (hl : l.length ≤ 1000) (hi : i < l.length) :
    Calls Try.prog 25 #[v, .int .i64 (i : Int), .int .i64 ((i + 1 : Nat) : Int)] w fun e w' => ∃ v', e = .returned v' ∧ w.grownBy w' v.ownBlock ∧ w'.ownsRow 0 51 2 v' (l.length - 1) (cellsT (l.eraseIdx i)) ∧ (∀ k, v'.ownBlock = some k → v.ownBlock = some k ∨ w.heap.size ≤ k) := by
  obtain ⟨A, cap, rfl⟩ := hr.any
  refine (delete_row hr.alone rfl hl hi).mono ?_
  rintro e w' ⟨v', rfl, st, r⟩
  exact ⟨v', rfl, st.alone, r.own, r.lies st⟩
end
end Go.Proofs.Ytbejmboedjfllaa
