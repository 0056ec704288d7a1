/- The document's monitor: May. -/
import Derived.Test.YtecjblcdiabkcaaFmRef
import Derived.Maps.AppendAt
import Derived.Lib.AppendZeros
import Derived.Deep.RegionHeld3
namespace Go.Proofs.Ytecjblcdiabkcaa
open Go.RowKit
set_option linter.unusedVariables false
set_option linter.unusedSimpArgs false

theorem step_appendM {P : Program} {ops : Array Oper} {o : Oper} {a : Act} {w : World} {K : Act → World → Prop} {Q : Exit → Act → World → Prop} {E : Prop}
    (hg : o.guard = none) (d x : Operand) (dT sT : TypeId) (hop : o.op = Op.call { callee := Callee.builtin Builtin.append, args := #[d, x], argTypes := #[dT, sT] })
    (v u : Value) (hd : a.eval d = v) (hx : a.eval x = u) {v' : Value} {w' : World} (hr : (Builtin.append_ #[dT, sT] o.type #[v, u]).run P w = .ok v' w') (hK : K (a.put o.dst v') w') :
    if Region.wanted o (yielded ops a.tmps) = true then Oper.wp P o a w K Q else E := by
  have hw : Region.wanted o (yielded ops a.tmps) = true := by simp [Region.wanted, hg]
  rw [if_pos hw]
  exact Lib.wp_append_run w d x dT sT hop v u hd hx v' w' hr hK
theorem mayB_next (m k : Nat) (l : List Bool) (i : Nat) : mayB m k l (i + 1) = (mayB m k l i && addB m k (l ++ List.replicate (i + 1) false)) := rfl
theorem mayB_down {m k : Nat} {l : List Bool} {i : Nat} (h : mayB m k l i = false) : ∀ d, mayB m k l (i + d) = false
  | 0 => h
  | d + 1 => by rw [← Nat.add_assoc, mayB_next, mayB_down h d]; rfl
theorem rep_snoc (l : List Bool) (i : Nat) : l ++ List.replicate i false ++ [false] = l ++ List.replicate (i + 1) false := by
  rw [List.replicate_succ', List.append_assoc]
/-- What May asks. -/
def mayN (n : Int) : Nat := (min n 100).toNat
section
variable {o : Nat → Nat} {σ : Nat} {w : World} {b m k : Nat} {L : List Bool} {v : Value}
/-- A copy of what it has seen. -/
theorem copyL (h : Rm o σ w b m k v L) (hl : L.length ≤ 900) (W : World) (hb : Below w.heap.size w W) :
    ∃ v2 w2, (Builtin.append_ #[31, 31] 31 #[.slice (some ⟨W.heap.size, 0, none⟩) 0 0, v]).run Try.prog (W.alloc (.cells #[] 4)) = .ok v2 w2 ∧
      w2.ownsRow W.heap.size 4 1 v2 L.length (cellsL L) ∧ Below W.heap.size W w2 := by
  obtain ⟨i0, hi0, hz0, hz1, hz2⟩ := info_parts Try.infoBoolM
  have hrow := (h.below hb).row
  have bm : Below W.heap.size W (W.alloc (.cells #[] 4)) := (Below.refl _ _).alloc (Nat.le_refl _) _
  have E1 : (W.alloc (.cells #[] 4)).ownsRow W.heap.size 4 1 (.slice (some ⟨W.heap.size, 0, none⟩) 0 0) 0 [] := World.ownsRow_lit W #[] 0 (Nat.le_refl _) (by unfold maxLen; omega) rfl
  rcases hrow.own.2 with ⟨hv, hnil⟩ | ⟨g, cap', cur, hv, _, hcur, hc1, hc2, hc3, _⟩
  · subst hv
    obtain rfl : L = [] := List.eq_nil_of_length_eq_zero hnil
    have hrun := run_append_owned_none (P := Try.prog) (w := W.alloc (.cells #[] 4)) W.heap.size 31 31 4 i0 1 Try.underlying31 hi0 _ 0 [] E1
    exact ⟨_, _, hrun, E1, bm⟩
  · subst hv
    obtain ⟨v2, w2, r2, E2, g2, _, _⟩ := run_append_own_at (P := Try.prog) (W.alloc (.cells #[] 4)) W.heap.size 31 31 4 i0 _ 1 1 Try.underlying31 hi0 hz0 hz1 hz2 rfl (by decide) _ 0 [] E1 ⟨g, 0, none⟩ L.length cap' (cellsL L) (by rw [cellsL_len]; omega)
      (fun j u hj => by
        rw [Addr.add_lit, Nat.zero_add]
        have hjl := (List.getElem?_eq_some_iff.1 hj).1
        rw [cellsL_len] at hjl
        exact Lib.cell?_alloc_some _ (by rw [hrow.cellAt j (by omega)]; exact hj))
      (cellsL_ones _) (by unfold maxLen; omega) (by omega) bm.size
    exact ⟨v2, w2, r2, by simpa using E2, bm.grown g2 bm.size (fun j hj => (E1.lt j hj).1)⟩
/-- .. as a monitor of its own. -/
theorem boxL {w2 : World} {v2 : Value} (hb : Below w.heap.size w w2) (ho : w2.ownsRow w.heap.size 4 1 v2 L.length (cellsL L)) :
    ∃ o', Lw w o' (w2.alloc (.cells #[.int .i64 (m : Int), .int .i64 (k : Int), v2] 34)) ∧
      Rm o' 1 (w2.alloc (.cells #[.int .i64 (m : Int), .int .i64 (k : Int), v2] 34)) w2.heap.size m k v2 L := by
  have st : Step (fun _ => 0) (tag (fun _ => 0) w.heap.size 1) 1 w w2 := ⟨hb.os, hb.tape, hb.output, hb.size, fun i hi => tag_old hi, fun i hi _ => hb.block i hi⟩
  have R : Row (tag (fun _ => 0) w.heap.size 1) 1 w2 4 1 v2 L.length (cellsL L) := Row.fresh 1 ho _
  exact ⟨_, ((Lw.start w).step st (by decide)).alloc _ 1, Blk.made _ 1 w2 _ _, R.alloc _ 1⟩
set_option maxHeartbeats 6400000 in
theorem rmmay (n : Int) (r : Bool) (h : Rm o σ w b m k v L) (hl : L.length ≤ 700) (hm : m ≤ 64) (hk1 : 1 ≤ k) (hk : k ≤ 64) (hr : mayB m k L (mayN n) = r) :
    Calls Try.prog 14 #[.pointer (some ⟨b, 0, none⟩), .int .i64 n] w (RetB (.bool r) w) := by
  have S0 : ∀ W, Below w.heap.size w W → W.cell? ⟨b, 0, none⟩ = some (.int .i64 (m : Int)) ∧ W.cell? ⟨b, 1, none⟩ = some (.int .i64 (k : Int)) ∧ W.cell? ⟨b, 2, none⟩ = some v := fun W hb => ⟨(h.below hb).c0, (h.below hb).c1, (h.below hb).c2⟩
  obtain ⟨M, hM⟩ : ∃ M, mayN n = M := ⟨_, rfl⟩
  rw [hM] at hr
  have H := Lib.hid (And.intro h (And.intro hl hr))
  replace S0 := Lib.hid S0
  by_cases hn : n > 100
  · obtain rfl : 100 = M := by rw [← hM]; unfold mayN; omega
    clear h hl hr hM
    go_enter Try.func14, Try.ntmps14
    go_wp2
    refine wp_region_held_drew (S := fun W => W.cell? ⟨b, 0, none⟩ = some (.int .i64 (m : Int)) ∧ W.cell? ⟨b, 1, none⟩ = some (.int .i64 (k : Int)) ∧ W.cell? ⟨b, 2, none⟩ = some v) (by kernel_rfl) (S0.out w (Below.refl _ _)) (fun hHeld => ?_)
    have bd : Below w.heap.size w w.drew := below_dN (Below.refl _ _) 1
    have hsd : w.drew.heap.size = w.heap.size := rfl
    generalize w.drew = wB at *
    obtain ⟨v2, w2, r2, E2, b2⟩ := copyL H.out.1 (by have := H.out.2.1; omega) wB bd
    rw [hsd] at E2 b2 r2
    obtain ⟨A2, c2, rfl⟩ := own_any E2
    have bw : Below w.heap.size w w2 := bd.trans b2
    have bm : Below w.heap.size w (wB.alloc (.cells #[] 4)) := bd.alloc bd.size _
    have cc1 := S0.out _ bm
    have cc2 := S0.out _ bw
    have cc3 := S0.out _ (bw.alloc bw.size (.cells #[.int .i64 (m : Int), .int .i64 (k : Int), (.slice A2 L.length c2)] 34))
    obtain ⟨o1, l1, m1⟩ := boxL (m := m) (k := k) bw E2
    have F := Lib.hid (And.intro l1 m1)
    replace r2 := Lib.hid r2
    clear E2 b2 bw bm bd l1 m1
    refine wpAnyH_take (i := 0) (v := (.pointer (some ⟨b, 0, none⟩))) rfl (by kernel_rfl) (by kernel_rfl) (by kernel_rfl) (fun _ _ _ h => h) (Or.inl ⟨by rfl, ?_⟩) hHeld ?_
    · intro w hSw; go_simp
    try simp only [List.getElem_toArray, List.getElem_cons_zero, List.getElem_cons_succ, Act.put, List.setIfInBounds_toArray, List.set_cons_zero, List.set_cons_succ]
    refine wpAnyH_take (i := 1) (v := (.pointer (some ⟨b, 0, none⟩))) rfl (by kernel_rfl) (by kernel_rfl) (by kernel_rfl) (fun _ _ _ h => h) (Or.inl ⟨by rfl, ?_⟩) hHeld ?_
    · intro w hSw; go_simp
    try simp only [List.getElem_toArray, List.getElem_cons_zero, List.getElem_cons_succ, Act.put, List.setIfInBounds_toArray, List.set_cons_zero, List.set_cons_succ]
    refine wpAnyH_take (i := 2) (v := (.pointer (some ⟨b, 0, none⟩))) rfl (by kernel_rfl) (by kernel_rfl) (by kernel_rfl) (fun _ _ _ h => h) (Or.inl ⟨by rfl, ?_⟩) hHeld ?_
    · intro w hSw; go_simp
    try simp only [List.getElem_toArray, List.getElem_cons_zero, List.getElem_cons_succ, Act.put, List.setIfInBounds_toArray, List.set_cons_zero, List.set_cons_succ]
    refine wpAnyH_take (i := 3) (v := (.int .i64 (m : Int))) rfl (by kernel_rfl) (by kernel_rfl) (by kernel_rfl) (fun _ _ _ h => h) (Or.inl ⟨by rfl, ?_⟩) hHeld ?_
    · intro w hSw; obtain ⟨s0, s1, s2⟩ := hSw; go_simp
    try simp only [List.getElem_toArray, List.getElem_cons_zero, List.getElem_cons_succ, Act.put, List.setIfInBounds_toArray, List.set_cons_zero, List.set_cons_succ]
    refine wpAnyH_take (i := 4) (v := (.pointer (some ⟨b, 0, none⟩))) rfl (by kernel_rfl) (by kernel_rfl) (by kernel_rfl) (fun _ _ _ h => h) (Or.inl ⟨by rfl, ?_⟩) hHeld ?_
    · intro w hSw; go_simp
    try simp only [List.getElem_toArray, List.getElem_cons_zero, List.getElem_cons_succ, Act.put, List.setIfInBounds_toArray, List.set_cons_zero, List.set_cons_succ]
    refine wpAnyH_take (i := 5) (v := (.pointer (some ⟨b, 0, none⟩))) rfl (by kernel_rfl) (by kernel_rfl) (by kernel_rfl) (fun _ _ _ h => h) (Or.inl ⟨by rfl, ?_⟩) hHeld ?_
    · intro w hSw; go_simp
    try simp only [List.getElem_toArray, List.getElem_cons_zero, List.getElem_cons_succ, Act.put, List.setIfInBounds_toArray, List.set_cons_zero, List.set_cons_succ]
    refine wpAnyH_take (i := 6) (v := (.pointer (some ⟨b, 1, none⟩))) rfl (by kernel_rfl) (by kernel_rfl) (by kernel_rfl) (fun _ _ _ h => h) (Or.inl ⟨by rfl, ?_⟩) hHeld ?_
    · intro w hSw; go_simp
    try simp only [List.getElem_toArray, List.getElem_cons_zero, List.getElem_cons_succ, Act.put, List.setIfInBounds_toArray, List.set_cons_zero, List.set_cons_succ]
    refine wpAnyH_take (i := 7) (v := (.int .i64 (k : Int))) rfl (by kernel_rfl) (by kernel_rfl) (by kernel_rfl) (fun _ _ _ h => h) (Or.inl ⟨by rfl, ?_⟩) hHeld ?_
    · intro w hSw; obtain ⟨s0, s1, s2⟩ := hSw; go_simp
    try simp only [List.getElem_toArray, List.getElem_cons_zero, List.getElem_cons_succ, Act.put, List.setIfInBounds_toArray, List.set_cons_zero, List.set_cons_succ]
    refine wpAnyH_take (i := 9) (v := (.pointer (some ⟨b, 0, none⟩))) rfl (by kernel_rfl) (by kernel_rfl) (by kernel_rfl) (fun _ _ _ h => h) (Or.inl ⟨by rfl, ?_⟩) hHeld ?_
    · intro w hSw; go_simp
    try simp only [List.getElem_toArray, List.getElem_cons_zero, List.getElem_cons_succ, Act.put, List.setIfInBounds_toArray, List.set_cons_zero, List.set_cons_succ]
    refine wpAnyH_take (i := 10) (v := (.pointer (some ⟨b, 0, none⟩))) rfl (by kernel_rfl) (by kernel_rfl) (by kernel_rfl) (fun _ _ _ h => h) (Or.inl ⟨by rfl, ?_⟩) hHeld ?_
    · intro w hSw; go_simp
    try simp only [List.getElem_toArray, List.getElem_cons_zero, List.getElem_cons_succ, Act.put, List.setIfInBounds_toArray, List.set_cons_zero, List.set_cons_succ]
    refine wpAnyH_take (i := 11) (v := (.pointer (some ⟨b, 2, none⟩))) rfl (by kernel_rfl) (by kernel_rfl) (by kernel_rfl) (fun _ _ _ h => h) (Or.inl ⟨by rfl, ?_⟩) hHeld ?_
    · intro w hSw; go_simp
    try simp only [List.getElem_toArray, List.getElem_cons_zero, List.getElem_cons_succ, Act.put, List.setIfInBounds_toArray, List.set_cons_zero, List.set_cons_succ]
    refine wpAnyH_take (i := 12) (v := v) rfl (by kernel_rfl) (by kernel_rfl) (by kernel_rfl) (fun _ _ _ h => h) (Or.inl ⟨by rfl, ?_⟩) hHeld ?_
    · intro w hSw; obtain ⟨s0, s1, s2⟩ := hSw; go_simp
    try simp only [List.getElem_toArray, List.getElem_cons_zero, List.getElem_cons_succ, Act.put, List.setIfInBounds_toArray, List.set_cons_zero, List.set_cons_succ]
    refine wpAnyH_ready (rs := [8]) (by kernel_rfl) (by simp) ?_
    refine AllReadyH.cons rfl (fun K hK => ?_) AllReadyH.nil
    clear hHeld
    go_simp
    refine hK.out _ _ cc1 (fun hHeld => ?_)
    clear hK K
    try simp only [List.getElem_toArray, List.getElem_cons_zero, List.getElem_cons_succ, Act.put, List.setIfInBounds_toArray, List.set_cons_zero, List.set_cons_succ]
    refine wpAnyH_ready (rs := [13]) (by kernel_rfl) (by simp) ?_
    refine AllReadyH.cons rfl (fun K hK => ?_) AllReadyH.nil
    clear hHeld
    refine step_appendM rfl (.tmp 17) (.tmp 21) 31 31 rfl (.slice (some ⟨w.heap.size, 0, none⟩) 0 0) v (by rfl) (by rfl) r2.out ?_
    refine hK.out _ _ cc2 (fun hHeld => ?_)
    clear hK K
    try simp only [List.getElem_toArray, List.getElem_cons_zero, List.getElem_cons_succ, Act.put, List.setIfInBounds_toArray, List.set_cons_zero, List.set_cons_succ]
    refine wpAnyH_take (i := 14) (v := (.agg #[.int .i64 (m : Int), .int .i64 (k : Int), (.slice A2 L.length c2)])) rfl (by kernel_rfl) (by kernel_rfl) (by kernel_rfl) (fun _ _ _ h => h) (Or.inl ⟨by rfl, ?_⟩) hHeld ?_
    · intro w hSw; go_simp
    try simp only [List.getElem_toArray, List.getElem_cons_zero, List.getElem_cons_succ, Act.put, List.setIfInBounds_toArray, List.set_cons_zero, List.set_cons_succ]
    refine wpAnyH_ready (rs := [15]) (by kernel_rfl) (by simp) ?_
    refine AllReadyH.cons rfl (fun K hK => ?_) AllReadyH.nil
    clear hHeld
    go_simp
    refine hK.out _ _ cc3 (fun hHeld => ?_)
    clear hK K
    try simp only [List.getElem_toArray, List.getElem_cons_zero, List.getElem_cons_succ, Act.put, List.setIfInBounds_toArray, List.set_cons_zero, List.set_cons_succ]
    refine wpAnyH_take (i := 16) (v := (.pointer (some ⟨w2.heap.size, 0, none⟩))) rfl (by kernel_rfl) (by kernel_rfl) (by kernel_rfl) (fun _ _ _ h => h) (Or.inl ⟨by rfl, ?_⟩) hHeld ?_
    · intro w hSw; go_simp
    try simp only [List.getElem_toArray, List.getElem_cons_zero, List.getElem_cons_succ, Act.put, List.setIfInBounds_toArray, List.set_cons_zero, List.set_cons_succ]
    refine wpAnyH_done (by kernel_rfl) ?_ _
    clear hHeld r2 cc1 cc2 cc3 hsd
    generalize w2.alloc (.cells #[.int .i64 (m : Int), .int .i64 (k : Int), (.slice A2 L.length c2)] 34) = w3 at *
    generalize w2.heap.size = B at *
    have HM := Lib.hid H.out.2.2
    have HL := Lib.hid H.out.2.1
    clear H S0
    go_wp2
    go_loopw [6] (fun s6 wr => ∃ (i : Nat) (o' : Nat → Nat) (v' : Value), s6 = .int .i64 (i : Int) ∧ i ≤ 100 ∧ Hid (Lw w o' wr ∧ Rm o' 1 wr B m k v' (L ++ List.replicate i false) ∧ mayB m k L i = true)) (fun st _ => 100 - (intOf st).toNat)
    case atStart => exact ⟨0, o1, _, rfl, by omega, Lib.hid ⟨F.out.1, by rw [List.replicate_zero, List.append_nil]; exact F.out.2, rfl⟩⟩
    case round =>
      obtain ⟨i, o', v', rfl, hi, G⟩ := hrel
      clear F
      rcases Nat.lt_or_ge i 100 with hlt | hge
      · have z1 : (i : Int) < 100 := by omega
        obtain ⟨ra, hra⟩ : ∃ ra, addB m k (L ++ List.replicate (i + 1) false) = ra := ⟨_, rfl⟩
        have C := Lib.hid (rmadd false ra _ G.out.2.1 (by have := HL.out; rw [List.length_append, List.length_replicate]; omega) hm hk1 hk (rep_snoc L i) hra)
        have hnx : mayB m k L (i + 1) = ra := by rw [mayB_next, G.out.2.2, hra]; rfl
        replace hnx := Lib.hid hnx
        clear hra
        go_wp2_with fail
        refine C.out.mono ?_
        rintro e w4 ⟨rfl, o4, v4, st4, m4⟩
        have G4 := Lib.hid (And.intro (G.out.1.step st4 (by decide)) m4)
        clear C st4 m4 G
        cases ra with
        | true =>
          go_wp2
          go_roundw
          case rel => exact ⟨i + 1, o4, v4, by simp, by omega, Lib.hid ⟨G4.out.1, G4.out.2, hnx.out⟩⟩
          case measure => simp [intOf]; omega
        | false =>
          obtain rfl : false = r := by
            rw [← HM.out, show (100 : Nat) = i + 1 + (100 - (i + 1)) by omega]
            exact (mayB_down hnx.out _).symm
          go_wp2
          go_ret
          exact ⟨rfl, G4.out.1.below⟩
      · have hiM : i = 100 := by omega
        have z1 : decide ((i : Int) < 100) = false := decide_eq_false (by omega)
        obtain rfl : true = r := by rw [← HM.out, ← hiM, G.out.2.2]
        clear hiM hge hi
        try clear hMn
        go_wp2
        go_ret
        exact ⟨rfl, G.out.1.below⟩
  · have hn' : decide (n > 100) = false := decide_eq_false hn
    have hMn : ∀ i : Nat, (i : Int) < n ↔ i < M := fun i => by rw [← hM]; unfold mayN; omega
    have hM9 : M ≤ 100 := by rw [← hM]; unfold mayN; omega
    clear h hl hr hM
    go_enter Try.func14, Try.ntmps14
    go_wp2
    refine wp_region_held_drew (S := fun W => W.cell? ⟨b, 0, none⟩ = some (.int .i64 (m : Int)) ∧ W.cell? ⟨b, 1, none⟩ = some (.int .i64 (k : Int)) ∧ W.cell? ⟨b, 2, none⟩ = some v) (by kernel_rfl) (S0.out w (Below.refl _ _)) (fun hHeld => ?_)
    have bd : Below w.heap.size w w.drew := below_dN (Below.refl _ _) 1
    have hsd : w.drew.heap.size = w.heap.size := rfl
    generalize w.drew = wB at *
    obtain ⟨v2, w2, r2, E2, b2⟩ := copyL H.out.1 (by have := H.out.2.1; omega) wB bd
    rw [hsd] at E2 b2 r2
    obtain ⟨A2, c2, rfl⟩ := own_any E2
    have bw : Below w.heap.size w w2 := bd.trans b2
    have bm : Below w.heap.size w (wB.alloc (.cells #[] 4)) := bd.alloc bd.size _
    have cc1 := S0.out _ bm
    have cc2 := S0.out _ bw
    have cc3 := S0.out _ (bw.alloc bw.size (.cells #[.int .i64 (m : Int), .int .i64 (k : Int), (.slice A2 L.length c2)] 34))
    obtain ⟨o1, l1, m1⟩ := boxL (m := m) (k := k) bw E2
    have F := Lib.hid (And.intro l1 m1)
    replace r2 := Lib.hid r2
    clear E2 b2 bw bm bd l1 m1
    refine wpAnyH_take (i := 0) (v := (.pointer (some ⟨b, 0, none⟩))) rfl (by kernel_rfl) (by kernel_rfl) (by kernel_rfl) (fun _ _ _ h => h) (Or.inl ⟨by rfl, ?_⟩) hHeld ?_
    · intro w hSw; go_simp
    try simp only [List.getElem_toArray, List.getElem_cons_zero, List.getElem_cons_succ, Act.put, List.setIfInBounds_toArray, List.set_cons_zero, List.set_cons_succ]
    refine wpAnyH_take (i := 1) (v := (.pointer (some ⟨b, 0, none⟩))) rfl (by kernel_rfl) (by kernel_rfl) (by kernel_rfl) (fun _ _ _ h => h) (Or.inl ⟨by rfl, ?_⟩) hHeld ?_
    · intro w hSw; go_simp
    try simp only [List.getElem_toArray, List.getElem_cons_zero, List.getElem_cons_succ, Act.put, List.setIfInBounds_toArray, List.set_cons_zero, List.set_cons_succ]
    refine wpAnyH_take (i := 2) (v := (.pointer (some ⟨b, 0, none⟩))) rfl (by kernel_rfl) (by kernel_rfl) (by kernel_rfl) (fun _ _ _ h => h) (Or.inl ⟨by rfl, ?_⟩) hHeld ?_
    · intro w hSw; go_simp
    try simp only [List.getElem_toArray, List.getElem_cons_zero, List.getElem_cons_succ, Act.put, List.setIfInBounds_toArray, List.set_cons_zero, List.set_cons_succ]
    refine wpAnyH_take (i := 3) (v := (.int .i64 (m : Int))) rfl (by kernel_rfl) (by kernel_rfl) (by kernel_rfl) (fun _ _ _ h => h) (Or.inl ⟨by rfl, ?_⟩) hHeld ?_
    · intro w hSw; obtain ⟨s0, s1, s2⟩ := hSw; go_simp
    try simp only [List.getElem_toArray, List.getElem_cons_zero, List.getElem_cons_succ, Act.put, List.setIfInBounds_toArray, List.set_cons_zero, List.set_cons_succ]
    refine wpAnyH_take (i := 4) (v := (.pointer (some ⟨b, 0, none⟩))) rfl (by kernel_rfl) (by kernel_rfl) (by kernel_rfl) (fun _ _ _ h => h) (Or.inl ⟨by rfl, ?_⟩) hHeld ?_
    · intro w hSw; go_simp
    try simp only [List.getElem_toArray, List.getElem_cons_zero, List.getElem_cons_succ, Act.put, List.setIfInBounds_toArray, List.set_cons_zero, List.set_cons_succ]
    refine wpAnyH_take (i := 5) (v := (.pointer (some ⟨b, 0, none⟩))) rfl (by kernel_rfl) (by kernel_rfl) (by kernel_rfl) (fun _ _ _ h => h) (Or.inl ⟨by rfl, ?_⟩) hHeld ?_
    · intro w hSw; go_simp
    try simp only [List.getElem_toArray, List.getElem_cons_zero, List.getElem_cons_succ, Act.put, List.setIfInBounds_toArray, List.set_cons_zero, List.set_cons_succ]
    refine wpAnyH_take (i := 6) (v := (.pointer (some ⟨b, 1, none⟩))) rfl (by kernel_rfl) (by kernel_rfl) (by kernel_rfl) (fun _ _ _ h => h) (Or.inl ⟨by rfl, ?_⟩) hHeld ?_
    · intro w hSw; go_simp
    try simp only [List.getElem_toArray, List.getElem_cons_zero, List.getElem_cons_succ, Act.put, List.setIfInBounds_toArray, List.set_cons_zero, List.set_cons_succ]
    refine wpAnyH_take (i := 7) (v := (.int .i64 (k : Int))) rfl (by kernel_rfl) (by kernel_rfl) (by kernel_rfl) (fun _ _ _ h => h) (Or.inl ⟨by rfl, ?_⟩) hHeld ?_
    · intro w hSw; obtain ⟨s0, s1, s2⟩ := hSw; go_simp
    try simp only [List.getElem_toArray, List.getElem_cons_zero, List.getElem_cons_succ, Act.put, List.setIfInBounds_toArray, List.set_cons_zero, List.set_cons_succ]
    refine wpAnyH_take (i := 9) (v := (.pointer (some ⟨b, 0, none⟩))) rfl (by kernel_rfl) (by kernel_rfl) (by kernel_rfl) (fun _ _ _ h => h) (Or.inl ⟨by rfl, ?_⟩) hHeld ?_
    · intro w hSw; go_simp
    try simp only [List.getElem_toArray, List.getElem_cons_zero, List.getElem_cons_succ, Act.put, List.setIfInBounds_toArray, List.set_cons_zero, List.set_cons_succ]
    refine wpAnyH_take (i := 10) (v := (.pointer (some ⟨b, 0, none⟩))) rfl (by kernel_rfl) (by kernel_rfl) (by kernel_rfl) (fun _ _ _ h => h) (Or.inl ⟨by rfl, ?_⟩) hHeld ?_
    · intro w hSw; go_simp
    try simp only [List.getElem_toArray, List.getElem_cons_zero, List.getElem_cons_succ, Act.put, List.setIfInBounds_toArray, List.set_cons_zero, List.set_cons_succ]
    refine wpAnyH_take (i := 11) (v := (.pointer (some ⟨b, 2, none⟩))) rfl (by kernel_rfl) (by kernel_rfl) (by kernel_rfl) (fun _ _ _ h => h) (Or.inl ⟨by rfl, ?_⟩) hHeld ?_
    · intro w hSw; go_simp
    try simp only [List.getElem_toArray, List.getElem_cons_zero, List.getElem_cons_succ, Act.put, List.setIfInBounds_toArray, List.set_cons_zero, List.set_cons_succ]
    refine wpAnyH_take (i := 12) (v := v) rfl (by kernel_rfl) (by kernel_rfl) (by kernel_rfl) (fun _ _ _ h => h) (Or.inl ⟨by rfl, ?_⟩) hHeld ?_
    · intro w hSw; obtain ⟨s0, s1, s2⟩ := hSw; go_simp
    try simp only [List.getElem_toArray, List.getElem_cons_zero, List.getElem_cons_succ, Act.put, List.setIfInBounds_toArray, List.set_cons_zero, List.set_cons_succ]
    refine wpAnyH_ready (rs := [8]) (by kernel_rfl) (by simp) ?_
    refine AllReadyH.cons rfl (fun K hK => ?_) AllReadyH.nil
    clear hHeld
    go_simp
    refine hK.out _ _ cc1 (fun hHeld => ?_)
    clear hK K
    try simp only [List.getElem_toArray, List.getElem_cons_zero, List.getElem_cons_succ, Act.put, List.setIfInBounds_toArray, List.set_cons_zero, List.set_cons_succ]
    refine wpAnyH_ready (rs := [13]) (by kernel_rfl) (by simp) ?_
    refine AllReadyH.cons rfl (fun K hK => ?_) AllReadyH.nil
    clear hHeld
    refine step_appendM rfl (.tmp 17) (.tmp 21) 31 31 rfl (.slice (some ⟨w.heap.size, 0, none⟩) 0 0) v (by rfl) (by rfl) r2.out ?_
    refine hK.out _ _ cc2 (fun hHeld => ?_)
    clear hK K
    try simp only [List.getElem_toArray, List.getElem_cons_zero, List.getElem_cons_succ, Act.put, List.setIfInBounds_toArray, List.set_cons_zero, List.set_cons_succ]
    refine wpAnyH_take (i := 14) (v := (.agg #[.int .i64 (m : Int), .int .i64 (k : Int), (.slice A2 L.length c2)])) rfl (by kernel_rfl) (by kernel_rfl) (by kernel_rfl) (fun _ _ _ h => h) (Or.inl ⟨by rfl, ?_⟩) hHeld ?_
    · intro w hSw; go_simp
    try simp only [List.getElem_toArray, List.getElem_cons_zero, List.getElem_cons_succ, Act.put, List.setIfInBounds_toArray, List.set_cons_zero, List.set_cons_succ]
    refine wpAnyH_ready (rs := [15]) (by kernel_rfl) (by simp) ?_
    refine AllReadyH.cons rfl (fun K hK => ?_) AllReadyH.nil
    clear hHeld
    go_simp
    refine hK.out _ _ cc3 (fun hHeld => ?_)
    clear hK K
    try simp only [List.getElem_toArray, List.getElem_cons_zero, List.getElem_cons_succ, Act.put, List.setIfInBounds_toArray, List.set_cons_zero, List.set_cons_succ]
    refine wpAnyH_take (i := 16) (v := (.pointer (some ⟨w2.heap.size, 0, none⟩))) rfl (by kernel_rfl) (by kernel_rfl) (by kernel_rfl) (fun _ _ _ h => h) (Or.inl ⟨by rfl, ?_⟩) hHeld ?_
    · intro w hSw; go_simp
    try simp only [List.getElem_toArray, List.getElem_cons_zero, List.getElem_cons_succ, Act.put, List.setIfInBounds_toArray, List.set_cons_zero, List.set_cons_succ]
    refine wpAnyH_done (by kernel_rfl) ?_ _
    clear hHeld r2 cc1 cc2 cc3 hsd
    generalize w2.alloc (.cells #[.int .i64 (m : Int), .int .i64 (k : Int), (.slice A2 L.length c2)] 34) = w3 at *
    generalize w2.heap.size = B at *
    have HM := Lib.hid H.out.2.2
    have HL := Lib.hid H.out.2.1
    clear H S0
    go_wp2
    go_loopw [6] (fun s6 wr => ∃ (i : Nat) (o' : Nat → Nat) (v' : Value), s6 = .int .i64 (i : Int) ∧ i ≤ M ∧ Hid (Lw w o' wr ∧ Rm o' 1 wr B m k v' (L ++ List.replicate i false) ∧ mayB m k L i = true)) (fun st _ => M - (intOf st).toNat)
    case atStart => exact ⟨0, o1, _, rfl, by omega, Lib.hid ⟨F.out.1, by rw [List.replicate_zero, List.append_nil]; exact F.out.2, rfl⟩⟩
    case round =>
      obtain ⟨i, o', v', rfl, hi, G⟩ := hrel
      clear F
      rcases Nat.lt_or_ge i M with hlt | hge
      · have z1 : (i : Int) < n := (hMn i).2 hlt
        obtain ⟨ra, hra⟩ : ∃ ra, addB m k (L ++ List.replicate (i + 1) false) = ra := ⟨_, rfl⟩
        have C := Lib.hid (rmadd false ra _ G.out.2.1 (by have := HL.out; rw [List.length_append, List.length_replicate]; omega) hm hk1 hk (rep_snoc L i) hra)
        have hnx : mayB m k L (i + 1) = ra := by rw [mayB_next, G.out.2.2, hra]; rfl
        replace hnx := Lib.hid hnx
        clear hra
        go_wp2_with fail
        refine C.out.mono ?_
        rintro e w4 ⟨rfl, o4, v4, st4, m4⟩
        have G4 := Lib.hid (And.intro (G.out.1.step st4 (by decide)) m4)
        clear C st4 m4 G
        cases ra with
        | true =>
          go_wp2
          go_roundw
          case rel => exact ⟨i + 1, o4, v4, by simp, by omega, Lib.hid ⟨G4.out.1, G4.out.2, hnx.out⟩⟩
          case measure => simp [intOf]; omega
        | false =>
          obtain rfl : false = r := by
            rw [← HM.out, show (M : Nat) = i + 1 + (M - (i + 1)) by omega]
            exact (mayB_down hnx.out _).symm
          go_wp2
          go_ret
          exact ⟨rfl, G4.out.1.below⟩
      · have hiM : i = M := by omega
        have z1 : decide ((i : Int) < n) = false := decide_eq_false (fun h => by have := (hMn i).1 h; omega)
        obtain rfl : true = r := by rw [← HM.out, ← hiM, G.out.2.2]
        clear hiM hge hi
        try clear hMn
        go_wp2
        go_ret
        exact ⟨rfl, G.out.1.below⟩
end
end Go.Proofs.Ytecjblcdiabkcaa
