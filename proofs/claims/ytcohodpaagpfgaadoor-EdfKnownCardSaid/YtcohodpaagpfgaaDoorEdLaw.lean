/- What the statements of layer 10 take and ask: needs as an argument, ints, lefts. -/
import Derived.Test.YtcohodpaagpfgaaDoorEdRef2
import Derived.Test.YtcohodpaagpfgaaDoorEdSort
import Derived.Test.YtcohodpaagpfgaaDoorJbLaw
import Derived.Test.YtcohodpaagpfgaaDoorTicks
import Derived.Lib.AppendZerosOnto
import Derived.Deep.RegionHeld3
namespace Go.Proofs.YtcohodpaagpfgaaDoor
open Go.RowKit Go.Lib Go.ChangeShapes Go.WideShapes Go.ChangeAt Go.Deep
set_option linter.unusedVariables false
set_option linter.unusedSimpArgs false
set_option maxRecDepth 100000

theorem step_appendE {P : Program} {ops : Array Oper} {o : Oper} {a : Act} {w : World} {K : Act → World → Prop} {Q : Exit → Act → World → Prop} {E : Prop}
    (hg : o.guard = none) (d x : Operand) (dT sT : TypeId) (hop : o.op = Op.call { callee := Callee.builtin Builtin.append, args := #[d, x], argTypes := #[dT, sT] })
    (v u : Value) (hd : a.eval d = v) (hx : a.eval x = u) {v' : Value} {w' : World} (hr : (Builtin.append_ #[dT, sT] o.type #[v, u]).run P w = .ok v' w') (hK : K (a.put o.dst v') w') :
    if Region.wanted o (yielded ops a.tmps) = true then Oper.wp P o a w K Q else E := by
  have hw : Region.wanted o (yielded ops a.tmps) = true := by simp [Region.wanted, hg]
  rw [if_pos hw]
  exact Lib.wp_append_run w d x dT sT hop v u hd hx v' w' hr hK
theorem Tryd.cellsLf : Tryd.prog.cellsOf 35 = 2 := by kernel_rfl
section
variable {H : Type} {enc : TypeId × Value → H}
theorem list_two {α : Type} {l : List α} (h : l.length = 2) : ∃ a b, l = [a, b] := by
  match l, h with
  | [a, b], _ => exact ⟨a, b, rfl⟩
theorem lf_cells {W : World} {base fuel : Nat} {spare : Nat → Bool} {held : Bool} {cs : List Value} {x : DataW H × List MemPlace} (hlen : cs.length = 2) (h : DataW.trod enc Tryd.prog W base spare held fuel 35 cs = some x) :
    ∃ q : Lf, cs = [.int .i64 q.dl, .int .i64 q.need] := by
  obtain ⟨xs, k, hk, hxy, _, hxl, hfd⟩ := DataW.trod_struct Tryd.underlying35 h
  obtain ⟨y0, y1, rfl⟩ := list_two (l := xs) (by simpa using hxl)
  obtain ⟨v0, v1, rfl⟩ := list_two hlen
  have g0 := hfd 0 _ rfl
  have g1 := hfd 1 _ rfl
  simp [Tryd.cellsI1] at g0 g1
  obtain ⟨z0, e0, _, _⟩ := DataW.trod_int Tryd.underlying3 g0
  obtain ⟨z1, e1, _, _⟩ := DataW.trod_int Tryd.underlying3 g1
  simp only [List.cons.injEq, and_true] at e0 e1
  exact ⟨⟨z0, z1⟩, by rw [e0, e1]⟩
theorem open_lefts {W : World} {v : Value} {d : DataW H} {p : List MemPlace} {r : Reach} {b0 : Nat} (hval : Value.okWide Tryd.prog W r b0 33 v) (h : DataW.Trod enc Tryd.prog W 0 (fun _ => true) true 33 v d p) :
    ∃ (A : Option Addr) (c : Nat) (l : List Lf), v = .slice A l.length c ∧ l.length ≤ c ∧ c ≤ 9223372036854775807 ∧ RdL W A l ∧ ((A = none ∧ c = 0 ∧ l = []) ∨ ∃ ad, A = some ad) := by
  obtain ⟨a0, len, cap, rfl⟩ := okWide_slice Tryd.underlying33 hval
  obtain ⟨fuel, hf⟩ := h
  rcases open_slice Tryd.underlying33 hf with ⟨hcs, hx⟩ | ⟨a, len', cap', m, n, D, Pl, hcs, _, hl, hm, hmm, _, hx⟩
  · simp [Value.cells] at hcs
    obtain ⟨rfl, rfl, rfl⟩ := hcs
    exact ⟨none, 0, [], rfl, by simp, by decide, fun k x hk => by simp at hk, .inl ⟨rfl, rfl, rfl⟩⟩
  · simp [Value.cells] at hcs
    obtain ⟨rfl, rfl, rfl⟩ := hcs
    simp only [if_true] at hmm
    subst hmm
    unfold maxLen at hm
    have each : ∀ i, i < m → ∃ q : Lf, ∀ j u, [Value.int .i64 q.dl, .int .i64 q.need][j]? = some u → W.cell? (a.add (i * 2 + j)) = some u := by
      intro i hi
      obtain ⟨cs', h1, h2⟩ := hx i hi
      rw [Tryd.cellsLf] at h1
      obtain ⟨_, hlen, hcell⟩ := World.cells?_some h1
      obtain ⟨q, rfl⟩ := lf_cells (by simpa using hlen) h2
      refine ⟨q, fun j u hu => ?_⟩
      have hj := (List.getElem?_eq_some_iff.1 hu).1
      have e := hcell j (by simpa using hj)
      rw [add_add] at e
      rw [e, hu]
    obtain ⟨q, hq⟩ := choose_lt each
    refine ⟨some a, m, (List.range len).map q, by simp, by simp; omega, by omega, fun k x hk => ?_, .inr ⟨a, rfl⟩⟩
    have hkl : k < len := by have := (List.getElem?_eq_some_iff.1 hk).1; simpa using this
    rw [List.getElem?_map, List.getElem?_range hkl] at hk
    simp at hk
    subst hk
    obtain ⟨b, off, spot⟩ := a
    have hspot : spot = none := by simpa [Addr.add] using World.cell?_spot (hq 0 (by omega) 0 _ rfl)
    subst hspot
    have hh := hq k (by omega)
    simp only [addr_add_plain, ← Nat.add_assoc] at hh
    exact ⟨b, off, rfl, by simpa using hh 0 _ rfl, hh 1 _ rfl⟩
end
set_option maxHeartbeats 1600000 in
theorem ints10_any (A1 A2 : Option Addr) (c1 c2 : Nat) (l : List Int) (n : Nat) (w : World) (hl : n ≤ 1000000) (hn : l.length = n) (h1 : RdT w A1 l) (h2 : RdT w A2 l) (k1 : n ≤ c1) (k2 : n ≤ c2) (m1 : c1 ≤ 9223372036854775807) (m2 : c2 ≤ 9223372036854775807) :
    Calls Tryd.prog 10 #[.slice A1 n c1, .slice A2 n c2] w (Ret (.bool true) w) := by
  replace h1 := Lib.hid h1
  replace h2 := Lib.hid h2
  replace hn := Lib.hid hn
  have e5 : ((n : Int) != (n : Int)) = false := by simp
  go_enter Tryd.func10, Tryd.ntmps10
  go_wp2
  clear e5
  go_loopw [5] (fun st wr => ∃ (j : Nat) (k : Nat), st = .int .i64 (j : Int) ∧ j ≤ n ∧ wr = w.drewN k) (fun st _ => n - (intOf st).toNat)
  case atStart => exact ⟨0, 0, rfl, by omega, rfl⟩
  case round =>
    obtain ⟨j, k, rfl, hj, rfl⟩ := hrel
    rcases Nat.lt_or_ge j n with hlt | hge
    · obtain ⟨x, hx⟩ : ∃ x, l[j]? = some x := ⟨_, List.getElem?_eq_getElem (by rw [hn.out]; exact hlt)⟩
      obtain ⟨g, o, rfl, d0⟩ := h1.out j _ hx
      obtain ⟨g', o', rfl, y0⟩ := h2.out j _ hx
      have q1 : (j : Int) < (n : Int) := by omega
      have q2 : (0 : Int) ≤ (j : Int) := by omega
      have q3 : (x != x) = false := by simp
      clear hx
      go_wp2
      go_quiet (fail)
      go_wp2
      go_roundw
      case rel => exact ⟨j + 1, _, by simp, by omega, rfl⟩
      case measure => simp [intOf]; omega
    · obtain rfl : j = n := by omega
      go_wp2
      go_ret
      exact ⟨rfl, _, rfl⟩
theorem cellsF_next {l : List Lf} {i : Nat} {x : Lf} (h : l[i]? = some x) : cellsF (l.take (i + 1)) = cellsF (l.take i) ++ [.int .i64 x.dl, .int .i64 x.need] := by
  unfold cellsF; rw [List.take_add_one, h]; simp [encF]
theorem ownF_rdL {w : World} {base n : Nat} {e : TypeId} {v : Value} {l : List Lf} (h : w.ownsRow base e 2 v n (cellsF l)) :
    ∃ A c, v = .slice A l.length c ∧ l.length ≤ c ∧ c ≤ 9223372036854775807 ∧ RdL w A l := by
  have hn : n = l.length := by have := h.1; rw [cellsF_length] at this; omega
  subst hn
  rcases h.2 with ⟨rfl, h0⟩ | ⟨g, cap, cur, rfl, _, _, h1, h2, _⟩
  · refine ⟨none, 0, by simp [h0], by omega, by decide, fun k x hx => ?_⟩
    rw [List.eq_nil_of_length_eq_zero h0] at hx; simp at hx
  · refine ⟨some ⟨g, 0, none⟩, cap, rfl, h1, by unfold maxLen at h2; omega, fun k x hx => ⟨g, 0, rfl, ?_, ?_⟩⟩
    · have hk := (List.getElem?_eq_some_iff.1 hx).1
      rw [Nat.zero_add, h.cellAt _ (by omega)]
      exact (cellsF_get l k x hx).1
    · have hk := (List.getElem?_eq_some_iff.1 hx).1
      rw [Nat.zero_add, h.cellAt _ (by omega)]
      exact (cellsF_get l k x hx).2
theorem newsF (w : World) (x y : Value) (e : TypeId) (B : Nat) (hB : w.heap.size = B) : ∀ j u, ([x, y] : List Value)[j]? = some u → (w.alloc (.cells #[x, y] e)).cell? ((⟨B, 0, none⟩ : Addr).add j) = some u := by
  intro j u hj
  subst hB
  rw [Addr.add_lit]
  match j, hj with
  | 0, hj => simp at hj; subst hj; simp
  | 1, hj => simp at hj; subst hj; simp
theorem twoF (x y : Int) : ∀ u ∈ [Value.int .i64 x, Value.int .i64 y], u.oneCell' = true := by intro u hu; simp at hu; rcases hu with rfl | rfl <;> rfl
theorem Tryd.infoRL : (Tryd.prog.info? 56).map (fun i => (i.zero, i.size, i.bytes)) = some (some (.agg #[.int .i64 0, .int .i64 0]), 2, 16) := by kernel_rfl
set_option maxHeartbeats 3200000 in
theorem lefts_any (A : Option Addr) (cap : Nat) (l : List Lf) (w : World) (hn : l.length ≤ 1000) (hcap : cap ≤ 9223372036854775807) (hlc : l.length ≤ cap) (hR : RdL w A l) :
    Calls Tryd.prog 17 #[.slice A l.length cap] w (fun e w' => ∃ A' c, e = .returned (.slice A' l.length c) ∧ l.length ≤ c ∧ c ≤ 9223372036854775807 ∧ RdL w' A' l ∧ Below w.heap.size w w') := by
  obtain ⟨i0, hi0, hz0, hz1, hz2⟩ := info_parts Tryd.infoRL
  obtain ⟨n, hl⟩ : ∃ n, l.length = n := ⟨_, rfl⟩
  rw [hl] at hn hlc ⊢
  have H := Lib.hid (And.intro hl hR)
  clear hl hR
  go_enter Tryd.func17, Tryd.ntmps17
  go_wp2
  go_loopw [3, 4] (fun v st wr => ∃ (i : Nat), st = .int .i64 (i : Int) ∧ i ≤ n ∧ Hid (wr.ownsRow w.heap.size 56 2 v i (cellsF (l.take i)) ∧ Below w.heap.size w wr)) (fun _ st _ => n - (intOf st).toNat)
  case atStart => exact ⟨0, rfl, by omega, Lib.hid ⟨World.ownsRow_nil _ _ _ _, Below.refl _ _⟩⟩
  case round =>
    obtain ⟨i, rfl, hin, K⟩ := hrel
    rcases Nat.lt_or_ge i n with hlt | hge
    · have d1 : decide ((i : Int) < (n : Int)) = true := decide_eq_true (by omega)
      have e1 : IntKind.i64.wrap ((i : Int) + 1) = ((i + 1 : Nat) : Int) := by rw [IntKind.wrap_i64]; omega
      have b1 : (i : Int) < (n : Int) := by omega
      have b0 : (0 : Int) ≤ (i : Int) := by omega
      obtain ⟨x, hx⟩ : ∃ x, l[i]? = some x := ⟨_, List.getElem?_eq_getElem (by rw [H.out.1]; exact hlt)⟩
      obtain ⟨B, off, rfl, w0, w1⟩ := H.out.2 i x hx
      obtain ⟨B', off', he, c0, c1⟩ := (H.out.2.below K.out.2) i x hx
      cases he
      have cw := And.intro w0 w1
      have hBw0 : B < w.heap.size := cell_lt w0
      clear w0 w1
      have K2 : Hid (cellsF (l.take (i + 1)) = cellsF (l.take i) ++ [.int .i64 x.dl, .int .i64 x.need]) := cellsF_next hx
      clear hx
      obtain ⟨d, nd⟩ := x
      simp only at c0 c1 K2 cw
      obtain ⟨A3, c3, hv3, _⟩ := ownF_rdL K.out.1
      rw [List.length_take, Nat.min_eq_left (by rw [H.out.1]; omega)] at hv3
      subst hv3
      have K3 : Hid (wr.drew.ownsRow w.heap.size 56 2 (.slice A3 i c3) i (cellsF (l.take i)) ∧ Below w.heap.size w wr.drew) := ⟨K.out.1, K.out.2.drew⟩
      have cc : wr.drew.cell? ⟨B, off + i * 2, none⟩ = some (.int .i64 d) ∧ wr.drew.cell? ⟨B, off + i * 2 + 1, none⟩ = some (.int .i64 nd) := ⟨c0, c1⟩
      clear K c0 c1
      go_wp2
      refine wp_region_held_drew (S := fun W => W.cell? ⟨B, off + i * 2, none⟩ = some (.int .i64 d) ∧ W.cell? ⟨B, off + i * 2 + 1, none⟩ = some (.int .i64 nd)) (by kernel_rfl) cc (fun hHeld => ?_)
      have bm : Below wr.drew.heap.size wr.drew (wr.drew.alloc (.cells #[.int .i64 d, .int .i64 nd] 56)) := (Below.refl _ _).alloc (Nat.le_refl _) _
      have hsz : w.heap.size ≤ wr.drew.heap.size := K3.out.2.size
      have hsB : B < wr.drew.heap.size := cell_lt cc.1
      obtain ⟨v', w4, hr, hown', hgrow', _, _⟩ := run_append_own_at (P := Tryd.prog) (wr.drew.alloc (.cells #[.int .i64 d, .int .i64 nd] 56)) w.heap.size 40 40 56 i0 _ 2 16 Tryd.underlying40 hi0 hz0 hz1 hz2 rfl (by decide) (.slice A3 i c3) i _ (K3.out.1.alloc _) ⟨wr.drew.heap.size, 0, none⟩ 1 1 [.int .i64 d, .int .i64 nd] rfl (newsF _ _ _ _ _ rfl) (twoF _ _) (by unfold maxLen; omega) (by omega) (by rw [World.size_alloc]; omega)
      have hb4 : Below w.heap.size w w4 := (K3.out.2.alloc hsz _).grown hgrow' (by rw [World.size_alloc]; omega) (fun j hj => (K3.out.1.lt _ hj).1)
      have cc2 : (wr.drew.alloc (.cells #[.int .i64 d, .int .i64 nd] 56)).cell? ⟨B, off + i * 2, none⟩ = some (.int .i64 d) ∧ (wr.drew.alloc (.cells #[.int .i64 d, .int .i64 nd] 56)).cell? ⟨B, off + i * 2 + 1, none⟩ = some (.int .i64 nd) := ⟨by rw [bm.cell (p := ⟨B, off + i * 2, none⟩) hsB]; exact cc.1, by rw [bm.cell (p := ⟨B, off + i * 2 + 1, none⟩) hsB]; exact cc.2⟩
      have hBw : B < w.heap.size := hBw0
      have cc4 : w4.cell? ⟨B, off + i * 2, none⟩ = some (.int .i64 d) ∧ w4.cell? ⟨B, off + i * 2 + 1, none⟩ = some (.int .i64 nd) := ⟨by rw [hb4.cell (p := ⟨B, off + i * 2, none⟩) hBw]; exact cw.1, by rw [hb4.cell (p := ⟨B, off + i * 2 + 1, none⟩) hBw]; exact cw.2⟩
      rw [← K2.out] at hown'
      have T := Lib.hid (And.intro hown' hb4)
      replace hr := Lib.hid hr
      clear hown' hgrow' hb4 K3 K2 hsz bm hsB hBw cw hBw0
      generalize wr.drew = wq at *
      refine wpAnyH_take (i := 0) (v := (.slice A3 i c3)) rfl (by kernel_rfl) (by kernel_rfl) (by kernel_rfl) (fun _ _ _ h => h) (Or.inl ⟨by rfl, ?_⟩) hHeld ?_
      · intro w hSw; go_simp
      try simp only [List.getElem_toArray, List.getElem_cons_zero, List.getElem_cons_succ, Act.put, List.setIfInBounds_toArray, List.set_cons_zero, List.set_cons_succ]
      refine wpAnyH_take (i := 1) (v := (.slice (some ⟨B, off, none⟩) n cap)) rfl (by kernel_rfl) (by kernel_rfl) (by kernel_rfl) (fun _ _ _ h => h) (Or.inl ⟨by rfl, ?_⟩) hHeld ?_
      · intro w hSw; go_simp
      try simp only [List.getElem_toArray, List.getElem_cons_zero, List.getElem_cons_succ, Act.put, List.setIfInBounds_toArray, List.set_cons_zero, List.set_cons_succ]
      refine wpAnyH_take (i := 2) (v := (.int .i64 (i : Int))) rfl (by kernel_rfl) (by kernel_rfl) (by kernel_rfl) (fun _ _ _ h => h) (Or.inl ⟨by rfl, ?_⟩) hHeld ?_
      · intro w hSw; go_simp
      try simp only [List.getElem_toArray, List.getElem_cons_zero, List.getElem_cons_succ, Act.put, List.setIfInBounds_toArray, List.set_cons_zero, List.set_cons_succ]
      refine wpAnyH_take (i := 3) (v := (.pointer (some ⟨B, off + i * 2, none⟩))) rfl (by kernel_rfl) (by kernel_rfl) (by kernel_rfl) (fun _ _ _ h => h) (Or.inl ⟨by rfl, ?_⟩) hHeld ?_
      · intro w hSw; go_simp
      try simp only [List.getElem_toArray, List.getElem_cons_zero, List.getElem_cons_succ, Act.put, List.setIfInBounds_toArray, List.set_cons_zero, List.set_cons_succ]
      refine wpAnyH_take (i := 4) (v := (.pointer (some ⟨B, off + i * 2, none⟩))) rfl (by kernel_rfl) (by kernel_rfl) (by kernel_rfl) (fun _ _ _ h => h) (Or.inl ⟨by rfl, ?_⟩) hHeld ?_
      · intro w hSw; go_simp
      try simp only [List.getElem_toArray, List.getElem_cons_zero, List.getElem_cons_succ, Act.put, List.setIfInBounds_toArray, List.set_cons_zero, List.set_cons_succ]
      refine wpAnyH_take (i := 5) (v := (.int .i64 d)) rfl (by kernel_rfl) (by kernel_rfl) (by kernel_rfl) (fun _ _ _ h => h) (Or.inl ⟨by rfl, ?_⟩) hHeld ?_
      · intro w hSw; obtain ⟨s0, s1⟩ := hSw; go_simp
      try simp only [List.getElem_toArray, List.getElem_cons_zero, List.getElem_cons_succ, Act.put, List.setIfInBounds_toArray, List.set_cons_zero, List.set_cons_succ]
      refine wpAnyH_take (i := 6) (v := (.slice (some ⟨B, off, none⟩) n cap)) rfl (by kernel_rfl) (by kernel_rfl) (by kernel_rfl) (fun _ _ _ h => h) (Or.inl ⟨by rfl, ?_⟩) hHeld ?_
      · intro w hSw; go_simp
      try simp only [List.getElem_toArray, List.getElem_cons_zero, List.getElem_cons_succ, Act.put, List.setIfInBounds_toArray, List.set_cons_zero, List.set_cons_succ]
      refine wpAnyH_take (i := 7) (v := (.int .i64 (i : Int))) rfl (by kernel_rfl) (by kernel_rfl) (by kernel_rfl) (fun _ _ _ h => h) (Or.inl ⟨by rfl, ?_⟩) hHeld ?_
      · intro w hSw; go_simp
      try simp only [List.getElem_toArray, List.getElem_cons_zero, List.getElem_cons_succ, Act.put, List.setIfInBounds_toArray, List.set_cons_zero, List.set_cons_succ]
      refine wpAnyH_take (i := 8) (v := (.pointer (some ⟨B, off + i * 2, none⟩))) rfl (by kernel_rfl) (by kernel_rfl) (by kernel_rfl) (fun _ _ _ h => h) (Or.inl ⟨by rfl, ?_⟩) hHeld ?_
      · intro w hSw; go_simp
      try simp only [List.getElem_toArray, List.getElem_cons_zero, List.getElem_cons_succ, Act.put, List.setIfInBounds_toArray, List.set_cons_zero, List.set_cons_succ]
      refine wpAnyH_take (i := 9) (v := (.pointer (some ⟨B, off + i * 2 + 1, none⟩))) rfl (by kernel_rfl) (by kernel_rfl) (by kernel_rfl) (fun _ _ _ h => h) (Or.inl ⟨by rfl, ?_⟩) hHeld ?_
      · intro w hSw; go_simp
      try simp only [List.getElem_toArray, List.getElem_cons_zero, List.getElem_cons_succ, Act.put, List.setIfInBounds_toArray, List.set_cons_zero, List.set_cons_succ]
      refine wpAnyH_take (i := 10) (v := (.int .i64 nd)) rfl (by kernel_rfl) (by kernel_rfl) (by kernel_rfl) (fun _ _ _ h => h) (Or.inl ⟨by rfl, ?_⟩) hHeld ?_
      · intro w hSw; obtain ⟨s0, s1⟩ := hSw; go_simp
      try simp only [List.getElem_toArray, List.getElem_cons_zero, List.getElem_cons_succ, Act.put, List.setIfInBounds_toArray, List.set_cons_zero, List.set_cons_succ]
      refine wpAnyH_take (i := 11) (v := (.agg #[.int .i64 d, .int .i64 nd])) rfl (by kernel_rfl) (by kernel_rfl) (by kernel_rfl) (fun _ _ _ h => h) (Or.inl ⟨by rfl, ?_⟩) hHeld ?_
      · intro w hSw; go_simp
      try simp only [List.getElem_toArray, List.getElem_cons_zero, List.getElem_cons_succ, Act.put, List.setIfInBounds_toArray, List.set_cons_zero, List.set_cons_succ]
      refine wpAnyH_ready (rs := [12]) (by kernel_rfl) (by simp) ?_
      refine AllReadyH.cons rfl (fun K hK => ?_) AllReadyH.nil
      clear hHeld
      go_simp
      refine hK.out _ _ cc2 (fun hHeld => ?_)
      clear hK K
      try simp only [List.getElem_toArray, List.getElem_cons_zero, List.getElem_cons_succ, Act.put, List.setIfInBounds_toArray, List.set_cons_zero, List.set_cons_succ]
      refine wpAnyH_ready (rs := [13]) (by kernel_rfl) (by simp) ?_
      refine AllReadyH.cons rfl (fun K hK => ?_) AllReadyH.nil
      clear hHeld
      refine step_appendE rfl (.tmp 11) (.tmp 23) 40 40 rfl (.slice A3 i c3) (.slice (some ⟨wq.heap.size, 0, none⟩) 1 1) (by rfl) (by rfl) hr.out ?_
      refine hK.out _ _ cc4 (fun hHeld => ?_)
      clear hK K
      try simp only [List.getElem_toArray, List.getElem_cons_zero, List.getElem_cons_succ, Act.put, List.setIfInBounds_toArray, List.set_cons_zero, List.set_cons_succ]
      refine wpAnyH_take (i := 14) (v := v') rfl (by kernel_rfl) (by kernel_rfl) (by kernel_rfl) (fun _ _ _ h => h) (Or.inl ⟨by rfl, ?_⟩) hHeld ?_
      · intro w hSw; go_simp
      try simp only [List.getElem_toArray, List.getElem_cons_zero, List.getElem_cons_succ, Act.put, List.setIfInBounds_toArray, List.set_cons_zero, List.set_cons_succ]
      refine wpAnyH_done (by kernel_rfl) ?_ _
      clear hr cc cc2 cc4
      go_wp2
      go_roundw
      case rel => exact ⟨i + 1, by first | rfl | simp, by omega, T⟩
      case measure => simp [intOf]; omega
    · have d1 : decide ((i : Int) < (n : Int)) = false := decide_eq_false (by omega)
      obtain rfl : i = n := by omega
      have h1 := K.out.1
      rw [List.take_of_length_le (by rw [H.out.1]; exact Nat.le_refl _)] at h1
      obtain ⟨A', c, hv, k1, k2, k3⟩ := ownF_rdL h1
      subst hv
      have T := Lib.hid (And.intro k3 K.out.2)
      rw [H.out.1] at k1
      clear K h1 k3
      go_wp2
      go_ret
      exact ⟨A', c, by first | rfl | (rw [H.out.1]; done) | (rw [H.out.1]; rfl), k1, k2, T.out.1, T.out.2⟩
end Go.Proofs.YtcohodpaagpfgaaDoor
