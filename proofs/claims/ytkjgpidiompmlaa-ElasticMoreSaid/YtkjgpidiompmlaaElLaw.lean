/- What the statements of layer 13 take and ask: springs in memory, as an argument, own. (Written by genel.py.) -/
import Derived.Test.YtkjgpidiompmlaaElPress
import Derived.Test.YtkjgpidiompmlaaOwn
import Derived.Test.YtkjgpidiompmlaaReads
import Derived.Test.YtkjgpidiompmlaaRegT
import Derived.Lib.AppendZerosOnto
import Derived.Deep.Slices
import Derived.Maps.OwnOps
import Derived.Maps.OwnSet
import Derived.Maps.Views
import Derived.MapViews
import Derived.Deep.RegionHeld3
namespace Go.Proofs.Ytkjgpidiompmlaa
open Go.RowKit Go.Lib Go.ChangeShapes Go.WideShapes Go.ChangeAt Go.Deep
set_option linter.unusedVariables false
set_option linter.unusedSimpArgs false
set_option maxRecDepth 100000

theorem step_appendS {P : Program} {ops : Array Oper} {o : Oper} {a : Act} {w : World} {K : Act → World → Prop} {Q : Exit → Act → World → Prop} {E : Prop}
    (hg : o.guard = none) (d x : Operand) (dT sT : TypeId) (hop : o.op = Op.call { callee := Callee.builtin Builtin.append, args := #[d, x], argTypes := #[dT, sT] })
    (v u : Value) (hd : a.eval d = v) (hx : a.eval x = u) {v' : Value} {w' : World} (hr : (Builtin.append_ #[dT, sT] o.type #[v, u]).run P w = .ok v' w') (hK : K (a.put o.dst v') w') :
    if Region.wanted o (yielded ops a.tmps) = true then Oper.wp P o a w K Q else E := by
  have hw : Region.wanted o (yielded ops a.tmps) = true := by simp [Region.wanted, hg]
  rw [if_pos hw]
  exact Lib.wp_append_run w d x dT sT hop v u hd hx v' w' hr hK
theorem Try.cellsSpring : Try.prog.cellsOf 28 = 3 := by kernel_rfl
theorem Try.cellsInt64S : Try.prog.cellsOf 2 = 1 := by kernel_rfl
/-- The cells at A hold these springs, three cells each. -/
def RdSp (w : World) (A : Option Addr) (l : List Sp) : Prop := ∀ (k : Nat) (x : Sp), l[k]? = some x → ∃ b off, A = some ⟨b, off, none⟩ ∧ w.cell? ⟨b, off + k * 3, none⟩ = some (.int .i64 x.want) ∧ w.cell? ⟨b, off + k * 3 + 1, none⟩ = some (.int .i64 x.least) ∧ w.cell? ⟨b, off + k * 3 + 2, none⟩ = some (.int .i64 x.soft)
theorem RdSp.below {w w' : World} {A : Option Addr} {l : List Sp} (h : RdSp w A l) (hb : Below w.heap.size w w') : RdSp w' A l := by
  intro k x hx
  obtain ⟨b, off, rfl, h0, h1, h2⟩ := h k x hx
  exact ⟨b, off, rfl, by rw [hb.cell (p := ⟨b, off + k * 3, none⟩) (cell_lt h0)]; exact h0, by rw [hb.cell (p := ⟨b, off + k * 3 + 1, none⟩) (cell_lt h1)]; exact h1, by rw [hb.cell (p := ⟨b, off + k * 3 + 2, none⟩) (cell_lt h2)]; exact h2⟩
section
variable {H : Type} {enc : TypeId × Value → H}
theorem list_threeS {α : Type} {l : List α} (h : l.length = 3) : ∃ a b c, l = [a, b, c] := by
  match l, h with
  | [a, b, c], _ => exact ⟨a, b, c, rfl⟩
theorem sp_cells {W : World} {base fuel : Nat} {spare : Nat → Bool} {held : Bool} {cs : List Value} {x : DataW H × List MemPlace} (hlen : cs.length = 3) (h : DataW.trod enc Try.prog W base spare held fuel 28 cs = some x) :
    ∃ q : Sp, cs = [.int .i64 q.want, .int .i64 q.least, .int .i64 q.soft] := by
  obtain ⟨xs, k, hk, hxy, _, hxl, hfd⟩ := DataW.trod_struct Try.underlying28 h
  obtain ⟨y0, y1, y2, rfl⟩ := list_threeS (l := xs) (by simpa using hxl)
  obtain ⟨v0, v1, v2, rfl⟩ := list_threeS hlen
  have g0 := hfd 0 _ rfl
  have g1 := hfd 1 _ rfl
  have g2 := hfd 2 _ rfl
  simp [Try.cellsInt64S] at g0 g1 g2
  obtain ⟨z0, e0, _, _⟩ := DataW.trod_int Try.underlying2 g0
  obtain ⟨z1, e1, _, _⟩ := DataW.trod_int Try.underlying2 g1
  obtain ⟨z2, e2, _, _⟩ := DataW.trod_int Try.underlying2 g2
  simp only [List.cons.injEq, and_true] at e0 e1 e2
  exact ⟨⟨z0, z1, z2⟩, by rw [e0, e1, e2]⟩
theorem open_springs {W : World} {v : Value} {d : DataW H} {p : List MemPlace} {r : Reach} {b0 : Nat} (hval : Value.okWide Try.prog W r b0 29 v) (h : DataW.Trod enc Try.prog W 0 (fun _ => true) true 29 v d p) :
    ∃ (A : Option Addr) (c : Nat) (l : List Sp), v = .slice A l.length c ∧ l.length ≤ c ∧ c ≤ 9223372036854775807 ∧ RdSp W A l := by
  obtain ⟨a0, len, cap, rfl⟩ := okWide_slice Try.underlying29 hval
  obtain ⟨fuel, hf⟩ := h
  rcases open_slice Try.underlying29 hf with ⟨hcs, hx⟩ | ⟨a, len', cap', m, n, D, Pl, hcs, _, hl, hm, hmm, _, hx⟩
  · simp [Value.cells] at hcs
    obtain ⟨rfl, rfl, rfl⟩ := hcs
    exact ⟨none, 0, [], rfl, by simp, by decide, fun k x hk => by simp at hk⟩
  · simp [Value.cells] at hcs
    obtain ⟨rfl, rfl, rfl⟩ := hcs
    simp only [if_true] at hmm
    subst hmm
    unfold maxLen at hm
    have each : ∀ i, i < m → ∃ q : Sp, ∀ j u, [Value.int .i64 q.want, .int .i64 q.least, .int .i64 q.soft][j]? = some u → W.cell? (a.add (i * 3 + j)) = some u := by
      intro i hi
      obtain ⟨cs', h1, h2⟩ := hx i hi
      rw [Try.cellsSpring] at h1
      obtain ⟨_, hlen, hcell⟩ := World.cells?_some h1
      obtain ⟨q, rfl⟩ := sp_cells (by simpa using hlen) h2
      refine ⟨q, fun j u hu => ?_⟩
      have hj := (List.getElem?_eq_some_iff.1 hu).1
      have e := hcell j (by simpa using hj)
      rw [add_add] at e
      rw [e, hu]
    obtain ⟨q, hq⟩ := choose_lt each
    refine ⟨some a, m, (List.range len).map q, by simp, by simp; omega, by omega, fun k x hk => ?_⟩
    have hkl : k < len := by have := (List.getElem?_eq_some_iff.1 hk).1; simpa using this
    rw [List.getElem?_map, List.getElem?_range hkl] at hk
    simp at hk
    subst hk
    obtain ⟨b, off, spot⟩ := a
    have hspot : spot = none := by simpa [Addr.add] using World.cell?_spot (hq 0 (by omega) 0 _ rfl)
    subst hspot
    have hh := hq k (by omega)
    simp only [addr_add_plain, ← Nat.add_assoc] at hh
    exact ⟨b, off, rfl, by simpa using hh 0 _ rfl, hh 1 _ rfl, hh 2 _ rfl⟩
end
def encSp (x : Sp) : List Value := [.int .i64 x.want, .int .i64 x.least, .int .i64 x.soft]
def cellsSp (l : List Sp) : List Value := l.flatMap encSp
theorem cellsSp_cons (x : Sp) (l : List Sp) : cellsSp (x :: l) = .int .i64 x.want :: .int .i64 x.least :: .int .i64 x.soft :: cellsSp l := by simp [cellsSp, encSp]
theorem cellsSp_app (a b : List Sp) : cellsSp (a ++ b) = cellsSp a ++ cellsSp b := by simp [cellsSp]
theorem cellsSp_length (l : List Sp) : (cellsSp l).length = l.length * 3 := by
  induction l with
  | nil => rfl
  | cons s ss ih => rw [cellsSp_cons]; simp [ih]; omega
theorem cellsSp_get (l : List Sp) : ∀ (i : Nat) (s : Sp), l[i]? = some s → (cellsSp l)[i * 3]? = some (.int .i64 s.want) ∧ (cellsSp l)[i * 3 + 1]? = some (.int .i64 s.least) ∧ (cellsSp l)[i * 3 + 2]? = some (.int .i64 s.soft) := by
  induction l with
  | nil => intro i s h; simp at h
  | cons t ss ih =>
    intro i s h
    rw [cellsSp_cons]
    match i, h with
    | 0, h => simp at h; subst h; simp
    | i + 1, h =>
      have := ih i s (by simpa using h)
      rw [show (i + 1) * 3 = i * 3 + 1 + 1 + 1 by omega]
      simpa using this
theorem cellsSp_next {l : List Sp} {i : Nat} {x : Sp} (h : l[i]? = some x) : cellsSp (l.take (i + 1)) = cellsSp (l.take i) ++ [.int .i64 x.want, .int .i64 x.least, .int .i64 x.soft] := by
  unfold cellsSp; rw [List.take_add_one, h]; simp [encSp]
theorem cellsSp_ones (l : List Sp) : ∀ u ∈ cellsSp l, u.oneCell' = true := by
  intro u hu
  obtain ⟨x, _, hx⟩ := List.mem_flatMap.1 hu
  simp [encSp] at hx
  rcases hx with rfl | rfl | rfl <;> rfl
theorem cellsSp_src {w : World} {b off : Nat} {l : List Sp} (h : RdSp w (some ⟨b, off, none⟩) l) : ∀ j u, (cellsSp l)[j]? = some u → w.cell? ⟨b, off + j, none⟩ = some u := by
  intro j u hu
  have hj := (List.getElem?_eq_some_iff.1 hu).1
  rw [cellsSp_length] at hj
  obtain ⟨x, hx⟩ : ∃ x, l[j / 3]? = some x := ⟨_, List.getElem?_eq_getElem (by omega)⟩
  obtain ⟨g0, g1, g2⟩ := cellsSp_get l (j / 3) x hx
  obtain ⟨b', off', he, c0, c1, c2⟩ := h (j / 3) x hx
  cases he
  obtain hm | hm | hm : j % 3 = 0 ∨ j % 3 = 1 ∨ j % 3 = 2 := by omega
  · have e : j / 3 * 3 = j := by omega
    rw [e] at g0 c0
    rw [hu] at g0; injection g0 with g0; rw [c0, g0]
  · have e : j / 3 * 3 + 1 = j := by omega
    rw [Nat.add_assoc, e] at c1
    rw [e] at g1
    rw [hu] at g1; injection g1 with g1; rw [c1, g1]
  · have e : j / 3 * 3 + 2 = j := by omega
    rw [Nat.add_assoc, e] at c2
    rw [e] at g2
    rw [hu] at g2; injection g2 with g2; rw [c2, g2]
theorem ownSp_rd {w : World} {base n : Nat} {e : TypeId} {v : Value} {l : List Sp} (h : w.ownsRow base e 3 v n (cellsSp l)) :
    ∃ A c, v = .slice A l.length c ∧ l.length ≤ c ∧ c ≤ 9223372036854775807 ∧ RdSp w A l := by
  have hn : n = l.length := by have := h.1; rw [cellsSp_length] at this; omega
  subst hn
  rcases h.2 with ⟨rfl, h0⟩ | ⟨g, cap, cur, rfl, _, _, h1, h2, _⟩
  · refine ⟨none, 0, by simp [h0], by omega, by decide, fun k x hx => ?_⟩
    rw [List.eq_nil_of_length_eq_zero h0] at hx; simp at hx
  · refine ⟨some ⟨g, 0, none⟩, cap, rfl, h1, by unfold maxLen at h2; omega, fun k x hx => ⟨g, 0, rfl, ?_, ?_, ?_⟩⟩
    · have hk := (List.getElem?_eq_some_iff.1 hx).1
      rw [Nat.zero_add, h.cellAt _ (by omega)]
      exact (cellsSp_get l k x hx).1
    · have hk := (List.getElem?_eq_some_iff.1 hx).1
      rw [Nat.zero_add, h.cellAt _ (by omega)]
      exact (cellsSp_get l k x hx).2.1
    · have hk := (List.getElem?_eq_some_iff.1 hx).1
      rw [Nat.zero_add, h.cellAt _ (by omega)]
      exact (cellsSp_get l k x hx).2.2
theorem newsSp (w : World) (x y z : Value) (e : TypeId) (B : Nat) (hB : w.heap.size = B) : ∀ j u, ([x, y, z] : List Value)[j]? = some u → (w.alloc (.cells #[x, y, z] e)).cell? ((⟨B, 0, none⟩ : Addr).add j) = some u := by
  intro j u hj
  subst hB
  rw [Addr.add_lit]
  match j, hj with
  | 0, hj => simp at hj; subst hj; simp
  | 1, hj => simp at hj; subst hj; simp
  | 2, hj => simp at hj; subst hj; simp
theorem threeSp (x y z : Int) : ∀ u ∈ [Value.int .i64 x, Value.int .i64 y, Value.int .i64 z], u.oneCell' = true := by intro u hu; simp at hu; rcases hu with rfl | rfl | rfl <;> rfl
theorem Try.infoRSp : (Try.prog.info? 52).map (fun i => (i.zero, i.size, i.bytes)) = some (some (.agg #[.int .i64 0, .int .i64 0, .int .i64 0]), 3, 24) := by kernel_rfl
set_option maxHeartbeats 6400000 in
theorem own13_any (A : Option Addr) (cap : Nat) (l : List Sp) (w : World) (hn : l.length ≤ 1000) (hcap : cap ≤ 9223372036854775807) (hlc : l.length ≤ cap) (hR : RdSp w A l) :
    Calls Try.prog 15 #[.slice A l.length cap] w (fun e w' => ∃ A' c, e = .returned (.slice A' l.length c) ∧ l.length ≤ c ∧ c ≤ 9223372036854775807 ∧ RdSp w' A' l ∧ Below w.heap.size w w') := by
  obtain ⟨i0, hi0, hz0, hz1, hz2⟩ := info_parts Try.infoRSp
  obtain ⟨n, hl⟩ : ∃ n, l.length = n := ⟨_, rfl⟩
  rw [hl] at hn hlc ⊢
  have H := Lib.hid (And.intro hl hR)
  clear hl hR
  go_enter Try.func15, Try.ntmps15
  go_wp2
  go_loopw [3, 4] (fun v st wr => ∃ (i : Nat), st = .int .i64 (i : Int) ∧ i ≤ n ∧ Hid (wr.ownsRow w.heap.size 52 3 v i (cellsSp (l.take i)) ∧ Below w.heap.size w wr)) (fun _ st _ => n - (intOf st).toNat)
  case atStart => exact ⟨0, rfl, by omega, Lib.hid ⟨World.ownsRow_nil _ _ _ _, Below.refl _ _⟩⟩
  case round =>
    obtain ⟨i, rfl, hin, K⟩ := hrel
    rcases Nat.lt_or_ge i n with hlt | hge
    · have d1 : decide ((i : Int) < (n : Int)) = true := decide_eq_true (by omega)
      have e1 : IntKind.i64.wrap ((i : Int) + 1) = ((i + 1 : Nat) : Int) := by rw [IntKind.wrap_i64]; omega
      have b1 : (i : Int) < (n : Int) := by omega
      have b0 : (0 : Int) ≤ (i : Int) := by omega
      obtain ⟨x, hx⟩ : ∃ x, l[i]? = some x := ⟨_, List.getElem?_eq_getElem (by rw [H.out.1]; exact hlt)⟩
      obtain ⟨B, off, rfl, w0, w1, w2⟩ := H.out.2 i x hx
      obtain ⟨B', off', he, c0, c1, c2⟩ := (H.out.2.below K.out.2) i x hx
      cases he
      have cw := And.intro w0 (And.intro w1 w2)
      have hBw0 : B < w.heap.size := cell_lt w0
      clear w0 w1 w2
      have K2 : Hid (cellsSp (l.take (i + 1)) = cellsSp (l.take i) ++ [.int .i64 x.want, .int .i64 x.least, .int .i64 x.soft]) := cellsSp_next hx
      clear hx
      obtain ⟨p, nd, s⟩ := x
      simp only at c0 c1 c2 K2 cw
      obtain ⟨A3, c3, hv3, _⟩ := ownSp_rd K.out.1
      rw [List.length_take, Nat.min_eq_left (by rw [H.out.1]; omega)] at hv3
      subst hv3
      have K3 : Hid (wr.drew.ownsRow w.heap.size 52 3 (.slice A3 i c3) i (cellsSp (l.take i)) ∧ Below w.heap.size w wr.drew) := ⟨K.out.1, K.out.2.drew⟩
      have cc : wr.drew.cell? ⟨B, off + i * 3, none⟩ = some (.int .i64 p) ∧ wr.drew.cell? ⟨B, off + i * 3 + 1, none⟩ = some (.int .i64 nd) ∧ wr.drew.cell? ⟨B, off + i * 3 + 2, none⟩ = some (.int .i64 s) := ⟨c0, c1, c2⟩
      clear K c0 c1 c2
      go_wp2
      refine wp_region_held_drew (S := fun W => W.cell? ⟨B, off + i * 3, none⟩ = some (.int .i64 p) ∧ W.cell? ⟨B, off + i * 3 + 1, none⟩ = some (.int .i64 nd) ∧ W.cell? ⟨B, off + i * 3 + 2, none⟩ = some (.int .i64 s)) (by kernel_rfl) cc (fun hHeld => ?_)
      have bm : Below wr.drew.heap.size wr.drew (wr.drew.alloc (.cells #[.int .i64 p, .int .i64 nd, .int .i64 s] 52)) := (Below.refl _ _).alloc (Nat.le_refl _) _
      have hsz : w.heap.size ≤ wr.drew.heap.size := K3.out.2.size
      have hsB : B < wr.drew.heap.size := cell_lt cc.1
      obtain ⟨v', w4, hr, hown', hgrow', _, _⟩ := run_append_own_at (P := Try.prog) (wr.drew.alloc (.cells #[.int .i64 p, .int .i64 nd, .int .i64 s] 52)) w.heap.size 35 35 52 i0 _ 3 24 Try.underlying35 hi0 hz0 hz1 hz2 rfl (by decide) (.slice A3 i c3) i _ (K3.out.1.alloc _) ⟨wr.drew.heap.size, 0, none⟩ 1 1 [.int .i64 p, .int .i64 nd, .int .i64 s] rfl (newsSp _ _ _ _ _ _ rfl) (threeSp _ _ _) (by unfold maxLen; omega) (by omega) (by rw [World.size_alloc]; omega)
      have hb4 : Below w.heap.size w w4 := (K3.out.2.alloc hsz _).grown hgrow' (by rw [World.size_alloc]; omega) (fun j hj => (K3.out.1.lt _ hj).1)
      have cc2 : (wr.drew.alloc (.cells #[.int .i64 p, .int .i64 nd, .int .i64 s] 52)).cell? ⟨B, off + i * 3, none⟩ = some (.int .i64 p) ∧ (wr.drew.alloc (.cells #[.int .i64 p, .int .i64 nd, .int .i64 s] 52)).cell? ⟨B, off + i * 3 + 1, none⟩ = some (.int .i64 nd) ∧ (wr.drew.alloc (.cells #[.int .i64 p, .int .i64 nd, .int .i64 s] 52)).cell? ⟨B, off + i * 3 + 2, none⟩ = some (.int .i64 s) := ⟨by rw [bm.cell (p := ⟨B, off + i * 3, none⟩) hsB]; exact cc.1, by rw [bm.cell (p := ⟨B, off + i * 3 + 1, none⟩) hsB]; exact cc.2.1, by rw [bm.cell (p := ⟨B, off + i * 3 + 2, none⟩) hsB]; exact cc.2.2⟩
      have hBw : B < w.heap.size := hBw0
      have cc4 : w4.cell? ⟨B, off + i * 3, none⟩ = some (.int .i64 p) ∧ w4.cell? ⟨B, off + i * 3 + 1, none⟩ = some (.int .i64 nd) ∧ w4.cell? ⟨B, off + i * 3 + 2, none⟩ = some (.int .i64 s) := ⟨by rw [hb4.cell (p := ⟨B, off + i * 3, none⟩) hBw]; exact cw.1, by rw [hb4.cell (p := ⟨B, off + i * 3 + 1, none⟩) hBw]; exact cw.2.1, by rw [hb4.cell (p := ⟨B, off + i * 3 + 2, none⟩) hBw]; exact cw.2.2⟩
      rw [← K2.out] at hown'
      have T := Lib.hid (And.intro hown' hb4)
      replace hr := Lib.hid hr
      clear hown' hgrow' hb4 K3 K2 hsz bm hsB hBw cw hBw0
      generalize wr.drew = wq at *
      refine wpAnyH_take (i := 0) (v := (.slice A3 i c3)) rfl (by kernel_rfl) (by kernel_rfl) (by kernel_rfl) (fun _ _ _ h => h) (Or.inl ⟨by rfl, ?_⟩) hHeld ?_
      · intro w hSw; go_simp
      try simp only [List.getElem_toArray, List.getElem_cons_zero, List.getElem_cons_succ, Act.put, List.setIfInBounds_toArray, List.set_cons_zero, List.set_cons_succ]
      refine wpAnyH_take (i := 1) (v := (.slice (some ⟨B, off, none⟩) n cap)) rfl (by kernel_rfl) (by kernel_rfl) (by kernel_rfl) (fun _ _ _ h => h) (Or.inl ⟨by rfl, ?_⟩) hHeld ?_
      · intro w hSw; go_simp
      try simp only [List.getElem_toArray, List.getElem_cons_zero, List.getElem_cons_succ, Act.put, List.setIfInBounds_toArray, List.set_cons_zero, List.set_cons_succ]
      refine wpAnyH_take (i := 2) (v := (.int .i64 (i : Int))) rfl (by kernel_rfl) (by kernel_rfl) (by kernel_rfl) (fun _ _ _ h => h) (Or.inl ⟨by rfl, ?_⟩) hHeld ?_
      · intro w hSw; go_simp
      try simp only [List.getElem_toArray, List.getElem_cons_zero, List.getElem_cons_succ, Act.put, List.setIfInBounds_toArray, List.set_cons_zero, List.set_cons_succ]
      refine wpAnyH_take (i := 3) (v := (.pointer (some ⟨B, off + i * 3, none⟩))) rfl (by kernel_rfl) (by kernel_rfl) (by kernel_rfl) (fun _ _ _ h => h) (Or.inl ⟨by rfl, ?_⟩) hHeld ?_
      · intro w hSw; go_simp
      try simp only [List.getElem_toArray, List.getElem_cons_zero, List.getElem_cons_succ, Act.put, List.setIfInBounds_toArray, List.set_cons_zero, List.set_cons_succ]
      refine wpAnyH_take (i := 4) (v := (.pointer (some ⟨B, off + i * 3, none⟩))) rfl (by kernel_rfl) (by kernel_rfl) (by kernel_rfl) (fun _ _ _ h => h) (Or.inl ⟨by rfl, ?_⟩) hHeld ?_
      · intro w hSw; go_simp
      try simp only [List.getElem_toArray, List.getElem_cons_zero, List.getElem_cons_succ, Act.put, List.setIfInBounds_toArray, List.set_cons_zero, List.set_cons_succ]
      refine wpAnyH_take (i := 5) (v := (.int .i64 p)) rfl (by kernel_rfl) (by kernel_rfl) (by kernel_rfl) (fun _ _ _ h => h) (Or.inl ⟨by rfl, ?_⟩) hHeld ?_
      · intro w hSw; obtain ⟨s0, s1, s2⟩ := hSw; go_simp
      try simp only [List.getElem_toArray, List.getElem_cons_zero, List.getElem_cons_succ, Act.put, List.setIfInBounds_toArray, List.set_cons_zero, List.set_cons_succ]
      refine wpAnyH_take (i := 6) (v := (.slice (some ⟨B, off, none⟩) n cap)) rfl (by kernel_rfl) (by kernel_rfl) (by kernel_rfl) (fun _ _ _ h => h) (Or.inl ⟨by rfl, ?_⟩) hHeld ?_
      · intro w hSw; go_simp
      try simp only [List.getElem_toArray, List.getElem_cons_zero, List.getElem_cons_succ, Act.put, List.setIfInBounds_toArray, List.set_cons_zero, List.set_cons_succ]
      refine wpAnyH_take (i := 7) (v := (.int .i64 (i : Int))) rfl (by kernel_rfl) (by kernel_rfl) (by kernel_rfl) (fun _ _ _ h => h) (Or.inl ⟨by rfl, ?_⟩) hHeld ?_
      · intro w hSw; go_simp
      try simp only [List.getElem_toArray, List.getElem_cons_zero, List.getElem_cons_succ, Act.put, List.setIfInBounds_toArray, List.set_cons_zero, List.set_cons_succ]
      refine wpAnyH_take (i := 8) (v := (.pointer (some ⟨B, off + i * 3, none⟩))) rfl (by kernel_rfl) (by kernel_rfl) (by kernel_rfl) (fun _ _ _ h => h) (Or.inl ⟨by rfl, ?_⟩) hHeld ?_
      · intro w hSw; go_simp
      try simp only [List.getElem_toArray, List.getElem_cons_zero, List.getElem_cons_succ, Act.put, List.setIfInBounds_toArray, List.set_cons_zero, List.set_cons_succ]
      refine wpAnyH_take (i := 9) (v := (.pointer (some ⟨B, off + i * 3 + 1, none⟩))) rfl (by kernel_rfl) (by kernel_rfl) (by kernel_rfl) (fun _ _ _ h => h) (Or.inl ⟨by rfl, ?_⟩) hHeld ?_
      · intro w hSw; go_simp
      try simp only [List.getElem_toArray, List.getElem_cons_zero, List.getElem_cons_succ, Act.put, List.setIfInBounds_toArray, List.set_cons_zero, List.set_cons_succ]
      refine wpAnyH_take (i := 10) (v := (.int .i64 nd)) rfl (by kernel_rfl) (by kernel_rfl) (by kernel_rfl) (fun _ _ _ h => h) (Or.inl ⟨by rfl, ?_⟩) hHeld ?_
      · intro w hSw; obtain ⟨s0, s1, s2⟩ := hSw; go_simp
      try simp only [List.getElem_toArray, List.getElem_cons_zero, List.getElem_cons_succ, Act.put, List.setIfInBounds_toArray, List.set_cons_zero, List.set_cons_succ]
      refine wpAnyH_take (i := 11) (v := (.slice (some ⟨B, off, none⟩) n cap)) rfl (by kernel_rfl) (by kernel_rfl) (by kernel_rfl) (fun _ _ _ h => h) (Or.inl ⟨by rfl, ?_⟩) hHeld ?_
      · intro w hSw; go_simp
      try simp only [List.getElem_toArray, List.getElem_cons_zero, List.getElem_cons_succ, Act.put, List.setIfInBounds_toArray, List.set_cons_zero, List.set_cons_succ]
      refine wpAnyH_take (i := 12) (v := (.int .i64 (i : Int))) rfl (by kernel_rfl) (by kernel_rfl) (by kernel_rfl) (fun _ _ _ h => h) (Or.inl ⟨by rfl, ?_⟩) hHeld ?_
      · intro w hSw; go_simp
      try simp only [List.getElem_toArray, List.getElem_cons_zero, List.getElem_cons_succ, Act.put, List.setIfInBounds_toArray, List.set_cons_zero, List.set_cons_succ]
      refine wpAnyH_take (i := 13) (v := (.pointer (some ⟨B, off + i * 3, none⟩))) rfl (by kernel_rfl) (by kernel_rfl) (by kernel_rfl) (fun _ _ _ h => h) (Or.inl ⟨by rfl, ?_⟩) hHeld ?_
      · intro w hSw; go_simp
      try simp only [List.getElem_toArray, List.getElem_cons_zero, List.getElem_cons_succ, Act.put, List.setIfInBounds_toArray, List.set_cons_zero, List.set_cons_succ]
      refine wpAnyH_take (i := 14) (v := (.pointer (some ⟨B, off + i * 3 + 2, none⟩))) rfl (by kernel_rfl) (by kernel_rfl) (by kernel_rfl) (fun _ _ _ h => h) (Or.inl ⟨by rfl, ?_⟩) hHeld ?_
      · intro w hSw; go_simp
      try simp only [List.getElem_toArray, List.getElem_cons_zero, List.getElem_cons_succ, Act.put, List.setIfInBounds_toArray, List.set_cons_zero, List.set_cons_succ]
      refine wpAnyH_take (i := 15) (v := (.int .i64 s)) rfl (by kernel_rfl) (by kernel_rfl) (by kernel_rfl) (fun _ _ _ h => h) (Or.inl ⟨by rfl, ?_⟩) hHeld ?_
      · intro w hSw; obtain ⟨s0, s1, s2⟩ := hSw; go_simp
      try simp only [List.getElem_toArray, List.getElem_cons_zero, List.getElem_cons_succ, Act.put, List.setIfInBounds_toArray, List.set_cons_zero, List.set_cons_succ]
      refine wpAnyH_take (i := 16) (v := (.agg #[.int .i64 p, .int .i64 nd, .int .i64 s])) rfl (by kernel_rfl) (by kernel_rfl) (by kernel_rfl) (fun _ _ _ h => h) (Or.inl ⟨by rfl, ?_⟩) hHeld ?_
      · intro w hSw; go_simp
      try simp only [List.getElem_toArray, List.getElem_cons_zero, List.getElem_cons_succ, Act.put, List.setIfInBounds_toArray, List.set_cons_zero, List.set_cons_succ]
      refine wpAnyH_ready (rs := [17]) (by kernel_rfl) (by simp) ?_
      refine AllReadyH.cons rfl (fun K hK => ?_) AllReadyH.nil
      clear hHeld
      go_simp
      refine hK.out _ _ cc2 (fun hHeld => ?_)
      clear hK K
      try simp only [List.getElem_toArray, List.getElem_cons_zero, List.getElem_cons_succ, Act.put, List.setIfInBounds_toArray, List.set_cons_zero, List.set_cons_succ]
      refine wpAnyH_ready (rs := [18]) (by kernel_rfl) (by simp) ?_
      refine AllReadyH.cons rfl (fun K hK => ?_) AllReadyH.nil
      clear hHeld
      refine step_appendS rfl (.tmp 11) (.tmp 28) 35 35 rfl (.slice A3 i c3) (.slice (some ⟨wq.heap.size, 0, none⟩) 1 1) (by rfl) (by rfl) hr.out ?_
      refine hK.out _ _ cc4 (fun hHeld => ?_)
      clear hK K
      try simp only [List.getElem_toArray, List.getElem_cons_zero, List.getElem_cons_succ, Act.put, List.setIfInBounds_toArray, List.set_cons_zero, List.set_cons_succ]
      refine wpAnyH_take (i := 19) (v := v') rfl (by kernel_rfl) (by kernel_rfl) (by kernel_rfl) (fun _ _ _ h => h) (Or.inl ⟨by rfl, ?_⟩) hHeld ?_
      · intro w hSw; go_simp
      try simp only [List.getElem_toArray, List.getElem_cons_zero, List.getElem_cons_succ, Act.put, List.setIfInBounds_toArray, List.set_cons_zero, List.set_cons_succ]
      refine wpAnyH_done (by kernel_rfl) ?_ _
      clear hr cc cc2 cc4
      go_wp2
      go_roundw
      case rel => exact ⟨i + 1, by first | rfl | simp, by omega, T⟩
      case measure => simp [intOf]; omega
    · have d1 : decide ((i : Int) < (n : Int)) = false := decide_eq_false (by omega)
      obtain rfl : i = n := by omega
      have h1 := K.out.1
      rw [List.take_of_length_le (by rw [H.out.1]; exact Nat.le_refl _)] at h1
      obtain ⟨A', c, hv, k1, k2, k3⟩ := ownSp_rd h1
      subst hv
      have T := Lib.hid (And.intro k3 K.out.2)
      rw [H.out.1] at k1
      clear K h1 k3
      go_wp2
      go_ret
      exact ⟨A', c, by first | rfl | (rw [H.out.1]; done) | (rw [H.out.1]; rfl), k1, k2, T.out.1, T.out.2⟩
end Go.Proofs.Ytkjgpidiompmlaa
