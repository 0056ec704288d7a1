/- EdfLess: needs that fit do so, if one is less, or has more time; jobs that are all met are, if one is left out. (Written by genedless.py.) -/
import Derived.Test.YtcohodpaagpfgaaDoorEdAwake
import Derived.Test.YtcohodpaagpfgaaDoorEdOwn
import Derived.Test.YtcohodpaagpfgaaDoorRegT
import Derived.Deep.RegionHeld3
import Derived.Deep.DeepCutAuto
namespace Go.Proofs.YtcohodpaagpfgaaDoor
open Go.RowKit Go.Lib
set_option linter.unusedVariables false
set_option linter.unusedSimpArgs false

/-- Needs in a block of one's own. -/
structure OwnL (G : Nat) (ls : List Lf) (w : World) : Prop where
  lt : G < w.heap.size
  c0 : ∀ (k : Nat) (x : Lf), ls[k]? = some x → w.cell? ⟨G, k * 2, none⟩ = some (.int .i64 x.dl)
  c1 : ∀ (k : Nat) (x : Lf), ls[k]? = some x → w.cell? ⟨G, k * 2 + 1, none⟩ = some (.int .i64 x.need)
  frz : ∀ i, i < ls.length * 2 → w.frozen? ⟨G, i, none⟩ = false
section
variable {G : Nat} {ls : List Lf} {w w' : World}
theorem OwnL.on (h : OwnL G ls w) (hb : Below w.heap.size w w') : OwnL G ls w' :=
  ⟨Nat.lt_of_lt_of_le h.lt hb.size, fun k x hx => by rw [hb.cell (p := ⟨G, k * 2, none⟩) h.lt]; exact h.c0 k x hx, fun k x hx => by rw [hb.cell (p := ⟨G, k * 2 + 1, none⟩) h.lt]; exact h.c1 k x hx, fun i hi => by rw [hb.frozen (p := ⟨G, i, none⟩) h.lt]; exact h.frz i hi⟩
theorem OwnL.rd (h : OwnL G ls w) : RdL w (some ⟨G, 0, none⟩) ls := fun k x hx => ⟨G, 0, rfl, by rw [Nat.zero_add]; exact h.c0 k x hx, by rw [Nat.zero_add]; exact h.c1 k x hx⟩
theorem OwnL.of_holds (h : Go.Sort.HoldsK encF 2 w G 0 ls.toArray) (hl : G < w.heap.size) : OwnL G ls w := by
  have hx : ∀ (k : Nat) (x : Lf), ls[k]? = some x → k < ls.toArray.size ∧ ls.toArray[k]! = x := fun k x hx => by
    have hk := (List.getElem?_eq_some_iff.1 hx).1
    refine ⟨by simpa using hk, ?_⟩
    rw [getElem!_pos ls.toArray k (by simpa using hk)]
    have := (List.getElem?_eq_some_iff.1 hx).2
    simpa using this
  refine ⟨hl, fun k x hk => ?_, fun k x hk => ?_, fun i hi => ?_⟩
  · obtain ⟨h1, h2⟩ := hx k x hk
    have := (h.cell h1 (c := 0) (by decide)).1
    rw [h2, Nat.zero_add] at this
    exact this
  · obtain ⟨h1, h2⟩ := hx k x hk
    have := (h.cell h1 (c := 1) (by decide)).1
    rw [h2, Nat.zero_add] at this
    exact this
  · have := (h.cell (i := i / 2) (c := i % 2) (by simp; omega) (by omega)).2
    rw [Nat.zero_add, show i / 2 * 2 + i % 2 = i by omega] at this
    exact this
theorem OwnL.setNeed (h : OwnL G ls w) {k : Nat} {x : Lf} (hx : ls[k]? = some x) (v : Int) : OwnL G (ls.set k ⟨x.dl, v⟩) (w.setCell ⟨G, k * 2 + 1, none⟩ (.int .i64 v)) := by
  have hk := (List.getElem?_eq_some_iff.1 hx).1
  refine ⟨by simpa [World.setCell] using h.lt, fun j y hy => ?_, fun j y hy => ?_, fun i hi => ?_⟩
  · rw [World.cell?_setCell_other _ _ _ _ (by intro e'; simp only [Addr.mk.injEq] at e'; omega)]
    rw [List.getElem?_set] at hy
    by_cases c : k = j
    · subst c
      simp [hk] at hy
      subst hy
      exact h.c0 k x hx
    · simp [c] at hy
      exact h.c0 j y hy
  · rw [List.getElem?_set] at hy
    by_cases c : k = j
    · subst c
      simp [hk] at hy
      subst hy
      exact World.cell?_setCell_same _ _ _ (h.c1 k x hx)
    · simp [c] at hy
      rw [World.cell?_setCell_other _ _ _ _ (by intro e'; simp only [Addr.mk.injEq] at e'; omega)]
      exact h.c1 j y hy
  · rw [World.frozen?_setCell]; exact h.frz i (by simpa using hi)
theorem OwnL.setDl (h : OwnL G ls w) {k : Nat} {x : Lf} (hx : ls[k]? = some x) (v : Int) : OwnL G (ls.set k ⟨v, x.need⟩) (w.setCell ⟨G, k * 2, none⟩ (.int .i64 v)) := by
  have hk := (List.getElem?_eq_some_iff.1 hx).1
  refine ⟨by simpa [World.setCell] using h.lt, fun j y hy => ?_, fun j y hy => ?_, fun i hi => ?_⟩
  · rw [List.getElem?_set] at hy
    by_cases c : k = j
    · subst c
      simp [hk] at hy
      subst hy
      exact World.cell?_setCell_same _ _ _ (h.c0 k x hx)
    · simp [c] at hy
      rw [World.cell?_setCell_other _ _ _ _ (by intro e'; simp only [Addr.mk.injEq] at e'; omega)]
      exact h.c0 j y hy
  · rw [World.cell?_setCell_other _ _ _ _ (by intro e'; simp only [Addr.mk.injEq] at e'; omega)]
    rw [List.getElem?_set] at hy
    by_cases c : k = j
    · subst c
      simp [hk] at hy
      subst hy
      exact h.c1 k x hx
    · simp [c] at hy
      exact h.c1 j y hy
  · rw [World.frozen?_setCell]; exact h.frz i (by simpa using hi)
end
theorem set_parts {ls : List Lf} {k : Nat} {x : Lf} (hx : ls[k]? = some x) (y : Lf) : ls = ls.take k ++ x :: ls.drop (k + 1) ∧ ls.set k y = ls.take k ++ y :: ls.drop (k + 1) := by
  have hk := (List.getElem?_eq_some_iff.1 hx).1
  refine ⟨?_, ?_⟩
  · rw [← dropT_at hx, List.take_append_drop]
  · exact List.set_eq_take_append_cons_drop.trans (by rw [if_pos hk])
theorem fits_less_set {now : Int} {ls : List Lf} {k : Nat} {x y : Lf} (h : fitsB now ls = true) (hx : ls[k]? = some x) (hd : y.dl = x.dl) (hn : y.need ≤ x.need) (hb : -1000000 ≤ y.need) : fitsB now (ls.set k y) = true := by
  obtain ⟨e1, e2⟩ := set_parts hx y
  rw [e2]
  exact fits_less (by rw [← e1]; exact h) hd hn hb
theorem fits_later_set {now : Int} {ls : List Lf} {k : Nat} {x y : Lf} (h : fitsB now ls = true) (hx : ls[k]? = some x) (hd : x.dl ≤ y.dl) (hn : y.need = x.need) (hb : y.dl ≤ 1000000) : fitsB now (ls.set k y) = true := by
  obtain ⟨e1, e2⟩ := set_parts hx y
  rw [e2]
  exact fits_later (by rw [← e1]; exact h) hd hn hb
theorem set_at {ls : List Lf} {k : Nat} {x : Lf} (hx : ls[k]? = some x) (y : Lf) : (ls.set k y)[k]? = some y := by
  rw [List.getElem?_set]
  simp [(List.getElem?_eq_some_iff.1 hx).1]
/-- A slice of jobs, cut low and high. -/
theorem Tryd.infoJb : (Tryd.prog.info? 24).map (fun i => (i.zero, i.size, i.bytes)) = some (some (.agg #[.string ⟨#[]⟩, .int .i64 0, .int .i64 0, .int .i64 0, .int .i64 0, .int .i64 0, .int .i64 0, .bool false]), 8, 72) := by kernel_rfl
theorem Tryd.sizeJb : (Tryd.prog.info? 24).map (·.size) = some 8 := by kernel_rfl
theorem cellsJ_app (a b : List Jb) : cellsJ (a ++ b) = cellsJ a ++ cellsJ b := by simp [cellsJ]
theorem cellsJ_ones (l : List Jb) : ∀ u ∈ cellsJ l, u.oneCell' = true := by
  intro u hu
  obtain ⟨x, _, hx⟩ := List.mem_flatMap.1 hu
  exact ones_job x u hx
theorem cellsJ_src {w : World} {b off : Nat} {l : List Jb} (h : RdJ w (some ⟨b, off, none⟩) l) : ∀ (j : Nat) (u : Value), (cellsJ l)[j]? = some u → w.cell? ⟨b, off + j, none⟩ = some u := by
  intro j u hu
  have hj := (List.getElem?_eq_some_iff.1 hu).1
  rw [cellsJ_len] at hj
  obtain ⟨x, hx⟩ : ∃ x, l[j / 8]? = some x := ⟨_, List.getElem?_eq_getElem (by omega)⟩
  obtain ⟨b', off', he, hJ⟩ := h (j / 8) x hx
  cases he
  have hg := cellsJ_get l (j / 8) x hx (j % 8) (by omega)
  rw [show j / 8 * 8 + j % 8 = j by omega, hu] at hg
  obtain ⟨h0, h1, h2, h3, h4, h5, h6, h7⟩ := hJ
  have key : w.cell? ⟨b, off + j / 8 * 8 + j % 8, none⟩ = x.cells[j % 8]? := by
    have hm : j % 8 < 8 := by omega
    generalize j % 8 = m at *
    unfold Jb.cells
    match m, hm with
    | 0, _ => exact h0
    | 1, _ => exact h1
    | 2, _ => exact h2
    | 3, _ => exact h3
    | 4, _ => exact h4
    | 5, _ => exact h5
    | 6, _ => exact h6
    | 7, _ => exact h7
  rw [Nat.add_assoc, show j / 8 * 8 + j % 8 = j by omega] at key
  rw [key, ← hg]
theorem cellsJ_take (l : List Jb) : ∀ (k j : Nat) (u : Value), (cellsJ (l.take k))[j]? = some u → (cellsJ l)[j]? = some u := by
  intro k j u h
  have hj := (List.getElem?_eq_some_iff.1 h).1
  have e : cellsJ l = cellsJ (l.take k) ++ cellsJ (l.drop k) := by rw [← cellsJ_app, List.take_append_drop]
  rw [e, List.getElem?_append_left hj]; exact h
theorem cellsJ_drop (l : List Jb) (k : Nat) (hk : k ≤ l.length) : ∀ (j : Nat) (u : Value), (cellsJ (l.drop k))[j]? = some u → (cellsJ l)[k * 8 + j]? = some u := by
  intro j u h
  have e : cellsJ l = cellsJ (l.take k) ++ cellsJ (l.drop k) := by rw [← cellsJ_app, List.take_append_drop]
  have hl : (cellsJ (l.take k)).length = k * 8 := by rw [cellsJ_len, List.length_take]; omega
  rw [e, List.getElem?_append_right (by omega), hl, show k * 8 + j - k * 8 = j by omega]; exact h
theorem step_appendJ {P : Program} {ops : Array Oper} {o : Oper} {a : Act} {w : World} {K : Act → World → Prop} {Q : Exit → Act → World → Prop} {E : Prop}
    (hg : o.guard = none) (d x : Operand) (dT sT : TypeId) (hop : o.op = Op.call { callee := Callee.builtin Builtin.append, args := #[d, x], argTypes := #[dT, sT] })
    (v u : Value) (hd : a.eval d = v) (hx : a.eval x = u) {v' : Value} {w' : World} (hr : (Builtin.append_ #[dT, sT] o.type #[v, u]).run P w = .ok v' w') (hK : K (a.put o.dst v') w') :
    if Region.wanted o (yielded ops a.tmps) = true then Oper.wp P o a w K Q else E := step_appendE hg d x dT sT hop v u hd hx hr hK
theorem madeJ {N : Nat} {w0 w w' : World} {e : TypeId} {size n : Nat} {v : Value} {xs : List Value} (hb : Below N w0 w) (hown : w.ownsRow N e size v n xs) (hg : w.grownBy w' v.ownBlock) (hN : N ≤ w.heap.size) : Below N w0 w' :=
  hb.grown hg hN (fun k hk => (hown.lt k hk).1)
theorem slice_lowJ (b off n cap k : Nat) (h1 : k ≤ n) (h2 : n ≤ cap) (h3 : cap ≤ 9223372036854775807) (w' : World) : (Instr.slice 25 (.slice (some ⟨b, off, none⟩) n cap) none (some (.int .i64 (k : Int))) none).run Tryd.prog w' = .ok (.slice (some ⟨b, off, none⟩) k cap) w' := by
  have q1 : (k : Int) ≤ (cap : Int) := by omega
  have q2 : k ≤ cap := by omega
  go_simp
theorem slice_highJ (b off n cap p : Nat) (h1 : p ≤ n) (h2 : n ≤ cap) (h3 : cap ≤ 9223372036854775807) (w' : World) : (Instr.slice 25 (.slice (some ⟨b, off, none⟩) n cap) (some (.int .i64 (p : Int))) none none).run Tryd.prog w' = .ok (.slice (if cap = p then some ⟨b, off, none⟩ else some ⟨b, off + p * 8, none⟩) (n - p) (cap - p)) w' := by
  have q1 : (p : Int) ≤ (n : Int) := by omega
  by_cases hck : cap = p
  · rw [if_pos hck]
    go_simp
  · rw [if_neg hck]
    go_simp
/-- Two appends behind one another: all jobs but one. -/
theorem dropJ (b off cap n k : Nat) (l : List Jb) (wB : World) (hl : l.length = n) (hn : n ≤ 1000) (hk : k < n) (hcap : n ≤ cap) (hR : RdJ wB (some ⟨b, off, none⟩) l) :
    ∃ v2 w2 v3 w3, (Builtin.append_ #[25, 25] 25 #[.slice (some ⟨wB.heap.size, 0, none⟩) 0 0, .slice (some ⟨b, off, none⟩) k cap]).run Tryd.prog (wB.alloc (.cells #[] 24)) = .ok v2 w2 ∧
      (Builtin.append_ #[25, 25] 25 #[v2, .slice (if cap = k + 1 then some ⟨b, off, none⟩ else some ⟨b, off + (k + 1) * 8, none⟩) (n - (k + 1)) (cap - (k + 1))]).run Tryd.prog w2 = .ok v3 w3 ∧
      (∃ A c, v3 = .slice A (n - 1) c ∧ n - 1 ≤ c ∧ c ≤ 9223372036854775807 ∧ RdJ w3 A (l.take k ++ l.drop (k + 1))) ∧ Below wB.heap.size wB w3 := by
  obtain ⟨i0, hi0, hz0, hz1, hz2⟩ := info_parts Tryd.infoJb
  have bm : Below wB.heap.size wB (wB.alloc (.cells #[] 24)) := (Below.refl _ _).alloc (Nat.le_refl _) _
  have n1 : wB.heap.size ≤ (wB.alloc (.cells #[] 24)).heap.size := bm.size
  have E1 : (wB.alloc (.cells #[] 24)).ownsRow wB.heap.size 24 8 (.slice (some ⟨wB.heap.size, 0, none⟩) 0 0) 0 [] := World.ownsRow_made (base := wB.heap.size) (e := 24) (size := 8) wB #[] 0 (Nat.le_refl _) (by decide) rfl
  have hsrc : ∀ W, Below wB.heap.size wB W → ∀ j u, (cellsJ l)[j]? = some u → W.cell? ⟨b, off + j, none⟩ = some u := fun W hW => cellsJ_src (hR.below hW)
  obtain ⟨v2, w2, r2, E2, g2, _, _⟩ := run_append_own_at (P := Tryd.prog) (wB.alloc (.cells #[] 24)) wB.heap.size 25 25 24 i0 _ 8 72 Tryd.underlying25 hi0 hz0 hz1 hz2 rfl (by decide) _ 0 [] E1 ⟨b, off, none⟩ k cap (cellsJ (l.take k)) (by rw [cellsJ_len, List.length_take]; omega) (fun j u hj => by rw [Addr.add_lit]; exact hsrc _ bm j u (cellsJ_take l k j u hj)) (cellsJ_ones _) (by unfold maxLen; omega) (by omega) n1
  have b2 : Below wB.heap.size wB w2 := madeJ bm E1 g2 n1
  have n2 := b2.size
  obtain ⟨ad, had, hcells⟩ : ∃ ad : Addr, (if cap = k + 1 then some (⟨b, off, none⟩ : Addr) else some ⟨b, off + (k + 1) * 8, none⟩) = some ad ∧ ∀ j u, (cellsJ (l.drop (k + 1)))[j]? = some u → w2.cell? (ad.add j) = some u := by
    by_cases hc : cap = k + 1
    · refine ⟨⟨b, off, none⟩, by rw [if_pos hc], fun j u hj => ?_⟩
      rw [List.drop_eq_nil_of_le (by omega)] at hj
      simp [cellsJ] at hj
    · refine ⟨⟨b, off + (k + 1) * 8, none⟩, by rw [if_neg hc], fun j u hj => ?_⟩
      rw [Addr.add_lit, Nat.add_assoc]
      exact hsrc _ b2 _ u (cellsJ_drop l (k + 1) (by omega) j u hj)
  rw [had]
  obtain ⟨v3, w3, r3, E3, g3, _, _⟩ := run_append_own_at (P := Tryd.prog) w2 wB.heap.size 25 25 24 i0 _ 8 72 Tryd.underlying25 hi0 hz0 hz1 hz2 rfl (by decide) v2 (0 + k) _ E2 ad (n - (k + 1)) (cap - (k + 1)) (cellsJ (l.drop (k + 1))) (by rw [cellsJ_len, List.length_drop, hl]) hcells (cellsJ_ones _) (by unfold maxLen; omega) (by omega) n2
  have b3 : Below wB.heap.size wB w3 := madeJ b2 E2 g3 n2
  refine ⟨v2, w2, v3, w3, r2, r3, ?_, b3⟩
  rw [show [] ++ cellsJ (l.take k) ++ cellsJ (l.drop (k + 1)) = cellsJ (l.take k ++ l.drop (k + 1)) by rw [cellsJ_app]; rfl] at E3
  obtain ⟨A, c, hv, h1, h2, h3⟩ := own_rdJ E3
  have hlen : (l.take k ++ l.drop (k + 1)).length = n - 1 := by rw [List.length_append, List.length_take, List.length_drop]; omega
  rw [hlen] at hv h1
  exact ⟨A, c, hv, h1, h2, h3⟩
set_option maxHeartbeats 12800000 in
set_option maxRecDepth 100000 in
theorem EdfLess_ret (A : Option Addr) (cap : Nat) (l : List Jb) (now : Int) (N : Option Addr) (nc : Nat) (ns : List Lf) (at_ by_ : Int) (w : World) (hL : Ltr w) (hlc : l.length ≤ cap) (hcap : cap ≤ 9223372036854775807) (hR : RdJ w A l) (hnow : fitB now = true)
    (hnl : ns.length ≤ nc) (hnc : nc ≤ 9223372036854775807) (hN : RdL w N ns) (hsh : (N = none ∧ nc = 0 ∧ ns = []) ∨ ∃ ad, N = some ad) (hat : fitB at_ = true) (hby : fitB by_ = true) :
    Calls Tryd.prog 6 #[.slice A l.length cap, .int .i64 now, .slice N ns.length nc, .int .i64 at_, .int .i64 by_] w (RetB (.bool true) w) := by
  have A0 := Lib.hid (awake10_any w hL)
  obtain ⟨gh, hgh⟩ : ∃ g, heavyB 10 200 l = g := ⟨_, rfl⟩
  have A1 := Lib.hid (fun w' (hb : Below w.heap.size w w') => heavy10_any A cap l 10 200 gh w' hcap hlc (hR.below hb) hgh)
  obtain ⟨n, hl⟩ : ∃ n, l.length = n := ⟨_, rfl⟩
  obtain ⟨m, hm⟩ : ∃ n, ns.length = n := ⟨_, rfl⟩
  clear hsh hnow hby
  by_cases hgo : gh = false ∧ m ≤ 30 ∧ 0 ≤ by_ ∧ by_ ≤ 1000 ∧ 0 ≤ at_
  · obtain ⟨rfl, hm2, hb0, hb1, ha0⟩ := hgo
    obtain ⟨h10, hns⟩ := heavy_none hgh
    have hss : ∀ x ∈ l, x.name.size ≤ 1000000 := fun x hx => by have := (hns x hx).1; omega
    have t1 : decide ((m : Int) > 30) = false := decide_eq_false (by omega)
    have t2 : decide (by_ < 0) = false := decide_eq_false (by omega)
    have t3 : decide (by_ > 1000) = false := decide_eq_false (by omega)
    have t4 : decide (at_ < 0) = false := decide_eq_false (by omega)
    obtain ⟨gf, hgf⟩ : ∃ z, fitsB now ns = z := ⟨_, rfl⟩
    obtain ⟨gm, hgm⟩ : ∃ z, meetsB l = z := ⟨_, rfl⟩
    have F1 : Hid (∀ w', Below w.heap.size w w' → Calls Tryd.prog 13 #[.int .i64 now, .slice N ns.length nc] w' (RetB (.bool gf) w')) := fun w' hb => fits_any N nc ns now gf w' hnc hnl (hN.below hb) hgf
    have F2 : Hid (∀ (G c : Nat) (ls : List Lf) (w' : World), ls.length = m → m ≤ c → c ≤ 9223372036854775807 → OwnL G ls w' → fitsB now ls = true → Calls Tryd.prog 13 #[.int .i64 now, .slice (some ⟨G, 0, none⟩) m c] w' (RetB (.bool true) w')) := fun G c ls w' h1 h2 h3 h4 h5 => by
      have h := fits_any (some ⟨G, 0, none⟩) c ls now true w' h3 (by omega) h4.rd h5
      rw [h1] at h
      exact h
    have M1 : Hid (∀ w', Below w.heap.size w w' → Calls Tryd.prog 12 #[.slice A l.length cap] w' (RetB (.bool gm) w')) := fun w' hb => meets_any A cap l gm w' (by omega) hcap hlc hss (hL.below hb) (hR.below hb) hgm
    have M2 : Hid (∀ (A' : Option Addr) (c k : Nat) (w' : World), gm = true → k < n → Below w.heap.size w w' → n - 1 ≤ c → c ≤ 9223372036854775807 → RdJ w' A' (l.take k ++ l.drop (k + 1)) → Calls Tryd.prog 12 #[.slice A' (n - 1) c] w' (RetB (.bool true) w')) := fun A' c k w' hg hk hb h1 h2 h3 => by
      have hlen : (l.take k ++ l.drop (k + 1)).length = n - 1 := by rw [List.length_append, List.length_take, List.length_drop]; omega
      have h := meets_any A' c (l.take k ++ l.drop (k + 1)) true w' (by omega) h2 (by omega) (fun x hx => by
        rcases List.mem_append.1 hx with hx | hx
        · exact hss x (List.mem_of_mem_take hx)
        · exact hss x (List.mem_of_mem_drop hx)) (hL.below hb) h3 (meets_drop (hgm.trans hg) k)
      rw [hlen] at h
      exact h
    have H := Lib.hid (And.intro hl (And.intro hR (And.intro hm hN)))
    have hfits := Lib.hid hgf
    rw [hl] at A1 hlc M1 ⊢
    rw [hm] at hnl F1 ⊢
    have hn10 : n ≤ 10 := by omega
    obtain ⟨qf, hqf⟩ : ∃ q, (decide (0 < m) && gf) = q := ⟨_, rfl⟩
    clear hL hR hgh hl hns hss hgf hgm h10 hm hN hat
    go_enter Tryd.func6, Tryd.ntmps6
    go_wp2_with fail
    refine A0.out.mono ?_; rintro e w0 ⟨rfl, b0⟩
    replace b0 := Lib.hid b0
    clear A0
    go_wp2_with fail
    refine (A1.out _ b0.out).mono ?_; rintro e w1 ⟨rfl, p1, rfl⟩
    replace b0 : Hid (Below w.heap.size w (w0.drewN p1)) := below_dN b0.out p1
    generalize w0.drewN p1 = w1 at *
    clear A1
    go_upto_region 5 with fail
    go_cut [42] (fun s wx => s = .bool qf ∧ Hid (Below w.heap.size w wx))
    case first =>
      by_cases h0 : 0 < m
      · have d1 : decide ((m : Int) > 0) = true := decide_eq_true (by omega)
        rw [decide_eq_true h0, Bool.true_and] at hqf
        subst hqf
        go_wp2_with fail
        refine (F1.out _ b0.out).mono ?_; rintro e w2 ⟨rfl, hb⟩
        have b2 := Lib.hid (below_on b0.out hb)
        clear hb F1 F2 M1 M2
        go_wp2
        go_meet
        exact ⟨rfl, b2⟩
      · have d1 : decide ((m : Int) > 0) = false := decide_eq_false (by omega)
        rw [decide_eq_false h0, Bool.false_and] at hqf
        subst hqf
        clear F1 F2 M1 M2
        go_wp2
        go_meet
        exact ⟨rfl, b0⟩
    case rest =>
      obtain ⟨rfl, b2⟩ := hcut
      clear b0 F1 t1 t2 t3 t4
      go_upto_if 42 with fail
      go_cut [] (fun wx => Hid (Below w.heap.size w wx))
      case first =>
        clear M1 M2
        cases qf
        · clear F2
          go_wp2
          go_meet
          exact b2
        · have hqq : 0 < m ∧ gf = true := by simpa using hqf
          obtain ⟨hm0, rfl⟩ := hqq
          clear hqf
          obtain ⟨k, hkk⟩ : ∃ k : Nat, at_.toNat % m = k := ⟨_, rfl⟩
          have hkl : k < m := by rw [← hkk]; exact Nat.mod_lt _ hm0
          have e1 : at_ % (m : Int) = (k : Int) := by
            obtain ⟨q, rfl⟩ := Int.eq_ofNat_of_zero_le ha0
            rw [← hkk]
            simp
          have e0 : at_.tmod (m : Int) = (k : Int) := by rw [Int.tmod_eq_emod_of_nonneg ha0, e1]
          have e2 : ¬ (m : Int) = 0 := by omega
          have e3 : ((m : Int) == 0) = false := by simp; omega
          have b1 : (k : Int) < (m : Int) := by omega
          have b0' : (0 : Int) ≤ (k : Int) := by omega
          obtain ⟨x, hx⟩ : ∃ x, ns[k]? = some x := ⟨_, List.getElem?_eq_getElem (by rw [H.out.2.2.1]; exact hkl)⟩
          obtain ⟨B, off, rfl, _⟩ := H.out.2.2.2 k x hx
          have hxn := lf_num (fitsB_iff.1 hfits.out).1 hx
          have hx2 := Lib.hid hx
          obtain ⟨i0, hi0, hz0, hz1, hz2⟩ := info_parts Tryd.infoLf
          have F := Lib.hid (fun (ob : Obj) (j : Nat) (u : Value) (hj : (cellsF ns)[j]? = some u) => show (wc.alloc ob).cell? ((⟨B, off, none⟩ : Addr).add j) = some u by
            rw [Addr.add_lit]
            exact Lib.cell?_alloc_some _ (cellsF_src (H.out.2.2.2.below b2.out) j u hj))
          have hcl : Hid ((cellsF ns).length = m * 2) := by show _ = _; rw [cellsF_length, H.out.2.2.1]
          clear hx hkk
          go_wp2_with (at_builtin; refine wpList_append_own _ rfl _ _ 33 rfl wc.heap.size 35 i0 (.agg #[.int .i64 0, .int .i64 0]) 2 16 Tryd.underlying33 hi0 hz0 hz1 hz2 rfl (by decide) _ _ _ rfl (World.ownsRow_made wc #[] 0 (Nat.le_refl _) (Nat.zero_le _) (by simp)) ⟨B, off, none⟩ m nc (cellsF ns) rfl hcl.out (F.out _) (cellsF_ones ns) (by unfold maxLen; clear e1 e0; omega) (by clear e1 e0; omega) (by simp) ?_)
          intro v' w3 hown hgrow hnil
          have hb : Below wc.heap.size wc w3 := ((Below.refl _ wc).alloc (Nat.le_refl _) _).grown hgrow (by simp) (by intro q hq; simp [Value.ownBlock] at hq; omega)
          obtain ⟨G, c, rfl, hG1, hG2, hc1, hc2, hG5⟩ := ownF_holds (w := w3) (base := wc.heap.size) (n := m) (l := ns) (by simpa using hown) hm0
          have hwG : Hid (w.heap.size ≤ G) := by have := b2.out.size; show w.heap.size ≤ G; clear e1 e0; omega
          have K : Hid (Below w.heap.size w w3 ∧ OwnL G ns w3) := ⟨below_on b2.out hb, OwnL.of_holds hG5 hG2⟩
          clear hown hgrow hnil hb hG1 hG2 hG5 F hcl b2
          have c1 := K.out.2.c1 k x hx2.out
          have f1 := K.out.2.frz (k * 2 + 1) (by rw [H.out.2.2.1]; clear e1 e0; omega)
          by_cases t5 : x.need > -100000
          · have d5 : decide (x.need > -100000) = true := decide_eq_true t5
            obtain ⟨q, hq⟩ : ∃ q, x.need - by_ = q := ⟨_, rfl⟩
            have e5 : IntKind.i64.wrap (x.need - by_) = q := by rw [IntKind.wrap_i64]; clear e1 e0; omega
            have e6 : wrap64 (x.need - by_) = q := by unfold wrap64; clear e1 e0 e5; omega
            have K2 : Hid (Below w.heap.size w (w3.setCell ⟨G, k * 2 + 1, none⟩ (.int .i64 q)) ∧ OwnL G (ns.set k ⟨x.dl, q⟩) (w3.setCell ⟨G, k * 2 + 1, none⟩ (.int .i64 q))) := ⟨K.out.1.setCell hwG.out _, K.out.2.setNeed hx2.out q⟩
            have hf1 : Hid (fitsB now (ns.set k ⟨x.dl, q⟩) = true) := fits_less_set hfits.out hx2.out rfl (by clear e1 e0 e5 e6; show q ≤ x.need; omega) (by clear e1 e0 e5 e6; show -1000000 ≤ q; omega)
            have hy : Hid ((ns.set k ⟨x.dl, q⟩)[k]? = some ⟨x.dl, q⟩) := set_at hx2.out _
            have hlen : Hid ((ns.set k ⟨x.dl, q⟩).length = m) := by show _ = _; rw [List.length_set, H.out.2.2.1]
            have hdl : Hid (-1000000 ≤ x.dl ∧ x.dl ≤ 1000000) := hxn.1
            obtain ⟨D, hD⟩ : ∃ D, x.dl = D := ⟨_, rfl⟩
            rw [hD] at hy hdl hf1 hlen K2
            generalize ns.set k ⟨D, q⟩ = ls at *
            generalize x.need = nd at *
            clear K hxn hx2 t5 hq hD hfits
            go_wp2_with fail
            refine (F2.out G c _ _ hlen.out hc1 hc2 K2.out.2 hf1.out).mono ?_; rintro e w5 ⟨rfl, hb⟩
            have K3 : Hid (Below w.heap.size w w5 ∧ OwnL G ls w5) := ⟨below_on K2.out.1 hb, K2.out.2.on hb⟩
            clear hb K2
            have c0 := K3.out.2.c0 k _ hy.out
            have f0 := K3.out.2.frz (k * 2) (by rw [hlen.out]; clear e1 e0; omega)
            simp only at c0
            obtain ⟨E, hE⟩ : ∃ E, D + by_ = E := ⟨_, rfl⟩
            have hdl1 := hdl.out
            have e7 : IntKind.i64.wrap (D + by_) = E := by rw [IntKind.wrap_i64]; clear e1 e0; omega
            have e8 : wrap64 (D + by_) = E := by unfold wrap64; clear e1 e0 e7; omega
            have K4 : Hid (Below w.heap.size w (w5.setCell ⟨G, k * 2, none⟩ (.int .i64 E)) ∧ OwnL G (ls.set k ⟨E, q⟩) (w5.setCell ⟨G, k * 2, none⟩ (.int .i64 E))) := ⟨K3.out.1.setCell hwG.out _, K3.out.2.setDl hy.out E⟩
            have hf2 : Hid (E ≤ 1000000 → fitsB now (ls.set k ⟨E, q⟩) = true) := fun h => fits_later_set hf1.out hy.out (by clear e1 e0 e7 e8; show D ≤ E; omega) rfl h
            have hlen2 : Hid ((ls.set k ⟨E, q⟩).length = m) := by show _ = _; rw [List.length_set, hlen.out]
            have c0' := K4.out.2.c0 k _ (set_at hy.out _)
            simp only at c0'
            clear K3 hf1 hdl hE hdl1 hy hlen
            by_cases t6 : E ≤ 1000000
            · have d6 : decide (E ≤ 1000000) = true := decide_eq_true t6
              have F3 := Lib.hid (F2.out G c _ _ hlen2.out hc1 hc2 K4.out.2 (hf2.out t6))
              have K5 := Lib.hid K4.out.1
              clear F2 hf2 t6 K4 hlen2
              go_wp2_with fail
              refine F3.out.mono ?_; rintro e w6 ⟨rfl, hb⟩
              have b6 := Lib.hid (below_on K5.out hb)
              clear hb K5 F3
              go_wp2
              go_meet
              exact b6
            · have d6 : decide (E ≤ 1000000) = false := decide_eq_false t6
              have K5 := Lib.hid K4.out.1
              clear F2 hf2 t6 K4 hlen2
              go_wp2
              go_meet
              exact K5
          · have d5 : decide (x.need > -100000) = false := decide_eq_false t5
            have K2 := K
            have hf1 := hfits
            have hy : Hid (ns[k]? = some ⟨x.dl, x.need⟩) := hx2.out
            have hlen : Hid (ns.length = m) := H.out.2.2.1
            have hdl : Hid (-1000000 ≤ x.dl ∧ x.dl ≤ 1000000) := hxn.1
            obtain ⟨D, hD⟩ : ∃ D, x.dl = D := ⟨_, rfl⟩
            rw [hD] at hy hdl
            generalize x.need = q at *
            clear K hxn hx2 t5 hD f1
            go_wp2_with fail
            refine (F2.out G c _ _ hlen.out hc1 hc2 K2.out.2 hf1.out).mono ?_; rintro e w5 ⟨rfl, hb⟩
            have K3 : Hid (Below w.heap.size w w5 ∧ OwnL G ns w5) := ⟨below_on K2.out.1 hb, K2.out.2.on hb⟩
            clear hb K2
            have c0 := K3.out.2.c0 k _ hy.out
            have f0 := K3.out.2.frz (k * 2) (by rw [hlen.out]; clear e1 e0; omega)
            simp only at c0
            obtain ⟨E, hE⟩ : ∃ E, D + by_ = E := ⟨_, rfl⟩
            have hdl1 := hdl.out
            have e7 : IntKind.i64.wrap (D + by_) = E := by rw [IntKind.wrap_i64]; clear e1 e0; omega
            have e8 : wrap64 (D + by_) = E := by unfold wrap64; clear e1 e0 e7; omega
            have K4 : Hid (Below w.heap.size w (w5.setCell ⟨G, k * 2, none⟩ (.int .i64 E)) ∧ OwnL G (ns.set k ⟨E, q⟩) (w5.setCell ⟨G, k * 2, none⟩ (.int .i64 E))) := ⟨K3.out.1.setCell hwG.out _, K3.out.2.setDl hy.out E⟩
            have hf2 : Hid (E ≤ 1000000 → fitsB now (ns.set k ⟨E, q⟩) = true) := fun h => fits_later_set hf1.out hy.out (by clear e1 e0 e7 e8; show D ≤ E; omega) rfl h
            have hlen2 : Hid ((ns.set k ⟨E, q⟩).length = m) := by show _ = _; rw [List.length_set, hlen.out]
            have c0' := K4.out.2.c0 k _ (set_at hy.out _)
            simp only at c0'
            clear K3 hf1 hdl hE hdl1 hy hlen
            by_cases t6 : E ≤ 1000000
            · have d6 : decide (E ≤ 1000000) = true := decide_eq_true t6
              have F3 := Lib.hid (F2.out G c _ _ hlen2.out hc1 hc2 K4.out.2 (hf2.out t6))
              have K5 := Lib.hid K4.out.1
              clear F2 hf2 t6 K4 hlen2
              go_wp2_with fail
              refine F3.out.mono ?_; rintro e w6 ⟨rfl, hb⟩
              have b6 := Lib.hid (below_on K5.out hb)
              clear hb K5 F3
              go_wp2
              go_meet
              exact b6
            · have d6 : decide (E ≤ 1000000) = false := decide_eq_false t6
              have K5 := Lib.hid K4.out.1
              clear F2 hf2 t6 K4 hlen2
              go_wp2
              go_meet
              exact K5
      case rest =>
        by_cases h0 : 0 < n
        · have d1 : decide ((n : Int) > 0) = true := decide_eq_true (by omega)
          have bx : Hid (Below w.heap.size w wc) := hcut
          clear hcut b2 F2 hfits hqf
          go_wp2_with fail
          refine (M1.out _ bx.out).mono ?_; rintro e w2 ⟨rfl, hb⟩
          have b2 := Lib.hid (below_on bx.out hb)
          clear hb M1 bx
          cases gm
          · go_wp2
            go_ret
            exact ⟨rfl, by have s0 := b2.out.size; (try simp only [World.heap_drewN, World.size_alloc] at s0); repeat (first | exact Below.refl _ _ | exact b2.out | refine Below.trans ?_ (Below.mono b2.out (by first | omega | (simp; done) | (simp; omega))) | refine Below.setCell ?_ (by first | omega | (simp; done) | (simp; omega)) _ | refine below_dN ?_ _ | refine Below.drew ?_ | refine Below.alloc ?_ (by first | omega | (simp; done) | (simp; omega)) _)⟩
          · obtain ⟨k, hkk⟩ : ∃ k : Nat, at_.toNat % n = k := ⟨_, rfl⟩
            have hkl : k < n := by rw [← hkk]; exact Nat.mod_lt _ h0
            have e1 : at_ % (n : Int) = (k : Int) := by
              obtain ⟨q, rfl⟩ := Int.eq_ofNat_of_zero_le ha0
              rw [← hkk]
              simp
            have e0 : at_.tmod (n : Int) = (k : Int) := by rw [Int.tmod_eq_emod_of_nonneg ha0, e1]
            have e2 : ¬ (n : Int) = 0 := by omega
            have e3 : ((n : Int) == 0) = false := by simp; omega
            obtain ⟨x, hx⟩ : ∃ x, l[0]? = some x := ⟨_, List.getElem?_eq_getElem (by rw [H.out.1]; exact h0)⟩
            obtain ⟨b, off, rfl, _⟩ := H.out.2.1 0 x hx
            have bd : Hid (Below w.heap.size w w2.drew) := b2.out.drew
            have hRb : Hid (RdJ w2.drew (some ⟨b, off, none⟩) l) := H.out.2.1.below bd.out
            obtain ⟨p, hp⟩ : ∃ p, k + 1 = p := ⟨_, rfl⟩
            have hs1 := fun w' => slice_lowJ b off n cap k (Nat.le_of_lt hkl) hlc hcap w'
            have hs2 := fun w' => slice_highJ b off n cap p (by clear e1 e0; omega) hlc hcap w'
            have e5 : IntKind.i64.wrap ((k : Int) + 1) = (p : Int) := by rw [IntKind.wrap_i64]; clear e1 e0; omega
            clear hkk hx b2
            go_wp2
            refine wp_region_held_drew (S := fun _ => True) (by kernel_rfl) trivial (fun hHeld => ?_)
            generalize w2.drew = wB at *
            obtain ⟨v2, y2, v3, y3, r2, r3, ⟨A', c', rfl, h1, h2, h3⟩, hb3⟩ := dropJ b off cap n k l wB H.out.1 (by clear e1 e0 e5; omega) hkl hlc hRb.out
            rw [hp] at r3
            have C := Lib.hid (M2.out A' c' k y3 (by first | rfl | trivial) hkl (below_on bd.out hb3) h1 h2 h3)
            have bf := Lib.hid (below_on bd.out hb3)
            clear M2 h1 h2 h3 hb3 hRb bd
            generalize Value.slice (if cap = p then some (⟨b, off, none⟩ : Addr) else some ⟨b, off + p * 8, none⟩) (n - p) (cap - p) = src2 at *
            replace r2 := Lib.hid r2
            replace r3 := Lib.hid r3
            refine wpAnyH_take (i := 1) (v := (.slice (some ⟨b, off, none⟩) n cap)) rfl (by kernel_rfl) (by kernel_rfl) (by kernel_rfl) (fun _ _ _ h => h) (Or.inl ⟨by rfl, ?_⟩) hHeld ?_
            · intro w hSw; go_simp
            try simp only [List.getElem_toArray, List.getElem_cons_zero, List.getElem_cons_succ, Act.put, List.setIfInBounds_toArray, List.set_cons_zero, List.set_cons_succ]
            refine wpAnyH_take (i := 2) (v := (.int .i64 (k : Int))) rfl (by kernel_rfl) (by kernel_rfl) (by kernel_rfl) (fun _ _ _ h => h) (Or.inl ⟨by rfl, ?_⟩) hHeld ?_
            · intro w hSw; go_simp
            try simp only [List.getElem_toArray, List.getElem_cons_zero, List.getElem_cons_succ, Act.put, List.setIfInBounds_toArray, List.set_cons_zero, List.set_cons_succ]
            refine wpAnyH_take (i := 3) (v := (.slice (some ⟨b, off, none⟩) k cap)) rfl (by kernel_rfl) (by kernel_rfl) (by kernel_rfl) (fun _ _ _ h => h) (Or.inl ⟨by rfl, ?_⟩) hHeld ?_
            · intro w hSw; go_simp
            try simp only [List.getElem_toArray, List.getElem_cons_zero, List.getElem_cons_succ, Act.put, List.setIfInBounds_toArray, List.set_cons_zero, List.set_cons_succ]
            refine wpAnyH_take (i := 5) (v := (.slice (some ⟨b, off, none⟩) n cap)) rfl (by kernel_rfl) (by kernel_rfl) (by kernel_rfl) (fun _ _ _ h => h) (Or.inl ⟨by rfl, ?_⟩) hHeld ?_
            · intro w hSw; go_simp
            try simp only [List.getElem_toArray, List.getElem_cons_zero, List.getElem_cons_succ, Act.put, List.setIfInBounds_toArray, List.set_cons_zero, List.set_cons_succ]
            refine wpAnyH_take (i := 6) (v := (.int .i64 (k : Int))) rfl (by kernel_rfl) (by kernel_rfl) (by kernel_rfl) (fun _ _ _ h => h) (Or.inl ⟨by rfl, ?_⟩) hHeld ?_
            · intro w hSw; go_simp
            try simp only [List.getElem_toArray, List.getElem_cons_zero, List.getElem_cons_succ, Act.put, List.setIfInBounds_toArray, List.set_cons_zero, List.set_cons_succ]
            refine wpAnyH_take (i := 7) (v := (.int .i64 (p : Int))) rfl (by kernel_rfl) (by kernel_rfl) (by kernel_rfl) (fun _ _ _ h => h) (Or.inl ⟨by rfl, ?_⟩) hHeld ?_
            · intro w hSw; go_simp
            try simp only [List.getElem_toArray, List.getElem_cons_zero, List.getElem_cons_succ, Act.put, List.setIfInBounds_toArray, List.set_cons_zero, List.set_cons_succ]
            refine wpAnyH_take (i := 8) (v := src2) rfl (by kernel_rfl) (by kernel_rfl) (by kernel_rfl) (fun _ _ _ h => h) (Or.inl ⟨by rfl, ?_⟩) hHeld ?_
            · intro w hSw; go_simp
            try simp only [List.getElem_toArray, List.getElem_cons_zero, List.getElem_cons_succ, Act.put, List.setIfInBounds_toArray, List.set_cons_zero, List.set_cons_succ]
            refine wpAnyH_ready (rs := [0]) (by kernel_rfl) (by simp) ?_
            refine AllReadyH.cons rfl (fun K hK => ?_) AllReadyH.nil
            clear hHeld
            go_simp
            refine hK.out _ _ trivial (fun hHeld => ?_)
            clear hK K
            try simp only [List.getElem_toArray, List.getElem_cons_zero, List.getElem_cons_succ, Act.put, List.setIfInBounds_toArray, List.set_cons_zero, List.set_cons_succ]
            refine wpAnyH_ready (rs := [4]) (by kernel_rfl) (by simp) ?_
            refine AllReadyH.cons rfl (fun K hK => ?_) AllReadyH.nil
            clear hHeld
            refine step_appendJ rfl (.tmp 105) (.tmp 108) 25 25 rfl (.slice (some ⟨wB.heap.size, 0, none⟩) 0 0) (.slice (some ⟨b, off, none⟩) k cap) (by rfl) (by rfl) r2.out ?_
            refine hK.out _ _ trivial (fun hHeld => ?_)
            clear hK K
            try simp only [List.getElem_toArray, List.getElem_cons_zero, List.getElem_cons_succ, Act.put, List.setIfInBounds_toArray, List.set_cons_zero, List.set_cons_succ]
            refine wpAnyH_ready (rs := [9]) (by kernel_rfl) (by simp) ?_
            refine AllReadyH.cons rfl (fun K hK => ?_) AllReadyH.nil
            clear hHeld
            refine step_appendJ rfl (.tmp 109) (.tmp 113) 25 25 rfl v2 src2 (by rfl) (by rfl) r3.out ?_
            refine hK.out _ _ trivial (fun hHeld => ?_)
            clear hK K
            try simp only [List.getElem_toArray, List.getElem_cons_zero, List.getElem_cons_succ, Act.put, List.setIfInBounds_toArray, List.set_cons_zero, List.set_cons_succ]
            refine wpAnyH_ready (rs := [10]) (by kernel_rfl) (by simp) ?_
            refine AllReadyH.cons rfl (fun K hK => ?_) AllReadyH.nil
            clear hHeld
            go_simp
            refine C.out.mono ?_
            rintro e y4 ⟨rfl, hb⟩
            have b9 := Lib.hid (below_on bf.out hb)
            refine hK.out _ _ trivial (fun hHeld => ?_)
            clear hK K hb
            try simp only [List.getElem_toArray, List.getElem_cons_zero, List.getElem_cons_succ, Act.put, List.setIfInBounds_toArray, List.set_cons_zero, List.set_cons_succ]
            refine wpAnyH_take (i := 11) (v := (.bool true)) rfl (by kernel_rfl) (by kernel_rfl) (by kernel_rfl) (fun _ _ _ h => h) (Or.inl ⟨by rfl, ?_⟩) hHeld ?_
            · intro w hSw; go_simp
            try simp only [List.getElem_toArray, List.getElem_cons_zero, List.getElem_cons_succ, Act.put, List.setIfInBounds_toArray, List.set_cons_zero, List.set_cons_succ]
            refine wpAnyH_done (by kernel_rfl) ?_ _
            clear r2 r3 C bf hs1 hs2
            go_wp2
            go_ret
            exact ⟨rfl, b9.out⟩
        · have d1 : decide ((n : Int) > 0) = false := decide_eq_false (by omega)
          have bx : Hid (Below w.heap.size w wc) := hcut
          clear hcut b2 F2 hfits hqf M1 M2
          go_wp2
          go_ret
          exact ⟨rfl, by have s0 := bx.out.size; (try simp only [World.heap_drewN, World.size_alloc] at s0); repeat (first | exact Below.refl _ _ | exact bx.out | refine Below.trans ?_ (Below.mono bx.out (by first | omega | (simp; done) | (simp; omega))) | refine Below.setCell ?_ (by first | omega | (simp; done) | (simp; omega)) _ | refine below_dN ?_ _ | refine Below.drew ?_ | refine Below.alloc ?_ (by first | omega | (simp; done) | (simp; omega)) _)⟩
  · rw [hl] at A1 hlc ⊢
    rw [hm] at hnl ⊢
    clear hL hR hgh hl hm hN hat
    go_enter Tryd.func6, Tryd.ntmps6
    go_wp2_with fail
    refine A0.out.mono ?_; rintro e w0 ⟨rfl, b0⟩
    replace b0 := Lib.hid b0
    clear A0
    go_wp2_with fail
    refine (A1.out _ b0.out).mono ?_; rintro e w1 ⟨rfl, q1, rfl⟩
    clear A1
    cases gh
    · by_cases k1 : m ≤ 30
      · have d1 : decide ((m : Int) > 30) = false := decide_eq_false (by omega)
        by_cases k2 : by_ < 0
        · have d2 : decide (by_ < 0) = true := decide_eq_true k2
          clear hgo
          go_wp2
          go_ret
          exact ⟨rfl, by have s0 := b0.out.size; (try simp only [World.heap_drewN, World.size_alloc] at s0); repeat (first | exact Below.refl _ _ | exact b0.out | refine Below.trans ?_ (Below.mono b0.out (by first | omega | (simp; done) | (simp; omega))) | refine Below.setCell ?_ (by first | omega | (simp; done) | (simp; omega)) _ | refine below_dN ?_ _ | refine Below.drew ?_ | refine Below.alloc ?_ (by first | omega | (simp; done) | (simp; omega)) _)⟩
        · have d2 : decide (by_ < 0) = false := decide_eq_false k2
          by_cases k3 : by_ > 1000
          · have d3 : decide (by_ > 1000) = true := decide_eq_true k3
            clear hgo
            go_wp2
            go_ret
            exact ⟨rfl, by have s0 := b0.out.size; (try simp only [World.heap_drewN, World.size_alloc] at s0); repeat (first | exact Below.refl _ _ | exact b0.out | refine Below.trans ?_ (Below.mono b0.out (by first | omega | (simp; done) | (simp; omega))) | refine Below.setCell ?_ (by first | omega | (simp; done) | (simp; omega)) _ | refine below_dN ?_ _ | refine Below.drew ?_ | refine Below.alloc ?_ (by first | omega | (simp; done) | (simp; omega)) _)⟩
          · have d3 : decide (by_ > 1000) = false := decide_eq_false k3
            have k4 : at_ < 0 := by
              rcases Int.lt_or_le at_ 0 with h | h
              · exact h
              · exact absurd ⟨rfl, k1, by omega, by omega, h⟩ hgo
            have d4 : decide (at_ < 0) = true := decide_eq_true k4
            clear hgo
            go_wp2
            go_ret
            exact ⟨rfl, by have s0 := b0.out.size; (try simp only [World.heap_drewN, World.size_alloc] at s0); repeat (first | exact Below.refl _ _ | exact b0.out | refine Below.trans ?_ (Below.mono b0.out (by first | omega | (simp; done) | (simp; omega))) | refine Below.setCell ?_ (by first | omega | (simp; done) | (simp; omega)) _ | refine below_dN ?_ _ | refine Below.drew ?_ | refine Below.alloc ?_ (by first | omega | (simp; done) | (simp; omega)) _)⟩
      · have d1 : decide ((m : Int) > 30) = true := decide_eq_true (by omega)
        clear hgo
        go_wp2
        go_ret
        exact ⟨rfl, by have s0 := b0.out.size; (try simp only [World.heap_drewN, World.size_alloc] at s0); repeat (first | exact Below.refl _ _ | exact b0.out | refine Below.trans ?_ (Below.mono b0.out (by first | omega | (simp; done) | (simp; omega))) | refine Below.setCell ?_ (by first | omega | (simp; done) | (simp; omega)) _ | refine below_dN ?_ _ | refine Below.drew ?_ | refine Below.alloc ?_ (by first | omega | (simp; done) | (simp; omega)) _)⟩
    · go_wp2
      go_ret
      exact ⟨rfl, by have s0 := b0.out.size; (try simp only [World.heap_drewN, World.size_alloc] at s0); repeat (first | exact Below.refl _ _ | exact b0.out | refine Below.trans ?_ (Below.mono b0.out (by first | omega | (simp; done) | (simp; omega))) | refine Below.setCell ?_ (by first | omega | (simp; done) | (simp; omega)) _ | refine below_dN ?_ _ | refine Below.drew ?_ | refine Below.alloc ?_ (by first | omega | (simp; done) | (simp; omega)) _)⟩
end Go.Proofs.YtcohodpaagpfgaaDoor
