/- Package edf: the needs by their deadlines: slices.Clone, slices.SortFunc; the least slack. -/
import Derived.Test.YtcohodpaagpfgaaDoorEdLeast
import Derived.Test.YtcohodpaagpfgaaDoorEd1
import Derived.Test.YtcohodpaagpfgaaDoorEdLay
import Derived.Test.YtcohodpaagpfgaaDoorJbBy
import Derived.Test.YtcohodpaagpfgaaDoorTr4
import Derived.Lib.SliceRun
namespace Go.Proofs.YtcohodpaagpfgaaDoor
open Go.RowKit Go.Lib Go.Sort
set_option linter.unusedVariables false
set_option linter.unusedSimpArgs false

def encF (x : Lf) : List Value := [.int .i64 x.dl, .int .i64 x.need]
def cellsF (l : List Lf) : List Value := l.flatMap encF
theorem cellsF_cons (x : Lf) (l : List Lf) : cellsF (x :: l) = .int .i64 x.dl :: .int .i64 x.need :: cellsF l := by simp [cellsF, encF]
theorem cellsF_length (l : List Lf) : (cellsF l).length = l.length * 2 := by
  induction l with
  | nil => rfl
  | cons s ss ih => rw [cellsF_cons]; simp [ih]; omega
theorem cellsF_get (l : List Lf) : ∀ (i : Nat) (s : Lf), l[i]? = some s → (cellsF l)[i * 2]? = some (.int .i64 s.dl) ∧ (cellsF l)[i * 2 + 1]? = some (.int .i64 s.need) := by
  induction l with
  | nil => intro i s h; simp at h
  | cons t ss ih =>
    intro i s h
    rw [cellsF_cons]
    match i, h with
    | 0, h => simp at h; subst h; simp
    | i + 1, h =>
      have := ih i s (by simpa using h)
      rw [show (i + 1) * 2 = i * 2 + 1 + 1 by omega]
      simpa using this
theorem cellsF_ones (l : List Lf) : ∀ u ∈ cellsF l, u.oneCell' = true := by
  intro u hu
  obtain ⟨x, _, hx⟩ := List.mem_flatMap.1 hu
  simp [encF] at hx
  rcases hx with rfl | rfl <;> rfl
/-- A row of needs, as its cells one by one. -/
theorem cellsF_src {w : World} {b off : Nat} {l : List Lf} (h : RdL w (some ⟨b, off, none⟩) l) : ∀ j u, (cellsF l)[j]? = some u → w.cell? ⟨b, off + j, none⟩ = some u := by
  intro j u hu
  have hj := (List.getElem?_eq_some_iff.1 hu).1
  rw [cellsF_length] at hj
  obtain ⟨x, hx⟩ : ∃ x, l[j / 2]? = some x := ⟨_, List.getElem?_eq_getElem (by omega)⟩
  obtain ⟨g0, g1⟩ := cellsF_get l (j / 2) x hx
  obtain ⟨b', off', he, c0, c1⟩ := h (j / 2) x hx
  cases he
  rcases Nat.mod_two_eq_zero_or_one j with hm | hm
  · have e : j / 2 * 2 = j := by omega
    rw [e] at g0 c0
    rw [hu] at g0; injection g0 with g0; rw [c0, g0]
  · have e : j / 2 * 2 + 1 = j := by omega
    rw [Nat.add_assoc, e] at c1
    rw [e] at g1
    rw [hu] at g1; injection g1 with g1; rw [c1, g1]
theorem flatF (l : List Lf) (j : Nat) (hj : j < l.length * 2) : (cellsF l)[j]? = some ((flatK encF 2 l.toArray)[j]!) := by
  rw [get_flatK _ _ _ _ (by simpa using hj)]
  obtain ⟨x, hx⟩ : ∃ x, l[j / 2]? = some x := ⟨_, List.getElem?_eq_getElem (by omega)⟩
  obtain ⟨g0, g1⟩ := cellsF_get l (j / 2) x hx
  have ex : l.toArray[j / 2]! = x := by
    have hlt : j / 2 < l.length := by omega
    rw [getElem!_pos l.toArray (j / 2) (by simpa using hlt)]
    have := (List.getElem?_eq_some_iff.1 hx).2
    simpa using this
  rw [ex]
  rcases Nat.mod_two_eq_zero_or_one j with hm | hm
  · have e : j / 2 * 2 = j := by omega
    rw [e] at g0
    rw [hm, g0]; rfl
  · have e : j / 2 * 2 + 1 = j := by omega
    rw [e] at g1
    rw [hm, g1]; rfl
theorem Tryd.infoLf : (Tryd.prog.info? 35).map (fun i => (i.zero, i.size, i.bytes)) = some (some (.agg #[.int .i64 0, .int .i64 0]), 2, 16) := by kernel_rfl
theorem ownF_holds {w : World} {base n : Nat} {e : TypeId} {v : Value} {l : List Lf} (h : w.ownsRow base e 2 v n (cellsF l)) (h0 : 0 < n) :
    ∃ g c, v = .slice (some ⟨g, 0, none⟩) n c ∧ base ≤ g ∧ g < w.heap.size ∧ n ≤ c ∧ c ≤ 9223372036854775807 ∧ HoldsK encF 2 w g 0 l.toArray := by
  have hn : n = l.length := by have := h.1; rw [cellsF_length] at this; omega
  rcases h.2 with ⟨rfl, h1⟩ | ⟨g, cap, cur, rfl, hb, hh, h1, h2, h3, h4⟩
  · omega
  · refine ⟨g, cap, rfl, hb, (Array.getElem?_eq_some_iff.1 hh).1, h1, by unfold maxLen at h2; omega, fun j hj => ?_⟩
    rw [size_flatK] at hj
    have hj2 : j < l.length * 2 := by simpa using hj
    refine ⟨?_, by simp [World.frozen?, hh]⟩
    rw [Nat.zero_add, cell_row hh, ← Array.getElem?_toList]
    have := flatF l j hj2
    rw [← h4, List.getElem?_take, if_pos (by omega)] at this
    exact this
set_option maxHeartbeats 800000 in
theorem cloneF_any (b off cap : Nat) (l : List Lf) (n : Nat) (w : World) (hl : l.length = n) (h0 : 0 < n) (hn : n ≤ 1000) (hR : RdL w (some ⟨b, off, none⟩) l) :
    Calls Tryd.prog 47 #[.slice (some ⟨b, off, none⟩) n cap] w fun e w' => ∃ g c, e = .returned (.slice (some ⟨g, 0, none⟩) n c) ∧ w.heap.size ≤ g ∧ g < w'.heap.size ∧ n ≤ c ∧ c ≤ 9223372036854775807 ∧ HoldsK encF 2 w' g 0 l.toArray ∧ Below w.heap.size w w' := by
  obtain ⟨i0, hi0, hz0, hz1, hz2⟩ := info_parts Tryd.infoLf
  have q : ∀ (w : World) (a : Option Addr) (n c n' c' : Nat), (binOp .eql 33 (.slice a n c) (.slice none n' c')).run Tryd.prog w = .ok (.bool a.isNone) w := fun w a n c n' c' => Lib.run_eql_slice_nil w _ _ a n c n' c' Tryd.underlying33
  have hc : ∀ (ob : Obj) j u, (cellsF l)[j]? = some u → (w.alloc ob).cell? ((⟨b, off, none⟩ : Addr).add j) = some u := fun ob j u hj => by
    rw [Addr.add_lit]
    exact Lib.cell?_alloc_some _ (cellsF_src hR j u hj)
  have F := Lib.hid hc
  have hcl : Hid ((cellsF l).length = n * 2) := by show _ = _; rw [cellsF_length, hl]
  clear hc hR hl
  go_enter Tryd.func47, Tryd.ntmps47
  go_wp2_with (at_builtin; refine wpList_append_own _ rfl _ _ 33 rfl w.heap.size 35 i0 (.agg #[.int .i64 0, .int .i64 0]) 2 16 Tryd.underlying33 hi0 hz0 hz1 hz2 rfl (by decide) _ _ _ rfl (World.ownsRow_made w #[] 0 (Nat.le_refl _) (Nat.zero_le _) (by simp)) ⟨b, off, none⟩ n cap (cellsF l) rfl hcl.out (F.out _) (cellsF_ones l) (by unfold maxLen; omega) (by omega) (by simp) ?_)
  intro v' w1 hown hgrow hnil
  have hb : Below w.heap.size w w1 := ((Below.refl _ w).alloc (Nat.le_refl _) _).grown hgrow (by simp) (by intro k hk; simp [Value.ownBlock] at hk; omega)
  obtain ⟨g, c, rfl, h1, h2, h3, h4, h5⟩ := ownF_holds (w := w1) (base := w.heap.size) (n := n) (l := l) (by simpa using hown) h0
  have G := Lib.hid (And.intro h1 (And.intro h2 (And.intro h5 hb)))
  clear hown hgrow hnil hb h1 h2 h5
  go_wp2
  go_ret
  exact ⟨g, c, rfl, G.out.1, G.out.2.1, h3, h4, G.out.2.2.1, G.out.2.2.2⟩

def cmpF (x y : Lf) : Int := if x.dl < y.dl then -1 else if y.dl < x.dl then 1 else 0
theorem ltF (x y : Lf) : ltOf cmpF x y = decide (x.dl < y.dl) := by
  unfold ltOf cmpF
  by_cases h1 : x.dl < y.dl
  · simp [h1]
  · by_cases h2 : y.dl < x.dl <;> simp [h1, h2]
theorem swoF : SWO (ltOf cmpF) where
  irrefl x := by rw [ltF]; simp
  trans x y z h1 h2 := by rw [ltF] at *; simp at *; omega
  ntrans x y z h1 h2 := by rw [ltF] at *; simp at *; omega
set_option maxHeartbeats 800000 in
theorem closF_any (x y : Lf) (W : World) : Calls Tryd.prog 49 #[.agg #[.int .i64 x.dl, .int .i64 x.need], .agg #[.int .i64 y.dl, .int .i64 y.need]] W fun e w' => e = .returned (.int .i64 (cmpF x y)) ∧ ∃ q os', w' = grow (W.drewN q) os' := by
  obtain ⟨c, hc⟩ : ∃ c, cmpF x y = c := ⟨_, rfl⟩
  have C := Lib.hid (compare_any x.dl y.dl c · hc)
  rw [hc]
  clear hc
  obtain ⟨a, b⟩ := x
  obtain ⟨d, e⟩ := y
  simp only at *
  go_enter Tryd.func49, Tryd.ntmps49
  go_wp2_with fail
  refine (C.out _).mono ?_; rintro e w' ⟨rfl, n1, rfl⟩
  go_wp2
  go_ret
  exact ⟨rfl, n1, _, by rw [alloc_eq_grow, alloc_eq_grow, grow_grow]; rfl⟩
theorem cmpLaysF (blk off size : Nat) (w : World) : CmpLays Tryd.prog 49 #[] encF 2 cmpF blk off size w := fun _ _ _ _ x y => closF_any x y _
/-- The sort's world: all else as it was. -/
theorem below_sortF {w : World} {N blk n : Nat} {d : Array Lf} {os : Array Obj} (h : N ≤ blk) (hs : N ≤ w.heap.size) : Below N w (sortWorldK encF 2 w blk 0 n d os) := by
  unfold sortWorldK
  refine ⟨rfl, rfl, rfl, by rw [size_grow, size_putRowK]; exact Nat.le_trans (Nat.le_refl _) (Nat.le_add_right _ _), fun i hi => ?_⟩
  rw [heap_grow_old _ _ (by rw [size_putRowK]; show i < w.heap.size; omega)]
  unfold putRowK putRow mapBlock
  simp only [Array.getElem?_modify, heap_ahead]
  rw [if_neg (by omega)]
theorem sortF_any (g c : Nat) (l : List Lf) (n : Nat) (w : World) (hl : l.length = n) (hn : n ≤ 1000) (hH : HoldsK encF 2 w g 0 l.toArray) (hg : g < w.heap.size) :
    Calls Tryd.prog 48 #[.slice (some ⟨g, 0, none⟩) n c, .func (.func 49) #[] #[]] w fun e w' => e = .returned (.tuple #[]) ∧ ∃ s : List Lf, s.Perm l ∧ SrtL s ∧ RdL w' (some ⟨g, 0, none⟩) s ∧ Below g w w' := by
  have eg : ∀ args w, (callFunc 49 args).run Tryd.prog w = .ok (.enter 49 args) w := enters_of Tryd.func49 (by kernel_rfl) rfl
  have hcon := AnyQ.slices_SortFunc Tryd.sortLf 2 Tryd.isAgg35 Tryd.sizeOf35 encF (fun _ => rfl) (fun x v hv => by simp [encF] at hv; rcases hv with rfl | rfl <;> rfl) cmpF swoF 49 #[] g 0 c l.toArray w eg (cmpLaysF g 0 l.toArray.size w) hH hg (by simp; omega)
  change Calls Tryd.prog 48 _ _ _ at hcon
  rw [show l.toArray.size = n by simpa using hl] at hcon
  refine hcon.mono ?_
  rintro e w' ⟨rfl, d', m, os, hp, hs, rfl⟩
  have hsz : d'.size = n := by rw [hp.1]; simpa using hl
  have hperm : d'.toList.Perm l := by
    have h1 := hp.2.2
    rw [show n = d'.size from hsz.symm, Array.extract_size] at h1
    rw [show d'.size = l.toArray.size by rw [hsz]; simp [hl], Array.extract_size] at h1
    simpa using h1
  refine ⟨rfl, d'.toList, hperm, ?_, ?_, below_sortF (Nat.le_refl _) (Nat.le_of_lt hg)⟩
  · intro i j x y hij hx hy
    have hj := (List.getElem?_eq_some_iff.1 hy).1
    have hjs : j < n := by simpa [hsz] using hj
    have h1 := hs i j (Nat.zero_le _) hij hjs
    rw [ltF, decide_eq_false_iff_not] at h1
    have ex : d'[i]! = x := by
      have := (List.getElem?_eq_some_iff.1 hx).2
      rw [getElem!_pos d' i (by omega)]
      simpa using this
    have ey : d'[j]! = y := by
      have := (List.getElem?_eq_some_iff.1 hy).2
      rw [getElem!_pos d' j (by omega)]
      simpa using this
    rw [ex, ey] at h1
    omega
  · intro k x hx
    have hk := (List.getElem?_eq_some_iff.1 hx).1
    have hks : k < d'.size := by simpa using hk
    have ex : d'[k]! = x := by
      have := (List.getElem?_eq_some_iff.1 hx).2
      rw [getElem!_pos d' k hks]
      simpa using this
    have H := holdsK_sortWorldK_c encF 2 w g 0 l.toArray d' m os hH hg (by rw [hsz]; simp [hl])
    have h0 := (H.cell hks (c := 0) (by decide)).1
    have h1 := (H.cell hks (c := 1) (by decide)).1
    rw [ex] at h0 h1
    exact ⟨g, 0, rfl, h0, h1⟩
end Go.Proofs.YtcohodpaagpfgaaDoor
