/- The document's own arena in memory: rows of what there is. -/
import Derived.Test.YtenokhdfbomkkaaSlots
import Derived.Test.YtenokhdfbomkkaaRegT
namespace Go.Proofs.Ytenokhdfbomkkaa
open Go.RowKit
set_option linter.unusedVariables false
set_option linter.unusedSimpArgs false

section
variable {o o' : Nat → Nat} {σ τ : Nat} {w w' : World} {e e' : TypeId} {v v' : Value} {n n' : Nat} {xs xs' : List Value}
/-- The slice v of n one-cell elements reads as xs, in a block of its own. -/
structure Seg (o : Nat → Nat) (τ : Nat) (w : World) (e : TypeId) (v : Value) (n : Nat) (xs : List Value) : Prop where
  len : xs.length = n
  at_ : (v = .slice none 0 0 ∧ n = 0) ∨ ∃ g cap cur, v = .slice (some ⟨g, 0, none⟩) n cap ∧ w.heap[g]? = some (.cells cur e (0, 0)) ∧ n ≤ cap ∧ cap ≤ maxLen ∧ cur.toList.take n = xs
  mine : ∀ k, v.ownBlock = some k → o k = τ
theorem Seg.lt (h : Seg o τ w e v n xs) {k : Nat} (hk : v.ownBlock = some k) : k < w.heap.size := by
  rcases h.at_ with ⟨rfl, _⟩ | ⟨g, cap, cur, rfl, hg, _⟩
  · cases hk
  · cases hk; exact (Array.getElem?_eq_some_iff.1 hg).1
theorem Seg.of_row (h : Row o τ w e 1 v n xs) : Seg o τ w e v n xs := by
  refine ⟨by simpa using h.own.1, h.own.2.imp id ?_, h.mine⟩
  rintro ⟨g, cap, cur, rfl, _, hg, h1, h2, _, h4⟩
  exact ⟨g, cap, cur, rfl, hg, h1, h2, by simpa using h4⟩
theorem Seg.same (h : Seg o τ w e v n xs) (hs : ∀ k, v.ownBlock = some k → w'.heap[k]? = w.heap[k]? ∧ o' k = τ) : Seg o' τ w' e v n xs := by
  refine ⟨h.len, h.at_.imp id ?_, fun k hk => (hs k hk).2⟩
  rintro ⟨g, cap, cur, rfl, hg, r⟩
  exact ⟨g, cap, cur, rfl, (hs g rfl).1.trans hg, r⟩
theorem Seg.step (h : Seg o τ w e v n xs) (st : Step o o' σ w w') (hne : τ ≠ σ) : Seg o' τ w' e v n xs :=
  h.same fun k hk => ⟨st.block k (h.lt hk) (by rw [h.mine k hk]; exact hne), by rw [st.old k (h.lt hk)]; exact h.mine k hk⟩
theorem Seg.below (h : Seg o τ w e v n xs) (hb : Below w.heap.size w w') : Seg o τ w' e v n xs := h.same fun k hk => ⟨hb.block k (h.lt hk), h.mine k hk⟩
theorem Seg.alloc (h : Seg o τ w e v n xs) (x : Obj) (τ' : Nat) : Seg (tag o w.heap.size τ') τ (w.alloc x) e v n xs :=
  h.same fun k hk => ⟨Below.heap_alloc _ _ _ (h.lt hk), by rw [tag_old (h.lt hk)]; exact h.mine k hk⟩
theorem Seg.grown (h : Seg o τ w e v n xs) {row : Option Nat} (hg : w.grownBy w' row) (hr : ∀ k, v.ownBlock = some k → row ≠ some k) (τ' : Nat) : Seg (tag o w.heap.size τ') τ w' e v n xs :=
  h.same fun k hk => ⟨hg.block k (h.lt hk) (fun e => hr k hk e.symm), by rw [tag_old (h.lt hk)]; exact h.mine k hk⟩
theorem Seg.other (h : Seg o τ w e v n xs) {p : Addr} (hp : v.ownBlock ≠ some p.block) (u : Value) : Seg o τ (w.setCell p u) e v n xs :=
  h.same fun k hk => ⟨heap_setCell_other w p k u (fun e => hp (e ▸ hk)), h.mine k hk⟩
theorem Seg.ne_blk {b : Nat} {cs : Array Value} {t : TypeId} (h : Seg o τ w e v n xs) (hb : w.heap[b]? = some (.cells cs t (0, 0))) (ht : t ≠ e) : v.ownBlock ≠ some b := by
  intro hk
  rcases h.at_ with ⟨rfl, _⟩ | ⟨g, cap, cur, rfl, hg, _⟩
  · cases hk
  · cases hk; rw [hb] at hg; cases hg; exact ht rfl
theorem Seg.ne_row {size : Nat} {τ' : Nat} (h : Seg o τ w e v n xs) (h' : Row o τ' w e' size v' n' xs') (ht : e ≠ e') : ∀ k, v.ownBlock = some k → v'.ownBlock ≠ some k := by
  intro k hk hk'
  rcases h.at_ with ⟨rfl, _⟩ | ⟨g, cap, cur, rfl, hg, _⟩
  · cases hk
  · cases hk; exact h'.ne_blk hg ht hk'
theorem Seg.any (h : Seg o τ w e v n xs) : ∃ A cap, v = .slice A n cap := by
  rcases h.at_ with ⟨rfl, h0⟩ | ⟨g, cap, cur, rfl, _⟩
  · exact ⟨none, 0, by rw [h0]⟩
  · exact ⟨_, _, rfl⟩
theorem Seg.form (h : Seg o τ w e v n xs) (hn : 0 < n) : ∃ g cap, v = .slice (some ⟨g, 0, none⟩) n cap ∧ n ≤ cap ∧ cap ≤ maxLen ∧ o g = τ ∧ g < w.heap.size := by
  rcases h.at_ with ⟨rfl, h0⟩ | ⟨g, cap, cur, rfl, hg, h1, h2, _⟩
  · omega
  · exact ⟨g, cap, rfl, h1, h2, h.mine g rfl, (Array.getElem?_eq_some_iff.1 hg).1⟩
theorem Seg.cellAt {g cap : Nat} (h : Seg o τ w e (.slice (some ⟨g, 0, none⟩) n cap) n xs) (j : Nat) (hj : j < n) : w.cell? ⟨g, j, none⟩ = xs[j]? := by
  rcases h.at_ with ⟨hv, _⟩ | ⟨g', cap', cur, hv, hg, h1, h2, h4⟩
  · cases hv
  · cases hv
    rw [cell_of_row w g j cur e (0, 0) hg, ← h4, List.getElem?_take, if_pos hj]
    simp
theorem Seg.cut {g cap : Nat} (h : Seg o τ w e (.slice (some ⟨g, 0, none⟩) n cap) n xs) {m c : Nat} (hm : m ≤ n) (hc : m ≤ c) (hc2 : c ≤ maxLen) : Seg o τ w e (.slice (some ⟨g, 0, none⟩) m c) m (xs.take m) := by
  refine ⟨by rw [List.length_take, h.len]; omega, ?_, fun k hk => h.mine k hk⟩
  rcases h.at_ with ⟨hv, _⟩ | ⟨g', cap', cur, hv, hg, h1, h2, h4⟩
  · cases hv
  · cases hv
    refine .inr ⟨g, c, cur, rfl, hg, hc, hc2, ?_⟩
    rw [← h4, List.take_take, Nat.min_eq_left hm]
end

/-- The struct's five cells; its rows, wherever the struct's cells lead by now. -/
structure RefX (o : Nat → Nat) (σ : Nat) (w : World) (b : Nat) (c0 c1 c2 c3 c4 : Value) (vi : Value) (xi : List Value) (vg : Value) (xg : List Value) (vv : Value) (xv : List Value) (vf : Value) (xf : List Value) : Prop where
  box : Blk o σ w b #[c0, c1, c2, c3, c4] 48
  ri : Row o σ w 4 1 vi xi.length xi
  rg : Row o σ w 2 1 vg xg.length xg
  rv : Row o σ w 9 1 vv xv.length xv
  rf : Seg o σ w 3 vf xf.length xf
section
variable {o o' : Nat → Nat} {σ τ : Nat} {w w' : World} {b : Nat} {c0 c1 c2 c3 c4 vi vg vv vf : Value} {xi xg xv xf : List Value}
theorem RefX.alloc (h : RefX o σ w b c0 c1 c2 c3 c4 vi xi vg xg vv xv vf xf) (x : Obj) (τ' : Nat) : RefX (tag o w.heap.size τ') σ (w.alloc x) b c0 c1 c2 c3 c4 vi xi vg xg vv xv vf xf :=
  ⟨h.box.alloc x τ', h.ri.alloc x τ', h.rg.alloc x τ', h.rv.alloc x τ', h.rf.alloc x τ'⟩
theorem RefX.drewN (h : RefX o σ w b c0 c1 c2 c3 c4 vi xi vg xg vv xv vf xf) (n : Nat) : RefX o σ (w.drewN n) b c0 c1 c2 c3 c4 vi xi vg xg vv xv vf xf :=
  ⟨⟨h.box.at_, h.box.mine⟩, ⟨h.ri.own, h.ri.mine⟩, ⟨h.rg.own, h.rg.mine⟩, ⟨h.rv.own, h.rv.mine⟩, ⟨h.rf.len, h.rf.at_, h.rf.mine⟩⟩
theorem RefX.drew (h : RefX o σ w b c0 c1 c2 c3 c4 vi xi vg xg vv xv vf xf) : RefX o σ w.drew b c0 c1 c2 c3 c4 vi xi vg xg vv xv vf xf := h.drewN 1
theorem RefX.below (h : RefX o σ w b c0 c1 c2 c3 c4 vi xi vg xg vv xv vf xf) (hb : Below w.heap.size w w') : RefX o σ w' b c0 c1 c2 c3 c4 vi xi vg xg vv xv vf xf :=
  ⟨h.box.below hb, h.ri.below hb, h.rg.below hb, h.rv.below hb, h.rf.below hb⟩
theorem RefX.step (h : RefX o σ w b c0 c1 c2 c3 c4 vi xi vg xg vv xv vf xf) (st : Step o o' τ w w') (hne : σ ≠ τ) : RefX o' σ w' b c0 c1 c2 c3 c4 vi xi vg xg vv xv vf xf :=
  ⟨h.box.step st hne, h.ri.step st hne, h.rg.step st hne, h.rv.step st hne, h.rf.step st hne⟩
theorem RefX.app_i {x vi' : Value} (h : RefX o σ w b c0 c1 c2 c3 c4 vi xi vg xg vv xv vf xf) (hown : w'.ownsRow 0 4 1 vi' (xi.length + 1) (xi ++ [x])) (hg : w.grownBy w' vi.ownBlock) (hloc : vi'.ownBlock = vi.ownBlock ∨ vi'.ownBlock = some w.heap.size) :
    RefX (tag o w.heap.size σ) σ w' b c0 c1 c2 c3 c4 vi' (xi ++ [x]) vg xg vv xv vf xf :=
  ⟨h.box.grown hg (h.ri.ne_blk h.box.at_ (by decide)) σ, by rw [List.length_append]; exact h.ri.appended hown hloc, h.rg.grown hg (fun k hk => h.rg.ne_row h.ri (by decide) k hk) σ, h.rv.grown hg (fun k hk => h.rv.ne_row h.ri (by decide) k hk) σ, h.rf.grown hg (fun k hk => h.rf.ne_row h.ri (by decide) k hk) σ⟩
theorem RefX.app_g {x vg' : Value} (h : RefX o σ w b c0 c1 c2 c3 c4 vi xi vg xg vv xv vf xf) (hown : w'.ownsRow 0 2 1 vg' (xg.length + 1) (xg ++ [x])) (hg : w.grownBy w' vg.ownBlock) (hloc : vg'.ownBlock = vg.ownBlock ∨ vg'.ownBlock = some w.heap.size) :
    RefX (tag o w.heap.size σ) σ w' b c0 c1 c2 c3 c4 vi xi vg' (xg ++ [x]) vv xv vf xf :=
  ⟨h.box.grown hg (h.rg.ne_blk h.box.at_ (by decide)) σ, h.ri.grown hg (fun k hk => h.ri.ne_row h.rg (by decide) k hk) σ, by rw [List.length_append]; exact h.rg.appended hown hloc, h.rv.grown hg (fun k hk => h.rv.ne_row h.rg (by decide) k hk) σ, h.rf.grown hg (fun k hk => h.rf.ne_row h.rg (by decide) k hk) σ⟩
theorem RefX.app_v {x vv' : Value} (h : RefX o σ w b c0 c1 c2 c3 c4 vi xi vg xg vv xv vf xf) (hown : w'.ownsRow 0 9 1 vv' (xv.length + 1) (xv ++ [x])) (hg : w.grownBy w' vv.ownBlock) (hloc : vv'.ownBlock = vv.ownBlock ∨ vv'.ownBlock = some w.heap.size) :
    RefX (tag o w.heap.size σ) σ w' b c0 c1 c2 c3 c4 vi xi vg xg vv' (xv ++ [x]) vf xf :=
  ⟨h.box.grown hg (h.rv.ne_blk h.box.at_ (by decide)) σ, h.ri.grown hg (fun k hk => h.ri.ne_row h.rv (by decide) k hk) σ, h.rg.grown hg (fun k hk => h.rg.ne_row h.rv (by decide) k hk) σ, by rw [List.length_append]; exact h.rv.appended hown hloc, h.rf.grown hg (fun k hk => h.rf.ne_row h.rv (by decide) k hk) σ⟩
theorem RefX.setBox (h : RefX o σ w b c0 c1 c2 c3 c4 vi xi vg xg vv xv vf xf) (i : Nat) (u : Value) (hi : i < 5) : ∃ d0 d1 d2 d3 d4, #[d0, d1, d2, d3, d4] = #[c0, c1, c2, c3, c4].setIfInBounds i u ∧ RefX o σ (w.setCell ⟨b, i, none⟩ u) b d0 d1 d2 d3 d4 vi xi vg xg vv xv vf xf := by
  have mk : ∀ d0 d1 d2 d3 d4, #[d0, d1, d2, d3, d4] = #[c0, c1, c2, c3, c4].setIfInBounds i u → RefX o σ (w.setCell ⟨b, i, none⟩ u) b d0 d1 d2 d3 d4 vi xi vg xg vv xv vf xf := fun d0 d1 d2 d3 d4 hd =>
    ⟨by rw [hd]; exact h.box.set i u, h.ri.other (h.ri.ne_blk h.box.at_ (by decide)) u, h.rg.other (h.rg.ne_blk h.box.at_ (by decide)) u, h.rv.other (h.rv.ne_blk h.box.at_ (by decide)) u, h.rf.other (h.rf.ne_blk h.box.at_ (by decide)) u⟩
  match i, hi with
  | 0, _ => exact ⟨_, _, _, _, _, rfl, mk _ _ _ _ _ rfl⟩
  | 1, _ => exact ⟨_, _, _, _, _, rfl, mk _ _ _ _ _ rfl⟩
  | 2, _ => exact ⟨_, _, _, _, _, rfl, mk _ _ _ _ _ rfl⟩
  | 3, _ => exact ⟨_, _, _, _, _, rfl, mk _ _ _ _ _ rfl⟩
  | 4, _ => exact ⟨_, _, _, _, _, rfl, mk _ _ _ _ _ rfl⟩
theorem RefX.set1 (h : RefX o σ w b c0 c1 c2 c3 c4 vi xi vg xg vv xv vf xf) (u : Value) : RefX o σ (w.setCell ⟨b, 1, none⟩ u) b c0 u c2 c3 c4 vi xi vg xg vv xv vf xf := by
  obtain ⟨_, _, _, _, _, hd, hx⟩ := h.setBox 1 u (by decide); cases hd; exact hx
theorem RefX.set2 (h : RefX o σ w b c0 c1 c2 c3 c4 vi xi vg xg vv xv vf xf) (u : Value) : RefX o σ (w.setCell ⟨b, 2, none⟩ u) b c0 c1 u c3 c4 vi xi vg xg vv xv vf xf := by
  obtain ⟨_, _, _, _, _, hd, hx⟩ := h.setBox 2 u (by decide); cases hd; exact hx
theorem RefX.set3 (h : RefX o σ w b c0 c1 c2 c3 c4 vi xi vg xg vv xv vf xf) (u : Value) : RefX o σ (w.setCell ⟨b, 3, none⟩ u) b c0 c1 c2 u c4 vi xi vg xg vv xv vf xf := by
  obtain ⟨_, _, _, _, _, hd, hx⟩ := h.setBox 3 u (by decide); cases hd; exact hx
theorem RefX.set4 (h : RefX o σ w b c0 c1 c2 c3 c4 vi xi vg xg vv xv vf xf) (u : Value) : RefX o σ (w.setCell ⟨b, 4, none⟩ u) b c0 c1 c2 c3 u vi xi vg xg vv xv vf xf := by
  obtain ⟨_, _, _, _, _, hd, hx⟩ := h.setBox 4 u (by decide); cases hd; exact hx
/-- A store into one of the rows. -/
theorem RefX.put_i {g n cap : Nat} (h : RefX o σ w b c0 c1 c2 c3 c4 (.slice (some ⟨g, 0, none⟩) n cap) xi vg xg vv xv vf xf) (j : Nat) (u : Value) : RefX o σ (w.setCell ⟨g, j, none⟩ u) b c0 c1 c2 c3 c4 (.slice (some ⟨g, 0, none⟩) n cap) (xi.set j u) vg xg vv xv vf xf := by
  obtain ⟨A, c, hv⟩ := h.ri.any
  cases hv
  exact ⟨h.box.other (fun e => h.ri.ne_blk h.box.at_ (by decide) (by rw [e]; rfl)) u, by rw [List.length_set]; exact h.ri.set j u, h.rg.other (fun e => h.rg.ne_row h.ri (by decide) g e rfl) u, h.rv.other (fun e => h.rv.ne_row h.ri (by decide) g e rfl) u, h.rf.other (fun e => h.rf.ne_row h.ri (by decide) g e rfl) u⟩
theorem RefX.put_g {g n cap : Nat} (h : RefX o σ w b c0 c1 c2 c3 c4 vi xi (.slice (some ⟨g, 0, none⟩) n cap) xg vv xv vf xf) (j : Nat) (u : Value) : RefX o σ (w.setCell ⟨g, j, none⟩ u) b c0 c1 c2 c3 c4 vi xi (.slice (some ⟨g, 0, none⟩) n cap) (xg.set j u) vv xv vf xf := by
  obtain ⟨A, c, hv⟩ := h.rg.any
  cases hv
  exact ⟨h.box.other (fun e => h.rg.ne_blk h.box.at_ (by decide) (by rw [e]; rfl)) u, h.ri.other (fun e => h.ri.ne_row h.rg (by decide) g e rfl) u, by rw [List.length_set]; exact h.rg.set j u, h.rv.other (fun e => h.rv.ne_row h.rg (by decide) g e rfl) u, h.rf.other (fun e => h.rf.ne_row h.rg (by decide) g e rfl) u⟩
theorem RefX.put_v {g n cap : Nat} (h : RefX o σ w b c0 c1 c2 c3 c4 vi xi vg xg (.slice (some ⟨g, 0, none⟩) n cap) xv vf xf) (j : Nat) (u : Value) : RefX o σ (w.setCell ⟨g, j, none⟩ u) b c0 c1 c2 c3 c4 vi xi vg xg (.slice (some ⟨g, 0, none⟩) n cap) (xv.set j u) vf xf := by
  obtain ⟨A, c, hv⟩ := h.rv.any
  cases hv
  exact ⟨h.box.other (fun e => h.rv.ne_blk h.box.at_ (by decide) (by rw [e]; rfl)) u, h.ri.other (fun e => h.ri.ne_row h.rv (by decide) g e rfl) u, h.rg.other (fun e => h.rg.ne_row h.rv (by decide) g e rfl) u, by rw [List.length_set]; exact h.rv.set j u, h.rf.other (fun e => h.rf.ne_row h.rv (by decide) g e rfl) u⟩
/-- Another free row. -/
theorem RefX.free (h : RefX o σ w b c0 c1 c2 c3 c4 vi xi vg xg vv xv vf xf) {vf' : Value} {xf' : List Value} (hf : Seg o σ w 3 vf' xf'.length xf') : RefX o σ w b c0 c1 c2 c3 c4 vi xi vg xg vv xv vf' xf' := ⟨h.box, h.ri, h.rg, h.rv, hf⟩
end
/-- The document's arena: as many slots as were used, these freed. -/
def RefA (o : Nat → Nat) (σ : Nat) (w : World) (b room : Nat) (vi vg vv vf : Value) (ss : List (ByteArray × Int × Bool)) (fr : List Nat) : Prop :=
  RefX o σ w b (.int .i64 (room : Int)) vi vg vv vf vi (ss.map fun s => .bool s.2.2) vg (ss.map fun s => .int .i64 s.2.1) vv (ss.map fun s => .string s.1) vf (natCells fr)
section
variable {o o' : Nat → Nat} {σ τ : Nat} {w w' : World} {b room : Nat} {vi vg vv vf : Value} {ss : List (ByteArray × Int × Bool)} {fr : List Nat}
theorem RefA.any (h : RefA o σ w b room vi vg vv vf ss fr) : (∃ A c, vi = .slice A ss.length c) ∧ (∃ A c, vg = .slice A ss.length c) ∧ (∃ A c, vv = .slice A ss.length c) ∧ (∃ A c, vf = .slice A fr.length c) := by
  have h1 := h.ri.any
  have h2 := h.rg.any
  have h3 := h.rv.any
  have h4 := h.rf.any
  simp only [List.length_map, natCells_len] at h1 h2 h3 h4
  exact ⟨h1, h2, h3, h4⟩
theorem RefA.form (h : RefA o σ w b room vi vg vv vf ss fr) (hn : 0 < ss.length) : ∃ gi ci gg cg gv cv, vi = .slice (some ⟨gi, 0, none⟩) ss.length ci ∧ vg = .slice (some ⟨gg, 0, none⟩) ss.length cg ∧ vv = .slice (some ⟨gv, 0, none⟩) ss.length cv ∧ ss.length ≤ ci ∧ ci ≤ maxLen ∧ ss.length ≤ cg ∧ cg ≤ maxLen ∧ ss.length ≤ cv ∧ cv ≤ maxLen ∧ o gi = σ ∧ o gg = σ ∧ o gv = σ := by
  obtain ⟨gi, ci, e1, l1, m1, q1, _⟩ := h.ri.form (by simpa using hn)
  obtain ⟨gg, cg, e2, l2, m2, q2, _⟩ := h.rg.form (by simpa using hn)
  obtain ⟨gv, cv, e3, l3, m3, q3, _⟩ := h.rv.form (by simpa using hn)
  simp only [List.length_map] at e1 e2 e3 l1 l2 l3
  exact ⟨gi, ci, gg, cg, gv, cv, e1, e2, e3, l1, m1, l2, m2, l3, m3, q1, q2, q3⟩
end
/-- What a store into one slot makes of the rows. -/
theorem map_set_v (ss : List (ByteArray × Int × Bool)) (i : Nat) (x : ByteArray × Int × Bool) : (ss.set i x).map (fun s => Value.string s.1) = (ss.map fun s => Value.string s.1).set i (.string x.1) := by rw [List.map_set]
theorem map_set_g' (ss : List (ByteArray × Int × Bool)) (i : Nat) (x : ByteArray × Int × Bool) : (ss.set i x).map (fun s => Value.int .i64 s.2.1) = (ss.map fun s => Value.int .i64 s.2.1).set i (.int .i64 x.2.1) := by rw [List.map_set]
theorem map_set_i' (ss : List (ByteArray × Int × Bool)) (i : Nat) (x : ByteArray × Int × Bool) : (ss.set i x).map (fun s => Value.bool s.2.2) = (ss.map fun s => Value.bool s.2.2).set i (.bool x.2.2) := by rw [List.map_set]
theorem set_same {α : Type} (l : List α) (i : Nat) (x : α) (h : l[i]? = some x) : l.set i x = l := by
  apply List.ext_getElem?
  intro k
  by_cases e : k = i
  · subst e; rw [List.getElem?_set_self (List.getElem?_eq_some_iff.1 h).1, h]
  · rw [List.getElem?_set_ne (fun q => e q.symm)]
theorem map_set_g (ss : List (ByteArray × Int × Bool)) (i : Nat) (s : ByteArray × Int × Bool) (hs : ss[i]? = some s) {x : ByteArray} {y : Bool} : (ss.set i (x, s.2.1, y)).map (fun s => Value.int .i64 s.2.1) = (ss.map fun s => Value.int .i64 s.2.1) := by
  rw [map_set_g']; exact set_same _ _ _ (by simp [hs])
theorem map_set_i (ss : List (ByteArray × Int × Bool)) (i : Nat) (s : ByteArray × Int × Bool) (hs : ss[i]? = some s) {x : ByteArray} {y : Int} : (ss.set i (x, y, s.2.2)).map (fun s => Value.bool s.2.2) = (ss.map fun s => Value.bool s.2.2) := by
  rw [map_set_i']; exact set_same _ _ _ (by simp [hs])
theorem Try.infoBool : (Try.prog.info? 4).map (fun i => (i.zero, i.size, i.bytes)) = some (some (.bool false), 1, 1) := by kernel_rfl
theorem Try.infoI64 : (Try.prog.info? 2).map (fun i => (i.zero, i.size, i.bytes)) = some (some (.int .i64 0), 1, 8) := by kernel_rfl
theorem Try.infoStr : (Try.prog.info? 9).map (fun i => (i.zero, i.size, i.bytes)) = some (some (.string ⟨#[]⟩), 1, 16) := by kernel_rfl
end Go.Proofs.Ytenokhdfbomkkaa
