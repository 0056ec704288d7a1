/- Who owns which block: the frame of calls that write, side by side. -/
import Derived.Test.YtacffjkhbajgkaaDoorBase
import Derived.Maps.AppendAt
import Derived.OneCell
import Derived.OwnWalk
namespace Go.Proofs.YtacffjkhbajgkaaDoor
open Go.RowKit
set_option linter.unusedVariables false

theorem drewN_two (w : World) (a b : Nat) : (w.drewN a).drewN b = w.drewN (a + b) := by simp [World.drewN, Nat.add_assoc]
/-- The old owners below n; from n on every block is τ's. -/
def tag (o : Nat → Nat) (n τ : Nat) : Nat → Nat := fun k => if k < n then o k else τ
theorem tag_old {o : Nat → Nat} {n τ k : Nat} (h : k < n) : tag o n τ k = o k := if_pos h
theorem tag_new {o : Nat → Nat} {n τ k : Nat} (h : n ≤ k) : tag o n τ k = τ := if_neg (by omega)

/-- From w to w' only σ's blocks have changed; what was there belongs to whom it belonged. -/
structure Step (o o' : Nat → Nat) (σ : Nat) (w w' : World) : Prop where
  os : w'.os = w.os
  tape : w'.tape = w.tape
  output : w'.output = w.output
  size : w.heap.size ≤ w'.heap.size
  old : ∀ k, k < w.heap.size → o' k = o k
  block : ∀ k, k < w.heap.size → o k ≠ σ → w'.heap[k]? = w.heap[k]?

section
variable {o o' o'' : Nat → Nat} {σ τ : Nat} {w w' w'' : World}
theorem Step.refl (o : Nat → Nat) (σ : Nat) (w : World) : Step o o σ w w := ⟨rfl, rfl, rfl, Nat.le_refl _, fun _ _ => rfl, fun _ _ _ => rfl⟩
theorem Step.trans (h : Step o o' σ w w') (k : Step o' o'' σ w' w'') : Step o o'' σ w w'' :=
  ⟨k.os.trans h.os, k.tape.trans h.tape, k.output.trans h.output, Nat.le_trans h.size k.size,
   fun i hi => (k.old i (Nat.lt_of_lt_of_le hi h.size)).trans (h.old i hi),
   fun i hi hn => (k.block i (Nat.lt_of_lt_of_le hi h.size) (by rw [h.old i hi]; exact hn)).trans (h.block i hi hn)⟩
theorem Step.drewN (h : Step o o' σ w w') (n : Nat) : Step o o' σ w (w'.drewN n) := ⟨h.os, h.tape, h.output, h.size, h.old, h.block⟩
theorem Step.drew (h : Step o o' σ w w') : Step o o' σ w w'.drew := ⟨h.os, h.tape, h.output, h.size, h.old, h.block⟩
theorem Step.alloc (h : Step o o' σ w w') (τ : Nat) (x : Obj) : Step o (tag o' w'.heap.size τ) σ w (w'.alloc x) :=
  ⟨h.os, h.tape, h.output, by have := h.size; simp; omega, fun i hi => by rw [tag_old (Nat.lt_of_lt_of_le hi h.size)]; exact h.old i hi,
   fun i hi hn => by rw [Below.heap_alloc _ _ _ (Nat.lt_of_lt_of_le hi h.size)]; exact h.block i hi hn⟩
theorem Step.setCell (h : Step o o' σ w w') {p : Addr} (hp : w.heap.size ≤ p.block ∨ o' p.block = σ) (u : Value) : Step o o' σ w (w'.setCell p u) :=
  ⟨h.os, h.tape, h.output, by have := h.size; simp; omega, h.old, fun i hi hn => by
    rw [Below.heap_setCell _ _ _ _ (fun e => by
      subst e
      rcases hp with hp | hp
      · omega
      · exact hn ((h.old _ hi).symm.trans hp))]
    exact h.block i hi hn⟩
theorem Step.grown (h : Step o o' σ w w') {row : Option Nat} (hg : w'.grownBy w'' row) (hr : ∀ k, row = some k → w.heap.size ≤ k ∨ o' k = σ) (τ : Nat) : Step o (tag o' w'.heap.size τ) σ w w'' :=
  ⟨hg.os.trans h.os, hg.tape.trans h.tape, hg.output.trans h.output, Nat.le_trans h.size hg.size, fun i hi => by rw [tag_old (Nat.lt_of_lt_of_le hi h.size)]; exact h.old i hi,
   fun i hi hn => (hg.block i (Nat.lt_of_lt_of_le hi h.size) (fun e => by
    rcases hr i e.symm with h1 | h1
    · omega
    · exact hn ((h.old _ hi).symm.trans h1))).trans (h.block i hi hn)⟩
theorem Step.below (h : Step o o' σ w w') (hb : Below w'.heap.size w' w'') : Step o o' σ w w'' :=
  ⟨hb.os.trans h.os, hb.tape.trans h.tape, hb.output.trans h.output, Nat.le_trans h.size hb.size, h.old,
   fun i hi hn => (hb.block i (Nat.lt_of_lt_of_le hi h.size)).trans (h.block i hi hn)⟩
theorem Step.of_below (o : Nat → Nat) (σ : Nat) (hb : Below w.heap.size w w') : Step o o σ w w' := (Step.refl o σ w).below hb
/-- All that was there ahead of N belongs to nobody: it has not changed. -/
theorem Step.under {N : Nat} {w0 : World} (hb : Below N w0 w) (h : Step o o' σ w w') (hN : N ≤ w.heap.size) (h0 : ∀ k, k < N → o k = 0) (hσ : σ ≠ 0) : Below N w0 w' :=
  hb.trans ⟨h.os, h.tape, h.output, h.size, fun k hk => h.block k (by omega) (by rw [h0 k hk]; exact fun e => hσ e.symm)⟩
theorem Step.nobody {N : Nat} (h : Step o o' σ w w') (hN : N ≤ w.heap.size) (h0 : ∀ k, k < N → o k = 0) : ∀ k, k < N → o' k = 0 := fun k hk => by rw [h.old k (by omega)]; exact h0 k hk

/-- A law on its way: nothing that was there when it began has changed, and it belongs to nobody. -/
structure Lw (w : World) (o : Nat → Nat) (w' : World) : Prop where
  below : Below w.heap.size w w'
  zero : ∀ k, k < w.heap.size → o k = 0
theorem Lw.start (w : World) : Lw w (fun _ => 0) w := ⟨Below.refl _ _, fun _ _ => rfl⟩
theorem Lw.step {w0 : World} (h : Lw w0 o w) (st : Step o o' σ w w') (hσ : σ ≠ 0) : Lw w0 o' w' := ⟨Step.under h.below st h.below.size h.zero hσ, st.nobody h.below.size h.zero⟩
theorem Lw.alloc {w0 : World} (h : Lw w0 o w) (x : Obj) (τ : Nat) : Lw w0 (tag o w.heap.size τ) (w.alloc x) := h.step ((Step.refl o 1 w).alloc τ x) (by decide)
theorem Lw.on {w0 : World} (h : Lw w0 o w) (hb : Below w.heap.size w w') : Lw w0 o w' := h.step (Step.of_below o 1 hb) (by decide)
theorem Lw.drewN {w0 : World} (h : Lw w0 o w) (n : Nat) : Lw w0 o (w.drewN n) := h.on (below_dN (Below.refl _ _) n)
theorem Lw.grown {w0 : World} (h : Lw w0 o w) {row : Option Nat} (hg : w.grownBy w' row) (hr : ∀ k, row = some k → o k ≠ 0) (τ : Nat) : Lw w0 (tag o w.heap.size τ) w' :=
  ⟨h.below.grown hg h.below.size (fun k hk => by
    rcases Nat.lt_or_ge k w0.heap.size with hl | hl
    · exact absurd (h.zero k hl) (hr k hk)
    · exact hl), fun k hk => by rw [tag_old (Nat.lt_of_lt_of_le hk h.below.size)]; exact h.zero k hk⟩
theorem Lw.setCell {w0 : World} (h : Lw w0 o w) {p : Addr} (hp : o p.block ≠ 0) (u : Value) : Lw w0 o (w.setCell p u) :=
  ⟨h.below.setCell (by
    rcases Nat.lt_or_ge p.block w0.heap.size with hl | hl
    · exact absurd (h.zero _ hl) hp
    · exact hl) u, h.zero⟩

/-- Block b holds just these cells, and is τ's. -/
structure Blk (o : Nat → Nat) (τ : Nat) (w : World) (b : Nat) (cs : Array Value) (t : TypeId) : Prop where
  at_ : w.heap[b]? = some (.cells cs t (0, 0))
  mine : o b = τ
theorem Blk.lt {b : Nat} {cs : Array Value} {t : TypeId} (h : Blk o τ w b cs t) : b < w.heap.size := (Array.getElem?_eq_some_iff.1 h.at_).1
theorem Blk.cell {b : Nat} {cs : Array Value} {t : TypeId} (h : Blk o τ w b cs t) (i : Nat) : w.cell? ⟨b, i, none⟩ = cs[i]? := by simp [World.cell?, h.at_]
theorem Blk.frozen {b : Nat} {cs : Array Value} {t : TypeId} (h : Blk o τ w b cs t) (i : Nat) : w.frozen? ⟨b, i, none⟩ = false := by simp [World.frozen?, h.at_]
theorem Blk.step {b : Nat} {cs : Array Value} {t : TypeId} (h : Blk o τ w b cs t) (st : Step o o' σ w w') (hne : τ ≠ σ) : Blk o' τ w' b cs t :=
  ⟨by rw [st.block b h.lt (by rw [h.mine]; exact hne)]; exact h.at_, by rw [st.old b h.lt]; exact h.mine⟩
theorem Blk.alloc {b : Nat} {cs : Array Value} {t : TypeId} (h : Blk o τ w b cs t) (x : Obj) (τ' : Nat) : Blk (tag o w.heap.size τ') τ (w.alloc x) b cs t :=
  ⟨by rw [Below.heap_alloc _ _ _ h.lt]; exact h.at_, by rw [tag_old h.lt]; exact h.mine⟩
theorem Blk.below {b : Nat} {cs : Array Value} {t : TypeId} (h : Blk o τ w b cs t) (hb : Below w.heap.size w w') : Blk o τ w' b cs t := ⟨by rw [hb.block b h.lt]; exact h.at_, h.mine⟩
theorem Blk.drewN {b : Nat} {cs : Array Value} {t : TypeId} (h : Blk o τ w b cs t) (n : Nat) : Blk o τ (w.drewN n) b cs t := ⟨h.at_, h.mine⟩
theorem Blk.made (o : Nat → Nat) (τ : Nat) (w : World) (cs : Array Value) (t : TypeId) : Blk (tag o w.heap.size τ) τ (w.alloc (.cells cs t)) w.heap.size cs t := ⟨heap_alloc_new w _, tag_new (Nat.le_refl _)⟩
theorem Blk.set {b : Nat} {cs : Array Value} {t : TypeId} (h : Blk o τ w b cs t) (i : Nat) (v : Value) : Blk o τ (w.setCell ⟨b, i, none⟩ v) b (cs.setIfInBounds i v) t := ⟨heap_setCell_same w b i cs t v h.at_, h.mine⟩
theorem Blk.other {b : Nat} {cs : Array Value} {t : TypeId} (h : Blk o τ w b cs t) {p : Addr} (hp : b ≠ p.block) (v : Value) : Blk o τ (w.setCell p v) b cs t := ⟨by rw [heap_setCell_other w p b v hp]; exact h.at_, h.mine⟩
theorem Blk.grown {b : Nat} {cs : Array Value} {t : TypeId} (h : Blk o τ w b cs t) {row : Option Nat} (hg : w.grownBy w' row) (hr : row ≠ some b) (τ' : Nat) : Blk (tag o w.heap.size τ') τ w' b cs t :=
  ⟨by rw [hg.block b h.lt (fun e => hr e.symm)]; exact h.at_, by rw [tag_old h.lt]; exact h.mine⟩

/-- The slice v, of n elements, owns its row, and it is τ's. -/
structure Row (o : Nat → Nat) (τ : Nat) (w : World) (e : TypeId) (size : Nat) (v : Value) (n : Nat) (xs : List Value) : Prop where
  own : w.ownsRow 0 e size v n xs
  mine : ∀ k, v.ownBlock = some k → o k = τ
variable {e e' : TypeId} {size size' n n' : Nat} {v v' : Value} {xs xs' : List Value}
theorem Row.lt (h : Row o τ w e size v n xs) {k : Nat} (hk : v.ownBlock = some k) : k < w.heap.size := (h.own.lt k hk).2
theorem own_same {base : Nat} (h : w.ownsRow base e size v n xs) (hs : ∀ k, v.ownBlock = some k → w'.heap[k]? = w.heap[k]?) : w'.ownsRow base e size v n xs := by
  refine ⟨h.1, h.2.imp id ?_⟩
  rintro ⟨g, cap, cur, rfl, hb, hh, r⟩
  exact ⟨g, cap, cur, rfl, hb, (hs g rfl).trans hh, r⟩
theorem Row.step (h : Row o τ w e size v n xs) (st : Step o o' σ w w') (hne : τ ≠ σ) : Row o' τ w' e size v n xs :=
  ⟨own_same h.own fun k hk => st.block k (h.lt hk) (by rw [h.mine k hk]; exact hne), fun k hk => by rw [st.old k (h.lt hk)]; exact h.mine k hk⟩
theorem Row.below (h : Row o τ w e size v n xs) (hb : Below w.heap.size w w') : Row o τ w' e size v n xs := ⟨own_same h.own fun k hk => hb.block k (h.lt hk), h.mine⟩
theorem Row.alloc (h : Row o τ w e size v n xs) (x : Obj) (τ' : Nat) : Row (tag o w.heap.size τ') τ (w.alloc x) e size v n xs :=
  ⟨h.own.alloc x, fun k hk => by rw [tag_old (h.lt hk)]; exact h.mine k hk⟩
theorem Row.grown (h : Row o τ w e size v n xs) {row : Option Nat} (hg : w.grownBy w' row) (hr : ∀ k, v.ownBlock = some k → row ≠ some k) (τ' : Nat) : Row (tag o w.heap.size τ') τ w' e size v n xs :=
  ⟨own_same h.own fun k hk => hg.block k (h.lt hk) (fun e => hr k hk e.symm), fun k hk => by rw [tag_old (h.lt hk)]; exact h.mine k hk⟩
theorem Row.other (h : Row o τ w e size v n xs) {p : Addr} (hp : v.ownBlock ≠ some p.block) (u : Value) : Row o τ (w.setCell p u) e size v n xs := ⟨ownsRow_setCell_other h.own hp u, h.mine⟩
theorem Row.nil (o : Nat → Nat) (τ : Nat) (w : World) (e : TypeId) (size : Nat) : Row o τ w e size (.slice none 0 0) 0 [] := ⟨World.ownsRow_nil _ _ _ _, fun k hk => by cases hk⟩
/-- Behind an append. -/
theorem Row.appended {m : Nat} {news : List Value} (h : Row o τ w e size v n xs) (hown : w'.ownsRow 0 e size v' (n + m) (xs ++ news)) (hloc : v'.ownBlock = v.ownBlock ∨ v'.ownBlock = some w.heap.size) : Row (tag o w.heap.size τ) τ w' e size v' (n + m) (xs ++ news) :=
  ⟨hown, fun k hk => by
    rcases hloc with hl | hl
    · rw [hl] at hk; rw [tag_old (h.lt hk)]; exact h.mine k hk
    · rw [hl] at hk; cases hk; exact tag_new (Nat.le_refl _)⟩
theorem Row.ne_blk {b : Nat} {cs : Array Value} {t : TypeId} (h : Row o τ w e size v n xs) (hb : w.heap[b]? = some (.cells cs t (0, 0))) (ht : t ≠ e) : v.ownBlock ≠ some b := by
  intro hk
  rcases h.own.2 with ⟨rfl, _⟩ | ⟨g, cap, cur, rfl, _, hg, _⟩
  · cases hk
  · cases hk; rw [hb] at hg; cases hg; exact ht rfl
theorem Row.ne_row (h : Row o τ w e size v n xs) {τ' : Nat} (h' : Row o τ' w e' size' v' n' xs') (ht : e ≠ e') : ∀ k, v.ownBlock = some k → v'.ownBlock ≠ some k := by
  intro k hk hk'
  rcases h.own.2 with ⟨rfl, _⟩ | ⟨g, cap, cur, rfl, _, hg, _⟩
  · cases hk
  · cases hk
    exact h'.ne_blk hg ht hk'
/-- Its cells, where it is not empty. -/
theorem Row.form (h : Row o τ w e size v n xs) (hn : 0 < n) : ∃ g cap, v = .slice (some ⟨g, 0, none⟩) n cap ∧ n ≤ cap ∧ cap ≤ maxLen ∧ o g = τ ∧ g < w.heap.size := by
  rcases h.own.2 with ⟨rfl, h0⟩ | ⟨g, cap, cur, rfl, _, hg, h1, h2, _⟩
  · omega
  · exact ⟨g, cap, rfl, h1, h2, h.mine g rfl, (Array.getElem?_eq_some_iff.1 hg).1⟩
theorem Row.any (h : Row o τ w e size v n xs) : ∃ A cap, v = .slice A n cap := by
  rcases h.own.2 with ⟨rfl, h0⟩ | ⟨g, cap, cur, rfl, _⟩
  · exact ⟨none, 0, by rw [h0]⟩
  · exact ⟨_, _, rfl⟩
theorem own_any {base : Nat} (h : w.ownsRow base e size v n xs) : ∃ A cap, v = .slice A n cap := by
  rcases h.2 with ⟨rfl, h0⟩ | ⟨g, cap, cur, rfl, _⟩
  · exact ⟨none, 0, by rw [h0]⟩
  · exact ⟨_, _, rfl⟩
theorem own_zero {base : Nat} (h : w.ownsRow base e size v n xs) : w.ownsRow 0 e size v n xs := ⟨h.1, h.2.imp id fun ⟨g, cap, cur, a, _, c⟩ => ⟨g, cap, cur, a, Nat.zero_le _, c⟩⟩
/-- A row that a call has made is whosesoever one says. -/
theorem Row.fresh {w0 : World} (τ : Nat) (h : w.ownsRow w0.heap.size e size v n xs) (o : Nat → Nat) : Row (tag o w0.heap.size τ) τ w e size v n xs := ⟨own_zero h, fun k hk => tag_new (h.lt k hk).1⟩
theorem Row.cut {g cap : Nat} (h : Row o τ w e size (.slice (some ⟨g, 0, none⟩) n cap) n xs) {m : Nat} (hm : m ≤ n) : Row o τ w e size (.slice (some ⟨g, 0, none⟩) m cap) m (xs.take (m * size)) := by
  refine ⟨⟨?_, ?_⟩, fun k hk => h.mine k hk⟩
  · rw [List.length_take, h.own.1]; have := Nat.mul_le_mul_right size hm; omega
  · rcases h.own.2 with ⟨hv, _⟩ | ⟨g', cap', cur, hv, hb, hg, h1, h2, h3, h4⟩
    · cases hv
    · cases hv
      refine .inr ⟨g, cap, cur, rfl, hb, hg, by omega, h2, h3, ?_⟩
      rw [← h4, List.take_take, Nat.min_eq_left (Nat.mul_le_mul_right size hm)]
theorem Row.cellAt {g cap : Nat} (h : Row o τ w e size (.slice (some ⟨g, 0, none⟩) n cap) n xs) (j : Nat) (hj : j < n * size) : w.cell? ⟨g, j, none⟩ = xs[j]? := h.own.cellAt j hj
theorem Row.set {g cap : Nat} (h : Row o τ w e size (.slice (some ⟨g, 0, none⟩) n cap) n xs) (j : Nat) (u : Value) : Row o τ (w.setCell ⟨g, j, none⟩ u) e size (.slice (some ⟨g, 0, none⟩) n cap) n (xs.set j u) := ⟨(h.own.stored j u).1, h.mine⟩
theorem Row.frozenAt {g cap : Nat} (h : Row o τ w e size (.slice (some ⟨g, 0, none⟩) n cap) n xs) (j : Nat) : w.frozen? ⟨g, j, none⟩ = false := h.own.frozenAt j
end
end Go.Proofs.YtacffjkhbajgkaaDoor
