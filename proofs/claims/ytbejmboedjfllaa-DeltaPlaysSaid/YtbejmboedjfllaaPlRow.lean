/- Rows that are written in place: copy, append within its room, clear, of elements of any size. -/
import Derived.Test.YtbejmboedjfllaaOwn
import Derived.Laws.CopyRow
import Derived.Lib.AppendZerosOnto
import Derived.Lib.Overlaps
namespace Go.Proofs.Ytbejmboedjfllaa
open Go.RowKit
set_option linter.unusedVariables false

/-- cs laid over l from place p on. -/
def over (l : List Value) (p : Nat) (cs : List Value) : List Value := l.take p ++ cs ++ l.drop (p + cs.length)
theorem over_length {l : List Value} {p : Nat} {cs : List Value} (h : p + cs.length ≤ l.length) : (over l p cs).length = l.length := by simp [over]; omega
section
variable {P : Program}
theorem run_copy_k (w : World) (dT sT ty elem : TypeId) (g p dLen dCap : Nat) (a : Addr) (sLen sCap : Nat) (cur : Array Value) (t : TypeId) (cs : List Value) (k m : Nat)
    (hu : P.underlying dT = some (.slice elem)) (hs : (P.info? elem).map (·.size) = some k)
    (hg : w.heap[g]? = some (.cells cur t (0, 0))) (hm : Nat.min sLen dLen = m) (hl : cs.length = m * k)
    (hsrc : ∀ j v, cs[j]? = some v → w.cell? (a.add j) = some v) (hfit : p + cs.length ≤ cur.size) (h1 : ∀ v ∈ cs, v.oneCell' = true) :
    (Builtin.copy_ #[dT, sT] ty #[.slice (some ⟨g, p, none⟩) dLen dCap, .slice (some a) sLen sCap]).run P w = .ok (goInt m) (w.setRow g (over cur.toList p cs).toArray) := by
  have hf := run_firstCells_some (P := P) w k m a sLen sCap cs hl hsrc
  have hst := run_storeCells_at P g p t cs 0 cur w hg (by simpa using hfit) h1
  simp only [Nat.add_zero] at hst
  cases hq : P.info? elem with
  | none => simp [hq] at hs
  | some i =>
    have hi : i.size = k := by simpa [hq] using hs
    simp [Builtin.copy_, run_underlying hu, Builtin.lenOf, sizeOf, typeInfo, hq, hi, hm, hf, hst, over]
theorem run_clear_k (w : World) (t e ty : TypeId) (z : Value) (ht : P.underlying t = some (.slice e)) (hv : ∀ w, (zeroValue e).run P w = .ok z w) (g p n c : Nat) (cur : Array Value) (tc : TypeId) (hn : 0 < n) (zs : List Value)
    (hzs : (Builtin.zeroCells z.cells n).toList = zs) (hg : w.heap[g]? = some (.cells cur tc (0, 0))) (hfit : p + zs.length ≤ cur.size) (h1 : ∀ v ∈ zs, v.oneCell' = true) :
    (Builtin.clear_ #[t] ty #[.slice (some ⟨g, p, none⟩) n c]).run P w = .ok (.tuple #[]) (w.setRow g (over cur.toList p zs).toArray) := by
  have hst := run_storeCells_at P g p tc zs 0 cur w hg (by simpa using hfit) h1
  simp only [Nat.add_zero] at hst
  subst hzs
  obtain ⟨m, rfl⟩ : ∃ m, n = m + 1 := ⟨n - 1, by omega⟩
  simp [Builtin.clear_, run_underlying ht, hv, hst, over]
/-- The operation 'copy' where its run is known. -/
theorem wp_copy_of (w : World) {o : Oper} {a : Act} {K : Act → World → Prop} {Q : Exit → Act → World → Prop} (d s : Operand) (t t' : TypeId)
    (ho : o.op = .call { callee := .builtin .copy, args := #[d, s], argTypes := #[t, t'] }) (v u : Value) (hd : a.eval d = v) (hs : a.eval s = u) {v' : Value} {w' : World}
    (hr : (Builtin.copy_ #[t, t'] o.type #[v, u]).run P w = .ok v' w') (h : K (a.put o.dst v') w') : o.wp P a w K Q := by
  unfold Oper.wp execOp
  simp only [ho, resolve, invoke, builtin, Sem.run_bind, Sem.run_pure, Result.andThen_ok, List.map_toArray, List.map_cons, List.map_nil, hd, hs, hr]
  exact h
theorem wpList_copy_of (w : World) {ops : Array Oper} {rest : List Oper} {o : Oper} {a : Act} {Q : Exit → Act → World → Prop} (hgd : o.guard = none) (d s : Operand) (t t' : TypeId)
    (ho : o.op = .call { callee := .builtin .copy, args := #[d, s], argTypes := #[t, t'] }) (v u : Value) (hd : a.eval d = v) (hs : a.eval s = u) {v' : Value} {w' : World}
    (hr : (Builtin.copy_ #[t, t'] o.type #[v, u]).run P w = .ok v' w') (h : wpList P ops Q rest (a.put o.dst v') w') : wpList P ops Q (o :: rest) a w :=
  wpList_plain hgd fun _ hK => wp_copy_of w d s t t' ho v u hd hs hr (hK _ _ h)
theorem step_copy_of {ops : Array Oper} {o : Oper} {a : Act} {w : World} {K : Act → World → Prop} {Q : Exit → Act → World → Prop} {E : Prop}
    (hg : o.guard = none) (d x : Operand) (dT sT : TypeId) (hop : o.op = Op.call { callee := Callee.builtin Builtin.copy, args := #[d, x], argTypes := #[dT, sT] })
    (v u : Value) (hd : a.eval d = v) (hx : a.eval x = u) {v' : Value} {w' : World} (hr : (Builtin.copy_ #[dT, sT] o.type #[v, u]).run P w = .ok v' w') (hK : K (a.put o.dst v') w') :
    if Region.wanted o (yielded ops a.tmps) = true then Oper.wp P o a w K Q else E := by
  have hw : Region.wanted o (yielded ops a.tmps) = true := by simp [Region.wanted, hg]
  rw [if_pos hw]
  exact wp_copy_of w d x dT sT hop v u hd hx hr hK
theorem step_append_of {ops : Array Oper} {o : Oper} {a : Act} {w : World} {K : Act → World → Prop} {Q : Exit → Act → World → Prop} {E : Prop}
    (hg : o.guard = none) (d x : Operand) (dT sT : TypeId) (hop : o.op = Op.call { callee := Callee.builtin Builtin.append, args := #[d, x], argTypes := #[dT, sT] })
    (v u : Value) (hd : a.eval d = v) (hx : a.eval x = u) {v' : Value} {w' : World} (hr : (Builtin.append_ #[dT, sT] o.type #[v, u]).run P w = .ok v' w') (hK : K (a.put o.dst v') w') :
    if Region.wanted o (yielded ops a.tmps) = true then Oper.wp P o a w K Q else E := by
  have hw : Region.wanted o (yielded ops a.tmps) = true := by simp [Region.wanted, hg]
  rw [if_pos hw]
  exact Lib.wp_append_run w d x dT sT hop v u hd hx v' w' hr hK
end
section
variable {o o' : Nat → Nat} {σ τ : Nat} {w w' : World} {e : TypeId} {size n g : Nat} {xs : List Value}
theorem Step.setRow (h : Step o o' σ w w') (hp : w.heap.size ≤ g ∨ o' g = σ) (cs : Array Value) : Step o o' σ w (w'.setRow g cs) :=
  ⟨h.os, h.tape, h.output, by have := h.size; simp; omega, h.old, fun i hi hn => by
    rw [setRow_other _ _ _ _ (fun e => by
      subst e
      rcases hp with hp | hp
      · omega
      · exact hn ((h.old _ hi).symm.trans hp))]
    exact h.block i hi hn⟩
theorem Step.newly (o : Nat → Nat) (σ : Nat) (hb : Below w.heap.size w w') (τ : Nat) : Step o (tag o w.heap.size τ) σ w w' :=
  ⟨hb.os, hb.tape, hb.output, hb.size, fun k hk => tag_old hk, fun k hk _ => hb.block k hk⟩
/-- Its block, where it is not empty. -/
theorem Row.block {v : Value} (h : Row o τ w e size v n xs) (hn : 0 < n) : ∃ cap cur, (∃ g, v = .slice (some ⟨g, 0, none⟩) n cap ∧ w.heap[g]? = some (.cells cur e (0, 0)) ∧ o g = τ ∧ g < w.heap.size) ∧ n ≤ cap ∧ cap ≤ maxLen ∧ cur.size = cap * size ∧ cur.toList.take (n * size) = xs := by
  rcases h.own.2 with ⟨rfl, h0⟩ | ⟨g, cap, cur, rfl, _, hg, h1, h2, h3, h4⟩
  · omega
  · exact ⟨cap, cur, ⟨g, rfl, hg, h.mine g rfl, (Array.getElem?_eq_some_iff.1 hg).1⟩, h1, h2, h3, h4⟩
/-- A row whose block has been written. -/
theorem Row.written {cap : Nat} {cur : Array Value} (hg : w.heap[g]? = some (.cells cur e (0, 0))) (ho : o g = τ) (h1 : n ≤ cap) (h2 : cap ≤ maxLen) (h3 : cur.size = cap * size) (h4 : cur.toList.take (n * size) = xs) : Row o τ w e size (.slice (some ⟨g, 0, none⟩) n cap) n xs := by
  refine ⟨⟨?_, .inr ⟨g, cap, cur, rfl, Nat.zero_le _, hg, h1, h2, h3, h4⟩⟩, fun k hk => by cases hk; exact ho⟩
  rw [← h4, List.length_take, Array.length_toList, h3]
  exact Nat.min_eq_left (Nat.mul_le_mul_right size h1)
/-- Only the row's own block, and new ones. -/
def rowOwn (v : Value) : Nat → Nat := fun k => if v.ownBlock = some k then 1 else 0
theorem rowOwn_yes {v : Value} {k : Nat} (h : v.ownBlock = some k) : rowOwn v k = 1 := if_pos h
theorem rowOwn_no {v : Value} {k : Nat} (h : v.ownBlock ≠ some k) : rowOwn v k = 0 := if_neg h
theorem Row.alone {v : Value} (h : Row o τ w e size v n xs) : Row (rowOwn v) 1 w e size v n xs := ⟨h.own, fun k hk => rowOwn_yes hk⟩
theorem Step.alone {v : Value} (h : Step (rowOwn v) o' 1 w w') : w.grownBy w' v.ownBlock :=
  ⟨h.os, h.tape, h.output, h.size, fun k hk hn => h.block k hk (by rw [rowOwn_no (fun e => hn e.symm)]; decide)⟩
theorem Row.lies {v v' : Value} {n' : Nat} {xs' : List Value} (h : Row o' 1 w' e size v' n' xs') (st : Step (rowOwn v) o' 1 w w') : ∀ k, v'.ownBlock = some k → v.ownBlock = some k ∨ w.heap.size ≤ k := fun k hk => by
  rcases Nat.lt_or_ge k w.heap.size with hl | hl
  · have h1 := h.mine k hk
    rw [st.old k hl] at h1
    by_cases h2 : v.ownBlock = some k
    · exact .inl h2
    · rw [rowOwn_no h2] at h1; cases h1
  · exact .inr hl
/-- Behind whatever has written the row or laid a new one. -/
theorem Row.after {v v' : Value} {n' : Nat} {xs' : List Value} (h : Row o τ w e size v n xs) (hown : w'.ownsRow 0 e size v' n' xs') (hloc : ∀ k, v'.ownBlock = some k → v.ownBlock = some k ∨ w.heap.size ≤ k) : Row (tag o w.heap.size τ) τ w' e size v' n' xs' :=
  ⟨hown, fun k hk => by
    rcases hloc k hk with hl | hl
    · rw [tag_old (h.lt hl)]; exact h.mine k hl
    · exact tag_new hl⟩
theorem cell_row {cur : Array Value} (hg : w.heap[g]? = some (.cells cur e (0, 0))) (j : Nat) : w.cell? ⟨g, j, none⟩ = cur[j]? := by simp [World.cell?, hg]
end
end Go.Proofs.Ytbejmboedjfllaa
