/- A ledger in memory. -/
import Derived.Test.YtbmofcggdpjcbaaLgMath
import Derived.Test.YtbmofcggdpjcbaaOwn
import Derived.Test.YtbmofcggdpjcbaaNameBytes
namespace Go.Proofs.Ytbmofcggdpjcbaa
open Go.RowKit
set_option linter.unusedVariables false
set_option linter.unusedSimpArgs false

/-- The cells of rows. -/
def cellsW (l : List Rw) : List Value := l.flatMap fun x => [.int .i64 x.tick, .string (bs x.name), .int .i64 x.val]
theorem cellsW_cons (x : Rw) (l : List Rw) : cellsW (x :: l) = .int .i64 x.tick :: .string (bs x.name) :: .int .i64 x.val :: cellsW l := by simp [cellsW]
theorem cellsW_append (s t : List Rw) : cellsW (s ++ t) = cellsW s ++ cellsW t := by simp [cellsW]
theorem cellsW_one (x : Rw) : cellsW [x] = [.int .i64 x.tick, .string (bs x.name), .int .i64 x.val] := rfl
theorem cellsW_length (l : List Rw) : (cellsW l).length = l.length * 3 := by
  induction l with
  | nil => rfl
  | cons s ss ih => rw [cellsW_cons]; simp [ih]; omega
theorem cellsW_take : ∀ (l : List Rw) (i : Nat), (cellsW l).take (i * 3) = cellsW (l.take i)
  | [], i => by simp [cellsW]
  | x :: l, 0 => by simp [cellsW]
  | x :: l, i + 1 => by rw [cellsW_cons, show (i + 1) * 3 = i * 3 + 1 + 1 + 1 by omega]; simp [cellsW_cons, cellsW_take l i]
theorem cellsW_get (l : List Rw) : ∀ (i : Nat) (s : Rw), l[i]? = some s →
    (cellsW l)[i * 3]? = some (.int .i64 s.tick) ∧ (cellsW l)[i * 3 + 1]? = some (.string (bs s.name)) ∧ (cellsW l)[i * 3 + 2]? = some (.int .i64 s.val) := by
  induction l with
  | nil => intro i s h; simp at h
  | cons t ss ih =>
    intro i s h
    rw [cellsW_cons]
    match i, h with
    | 0, h => simp at h; subst h; simp
    | i + 1, h =>
      have := ih i s (by simpa using h)
      rw [show (i + 1) * 3 = i * 3 + 1 + 1 + 1 by omega]
      simpa using this
theorem cellsW_ones (l : List Rw) : ∀ u ∈ cellsW l, u.oneCell' = true := by
  intro u hu
  unfold cellsW at hu
  obtain ⟨x, _, hx⟩ := List.mem_flatMap.1 hu
  simp at hx; rcases hx with rfl | rfl | rfl <;> rfl
/-- A row whose name and value are written anew. -/
theorem cellsW_set (l : List Rw) : ∀ (i : Nat) (s : Rw), l[i]? = some s → ∀ (n : List UInt8) (v : Int),
    (cellsW l).set (i * 3 + 2) (.int .i64 v) = cellsW (l.set i ⟨s.tick, s.name, v⟩) ∧ (cellsW l).set (i * 3 + 1) (.string (bs n)) = cellsW (l.set i ⟨s.tick, n, s.val⟩) := by
  induction l with
  | nil => intro i s h; simp at h
  | cons t ss ih =>
    intro i s h n v
    match i, h with
    | 0, h => simp at h; subst h; simp [cellsW_cons]
    | i + 1, h =>
      have := ih i s (by simpa using h) n v
      rw [show (i + 1) * 3 = i * 3 + 1 + 1 + 1 by omega]
      simpa [cellsW_cons] using this
/-- The cells at A hold the rows l. -/
def RdW (w : World) (A : Option Addr) (l : List Rw) : Prop :=
  ∀ (i : Nat) (x : Rw), l[i]? = some x → ∃ g, A = some ⟨g, 0, none⟩ ∧ g < w.heap.size ∧ w.cell? ⟨g, i * 3, none⟩ = some (.int .i64 x.tick) ∧ w.cell? ⟨g, i * 3 + 1, none⟩ = some (.string (bs x.name)) ∧ w.cell? ⟨g, i * 3 + 2, none⟩ = some (.int .i64 x.val)
theorem RdW.below {w w' : World} {A : Option Addr} {l : List Rw} (h : RdW w A l) (hb : Below w.heap.size w w') : RdW w' A l := by
  intro i x hx
  obtain ⟨g, rfl, hg, h0, h1, h2⟩ := h i x hx
  exact ⟨g, rfl, Nat.lt_of_lt_of_le hg hb.size, by rw [hb.cell (p := ⟨g, i * 3, none⟩) hg]; exact h0, by rw [hb.cell (p := ⟨g, i * 3 + 1, none⟩) hg]; exact h1, by rw [hb.cell (p := ⟨g, i * 3 + 2, none⟩) hg]; exact h2⟩
theorem Row.capsW {o : Nat → Nat} {σ : Nat} {w : World} {e : TypeId} {size n cap : Nat} {A : Option Addr} {xs : List Value} (h : Row o σ w e size (.slice A n cap) n xs) : n ≤ cap ∧ cap ≤ 9223372036854775807 := by
  rcases h.own.2 with ⟨hv, h0⟩ | ⟨g, cap', cur, hv, _, _, h1, h2, _⟩
  · injection hv with h1 h2 h3; omega
  · injection hv with h4 h5 h6; unfold maxLen at h2; omega
section
variable {o o' : Nat → Nat} {σ τ : Nat} {w w' : World} {e : TypeId} {A : Option Addr} {cap a : Nat} {l : List Rw} {v : Value}
theorem Row.rdW (h : Row o σ w e 3 (.slice A l.length cap) l.length (cellsW l)) : RdW w A l := by
  intro i x hx
  have hi := (List.getElem?_eq_some_iff.1 hx).1
  obtain ⟨g, c, hv, _, _, _, hg⟩ := h.form (by omega)
  cases hv
  have q := cellsW_get l i x hx
  exact ⟨g, rfl, hg, by rw [h.cellAt _ (by omega)]; exact q.1, by rw [h.cellAt _ (by omega)]; exact q.2.1, by rw [h.cellAt _ (by omega)]; exact q.2.2⟩
/-- Block a is a ledger that holds the rows l. -/
structure Lg (o : Nat → Nat) (σ : Nat) (w : World) (a : Nat) (v : Value) (l : List Rw) : Prop where
  box : Blk o σ w a #[v, .int .i64 (earned l), .int .i64 (lost l)] 50
  row : Row o σ w 34 3 v l.length (cellsW l)
theorem Lg.alloc (h : Lg o σ w a v l) (x : Obj) (τ' : Nat) : Lg (tag o w.heap.size τ') σ (w.alloc x) a v l := ⟨h.box.alloc x τ', h.row.alloc x τ'⟩
theorem Lg.drewN (h : Lg o σ w a v l) (n : Nat) : Lg o σ (w.drewN n) a v l := ⟨⟨h.box.at_, h.box.mine⟩, ⟨h.row.own, h.row.mine⟩⟩
theorem Lg.below (h : Lg o σ w a v l) (hb : Below w.heap.size w w') : Lg o σ w' a v l := ⟨h.box.below hb, h.row.below hb⟩
theorem Lg.step (h : Lg o σ w a v l) (st : Step o o' τ w w') (hne : σ ≠ τ) : Lg o' σ w' a v l := ⟨h.box.step st hne, h.row.step st hne⟩
end
theorem Try.infoRow : (Try.prog.info? 34).map (fun i => (i.zero, i.size, i.bytes)) = some (some (.agg #[.int .i64 0, .string ⟨#[]⟩, .int .i64 0]), 3, 32) := by kernel_rfl
theorem newsW (w : World) (x : Rw) (e : TypeId) (B : Nat) (hB : w.heap.size = B) : ∀ j u, (cellsW [x])[j]? = some u → (w.alloc (.cells #[.int .i64 x.tick, .string (bs x.name), .int .i64 x.val] e)).cell? ((⟨B, 0, none⟩ : Addr).add j) = some u := by
  intro j u hj
  subst hB
  rw [Addr.add_lit]
  rw [cellsW_one] at hj
  match j, hj with
  | 0, hj => simp at hj; subst hj; simp
  | 1, hj => simp at hj; subst hj; simp
  | 2, hj => simp at hj; subst hj; simp
end Go.Proofs.Ytbmofcggdpjcbaa
