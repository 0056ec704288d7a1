/- A slice of int64 that a call makes for itself by append: its cells, one more, read again. -/
import Derived.Test.YtkjgpidiompmlaaOwn
import Derived.Test.YtkjgpidiompmlaaReads
import Derived.Lib.AppendZerosOnto
namespace Go.Proofs.Ytkjgpidiompmlaa
open Go.RowKit Go.Lib
set_option linter.unusedVariables false
set_option linter.unusedSimpArgs false

def cellsZ (l : List Int) : List Value := l.map (Value.int .i64)
theorem newsZ (w : World) (x : Value) (e : TypeId) (B : Nat) (hB : w.heap.size = B) : ∀ j u, ([x] : List Value)[j]? = some u → (w.alloc (.cells #[x] e)).cell? ((⟨B, 0, none⟩ : Addr).add j) = some u := by
  intro j u hj
  subst hB
  rw [Addr.add_lit]
  match j, hj with
  | 0, hj => simp at hj; subst hj; simp
theorem oneZ (x : Int) : ∀ u ∈ [Value.int .i64 x], u.oneCell' = true := by intro u hu; simp at hu; subst hu; rfl
theorem ownZ_reads {w : World} {base n : Nat} {e : TypeId} {v : Value} {l : List Int} (h : w.ownsRow base e 1 v n (cellsZ l)) :
    ∃ A c, v = .slice A l.length c ∧ l.length ≤ c ∧ c ≤ 9223372036854775807 ∧ ReadsI w A l ∧ ∀ ad, A = some ad → ad.block < w.heap.size := by
  have hn : n = l.length := by have := h.1; simp [cellsZ] at this; omega
  subst hn
  rcases h.2 with ⟨rfl, h0⟩ | ⟨g, cap, cur, rfl, hb, hh, h1, h2, _⟩
  · refine ⟨none, 0, by simp [h0], by omega, by decide, fun k hk => ?_, fun ad h => by cases h⟩
    omega
  · refine ⟨some ⟨g, 0, none⟩, cap, rfl, h1, by unfold maxLen at h2; omega, fun k hk => ⟨g, 0, rfl, ?_⟩, fun ad h => by injection h with h; subst h; exact (Array.getElem?_eq_some_iff.1 hh).1⟩
    rw [Nat.zero_add, h.cellAt _ (by omega), List.getD]
    simp [cellsZ, hk]
theorem oneMoreZ {N k : Nat} {r : List Int} {b : Int} {w wp w3 : World} {v : Value} {e e' : TypeId} (bw : Below N w wp) (hN : N ≤ wp.heap.size) (ho : wp.ownsRow N e 1 v k (cellsZ r)) (hg : (wp.alloc (.cells #[.int .i64 b] e')).grownBy w3 v.ownBlock) : Below N w w3 := by
  have bm : Below wp.heap.size wp (wp.alloc (.cells #[.int .i64 b] e')) := (Below.refl _ _).alloc (Nat.le_refl _) _
  exact (bw.trans (bm.mono hN)).grown hg (by simp; omega) (fun j hj => (ho.lt j hj).1)
end Go.Proofs.Ytkjgpidiompmlaa
