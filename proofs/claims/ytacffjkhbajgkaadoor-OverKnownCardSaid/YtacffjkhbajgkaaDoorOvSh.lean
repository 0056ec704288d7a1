/- Spans in memory; what Share answers. -/
import Derived.Test.YtacffjkhbajgkaaDoorOvRef2
import Derived.Test.YtacffjkhbajgkaaDoorTrMath
namespace Go.Proofs.YtacffjkhbajgkaaDoor
open Go.RowKit Go.Lib
set_option linter.unusedVariables false
set_option linter.unusedSimpArgs false

/-- The cells at A hold these spans. -/
def RdS (w : World) (A : Option Addr) (l : List (Int × Int)) : Prop :=
  ∀ (k : Nat) (s : Int × Int), l[k]? = some s → ∃ g, A = some ⟨g, 0, none⟩ ∧ g < w.heap.size ∧ w.cell? ⟨g, k * 2, none⟩ = some (.int .i64 s.1) ∧ w.cell? ⟨g, k * 2 + 1, none⟩ = some (.int .i64 s.2)
theorem RdS.below {w w' : World} {A : Option Addr} {l : List (Int × Int)} (h : RdS w A l) (hb : Below w.heap.size w w') : RdS w' A l := by
  intro k s hs
  obtain ⟨g, rfl, hg, h0, h1⟩ := h k s hs
  exact ⟨g, rfl, Nat.lt_of_lt_of_le hg hb.size, by rw [hb.cell (p := ⟨g, k * 2, none⟩) hg]; exact h0, by rw [hb.cell (p := ⟨g, k * 2 + 1, none⟩) hg]; exact h1⟩
theorem own_rdS {w : World} {base n : Nat} {e : TypeId} {v : Value} {l : List (Int × Int)} (h : w.ownsRow base e 2 v n (cellsT l)) :
    ∃ A c, v = .slice A l.length c ∧ l.length ≤ c ∧ c ≤ 9223372036854775807 ∧ RdS w A l := by
  have hn : n = l.length := by have := h.1; rw [cellsT_length] at this; omega
  subst hn
  rcases h.2 with ⟨rfl, h0⟩ | ⟨g, cap, cur, rfl, _, hh, h1, h2, _⟩
  · refine ⟨none, 0, by simp [h0], by omega, by decide, fun k x hx => ?_⟩
    rw [List.eq_nil_of_length_eq_zero h0] at hx; simp at hx
  · refine ⟨some ⟨g, 0, none⟩, cap, rfl, h1, by unfold maxLen at h2; omega, fun k x hx => ⟨g, rfl, (Array.getElem?_eq_some_iff.1 hh).1, ?_, ?_⟩⟩
    · have hk := (List.getElem?_eq_some_iff.1 hx).1
      rw [h.cellAt _ (by omega)]
      exact (cellsT_get l k x hx).1
    · have hk := (List.getElem?_eq_some_iff.1 hx).1
      rw [h.cellAt _ (by omega)]
      exact (cellsT_get l k x hx).2
/-- A number, put between 0 and n. -/
def clampT (x : Int) (n : Nat) : Nat := if x < 0 then 0 else if x > (n : Int) then n else x.toNat
/-- What Share answers: how many of the ticks there are somebody's, and all of them. -/
def partT (t : List Int) (f u : Int) : List Int := (t.take (clampT u t.length)).drop (clampT f t.length)
def shareB (t : List Int) (f u : Int) : Int × Int := (((partT t f u).countP (fun k => !(k == -1)) : Nat), ((partT t f u).length : Nat))
end Go.Proofs.YtacffjkhbajgkaaDoor
