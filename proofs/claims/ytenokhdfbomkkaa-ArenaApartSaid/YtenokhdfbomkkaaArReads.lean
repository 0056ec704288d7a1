/- Arguments as they are read: a slice of texts. -/
import Derived.Test.YtenokhdfbomkkaaReads
import Derived.Test.YtenokhdfbomkkaaOwn
import Derived.Deep.Strs
namespace Go.Proofs.Ytenokhdfbomkkaa
open Go.RowKit Go.ChangeShapes Go.WideShapes Go.ChangeAt Go.Deep
set_option linter.unusedVariables false

/-- The cells at A hold the texts ls (nothing is said of A where ls is empty). -/
def RdS (w : World) (A : Option Addr) (ls : List ByteArray) : Prop :=
  ∀ k, k < ls.length → ∃ b off, A = some ⟨b, off, none⟩ ∧ w.cell? ⟨b, off + k, none⟩ = some (.string (ls.getD k ⟨#[]⟩))
theorem RdS.below {w w' : World} {A : Option Addr} {ls : List ByteArray} (h : RdS w A ls) (hb : Below w.heap.size w w') : RdS w' A ls := by
  intro k hk
  obtain ⟨b, off, rfl, hc⟩ := h k hk
  exact ⟨b, off, rfl, (hb.cell (World.block_lt_of_cell? w _ hc)).trans hc⟩
section
variable {H : Type} {enc : TypeId × Value → H} {P : Program}
theorem open_texts {t e : TypeId} {W : World} {v : Value} {d : DataW H} {p : List MemPlace} (ht : P.underlying t = some (.slice e)) (he : P.underlying e = some .string) (hc : P.cellsOf e = 1)
    {r : Reach} {b0 : Nat} (hval : Value.okWide P W r b0 t v) (h : DataW.Trod enc P W 0 (fun _ => true) true t v d p) :
    ∃ (A : Option Addr) (c : Nat) (ls : List ByteArray), v = .slice A ls.length c ∧ ls.length ≤ c ∧ c ≤ 9223372036854775807 ∧ RdS W A ls := by
  obtain ⟨a0, len, cap, rfl⟩ := okWide_slice ht hval
  obtain ⟨fuel, hf⟩ := h
  rcases open_strs ht he hc hf with ⟨hcs, hx⟩ | ⟨a, len', cap', m, Sx, hcs, _, hl, hm, hz, hx, hcell⟩
  · simp [Value.cells] at hcs
    obtain ⟨rfl, rfl, rfl⟩ := hcs
    exact ⟨none, 0, [], rfl, by simp, by decide, fun k hk => absurd hk (by simp)⟩
  · simp [Value.cells] at hcs
    obtain ⟨rfl, rfl, rfl⟩ := hcs
    simp only [if_true] at hz
    subst hz
    unfold maxLen at hm
    refine ⟨some a, m, (List.range len).map Sx, by simp, by simp; omega, by omega, fun k hk => ?_⟩
    simp at hk
    obtain ⟨b, off, spot⟩ := a
    have hspot : spot = none := by simpa [Addr.add] using World.cell?_spot (hcell 0 (by omega)).1
    subst hspot
    refine ⟨b, off, rfl, ?_⟩
    have := (hcell k (by omega)).1
    rw [addr_add_plain] at this
    rw [this]
    simp [List.getD_eq_getElem?_getD, hk]
end
end Go.Proofs.Ytenokhdfbomkkaa
