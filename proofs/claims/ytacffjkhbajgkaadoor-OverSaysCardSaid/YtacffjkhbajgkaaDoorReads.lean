/- Arguments as they are read: a slice of int64. -/
import Derived.Test.YtacffjkhbajgkaaDoorBase
namespace Go.Proofs.YtacffjkhbajgkaaDoor
open Go.RowKit Go.ChangeShapes Go.WideShapes Go.ChangeAt
set_option linter.unusedVariables false

/-- The cells at A hold the numbers zs (nothing is said of A where zs is empty). -/
def ReadsI (w : World) (A : Option Addr) (zs : List Int) : Prop :=
  ∀ k, k < zs.length → ∃ b off, A = some ⟨b, off, none⟩ ∧ w.cell? ⟨b, off + k, none⟩ = some (.int .i64 (zs.getD k 0))
theorem ReadsI.drewN {w : World} {A : Option Addr} {zs : List Int} (h : ReadsI w A zs) (n : Nat) : ReadsI (w.drewN n) A zs := h
theorem ReadsI.below {w w' : World} {A : Option Addr} {zs : List Int} (h : ReadsI w A zs) (hA : ∀ ad, A = some ad → ad.block < w.heap.size) (hb : Below w.heap.size w w') : ReadsI w' A zs := by
  intro k hk
  obtain ⟨b, off, rfl, hc⟩ := h k hk
  exact ⟨b, off, rfl, by rw [hb.cell (p := ⟨b, off + k, none⟩) (hA ⟨b, off, none⟩ rfl)]; exact hc⟩

theorem cell_lt {w : World} {a : Addr} {v : Value} (h : w.cell? a = some v) : a.block < w.heap.size := by
  rcases Nat.lt_or_ge a.block w.heap.size with h1 | h1
  · exact h1
  · exfalso
    unfold World.cell? at h
    rw [Array.getElem?_eq_none h1] at h
    simp at h

section
variable {H : Type} {enc : TypeId × Value → H} {P : Program}
theorem addr_add_plain (b o n : Nat) : Addr.add ⟨b, o, none⟩ n = ⟨b, o + n, none⟩ := by unfold Addr.add; split <;> simp_all
theorem open_i64s {t e : TypeId} {W : World} {v : Value} {d : DataW H} {p : List MemPlace} (ht : P.underlying t = some (.slice e)) (he : P.underlying e = some (.int .i64)) (hc : P.cellsOf e = 1)
    {r : Reach} {b0 : Nat} (hval : Value.okWide P W r b0 t v) (h : DataW.Trod enc P W 0 (fun _ => true) true t v d p) :
    ∃ (A : Option Addr) (c : Nat) (zs : List Int), v = .slice A zs.length c ∧ zs.length ≤ 9223372036854775807 ∧ (∀ x ∈ zs, fitB x = true) ∧ ReadsI W A zs ∧ (zs ≠ [] → ∀ ad, A = some ad → ad.block < W.heap.size) := by
  obtain ⟨a0, len, cap, rfl⟩ := okWide_slice ht hval
  obtain ⟨fuel, hf⟩ := h
  rcases open_ints ht he hc hf with ⟨hcs, hx⟩ | ⟨a, len', cap', zs, hcs, _, hl, hm, hz, hx, hcell, hwz⟩
  · simp [Value.cells] at hcs
    obtain ⟨rfl, rfl, rfl⟩ := hcs
    exact ⟨none, 0, [], rfl, by decide, by simp, fun k hk => absurd hk (by simp), fun h => absurd rfl h⟩
  · simp [Value.cells] at hcs
    obtain ⟨rfl, rfl, rfl⟩ := hcs
    simp only [if_true] at hz
    unfold maxLen at hm
    have hlen : (zs.take len).length = len := by simp; omega
    refine ⟨some a, cap, zs.take len, by rw [hlen], by rw [hlen]; omega, fun x hx => wf_fit (hwz x (List.mem_of_mem_take hx)), fun k hk => ?_, fun hne ad had => ?_⟩
    · have hk' : k < len := by rw [hlen] at hk; exact hk
      obtain ⟨b, off, spot⟩ := a
      have hspot : spot = none := by simpa [Addr.add] using World.cell?_spot (hcell 0 (by omega))
      subst hspot
      refine ⟨b, off, rfl, ?_⟩
      have := hcell k (by omega)
      rw [addr_add_plain] at this
      rw [this, List.getD, List.getD, List.getElem?_take, if_pos hk']
    · injection had with had
      subst had
      have h0 : 0 < zs.length := by
        rcases Nat.eq_zero_or_pos zs.length with h0 | h0
        · exact absurd (by rw [List.eq_nil_of_length_eq_zero h0, List.take_nil]) hne
        · exact h0
      have := hcell 0 h0
      have hb := cell_lt this
      simpa [Addr.add] using hb
end
end Go.Proofs.YtacffjkhbajgkaaDoor
