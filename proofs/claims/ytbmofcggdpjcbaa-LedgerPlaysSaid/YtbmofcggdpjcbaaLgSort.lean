/- The names under which something was earned, in ascending order. -/
import Derived.Test.YtbmofcggdpjcbaaLgKeys
import Derived.Test.YtbmofcggdpjcbaaLgMap
namespace Go.Proofs.Ytbmofcggdpjcbaa
open Go.RowKit Go.Maps
set_option linter.unusedVariables false
set_option linter.unusedSimpArgs false

theorem mem_keys {P : Program} {k : TypeId} (hk : P.underlying k = some .string) {R : Value → Option (DataW Unit × List MemPlace)} {w : World} {b n : Nat} {D : DataW Unit} (h : w.ownsMap P k R b n D) (x : List UInt8) : x ∈ strKeys D ↔ Maps.has D (.string x) = true := by
  obtain ⟨es, rfl, hks⟩ := h.keysOf
  rw [Maps.has_eq, List.any_eq_true]
  show x ∈ es.map (fun p => strOf p.1) ↔ _
  rw [List.mem_map]
  constructor
  · rintro ⟨p, hp, rfl⟩
    obtain ⟨key, hkey⟩ := hks p hp
    obtain ⟨y, _, hy, _⟩ := Maps.keyOf_str hk hkey
    exact ⟨p, hp, by rw [hy]; simp [strOf, Lit.sameKey]⟩
  · rintro ⟨p, hp, hs⟩
    obtain ⟨key, hkey⟩ := hks p hp
    obtain ⟨y, _, hy, _⟩ := Maps.keyOf_str hk hkey
    refine ⟨p, hp, ?_⟩
    rw [hy] at hs ⊢
    have := WideAt.sameKey_eq hs
    injection this
theorem msortedE {w : World} {b : Nat} {l : List Rw} (h : MapE w b l) (hl : l.length ≤ 1000) :
    Calls Try.prog 23 #[.func (.func 30) #[] #[.pointer (some ⟨w.heap.size, 0, none⟩)]] (w.alloc (.cells #[.map (some b)] 51)) fun e w' => ∃ (A : Option Addr) (c : Nat) (ks : List (List UInt8)), e = .returned (.slice A ks.length c) ∧ ks.length ≤ 1000 ∧ ks.length ≤ c ∧ c ≤ 9223372036854775807 ∧
      (∀ (j : Nat) (k : List UInt8), ks[j]? = some k → ∃ g, A = some ⟨g, 0, none⟩ ∧ g < w'.heap.size ∧ w'.cell? ⟨g, j, none⟩ = some (.string (bs k))) ∧ ks.Pairwise (fun x y => x ≤ y) ∧ (∀ k, k ∈ ks ↔ ∃ x ∈ l, x.name = k ∧ 0 < x.val) ∧ Below w.heap.size w w' := by
  obtain ⟨D, hD, h1, h2⟩ := h
  have hsz := hD.size_le
  refine (msorted_any b l.length D _ w hD (by unfold maxLen; omega) (by omega)).mono ?_
  rintro e w' ⟨v, ss, rfl, hp, hrow, hnil, hb⟩
  have tr : ∀ a b c : List UInt8, leB a b = true → leB b c = true → leB a c = true := fun a b c h1 h2 => by simp only [leB, decide_eq_true_eq] at *; exact List.le_trans h1 h2
  have to : ∀ a b : List UInt8, (leB a b || leB b a) = true := fun a b => by simp only [leB, Bool.or_eq_true, decide_eq_true_eq]; exact List.le_total a b
  have hpw := List.pairwise_mergeSort tr to ss
  have hpm := List.mergeSort_perm ss leB
  have hlen : ss.length ≤ 1000 := by
    have e1 := hp.length_eq
    have e2 : (strKeys D).length = Maps.size D := by
      obtain ⟨es, rfl, _⟩ := hD.keysOf
      show (es.map fun p => strOf p.1).length = es.length
      exact List.length_map _
    omega
  have hml : (ss.mergeSort leB).length = ss.length := hpm.length_eq
  have hbw : Below w.heap.size w w' := by
    have s1 : w.heap.size ≤ (w.alloc (.cells #[.map (some b)] 51)).heap.size := by simp
    exact ((Below.refl _ w).alloc (Nat.le_refl _) _).trans (hb.mono s1)
  have hmem : ∀ k, k ∈ ss.mergeSort leB ↔ ∃ x ∈ l, x.name = k ∧ 0 < x.val := fun k => by
    rw [hpm.mem_iff, hp.mem_iff, mem_keys Try.underlying9 hD, h2 k]
  have hrow2 : w'.ownsRow (w.alloc (.cells #[.map (some b)] 51)).heap.size 9 1 v ss.length ((ss.mergeSort leB).map encStr) := hrow
  clear hrow
  generalize ss.mergeSort leB = ks at *
  rw [← hml] at hrow2 hlen
  rcases hrow2.2 with ⟨rfl, h0⟩ | ⟨g, cap, cur, rfl, _, hg, c1, c2, _⟩
  · refine ⟨none, 0, ks, by rw [h0], hlen, by omega, by decide, fun j k hj => ?_, hpw.imp (fun h => by simpa [leB] using h), hmem, hbw⟩
    have := (List.getElem?_eq_some_iff.1 hj).1
    omega
  · refine ⟨some ⟨g, 0, none⟩, cap, ks, rfl, hlen, c1, by unfold maxLen at c2; omega, fun j k hj => ⟨g, rfl, (Array.getElem?_eq_some_iff.1 hg).1, ?_⟩, hpw.imp (fun h => by simpa [leB] using h), hmem, hbw⟩
    have hjl := (List.getElem?_eq_some_iff.1 hj).1
    rw [hrow2.cellAt j (by omega), List.getElem?_map, hj]
    rfl
end Go.Proofs.Ytbmofcggdpjcbaa
