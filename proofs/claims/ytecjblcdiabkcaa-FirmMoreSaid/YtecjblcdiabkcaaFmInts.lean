/- Two slices that hold the same numbers are alike (as in XDlInts, without a queue). -/
import Derived.Test.YtecjblcdiabkcaaFmRef
import Derived.BigQuiet
namespace Go.Proofs.Ytecjblcdiabkcaa
open Go.RowKit
set_option linter.unusedVariables false
set_option linter.unusedSimpArgs false

/-- The cells at A hold the numbers l. -/
def RdN (w : World) (A : Option Addr) (l : List Int) : Prop :=
  ∀ (i : Nat) (x : Int), l[i]? = some x → ∃ g, A = some ⟨g, 0, none⟩ ∧ g < w.heap.size ∧ w.cell? ⟨g, i, none⟩ = some (.int .i64 x)
theorem RdN.below {w w' : World} {A : Option Addr} {l : List Int} (h : RdN w A l) (hb : Below w.heap.size w w') : RdN w' A l := by
  intro i x hx
  obtain ⟨g, rfl, hg, h0⟩ := h i x hx
  exact ⟨g, rfl, Nat.lt_of_lt_of_le hg hb.size, by rw [hb.cell (p := ⟨g, i, none⟩) hg]; exact h0⟩
theorem Row.rdN {o : Nat → Nat} {σ : Nat} {w : World} {e : TypeId} {A : Option Addr} {cap : Nat} {l : List Int} (h : Row o σ w e 1 (.slice A l.length cap) l.length (cellsN l)) : RdN w A l := by
  intro i x hx
  have hi := (List.getElem?_eq_some_iff.1 hx).1
  obtain ⟨g, c, hv, _, _, _, hg⟩ := h.form (by omega)
  cases hv
  exact ⟨g, rfl, hg, by rw [h.cellAt _ (by omega)]; simp [cellsN, hx]⟩
set_option maxHeartbeats 1600000 in
theorem ints_any (A1 A2 : Option Addr) (c1 c2 : Nat) (l : List Int) (w : World) (hl : l.length ≤ 1000) (h1 : RdN w A1 l) (h2 : RdN w A2 l) (k1 : l.length ≤ c1) (k2 : l.length ≤ c2) (m1 : c1 ≤ 9223372036854775807) (m2 : c2 ≤ 9223372036854775807) :
    Calls Try.prog 15 #[.slice A1 l.length c1, .slice A2 l.length c2] w (Ret (.bool true) w) := by
  replace h1 := Lib.hid h1
  replace h2 := Lib.hid h2
  have e5 : ((l.length : Int) != (l.length : Int)) = false := by simp
  go_enter Try.func15, Try.ntmps15
  go_wp2
  clear e5
  go_loopw [5] (fun st wr => ∃ (j : Nat) (k : Nat), st = .int .i64 (j : Int) ∧ j ≤ l.length ∧ wr = w.drewN k) (fun st _ => l.length - (intOf st).toNat)
  case atStart => exact ⟨0, 0, rfl, by omega, rfl⟩
  case round =>
    obtain ⟨j, k, rfl, hj, rfl⟩ := hrel
    rcases Nat.lt_or_ge j l.length with hlt | hge
    · obtain ⟨x, hx⟩ : ∃ x, l[j]? = some x := ⟨_, List.getElem?_eq_getElem hlt⟩
      obtain ⟨g, rfl, hg, d0⟩ := h1.out j _ hx
      obtain ⟨g', rfl, hg', y0⟩ := h2.out j _ hx
      have q1 : (j : Int) < (l.length : Int) := by omega
      have q2 : (0 : Int) ≤ (j : Int) := by omega
      have q3 : (x != x) = false := by simp
      clear hx
      go_wp2
      go_quiet (fail)
      go_wp2
      go_roundw
      case rel => exact ⟨j + 1, _, by simp, by omega, rfl⟩
      case measure => simp [intOf]; omega
    · obtain rfl : j = l.length := by omega
      go_wp2
      go_ret
      exact ⟨rfl, _, rfl⟩
/-- The same of two slices as values. -/
theorem ints_rows {o : Nat → Nat} {σ τ : Nat} {w : World} {e e' : TypeId} {v v' : Value} {l : List Int} (hl : l.length ≤ 1000) (h1 : Row o σ w e 1 v l.length (cellsN l)) (h2 : Row o τ w e' 1 v' l.length (cellsN l)) :
    Calls Try.prog 15 #[v, v'] w (Ret (.bool true) w) := by
  obtain ⟨A, c, rfl⟩ := h1.any
  obtain ⟨A', c', rfl⟩ := h2.any
  exact ints_any A A' c c' l w hl h1.rdN h2.rdN h1.capsM.1 h2.capsM.1 h1.capsM.2 h2.capsM.2
end Go.Proofs.Ytecjblcdiabkcaa
