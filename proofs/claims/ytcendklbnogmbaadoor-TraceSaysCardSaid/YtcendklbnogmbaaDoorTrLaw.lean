/- What the statements of traces take and ask first: ticks, two jobs, awake. -/
import Derived.Test.YtcendklbnogmbaaDoorTr4
import Derived.Test.YtcendklbnogmbaaDoorTrOwn
namespace Go.Proofs.YtcendklbnogmbaaDoor
open Go.RowKit Go.Lib Go.ChangeShapes Go.WideShapes Go.ChangeAt Go.Deep
set_option linter.unusedVariables false
set_option linter.unusedSimpArgs false

section
variable {H : Type} {enc : TypeId × Value → H}
theorem open_ticks {W : World} {v : Value} {d : DataW H} {p : List MemPlace} {r : Reach} {b0 : Nat} (hval : Value.okWide Tryd.prog W r b0 27 v) (h : DataW.Trod enc Tryd.prog W 0 (fun _ => true) true 27 v d p) :
    ∃ (A : Option Addr) (c : Nat) (zs : List Int), v = .slice A zs.length c ∧ zs.length ≤ c ∧ c ≤ 9223372036854775807 ∧ RdT W A zs ∧ ((A = none ∧ c = 0 ∧ zs = []) ∨ ∃ ad, A = some ad) := by
  obtain ⟨a0, len, cap, rfl⟩ := okWide_slice Tryd.underlying27 hval
  obtain ⟨fuel, hf⟩ := h
  rcases open_ints Tryd.underlying27 Tryd.underlying3 Tryd.cellsI1 hf with ⟨hcs, hx⟩ | ⟨a, len', cap', zs, hcs, _, hl, hm, hz, hx, hcell, hwz⟩
  · simp [Value.cells] at hcs
    obtain ⟨rfl, rfl, rfl⟩ := hcs
    exact ⟨none, 0, [], rfl, by simp, by decide, fun k x hk => by simp at hk, .inl ⟨rfl, rfl, rfl⟩⟩
  · simp [Value.cells] at hcs
    obtain ⟨rfl, rfl, rfl⟩ := hcs
    simp only [if_true] at hz
    unfold maxLen at hm
    have hlen : (zs.take len).length = len := by simp; omega
    refine ⟨some a, cap, zs.take len, by rw [hlen], by rw [hlen]; omega, by omega, fun k x hk => ?_, .inr ⟨a, rfl⟩⟩
    have hk' : k < len := by have := (List.getElem?_eq_some_iff.1 hk).1; rw [hlen] at this; exact this
    obtain ⟨b, off, spot⟩ := a
    have hspot : spot = none := by simpa [Addr.add] using World.cell?_spot (hcell 0 (by omega))
    subst hspot
    refine ⟨b, off, rfl, ?_⟩
    have := hcell k (by omega)
    rw [addr_add_plain] at this
    rw [this]
    rw [List.getElem?_take, if_pos hk'] at hk
    simp [List.getD, hk]
end
theorem RdT.take {w : World} {A : Option Addr} {t : List Int} (h : RdT w A t) (k : Nat) : RdT w A (t.take k) := fun j x hj => by
  rw [List.getElem?_take] at hj
  split at hj
  · exact h j x hj
  · cases hj
theorem cut_ticks {A : Option Addr} {n cap k : Nat} {t : List Int} (hA : (A = none ∧ cap = 0 ∧ t = []) ∨ ∃ ad, A = some ad) (hl : t.length = n) (hk : k ≤ n) (hc : n ≤ cap) (hm : cap ≤ 9223372036854775807) :
    ∃ A' c', (∀ w', (Instr.slice 27 (.slice A n cap) none (some (.int .i64 (k : Int))) none).run Tryd.prog w' = .ok (.slice A' k c') w') ∧ k ≤ c' ∧ c' ≤ 9223372036854775807 ∧ (∀ w', RdT w' A t → RdT w' A' (t.take k)) := by
  rcases hA with ⟨rfl, rfl, rfl⟩ | ⟨ad, rfl⟩
  · obtain rfl : n = 0 := by omega
    obtain rfl : k = 0 := by omega
    exact ⟨none, 0, fun w' => by go_simp, by omega, by omega, fun w' _ j x hj => by simp at hj⟩
  · have h1 : (k : Int) ≤ (cap : Int) := by omega
    have h2 : k ≤ cap := by omega
    exact ⟨some ad, cap, fun w' => by go_simp, by omega, hm, fun w' h => h.take k⟩
set_option maxHeartbeats 1600000 in
theorem ints9_any (A1 A2 : Option Addr) (c1 c2 : Nat) (l : List Int) (n : Nat) (w : World) (hl : n ≤ 1000000) (hn : l.length = n) (h1 : RdT w A1 l) (h2 : RdT w A2 l) (k1 : n ≤ c1) (k2 : n ≤ c2) (m1 : c1 ≤ 9223372036854775807) (m2 : c2 ≤ 9223372036854775807) :
    Calls Tryd.prog 14 #[.slice A1 n c1, .slice A2 n c2] w (Ret (.bool true) w) := by
  replace h1 := Lib.hid h1
  replace h2 := Lib.hid h2
  replace hn := Lib.hid hn
  have e5 : ((n : Int) != (n : Int)) = false := by simp
  go_enter Tryd.func14, Tryd.ntmps14
  go_wp2
  clear e5
  go_loopw [5] (fun st wr => ∃ (j : Nat) (k : Nat), st = .int .i64 (j : Int) ∧ j ≤ n ∧ wr = w.drewN k) (fun st _ => n - (intOf st).toNat)
  case atStart => exact ⟨0, 0, rfl, by omega, rfl⟩
  case round =>
    obtain ⟨j, k, rfl, hj, rfl⟩ := hrel
    rcases Nat.lt_or_ge j n with hlt | hge
    · obtain ⟨x, hx⟩ : ∃ x, l[j]? = some x := ⟨_, List.getElem?_eq_getElem (by rw [hn.out]; exact hlt)⟩
      obtain ⟨g, o, rfl, d0⟩ := h1.out j _ hx
      obtain ⟨g', o', rfl, y0⟩ := h2.out j _ hx
      have q1 : (j : Int) < (n : Int) := by omega
      have q2 : (0 : Int) ≤ (j : Int) := by omega
      have q3 : (x != x) = false := by simp
      clear hx
      go_wp2
      go_quiet (fail)
      go_wp2
      go_roundw
      case rel => exact ⟨j + 1, _, by simp, by omega, rfl⟩
      case measure => simp [intOf]; omega
    · obtain rfl : j = n := by omega
      go_wp2
      go_ret
      exact ⟨rfl, _, rfl⟩
/-- Ticks in a new block. -/
theorem rdT_made (w : World) (ty : TypeId) (l : List Int) (cs : Array Value) (h : cs = (l.map (Value.int .i64)).toArray) : RdT (w.alloc (.cells cs ty)) (some ⟨w.heap.size, 0, none⟩) l := by
  intro k x hx
  refine ⟨w.heap.size, 0, rfl, ?_⟩
  rw [cell_row (heap_alloc_new w _), h]
  simp [hx]
def jT1 : Jb := ⟨⟨#[97]⟩, 0, 4, 2, 2, 5, 0, false⟩
def jT2 : Jb := ⟨⟨#[98]⟩, 1, 5, 1, 3, 7, 1, false⟩
theorem rdJ_two (w : World) (t : TypeId) (x y : Jb) : RdJ (w.alloc (.cells (x.cells ++ y.cells) t)) (some ⟨w.heap.size, 0, none⟩) [x, y] := by
  intro k z hz
  refine ⟨w.heap.size, 0, rfl, ?_⟩
  match k, hz with
  | 0, hz =>
    simp at hz
    subst hz
    unfold JAt
    refine ⟨?_, ?_, ?_, ?_, ?_, ?_, ?_, ?_⟩ <;> simp [Jb.cells]
  | 1, hz =>
    simp at hz
    subst hz
    unfold JAt
    refine ⟨?_, ?_, ?_, ?_, ?_, ?_, ?_, ?_⟩ <;> simp [Jb.cells]
theorem two_any (w : World) : Calls Tryd.prog 8 #[] w (fun e w' => e = .returned (.slice (some ⟨w.heap.size, 0, none⟩) 2 2) ∧ RdJ w' (some ⟨w.heap.size, 0, none⟩) [jT1, jT2] ∧ Below w.heap.size w w') := by
  have H := Lib.hid (rdJ_two w 44 jT1 jT2)
  go_enter Tryd.func8, Tryd.ntmps8
  go_wp2
  go_ret
  exact ⟨rfl, H.out, by repeat (first | exact Below.refl _ _ | refine Below.setCell ?_ (by first | omega | (simp; done) | (simp; omega)) _ | refine below_dN ?_ _ | refine Below.drew ?_ | refine Below.alloc ?_ (by first | omega | (simp; done) | (simp; omega)) _)⟩
end Go.Proofs.YtcendklbnogmbaaDoor
