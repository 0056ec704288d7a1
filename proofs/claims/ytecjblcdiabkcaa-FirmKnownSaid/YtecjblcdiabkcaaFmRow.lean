/- The document's monitor in memory; how many it has met of the k that end at a place. -/
import Derived.Test.YtecjblcdiabkcaaFmMath
import Derived.Test.YtecjblcdiabkcaaDlMath
import Derived.Test.YtecjblcdiabkcaaRegT
import Derived.Laws.OwnMore
import Derived.Lib.SliceRun
import Derived.Laws.AppendOwnNone
import Derived.BigQuiet
namespace Go.Proofs.Ytecjblcdiabkcaa
open Go.RowKit
set_option linter.unusedVariables false
set_option linter.unusedSimpArgs false

def cellsL (l : List Bool) : List Value := l.map Value.bool
theorem cellsL_len (l : List Bool) : (cellsL l).length = l.length := by simp [cellsL]
theorem cellsL_get {l : List Bool} {k : Nat} {x : Bool} (h : l[k]? = some x) : (cellsL l)[k]? = some (.bool x) := by simp [cellsL, h]
theorem cellsL_ones (l : List Bool) : ∀ u ∈ cellsL l, u.oneCell' = true := by
  intro u hu
  obtain ⟨x, _, rfl⟩ := List.mem_map.1 hu
  rfl
theorem cellsL_app (s t : List Bool) : cellsL (s ++ t) = cellsL s ++ cellsL t := by simp [cellsL]
theorem Try.infoBoolM : (Try.prog.info? 4).map (fun i => (i.zero, i.size, i.bytes)) = some (some (.bool false), 1, 1) := by kernel_rfl
theorem Row.capsM {o : Nat → Nat} {σ : Nat} {w : World} {e : TypeId} {size n cap : Nat} {A : Option Addr} {xs : List Value} (h : Row o σ w e size (.slice A n cap) n xs) : n ≤ cap ∧ cap ≤ 9223372036854775807 := by
  rcases h.own.2 with ⟨hv, h0⟩ | ⟨g, cap', cur, hv, _, _, h1, h2, _⟩
  · injection hv with h1 h2 h3; omega
  · injection hv with h4 h5 h6; unfold maxLen at h2; omega
/-- The cells at A hold these bools. -/
def RdL (w : World) (A : Option Addr) (l : List Bool) : Prop :=
  ∀ (i : Nat) (x : Bool), l[i]? = some x → ∃ g, A = some ⟨g, 0, none⟩ ∧ g < w.heap.size ∧ w.cell? ⟨g, i, none⟩ = some (.bool x)
theorem RdL.below {w w' : World} {A : Option Addr} {l : List Bool} (h : RdL w A l) (hb : Below w.heap.size w w') : RdL w' A l := by
  intro i x hx
  obtain ⟨g, rfl, hg, h0⟩ := h i x hx
  exact ⟨g, rfl, Nat.lt_of_lt_of_le hg hb.size, by rw [hb.cell (p := ⟨g, i, none⟩) hg]; exact h0⟩
section
variable {o o' : Nat → Nat} {σ τ : Nat} {w w' : World} {e : TypeId} {A : Option Addr} {cap b : Nat} {L : List Bool} {v : Value} {m k : Nat}
theorem Row.rdL (h : Row o σ w e 1 (.slice A L.length cap) L.length (cellsL L)) : RdL w A L := by
  intro i x hx
  have hi := (List.getElem?_eq_some_iff.1 hx).1
  obtain ⟨g, c, hv, _, _, _, hg⟩ := h.form (by omega)
  cases hv
  exact ⟨g, rfl, hg, by rw [h.cellAt _ (by omega)]; exact cellsL_get hx⟩
/-- Block b is the document's monitor of m in k that has seen L. -/
structure Rm (o : Nat → Nat) (σ : Nat) (w : World) (b m k : Nat) (v : Value) (L : List Bool) : Prop where
  box : Blk o σ w b #[.int .i64 (m : Int), .int .i64 (k : Int), v] 34
  row : Row o σ w 4 1 v L.length (cellsL L)
theorem Rm.alloc (h : Rm o σ w b m k v L) (x : Obj) (τ' : Nat) : Rm (tag o w.heap.size τ') σ (w.alloc x) b m k v L := ⟨h.box.alloc x τ', h.row.alloc x τ'⟩
theorem Rm.drewN (h : Rm o σ w b m k v L) (n : Nat) : Rm o σ (w.drewN n) b m k v L := ⟨⟨h.box.at_, h.box.mine⟩, ⟨h.row.own, h.row.mine⟩⟩
theorem Rm.drew (h : Rm o σ w b m k v L) : Rm o σ w.drew b m k v L := ⟨⟨h.box.at_, h.box.mine⟩, ⟨h.row.own, h.row.mine⟩⟩
theorem Rm.below (h : Rm o σ w b m k v L) (hb : Below w.heap.size w w') : Rm o σ w' b m k v L := ⟨h.box.below hb, h.row.below hb⟩
theorem Rm.step (h : Rm o σ w b m k v L) (st : Step o o' τ w w') (hne : σ ≠ τ) : Rm o' σ w' b m k v L := ⟨h.box.step st hne, h.row.step st hne⟩
theorem Rm.c0 (h : Rm o σ w b m k v L) : w.cell? ⟨b, 0, none⟩ = some (.int .i64 (m : Int)) := by rw [h.box.cell]; simp
theorem Rm.c1 (h : Rm o σ w b m k v L) : w.cell? ⟨b, 1, none⟩ = some (.int .i64 (k : Int)) := by rw [h.box.cell]; simp
theorem Rm.c2 (h : Rm o σ w b m k v L) : w.cell? ⟨b, 2, none⟩ = some v := by rw [h.box.cell]; simp
set_option maxHeartbeats 1600000 in
theorem rmet (e : Nat) (q : Nat) (h : Rm o σ w b m k v L) (hl : L.length ≤ 1000) (he : e < L.length) (hk : k ≤ e + 1) (hq : mc k (e + 1) L = q) :
    Calls Try.prog 24 #[.pointer (some ⟨b, 0, none⟩), .int .i64 (e : Int)] w fun x w' => x = .returned (.int .i64 (q : Int)) ∧ w' = w := by
  obtain ⟨A, cap, rfl⟩ := h.row.any
  obtain ⟨hlc, hcap⟩ := h.row.capsM
  have c1 := h.c1
  have c2 := h.c2
  have RD := Lib.hid h.row.rdL
  obtain ⟨s, hs⟩ : ∃ s, e + 1 - k = s := ⟨_, rfl⟩
  have e1 : (e : Int) - (k : Int) + 1 = (s : Int) := by omega
  have hse : s ≤ e + 1 := by omega
  obtain ⟨N, hN⟩ : ∃ N, L.length = N := ⟨_, rfl⟩
  rw [hN] at c2 hl hlc he
  have hq' : yes ((L.take (e + 1)).drop s) = q := by rw [← hq, mc_span (by omega), hs]
  have Z := Lib.hid (And.intro hN hq')
  clear h hN hq hq' hs
  go_enter Try.func24, Try.ntmps24
  go_wp2
  go_loopw [5, 6] (fun s5 s6 wr => ∃ (i n : Nat), s5 = .int .i64 (n : Int) ∧ s6 = .int .i64 (i : Int) ∧ s ≤ i ∧ i ≤ e + 1 ∧ n ≤ i ∧ Hid (yes ((L.take i).drop s) = n) ∧ wr = w) (fun _ st _ => e + 1 - (intOf st).toNat)
  case atStart => exact ⟨s, 0, rfl, by first | rfl | simp [e1], by omega, hse, by omega, Lib.hid span_none, rfl⟩
  case round =>
    obtain ⟨i, n, rfl, rfl, hi1, hi2, hn, HQ, rfl⟩ := hrel
    rcases Nat.lt_or_ge i (e + 1) with hlt | hge
    · obtain ⟨x, hx⟩ : ∃ x, L[i]? = some x := ⟨_, List.getElem?_eq_getElem (by rw [Z.out.1]; omega)⟩
      obtain ⟨g, rfl, hg, d0⟩ := RD.out i _ hx
      have q1 : (i : Int) ≤ (e : Int) := by omega
      have q2 : (0 : Int) ≤ (i : Int) := by omega
      have q3 : (i : Int) < (N : Int) := by omega
      have hnx := span_next hi1 hx
      rw [HQ.out] at hnx
      have HN := Lib.hid hnx
      clear hx hg HQ hnx
      cases x with
      | true =>
        go_wp2
        go_roundw
        case rel => exact ⟨i + 1, n + 1, by simp, by simp, by omega, by omega, by omega, HN, by first | rfl | trivial⟩
        case measure => simp [intOf]; omega
      | false =>
        go_wp2
        go_roundw
        case rel => exact ⟨i + 1, n, by first | rfl | simp, by simp, by omega, by omega, by omega, HN, by first | rfl | trivial⟩
        case measure => simp [intOf]; omega
    · obtain rfl : i = e + 1 := by omega
      obtain rfl : n = q := by rw [← HQ.out, ← Z.out.2]
      have q1 : decide (((e + 1 : Nat) : Int) ≤ (e : Int)) = false := decide_eq_false (by omega)
      clear HQ
      go_wp2
      go_ret
      exact ⟨rfl, rfl⟩
end
end Go.Proofs.Ytecjblcdiabkcaa
