/- The document's ring in memory: Add, Yes, Bits, At. -/
import Derived.Test.YtkajiogllcopbaaRgCounts
import Derived.Laws.AppendOwnNone
namespace Go.Proofs.Ytkajiogllcopbaa
open Go.RowKit
set_option linter.unusedVariables false
set_option linter.unusedSimpArgs false

theorem Try.infoBool : (Try.prog.info? 4).map (fun i => (i.zero, i.size, i.bytes)) = some (some (.bool false), 1, 1) := by kernel_rfl
theorem cell_same {w w' : World} {g : Nat} (h : w'.heap[g]? = w.heap[g]?) (j : Nat) : w'.cell? ⟨g, j, none⟩ = w.cell? ⟨g, j, none⟩ := by simp [World.cell?, h]
/-- Block b is the document's ring of this size that holds L, the oldest one first, at A. -/
structure Rf (o : Nat → Nat) (σ : Nat) (w : World) (b size : Nat) (A : Option Addr) (cap : Nat) (L : List Bool) : Prop where
  box : Blk o σ w b #[.int .i64 (size : Int), .slice A L.length cap] 36
  lc : L.length ≤ cap
  cm : cap ≤ 9223372036854775807
  sl : (A = none ∧ L = [] ∧ cap = 0) ∨ ∃ g off, A = some ⟨g, off, none⟩ ∧ g < w.heap.size ∧ o g = σ ∧ ∀ k x, L[k]? = some x → w.cell? ⟨g, off + k, none⟩ = some (.bool x)
section
variable {o o' : Nat → Nat} {σ τ : Nat} {w w' : World} {b size : Nat} {A : Option Addr} {cap : Nat} {L : List Bool}
theorem Rf.same (h : Rf o σ w b size A cap L) (hB : Blk o' σ w' b #[.int .i64 (size : Int), .slice A L.length cap] 36) (hs : ∀ g, g < w.heap.size → o g = σ → w'.heap[g]? = w.heap[g]? ∧ o' g = σ) : Rf o' σ w' b size A cap L := by
  refine ⟨hB, h.lc, h.cm, h.sl.imp id ?_⟩
  rintro ⟨g, off, rfl, hg, hm, hc⟩
  obtain ⟨e, m⟩ := hs g hg hm
  refine ⟨g, off, rfl, ?_, m, fun k x hx => by rw [cell_same e]; exact hc k x hx⟩
  rcases Nat.lt_or_ge g w'.heap.size with q | q
  · exact q
  · rw [Array.getElem?_eq_none q, Array.getElem?_eq_getElem hg] at e; cases e
theorem Rf.step (h : Rf o σ w b size A cap L) (st : Step o o' τ w w') (hne : σ ≠ τ) : Rf o' σ w' b size A cap L :=
  h.same (h.box.step st hne) fun g hg hm => ⟨st.block g hg (by rw [hm]; exact hne), by rw [st.old g hg]; exact hm⟩
theorem Rf.below (h : Rf o σ w b size A cap L) (hb : Below w.heap.size w w') : Rf o σ w' b size A cap L := h.same (h.box.below hb) fun g hg hm => ⟨hb.block g hg, hm⟩
theorem Rf.drewN (h : Rf o σ w b size A cap L) (n : Nat) : Rf o σ (w.drewN n) b size A cap L := h.same (h.box.drewN n) fun g hg hm => ⟨rfl, hm⟩
theorem Rf.rd (h : Rf o σ w b size A cap L) {k : Nat} {x : Bool} (hx : L[k]? = some x) : ∃ g off, A = some ⟨g, off, none⟩ ∧ w.cell? ⟨g, off + k, none⟩ = some (.bool x) := by
  rcases h.sl with ⟨_, rfl, _⟩ | ⟨g, off, rfl, _, _, hc⟩
  · simp at hx
  · exact ⟨g, off, rfl, hc k x hx⟩
theorem Rf.c1 (h : Rf o σ w b size A cap L) : w.cell? ⟨b, 1, none⟩ = some (.slice A L.length cap) := by rw [h.box.cell]; simp
theorem Rf.c0 (h : Rf o σ w b size A cap L) : w.cell? ⟨b, 0, none⟩ = some (.int .i64 (size : Int)) := by rw [h.box.cell]; simp
theorem yes_next {L : List Bool} {i : Nat} {x : Bool} (h : L[i]? = some x) : yes (L.take (i + 1)) = yes (L.take i) + x.toNat := by
  unfold yes
  rw [take_next h, List.count_append]
  cases x <;> rfl
theorem wd_next {L : List Bool} {i : Nat} {x : Bool} (h : L[i]? = some x) : wd (L.take (i + 1)).reverse = x.toNat + 2 * wd (L.take i).reverse := by
  rw [take_next h, List.reverse_append]; rfl
set_option maxHeartbeats 1600000 in
theorem rfyes (h : Rf o σ w b size A cap L) (hl : L.length ≤ 64) :
    Calls Try.prog 16 #[.pointer (some ⟨b, 0, none⟩)] w fun e w' => e = .returned (.int .i64 (yes L : Int)) ∧ w' = w := by
  have c1 := h.c1
  have hlc := h.lc
  have hcm := h.cm
  have hR := Lib.hid (fun (k : Nat) (x : Bool) (hx : L[k]? = some x) => h.rd hx)
  clear h
  obtain ⟨n, hn⟩ : ∃ n : Nat, L.length = n := ⟨_, rfl⟩
  rw [hn] at c1 hlc hl
  replace hn := Lib.hid hn
  go_enter Try.func16, Try.ntmps16
  go_wp2
  go_loopw [3, 4] (fun s3 s4 wr => ∃ (i : Nat), s3 = .int .i64 (yes (L.take i) : Int) ∧ s4 = .int .i64 (i : Int) ∧ i ≤ n ∧ wr = w) (fun _ s4 _ => n - (intOf s4).toNat)
  case atStart => exact ⟨0, rfl, rfl, by omega, rfl⟩
  case round =>
    obtain ⟨i, rfl, rfl, hi, rfl⟩ := hrel
    rcases Nat.lt_or_ge i n with hlt | hge
    · obtain ⟨x, hx⟩ : ∃ x, L[i]? = some x := ⟨_, List.getElem?_eq_getElem (by have := hn.out; omega)⟩
      obtain ⟨g, off, rfl, hc⟩ := hR.out i x hx
      have hnx := yes_next hx
      have hyl := yes_le (L.take i)
      rw [List.length_take] at hyl
      generalize yes (L.take i) = Y at *
      replace hnx := Lib.hid hnx
      have hY : Y ≤ 64 := by omega
      have z1 : (i : Int) < (n : Int) := by omega
      have z2 : (0 : Int) ≤ (i : Int) := by omega
      clear hyl hx
      cases x with
      | true =>
        go_wp2
        go_roundw
        case rel => exact ⟨i + 1, by rw [hnx.out]; simp, by simp, by omega, by first | rfl | trivial⟩
        case measure => simp [intOf]; omega
      | false =>
        go_wp2
        go_roundw
        case rel => exact ⟨i + 1, by rw [hnx.out]; simp, by simp, by omega, by first | rfl | trivial⟩
        case measure => simp [intOf]; omega
    · obtain rfl : i = n := by omega
      have e : L.take i = L := List.take_of_length_le (by have := hn.out; omega)
      rw [e]
      go_wp2
      go_ret
      exact ⟨rfl, rfl⟩
set_option maxHeartbeats 1600000 in
theorem rfbits (h : Rf o σ w b size A cap L) (hl : L.length ≤ 64) :
    Calls Try.prog 17 #[.pointer (some ⟨b, 0, none⟩)] w fun e w' => e = .returned (.int .u64 (wd L.reverse : Int)) ∧ w' = w := by
  have c1 := h.c1
  have hlc := h.lc
  have hcm := h.cm
  have hR := Lib.hid (fun (k : Nat) (x : Bool) (hx : L[k]? = some x) => h.rd hx)
  clear h
  obtain ⟨n, hn⟩ : ∃ n : Nat, L.length = n := ⟨_, rfl⟩
  rw [hn] at c1 hlc hl
  replace hn := Lib.hid hn
  go_enter Try.func17, Try.ntmps17
  go_wp2
  go_loopw [3, 4] (fun s3 s4 wr => ∃ (i : Nat), s3 = .int .u64 (wd (L.take i).reverse : Int) ∧ s4 = .int .i64 (i : Int) ∧ i ≤ n ∧ wr = w) (fun _ s4 _ => n - (intOf s4).toNat)
  case atStart => exact ⟨0, rfl, rfl, by omega, rfl⟩
  case round =>
    obtain ⟨i, rfl, rfl, hi, rfl⟩ := hrel
    rcases Nat.lt_or_ge i n with hlt | hge
    · obtain ⟨x, hx⟩ : ∃ x, L[i]? = some x := ⟨_, List.getElem?_eq_getElem (by have := hn.out; omega)⟩
      obtain ⟨g, off, rfl, hc⟩ := hR.out i x hx
      have hnx := wd_next hx
      have hb : wd (L.take i).reverse < 2 ^ 63 := wd_le (by rw [List.length_reverse, List.length_take]; omega)
      have hor := shl_or (wd (L.take i).reverse) true
      generalize wd (L.take i).reverse = W at *
      rw [Nat.mod_eq_of_lt (by omega)] at hor
      replace hnx := Lib.hid hnx
      obtain ⟨W1, hW1⟩ : ∃ W1 : Nat, W * 2 = W1 := ⟨_, rfl⟩
      rw [hW1] at hor
      have q1 : IntKind.u64.wrap ((W : Int) * 2) = (W1 : Int) := by rw [IntKind.wrap_u64, ← hW1]; omega
      have q2 : bits .or .u64 (W1 : Int) 1 = ((W1 + 1 : Nat) : Int) := by
        rw [show (1 : Int) = ((1 : Nat) : Int) from rfl, bits_or_u64_nat _ 1 (by omega) (by decide)]
        exact congrArg _ hor
      have z1 : (i : Int) < (n : Int) := by omega
      have z2 : (0 : Int) ≤ (i : Int) := by omega
      replace hW1 := Lib.hid hW1
      clear hx hor hb
      cases x with
      | true =>
        go_wp2
        go_roundw
        case rel => exact ⟨i + 1, by rw [hnx.out, ← hW1.out]; simp; omega, by simp, by omega, by first | rfl | trivial⟩
        case measure => simp [intOf]; omega
      | false =>
        go_wp2
        go_roundw
        case rel => exact ⟨i + 1, by rw [hnx.out, ← hW1.out]; simp; omega, by simp, by omega, by first | rfl | trivial⟩
        case measure => simp [intOf]; omega
    · obtain rfl : i = n := by omega
      have e : L.take i = L := List.take_of_length_le (by have := hn.out; omega)
      rw [e]
      go_wp2
      go_ret
      exact ⟨rfl, rfl⟩
theorem rev_at {L : List Bool} {m : Nat} (h : m < L.length) : L[L.length - 1 - m]? = some (L.reverse.getD m false) := by
  rw [List.getD, List.getElem?_reverse h, List.getElem?_eq_getElem (by omega)]; rfl
set_option maxHeartbeats 1600000 in
theorem rfat (k : Int) (v r : Bool) (h : Rf o σ w b size A cap L) (hl : L.length ≤ 64) (hv : atV L.reverse k = v) (hr : atB L.reverse k = r) :
    Calls Try.prog 15 #[.pointer (some ⟨b, 0, none⟩), .int .i64 k] w (Ret (.tuple #[.bool v, .bool r]) w) := by
  have c1 := h.c1
  have hlc := h.lc
  have hcm := h.cm
  by_cases k1 : k < 0
  · have e1 : v = false := by rw [← hv]; unfold atV; rw [if_neg (by omega)]
    have e2 : r = false := by rw [← hr]; exact decide_eq_false (by omega)
    subst e1 e2
    clear hv hr h
    go_enter Try.func15, Try.ntmps15
    go_wp2
    go_ret2
    exact ⟨rfl, 0, rfl⟩
  have k1' : decide (k < 0) = false := decide_eq_false k1
  by_cases k2 : (L.length : Int) ≤ k
  · have e1 : v = false := by rw [← hv]; unfold atV; rw [if_pos (by omega), List.getD, List.getElem?_eq_none (by rw [List.length_reverse]; omega)]; rfl
    have e2 : r = false := by rw [← hr]; exact decide_eq_false (by rw [List.length_reverse]; omega)
    subst e1 e2
    have k3 : k ≥ (L.length : Int) := k2
    clear hv hr h
    go_enter Try.func15, Try.ntmps15
    go_wp2
    go_ret2
    exact ⟨rfl, 0, rfl⟩
  · have k2' : decide ((L.length : Int) ≤ k) = false := decide_eq_false k2
    have k3' : decide (k ≥ (L.length : Int)) = false := decide_eq_false k2
    have e2 : r = true := by rw [← hr]; exact decide_eq_true (by rw [List.length_reverse]; omega)
    subst e2
    obtain ⟨m, rfl⟩ := Int.eq_ofNat_of_zero_le (a := k) (by omega)
    have hx := rev_at (L := L) (m := m) (by omega)
    have hv' : L.reverse.getD m false = v := by rw [← hv, atV_nat]
    rw [hv'] at hx
    obtain ⟨g, off, rfl, hc⟩ := h.rd hx
    obtain ⟨j, hj⟩ : ∃ j, L.length - 1 - m = j := ⟨_, rfl⟩
    rw [hj] at hc
    generalize L.length = n at *
    have z1 : IntKind.i64.wrap ((n : Int) - 1) = (n : Int) - 1 := by rw [IntKind.wrap_i64]; omega
    have z2 : IntKind.i64.wrap ((n : Int) - 1 - (m : Int)) = (j : Int) := by rw [IntKind.wrap_i64]; omega
    have z3 : (j : Int) < (n : Int) := by omega
    have z4 : (0 : Int) ≤ (j : Int) := by omega
    clear hv hr hx hv' h
    go_enter Try.func15, Try.ntmps15
    go_wp2
    go_quiet (fail)
    go_wp2
    go_ret2
    exact ⟨rfl, _, rfl⟩
end
end Go.Proofs.Ytkajiogllcopbaa
