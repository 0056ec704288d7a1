/- A slice of bools as an argument; what the statements ask first; RingKnown. -/
import Derived.Test.YtkajiogllcopbaaReads
import Derived.Test.YtkajiogllcopbaaRgOps
import Derived.Deep.Slices
namespace Go.Proofs.Ytkajiogllcopbaa
open Go.RowKit Go.ChangeShapes Go.WideShapes Go.ChangeAt Go.Deep
set_option linter.unusedVariables false
set_option linter.unusedSimpArgs false

/-- The cells at A hold these bools. -/
def RdB (w : World) (A : Option Addr) (l : List Bool) : Prop :=
  ∀ k x, l[k]? = some x → ∃ b off, A = some ⟨b, off, none⟩ ∧ w.cell? ⟨b, off + k, none⟩ = some (.bool x)
theorem Try.cellsB : Try.prog.cellsOf 4 = 1 := by kernel_rfl
section
variable {H : Type} {enc : TypeId × Value → H}
theorem open_bools {W : World} {v : Value} {d : DataW H} {p : List MemPlace} {r : Reach} {b0 : Nat} (hval : Value.okWide Try.prog W r b0 33 v) (h : DataW.Trod enc Try.prog W 0 (fun _ => true) true 33 v d p) :
    ∃ (A : Option Addr) (c : Nat) (l : List Bool), v = .slice A l.length c ∧ l.length ≤ c ∧ c ≤ 9223372036854775807 ∧ RdB W A l := by
  obtain ⟨a0, len, cap, rfl⟩ := okWide_slice Try.underlying33 hval
  obtain ⟨fuel, hf⟩ := h
  rcases open_slice Try.underlying33 hf with ⟨hcs, hx⟩ | ⟨a, len', cap', m, n, D, Pl, hcs, _, hl, hm, hmm, _, hx⟩
  · simp [Value.cells] at hcs
    obtain ⟨rfl, rfl, rfl⟩ := hcs
    exact ⟨none, 0, [], rfl, by simp, by decide, fun k x hk => by simp at hk⟩
  · simp [Value.cells] at hcs
    obtain ⟨rfl, rfl, rfl⟩ := hcs
    simp only [if_true] at hmm
    subst hmm
    unfold maxLen at hm
    have each : ∀ i, i < m → ∃ q : Bool, W.cell? (a.add i) = some (.bool q) := by
      intro i hi
      obtain ⟨cs', h1, h2⟩ := hx i hi
      rw [Try.cellsB] at h1
      obtain ⟨b, rfl, _⟩ := DataW.trod_bool Try.underlying4 h2
      have := cell_of_cells?_one h1
      exact ⟨b, by simpa using this⟩
    obtain ⟨q, hq⟩ := choose_lt each
    refine ⟨some a, m, (List.range len).map q, by simp, by simp; omega, by omega, fun k x hk => ?_⟩
    have hkl : k < len := by have := (List.getElem?_eq_some_iff.1 hk).1; simpa using this
    rw [List.getElem?_map, List.getElem?_range hkl] at hk
    simp at hk
    subst hk
    obtain ⟨b, off, spot⟩ := a
    have hspot : spot = none := by simpa [Addr.add] using World.cell?_spot (hq 0 (by omega))
    subst hspot
    have hh := hq k (by omega)
    simp only [addr_add_plain] at hh
    exact ⟨b, off, rfl, hh⟩
end
set_option maxHeartbeats 3200000 in
set_option maxRecDepth 100000 in
theorem awake_any (w : World) : Calls Try.prog 7 #[] w (RetB (.bool true) w) := by
  go_enter Try.func7, Try.ntmps7
  have C := Lib.hid (rnew (fun _ => 0) 1 w 3 (by decide) (by decide))
  go_wp2_with fail
  refine C.out.mono ?_
  rintro e w1 ⟨rfl, o, st, h1⟩
  have l1 := (Lw.start w).step st (by decide)
  clear C st
  have C := Lib.hid (radd_any true [true] h1 rfl)
  go_wp2_with fail
  refine C.out.mono ?_
  rintro e w2 ⟨rfl, st, h2⟩
  have l2 := l1.step st (by decide)
  clear C st h1 l1
  have C := Lib.hid (radd_any false [false, true] h2 rfl)
  go_wp2_with fail
  refine C.out.mono ?_
  rintro e w3 ⟨rfl, st, h3⟩
  have l3 := l2.step st (by decide)
  clear C st h2 l2
  have C := Lib.hid (radd_any true [true, false, true] h3 rfl)
  go_wp2_with fail
  refine C.out.mono ?_
  rintro e w4 ⟨rfl, st, h4⟩
  have l4 := l3.step st (by decide)
  clear C st h3 l3
  have C := Lib.hid (rbits h4)
  go_wp2_with fail
  refine C.out.mono ?_
  rintro e w5 ⟨rfl, rfl⟩
  clear C
  have q1 : (((wd [true, false, true] : Nat) : Int) == 5) = true := rfl
  have C := Lib.hid (ryes h4)
  go_wp2_with fail
  refine C.out.mono ?_
  rintro e w5 ⟨rfl, rfl⟩
  clear C
  have q2 : (((yes [true, false, true] : Nat) : Int) == 2) = true := rfl
  have C := Lib.hid (rlen h4)
  go_wp2_with fail
  refine C.out.mono ?_
  rintro e w5 ⟨rfl, rfl⟩
  have L := Lib.hid l4.below
  clear C l4 h4
  go_wp2
  go_ret
  exact ⟨rfl, L.out⟩
theorem rep_next (n i : Nat) (b : Bool) (h : i < n) : radd n (List.replicate i b) b = List.replicate (i + 1) b := by
  unfold radd
  rw [← List.replicate_succ, List.take_replicate, Nat.min_eq_right (by omega)]
set_option maxHeartbeats 6400000 in
set_option maxRecDepth 100000 in
theorem RingKnown_ret (w : World) : Calls Try.prog 3 #[] w (RetB (.bool true) w) := by
  have C0 := Lib.hid (awake_any w)
  go_enter Try.func3, Try.ntmps3
  go_wp2_with fail
  refine C0.out.mono ?_
  rintro e w0 ⟨rfl, b0⟩
  have l0 := (Lw.start w).on b0
  clear C0 b0
  have C1 := Lib.hid (rnew_bad w0 0 (by decide))
  go_wp2_with fail
  refine C1.out.mono ?_
  rintro e w1 ⟨rfl, rfl⟩
  clear C1
  have C1 := Lib.hid (rnew_bad w1 65 (by decide))
  go_wp2_with fail
  refine C1.out.mono ?_
  rintro e w1 ⟨rfl, rfl⟩
  clear C1
  have C := Lib.hid (rnew (fun _ => 0) 1 w1 64 (by decide) (by decide))
  go_wp2_with fail
  refine C.out.mono ?_
  rintro e w2 ⟨rfl, o, st, h1⟩
  have l1 := l0.step st (by decide)
  clear C st l0
  generalize w1.heap.size = a at *
  have F := Lib.hid (And.intro h1 l1)
  clear h1 l1
  go_wp2
  go_loopw [7] (fun st wr => ∃ (i : Nat), st = .int .i64 (i : Int) ∧ i ≤ 64 ∧ Rg o 1 wr a 64 (List.replicate i true) ∧ Lw w o wr) (fun st _ => 64 - (intOf st).toNat)
  case atStart => exact ⟨0, rfl, by omega, F.out.1, F.out.2⟩
  case round =>
    obtain ⟨i, rfl, hi, g, lw⟩ := hrel
    clear F
    rcases Nat.lt_or_ge i 64 with hlt | hge
    · have hlt' : (i : Int) < 64 := by omega
      have C := Lib.hid (radd_any true _ g (rep_next 64 i true hlt))
      replace lw := Lib.hid lw
      clear g
      go_wp2_with fail
      refine C.out.mono ?_
      rintro e w3 ⟨rfl, st, g⟩
      have K := Lib.hid (And.intro g (lw.out.step st (by decide)))
      clear g st C lw
      go_wp2
      go_roundw
      case rel => exact ⟨i + 1, by simp, by omega, K.out.1, K.out.2⟩
      case measure => simp [intOf]; omega
    · obtain rfl : i = 64 := by omega
      have C := Lib.hid (rbits g)
      have F := Lib.hid (And.intro g lw)
      clear g lw
      go_wp2_with fail
      refine C.out.mono ?_
      rintro e w3 ⟨rfl, rfl⟩
      clear C
      have C := Lib.hid (radd_any false (false :: List.replicate 63 true) F.out.1 rfl)
      go_wp2_with fail
      refine C.out.mono ?_
      rintro e w4 ⟨rfl, st, g⟩
      have l4 := F.out.2.step st (by decide)
      clear C F st
      have q1 : (((wd (List.replicate 64 true) : Nat) : Int) == 18446744073709551615) = true := by decide
      have q2 : (((wd (false :: List.replicate 63 true) : Nat) : Int) == 18446744073709551614) = true := by decide
      have q3 : (((yes (false :: List.replicate 63 true) : Nat) : Int) == 63) = true := by decide
      have C := Lib.hid (rat 0 false true g rfl rfl)
      go_wp2_with fail
      refine C.out.mono ?_
      rintro e w5 ⟨rfl, rfl⟩
      clear C
      have C := Lib.hid (rat 64 false false g rfl rfl)
      go_wp2_with fail
      refine C.out.mono ?_
      rintro e w5 ⟨rfl, rfl⟩
      clear C
      have C := Lib.hid (rat (-1) false false g rfl rfl)
      go_wp2_with fail
      refine C.out.mono ?_
      rintro e w5 ⟨rfl, rfl⟩
      clear C
      have C := Lib.hid (rbits g)
      go_wp2_with fail
      refine C.out.mono ?_
      rintro e w5 ⟨rfl, rfl⟩
      clear C
      have C := Lib.hid (ryes g)
      go_wp2_with fail
      refine C.out.mono ?_
      rintro e w5 ⟨rfl, rfl⟩
      clear C
      have C := Lib.hid (rlen g)
      go_wp2_with fail
      refine C.out.mono ?_
      rintro e w5 ⟨rfl, rfl⟩
      have L := Lib.hid l4.below
      clear C l4 g
      go_wp2
      go_ret
      exact ⟨rfl, L.out⟩
end Go.Proofs.Ytkajiogllcopbaa
