/- What the statements of layer 13 ask first: shares, awake. -/
import Derived.Test.YtkjgpidiompmlaaElB
namespace Go.Proofs.Ytkjgpidiompmlaa
open Go.RowKit
open Go.Lib hiding intOf
set_option linter.unusedVariables false
set_option linter.unusedSimpArgs false

theorem ReadsI.on {w w' : World} {A : Option Addr} {zs : List Int} (h : ReadsI w A zs) (hb : Below w.heap.size w w') : ReadsI w' A zs := fun k hk => by
  obtain ⟨b, off, rfl, c⟩ := h k hk
  exact ⟨b, off, rfl, by rw [hb.cell (p := ⟨b, off + k, none⟩) (cell_lt c)]; exact c⟩
set_option maxHeartbeats 1600000 in
theorem shares_any (A1 A2 : Option Addr) (c1 c2 : Nat) (l : List Int) (n : Nat) (w : World) (hl : n ≤ 1000000) (hn : l.length = n) (h1 : ReadsI w A1 l) (h2 : ReadsI w A2 l) (k1 : n ≤ c1) (k2 : n ≤ c2) :
    Calls Try.prog 13 #[.slice A1 n c1, .slice A2 n c2] w (Ret (.bool true) w) := by
  replace h1 := Lib.hid h1
  replace h2 := Lib.hid h2
  replace hn := Lib.hid hn
  have e5 : ((n : Int) != (n : Int)) = false := by simp
  go_enter Try.func13, Try.ntmps13
  go_wp2
  clear e5
  go_loopw [5] (fun st wr => ∃ (j : Nat) (k : Nat), st = .int .i64 (j : Int) ∧ j ≤ n ∧ wr = w.drewN k) (fun st _ => n - (intOf st).toNat)
  case atStart => exact ⟨0, 0, rfl, by omega, rfl⟩
  case round =>
    obtain ⟨j, k, rfl, hj, rfl⟩ := hrel
    rcases Nat.lt_or_ge j n with hlt | hge
    · obtain ⟨g, o, rfl, d0⟩ := h1.out j (by rw [hn.out]; exact hlt)
      obtain ⟨g', o', rfl, y0⟩ := h2.out j (by rw [hn.out]; exact hlt)
      generalize l.getD j 0 = x at *
      have q1 : (j : Int) < (n : Int) := by omega
      have q2 : (0 : Int) ≤ (j : Int) := by omega
      have q3 : (x != x) = false := by simp
      go_wp2
      go_quiet (fail)
      go_wp2
      go_roundw
      case rel => exact ⟨j + 1, _, by simp, by omega, rfl⟩
      case measure => simp [intOf]; omega
    · obtain rfl : j = n := by omega
      go_wp2
      go_ret
      exact ⟨rfl, _, rfl⟩
/-- Springs in a new block. -/
theorem rdSp_new (w : World) (ty : TypeId) (l : List Sp) (cs : Array Value) (h : cs = (cellsSp l).toArray) : RdSp (w.alloc (.cells cs ty)) (some ⟨w.heap.size, 0, none⟩) l := by
  have key : ∀ k, (w.alloc (.cells cs ty)).cell? ⟨w.heap.size, k, none⟩ = cs[k]? := fun k => by unfold World.cell?; rw [heap_alloc_new]; rfl
  intro k x hx
  obtain ⟨g0, g1, g2⟩ := cellsSp_get l k x hx
  refine ⟨w.heap.size, 0, rfl, ?_, ?_, ?_⟩
  · rw [Nat.zero_add, key, h]; simpa using g0
  · rw [Nat.zero_add, key, h]; simpa using g1
  · rw [Nat.zero_add, key, h]; simpa using g2
theorem ints_new (w : World) (ty : TypeId) (l : List Int) (cs : Array Value) (h : cs = (l.map (Value.int .i64)).toArray) : ReadsI (w.alloc (.cells cs ty)) (some ⟨w.heap.size, 0, none⟩) l := by
  have key : ∀ k, (w.alloc (.cells cs ty)).cell? ⟨w.heap.size, k, none⟩ = cs[k]? := fun k => by unfold World.cell?; rw [heap_alloc_new]; rfl
  intro k hk
  refine ⟨w.heap.size, 0, rfl, ?_⟩
  rw [Nat.zero_add, key, h, List.getD]
  simp [hk]
/-- Press at a list just built. -/
theorem press_new (l : List Sp) (n : Nat) (room e : Int) (xs : List Int) (cs : Array Value) (hn : l.length = n) (hn2 : n ≤ 1000) (hc : cs = (cellsSp l).toArray) (hr : fitB room = true) (h : PressR room l e xs) (w' : World) (B : Nat) (hB : w'.heap.size = B) :
    Calls Try.prog 10 #[.slice (some ⟨B, 0, none⟩) n n, .int .i64 room] (w'.alloc (.cells cs 28)) (fun en w2 => ∃ A' c, en = .returned (.tuple #[.slice A' xs.length c, .int .i64 e]) ∧ xs.length ≤ c ∧ c ≤ 9223372036854775807 ∧ ReadsI w2 A' xs ∧ Below w'.heap.size w' w2) := by
  subst hB
  subst hn
  refine (epress_b _ l.length l room e xs _ (by omega) (Nat.le_refl _) (rdSp_new w' _ l cs hc) hr h).mono ?_
  rintro en w2 ⟨A', c, h1, h2, h3, h4, h5⟩
  exact ⟨A', c, h1, h2, h3, h4, below_on ((Below.refl _ _).alloc (Nat.le_refl _) _) h5⟩
theorem two_press : PressR 16 [⟨10, 0, 1⟩, ⟨10, 0, 3⟩] 0 [9, 7] := by
  have h : Pressed 16 [⟨10, 0, 1⟩, ⟨10, 0, 3⟩] 4 4 := ⟨by decide, by decide, by decide⟩
  have := PressR.part (room := 16) (l := [⟨10, 0, 1⟩, ⟨10, 0, 3⟩]) (by decide) (by decide) (by decide) h
  have e : ([⟨10, 0, 1⟩, ⟨10, 0, 3⟩] : List Sp).map (shareZ 4 4) = [9, 7] := by decide
  rw [e] at this
  exact this
set_option maxHeartbeats 1600000 in
set_option maxRecDepth 100000 in
theorem awake13_any (w : World) : Calls Try.prog 9 #[] w (RetB (.bool true) w) := by
  have C1 := Lib.hid (press_new [⟨10, 0, 1⟩, ⟨10, 0, 3⟩] 2 16 0 [9, 7] #[.int .i64 10, .int .i64 0, .int .i64 1, .int .i64 10, .int .i64 0, .int .i64 3] rfl (by decide) rfl (by decide) two_press)
  have C2 : Hid (∀ (A' : Option Addr) (c : Nat) (w' : World) (B : Nat), w'.heap.size = B → 2 ≤ c → ReadsI w' A' [9, 7] → Calls Try.prog 13 #[.slice A' 2 c, .slice (some ⟨B, 0, none⟩) 2 2] (w'.alloc (.cells #[.int .i64 9, .int .i64 7] 2)) (Ret (.bool true) (w'.alloc (.cells #[.int .i64 9, .int .i64 7] 2)))) := fun A' c w' B hB h1 h2 => by
    subst hB
    exact shares_any A' _ c 2 [9, 7] 2 _ (by decide) rfl (h2.on ((Below.refl _ _).alloc (Nat.le_refl _) _)) (ints_new w' _ [9, 7] _ rfl) h1 (by decide)
  go_enter Try.func9, Try.ntmps9
  go_wp2_with fail
  refine (C1.out w _ rfl).mono ?_; rintro e w1 ⟨A', c, rfl, h1, h2, h3, b1⟩
  have C3 := Lib.hid (C2.out A' c w1 _ rfl h1 h3)
  replace b1 := Lib.hid b1
  clear C1 C2 h3
  go_wp2_with fail
  refine C3.out.mono ?_; rintro e w2 ⟨rfl, q, rfl⟩
  clear C3
  go_wp2
  go_ret
  exact ⟨rfl, by have s0 := b1.out.size; (try simp only [World.heap_drewN, World.size_alloc] at s0); repeat (first | exact Below.refl _ _ | exact b1.out | refine Below.trans ?_ (Below.mono b1.out (by first | omega | (simp; done) | (simp; omega))) | refine Below.setCell ?_ (by first | omega | (simp; done) | (simp; omega)) _ | refine below_dN ?_ _ | refine Below.drew ?_ | refine Below.alloc ?_ (by first | omega | (simp; done) | (simp; omega)) _)⟩
end Go.Proofs.Ytkjgpidiompmlaa
