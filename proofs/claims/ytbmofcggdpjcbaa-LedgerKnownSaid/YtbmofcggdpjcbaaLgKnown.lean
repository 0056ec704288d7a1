/- LedgerKnown: what the chapter says of times, of bounds, of the best. -/
import Derived.Test.YtbmofcggdpjcbaaLgAwake
import Derived.Test.YtbmofcggdpjcbaaLg4
namespace Go.Proofs.Ytbmofcggdpjcbaa
open Go.RowKit
set_option linter.unusedVariables false
set_option linter.unusedSimpArgs false


theorem knownI0 : LInv ([] : List Rw) := LInv.nil
theorem knownI1 : LInv ([⟨5, [98], 3⟩] : List Rw) := knownI0.earn 5 [98] 3
theorem knownI2 : LInv ([⟨5, [98], 3⟩, ⟨5, [97], 3⟩] : List Rw) := knownI1.earn 5 [97] 3
theorem knownI3 : LInv ([⟨5, [98], 3⟩, ⟨5, [97], 3⟩, ⟨6, [97], -9⟩] : List Rw) := knownI2.lose 6 [97] 9
theorem knownI4 : LInv ([⟨5, [98], 3⟩, ⟨5, [97], 3⟩, ⟨6, [97], -9⟩, ⟨7, [99], 4611686018427387898⟩] : List Rw) := knownI3.earn 7 [99] 4611686018427387898
theorem knownC0 {o : Nat → Nat} {w : World} {a : Nat} {v : Value} (h : Lg o 1 w a v ([] : List Rw)) : Calls Try.prog 10 #[.pointer (some ⟨a, 0, none⟩), .int .i64 (-1), .string ⟨#[97]⟩, .int .i64 (1)] w fun e w' => e = .returned (.int .i64 1) ∧ ∃ o' v', Step o o' 1 w w' ∧ Lg o' 1 w' a v' ([] : List Rw) :=
  learn (-1) (1) 1 [97] _ h knownI0 (by decide) (by decide) (by decide) (by rfl)
theorem knownC1 {o : Nat → Nat} {w : World} {a : Nat} {v : Value} (h : Lg o 1 w a v ([] : List Rw)) : Calls Try.prog 10 #[.pointer (some ⟨a, 0, none⟩), .int .i64 (1), .string ⟨#[97]⟩, .int .i64 (-1)] w fun e w' => e = .returned (.int .i64 1) ∧ ∃ o' v', Step o o' 1 w w' ∧ Lg o' 1 w' a v' ([] : List Rw) :=
  learn (1) (-1) 1 [97] _ h knownI0 (by decide) (by decide) (by decide) (by rfl)
theorem knownC2 {o : Nat → Nat} {w : World} {a : Nat} {v : Value} (h : Lg o 1 w a v ([] : List Rw)) : Calls Try.prog 10 #[.pointer (some ⟨a, 0, none⟩), .int .i64 (5), .string ⟨#[98]⟩, .int .i64 (3)] w fun e w' => e = .returned (.int .i64 0) ∧ ∃ o' v', Step o o' 1 w w' ∧ Lg o' 1 w' a v' ([⟨5, [98], 3⟩] : List Rw) :=
  learn (5) (3) 0 [98] _ h knownI0 (by decide) (by decide) (by decide) (by rfl)
theorem knownC3 {o : Nat → Nat} {w : World} {a : Nat} {v : Value} (h : Lg o 1 w a v ([⟨5, [98], 3⟩] : List Rw)) : Calls Try.prog 10 #[.pointer (some ⟨a, 0, none⟩), .int .i64 (5), .string ⟨#[97]⟩, .int .i64 (3)] w fun e w' => e = .returned (.int .i64 0) ∧ ∃ o' v', Step o o' 1 w w' ∧ Lg o' 1 w' a v' ([⟨5, [98], 3⟩, ⟨5, [97], 3⟩] : List Rw) :=
  learn (5) (3) 0 [97] _ h knownI1 (by decide) (by decide) (by decide) (by rfl)
theorem knownC4 {o : Nat → Nat} {w : World} {a : Nat} {v : Value} (h : Lg o 1 w a v ([⟨5, [98], 3⟩, ⟨5, [97], 3⟩] : List Rw)) : Calls Try.prog 11 #[.pointer (some ⟨a, 0, none⟩), .int .i64 (4), .string ⟨#[97]⟩, .int .i64 (1)] w fun e w' => e = .returned (.int .i64 10) ∧ ∃ o' v', Step o o' 1 w w' ∧ Lg o' 1 w' a v' ([⟨5, [98], 3⟩, ⟨5, [97], 3⟩] : List Rw) :=
  llose (4) (1) 10 [97] _ h knownI2 (by decide) (by decide) (by decide) (by rfl)
theorem knownC5 {o : Nat → Nat} {w : World} {a : Nat} {v : Value} (h : Lg o 1 w a v ([⟨5, [98], 3⟩, ⟨5, [97], 3⟩] : List Rw)) : Calls Try.prog 11 #[.pointer (some ⟨a, 0, none⟩), .int .i64 (6), .string ⟨#[97]⟩, .int .i64 (9)] w fun e w' => e = .returned (.int .i64 0) ∧ ∃ o' v', Step o o' 1 w w' ∧ Lg o' 1 w' a v' ([⟨5, [98], 3⟩, ⟨5, [97], 3⟩, ⟨6, [97], -9⟩] : List Rw) :=
  llose (6) (9) 0 [97] _ h knownI2 (by decide) (by decide) (by decide) (by rfl)
theorem knownC6 {o : Nat → Nat} {w : World} {a : Nat} {v : Value} (h : Lg o 1 w a v ([⟨5, [98], 3⟩, ⟨5, [97], 3⟩, ⟨6, [97], -9⟩] : List Rw)) : Calls Try.prog 10 #[.pointer (some ⟨a, 0, none⟩), .int .i64 (7), .string ⟨#[99]⟩, .int .i64 (4611686018427387904)] w fun e w' => e = .returned (.int .i64 8) ∧ ∃ o' v', Step o o' 1 w w' ∧ Lg o' 1 w' a v' ([⟨5, [98], 3⟩, ⟨5, [97], 3⟩, ⟨6, [97], -9⟩] : List Rw) :=
  learn (7) (4611686018427387904) 8 [99] _ h knownI3 (by decide) (by decide) (by decide) (by rfl)
theorem knownC7 {o : Nat → Nat} {w : World} {a : Nat} {v : Value} (h : Lg o 1 w a v ([⟨5, [98], 3⟩, ⟨5, [97], 3⟩, ⟨6, [97], -9⟩] : List Rw)) : Calls Try.prog 10 #[.pointer (some ⟨a, 0, none⟩), .int .i64 (7), .string ⟨#[99]⟩, .int .i64 (4611686018427387898)] w fun e w' => e = .returned (.int .i64 0) ∧ ∃ o' v', Step o o' 1 w w' ∧ Lg o' 1 w' a v' ([⟨5, [98], 3⟩, ⟨5, [97], 3⟩, ⟨6, [97], -9⟩, ⟨7, [99], 4611686018427387898⟩] : List Rw) :=
  learn (7) (4611686018427387898) 0 [99] _ h knownI3 (by decide) (by decide) (by decide) (by rfl)
theorem knownC8 {o : Nat → Nat} {w : World} {a : Nat} {v : Value} (h : Lg o 1 w a v ([⟨5, [98], 3⟩, ⟨5, [97], 3⟩, ⟨6, [97], -9⟩, ⟨7, [99], 4611686018427387898⟩] : List Rw)) : Calls Try.prog 10 #[.pointer (some ⟨a, 0, none⟩), .int .i64 (8), .string ⟨#[100]⟩, .int .i64 (1)] w fun e w' => e = .returned (.int .i64 8) ∧ ∃ o' v', Step o o' 1 w w' ∧ Lg o' 1 w' a v' ([⟨5, [98], 3⟩, ⟨5, [97], 3⟩, ⟨6, [97], -9⟩, ⟨7, [99], 4611686018427387898⟩] : List Rw) :=
  learn (8) (1) 8 [100] _ h knownI4 (by decide) (by decide) (by decide) (by rfl)
set_option maxHeartbeats 6400000 in
set_option maxRecDepth 100000 in
theorem LedgerKnown_ret (w : World) : Calls Try.prog 3 #[] w (RetB (.bool true) w) := by
  have A0 := Lib.hid (awake14_any w)
  have q0 : ∀ w', (binOp .eql 34 (.agg #[.int .i64 6, .string ⟨#[97]⟩, .int .i64 (-9)]) (.agg #[.int .i64 6, .string ⟨#[97]⟩, .int .i64 (-9)])).run Try.prog w' = .ok (.bool true) w' := fun w' => by kernel_rfl
  replace q0 := Lib.hid q0
  go_enter Try.func3, Try.ntmps3
  go_wp2_with fail
  refine (A0.out).mono ?_; rintro e b0w ⟨rfl, b0⟩
  go_wp2_with fail
  refine (lnew (fun _ => 0) 1 _).mono ?_
  rintro e w1 ⟨rfl, o1, v1, s1, h1⟩
  have F := Lib.hid (And.intro h1 (((Lw.start w).on b0).step s1 (by decide)))
  clear b0 s1 h1
  generalize b0w.heap.size = a at *
  have B0 : Hid (∀ (o' : Nat → Nat) (w' : World) (v : Value), Lg o' 1 w' a v [] → Calls Try.prog 9 #[.pointer (some ⟨a, 0, none⟩)] w' (RetB (.tuple #[.string ⟨#[]⟩, .bool false]) w')) := fun o' w' v h => lbest [] 0 h knownI0 (by simp) (by simp) (by rfl)
  go_wp2_with fail
  refine (B0.out _ _ _ F.out.1).mono ?_
  rintro e w2 ⟨rfl, b2⟩
  replace F := Lib.hid (And.intro (F.out.1.below b2) (F.out.2.on b2))
  clear B0 b2
  go_wp2_with fail
  refine (knownC0 F.out.1).mono ?_
  rintro e w3 ⟨rfl, o3, v3, s3, h3⟩
  replace F := Lib.hid (And.intro h3 (F.out.2.step s3 (by decide)))
  clear s3 h3
  go_wp2_with fail
  refine (knownC1 F.out.1).mono ?_
  rintro e w3 ⟨rfl, o3, v3, s3, h3⟩
  replace F := Lib.hid (And.intro h3 (F.out.2.step s3 (by decide)))
  clear s3 h3
  go_wp2_with fail
  refine (knownC2 F.out.1).mono ?_
  rintro e w3 ⟨rfl, o3, v3, s3, h3⟩
  replace F := Lib.hid (And.intro h3 (F.out.2.step s3 (by decide)))
  clear s3 h3
  go_wp2_with fail
  refine (knownC3 F.out.1).mono ?_
  rintro e w3 ⟨rfl, o3, v3, s3, h3⟩
  replace F := Lib.hid (And.intro h3 (F.out.2.step s3 (by decide)))
  clear s3 h3
  go_wp2_with fail
  refine (knownC4 F.out.1).mono ?_
  rintro e w3 ⟨rfl, o3, v3, s3, h3⟩
  replace F := Lib.hid (And.intro h3 (F.out.2.step s3 (by decide)))
  clear s3 h3
  go_wp2_with fail
  refine (knownC5 F.out.1).mono ?_
  rintro e w3 ⟨rfl, o3, v3, s3, h3⟩
  replace F := Lib.hid (And.intro h3 (F.out.2.step s3 (by decide)))
  clear s3 h3
  go_wp2_with fail
  refine (knownC6 F.out.1).mono ?_
  rintro e w3 ⟨rfl, o3, v3, s3, h3⟩
  replace F := Lib.hid (And.intro h3 (F.out.2.step s3 (by decide)))
  clear s3 h3
  go_wp2_with fail
  refine (knownC7 F.out.1).mono ?_
  rintro e w3 ⟨rfl, o3, v3, s3, h3⟩
  replace F := Lib.hid (And.intro h3 (F.out.2.step s3 (by decide)))
  clear s3 h3
  go_wp2_with fail
  refine (knownC8 F.out.1).mono ?_
  rintro e w3 ⟨rfl, o3, v3, s3, h3⟩
  replace F := Lib.hid (And.intro h3 (F.out.2.step s3 (by decide)))
  clear s3 h3
  have hnm : ∀ x ∈ ([⟨5, [98], 3⟩, ⟨5, [97], 3⟩, ⟨6, [97], -9⟩, ⟨7, [99], 4611686018427387898⟩] : List Rw), x.name.length ≤ maxLen := by
    intro x hx
    simp at hx
    unfold maxLen
    rcases hx with rfl | rfl | rfl | rfl <;> decide
  have B1 : Hid (∀ (o' : Nat → Nat) (w' : World) (v : Value), Lg o' 1 w' a v ([⟨5, [98], 3⟩, ⟨5, [97], 3⟩, ⟨6, [97], -9⟩, ⟨7, [99], 4611686018427387898⟩] : List Rw) → Calls Try.prog 9 #[.pointer (some ⟨a, 0, none⟩)] w' (RetB (.tuple #[.string ⟨#[99]⟩, .bool true]) w')) := fun o' w' v h => lbest [99] 4611686018427387898 h knownI4 (by decide) hnm (by decide)
  go_wp2_with fail
  refine (B1.out _ _ _ F.out.1).mono ?_
  rintro e w4 ⟨rfl, b4⟩
  replace F := Lib.hid (And.intro (F.out.1.below b4) (F.out.2.on b4))
  clear B1 b4 hnm
  have B2 : Hid (∀ (o' : Nat → Nat) (w' : World) (v : Value), Lg o' 1 w' a v ([⟨5, [98], 3⟩, ⟨5, [97], 3⟩, ⟨6, [97], -9⟩, ⟨7, [99], 4611686018427387898⟩] : List Rw) → Calls Try.prog 12 #[.pointer (some ⟨a, 0, none⟩), .string ⟨#[97]⟩] w' (RetB (.tuple #[.int .i64 3, .int .i64 9]) w')) := fun o' w' v h => lby [97] 3 9 h knownI4 (by decide) (by decide) (by decide)
  go_wp2_with fail
  refine (B2.out _ _ _ F.out.1).mono ?_
  rintro e w4 ⟨rfl, b4⟩
  replace F := Lib.hid (And.intro (F.out.1.below b4) (F.out.2.on b4))
  clear B2 b4
  have B3 : Hid (∀ (o' : Nat → Nat) (w' : World) (v : Value), Lg o' 1 w' a v ([⟨5, [98], 3⟩, ⟨5, [97], 3⟩, ⟨6, [97], -9⟩, ⟨7, [99], 4611686018427387898⟩] : List Rw) → Calls Try.prog 13 #[.pointer (some ⟨a, 0, none⟩)] w' fun e w2 => ∃ v', e = .returned v' ∧ w2.ownsRow w'.heap.size 34 3 v' 4 (cellsW ([⟨5, [98], 3⟩, ⟨5, [97], 3⟩, ⟨6, [97], -9⟩, ⟨7, [99], 4611686018427387898⟩] : List Rw)) ∧ Below w'.heap.size w' w2) := fun o' w' v h => lrows h (by decide)
  go_wp2_with fail
  refine (B3.out _ _ _ F.out.1).mono ?_
  rintro e w5 ⟨v5, rfl, hown, b5⟩
  have r5 : Row (fun _ => 0) 0 w5 34 3 v5 4 (cellsW ([⟨5, [98], 3⟩, ⟨5, [97], 3⟩, ⟨6, [97], -9⟩, ⟨7, [99], 4611686018427387898⟩] : List Rw)) → True := fun _ => trivial
  obtain ⟨g, cap, rfl, hc1, hc2⟩ : ∃ g cap, v5 = .slice (some ⟨g, 0, none⟩) 4 cap ∧ 4 ≤ cap ∧ cap ≤ 9223372036854775807 := by
    rcases hown.2 with ⟨_, h0⟩ | ⟨g, cap, cur, hv, _, _, h1, h2, _⟩
    · cases h0
    · exact ⟨g, cap, hv, h1, by unfold maxLen at h2; omega⟩
  have d0 : w5.cell? ⟨g, 6, none⟩ = some (.int .i64 6) := by rw [hown.cellAt 6 (by decide)]; rfl
  have d1 : w5.cell? ⟨g, 7, none⟩ = some (.string ⟨#[97]⟩) := by rw [hown.cellAt 7 (by decide)]; rfl
  have d2 : w5.cell? ⟨g, 8, none⟩ = some (.int .i64 (-9)) := by rw [hown.cellAt 8 (by decide)]; rfl
  replace F := Lib.hid (And.intro (F.out.1.below b5) (F.out.2.on b5))
  clear B3 b5 hown r5
  have B4 : Hid (∀ (o' : Nat → Nat) (w' : World) (v : Value), Lg o' 1 w' a v ([⟨5, [98], 3⟩, ⟨5, [97], 3⟩, ⟨6, [97], -9⟩, ⟨7, [99], 4611686018427387898⟩] : List Rw) → Calls Try.prog 14 #[.pointer (some ⟨a, 0, none⟩), .int .i64 5] w' (RetB (.int .i64 6) w')) := fun o' w' v h => ltill 5 6 h knownI4 (by decide) (by decide)
  have B5 : Hid (∀ (o' : Nat → Nat) (w' : World) (v : Value), Lg o' 1 w' a v ([⟨5, [98], 3⟩, ⟨5, [97], 3⟩, ⟨6, [97], -9⟩, ⟨7, [99], 4611686018427387898⟩] : List Rw) → Calls Try.prog 14 #[.pointer (some ⟨a, 0, none⟩), .int .i64 6] w' (RetB (.int .i64 (-3)) w')) := fun o' w' v h => ltill 6 (-3) h knownI4 (by decide) (by decide)
  replace q0 := q0.out
  go_wp2_with fail
  refine (B4.out _ _ _ F.out.1).mono ?_
  rintro e w6 ⟨rfl, b6⟩
  replace F := Lib.hid (And.intro (F.out.1.below b6) (F.out.2.on b6))
  clear B4 b6 d0 d1 d2
  go_wp2_with fail
  refine (B5.out _ _ _ F.out.1).mono ?_
  rintro e w7 ⟨rfl, b7⟩
  replace F := Lib.hid (F.out.2.on b7)
  clear B5 b7
  go_wp2
  go_ret
  exact ⟨rfl, F.out.below⟩
end Go.Proofs.Ytbmofcggdpjcbaa
