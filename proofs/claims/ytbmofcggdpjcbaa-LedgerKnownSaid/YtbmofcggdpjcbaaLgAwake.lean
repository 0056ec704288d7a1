/- Package ledger at known rows: what the statements ask first. -/
import Derived.Test.YtbmofcggdpjcbaaLg3
import Derived.Test.YtbmofcggdpjcbaaLgActs
namespace Go.Proofs.Ytbmofcggdpjcbaa
open Go.RowKit
set_option linter.unusedVariables false
set_option linter.unusedSimpArgs false

section
variable {o : Nat → Nat} {σ : Nat} {w : World} {a : Nat} {v : Value} {l : List Rw}
theorem learned_v (h : Lg o σ w a v l) {x : Int} (hx : earned l = x) : Calls Try.prog 18 #[.pointer (some ⟨a, 0, none⟩)] w fun e w' => e = .returned (.int .i64 x) ∧ w' = w := hx ▸ learned h
theorem llost_v (h : Lg o σ w a v l) {x : Int} (hx : lost l = x) : Calls Try.prog 20 #[.pointer (some ⟨a, 0, none⟩)] w fun e w' => e = .returned (.int .i64 x) ∧ w' = w := hx ▸ llost h
end
set_option maxHeartbeats 3200000 in
theorem awake14_any (w : World) : Calls Try.prog 7 #[] w (RetB (.bool true) w) := by
  have C0 := Lib.hid (lnew (fun _ => 0) 1 w)
  have C1 := Lib.hid (fun (o : Nat → Nat) (w' : World) (a : Nat) (v : Value) (h : Lg o 1 w' a v []) => (show Calls Try.prog 10 #[.pointer (some ⟨a, 0, none⟩), .int .i64 1, .string ⟨#[97]⟩, .int .i64 5] w' fun e w2 => e = .returned (.int .i64 0) ∧ ∃ o' v', Step o o' 1 w' w2 ∧ Lg o' 1 w2 a v' [⟨1, [97], 5⟩] from
    learn 1 5 0 [97] _ h LInv.nil (by simp) (by decide) (by decide) rfl))
  have I1 : LInv [⟨1, [97], 5⟩] := LInv.nil.earn 1 [97] 5
  have C2 := Lib.hid (fun (o : Nat → Nat) (w' : World) (a : Nat) (v : Value) (h : Lg o 1 w' a v [⟨1, [97], 5⟩]) => (show Calls Try.prog 11 #[.pointer (some ⟨a, 0, none⟩), .int .i64 2, .string ⟨#[97]⟩, .int .i64 3] w' fun e w2 => e = .returned (.int .i64 0) ∧ ∃ o' v', Step o o' 1 w' w2 ∧ Lg o' 1 w2 a v' [⟨1, [97], 5⟩, ⟨2, [97], -3⟩] from
    llose 2 3 0 [97] _ h I1 (by simp) (by decide) (by decide) rfl))
  have I2 : LInv [⟨1, [97], 5⟩, ⟨2, [97], -3⟩] := I1.lose 2 [97] 3
  have C3 := Lib.hid (fun (o : Nat → Nat) (w' : World) (a : Nat) (v : Value) (h : Lg o 1 w' a v [⟨1, [97], 5⟩, ⟨2, [97], -3⟩]) => ltill 2 2 h I2 (by simp) (by decide))
  have C4 := Lib.hid (fun (o : Nat → Nat) (w' : World) (a : Nat) (v : Value) (h : Lg o 1 w' a v [⟨1, [97], 5⟩, ⟨2, [97], -3⟩]) => (show Calls Try.prog 18 #[.pointer (some ⟨a, 0, none⟩)] w' fun e w2 => e = .returned (.int .i64 5) ∧ w2 = w' from learned_v h (by decide)))
  have C5 := Lib.hid (fun (o : Nat → Nat) (w' : World) (a : Nat) (v : Value) (h : Lg o 1 w' a v [⟨1, [97], 5⟩, ⟨2, [97], -3⟩]) => (show Calls Try.prog 20 #[.pointer (some ⟨a, 0, none⟩)] w' fun e w2 => e = .returned (.int .i64 3) ∧ w2 = w' from llost_v h (by decide)))
  clear I1 I2
  go_enter Try.func7, Try.ntmps7
  go_wp2_with fail
  refine C0.out.mono ?_
  rintro e w1 ⟨rfl, o1, v1, st1, h1⟩
  have F := Lib.hid (And.intro h1 ((Lw.start w).step st1 (by decide)))
  clear C0 h1 st1
  generalize w.heap.size = a at *
  go_wp2_with fail
  refine (C1.out _ _ _ _ F.out.1).mono ?_
  rintro e w2 ⟨rfl, o2, v2, st2, h2⟩
  replace F := Lib.hid (And.intro h2 (F.out.2.step st2 (by decide)))
  clear C1 h2 st2
  go_wp2_with fail
  refine (C2.out _ _ _ _ F.out.1).mono ?_
  rintro e w3 ⟨rfl, o3, v3, st3, h3⟩
  replace F := Lib.hid (And.intro h3 (F.out.2.step st3 (by decide)))
  clear C2 h3 st3
  go_wp2_with fail
  refine (C3.out _ _ _ _ F.out.1).mono ?_
  rintro e w4 ⟨rfl, b4⟩
  replace F := Lib.hid (And.intro (F.out.1.below b4) (F.out.2.on b4))
  clear C3 b4
  go_wp2_with fail
  refine (C4.out _ _ _ _ F.out.1).mono ?_
  rintro e w5 ⟨rfl, rfl⟩
  go_wp2_with fail
  refine (C5.out _ _ _ _ F.out.1).mono ?_
  rintro e w6 ⟨rfl, rfl⟩
  clear C4 C5
  go_wp2
  go_ret
  exact ⟨rfl, F.out.2.below⟩
end Go.Proofs.Ytbmofcggdpjcbaa
