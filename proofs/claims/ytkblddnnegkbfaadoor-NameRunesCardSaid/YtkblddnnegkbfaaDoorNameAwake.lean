/- What the document tells of a key: the laws' first question. -/
import Derived.Test.YtkblddnnegkbfaaDoorName2
import Derived.Test.YtkblddnnegkbfaaDoorName8
namespace Go.Proofs.YtkblddnnegkbfaaDoor
open Go.RowKit Go.Lib Go.PlainAid
set_option linter.unusedVariables false
set_option linter.unusedSimpArgs false

theorem retB_val {v v' : Value} {w : World} {e : Ending} {w' : World} (h : RetB v w e w') (hv : v = v') : RetB v' w e w' := hv ▸ h

theorem reads_two (w : World) (e : TypeId) (x y : ByteArray) : ReadsS (w.alloc (.cells #[.string x, .string y] e)) (some ⟨w.heap.size, 0, none⟩) [x, y] := by
  intro k hk
  refine ⟨w.heap.size, 0, rfl, ?_⟩
  match k, hk with
  | 0, _ => simp
  | 1, _ => simp

set_option maxHeartbeats 1600000 in
set_option maxRecDepth 1000000 in
theorem awake_any (w : World) (hL : Ltr w) : Calls Tryd.prog 9 #[] w (RetB (.bool true) w) := by
  have CF : Calls Tryd.prog 11 #[.string ⟨#[97, 61, 49, 32, 98, 61, 50]⟩, .string ⟨#[98]⟩] w (RetB (.tuple #[.string ⟨#[50]⟩, .bool true]) w) := (field_any _ _ w (by decide)).mono fun e w' h => retB_val h (by kernel_rfl)
  have CG : ∀ w', Ltr w' → Calls Tryd.prog 12 #[.string ⟨#[195, 169, 95, 49]⟩] w' (RetB (.bool true) w') := fun w' h => (good_any _ w' (by decide) h).mono fun e w' h => retB_val h (by kernel_rfl)
  have CN : ∀ w', Calls Tryd.prog 13 #[.string ⟨#[195, 169]⟩] w' (RetB (.int .i64 1) w') := fun w' => (len_any _ w' (by decide)).mono fun e w' h => retB_val h (by kernel_rfl)
  have CW : ∀ w', Calls Tryd.prog 14 #[.string ⟨#[32, 97, 9, 98, 32]⟩] w' (fun e w2 => ∃ A c, e = .returned (.slice A 2 c) ∧ ReadsS w2 A [⟨#[97]⟩, ⟨#[98]⟩] ∧ Below w'.heap.size w' w2) := fun w' => (words_any _ w' (by decide)).mono fun e w2 h => by
    have hw : wordsB ⟨#[32, 97, 9, 98, 32]⟩ = [⟨#[97]⟩, ⟨#[98]⟩] := by kernel_rfl
    rw [hw] at h
    exact h
  have CT : ∀ (A B : Option Addr) (c d : Nat) (w' : World), ReadsS w' A [⟨#[97]⟩, ⟨#[98]⟩] → ReadsS w' B [⟨#[97]⟩, ⟨#[98]⟩] → Calls Tryd.prog 19 #[.slice A 2 c, .slice B 2 d] w' (Ret (.bool true) w') := fun A B c d w' h1 h2 => texts_same A B c d [⟨#[97]⟩, ⟨#[98]⟩] w' (by decide) h1 h2
  replace CF := Lib.hid CF
  replace CG := Lib.hid CG
  replace CN := Lib.hid CN
  replace CW := Lib.hid CW
  replace CT := Lib.hid CT
  replace hL := Lib.hid hL
  go_enter Tryd.func9, Tryd.ntmps9
  go_wp2_with fail
  refine CF.out.mono ?_; rintro e fw ⟨rfl, f⟩
  go_wp2_with fail
  refine (CG.out _ (hL.out.below f)).mono ?_; rintro e gw ⟨rfl, g⟩
  go_wp2_with fail
  refine (CN.out _).mono ?_; rintro e lw ⟨rfl, l⟩
  go_wp2_with fail
  refine (CW.out _).mono ?_; rintro e ww ⟨A, c, rfl, hrd, wb⟩
  replace hrd := Lib.hid hrd
  go_wp2_with fail
  refine (CT.out _ _ _ _ _ (hrd.out.below ((Below.refl _ _).alloc (Nat.le_refl _) _)) (reads_two ww _ _ _)).mono ?_; rintro e w' ⟨rfl, q, rfl⟩
  go_wp2
  go_ret
  exact ⟨rfl, below_dN ((below_on (below_on (below_on f g) l) wb).alloc (below_on (below_on (below_on f g) l) wb).size _) q⟩
end Go.Proofs.YtkblddnnegkbfaaDoor
