/- The laws of layer 2, package surd, but SurdSays: each returns true at every argument. -/
import Derived.Test.YtdflllhepijcgaaSurd
import Derived.Test.YtdflllhepijcgaaRows
import Derived.Deep.RegionHeld3
namespace Go.Proofs.Ytdflllhepijcgaa
open Go.RowKit
set_option linter.unusedVariables false
set_option linter.unusedSimpArgs false

set_option maxHeartbeats 1000000 in
theorem SurdKnown_ret (w : World) : Calls Try.prog 3 #[] w (RetB (.bool true) w) := by
  have A := Lib.hid awake2
  have C1 := Lib.hid (sign_any 3 (-2) 9 4 0 · (by decide))
  have C2 := Lib.hid (sign_any 0 (-2) 0 4 0 · (by decide))
  have C3 := Lib.hid (sign_any 7 (-5) 2 1 (-1) · (by decide))
  have C4 := Lib.hid (sign_any 1 0 0 0 0 · (by decide))
  have C5 := Lib.hid (cmp_any 5 4 0 1 1 1 0 · (by decide) (by decide) (by decide) (by decide) (by decide))
  have C6 := Lib.hid (cmp_any 5 3 0 1 2 1 1 · (by decide) (by decide) (by decide) (by decide) (by decide))
  have C7 := Lib.hid (bound_any 4 1 1 1 true · (by decide))
  have C8 := Lib.hid (bound_any 5 1 1 1 false · (by decide))
  have C9 := Lib.hid (bound_any 0 0 1 1 true · (by decide))
  have C10 := Lib.hid (bound_any (-1) 1 1 1 false · (by decide))
  have C11 := Lib.hid (above_any 1000000001 1 1 1 false · (by decide))
  have C12 := Lib.hid (bound_any 1 1 1 0 false · (by decide))
  go_enter Try.func3, Try.ntmps3
  go_wp2_with fail
  refine (A.out _).mono ?_; rintro e g0w ⟨rfl, g0⟩
  go_wp2_with fail
  refine (C1.out _).mono ?_; rintro e g1w ⟨rfl, g1⟩
  go_wp2_with fail
  refine (C2.out _).mono ?_; rintro e g2w ⟨rfl, g2⟩
  go_wp2_with fail
  refine (C3.out _).mono ?_; rintro e g3w ⟨rfl, g3⟩
  go_wp2_with fail
  refine (C4.out _).mono ?_; rintro e g4w ⟨rfl, g4⟩
  go_wp2_with fail
  refine (C5.out _).mono ?_; rintro e g5w ⟨rfl, g5⟩
  go_wp2_with fail
  refine (C6.out _).mono ?_; rintro e g6w ⟨rfl, g6⟩
  go_wp2_with fail
  refine (C7.out _).mono ?_; rintro e g7w ⟨rfl, g7⟩
  go_wp2_with fail
  refine (C8.out _).mono ?_; rintro e g8w ⟨rfl, g8⟩
  go_wp2_with fail
  refine (C9.out _).mono ?_; rintro e g9w ⟨rfl, g9⟩
  go_wp2_with fail
  refine (C10.out _).mono ?_; rintro e g10w ⟨rfl, g10⟩
  go_wp2_with fail
  refine (C11.out _).mono ?_; rintro e g11w ⟨rfl, g11⟩
  go_wp2_with fail
  refine (C12.out _).mono ?_; rintro e g12w ⟨rfl, g12⟩
  go_wp2
  go_ret
  exact ⟨rfl, below_on (below_on (below_on (below_on (below_on (below_on (below_on (below_on (below_on (below_on (below_on (below_on g0 g1) g2) g3) g4) g5) g6) g7) g8) g9) g10) g11) g12⟩

/-- The four numbers of a surd that lies in a block. -/
def Four (W : World) (b : Nat) (A B P Q : Int) : Prop :=
  W.cell? ⟨b, 0, none⟩ = some (.int .i64 A) ∧ W.cell? ⟨b, 1, none⟩ = some (.int .i64 B) ∧ W.cell? ⟨b, 2, none⟩ = some (.int .i64 P) ∧ W.cell? ⟨b, 3, none⟩ = some (.int .i64 Q)
theorem Four.on {W W' : World} {b : Nat} {A B P Q : Int} (h : Four W b A B P Q) (k : Below W.heap.size W W') (hb : b < W.heap.size) : Four W' b A B P Q :=
  ⟨(k.cell (p := ⟨b, 0, none⟩) hb).trans h.1, (k.cell (p := ⟨b, 1, none⟩) hb).trans h.2.1, (k.cell (p := ⟨b, 2, none⟩) hb).trans h.2.2.1, (k.cell (p := ⟨b, 3, none⟩) hb).trans h.2.2.2⟩

def Held3 (wx W : World) (b1 : Nat) (A B P Q : Int) (b2 : Nat) (A2 B2 P2 Q2 : Int) (b3 : Nat) (A3 B3 P3 Q3 : Int) : Prop :=
  Below wx.heap.size wx W ∧ Four W b1 A B P Q ∧ Four W b2 A2 B2 P2 Q2 ∧ Four W b3 A3 B3 P3 Q3
theorem held3_on {wx W W' : World} {b1 b2 b3 : Nat} {A B P Q A2 B2 P2 Q2 A3 B3 P3 Q3 : Int} (h : Held3 wx W b1 A B P Q b2 A2 B2 P2 Q2 b3 A3 B3 P3 Q3) (k : Below W.heap.size W W')
    (h1 : b1 < wx.heap.size) (h2 : b2 < wx.heap.size) (h3 : b3 < wx.heap.size) : Held3 wx W' b1 A B P Q b2 A2 B2 P2 Q2 b3 A3 B3 P3 Q3 := by
  have s := h.1.size
  exact ⟨below_on h.1 k, h.2.1.on k (by omega), h.2.2.1.on k (by omega), h.2.2.2.on k (by omega)⟩

end Go.Proofs.Ytdflllhepijcgaa
