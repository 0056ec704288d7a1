/- TraceKnown: what chapter 9 says of what may not be, of who is aborted. (Written by gentknown.py.) -/
import Derived.Test.YtcendklbnogmbaaDoorTrAwake
namespace Go.Proofs.YtcendklbnogmbaaDoor
open Go.RowKit Go.Lib
set_option linter.unusedVariables false
set_option linter.unusedSimpArgs false

set_option maxHeartbeats 6400000 in
set_option maxRecDepth 100000 in
theorem TraceKnown_ret (w : World) (hL : Ltr w) : Calls Tryd.prog 3 #[] w (RetB (.bool true) w) := by
  have A0 := Lib.hid (awake9_any w hL)
  have C2 := Lib.hid two_ex
  have Z0 : Hid (∀ (B X : Nat) w', Below w.heap.size w w' → RdJ w' (some ⟨B, 0, none⟩) [jT1, jT2] → RdT w' (some ⟨X, 0, none⟩) [0, 1, 1] → Calls Tryd.prog 9 #[.slice (some ⟨B, 0, none⟩) 2 2, .slice (some ⟨X, 0, none⟩) 3 3, .int .i64 1] w' (RetB (.tuple #[.int .i64 3, .bool true]) w')) := fun B X w' hb h1 h2 => two_doneAt (t := [0, 1, 1]) (n := 3) (hL.below hb) h1 h2 rfl (by decide) (by decide) (by kernel_rfl) (by kernel_rfl)
  have Z1 : Hid (∀ (B X : Nat) w', Below w.heap.size w w' → RdJ w' (some ⟨B, 0, none⟩) [jT1, jT2] → RdT w' (some ⟨X, 0, none⟩) [0, 1] → Calls Tryd.prog 9 #[.slice (some ⟨B, 0, none⟩) 2 2, .slice (some ⟨X, 0, none⟩) 2 2, .int .i64 1] w' (RetB (.tuple #[.int .i64 0, .bool false]) w')) := fun B X w' hb h1 h2 => two_doneAt (t := [0, 1]) (n := 2) (hL.below hb) h1 h2 rfl (by decide) (by decide) (by kernel_rfl) (by kernel_rfl)
  have Z2 : Hid (∀ (B X : Nat) w', Below w.heap.size w w' → RdJ w' (some ⟨B, 0, none⟩) [jT1, jT2] → RdT w' (some ⟨X, 0, none⟩) [1] → Calls Tryd.prog 10 #[.slice (some ⟨B, 0, none⟩) 2 2, .slice (some ⟨X, 0, none⟩) 1 1] w' (RetB (.bool false) w')) := fun B X w' hb h1 h2 => two_good (t := [1]) (n := 1) (hL.below hb) h1 h2 rfl (by decide) (by decide) (by kernel_rfl)
  have Z3 : Hid (∀ (B X : Nat) w', Below w.heap.size w w' → RdJ w' (some ⟨B, 0, none⟩) [jT1, jT2] → RdT w' (some ⟨X, 0, none⟩) [0, 0, 0] → Calls Tryd.prog 10 #[.slice (some ⟨B, 0, none⟩) 2 2, .slice (some ⟨X, 0, none⟩) 3 3] w' (RetB (.bool false) w')) := fun B X w' hb h1 h2 => two_good (t := [0, 0, 0]) (n := 3) (hL.below hb) h1 h2 rfl (by decide) (by decide) (by kernel_rfl)
  have Z4 : Hid (∀ (B X : Nat) w', Below w.heap.size w w' → RdJ w' (some ⟨B, 0, none⟩) [jT1, jT2] → RdT w' (some ⟨X, 0, none⟩) [-1, -1, -1, -1, 0] → Calls Tryd.prog 10 #[.slice (some ⟨B, 0, none⟩) 2 2, .slice (some ⟨X, 0, none⟩) 5 5] w' (RetB (.bool false) w')) := fun B X w' hb h1 h2 => two_good (t := [-1, -1, -1, -1, 0]) (n := 5) (hL.below hb) h1 h2 rfl (by decide) (by decide) (by kernel_rfl)
  have Z5 : Hid (∀ (B X : Nat) w', Below w.heap.size w w' → RdJ w' (some ⟨B, 0, none⟩) [jT1, jT2] → RdT w' (some ⟨X, 0, none⟩) [2] → Calls Tryd.prog 10 #[.slice (some ⟨B, 0, none⟩) 2 2, .slice (some ⟨X, 0, none⟩) 1 1] w' (RetB (.bool false) w')) := fun B X w' hb h1 h2 => two_good (t := [2]) (n := 1) (hL.below hb) h1 h2 rfl (by decide) (by decide) (by kernel_rfl)
  have Z6 : Hid (∀ (B X : Nat) w', Below w.heap.size w w' → RdJ w' (some ⟨B, 0, none⟩) [jT1, jT2] → RdT w' (some ⟨X, 0, none⟩) [-2] → Calls Tryd.prog 10 #[.slice (some ⟨B, 0, none⟩) 2 2, .slice (some ⟨X, 0, none⟩) 1 1] w' (RetB (.bool false) w')) := fun B X w' hb h1 h2 => two_good (t := [-2]) (n := 1) (hL.below hb) h1 h2 rfl (by decide) (by decide) (by kernel_rfl)
  have Z7 : Hid (∀ (B X : Nat) w', Below w.heap.size w w' → RdJ w' (some ⟨B, 0, none⟩) [jT1, jT2] → RdT w' (some ⟨X, 0, none⟩) [0, 1, 1] → Calls Tryd.prog 11 #[.slice (some ⟨B, 0, none⟩) 2 2, .slice (some ⟨X, 0, none⟩) 3 3, .int .i64 1] w' (RetB (.bool false) w')) := fun B X w' hb h1 h2 => two_metBy (t := [0, 1, 1]) (n := 3) (hL.below hb) h1 h2 rfl (by decide) (by decide) (by kernel_rfl)
  have Z8 : Hid (∀ (B X : Nat) w', Below w.heap.size w w' → RdJ w' (some ⟨B, 0, none⟩) [jT1, jT2] → RdT w' (some ⟨X, 0, none⟩) [0, 1, 1] → Calls Tryd.prog 10 #[.slice (some ⟨B, 0, none⟩) 2 2, .slice (some ⟨X, 0, none⟩) 3 3] w' (RetB (.bool true) w')) := fun B X w' hb h1 h2 => two_good (t := [0, 1, 1]) (n := 3) (hL.below hb) h1 h2 rfl (by decide) (by decide) (by kernel_rfl)
  have Z9 : Hid (∀ (X : Nat) w', RdT w' (some ⟨X, 0, none⟩) [0, 1, -1, 0, 0, 1] → Calls Tryd.prog 12 #[.slice (some ⟨X, 0, none⟩) 6 6] w' (Ret (.int .i64 2) w')) := fun X w' h2 => switches_n (t := [0, 1, -1, 0, 0, 1]) (n := 6) h2 rfl (by decide) (by decide) (by kernel_rfl)
  have Z10 : Hid (∀ (X : Nat) w', RdT w' (some ⟨X, 0, none⟩) [1, 2] → Calls Tryd.prog 13 #[.slice (some ⟨X, 0, none⟩) 2 2, .int .i64 (-1)] w' (fun e w2 => ∃ B, e = .returned (.slice (some ⟨B, 0, none⟩) 0 0) ∧ RdT w2 (some ⟨B, 0, none⟩) [] ∧ Below w'.heap.size w' w2)) := fun X w' h2 => (cut_n (t := [1, 2]) (n := 2) (q := 0) h2 rfl (by decide) (by decide) (by decide) (by kernel_rfl)).mono fun e w2 h => ⟨_, h.1, h.2.1, h.2.2⟩
  have Z11 : Hid (∀ (X : Nat) w', RdT w' (some ⟨X, 0, none⟩) [1, 2] → Calls Tryd.prog 13 #[.slice (some ⟨X, 0, none⟩) 2 2, .int .i64 (1)] w' (fun e w2 => ∃ B, e = .returned (.slice (some ⟨B, 0, none⟩) 1 1) ∧ RdT w2 (some ⟨B, 0, none⟩) [1] ∧ Below w'.heap.size w' w2)) := fun X w' h2 => (cut_n (t := [1, 2]) (n := 2) (q := 1) h2 rfl (by decide) (by decide) (by decide) (by kernel_rfl)).mono fun e w2 h => ⟨_, h.1, h.2.1, h.2.2⟩
  have Z13 : Hid (∀ (X : Nat) w', RdT w' (some ⟨X, 0, none⟩) [1, 2] → Calls Tryd.prog 13 #[.slice (some ⟨X, 0, none⟩) 2 2, .int .i64 (9)] w' (fun e w2 => ∃ B, e = .returned (.slice (some ⟨B, 0, none⟩) 2 2) ∧ RdT w2 (some ⟨B, 0, none⟩) [1, 2] ∧ Below w'.heap.size w' w2)) := fun X w' h2 => (cut_n (t := [1, 2]) (n := 2) (q := 2) h2 rfl (by decide) (by decide) (by decide) (by kernel_rfl)).mono fun e w2 h => ⟨_, h.1, h.2.1, h.2.2⟩
  have Z14 : Hid (∀ (B X : Nat) w', Below w.heap.size w w' → RdJ w' (some ⟨B, 0, none⟩) [jT1, jT2] → RdT w' (some ⟨X, 0, none⟩) [0, 0] → Calls Tryd.prog 11 #[.slice (some ⟨B, 0, none⟩) 2 2, .slice (some ⟨X, 0, none⟩) 2 2, .int .i64 7] w' (RetB (.bool false) w')) := fun B X w' hb h1 h2 => two_metBy (t := [0, 0]) (n := 2) (hL.below hb) h1 h2 rfl (by decide) (by decide) (by kernel_rfl)
  have MT := Lib.hid (fun w' l cs h => rdT_made w' 3 l cs h)
  clear hL
  go_enter Tryd.func3, Tryd.ntmps3
  go_wp2_with fail
  refine A0.out.mono ?_; rintro e w0 ⟨rfl, b⟩
  replace b := Lib.hid b
  clear A0
  go_wp2_with fail
  refine (C2.out _).mono ?_; rintro e w1 ⟨B, rfl, hR, hb⟩
  replace b : Hid (Below w.heap.size w w1) := by refine below_on ?_ hb; exact by have s0 := b.out.size; (try simp only [World.heap_drewN, World.size_alloc] at s0); repeat (first | exact Below.refl _ _ | exact b.out | refine Below.trans ?_ (Below.mono b.out (by first | omega | (simp; done) | (simp; omega))) | refine Below.setCell ?_ (by first | omega | (simp; done) | (simp; omega)) _ | refine below_dN ?_ _ | refine Below.drew ?_ | refine Below.alloc ?_ (by first | omega | (simp; done) | (simp; omega)) _)
  replace hR := Lib.hid hR
  clear hb C2
  have TT := Lib.hid (MT.out w1 [0, 1, 1] #[.int .i64 0, .int .i64 1, .int .i64 1] rfl)
  have bb : Hid (Below w.heap.size w (w1.alloc (.cells #[.int .i64 0, .int .i64 1, .int .i64 1] 3))) := by have s0 := b.out.size; (try simp only [World.heap_drewN, World.size_alloc] at s0); repeat (first | exact Below.refl _ _ | exact b.out | refine Below.trans ?_ (Below.mono b.out (by first | omega | (simp; done) | (simp; omega))) | refine Below.setCell ?_ (by first | omega | (simp; done) | (simp; omega)) _ | refine below_dN ?_ _ | refine Below.drew ?_ | refine Below.alloc ?_ (by first | omega | (simp; done) | (simp; omega)) _)
  have hR2 : Hid (RdJ (w1.alloc (.cells #[.int .i64 0, .int .i64 1, .int .i64 1] 3)) (some ⟨B, 0, none⟩) [jT1, jT2]) := RdJ.below hR.out (show Below (World.heap w1).size w1 (w1.alloc (.cells #[.int .i64 0, .int .i64 1, .int .i64 1] 3)) from by repeat (first | exact Below.refl _ _ | refine Below.setCell ?_ (by first | omega | (simp; done) | (simp; omega)) _ | refine below_dN ?_ _ | refine Below.drew ?_ | refine Below.alloc ?_ (by first | omega | (simp; done) | (simp; omega)) _))
  go_wp2_with fail
  refine (Z0.out _ _ _ bb.out hR2.out TT.out).mono ?_; rintro e w2 ⟨rfl, hb⟩
  replace b : Hid (Below w.heap.size w w2) := below_on bb.out hb
  replace hR : Hid (RdJ w2 (some ⟨B, 0, none⟩) [jT1, jT2]) := hR2.out.below hb
  clear hb hR2 bb TT Z0
  have TT := Lib.hid (MT.out w2 [0, 1] #[.int .i64 0, .int .i64 1] rfl)
  have bb : Hid (Below w.heap.size w (w2.alloc (.cells #[.int .i64 0, .int .i64 1] 3))) := by have s0 := b.out.size; (try simp only [World.heap_drewN, World.size_alloc] at s0); repeat (first | exact Below.refl _ _ | exact b.out | refine Below.trans ?_ (Below.mono b.out (by first | omega | (simp; done) | (simp; omega))) | refine Below.setCell ?_ (by first | omega | (simp; done) | (simp; omega)) _ | refine below_dN ?_ _ | refine Below.drew ?_ | refine Below.alloc ?_ (by first | omega | (simp; done) | (simp; omega)) _)
  have hR2 : Hid (RdJ (w2.alloc (.cells #[.int .i64 0, .int .i64 1] 3)) (some ⟨B, 0, none⟩) [jT1, jT2]) := RdJ.below hR.out (show Below (World.heap w2).size w2 (w2.alloc (.cells #[.int .i64 0, .int .i64 1] 3)) from by repeat (first | exact Below.refl _ _ | refine Below.setCell ?_ (by first | omega | (simp; done) | (simp; omega)) _ | refine below_dN ?_ _ | refine Below.drew ?_ | refine Below.alloc ?_ (by first | omega | (simp; done) | (simp; omega)) _))
  go_wp2_with fail
  refine (Z1.out _ _ _ bb.out hR2.out TT.out).mono ?_; rintro e w3 ⟨rfl, hb⟩
  replace b : Hid (Below w.heap.size w w3) := below_on bb.out hb
  replace hR : Hid (RdJ w3 (some ⟨B, 0, none⟩) [jT1, jT2]) := hR2.out.below hb
  clear hb hR2 bb TT Z1
  have TT := Lib.hid (MT.out w3 [1] #[.int .i64 1] rfl)
  have bb : Hid (Below w.heap.size w (w3.alloc (.cells #[.int .i64 1] 3))) := by have s0 := b.out.size; (try simp only [World.heap_drewN, World.size_alloc] at s0); repeat (first | exact Below.refl _ _ | exact b.out | refine Below.trans ?_ (Below.mono b.out (by first | omega | (simp; done) | (simp; omega))) | refine Below.setCell ?_ (by first | omega | (simp; done) | (simp; omega)) _ | refine below_dN ?_ _ | refine Below.drew ?_ | refine Below.alloc ?_ (by first | omega | (simp; done) | (simp; omega)) _)
  have hR2 : Hid (RdJ (w3.alloc (.cells #[.int .i64 1] 3)) (some ⟨B, 0, none⟩) [jT1, jT2]) := RdJ.below hR.out (show Below (World.heap w3).size w3 (w3.alloc (.cells #[.int .i64 1] 3)) from by repeat (first | exact Below.refl _ _ | refine Below.setCell ?_ (by first | omega | (simp; done) | (simp; omega)) _ | refine below_dN ?_ _ | refine Below.drew ?_ | refine Below.alloc ?_ (by first | omega | (simp; done) | (simp; omega)) _))
  go_wp2_with fail
  refine (Z2.out _ _ _ bb.out hR2.out TT.out).mono ?_; rintro e w4 ⟨rfl, hb⟩
  replace b : Hid (Below w.heap.size w w4) := below_on bb.out hb
  replace hR : Hid (RdJ w4 (some ⟨B, 0, none⟩) [jT1, jT2]) := hR2.out.below hb
  clear hb hR2 bb TT Z2
  have TT := Lib.hid (MT.out w4 [0, 0, 0] #[.int .i64 0, .int .i64 0, .int .i64 0] rfl)
  have bb : Hid (Below w.heap.size w (w4.alloc (.cells #[.int .i64 0, .int .i64 0, .int .i64 0] 3))) := by have s0 := b.out.size; (try simp only [World.heap_drewN, World.size_alloc] at s0); repeat (first | exact Below.refl _ _ | exact b.out | refine Below.trans ?_ (Below.mono b.out (by first | omega | (simp; done) | (simp; omega))) | refine Below.setCell ?_ (by first | omega | (simp; done) | (simp; omega)) _ | refine below_dN ?_ _ | refine Below.drew ?_ | refine Below.alloc ?_ (by first | omega | (simp; done) | (simp; omega)) _)
  have hR2 : Hid (RdJ (w4.alloc (.cells #[.int .i64 0, .int .i64 0, .int .i64 0] 3)) (some ⟨B, 0, none⟩) [jT1, jT2]) := RdJ.below hR.out (show Below (World.heap w4).size w4 (w4.alloc (.cells #[.int .i64 0, .int .i64 0, .int .i64 0] 3)) from by repeat (first | exact Below.refl _ _ | refine Below.setCell ?_ (by first | omega | (simp; done) | (simp; omega)) _ | refine below_dN ?_ _ | refine Below.drew ?_ | refine Below.alloc ?_ (by first | omega | (simp; done) | (simp; omega)) _))
  go_wp2_with fail
  refine (Z3.out _ _ _ bb.out hR2.out TT.out).mono ?_; rintro e w5 ⟨rfl, hb⟩
  replace b : Hid (Below w.heap.size w w5) := below_on bb.out hb
  replace hR : Hid (RdJ w5 (some ⟨B, 0, none⟩) [jT1, jT2]) := hR2.out.below hb
  clear hb hR2 bb TT Z3
  have TT := Lib.hid (MT.out w5 [-1, -1, -1, -1, 0] #[.int .i64 (-1), .int .i64 (-1), .int .i64 (-1), .int .i64 (-1), .int .i64 0] rfl)
  have bb : Hid (Below w.heap.size w (w5.alloc (.cells #[.int .i64 (-1), .int .i64 (-1), .int .i64 (-1), .int .i64 (-1), .int .i64 0] 3))) := by have s0 := b.out.size; (try simp only [World.heap_drewN, World.size_alloc] at s0); repeat (first | exact Below.refl _ _ | exact b.out | refine Below.trans ?_ (Below.mono b.out (by first | omega | (simp; done) | (simp; omega))) | refine Below.setCell ?_ (by first | omega | (simp; done) | (simp; omega)) _ | refine below_dN ?_ _ | refine Below.drew ?_ | refine Below.alloc ?_ (by first | omega | (simp; done) | (simp; omega)) _)
  have hR2 : Hid (RdJ (w5.alloc (.cells #[.int .i64 (-1), .int .i64 (-1), .int .i64 (-1), .int .i64 (-1), .int .i64 0] 3)) (some ⟨B, 0, none⟩) [jT1, jT2]) := RdJ.below hR.out (show Below (World.heap w5).size w5 (w5.alloc (.cells #[.int .i64 (-1), .int .i64 (-1), .int .i64 (-1), .int .i64 (-1), .int .i64 0] 3)) from by repeat (first | exact Below.refl _ _ | refine Below.setCell ?_ (by first | omega | (simp; done) | (simp; omega)) _ | refine below_dN ?_ _ | refine Below.drew ?_ | refine Below.alloc ?_ (by first | omega | (simp; done) | (simp; omega)) _))
  go_wp2_with fail
  refine (Z4.out _ _ _ bb.out hR2.out TT.out).mono ?_; rintro e w6 ⟨rfl, hb⟩
  replace b : Hid (Below w.heap.size w w6) := below_on bb.out hb
  replace hR : Hid (RdJ w6 (some ⟨B, 0, none⟩) [jT1, jT2]) := hR2.out.below hb
  clear hb hR2 bb TT Z4
  have TT := Lib.hid (MT.out w6 [2] #[.int .i64 2] rfl)
  have bb : Hid (Below w.heap.size w (w6.alloc (.cells #[.int .i64 2] 3))) := by have s0 := b.out.size; (try simp only [World.heap_drewN, World.size_alloc] at s0); repeat (first | exact Below.refl _ _ | exact b.out | refine Below.trans ?_ (Below.mono b.out (by first | omega | (simp; done) | (simp; omega))) | refine Below.setCell ?_ (by first | omega | (simp; done) | (simp; omega)) _ | refine below_dN ?_ _ | refine Below.drew ?_ | refine Below.alloc ?_ (by first | omega | (simp; done) | (simp; omega)) _)
  have hR2 : Hid (RdJ (w6.alloc (.cells #[.int .i64 2] 3)) (some ⟨B, 0, none⟩) [jT1, jT2]) := RdJ.below hR.out (show Below (World.heap w6).size w6 (w6.alloc (.cells #[.int .i64 2] 3)) from by repeat (first | exact Below.refl _ _ | refine Below.setCell ?_ (by first | omega | (simp; done) | (simp; omega)) _ | refine below_dN ?_ _ | refine Below.drew ?_ | refine Below.alloc ?_ (by first | omega | (simp; done) | (simp; omega)) _))
  go_wp2_with fail
  refine (Z5.out _ _ _ bb.out hR2.out TT.out).mono ?_; rintro e w7 ⟨rfl, hb⟩
  replace b : Hid (Below w.heap.size w w7) := below_on bb.out hb
  replace hR : Hid (RdJ w7 (some ⟨B, 0, none⟩) [jT1, jT2]) := hR2.out.below hb
  clear hb hR2 bb TT Z5
  have TT := Lib.hid (MT.out w7 [-2] #[.int .i64 (-2)] rfl)
  have bb : Hid (Below w.heap.size w (w7.alloc (.cells #[.int .i64 (-2)] 3))) := by have s0 := b.out.size; (try simp only [World.heap_drewN, World.size_alloc] at s0); repeat (first | exact Below.refl _ _ | exact b.out | refine Below.trans ?_ (Below.mono b.out (by first | omega | (simp; done) | (simp; omega))) | refine Below.setCell ?_ (by first | omega | (simp; done) | (simp; omega)) _ | refine below_dN ?_ _ | refine Below.drew ?_ | refine Below.alloc ?_ (by first | omega | (simp; done) | (simp; omega)) _)
  have hR2 : Hid (RdJ (w7.alloc (.cells #[.int .i64 (-2)] 3)) (some ⟨B, 0, none⟩) [jT1, jT2]) := RdJ.below hR.out (show Below (World.heap w7).size w7 (w7.alloc (.cells #[.int .i64 (-2)] 3)) from by repeat (first | exact Below.refl _ _ | refine Below.setCell ?_ (by first | omega | (simp; done) | (simp; omega)) _ | refine below_dN ?_ _ | refine Below.drew ?_ | refine Below.alloc ?_ (by first | omega | (simp; done) | (simp; omega)) _))
  go_wp2_with fail
  refine (Z6.out _ _ _ bb.out hR2.out TT.out).mono ?_; rintro e w8 ⟨rfl, hb⟩
  replace b : Hid (Below w.heap.size w w8) := below_on bb.out hb
  replace hR : Hid (RdJ w8 (some ⟨B, 0, none⟩) [jT1, jT2]) := hR2.out.below hb
  clear hb hR2 bb TT Z6
  have TT := Lib.hid (MT.out w8 [0, 1, 1] #[.int .i64 0, .int .i64 1, .int .i64 1] rfl)
  have bb : Hid (Below w.heap.size w (w8.alloc (.cells #[.int .i64 0, .int .i64 1, .int .i64 1] 3))) := by have s0 := b.out.size; (try simp only [World.heap_drewN, World.size_alloc] at s0); repeat (first | exact Below.refl _ _ | exact b.out | refine Below.trans ?_ (Below.mono b.out (by first | omega | (simp; done) | (simp; omega))) | refine Below.setCell ?_ (by first | omega | (simp; done) | (simp; omega)) _ | refine below_dN ?_ _ | refine Below.drew ?_ | refine Below.alloc ?_ (by first | omega | (simp; done) | (simp; omega)) _)
  have hR2 : Hid (RdJ (w8.alloc (.cells #[.int .i64 0, .int .i64 1, .int .i64 1] 3)) (some ⟨B, 0, none⟩) [jT1, jT2]) := RdJ.below hR.out (show Below (World.heap w8).size w8 (w8.alloc (.cells #[.int .i64 0, .int .i64 1, .int .i64 1] 3)) from by repeat (first | exact Below.refl _ _ | refine Below.setCell ?_ (by first | omega | (simp; done) | (simp; omega)) _ | refine below_dN ?_ _ | refine Below.drew ?_ | refine Below.alloc ?_ (by first | omega | (simp; done) | (simp; omega)) _))
  go_wp2_with fail
  refine (Z7.out _ _ _ bb.out hR2.out TT.out).mono ?_; rintro e w9 ⟨rfl, hb⟩
  replace b : Hid (Below w.heap.size w w9) := below_on bb.out hb
  replace hR : Hid (RdJ w9 (some ⟨B, 0, none⟩) [jT1, jT2]) := hR2.out.below hb
  clear hb hR2 bb TT Z7
  have TT := Lib.hid (MT.out w9 [0, 1, 1] #[.int .i64 0, .int .i64 1, .int .i64 1] rfl)
  have bb : Hid (Below w.heap.size w (w9.alloc (.cells #[.int .i64 0, .int .i64 1, .int .i64 1] 3))) := by have s0 := b.out.size; (try simp only [World.heap_drewN, World.size_alloc] at s0); repeat (first | exact Below.refl _ _ | exact b.out | refine Below.trans ?_ (Below.mono b.out (by first | omega | (simp; done) | (simp; omega))) | refine Below.setCell ?_ (by first | omega | (simp; done) | (simp; omega)) _ | refine below_dN ?_ _ | refine Below.drew ?_ | refine Below.alloc ?_ (by first | omega | (simp; done) | (simp; omega)) _)
  have hR2 : Hid (RdJ (w9.alloc (.cells #[.int .i64 0, .int .i64 1, .int .i64 1] 3)) (some ⟨B, 0, none⟩) [jT1, jT2]) := RdJ.below hR.out (show Below (World.heap w9).size w9 (w9.alloc (.cells #[.int .i64 0, .int .i64 1, .int .i64 1] 3)) from by repeat (first | exact Below.refl _ _ | refine Below.setCell ?_ (by first | omega | (simp; done) | (simp; omega)) _ | refine below_dN ?_ _ | refine Below.drew ?_ | refine Below.alloc ?_ (by first | omega | (simp; done) | (simp; omega)) _))
  go_wp2_with fail
  refine (Z8.out _ _ _ bb.out hR2.out TT.out).mono ?_; rintro e w10 ⟨rfl, hb⟩
  replace b : Hid (Below w.heap.size w w10) := below_on bb.out hb
  replace hR : Hid (RdJ w10 (some ⟨B, 0, none⟩) [jT1, jT2]) := hR2.out.below hb
  clear hb hR2 bb TT Z8
  have TT := Lib.hid (MT.out w10 [0, 1, -1, 0, 0, 1] #[.int .i64 0, .int .i64 1, .int .i64 (-1), .int .i64 0, .int .i64 0, .int .i64 1] rfl)
  have bb : Hid (Below w.heap.size w (w10.alloc (.cells #[.int .i64 0, .int .i64 1, .int .i64 (-1), .int .i64 0, .int .i64 0, .int .i64 1] 3))) := by have s0 := b.out.size; (try simp only [World.heap_drewN, World.size_alloc] at s0); repeat (first | exact Below.refl _ _ | exact b.out | refine Below.trans ?_ (Below.mono b.out (by first | omega | (simp; done) | (simp; omega))) | refine Below.setCell ?_ (by first | omega | (simp; done) | (simp; omega)) _ | refine below_dN ?_ _ | refine Below.drew ?_ | refine Below.alloc ?_ (by first | omega | (simp; done) | (simp; omega)) _)
  have hR2 : Hid (RdJ (w10.alloc (.cells #[.int .i64 0, .int .i64 1, .int .i64 (-1), .int .i64 0, .int .i64 0, .int .i64 1] 3)) (some ⟨B, 0, none⟩) [jT1, jT2]) := RdJ.below hR.out (show Below (World.heap w10).size w10 (w10.alloc (.cells #[.int .i64 0, .int .i64 1, .int .i64 (-1), .int .i64 0, .int .i64 0, .int .i64 1] 3)) from by repeat (first | exact Below.refl _ _ | refine Below.setCell ?_ (by first | omega | (simp; done) | (simp; omega)) _ | refine below_dN ?_ _ | refine Below.drew ?_ | refine Below.alloc ?_ (by first | omega | (simp; done) | (simp; omega)) _))
  go_wp2_with fail
  refine (Z9.out _ _ TT.out).mono ?_; rintro e yy ⟨rfl, p, rfl⟩
  have hb := below_dN (Below.refl (World.heap (w10.alloc (.cells #[.int .i64 0, .int .i64 1, .int .i64 (-1), .int .i64 0, .int .i64 0, .int .i64 1] 3))).size (w10.alloc (.cells #[.int .i64 0, .int .i64 1, .int .i64 (-1), .int .i64 0, .int .i64 0, .int .i64 1] 3))) p
  generalize World.drewN (w10.alloc (.cells #[.int .i64 0, .int .i64 1, .int .i64 (-1), .int .i64 0, .int .i64 0, .int .i64 1] 3)) p = w11 at *
  replace b : Hid (Below w.heap.size w w11) := below_on bb.out hb
  replace hR : Hid (RdJ w11 (some ⟨B, 0, none⟩) [jT1, jT2]) := hR2.out.below hb
  clear hb hR2 bb TT Z9
  have TT := Lib.hid (MT.out w11 [1, 2] #[.int .i64 1, .int .i64 2] rfl)
  have bb : Hid (Below w.heap.size w (w11.alloc (.cells #[.int .i64 1, .int .i64 2] 3))) := by have s0 := b.out.size; (try simp only [World.heap_drewN, World.size_alloc] at s0); repeat (first | exact Below.refl _ _ | exact b.out | refine Below.trans ?_ (Below.mono b.out (by first | omega | (simp; done) | (simp; omega))) | refine Below.setCell ?_ (by first | omega | (simp; done) | (simp; omega)) _ | refine below_dN ?_ _ | refine Below.drew ?_ | refine Below.alloc ?_ (by first | omega | (simp; done) | (simp; omega)) _)
  have hR2 : Hid (RdJ (w11.alloc (.cells #[.int .i64 1, .int .i64 2] 3)) (some ⟨B, 0, none⟩) [jT1, jT2]) := RdJ.below hR.out (show Below (World.heap w11).size w11 (w11.alloc (.cells #[.int .i64 1, .int .i64 2] 3)) from by repeat (first | exact Below.refl _ _ | refine Below.setCell ?_ (by first | omega | (simp; done) | (simp; omega)) _ | refine below_dN ?_ _ | refine Below.drew ?_ | refine Below.alloc ?_ (by first | omega | (simp; done) | (simp; omega)) _))
  go_wp2_with fail
  refine (Z10.out _ _ TT.out).mono ?_; rintro e w12 ⟨B10, rfl, TX10, hb⟩
  replace b : Hid (Below w.heap.size w w12) := below_on bb.out hb
  replace hR : Hid (RdJ w12 (some ⟨B, 0, none⟩) [jT1, jT2]) := hR2.out.below hb
  clear hb hR2 bb TT Z10
  have TT := Lib.hid (MT.out w12 [1, 2] #[.int .i64 1, .int .i64 2] rfl)
  have bb : Hid (Below w.heap.size w (w12.alloc (.cells #[.int .i64 1, .int .i64 2] 3))) := by have s0 := b.out.size; (try simp only [World.heap_drewN, World.size_alloc] at s0); repeat (first | exact Below.refl _ _ | exact b.out | refine Below.trans ?_ (Below.mono b.out (by first | omega | (simp; done) | (simp; omega))) | refine Below.setCell ?_ (by first | omega | (simp; done) | (simp; omega)) _ | refine below_dN ?_ _ | refine Below.drew ?_ | refine Below.alloc ?_ (by first | omega | (simp; done) | (simp; omega)) _)
  have hR2 : Hid (RdJ (w12.alloc (.cells #[.int .i64 1, .int .i64 2] 3)) (some ⟨B, 0, none⟩) [jT1, jT2]) := RdJ.below hR.out (show Below (World.heap w12).size w12 (w12.alloc (.cells #[.int .i64 1, .int .i64 2] 3)) from by repeat (first | exact Below.refl _ _ | refine Below.setCell ?_ (by first | omega | (simp; done) | (simp; omega)) _ | refine below_dN ?_ _ | refine Below.drew ?_ | refine Below.alloc ?_ (by first | omega | (simp; done) | (simp; omega)) _))
  go_wp2_with fail
  refine (Z11.out _ _ TT.out).mono ?_; rintro e w13 ⟨B11, rfl, TX11, hb⟩
  replace b : Hid (Below w.heap.size w w13) := below_on bb.out hb
  replace hR : Hid (RdJ w13 (some ⟨B, 0, none⟩) [jT1, jT2]) := hR2.out.below hb
  clear hb hR2 bb TT Z11
  have TT := MT.out w13 [1] #[.int .i64 1] rfl
  have TC := RdT.below TX11 (show Below (World.heap w13).size w13 (w13.alloc (.cells #[.int .i64 1] 3)) from by repeat (first | exact Below.refl _ _ | refine Below.setCell ?_ (by first | omega | (simp; done) | (simp; omega)) _ | refine below_dN ?_ _ | refine Below.drew ?_ | refine Below.alloc ?_ (by first | omega | (simp; done) | (simp; omega)) _))
  have bb : Below w.heap.size w (w13.alloc (.cells #[.int .i64 1] 3)) := by have s0 := b.out.size; (try simp only [World.heap_drewN, World.size_alloc] at s0); repeat (first | exact Below.refl _ _ | exact b.out | refine Below.trans ?_ (Below.mono b.out (by first | omega | (simp; done) | (simp; omega))) | refine Below.setCell ?_ (by first | omega | (simp; done) | (simp; omega)) _ | refine below_dN ?_ _ | refine Below.drew ?_ | refine Below.alloc ?_ (by first | omega | (simp; done) | (simp; omega)) _)
  go_wp2_with fail
  refine (ints9_any _ _ 1 1 [1] 1 _ (by decide) rfl TC TT (by decide) (by decide) (by decide) (by decide)).mono ?_; rintro e w14 ⟨rfl, p, rfl⟩
  replace b : Hid (Below w.heap.size w ((w13.alloc (.cells #[.int .i64 1] 3)).drewN p)) := below_dN bb p
  have hR2 : Hid (RdJ ((w13.alloc (.cells #[.int .i64 1] 3)).drewN p) (some ⟨B, 0, none⟩) [jT1, jT2]) := RdJ.below hR.out (show Below (World.heap w13).size w13 _ from by repeat (first | exact Below.refl _ _ | refine Below.setCell ?_ (by first | omega | (simp; done) | (simp; omega)) _ | refine below_dN ?_ _ | refine Below.drew ?_ | refine Below.alloc ?_ (by first | omega | (simp; done) | (simp; omega)) _))
  generalize (w13.alloc (.cells #[.int .i64 1] 3)).drewN p = w14 at *
  replace hR := hR2
  clear hR2 TT TC bb
  have TT := Lib.hid (MT.out w14 [1, 2] #[.int .i64 1, .int .i64 2] rfl)
  have bb : Hid (Below w.heap.size w (w14.alloc (.cells #[.int .i64 1, .int .i64 2] 3))) := by have s0 := b.out.size; (try simp only [World.heap_drewN, World.size_alloc] at s0); repeat (first | exact Below.refl _ _ | exact b.out | refine Below.trans ?_ (Below.mono b.out (by first | omega | (simp; done) | (simp; omega))) | refine Below.setCell ?_ (by first | omega | (simp; done) | (simp; omega)) _ | refine below_dN ?_ _ | refine Below.drew ?_ | refine Below.alloc ?_ (by first | omega | (simp; done) | (simp; omega)) _)
  have hR2 : Hid (RdJ (w14.alloc (.cells #[.int .i64 1, .int .i64 2] 3)) (some ⟨B, 0, none⟩) [jT1, jT2]) := RdJ.below hR.out (show Below (World.heap w14).size w14 (w14.alloc (.cells #[.int .i64 1, .int .i64 2] 3)) from by repeat (first | exact Below.refl _ _ | refine Below.setCell ?_ (by first | omega | (simp; done) | (simp; omega)) _ | refine below_dN ?_ _ | refine Below.drew ?_ | refine Below.alloc ?_ (by first | omega | (simp; done) | (simp; omega)) _))
  go_wp2_with fail
  refine (Z13.out _ _ TT.out).mono ?_; rintro e w15 ⟨B13, rfl, TX13, hb⟩
  replace b : Hid (Below w.heap.size w w15) := below_on bb.out hb
  replace hR : Hid (RdJ w15 (some ⟨B, 0, none⟩) [jT1, jT2]) := hR2.out.below hb
  clear hb hR2 bb TT Z13
  have TT := Lib.hid (MT.out w15 [0, 0] #[.int .i64 0, .int .i64 0] rfl)
  have bb : Hid (Below w.heap.size w (w15.alloc (.cells #[.int .i64 0, .int .i64 0] 3))) := by have s0 := b.out.size; (try simp only [World.heap_drewN, World.size_alloc] at s0); repeat (first | exact Below.refl _ _ | exact b.out | refine Below.trans ?_ (Below.mono b.out (by first | omega | (simp; done) | (simp; omega))) | refine Below.setCell ?_ (by first | omega | (simp; done) | (simp; omega)) _ | refine below_dN ?_ _ | refine Below.drew ?_ | refine Below.alloc ?_ (by first | omega | (simp; done) | (simp; omega)) _)
  have hR2 : Hid (RdJ (w15.alloc (.cells #[.int .i64 0, .int .i64 0] 3)) (some ⟨B, 0, none⟩) [jT1, jT2]) := RdJ.below hR.out (show Below (World.heap w15).size w15 (w15.alloc (.cells #[.int .i64 0, .int .i64 0] 3)) from by repeat (first | exact Below.refl _ _ | refine Below.setCell ?_ (by first | omega | (simp; done) | (simp; omega)) _ | refine below_dN ?_ _ | refine Below.drew ?_ | refine Below.alloc ?_ (by first | omega | (simp; done) | (simp; omega)) _))
  go_wp2_with fail
  refine (Z14.out _ _ _ bb.out hR2.out TT.out).mono ?_; rintro e w16 ⟨rfl, hb⟩
  replace b : Hid (Below w.heap.size w w16) := below_on bb.out hb
  replace hR : Hid (RdJ w16 (some ⟨B, 0, none⟩) [jT1, jT2]) := hR2.out.below hb
  clear hb hR2 bb TT Z14
  go_wp2
  go_ret
  exact ⟨rfl, b.out⟩
end Go.Proofs.YtcendklbnogmbaaDoor
