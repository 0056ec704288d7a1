/- What the statements of layer 10 ask first: awake. -/
import Derived.Test.YtcohodpaagpfgaaDoorEdLaw
import Derived.Test.YtcohodpaagpfgaaDoorEdRunM
import Derived.Test.YtcohodpaagpfgaaDoorEd2
namespace Go.Proofs.YtcohodpaagpfgaaDoor
open Go.RowKit Go.Lib
set_option linter.unusedVariables false
set_option linter.unusedSimpArgs false

/-- Ticks in a new block. -/
theorem rdT_new (w : World) (ty : TypeId) (l : List Int) (cs : Array Value) (h : cs = (l.map (Value.int .i64)).toArray) : RdT (w.alloc (.cells cs ty)) (some ⟨w.heap.size, 0, none⟩) l := by
  intro k x hx
  refine ⟨w.heap.size, 0, rfl, ?_⟩
  rw [cell_row (heap_alloc_new w _), h]
  simp [hx]
/-- Needs in a new block. -/
theorem rdL_new (w : World) (ty : TypeId) (l : List Lf) (cs : Array Value) (h : cs = (cellsF l).toArray) : RdL (w.alloc (.cells cs ty)) (some ⟨w.heap.size, 0, none⟩) l := by
  intro k x hx
  refine ⟨w.heap.size, 0, rfl, ?_, ?_⟩
  · rw [cell_row (heap_alloc_new w _), h, Nat.zero_add]
    have := (cellsF_get l k x hx).1
    simpa using this
  · rw [cell_row (heap_alloc_new w _), h, Nat.zero_add]
    have := (cellsF_get l k x hx).2
    simpa using this
def lE : List Lf := [⟨3, 2⟩, ⟨4, 2⟩]
def jE : Jb := ⟨⟨#[97]⟩, 0, 4, 2, 2, 0, 0, false⟩
theorem jE_names : ∀ x ∈ ([jE] : List Jb), x.name.size ≤ 1000000 := by intro x hx; simp at hx; subst hx; decide
theorem lE_slack : oZ (slackO 0 lE) = 0 ∧ oB (slackO 0 lE) = true ∧ fitsB 0 lE = true ∧ fitsB 1 lE = false := by
  refine ⟨?_, ?_, ?_, ?_⟩ <;> kernel_rfl
theorem jE_run : runL [jE] 3 = [0, 0, -1] ∧ meetsB [jE] = true := by
  refine ⟨?_, ?_⟩ <;> kernel_rfl
section
theorem lE_slack_any (B : Nat) (w : World) (hR : RdL w (some ⟨B, 0, none⟩) lE) : Calls Tryd.prog 9 #[.int .i64 0, .slice (some ⟨B, 0, none⟩) 2 2] w (RetB (.tuple #[.int .i64 0, .bool true]) w) := by
  have h := slack_any (some ⟨B, 0, none⟩) 2 lE 0 0 true w (by decide) (by decide) hR lE_slack.1 lE_slack.2.1
  rw [show lE.length = 2 from rfl] at h
  exact h
theorem lE_fits0_any (B : Nat) (w : World) (hR : RdL w (some ⟨B, 0, none⟩) lE) : Calls Tryd.prog 13 #[.int .i64 0, .slice (some ⟨B, 0, none⟩) 2 2] w (RetB (.bool true) w) := by
  have h := fits_any (some ⟨B, 0, none⟩) 2 lE 0 true w (by decide) (by decide) hR lE_slack.2.2.1
  rw [show lE.length = 2 from rfl] at h
  exact h
theorem lE_fits1_any (B : Nat) (w : World) (hR : RdL w (some ⟨B, 0, none⟩) lE) : Calls Tryd.prog 13 #[.int .i64 1, .slice (some ⟨B, 0, none⟩) 2 2] w (RetB (.bool false) w) := by
  have h := fits_any (some ⟨B, 0, none⟩) 2 lE 1 false w (by decide) (by decide) hR lE_slack.2.2.2
  rw [show lE.length = 2 from rfl] at h
  exact h
end
section
theorem jE_run_any (J : Nat) (w : World) (hL : Ltr w) (hR : RdJ w (some ⟨J, 0, none⟩) [jE]) : Calls Tryd.prog 11 #[.slice (some ⟨J, 0, none⟩) 1 1, .int .i64 3] w (fun e w2 => ∃ X c, e = .returned (.slice X 3 c) ∧ 3 ≤ c ∧ c ≤ 9223372036854775807 ∧ RdT w2 X [0, 0, -1] ∧ Below w.heap.size w w2) := by
  have h := run_any (some ⟨J, 0, none⟩) 1 [jE] 3 w (by decide) (by decide) (by decide) jE_names hL hR
  rw [show ([jE] : List Jb).length = 1 from rfl, jE_run.1] at h
  exact h.mono fun e w2 ⟨X, c, h1, h2, h3, h4, h5, _⟩ => ⟨X, c, h1, h2, h3, h4, h5⟩
theorem jE_meets_any (J : Nat) (w : World) (hL : Ltr w) (hR : RdJ w (some ⟨J, 0, none⟩) [jE]) : Calls Tryd.prog 12 #[.slice (some ⟨J, 0, none⟩) 1 1] w (RetB (.bool true) w) := by
  have h := meets_any (some ⟨J, 0, none⟩) 1 [jE] true w (by decide) (by decide) (by decide) jE_names hL hR jE_run.2
  rw [show ([jE] : List Jb).length = 1 from rfl] at h
  exact h
end
theorem ints3_any (X : Option Addr) (c B : Nat) (w : World) (h1 : 3 ≤ c) (h2 : c ≤ 9223372036854775807) (h3 : RdT w X [0, 0, -1]) (h4 : RdT w (some ⟨B, 0, none⟩) [0, 0, -1]) : Calls Tryd.prog 10 #[.slice X 3 c, .slice (some ⟨B, 0, none⟩) 3 3] w (Ret (.bool true) w) :=
  ints10_any X _ c 3 [0, 0, -1] 3 w (by decide) rfl h3 h4 h1 (by decide) h2 (by decide)
set_option maxHeartbeats 1600000 in
set_option maxRecDepth 100000 in
theorem awake10_any (w : World) (hL : Ltr w) : Calls Tryd.prog 8 #[] w (RetB (.bool true) w) := by
  have C1 : Hid (∀ (w' : World) (B : Nat), w'.heap.size = B → Calls Tryd.prog 9 #[.int .i64 0, .slice (some ⟨B, 0, none⟩) 2 2] (w'.alloc (.cells #[.int .i64 3, .int .i64 2, .int .i64 4, .int .i64 2] 35)) (RetB (.tuple #[.int .i64 0, .bool true]) (w'.alloc (.cells #[.int .i64 3, .int .i64 2, .int .i64 4, .int .i64 2] 35)))) := fun w' B hB => by subst hB; exact lE_slack_any _ _ (rdL_new w' _ lE _ rfl)
  have C2 : Hid (∀ (w' : World) (B : Nat), w'.heap.size = B → Calls Tryd.prog 13 #[.int .i64 0, .slice (some ⟨B, 0, none⟩) 2 2] (w'.alloc (.cells #[.int .i64 3, .int .i64 2, .int .i64 4, .int .i64 2] 35)) (RetB (.bool true) (w'.alloc (.cells #[.int .i64 3, .int .i64 2, .int .i64 4, .int .i64 2] 35)))) := fun w' B hB => by subst hB; exact lE_fits0_any _ _ (rdL_new w' _ lE _ rfl)
  have C3 : Hid (∀ (w' : World) (B : Nat), w'.heap.size = B → Calls Tryd.prog 13 #[.int .i64 1, .slice (some ⟨B, 0, none⟩) 2 2] (w'.alloc (.cells #[.int .i64 3, .int .i64 2, .int .i64 4, .int .i64 2] 35)) (RetB (.bool false) (w'.alloc (.cells #[.int .i64 3, .int .i64 2, .int .i64 4, .int .i64 2] 35)))) := fun w' B hB => by subst hB; exact lE_fits1_any _ _ (rdL_new w' _ lE _ rfl)
  have C4 : Hid (∀ (J : Nat) (w' : World), Below w.heap.size w w' → RdJ w' (some ⟨J, 0, none⟩) [jE] → Calls Tryd.prog 11 #[.slice (some ⟨J, 0, none⟩) 1 1, .int .i64 3] w' (fun e w2 => ∃ X c, e = .returned (.slice X 3 c) ∧ 3 ≤ c ∧ c ≤ 9223372036854775807 ∧ RdT w2 X [0, 0, -1] ∧ Below w'.heap.size w' w2)) := fun J w' hb hR => jE_run_any J w' (hL.below hb) hR
  have C5 : Hid (∀ (X : Option Addr) (c : Nat) (w' : World), 3 ≤ c → c ≤ 9223372036854775807 → RdT w' X [0, 0, -1] → Calls Tryd.prog 10 #[.slice X 3 c, .slice (some ⟨w'.heap.size, 0, none⟩) 3 3] (w'.alloc (.cells #[.int .i64 0, .int .i64 0, .int .i64 (-1)] 3)) (Ret (.bool true) (w'.alloc (.cells #[.int .i64 0, .int .i64 0, .int .i64 (-1)] 3)))) := fun X c w' h1 h2 h3 => ints3_any X c _ _ h1 h2 (h3.below ((Below.refl _ _).alloc (Nat.le_refl _) _)) (rdT_new w' _ _ _ rfl)
  have C6 : Hid (∀ (J : Nat) (w' : World), Below w.heap.size w w' → RdJ w' (some ⟨J, 0, none⟩) [jE] → Calls Tryd.prog 12 #[.slice (some ⟨J, 0, none⟩) 1 1] w' (RetB (.bool true) w')) := fun J w' hb hR => jE_meets_any J w' (hL.below hb) hR
  clear hL
  go_enter Tryd.func8, Tryd.ntmps8
  go_wp2_with fail
  refine (C1.out w _ rfl).mono ?_; rintro e w1 ⟨rfl, b1⟩
  replace b1 : Hid (Below w.heap.size w w1) := by refine below_on ?_ b1; exact by repeat (first | exact Below.refl _ _ | refine Below.setCell ?_ (by first | omega | (simp; done) | (simp; omega)) _ | refine below_dN ?_ _ | refine Below.drew ?_ | refine Below.alloc ?_ (by first | omega | (simp; done) | (simp; omega)) _)
  clear C1
  go_wp2_with fail
  refine (C2.out (w1.alloc (.cells #[.string ⟨#[97]⟩, .int .i64 0, .int .i64 4, .int .i64 2, .int .i64 2, .int .i64 0, .int .i64 0, .bool false] 24)) _ (by simp)).mono ?_; rintro e w2 ⟨rfl, b2⟩
  have RJ2 := rdJ_one w1 24 jE
  have b1j : Below w.heap.size w (w1.alloc (.cells jE.cells 24)) := b1.out.alloc b1.out.size _
  have bm : Below (w1.alloc (.cells jE.cells 24)).heap.size (w1.alloc (.cells jE.cells 24)) w2 := by refine below_on ?_ b2; exact (Below.refl _ _).alloc (Nat.le_refl _) _
  replace RJ2 := Lib.hid (RJ2.below bm)
  replace b2 : Hid (Below w.heap.size w w2) := below_on b1j bm
  clear C2 b1 b1j bm
  go_wp2_with fail
  refine (C3.out w2 _ rfl).mono ?_; rintro e w3 ⟨rfl, b3⟩
  have bm : Below w2.heap.size w2 w3 := by refine below_on ?_ b3; exact by repeat (first | exact Below.refl _ _ | refine Below.setCell ?_ (by first | omega | (simp; done) | (simp; omega)) _ | refine below_dN ?_ _ | refine Below.drew ?_ | refine Below.alloc ?_ (by first | omega | (simp; done) | (simp; omega)) _)
  have RJ3 := Lib.hid (RJ2.out.below bm)
  replace b3 : Hid (Below w.heap.size w w3) := below_on b2.out bm
  generalize w1.heap.size = J at *
  clear C3 bm RJ2 b2
  go_wp2_with fail
  refine (C4.out _ _ b3.out RJ3.out).mono ?_; rintro e w4 ⟨X, c, rfl, hc1, hc2, hT, b4⟩
  have RJ4 := Lib.hid (RJ3.out.below b4)
  replace b4 : Hid (Below w.heap.size w w4) := below_on b3.out b4
  have C7 := Lib.hid (C5.out X c w4 hc1 hc2 hT)
  clear C4 RJ3 b3 hT C5
  go_wp2_with fail
  refine C7.out.mono ?_; rintro e w5 ⟨rfl, q, rfl⟩
  have bm : Below w4.heap.size w4 ((w4.alloc (.cells #[.int .i64 0, .int .i64 0, .int .i64 (-1)] 3)).drewN q) := below_dN ((Below.refl _ _).alloc (Nat.le_refl _) _) q
  have RJ5 := Lib.hid (RJ4.out.below bm)
  have b5 : Hid (Below w.heap.size w ((w4.alloc (.cells #[.int .i64 0, .int .i64 0, .int .i64 (-1)] 3)).drewN q)) := below_on b4.out bm
  generalize (w4.alloc (.cells #[.int .i64 0, .int .i64 0, .int .i64 (-1)] 3)).drewN q = w6 at *
  clear C7 RJ4 b4 bm
  go_wp2_with fail
  refine (C6.out _ _ b5.out RJ5.out).mono ?_; rintro e w7 ⟨rfl, b7⟩
  have b9 := Lib.hid (below_on b5.out b7)
  clear C6 RJ5 b5 b7
  go_wp2
  go_ret
  exact ⟨rfl, by have s0 := b9.out.size; (try simp only [World.heap_drewN, World.size_alloc] at s0); repeat (first | exact Below.refl _ _ | exact b9.out | refine Below.trans ?_ (Below.mono b9.out (by first | omega | (simp; done) | (simp; omega))) | refine Below.setCell ?_ (by first | omega | (simp; done) | (simp; omega)) _ | refine below_dN ?_ _ | refine Below.drew ?_ | refine Below.alloc ?_ (by first | omega | (simp; done) | (simp; omega)) _)⟩
end Go.Proofs.YtcohodpaagpfgaaDoor
