/- EdfKnown: the examples of chapter 10. -/
import Derived.Test.YtcohodpaagpfgaaDoorEdAwake
import Derived.Test.YtcohodpaagpfgaaDoorJbRef2
namespace Go.Proofs.YtcohodpaagpfgaaDoor
open Go.RowKit Go.Lib
set_option linter.unusedVariables false
set_option linter.unusedSimpArgs false

theorem legal_long (A : Option Addr) (cap n : Nat) (now : Int) (w : World) (h : 1000 < n) : Calls Tryd.prog 27 #[.int .i64 now, .slice A n cap] w (RetB (.bool false) w) := by
  have d1 : decide ((n : Int) > 1000) = true := decide_eq_true (by omega)
  go_enter Tryd.func27, Tryd.ntmps27
  go_wp2
  go_ret
  exact ⟨rfl, by repeat (first | exact Below.refl _ _ | refine Below.setCell ?_ (by first | omega | (simp; done) | (simp; omega)) _ | refine below_dN ?_ _ | refine Below.drew ?_ | refine Below.alloc ?_ (by first | omega | (simp; done) | (simp; omega)) _)⟩
theorem fits_long (A : Option Addr) (cap n : Nat) (now : Int) (w : World) (h : 1000 < n) : Calls Tryd.prog 13 #[.int .i64 now, .slice A n cap] w (RetB (.bool false) w) := by
  have C := Lib.hid (legal_long A cap n now w h)
  clear h
  go_enter Tryd.func13, Tryd.ntmps13
  go_wp2_with fail
  refine C.out.mono ?_; rintro e gw ⟨rfl, gb⟩
  clear C
  go_wp2
  go_ret
  exact ⟨rfl, by have s0 := gb.size; (try simp only [World.heap_drewN, World.size_alloc] at s0); repeat (first | exact Below.refl _ _ | exact gb | refine Below.trans ?_ (Below.mono gb (by first | omega | (simp; done) | (simp; omega))) | refine Below.setCell ?_ (by first | omega | (simp; done) | (simp; omega)) _ | refine below_dN ?_ _ | refine Below.drew ?_ | refine Below.alloc ?_ (by first | omega | (simp; done) | (simp; omega)) _)⟩
/-- Jobs in a new block. -/
theorem rdJ_new (w : World) (ty : TypeId) (l : List Jb) (cs : Array Value) (h : cs = (cellsJ l).toArray) : RdJ (w.alloc (.cells cs ty)) (some ⟨w.heap.size, 0, none⟩) l := by
  intro k x hx
  refine ⟨w.heap.size, 0, rfl, ?_⟩
  have key : ∀ j, j < 8 → (w.alloc (.cells cs ty)).cell? ⟨w.heap.size, 0 + k * 8 + j, none⟩ = x.cells[j]? := fun j hj => by
    rw [cell_row (heap_alloc_new w _), h, Nat.zero_add]
    have := cellsJ_get l k x hx j hj
    simpa using this
  exact ⟨key 0 (by decide), key 1 (by decide), key 2 (by decide), key 3 (by decide), key 4 (by decide), key 5 (by decide), key 6 (by decide), key 7 (by decide)⟩
theorem RdJ.take {w : World} {A : Option Addr} {l : List Jb} (h : RdJ w A l) (n : Nat) : RdJ w A (l.take n) := fun k x hx => by
  rw [List.getElem?_take] at hx
  split at hx
  · exact h k x hx
  · cases hx
def kA : Jb := ⟨⟨#[97]⟩, 0, 5, 2, 2, 0, 0, false⟩
def kB : Jb := ⟨⟨#[98]⟩, 0, 5, 1, 1, 0, 0, false⟩
def kC : Jb := ⟨⟨#[99]⟩, 1, 2, 2, 2, 0, 0, false⟩
theorem k_names : ∀ x ∈ ([kA, kB, kC] : List Jb), x.name.size ≤ 1000000 := by intro x hx; simp at hx; rcases hx with rfl | rfl | rfl <;> decide
theorem k2_names : ∀ x ∈ ([kA, kB] : List Jb), x.name.size ≤ 1000000 := by intro x hx; simp at hx; rcases hx with rfl | rfl <;> decide
theorem k_run : runL [kA, kB, kC] 6 = [0, 2, 2, 0, 1, -1] ∧ meetsB [kA, kB, kC] = false ∧ meetsB [kA, kB] = true ∧ runL [kA, kB, kC] (-1) = [] ∧ runL [] 3 = [-1, -1, -1] := by
  refine ⟨?_, ?_, ?_, ?_, ?_⟩ <;> kernel_rfl
theorem k_fits : fitsB 5 [] = true ∧ oZ (slackO 0 []) = 0 ∧ oB (slackO 0 []) = false ∧ fitsB 0 [⟨0, -5⟩] = true ∧ fitsB 1 [⟨0, -5⟩] = false := by
  refine ⟨?_, ?_, ?_, ?_, ?_⟩ <;> kernel_rfl
theorem k_slack_any (w : World) : Calls Tryd.prog 9 #[.int .i64 0, .slice none 0 0] w (RetB (.tuple #[.int .i64 0, .bool false]) w) :=
  slack_any none 0 [] 0 0 false w (by decide) (by decide) (fun k x hx => by simp at hx) k_fits.2.1 k_fits.2.2.1
theorem k_fits5_any (w : World) : Calls Tryd.prog 13 #[.int .i64 5, .slice none 0 0] w (RetB (.bool true) w) :=
  fits_any none 0 [] 5 true w (by decide) (by decide) (fun k x hx => by simp at hx) k_fits.1
theorem k_fits0_any (B : Nat) (w : World) (hR : RdL w (some ⟨B, 0, none⟩) [⟨0, -5⟩]) : Calls Tryd.prog 13 #[.int .i64 0, .slice (some ⟨B, 0, none⟩) 1 1] w (RetB (.bool true) w) := by
  have h := fits_any (some ⟨B, 0, none⟩) 1 [⟨0, -5⟩] 0 true w (by decide) (by decide) hR k_fits.2.2.2.1
  rw [show ([⟨0, -5⟩] : List Lf).length = 1 from rfl] at h
  exact h
theorem k_fits1_any (B : Nat) (w : World) (hR : RdL w (some ⟨B, 0, none⟩) [⟨0, -5⟩]) : Calls Tryd.prog 13 #[.int .i64 1, .slice (some ⟨B, 0, none⟩) 1 1] w (RetB (.bool false) w) := by
  have h := fits_any (some ⟨B, 0, none⟩) 1 [⟨0, -5⟩] 1 false w (by decide) (by decide) hR k_fits.2.2.2.2
  rw [show ([⟨0, -5⟩] : List Lf).length = 1 from rfl] at h
  exact h
section
theorem k_run6_any (J : Nat) (w : World) (hL : Ltr w) (hR : RdJ w (some ⟨J, 0, none⟩) [kA, kB, kC]) : Calls Tryd.prog 11 #[.slice (some ⟨J, 0, none⟩) 3 3, .int .i64 6] w (fun e w2 => ∃ X c, e = .returned (.slice X 6 c) ∧ 6 ≤ c ∧ c ≤ 9223372036854775807 ∧ RdT w2 X [0, 2, 2, 0, 1, -1] ∧ Below w.heap.size w w2) := by
  have h := run_any (some ⟨J, 0, none⟩) 3 [kA, kB, kC] 6 w (by decide) (by decide) (by decide) k_names hL hR
  rw [show ([kA, kB, kC] : List Jb).length = 3 from rfl, k_run.1] at h
  exact h.mono fun e w2 ⟨X, c, h1, h2, h3, h4, h5, _⟩ => ⟨X, c, h1, h2, h3, h4, h5⟩
theorem k_runM_any (J : Nat) (w : World) (hL : Ltr w) (hR : RdJ w (some ⟨J, 0, none⟩) [kA, kB, kC]) : Calls Tryd.prog 11 #[.slice (some ⟨J, 0, none⟩) 3 3, .int .i64 (-1)] w (fun e w2 => ∃ X c, e = .returned (.slice X 0 c) ∧ Below w.heap.size w w2) := by
  have h := run_any (some ⟨J, 0, none⟩) 3 [kA, kB, kC] (-1) w (by decide) (by decide) (by decide) k_names hL hR
  rw [show ([kA, kB, kC] : List Jb).length = 3 from rfl, k_run.2.2.2.1] at h
  exact h.mono fun e w2 ⟨X, c, h1, h2, h3, h4, h5, _⟩ => ⟨X, c, h1, h5⟩
theorem k_runN_any (w : World) (hL : Ltr w) : Calls Tryd.prog 11 #[.slice none 0 0, .int .i64 3] w (fun e w2 => ∃ X c, e = .returned (.slice X 3 c) ∧ Below w.heap.size w w2) := by
  have h := run_any none 0 [] 3 w (by decide) (by decide) (by decide) (fun x hx => by simp at hx) hL (fun k x hx => by simp at hx)
  rw [k_run.2.2.2.2] at h
  exact h.mono fun e w2 ⟨X, c, h1, h2, h3, h4, h5, _⟩ => ⟨X, c, h1, h5⟩
theorem k_meets3_any (J : Nat) (w : World) (hL : Ltr w) (hR : RdJ w (some ⟨J, 0, none⟩) [kA, kB, kC]) : Calls Tryd.prog 12 #[.slice (some ⟨J, 0, none⟩) 3 3] w (RetB (.bool false) w) := by
  have h := meets_any (some ⟨J, 0, none⟩) 3 [kA, kB, kC] false w (by decide) (by decide) (by decide) k_names hL hR k_run.2.1
  rw [show ([kA, kB, kC] : List Jb).length = 3 from rfl] at h
  exact h
theorem k_meets2_any (J : Nat) (w : World) (hL : Ltr w) (hR : RdJ w (some ⟨J, 0, none⟩) [kA, kB, kC]) : Calls Tryd.prog 12 #[.slice (some ⟨J, 0, none⟩) 2 3] w (RetB (.bool true) w) := by
  have h := meets_any (some ⟨J, 0, none⟩) 3 [kA, kB] true w (by decide) (by decide) (by decide) k2_names hL (hR.take 2) k_run.2.2.1
  rw [show ([kA, kB] : List Jb).length = 2 from rfl] at h
  exact h
end
theorem ints6_any (X : Option Addr) (c B : Nat) (w : World) (h1 : 6 ≤ c) (h2 : c ≤ 9223372036854775807) (h3 : RdT w X [0, 2, 2, 0, 1, -1]) (h4 : RdT w (some ⟨B, 0, none⟩) [0, 2, 2, 0, 1, -1]) : Calls Tryd.prog 10 #[.slice X 6 c, .slice (some ⟨B, 0, none⟩) 6 6] w (Ret (.bool true) w) :=
  ints10_any X _ c 6 [0, 2, 2, 0, 1, -1] 6 w (by decide) rfl h3 h4 h1 (by decide) h2 (by decide)
theorem make1001 : ∃ cs, ∀ w' : World, (Instr.makeSlice 33 (.int .i64 1001) (.int .i64 1001)).run Tryd.prog w' = .ok (.slice (some ⟨w'.heap.size, 0, none⟩) 1001 1001) (w'.alloc (.cells cs 35)) := by
  obtain ⟨i0, hi0, hz0, hz1, hz2⟩ := info_parts Tryd.infoLf
  refine ⟨madeCells #[.int .i64 0, .int .i64 0] 2002, fun w' => ?_⟩
  have h := run_make (P := Tryd.prog) w' 33 35 i0 _ Tryd.underlying33 hi0 hz0 .i64 .i64 1001 1001 (by decide) (by decide) (by rw [hz2]; decide) (by decide)
  rw [hz1] at h
  exact h
set_option maxHeartbeats 3200000 in
set_option maxRecDepth 100000 in
theorem EdfKnown_ret (w : World) (hL : Ltr w) : Calls Tryd.prog 3 #[] w (RetB (.bool true) w) := by
  have A0 := Lib.hid (awake10_any w hL)
  have S0 := Lib.hid k_slack_any
  have F5 := Lib.hid k_fits5_any
  have R6 : Hid (∀ (J : Nat) (w' : World), Below w.heap.size w w' → RdJ w' (some ⟨J, 0, none⟩) [kA, kB, kC] → Calls Tryd.prog 11 #[.slice (some ⟨J, 0, none⟩) 3 3, .int .i64 6] w' (fun e w2 => ∃ X c, e = .returned (.slice X 6 c) ∧ 6 ≤ c ∧ c ≤ 9223372036854775807 ∧ RdT w2 X [0, 2, 2, 0, 1, -1] ∧ Below w'.heap.size w' w2)) := fun J w' hb hR => k_run6_any J w' (hL.below hb) hR
  have RM : Hid (∀ (J : Nat) (w' : World), Below w.heap.size w w' → RdJ w' (some ⟨J, 0, none⟩) [kA, kB, kC] → Calls Tryd.prog 11 #[.slice (some ⟨J, 0, none⟩) 3 3, .int .i64 (-1)] w' (fun e w2 => ∃ X c, e = .returned (.slice X 0 c) ∧ Below w'.heap.size w' w2)) := fun J w' hb hR => k_runM_any J w' (hL.below hb) hR
  have RN : Hid (∀ w' : World, Below w.heap.size w w' → Calls Tryd.prog 11 #[.slice none 0 0, .int .i64 3] w' (fun e w2 => ∃ X c, e = .returned (.slice X 3 c) ∧ Below w'.heap.size w' w2)) := fun w' hb => k_runN_any w' (hL.below hb)
  have M3 : Hid (∀ (J : Nat) (w' : World), Below w.heap.size w w' → RdJ w' (some ⟨J, 0, none⟩) [kA, kB, kC] → Calls Tryd.prog 12 #[.slice (some ⟨J, 0, none⟩) 3 3] w' (RetB (.bool false) w')) := fun J w' hb hR => k_meets3_any J w' (hL.below hb) hR
  have M2 : Hid (∀ (J : Nat) (w' : World), Below w.heap.size w w' → RdJ w' (some ⟨J, 0, none⟩) [kA, kB, kC] → Calls Tryd.prog 12 #[.slice (some ⟨J, 0, none⟩) 2 3] w' (RetB (.bool true) w')) := fun J w' hb hR => k_meets2_any J w' (hL.below hb) hR
  have I6 : Hid (∀ (X : Option Addr) (c B : Nat) (w' : World), w'.heap.size = B → 6 ≤ c → c ≤ 9223372036854775807 → RdT w' X [0, 2, 2, 0, 1, -1] → Calls Tryd.prog 10 #[.slice X 6 c, .slice (some ⟨B, 0, none⟩) 6 6] (w'.alloc (.cells #[.int .i64 0, .int .i64 2, .int .i64 2, .int .i64 0, .int .i64 1, .int .i64 (-1)] 3)) (Ret (.bool true) (w'.alloc (.cells #[.int .i64 0, .int .i64 2, .int .i64 2, .int .i64 0, .int .i64 1, .int .i64 (-1)] 3)))) := fun X c B w' hB h1 h2 h3 => by
    subst hB
    exact ints6_any X c _ _ h1 h2 (h3.below ((Below.refl _ _).alloc (Nat.le_refl _) _)) (rdT_new w' _ _ _ rfl)
  have F0 : Hid (∀ (B : Nat) (w' : World), w'.heap.size = B → Calls Tryd.prog 13 #[.int .i64 0, .slice (some ⟨B, 0, none⟩) 1 1] (w'.alloc (.cells #[.int .i64 0, .int .i64 (-5)] 35)) (RetB (.bool true) (w'.alloc (.cells #[.int .i64 0, .int .i64 (-5)] 35)))) := fun B w' hB => by
    subst hB
    exact k_fits0_any _ _ (rdL_new w' _ [⟨0, -5⟩] _ rfl)
  have F1 : Hid (∀ (B : Nat) (w' : World), w'.heap.size = B → Calls Tryd.prog 13 #[.int .i64 1, .slice (some ⟨B, 0, none⟩) 1 1] (w'.alloc (.cells #[.int .i64 0, .int .i64 (-5)] 35)) (RetB (.bool false) (w'.alloc (.cells #[.int .i64 0, .int .i64 (-5)] 35)))) := fun B w' hB => by
    subst hB
    exact k_fits1_any _ _ (rdL_new w' _ [⟨0, -5⟩] _ rfl)
  have FL : Hid (∀ (B : Nat) (w' : World), Calls Tryd.prog 13 #[.int .i64 0, .slice (some ⟨B, 0, none⟩) 1001 1001] w' (RetB (.bool false) w')) := fun B w' => fits_long _ 1001 1001 0 w' (by decide)
  obtain ⟨cs, hmk⟩ := make1001
  clear hL
  go_enter Tryd.func3, Tryd.ntmps3
  go_wp2_with fail
  refine A0.out.mono ?_; rintro e w0 ⟨rfl, b0⟩
  have hJ0 := rdJ_new w0 24 [kA, kB, kC] #[.string ⟨#[97]⟩, .int .i64 0, .int .i64 5, .int .i64 2, .int .i64 2, .int .i64 0, .int .i64 0, .bool false, .string ⟨#[98]⟩, .int .i64 0, .int .i64 5, .int .i64 1, .int .i64 1, .int .i64 0, .int .i64 0, .bool false, .string ⟨#[99]⟩, .int .i64 1, .int .i64 2, .int .i64 2, .int .i64 2, .int .i64 0, .int .i64 0, .bool false] rfl
  have bj : Hid (Below w.heap.size w (w0.alloc (.cells #[.string ⟨#[97]⟩, .int .i64 0, .int .i64 5, .int .i64 2, .int .i64 2, .int .i64 0, .int .i64 0, .bool false, .string ⟨#[98]⟩, .int .i64 0, .int .i64 5, .int .i64 1, .int .i64 1, .int .i64 0, .int .i64 0, .bool false, .string ⟨#[99]⟩, .int .i64 1, .int .i64 2, .int .i64 2, .int .i64 2, .int .i64 0, .int .i64 0, .bool false] 24))) := b0.alloc b0.size _
  replace hJ0 := Lib.hid hJ0
  clear A0 b0
  go_wp2_with fail
  generalize w0.alloc _ = w1 at *
  generalize w0.heap.size = J at *
  refine (S0.out _).mono ?_; rintro e w2 ⟨rfl, hb⟩
  have b2 := Lib.hid (below_on bj.out hb)
  have hJ2 : Hid (RdJ w2 (some ⟨J, 0, none⟩) [kA, kB, kC]) := hJ0.out.below hb
  clear S0 hb bj hJ0
  go_wp2_with fail
  refine (R6.out _ _ b2.out hJ2.out).mono ?_; rintro e w3 ⟨X, c, rfl, hc1, hc2, hX, hb⟩
  have b3 := Lib.hid (below_on b2.out hb)
  have hJ3 : Hid (RdJ w3 (some ⟨J, 0, none⟩) [kA, kB, kC]) := hJ2.out.below hb
  have I7 := Lib.hid (I6.out X c _ w3 rfl hc1 hc2 hX)
  clear R6 hb b2 hJ2 hX I6
  go_wp2_with fail
  refine I7.out.mono ?_; rintro e w4 ⟨rfl, q, rfl⟩
  have bm : Below w3.heap.size w3 ((w3.alloc (.cells #[.int .i64 0, .int .i64 2, .int .i64 2, .int .i64 0, .int .i64 1, .int .i64 (-1)] 3)).drewN q) := below_dN ((Below.refl _ _).alloc (Nat.le_refl _) _) q
  have b4 := Lib.hid (below_on b3.out bm)
  have hJ4 := Lib.hid (hJ3.out.below bm)
  clear I7 b3 hJ3 bm
  generalize (w3.alloc _).drewN q = w4 at *
  go_wp2_with fail
  refine (M3.out _ _ b4.out hJ4.out).mono ?_; rintro e w5 ⟨rfl, hb⟩
  have b5 := Lib.hid (below_on b4.out hb)
  have hJ5 : Hid (RdJ w5 (some ⟨J, 0, none⟩) [kA, kB, kC]) := hJ4.out.below hb
  clear M3 hb b4 hJ4
  go_wp2_with fail
  refine (M2.out _ _ b5.out hJ5.out).mono ?_; rintro e w6 ⟨rfl, hb⟩
  have b6 := Lib.hid (below_on b5.out hb)
  have hJ6 : Hid (RdJ w6 (some ⟨J, 0, none⟩) [kA, kB, kC]) := hJ5.out.below hb
  clear M2 hb b5 hJ5
  go_wp2_with fail
  refine (F5.out _).mono ?_; rintro e w7 ⟨rfl, hb⟩
  have b7 := Lib.hid (below_on b6.out hb)
  have hJ7 : Hid (RdJ w7 (some ⟨J, 0, none⟩) [kA, kB, kC]) := hJ6.out.below hb
  clear F5 hb b6 hJ6
  go_wp2_with fail
  refine (RM.out _ _ b7.out hJ7.out).mono ?_; rintro e w8 ⟨X8, c8, rfl, hb⟩
  have b8 := Lib.hid (below_on b7.out hb)
  clear RM hb b7 hJ7
  go_wp2_with fail
  have bm : Below w8.heap.size w8 (w8.alloc (.cells cs 35)) := (Below.refl _ _).alloc (Nat.le_refl _) _
  have b9 := Lib.hid (below_on b8.out bm)
  clear bm b8 hmk
  generalize w8.alloc _ = w9 at *
  refine (FL.out _ _).mono ?_; rintro e w10 ⟨rfl, hb⟩
  have b10 := Lib.hid (below_on b9.out hb)
  clear FL hb b9
  go_wp2_with fail
  refine (F0.out _ w10 rfl).mono ?_; rintro e w11 ⟨rfl, hb⟩
  have b11 : Hid (Below w.heap.size w w11) := by refine below_on b10.out (below_on ?_ hb); exact (Below.refl _ _).alloc (Nat.le_refl _) _
  clear F0 hb b10
  go_wp2_with fail
  refine (F1.out _ w11 rfl).mono ?_; rintro e w12 ⟨rfl, hb⟩
  have b12 : Hid (Below w.heap.size w w12) := by refine below_on b11.out (below_on ?_ hb); exact (Below.refl _ _).alloc (Nat.le_refl _) _
  clear F1 hb b11
  go_wp2_with fail
  refine (RN.out _ b12.out).mono ?_; rintro e w13 ⟨X13, c13, rfl, hb⟩
  have b13 := Lib.hid (below_on b12.out hb)
  clear RN hb b12
  go_wp2
  go_ret
  exact ⟨rfl, by have s0 := b13.out.size; (try simp only [World.heap_drewN, World.size_alloc] at s0); repeat (first | exact Below.refl _ _ | exact b13.out | refine Below.trans ?_ (Below.mono b13.out (by first | omega | (simp; done) | (simp; omega))) | refine Below.setCell ?_ (by first | omega | (simp; done) | (simp; omega)) _ | refine below_dN ?_ _ | refine Below.drew ?_ | refine Below.alloc ?_ (by first | omega | (simp; done) | (simp; omega)) _)⟩
end Go.Proofs.YtcohodpaagpfgaaDoor
