/- What the statements of traces ask first: awake. -/
import Derived.Test.YtcendklbnogmbaaDoorTrLaw
namespace Go.Proofs.YtcendklbnogmbaaDoor
open Go.RowKit Go.Lib
set_option linter.unusedVariables false
set_option linter.unusedSimpArgs false

theorem two_names : ∀ x ∈ ([jT1, jT2] : List Jb), x.name.size ≤ 1000000 := by
  intro x hx
  simp at hx
  rcases hx with rfl | rfl <;> decide
section
variable {B : Nat} {T : Option Addr} {t : List Int} {n tc : Nat} {i z : Int} {g : Bool} {w : World}
theorem two_doneAt (hL : Ltr w) (hR : RdJ w (some ⟨B, 0, none⟩) [jT1, jT2]) (hT : RdT w T t) (ht : t.length = n) (hn : n ≤ tc) (hc : tc ≤ 9223372036854775807) (hz : doneN (doneAt [jT1, jT2] t i) = z) (hb : doneB (doneAt [jT1, jT2] t i) = g) :
    Calls Tryd.prog 9 #[.slice (some ⟨B, 0, none⟩) 2 2, .slice T n tc, .int .i64 i] w (RetB (.tuple #[.int .i64 z, .bool g]) w) := by
  have h := doneAt_any (some ⟨B, 0, none⟩) 2 [jT1, jT2] T tc t i z g w (by decide) (by simp) two_names hL hR hc (by omega) hT hz hb
  rw [show ([jT1, jT2] : List Jb).length = 2 from rfl, ht] at h
  exact h
theorem two_metBy (hL : Ltr w) (hR : RdJ w (some ⟨B, 0, none⟩) [jT1, jT2]) (hT : RdT w T t) (ht : t.length = n) (hn : n ≤ tc) (hc : tc ≤ 9223372036854775807) (hz : metBy [jT1, jT2] t i = g) :
    Calls Tryd.prog 11 #[.slice (some ⟨B, 0, none⟩) 2 2, .slice T n tc, .int .i64 i] w (RetB (.bool g) w) := by
  have h := metBy_any (some ⟨B, 0, none⟩) 2 [jT1, jT2] T tc t i g w (by decide) (by simp) two_names hL hR hc (by omega) hT hz
  rw [show ([jT1, jT2] : List Jb).length = 2 from rfl, ht] at h
  exact h
theorem two_good (hL : Ltr w) (hR : RdJ w (some ⟨B, 0, none⟩) [jT1, jT2]) (hT : RdT w T t) (ht : t.length = n) (hn : n ≤ tc) (hc : tc ≤ 9223372036854775807) (hz : goodT [jT1, jT2] t = g) :
    Calls Tryd.prog 10 #[.slice (some ⟨B, 0, none⟩) 2 2, .slice T n tc] w (RetB (.bool g) w) := by
  have h := tgood_any (some ⟨B, 0, none⟩) 2 [jT1, jT2] T tc t g w (by decide) (by simp) two_names hL hR hc (by omega) hT hz
  rw [show ([jT1, jT2] : List Jb).length = 2 from rfl, ht] at h
  exact h
theorem two_value (hL : Ltr w) (hR : RdJ w (some ⟨B, 0, none⟩) [jT1, jT2]) (hT : RdT w T t) (ht : t.length = n) (hn : n ≤ tc) (hc : tc ≤ 9223372036854775807) (hz : valZ [jT1, jT2] t = z) :
    Calls Tryd.prog 22 #[.slice (some ⟨B, 0, none⟩) 2 2, .slice T n tc] w (RetB (.int .i64 z) w) := by
  have h := value_any (some ⟨B, 0, none⟩) 2 [jT1, jT2] T tc t z w (by decide) (by simp) two_names hL hR hc (by omega) hT hz
  rw [show ([jT1, jT2] : List Jb).length = 2 from rfl, ht] at h
  exact h
theorem ran_n (hT : RdT w T t) (ht : t.length = n) (hn : n ≤ tc) (hc : tc ≤ 9223372036854775807) (hz : (t.count i : Int) = z) : Calls Tryd.prog 19 #[.slice T n tc, .int .i64 i] w (Ret (.int .i64 z) w) := by
  have h := ran_any T tc t i z w hc (by omega) hT hz
  rw [ht] at h
  exact h
theorem busy_n (hT : RdT w T t) (ht : t.length = n) (hn : n ≤ tc) (hc : tc ≤ 9223372036854775807) (hz : busyZ t = z) : Calls Tryd.prog 24 #[.slice T n tc] w (Ret (.int .i64 z) w) := by
  have h := busy_any T tc t z w hc (by omega) hT hz
  rw [ht] at h
  exact h
theorem switches_n (hT : RdT w T t) (ht : t.length = n) (hn : n ≤ tc) (hc : tc ≤ 9223372036854775807) (hz : (swGo (-1) t : Int) = z) : Calls Tryd.prog 12 #[.slice T n tc] w (Ret (.int .i64 z) w) := by
  have h := switches_any T tc t z w hc (by omega) hT hz
  rw [ht] at h
  exact h
theorem cut_n {q : Nat} (hT : RdT w T t) (ht : t.length = n) (hm : n ≤ 1000000) (hn : n ≤ tc) (hc : tc ≤ 9223372036854775807) (hz : cutN t i = q) : Calls Tryd.prog 13 #[.slice T n tc, .int .i64 i] w (fun e w' => e = .returned (.slice (some ⟨w.heap.size, 0, none⟩) q q) ∧ RdT w' (some ⟨w.heap.size, 0, none⟩) (t.take q) ∧ Below w.heap.size w w') := by
  have h := cut_any T tc t i q w (by omega) hc (by omega) hT hz
  rw [ht] at h
  exact h
end
theorem two_ex (w : World) : Calls Tryd.prog 8 #[] w (fun e w' => ∃ B, e = .returned (.slice (some ⟨B, 0, none⟩) 2 2) ∧ RdJ w' (some ⟨B, 0, none⟩) [jT1, jT2] ∧ Below w.heap.size w w') :=
  (two_any w).mono fun e w' h => ⟨_, h.1, h.2.1, h.2.2⟩
def tA : List Int := [0, 0, -1, 1]
set_option maxHeartbeats 1600000 in
set_option maxRecDepth 100000 in
theorem awake9_any (w : World) (hL : Ltr w) : Calls Tryd.prog 7 #[] w (RetB (.bool true) w) := by
  have h4 : tA.length = 4 := rfl
  have C2 := Lib.hid two_ex
  have D : Hid (∀ (B X : Nat) w', Below w.heap.size w w' → RdJ w' (some ⟨B, 0, none⟩) [jT1, jT2] → RdT w' (some ⟨X, 0, none⟩) tA → Calls Tryd.prog 9 #[.slice (some ⟨B, 0, none⟩) 2 2, .slice (some ⟨X, 0, none⟩) 4 4, .int .i64 0] w' (RetB (.tuple #[.int .i64 2, .bool true]) w')) := fun B X w' hb h1 h2 => two_doneAt (hL.below hb) h1 h2 h4 (by decide) (by decide) (by kernel_rfl) (by kernel_rfl)
  have G : Hid (∀ (B X : Nat) w', Below w.heap.size w w' → RdJ w' (some ⟨B, 0, none⟩) [jT1, jT2] → RdT w' (some ⟨X, 0, none⟩) tA → Calls Tryd.prog 10 #[.slice (some ⟨B, 0, none⟩) 2 2, .slice (some ⟨X, 0, none⟩) 4 4] w' (RetB (.bool true) w')) := fun B X w' hb h1 h2 => two_good (hL.below hb) h1 h2 h4 (by decide) (by decide) (by kernel_rfl)
  have V : Hid (∀ (B X : Nat) w', Below w.heap.size w w' → RdJ w' (some ⟨B, 0, none⟩) [jT1, jT2] → RdT w' (some ⟨X, 0, none⟩) tA → Calls Tryd.prog 22 #[.slice (some ⟨B, 0, none⟩) 2 2, .slice (some ⟨X, 0, none⟩) 4 4] w' (RetB (.int .i64 5) w')) := fun B X w' hb h1 h2 => two_value (hL.below hb) h1 h2 h4 (by decide) (by decide) (by kernel_rfl)
  have R : Hid (∀ (X : Nat) w', RdT w' (some ⟨X, 0, none⟩) tA → Calls Tryd.prog 19 #[.slice (some ⟨X, 0, none⟩) 4 4, .int .i64 0] w' (Ret (.int .i64 2) w')) := fun X w' h2 => ran_n h2 h4 (by decide) (by decide) (by kernel_rfl)
  have Z : Hid (∀ (X : Nat) w', RdT w' (some ⟨X, 0, none⟩) tA → Calls Tryd.prog 24 #[.slice (some ⟨X, 0, none⟩) 4 4] w' (Ret (.int .i64 3) w')) := fun X w' h2 => busy_n h2 h4 (by decide) (by decide) (by kernel_rfl)
  have T0 := Lib.hid (rdT_made w 3 tA #[.int .i64 0, .int .i64 0, .int .i64 (-1), .int .i64 1] rfl)
  clear hL h4
  go_enter Tryd.func7, Tryd.ntmps7
  go_wp2_with fail
  refine (C2.out _).mono ?_; rintro e w1 ⟨B1, rfl, hR1, hb1⟩
  have T1 := Lib.hid (RdT.below T0.out hb1)
  have b1 : Hid (Below w.heap.size w w1) := by refine below_on ?_ hb1; exact by repeat (first | exact Below.refl _ _ | refine Below.setCell ?_ (by first | omega | (simp; done) | (simp; omega)) _ | refine below_dN ?_ _ | refine Below.drew ?_ | refine Below.alloc ?_ (by first | omega | (simp; done) | (simp; omega)) _)
  clear T0 hb1
  go_wp2_with fail
  refine (D.out _ _ _ b1.out hR1 T1.out).mono ?_; rintro e w2 ⟨rfl, hb2⟩
  have T2 := Lib.hid (RdT.below T1.out hb2)
  have b2 : Hid (Below w.heap.size w w2) := by refine below_on ?_ hb2; exact by have s0 := b1.out.size; (try simp only [World.heap_drewN, World.size_alloc] at s0); repeat (first | exact Below.refl _ _ | exact b1.out | refine Below.trans ?_ (Below.mono b1.out (by first | omega | (simp; done) | (simp; omega))) | refine Below.setCell ?_ (by first | omega | (simp; done) | (simp; omega)) _ | refine below_dN ?_ _ | refine Below.drew ?_ | refine Below.alloc ?_ (by first | omega | (simp; done) | (simp; omega)) _)
  clear hR1 T1 hb2 b1 D
  go_wp2_with fail
  refine (C2.out _).mono ?_; rintro e w3 ⟨B3, rfl, hR3, hb3⟩
  have T3 := Lib.hid (RdT.below T2.out hb3)
  have b3 : Hid (Below w.heap.size w w3) := by refine below_on ?_ hb3; exact by have s0 := b2.out.size; (try simp only [World.heap_drewN, World.size_alloc] at s0); repeat (first | exact Below.refl _ _ | exact b2.out | refine Below.trans ?_ (Below.mono b2.out (by first | omega | (simp; done) | (simp; omega))) | refine Below.setCell ?_ (by first | omega | (simp; done) | (simp; omega)) _ | refine below_dN ?_ _ | refine Below.drew ?_ | refine Below.alloc ?_ (by first | omega | (simp; done) | (simp; omega)) _)
  clear T2 hb3 b2
  go_wp2_with fail
  refine (G.out _ _ _ b3.out hR3 T3.out).mono ?_; rintro e w4 ⟨rfl, hb4⟩
  have T4 := Lib.hid (RdT.below T3.out hb4)
  have b4 : Hid (Below w.heap.size w w4) := by refine below_on ?_ hb4; exact by have s0 := b3.out.size; (try simp only [World.heap_drewN, World.size_alloc] at s0); repeat (first | exact Below.refl _ _ | exact b3.out | refine Below.trans ?_ (Below.mono b3.out (by first | omega | (simp; done) | (simp; omega))) | refine Below.setCell ?_ (by first | omega | (simp; done) | (simp; omega)) _ | refine below_dN ?_ _ | refine Below.drew ?_ | refine Below.alloc ?_ (by first | omega | (simp; done) | (simp; omega)) _)
  clear hR3 T3 hb4 b3 G
  go_wp2_with fail
  refine (R.out _ _ T4.out).mono ?_; rintro e w5 ⟨rfl, q5, rfl⟩
  go_wp2_with fail
  refine (Z.out _ _ (RdT.drewN T4.out _)).mono ?_; rintro e w5 ⟨rfl, q6, rfl⟩
  go_wp2_with fail
  refine (C2.out _).mono ?_; rintro e w7 ⟨B7, rfl, hR7, hb7⟩
  have T7 : Hid (RdT w7 (some ⟨w.heap.size, 0, none⟩) tA) := RdT.below (T4.out.drewN (q5 + q6)) hb7
  have b7 : Hid (Below w.heap.size w w7) := by refine below_on ?_ hb7; exact by have s0 := b4.out.size; (try simp only [World.heap_drewN, World.size_alloc] at s0); repeat (first | exact Below.refl _ _ | exact b4.out | refine Below.trans ?_ (Below.mono b4.out (by first | omega | (simp; done) | (simp; omega))) | refine Below.setCell ?_ (by first | omega | (simp; done) | (simp; omega)) _ | refine below_dN ?_ _ | refine Below.drew ?_ | refine Below.alloc ?_ (by first | omega | (simp; done) | (simp; omega)) _)
  clear T4 hb7 b4
  go_wp2_with fail
  refine (V.out _ _ _ b7.out hR7 T7.out).mono ?_; rintro e w8 ⟨rfl, hb8⟩
  have b8 : Hid (Below w.heap.size w w8) := by refine below_on ?_ hb8; exact by have s0 := b7.out.size; (try simp only [World.heap_drewN, World.size_alloc] at s0); repeat (first | exact Below.refl _ _ | exact b7.out | refine Below.trans ?_ (Below.mono b7.out (by first | omega | (simp; done) | (simp; omega))) | refine Below.setCell ?_ (by first | omega | (simp; done) | (simp; omega)) _ | refine below_dN ?_ _ | refine Below.drew ?_ | refine Below.alloc ?_ (by first | omega | (simp; done) | (simp; omega)) _)
  clear hR7 T7 hb8 b7 V
  go_wp2
  go_ret
  exact ⟨rfl, by have s0 := b8.out.size; (try simp only [World.heap_drewN, World.size_alloc] at s0); repeat (first | exact Below.refl _ _ | exact b8.out | refine Below.trans ?_ (Below.mono b8.out (by first | omega | (simp; done) | (simp; omega))) | refine Below.setCell ?_ (by first | omega | (simp; done) | (simp; omega)) _ | refine below_dN ?_ _ | refine Below.drew ?_ | refine Below.alloc ?_ (by first | omega | (simp; done) | (simp; omega)) _)⟩
end Go.Proofs.YtcendklbnogmbaaDoor
