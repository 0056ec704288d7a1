/- EdfSays: any needs fit or not, any jobs run, as the document says. -/
import Derived.Test.YtcohodpaagpfgaaDoorEdAwake
import Derived.Test.YtcohodpaagpfgaaDoorEdOwn
import Derived.Test.YtcohodpaagpfgaaDoorEdRef1
import Derived.Test.YtcohodpaagpfgaaDoorEdRef3
namespace Go.Proofs.YtcohodpaagpfgaaDoor
open Go.RowKit Go.Lib
set_option linter.unusedVariables false
set_option linter.unusedSimpArgs false

theorem runL_len (l : List Jb) (t : Int) : (runL l t).length ≤ 10000 := by
  unfold runL
  split
  · rw [edfL_len]; omega
  · simp
set_option maxHeartbeats 6400000 in
set_option maxRecDepth 100000 in
theorem EdfSays_ret (A : Option Addr) (cap : Nat) (l : List Jb) (t now : Int) (N : Option Addr) (nc : Nat) (ns : List Lf) (w : World) (hL : Ltr w) (hlc : l.length ≤ cap) (hcap : cap ≤ 9223372036854775807) (hR : RdJ w A l) (ht : fitB t = true) (hnow : fitB now = true)
    (hnl : ns.length ≤ nc) (hnc : nc ≤ 9223372036854775807) (hN : RdL w N ns) (hsh : (N = none ∧ nc = 0 ∧ ns = []) ∨ ∃ ad, N = some ad) :
    Calls Tryd.prog 4 #[.slice A l.length cap, .int .i64 t, .int .i64 now, .slice N ns.length nc] w (RetB (.bool true) w) := by
  have A0 := Lib.hid (awake10_any w hL)
  obtain ⟨gh, hgh⟩ : ∃ g, heavyB 10 200 l = g := ⟨_, rfl⟩
  have A1 := Lib.hid (fun w' (hb : Below w.heap.size w w') => heavy10_any A cap l 10 200 gh w' hcap hlc (hR.below hb) hgh)
  obtain ⟨n, hl⟩ : ∃ n, l.length = n := ⟨_, rfl⟩
  obtain ⟨m, hm⟩ : ∃ n, ns.length = n := ⟨_, rfl⟩
  clear hsh ht hnow
  by_cases hgo : gh = false ∧ t ≤ 200 ∧ m ≤ 30
  · obtain ⟨rfl, ht2, hm2⟩ := hgo
    obtain ⟨h10, hns⟩ := heavy_none hgh
    have hss : ∀ x ∈ l, x.name.size ≤ 1000000 := fun x hx => by have := (hns x hx).1; omega
    have d1 : decide (t > 200) = false := decide_eq_false (by omega)
    have d2 : decide ((m : Int) > 30) = false := decide_eq_false (by omega)
    obtain ⟨z, hz⟩ : ∃ z, oZ (slackO now ns) = z := ⟨_, rfl⟩
    obtain ⟨g, hg⟩ : ∃ z, oB (slackO now ns) = z := ⟨_, rfl⟩
    obtain ⟨gf, hgf⟩ : ∃ z, fitsB now ns = z := ⟨_, rfl⟩
    obtain ⟨gm, hgm⟩ : ∃ z, meetsB l = z := ⟨_, rfl⟩
    have hrl := runL_len l t
    obtain ⟨r, hr⟩ : ∃ r, runL l t = r := ⟨_, rfl⟩
    obtain ⟨q, hq⟩ : ∃ q, r.length = q := ⟨_, rfl⟩
    rw [hr, hq] at hrl
    have O1 : Hid (∀ w', Below w.heap.size w w' → Calls Tryd.prog 15 #[.slice A l.length cap] w' (fun e w2 => ∃ A' c, e = .returned (.slice A' l.length c) ∧ l.length ≤ c ∧ c ≤ 9223372036854775807 ∧ RdJ w2 A' l ∧ Below w'.heap.size w' w2)) := fun w' hb => ownJ10_any A cap l w' (by omega) hcap hlc (hR.below hb)
    have S1 : Hid (∀ w', Below w.heap.size w w' → Calls Tryd.prog 9 #[.int .i64 now, .slice N ns.length nc] w' (RetB (.tuple #[.int .i64 z, .bool g]) w')) := fun w' hb => slack_any N nc ns now z g w' hnc hnl (hN.below hb) hz hg
    have L1 : Hid (∀ w', Below w.heap.size w w' → Calls Tryd.prog 17 #[.slice N ns.length nc] w' (fun e w2 => ∃ A' c, e = .returned (.slice A' ns.length c) ∧ ns.length ≤ c ∧ c ≤ 9223372036854775807 ∧ RdL w2 A' ns ∧ Below w'.heap.size w' w2)) := fun w' hb => lefts_any N nc ns w' (by omega) hnc hnl (hN.below hb)
    have S2 : Hid (∀ (A' : Option Addr) (c : Nat) (w' : World), ns.length ≤ c → c ≤ 9223372036854775807 → RdL w' A' ns → Calls Tryd.prog 16 #[.int .i64 now, .slice A' ns.length c] w' (Ret (.tuple #[.int .i64 z, .bool g]) w')) := fun A' c w' h1 h2 h3 => rslack_any A' c ns now z g w' (by omega) h2 h1 h3 hz hg
    have F1 : Hid (∀ w', Below w.heap.size w w' → Calls Tryd.prog 13 #[.int .i64 now, .slice N ns.length nc] w' (RetB (.bool gf) w')) := fun w' hb => fits_any N nc ns now gf w' hnc hnl (hN.below hb) hgf
    have F2 : Hid (∀ (A' : Option Addr) (c : Nat) (w' : World), ns.length ≤ c → c ≤ 9223372036854775807 → RdL w' A' ns → Calls Tryd.prog 18 #[.int .i64 now, .slice A' ns.length c] w' (Ret (.bool gf) w')) := fun A' c w' h1 h2 h3 => rfits_any A' c ns now gf w' (by omega) h2 h1 h3 hgf
    have R1 : Hid (∀ w', Below w.heap.size w w' → Calls Tryd.prog 11 #[.slice A l.length cap, .int .i64 t] w' (fun e w2 => ∃ X c, e = .returned (.slice X q c) ∧ q ≤ c ∧ c ≤ 9223372036854775807 ∧ RdT w2 X r ∧ Below w'.heap.size w' w2)) := fun w' hb => (run_any A cap l t w' (by omega) hcap hlc hss (hL.below hb) (hR.below hb)).mono fun e w2 ⟨X, c, h1, h2, h3, h4, h5, _⟩ => ⟨X, c, by rw [h1, hr, hq], by rw [hr, hq] at h2; exact h2, h3, by rw [hr] at h4; exact h4, h5⟩
    have R2 : Hid (∀ (A' : Option Addr) (c : Nat) (w' : World), Below w.heap.size w w' → l.length ≤ c → c ≤ 9223372036854775807 → RdJ w' A' l → Calls Tryd.prog 19 #[.slice A' l.length c, .int .i64 t] w' (fun e w2 => ∃ X c, e = .returned (.slice X q c) ∧ q ≤ c ∧ c ≤ 9223372036854775807 ∧ RdT w2 X r ∧ Below w'.heap.size w' w2)) := fun A' c w' hb h1 h2 h3 => (rRun_any A' c l t w' (by omega) h2 h1 hss (hL.below hb) h3).mono fun e w2 ⟨X, c, h1, h2, h3, h4, h5, _⟩ => ⟨X, c, by rw [h1, hr, hq], by rw [hr, hq] at h2; exact h2, h3, by rw [hr] at h4; exact h4, h5⟩
    have I1 : Hid (∀ (X Y : Option Addr) (c d : Nat) (w' : World), q ≤ c → c ≤ 9223372036854775807 → q ≤ d → d ≤ 9223372036854775807 → RdT w' X r → RdT w' Y r → Calls Tryd.prog 10 #[.slice X q c, .slice Y q d] w' (Ret (.bool true) w')) := fun X Y c d w' h1 h2 h3 h4 h5 h6 => ints10_any X Y c d r q w' (by omega) hq h5 h6 h1 h3 h2 h4
    have M1 : Hid (∀ w', Below w.heap.size w w' → Calls Tryd.prog 12 #[.slice A l.length cap] w' (RetB (.bool gm) w')) := fun w' hb => meets_any A cap l gm w' (by omega) hcap hlc hss (hL.below hb) (hR.below hb) hgm
    have M2 : Hid (∀ (A' : Option Addr) (c : Nat) (w' : World), Below w.heap.size w w' → l.length ≤ c → c ≤ 9223372036854775807 → RdJ w' A' l → Calls Tryd.prog 20 #[.slice A' l.length c] w' (RetB (.bool gm) w')) := fun A' c w' hb h1 h2 h3 => rMeets_any A' c l gm w' (by omega) h2 h1 hss (hL.below hb) h3 hgm
    rw [hl] at A1 hlc O1 R1 R2 M1 M2 ⊢
    rw [hm] at hnl S1 L1 S2 F1 F2 ⊢
    clear hL hR hgh hl hns hss hz hg hgf hgm hr hq h10 hm hN
    have q1 : (gf == gf) = true := by simp
    have q2 : (z == z) = true := by simp
    have q3 : (g == g) = true := by simp
    have q4 : (gm == gm) = true := by simp
    go_enter Tryd.func4, Tryd.ntmps4
    go_wp2_with fail
    refine A0.out.mono ?_; rintro e w0 ⟨rfl, b0⟩
    replace b0 := Lib.hid b0
    clear A0
    go_wp2_with fail
    refine (A1.out _ b0.out).mono ?_; rintro e w1 ⟨rfl, p1, rfl⟩
    replace b0 : Hid (Below w.heap.size w (w0.drewN p1)) := below_dN b0.out p1
    generalize w0.drewN p1 = w1 at *
    clear A1
    go_wp2_with fail
    refine (O1.out _ b0.out).mono ?_; rintro e w2 ⟨B, c, rfl, hc1, hc2, hB, hb⟩
    have b2 := Lib.hid (below_on b0.out hb)
    replace hB := Lib.hid hB
    clear O1 hb b0
    go_wp2_with fail
    refine (S1.out _ b2.out).mono ?_; rintro e w3 ⟨rfl, hb⟩
    have b3 := Lib.hid (below_on b2.out hb)
    have hB3 : Hid (RdJ w3 B l) := hB.out.below hb
    clear S1 hb b2 hB
    go_wp2_with fail
    refine (L1.out _ b3.out).mono ?_; rintro e w4 ⟨C, c4, rfl, h1, h2, hC, hb⟩
    have b4 := Lib.hid (below_on b3.out hb)
    have hB4 : Hid (RdJ w4 B l) := hB3.out.below hb
    have S3 := Lib.hid (S2.out C c4 w4 h1 h2 hC)
    clear hb b3 hB3 hC S2 h1 h2
    go_wp2_with fail
    refine S3.out.mono ?_; rintro e w5 ⟨rfl, p5, rfl⟩
    have b5 : Hid (Below w.heap.size w (w4.drewN p5)) := below_dN b4.out p5
    have hB5 : Hid (RdJ (w4.drewN p5) B l) := hB4.out
    generalize w4.drewN p5 = w5 at *
    clear b4 hB4 S3
    go_wp2_with fail
    refine (F1.out _ b5.out).mono ?_; rintro e w6 ⟨rfl, hb⟩
    have b6 := Lib.hid (below_on b5.out hb)
    have hB6 : Hid (RdJ w6 B l) := hB5.out.below hb
    clear F1 hb b5 hB5
    go_wp2_with fail
    refine (L1.out _ b6.out).mono ?_; rintro e w7 ⟨D, c7, rfl, h1, h2, hD, hb⟩
    have b7 := Lib.hid (below_on b6.out hb)
    have hB7 : Hid (RdJ w7 B l) := hB6.out.below hb
    have F3 := Lib.hid (F2.out D c7 w7 h1 h2 hD)
    clear hb b6 hB6 hD F2 L1 h1 h2
    go_wp2_with fail
    refine F3.out.mono ?_; rintro e w8 ⟨rfl, p8, rfl⟩
    have b8 : Hid (Below w.heap.size w (w7.drewN p8)) := below_dN b7.out p8
    have hB8 : Hid (RdJ (w7.drewN p8) B l) := hB7.out
    generalize w7.drewN p8 = w8 at *
    clear b7 hB7 F3
    go_wp2_with fail
    refine (R1.out _ b8.out).mono ?_; rintro e w9 ⟨X, c9, rfl, k1, k2, hX, hb⟩
    have b9 := Lib.hid (below_on b8.out hb)
    have hB9 : Hid (RdJ w9 B l) := hB8.out.below hb
    replace hX := Lib.hid hX
    clear hb b8 hB8 R1
    go_wp2_with fail
    refine (R2.out _ _ _ b9.out hc1 hc2 hB9.out).mono ?_; rintro e w10 ⟨Y, c10, rfl, k3, k4, hY, hb⟩
    have b10 := Lib.hid (below_on b9.out hb)
    have hB10 : Hid (RdJ w10 B l) := hB9.out.below hb
    have I2 := Lib.hid (I1.out X Y c9 c10 w10 k1 k2 k3 k4 (hX.out.below hb) hY)
    clear hb b9 hB9 hX hY I1 R2 k1 k2 k3 k4
    go_wp2_with fail
    refine I2.out.mono ?_; rintro e w11 ⟨rfl, p11, rfl⟩
    have b11 : Hid (Below w.heap.size w (w10.drewN p11)) := below_dN b10.out p11
    have hB11 : Hid (RdJ (w10.drewN p11) B l) := hB10.out
    generalize w10.drewN p11 = w11 at *
    clear b10 hB10 I2
    go_wp2_with fail
    refine (M1.out _ b11.out).mono ?_; rintro e w12 ⟨rfl, hb⟩
    have b12 := Lib.hid (below_on b11.out hb)
    have hB12 : Hid (RdJ w12 B l) := hB11.out.below hb
    clear M1 hb b11 hB11
    go_wp2_with fail
    refine (M2.out _ _ _ b12.out hc1 hc2 hB12.out).mono ?_; rintro e w13 ⟨rfl, hb⟩
    have b13 := Lib.hid (below_on b12.out hb)
    clear M2 hb b12 hB12
    go_wp2
    go_ret
    exact ⟨rfl, by have s0 := b13.out.size; (try simp only [World.heap_drewN, World.size_alloc] at s0); repeat (first | exact Below.refl _ _ | exact b13.out | refine Below.trans ?_ (Below.mono b13.out (by first | omega | (simp; done) | (simp; omega))) | refine Below.setCell ?_ (by first | omega | (simp; done) | (simp; omega)) _ | refine below_dN ?_ _ | refine Below.drew ?_ | refine Below.alloc ?_ (by first | omega | (simp; done) | (simp; omega)) _)⟩
  · rw [hl] at A1 hlc ⊢
    rw [hm] at hnl ⊢
    clear hL hR hgh hl hm hN
    go_enter Tryd.func4, Tryd.ntmps4
    go_wp2_with fail
    refine A0.out.mono ?_; rintro e w0 ⟨rfl, b0⟩
    replace b0 := Lib.hid b0
    clear A0
    go_wp2_with fail
    refine (A1.out _ b0.out).mono ?_; rintro e w1 ⟨rfl, q1, rfl⟩
    clear A1
    cases gh
    · by_cases ht2 : t ≤ 200
      · have d1 : decide (t > 200) = false := decide_eq_false (by omega)
        have hm3 : ¬ m ≤ 30 := fun h => hgo ⟨rfl, ht2, h⟩
        have d2 : decide ((m : Int) > 30) = true := decide_eq_true (by omega)
        clear hgo
        go_wp2
        go_ret
        exact ⟨rfl, by have s0 := b0.out.size; (try simp only [World.heap_drewN, World.size_alloc] at s0); repeat (first | exact Below.refl _ _ | exact b0.out | refine Below.trans ?_ (Below.mono b0.out (by first | omega | (simp; done) | (simp; omega))) | refine Below.setCell ?_ (by first | omega | (simp; done) | (simp; omega)) _ | refine below_dN ?_ _ | refine Below.drew ?_ | refine Below.alloc ?_ (by first | omega | (simp; done) | (simp; omega)) _)⟩
      · have d1 : decide (t > 200) = true := decide_eq_true (by omega)
        clear hgo
        go_wp2
        go_ret
        exact ⟨rfl, by have s0 := b0.out.size; (try simp only [World.heap_drewN, World.size_alloc] at s0); repeat (first | exact Below.refl _ _ | exact b0.out | refine Below.trans ?_ (Below.mono b0.out (by first | omega | (simp; done) | (simp; omega))) | refine Below.setCell ?_ (by first | omega | (simp; done) | (simp; omega)) _ | refine below_dN ?_ _ | refine Below.drew ?_ | refine Below.alloc ?_ (by first | omega | (simp; done) | (simp; omega)) _)⟩
    · go_wp2
      go_ret
      exact ⟨rfl, by have s0 := b0.out.size; (try simp only [World.heap_drewN, World.size_alloc] at s0); repeat (first | exact Below.refl _ _ | exact b0.out | refine Below.trans ?_ (Below.mono b0.out (by first | omega | (simp; done) | (simp; omega))) | refine Below.setCell ?_ (by first | omega | (simp; done) | (simp; omega)) _ | refine below_dN ?_ _ | refine Below.drew ?_ | refine Below.alloc ?_ (by first | omega | (simp; done) | (simp; omega)) _)⟩
end Go.Proofs.YtcohodpaagpfgaaDoor
