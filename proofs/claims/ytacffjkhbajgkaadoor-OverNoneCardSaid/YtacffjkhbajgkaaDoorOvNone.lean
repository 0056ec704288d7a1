/- OverNone: no span has too much just if the worst one has not; loads grow with their span. -/
import Derived.Test.YtacffjkhbajgkaaDoorOvAwake
import Derived.Test.YtacffjkhbajgkaaDoorOvOwn
namespace Go.Proofs.YtacffjkhbajgkaaDoor
open Go.RowKit Go.Lib
set_option linter.unusedVariables false
set_option linter.unusedSimpArgs false

theorem spansB_worst {l : List Jb} (h : allB l = true) : spansB l = [] ↔ (worstB l).2.2 = false ∨ (worstB l).2.1 ≤ 0 := by
  rw [worstB_all h]
  unfold spansB
  rw [if_pos h]
  have g := wds_good h
  have hE := endZ_all h
  have := spansW_worst (l := wds l) (E := (endZ l).toNat + 1) (fun v hv => (g v hv).1) (fun v hv => by have := hE.2.2 v hv; omega)
  exact this
theorem loadB_grows {l : List Jb} (h : allB l = true) {a b a' b' : Int} (ha : a' ≤ a) (hb : b ≤ b') : loadB l a b ≤ loadB l a' b' := by
  rw [loadB_all h, loadB_all h]
  exact loadW_wide (fun v hv => by have := wds_good h v hv; omega) ha hb
set_option maxHeartbeats 6400000 in
set_option maxRecDepth 100000 in
theorem OverNone_ret (A : Option Addr) (cap : Nat) (l : List Jb) (f t b : Int) (w : World) (hL : Ltr w) (hlc : l.length ≤ cap) (hcap : cap ≤ 9223372036854775807) (hR : RdJ w A l) (hf : fitB f = true) (ht : fitB t = true) (hb : fitB b = true) :
    Calls Tryd.prog 5 #[.slice A l.length cap, .int .i64 f, .int .i64 t, .int .i64 b] w (RetB (.bool true) w) := by
  have A0 := Lib.hid (awake18_any w hL)
  obtain ⟨gh, hgh⟩ : ∃ g, heavyB 10 300 l = g := ⟨_, rfl⟩
  have A1 := Lib.hid (fun w' (hb : Below w.heap.size w w') => heavy18_any A cap l 10 300 gh w' hcap hlc (hR.below hb) hgh)
  obtain ⟨n, hl⟩ : ∃ n, l.length = n := ⟨_, rfl⟩
  have hf2 := fit_iff hf
  have ht2 := fit_iff ht
  clear hf ht hb
  cases gh
  · obtain ⟨h10, hns⟩ := heavy_none hgh
    have hss : ∀ x ∈ l, x.name.size ≤ 1000000 := fun x hx => by have := (hns x hx).1; omega
    obtain ⟨ga, hga⟩ : ∃ g, allB l = g := ⟨_, rfl⟩
    have A2 : Hid (∀ w', Below w.heap.size w w' → Calls Tryd.prog 17 #[.slice A l.length cap] w' (RetB (.bool ga) w')) := fun w' hb => all_any A cap l ga w' hcap hlc hss (hL.below hb) (hR.below hb) hga
    obtain ⟨⟨⟨wa, wb⟩, wd, wq⟩, hww⟩ : ∃ z, worstB l = z := ⟨_, rfl⟩
    obtain ⟨sp, hsp⟩ : ∃ s, spansB l = s := ⟨_, rfl⟩
    have S1 : Hid (∀ w', Below w.heap.size w w' → Calls Tryd.prog 8 #[.slice A l.length cap] w' (fun e w2 => ∃ X c, e = .returned (.slice X sp.length c) ∧ Below w'.heap.size w' w2)) := fun w' hb => (spans_any A cap l w' (by omega) hcap hlc hss (hL.below hb) (hR.below hb)).mono fun e w2 ⟨v, h1, h2, h3⟩ => by
      rw [hsp] at h2
      obtain ⟨X, c, rfl, _, _, h4⟩ := own_rdS h2
      exact ⟨X, c, h1, h3⟩
    have W1 : Hid (∀ w', Below w.heap.size w w' → Calls Tryd.prog 10 #[.slice A l.length cap] w' (RetB (.tuple #[.agg #[.int .i64 wa, .int .i64 wb], .int .i64 wd, .bool wq]) w')) := fun w' hb => worst_any A cap l wa wb wd wq w' (by omega) hcap hlc hss (hL.below hb) (hR.below hb) hww
    have L1 : Hid (∀ f t z w', loadB l f t = z → Below w.heap.size w w' → Calls Tryd.prog 11 #[.slice A l.length cap, .int .i64 f, .int .i64 t] w' (RetB (.int .i64 z) w')) := fun f t z w' hz hb => load_any A cap l f t z w' (by omega) hcap hlc hss (hL.below hb) (hR.below hb) hz
    have hwo := worstB_ok l
    rw [hww, hga, hl] at hwo
    simp only at hwo
    have HS : Hid (ga = true → (sp = [] ↔ wq = false ∨ wd ≤ 0)) := fun h => by have := spansB_worst (hga.trans h); rw [hww, hsp] at this; exact this
    have HL : Hid (ga = true → ∀ a b a' b' : Int, a' ≤ a → b ≤ b' → loadB l a b ≤ loadB l a' b') := fun h a b a' b' h1 h2 => loadB_grows (hga.trans h) h1 h2
    obtain ⟨q, hq⟩ : ∃ q, sp.length = q := ⟨_, rfl⟩
    have HQ : Hid (sp = [] ↔ q = 0) := by show _ ↔ _; rw [← hq, List.length_eq_zero_iff]
    rw [hq] at S1
    rw [hl] at A1 A2 hlc S1 W1 L1 ⊢
    clear hL hR hgh hl hns hss hww hsp hq hga h10
    go_enter Tryd.func5, Tryd.ntmps5
    go_wp2_with fail
    refine A0.out.mono ?_; rintro e w0 ⟨rfl, b0⟩
    replace b0 := Lib.hid b0
    clear A0
    go_wp2_with fail
    refine (A1.out _ b0.out).mono ?_; rintro e w1 ⟨rfl, p1, rfl⟩
    replace b0 : Hid (Below w.heap.size w (w0.drewN p1)) := below_dN b0.out p1
    generalize w0.drewN p1 = w1 at *
    clear A1
    go_wp2_with fail
    refine (A2.out _ b0.out).mono ?_; rintro e w2 ⟨rfl, hb⟩
    have b2 := Lib.hid (below_on b0.out hb)
    clear A2 hb b0
    cases ga
    · clear HS HL hwo
      go_wp2
      go_ret
      exact ⟨rfl, by have s0 := b2.out.size; (try simp only [World.heap_drewN, World.size_alloc] at s0); repeat (first | exact Below.refl _ _ | exact b2.out | refine Below.trans ?_ (Below.mono b2.out (by first | omega | (simp; done) | (simp; omega))) | refine Below.setCell ?_ (by first | omega | (simp; done) | (simp; omega)) _ | refine below_dN ?_ _ | refine Below.drew ?_ | refine Below.alloc ?_ (by first | omega | (simp; done) | (simp; omega)) _)⟩
    · replace HS := Lib.hid (HS.out rfl)
      replace HL := Lib.hid (HL.out rfl)
      by_cases k1 : f < 0
      · clear hwo hf2 ht2
        go_wp2
        go_ret
        exact ⟨rfl, by have s0 := b2.out.size; (try simp only [World.heap_drewN, World.size_alloc] at s0); repeat (first | exact Below.refl _ _ | exact b2.out | refine Below.trans ?_ (Below.mono b2.out (by first | omega | (simp; done) | (simp; omega))) | refine Below.setCell ?_ (by first | omega | (simp; done) | (simp; omega)) _ | refine below_dN ?_ _ | refine Below.drew ?_ | refine Below.alloc ?_ (by first | omega | (simp; done) | (simp; omega)) _)⟩
      have k1' : decide (f < 0) = false := decide_eq_false k1
      by_cases k2 : t > 10000
      · clear hwo hf2 ht2
        go_wp2
        go_ret
        exact ⟨rfl, by have s0 := b2.out.size; (try simp only [World.heap_drewN, World.size_alloc] at s0); repeat (first | exact Below.refl _ _ | exact b2.out | refine Below.trans ?_ (Below.mono b2.out (by first | omega | (simp; done) | (simp; omega))) | refine Below.setCell ?_ (by first | omega | (simp; done) | (simp; omega)) _ | refine below_dN ?_ _ | refine Below.drew ?_ | refine Below.alloc ?_ (by first | omega | (simp; done) | (simp; omega)) _)⟩
      have k2' : decide (t > 10000) = false := decide_eq_false k2
      by_cases k3 : b < 0
      · clear hwo hf2 ht2
        go_wp2
        go_ret
        exact ⟨rfl, by have s0 := b2.out.size; (try simp only [World.heap_drewN, World.size_alloc] at s0); repeat (first | exact Below.refl _ _ | exact b2.out | refine Below.trans ?_ (Below.mono b2.out (by first | omega | (simp; done) | (simp; omega))) | refine Below.setCell ?_ (by first | omega | (simp; done) | (simp; omega)) _ | refine below_dN ?_ _ | refine Below.drew ?_ | refine Below.alloc ?_ (by first | omega | (simp; done) | (simp; omega)) _)⟩
      have k3' : decide (b < 0) = false := decide_eq_false k3
      by_cases k4 : b > 100
      · clear hwo hf2 ht2
        go_wp2
        go_ret
        exact ⟨rfl, by have s0 := b2.out.size; (try simp only [World.heap_drewN, World.size_alloc] at s0); repeat (first | exact Below.refl _ _ | exact b2.out | refine Below.trans ?_ (Below.mono b2.out (by first | omega | (simp; done) | (simp; omega))) | refine Below.setCell ?_ (by first | omega | (simp; done) | (simp; omega)) _ | refine below_dN ?_ _ | refine Below.drew ?_ | refine Below.alloc ?_ (by first | omega | (simp; done) | (simp; omega)) _)⟩
      have k4' : decide (b > 100) = false := decide_eq_false k4
      obtain ⟨fb, hfb⟩ : ∃ z, f - b = z := ⟨_, rfl⟩
      obtain ⟨tb, htb⟩ : ∃ z, t + b = z := ⟨_, rfl⟩
      have e1 : Hid (IntKind.i64.wrap (f - b) = fb) := by show _ = _; rw [IntKind.wrap_i64]; omega
      have e1' : Hid (wrap64 (f - b) = fb) := by show _ = _; unfold wrap64; omega
      have e2 : Hid (IntKind.i64.wrap (t + b) = tb) := by show _ = _; rw [IntKind.wrap_i64]; omega
      have e2' : Hid (wrap64 (t + b) = tb) := by show _ = _; unfold wrap64; omega
      obtain ⟨z1, hz1⟩ : ∃ z, loadB l f t = z := ⟨_, rfl⟩
      obtain ⟨z2, hz2⟩ : ∃ z, loadB l fb tb = z := ⟨_, rfl⟩
      have hzz := HL.out f t fb tb (by omega) (by omega)
      rw [hz1, hz2] at hzz
      have d9 : decide (z1 ≤ z2) = true := decide_eq_true hzz
      have L2 : Hid (∀ w', Below w.heap.size w w' → Calls Tryd.prog 11 #[.slice A n cap, .int .i64 f, .int .i64 t] w' (RetB (.int .i64 z1) w')) := fun w' hb => L1.out f t z1 w' hz1 hb
      have L3 : Hid (∀ w', Below w.heap.size w w' → Calls Tryd.prog 11 #[.slice A n cap, .int .i64 fb, .int .i64 tb] w' (RetB (.int .i64 z2) w')) := fun w' hb => L1.out fb tb z2 w' hz2 hb
      have hc : (wq = false ∧ q = 0) ∨ (wq = true ∧ wd ≤ 0 ∧ q = 0) ∨ (wq = true ∧ ¬ wd ≤ 0 ∧ q ≠ 0) := by
        have h1 := HS.out
        rw [HQ.out] at h1
        cases wq
        · exact .inl ⟨rfl, h1.2 (.inl rfl)⟩
        · by_cases h2 : wd ≤ 0
          · exact .inr (.inl ⟨rfl, h2, h1.2 (.inr h2)⟩)
          · exact .inr (.inr ⟨rfl, h2, fun h => by rcases h1.1 h with h3 | h3; cases h3; exact h2 h3⟩)
      have hn0 : ∀ g, decide (0 < n) = g → decide ((n : Int) > 0) = g := fun g h => by rw [← h, decide_eq_decide]; omega
      clear HL HS HQ hz1 hz2 hzz L1 hf2 ht2 hfb htb k1 k2 k3 k4
      rw [Bool.true_and] at hwo
      rcases hc with ⟨rfl, rfl⟩ | ⟨rfl, h1, rfl⟩ | ⟨rfl, h1, h2⟩
      · obtain rfl : n = 0 := by have := of_decide_eq_false hwo.symm; omega
        clear hn0 hwo
        go_wp2_with fail
        refine (W1.out _ b2.out).mono ?_; rintro e w3 ⟨rfl, hb⟩
        have b3 : Hid (Below w.heap.size w (w3.alloc (.cells #[.int .i64 wa, .int .i64 wb] 32))) := below_on b2.out (hb.alloc hb.size _)
        clear W1 hb b2
        have S2 := Lib.hid (S1.out _ b3.out)
        clear S1
        go_wp2_with fail
        refine S2.out.mono ?_; rintro e w4 ⟨X, c, rfl, hb⟩
        have b4 := Lib.hid (below_on b3.out hb)
        clear S2 hb b3
        replace e1 := e1.out
        replace e1' := e1'.out
        replace e2 := e2.out
        replace e2' := e2'.out
        go_wp2_with fail
        refine (L2.out _ b4.out).mono ?_; rintro e w5 ⟨rfl, hb⟩
        have b5 := Lib.hid (below_on b4.out hb)
        clear L2 hb b4
        go_wp2_with fail
        refine (L3.out _ b5.out).mono ?_; rintro e w6 ⟨rfl, hb⟩
        have b6 := Lib.hid (below_on b5.out hb)
        clear L3 hb b5
        go_wp2
        go_ret
        exact ⟨rfl, by have s0 := b6.out.size; (try simp only [World.heap_drewN, World.size_alloc] at s0); repeat (first | exact Below.refl _ _ | exact b6.out | refine Below.trans ?_ (Below.mono b6.out (by first | omega | (simp; done) | (simp; omega))) | refine Below.setCell ?_ (by first | omega | (simp; done) | (simp; omega)) _ | refine below_dN ?_ _ | refine Below.drew ?_ | refine Below.alloc ?_ (by first | omega | (simp; done) | (simp; omega)) _)⟩
      · have n0 : 0 < n := of_decide_eq_true hwo.symm
        have n1 : (0 : Int) < (n : Int) := by omega
        have d4 : decide (wd ≤ 0) = true := decide_eq_true h1
        clear hn0 hwo h1
        go_wp2_with fail
        refine (W1.out _ b2.out).mono ?_; rintro e w3 ⟨rfl, hb⟩
        have b3 : Hid (Below w.heap.size w (w3.alloc (.cells #[.int .i64 wa, .int .i64 wb] 32))) := below_on b2.out (hb.alloc hb.size _)
        clear W1 hb b2
        have S2 := Lib.hid (S1.out _ b3.out)
        clear S1
        go_wp2_with fail
        refine S2.out.mono ?_; rintro e w4 ⟨X, c, rfl, hb⟩
        have b4 := Lib.hid (below_on b3.out hb)
        clear S2 hb b3
        replace e1 := e1.out
        replace e1' := e1'.out
        replace e2 := e2.out
        replace e2' := e2'.out
        go_wp2_with fail
        refine (L2.out _ b4.out).mono ?_; rintro e w5 ⟨rfl, hb⟩
        have b5 := Lib.hid (below_on b4.out hb)
        clear L2 hb b4
        go_wp2_with fail
        refine (L3.out _ b5.out).mono ?_; rintro e w6 ⟨rfl, hb⟩
        have b6 := Lib.hid (below_on b5.out hb)
        clear L3 hb b5
        go_wp2
        go_ret
        exact ⟨rfl, by have s0 := b6.out.size; (try simp only [World.heap_drewN, World.size_alloc] at s0); repeat (first | exact Below.refl _ _ | exact b6.out | refine Below.trans ?_ (Below.mono b6.out (by first | omega | (simp; done) | (simp; omega))) | refine Below.setCell ?_ (by first | omega | (simp; done) | (simp; omega)) _ | refine below_dN ?_ _ | refine Below.drew ?_ | refine Below.alloc ?_ (by first | omega | (simp; done) | (simp; omega)) _)⟩
      · have n0 : 0 < n := of_decide_eq_true hwo.symm
        have n1 : (0 : Int) < (n : Int) := by omega
        have d4 : decide (wd ≤ 0) = false := decide_eq_false h1
        have d5 : ((q : Int) == 0) = false := by rw [beq_eq_false_iff_ne]; omega
        clear hn0 hwo h1 h2
        go_wp2_with fail
        refine (W1.out _ b2.out).mono ?_; rintro e w3 ⟨rfl, hb⟩
        have b3 : Hid (Below w.heap.size w (w3.alloc (.cells #[.int .i64 wa, .int .i64 wb] 32))) := below_on b2.out (hb.alloc hb.size _)
        clear W1 hb b2
        have S2 := Lib.hid (S1.out _ b3.out)
        clear S1
        go_wp2_with fail
        refine S2.out.mono ?_; rintro e w4 ⟨X, c, rfl, hb⟩
        have b4 := Lib.hid (below_on b3.out hb)
        clear S2 hb b3
        replace e1 := e1.out
        replace e1' := e1'.out
        replace e2 := e2.out
        replace e2' := e2'.out
        go_wp2_with fail
        refine (L2.out _ b4.out).mono ?_; rintro e w5 ⟨rfl, hb⟩
        have b5 := Lib.hid (below_on b4.out hb)
        clear L2 hb b4
        go_wp2_with fail
        refine (L3.out _ b5.out).mono ?_; rintro e w6 ⟨rfl, hb⟩
        have b6 := Lib.hid (below_on b5.out hb)
        clear L3 hb b5
        go_wp2
        go_ret
        exact ⟨rfl, by have s0 := b6.out.size; (try simp only [World.heap_drewN, World.size_alloc] at s0); repeat (first | exact Below.refl _ _ | exact b6.out | refine Below.trans ?_ (Below.mono b6.out (by first | omega | (simp; done) | (simp; omega))) | refine Below.setCell ?_ (by first | omega | (simp; done) | (simp; omega)) _ | refine below_dN ?_ _ | refine Below.drew ?_ | refine Below.alloc ?_ (by first | omega | (simp; done) | (simp; omega)) _)⟩
  · rw [hl] at A1 hlc ⊢
    clear hL hR hgh hl
    go_enter Tryd.func5, Tryd.ntmps5
    go_wp2_with fail
    refine A0.out.mono ?_; rintro e w0 ⟨rfl, b0⟩
    replace b0 := Lib.hid b0
    clear A0
    go_wp2_with fail
    refine (A1.out _ b0.out).mono ?_; rintro e w1 ⟨rfl, q1, rfl⟩
    clear A1
    go_wp2
    go_ret
    exact ⟨rfl, by have s0 := b0.out.size; (try simp only [World.heap_drewN, World.size_alloc] at s0); repeat (first | exact Below.refl _ _ | exact b0.out | refine Below.trans ?_ (Below.mono b0.out (by first | omega | (simp; done) | (simp; omega))) | refine Below.setCell ?_ (by first | omega | (simp; done) | (simp; omega)) _ | refine below_dN ?_ _ | refine Below.drew ?_ | refine Below.alloc ?_ (by first | omega | (simp; done) | (simp; omega)) _)⟩
end Go.Proofs.YtacffjkhbajgkaaDoor
