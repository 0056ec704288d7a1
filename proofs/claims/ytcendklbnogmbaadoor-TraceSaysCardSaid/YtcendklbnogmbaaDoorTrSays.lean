/- TraceSays: any trace of any jobs: whether it may be, who ran, who was done when, what was earned, is as the document says. (Its region is written by gentsays.py from XTrSays.base.) -/
import Derived.Test.YtcendklbnogmbaaDoorTrApp
import Derived.Test.YtcendklbnogmbaaDoorTrRef3
import Derived.Test.YtcendklbnogmbaaDoorRegT
import Derived.Deep.RegionHeld3
import Derived.Deep.DeepCutAuto
namespace Go.Proofs.YtcendklbnogmbaaDoor
open Go.RowKit Go.Lib
set_option linter.unusedVariables false
set_option linter.unusedSimpArgs false

set_option maxHeartbeats 12800000 in
set_option maxRecDepth 100000 in
theorem TraceSays_ret (A : Option Addr) (cap : Nat) (l : List Jb) (T : Option Addr) (tc : Nat) (t : List Int) (i c : Int) (w : World) (hL : Ltr w) (hlc : l.length ≤ cap) (hcap : cap ≤ 9223372036854775807) (hR : RdJ w A l)
    (htl : t.length ≤ tc) (htc : tc ≤ 9223372036854775807) (hT : RdT w T t) (hsh : (T = none ∧ tc = 0 ∧ t = []) ∨ ∃ ad, T = some ad) (hi : fitB i = true) (hc : fitB c = true) :
    Calls Tryd.prog 4 #[.slice A l.length cap, .slice T t.length tc, .int .i64 i, .int .i64 c] w (RetB (.bool true) w) := by
  have A0 := Lib.hid (awake9_any w hL)
  obtain ⟨gh, hgh⟩ : ∃ g, heavyB 20 10000 l = g := ⟨_, rfl⟩
  have A1 := Lib.hid (fun w' (hb : Below w.heap.size w w') => heavy9_any A cap l 20 10000 gh w' hcap hlc (hR.below hb) hgh)
  obtain ⟨n, hl⟩ : ∃ n, l.length = n := ⟨_, rfl⟩
  obtain ⟨m, hm⟩ : ∃ n, t.length = n := ⟨_, rfl⟩
  clear hc hi
  by_cases hgo : gh = false ∧ m ≤ 200
  · obtain ⟨rfl, hm2⟩ := hgo
    obtain ⟨h30, hns⟩ := heavy_none hgh
    have hss : ∀ x ∈ l, x.name.size ≤ 1000000 := fun x hx => by have := (hns x hx).1; omega
    have hl2 : l.length ≤ 1000 := by omega
    have ht2 : t.length ≤ 1000000 := by omega
    obtain ⟨gg, hgg⟩ : ∃ g, goodT l t = g := ⟨_, rfl⟩
    obtain ⟨z, hz⟩ : ∃ z, doneN (doneAt l t i) = z := ⟨_, rfl⟩
    obtain ⟨gd, hgd⟩ : ∃ z, doneB (doneAt l t i) = z := ⟨_, rfl⟩
    obtain ⟨gm, hgm⟩ : ∃ z, metBy l t i = z := ⟨_, rfl⟩
    obtain ⟨v, hv⟩ : ∃ z, valZ l t = z := ⟨_, rfl⟩
    obtain ⟨s, hs⟩ : ∃ z : Int, (swGo (-1) t : Int) = z := ⟨_, rfl⟩
    obtain ⟨y, hy⟩ : ∃ z, busyZ t = z := ⟨_, rfl⟩
    obtain ⟨k, hk⟩ : ∃ z : Int, (t.count i : Int) = z := ⟨_, rfl⟩
    obtain ⟨q, hq⟩ : ∃ q, cutN t c = q := ⟨_, rfl⟩
    have hqm : q ≤ m := by unfold cutN at hq; omega
    have hlq : (t.take q).length = q := by rw [List.length_take]; omega
    obtain ⟨Aq, cq, hsl, hq1, hq2, hq3⟩ := cut_ticks (k := q) hsh hm hqm (by omega) htc
    have O1 : Hid (∀ w', Below w.heap.size w w' → Calls Tryd.prog 16 #[.slice A l.length cap] w' (fun e w2 => ∃ A' c, e = .returned (.slice A' l.length c) ∧ l.length ≤ c ∧ c ≤ 9223372036854775807 ∧ RdJ w2 A' l ∧ Below w'.heap.size w' w2)) := fun w' hb => ownJ9_any A cap l w' hl2 hcap hlc (hR.below hb)
    have D1 : Hid (∀ w', Below w.heap.size w w' → Calls Tryd.prog 9 #[.slice A l.length cap, .slice T t.length tc, .int .i64 i] w' (RetB (.tuple #[.int .i64 z, .bool gd]) w')) := fun w' hb => doneAt_any A cap l T tc t i z gd w' hcap hlc hss (hL.below hb) (hR.below hb) htc htl (hT.below hb) hz hgd
    have D2 : Hid (∀ A' c' w', Below w.heap.size w w' → l.length ≤ c' → c' ≤ 9223372036854775807 → RdJ w' A' l → Calls Tryd.prog 17 #[.slice A' l.length c', .slice T t.length tc, .int .i64 i] w' (RetB (.tuple #[.int .i64 z, .bool gd]) w')) := fun A' c' w' hb h1 h2 h3 => rdoneAt_any A' c' l T tc t i z gd w' (by omega) ht2 h2 h1 hss (hL.below hb) h3 htc htl (hT.below hb) hz hgd
    have G1 : Hid (∀ w', Below w.heap.size w w' → Calls Tryd.prog 10 #[.slice A l.length cap, .slice T t.length tc] w' (RetB (.bool gg) w')) := fun w' hb => tgood_any A cap l T tc t gg w' hcap hlc hss (hL.below hb) (hR.below hb) htc htl (hT.below hb) hgg
    have G2 : Hid (∀ A' c' w', Below w.heap.size w w' → l.length ≤ c' → c' ≤ 9223372036854775807 → RdJ w' A' l → Calls Tryd.prog 18 #[.slice A' l.length c', .slice T t.length tc] w' (RetB (.bool gg) w')) := fun A' c' w' hb h1 h2 h3 => rgood9_any A' c' l T tc t gg w' hl2 ht2 h2 h1 hss (hL.below hb) h3 htc htl (hT.below hb) hgg
    have N1 : Hid (∀ w', Below w.heap.size w w' → Calls Tryd.prog 19 #[.slice T t.length tc, .int .i64 i] w' (Ret (.int .i64 k) w')) := fun w' hb => ran_any T tc t i _ w' htc htl (hT.below hb) hk
    have N2 : Hid (∀ w', Below w.heap.size w w' → Calls Tryd.prog 20 #[.slice T t.length tc, .int .i64 i] w' (Ret (.int .i64 k) w')) := fun w' hb => rran_any T tc t i _ w' ht2 htc htl (hT.below hb) hk
    have M1 : Hid (∀ w', Below w.heap.size w w' → Calls Tryd.prog 11 #[.slice A l.length cap, .slice T t.length tc, .int .i64 i] w' (RetB (.bool gm) w')) := fun w' hb => metBy_any A cap l T tc t i gm w' hcap hlc hss (hL.below hb) (hR.below hb) htc htl (hT.below hb) hgm
    have M2 : Hid (∀ A' c' w', Below w.heap.size w w' → l.length ≤ c' → c' ≤ 9223372036854775807 → RdJ w' A' l → Calls Tryd.prog 21 #[.slice A' l.length c', .slice T t.length tc, .int .i64 i] w' (RetB (.bool gm) w')) := fun A' c' w' hb h1 h2 h3 => rmetBy_any A' c' l T tc t i gm w' (by omega) ht2 h2 h1 hss (hL.below hb) h3 htc htl (hT.below hb) hgm
    have V1 : Hid (∀ w', Below w.heap.size w w' → Calls Tryd.prog 22 #[.slice A l.length cap, .slice T t.length tc] w' (RetB (.int .i64 v) w')) := fun w' hb => value_any A cap l T tc t v w' hcap hlc hss (hL.below hb) (hR.below hb) htc htl (hT.below hb) hv
    have V2 : Hid (∀ A' c' w', Below w.heap.size w w' → l.length ≤ c' → c' ≤ 9223372036854775807 → RdJ w' A' l → Calls Tryd.prog 23 #[.slice A' l.length c', .slice T t.length tc] w' (RetB (.int .i64 v) w')) := fun A' c' w' hb h1 h2 h3 => rvalue_any A' c' l T tc t v w' hl2 ht2 h2 h1 hss (hL.below hb) h3 htc htl (hT.below hb) hv
    have Y1 : Hid (∀ w', Below w.heap.size w w' → Calls Tryd.prog 24 #[.slice T t.length tc] w' (Ret (.int .i64 y) w')) := fun w' hb => busy_any T tc t y w' htc htl (hT.below hb) hy
    have Y2 : Hid (∀ w', Below w.heap.size w w' → Calls Tryd.prog 25 #[.slice T t.length tc] w' (Ret (.int .i64 y) w')) := fun w' hb => rbusy_any T tc t y w' ht2 htc htl (hT.below hb) hy
    have S1 : Hid (∀ w', Below w.heap.size w w' → Calls Tryd.prog 12 #[.slice T t.length tc] w' (Ret (.int .i64 s) w')) := fun w' hb => switches_any T tc t _ w' htc htl (hT.below hb) hs
    have S2 : Hid (∀ w', Below w.heap.size w w' → Calls Tryd.prog 26 #[.slice T t.length tc] w' (Ret (.int .i64 s) w')) := fun w' hb => rswitches_any T tc t _ w' ht2 htc htl (hT.below hb) hs
    have K1 : Hid (∀ w', Below w.heap.size w w' → Calls Tryd.prog 13 #[.slice T t.length tc, .int .i64 c] w' (fun e w2 => ∃ B, e = .returned (.slice (some ⟨B, 0, none⟩) q q) ∧ RdT w2 (some ⟨B, 0, none⟩) (t.take q) ∧ Below w'.heap.size w' w2)) := fun w' hb => (cut_any T tc t c q w' ht2 htc htl (hT.below hb) hq).mono fun e w2 h => ⟨_, h.1, h.2.1, h.2.2⟩
    have I1 : Hid (∀ B w', Below w.heap.size w w' → RdT w' (some ⟨B, 0, none⟩) (t.take q) → Calls Tryd.prog 14 #[.slice (some ⟨B, 0, none⟩) q q, .slice Aq q cq] w' (Ret (.bool true) w')) := fun B w' hb h => ints9_any _ _ q cq (t.take q) q w' (by omega) hlq h (hq3 _ (hT.below hb)) (Nat.le_refl _) hq1 (by omega) hq2
    obtain ⟨k1, hk1⟩ : ∃ k1, max c 0 = k1 := ⟨_, rfl⟩
    have hq9 : (q : Int) = min k1 (m : Int) := by unfold cutN at hq; omega
    have RJ : Hid (∀ A' w' w2, RdJ w' A' l → Below w'.heap.size w' w2 → RdJ w2 A' l) := fun A' w' w2 h hb => h.below hb
    rw [hl] at A1 hlc h30 O1 D1 D2 G1 G2 M1 M2 V1 V2 ⊢
    rw [hm] at htl D1 D2 G1 G2 N1 N2 M1 M2 V1 V2 Y1 Y2 S1 S2 K1 ⊢
    clear hL hR hT hgh hl hm hns hss hgg hz hgd hgm hv hs hy hk hq hlq hq1 hq2 hq3 hsh hl2 ht2
    have d1 : decide ((m : Int) > 200) = false := decide_eq_false (by omega)
    go_enter Tryd.func4, Tryd.ntmps4
    go_wp2_with fail
    refine A0.out.mono ?_; rintro e w0 ⟨rfl, b0⟩
    replace b0 := Lib.hid b0
    clear A0
    go_wp2_with fail
    refine (A1.out _ b0.out).mono ?_; rintro e w1 ⟨rfl, q1, rfl⟩
    replace b0 : Hid (Below w.heap.size w (w0.drewN q1)) := below_dN b0.out q1
    generalize w0.drewN q1 = w1 at *
    clear A1
    go_wp2_with fail
    refine (O1.out _ b0.out).mono ?_; rintro e w2 ⟨Am, cm, rfl, j1, j2, hRm, hb⟩
    have b2 : Hid (Below w.heap.size w w2) := below_on b0.out hb
    replace hRm : Hid (RdJ w2 Am l) := hRm
    clear b0 hb O1 d1
    go_wp2_with fail
    refine (D1.out _ b2.out).mono ?_; rintro e w3 ⟨rfl, hb⟩
    have b3 : Hid (Below w.heap.size w w3) := below_on b2.out hb
    replace hRm : Hid (RdJ w3 Am l) := RJ.out _ _ _ hRm.out hb
    clear b2 hb D1
    go_wp2_with fail
    refine (D2.out _ _ _ b3.out j1 j2 hRm.out).mono ?_; rintro e w4 ⟨rfl, hb⟩
    have b4 : Hid (Below w.heap.size w w4) := below_on b3.out hb
    replace hRm : Hid (RdJ w4 Am l) := RJ.out _ _ _ hRm.out hb
    clear b3 hb D2
    go_upto_if 42 with fail
    go_cut [14] (fun s14 wx => s14 = .int .i64 k1 ∧ wx = w4)
    case first =>
      by_cases hc0 : c < 0
      · have d1 : decide (c < 0) = true := decide_eq_true hc0
        obtain rfl : 0 = k1 := by omega
        clear hk1 hq9 hsl hqm
        go_wp2
        go_meet
        exact ⟨rfl, rfl⟩
      · have d1 : decide (c < 0) = false := decide_eq_false hc0
        obtain rfl : c = k1 := by omega
        clear hk1 hq9 hsl hqm
        go_wp2
        go_meet
        exact ⟨rfl, rfl⟩
    case rest =>
      obtain ⟨rfl, hw⟩ := hcut
      subst wc
      go_upto_if 46 with fail
      go_cut [14] (fun s14 wx => s14 = .int .i64 (q : Int) ∧ wx = w4)
      case first =>
        by_cases hc0 : k1 > (m : Int)
        · have d1 : decide (k1 > (m : Int)) = true := decide_eq_true hc0
          obtain rfl : m = q := by omega
          clear hk1 hq9 hsl hqm
          go_wp2
          go_meet
          exact ⟨rfl, rfl⟩
        · have d1 : decide (k1 > (m : Int)) = false := decide_eq_false hc0
          obtain rfl : (q : Int) = k1 := by omega
          clear hk1 hq9 hsl hqm
          go_wp2
          go_meet
          exact ⟨rfl, rfl⟩
      case rest =>
        obtain ⟨rfl, hw⟩ := hcut
        subst wc
        rename_i K0 hK0
        refine hK0 _ _ ?_
        clear hK0
        have b5 : Hid (Below w.heap.size w w4) := b4
        go_wp2_with fail
        clear hq9 hk1 b5
        have hS0 : Below w.heap.size w w4.drew := b4.out.drew
        replace hRm : RdJ w4.drew Am l := hRm.out
        dsimp only [List.append]
        refine wp_region_held_drew (S := fun W => Below w.heap.size w W) (by kernel_rfl) hS0 (fun hHeld => ?_)
        have hSS := hHeld
        refine wpAnyH_take (i := 0) (v := (.slice A n cap)) rfl (by kernel_rfl) (by kernel_rfl) (by kernel_rfl) (fun _ _ _ h => h) (Or.inl ⟨by rfl, ?_⟩) hHeld ?_
        · intro w hSw; go_simp
        try simp only [List.getElem_toArray, List.getElem_cons_zero, List.getElem_cons_succ, Act.put, List.setIfInBounds_toArray, List.set_cons_zero, List.set_cons_succ]
        refine wpAnyH_take (i := 1) (v := (.slice T m tc)) rfl (by kernel_rfl) (by kernel_rfl) (by kernel_rfl) (fun _ _ _ h => h) (Or.inl ⟨by rfl, ?_⟩) hHeld ?_
        · intro w hSw; go_simp
        try simp only [List.getElem_toArray, List.getElem_cons_zero, List.getElem_cons_succ, Act.put, List.setIfInBounds_toArray, List.set_cons_zero, List.set_cons_succ]
        refine wpAnyH_take (i := 3) (v := (.slice Am n cm)) rfl (by kernel_rfl) (by kernel_rfl) (by kernel_rfl) (fun _ _ _ h => h) (Or.inl ⟨by rfl, ?_⟩) hHeld ?_
        · intro w hSw; go_simp
        try simp only [List.getElem_toArray, List.getElem_cons_zero, List.getElem_cons_succ, Act.put, List.setIfInBounds_toArray, List.set_cons_zero, List.set_cons_succ]
        refine wpAnyH_take (i := 4) (v := (.slice T m tc)) rfl (by kernel_rfl) (by kernel_rfl) (by kernel_rfl) (fun _ _ _ h => h) (Or.inl ⟨by rfl, ?_⟩) hHeld ?_
        · intro w hSw; go_simp
        try simp only [List.getElem_toArray, List.getElem_cons_zero, List.getElem_cons_succ, Act.put, List.setIfInBounds_toArray, List.set_cons_zero, List.set_cons_succ]
        refine wpAnyH_ready (rs := [2]) (by kernel_rfl) (by simp) ?_
        refine AllReadyH.cons rfl (fun K hK => ?_) AllReadyH.nil
        clear hHeld
        go_simp
        refine (G1.out _ hSS).mono ?_
        rintro e y1 ⟨rfl, hb⟩
        replace hRm := RJ.out _ _ _ hRm hb
        replace hSS := below_on hSS hb
        refine hK.out _ _ hSS (fun hHeld => ?_)
        clear hK K hb
        refine wpAnyH_ready (rs := [5]) (by kernel_rfl) (by simp) ?_
        refine AllReadyH.cons rfl (fun K hK => ?_) AllReadyH.nil
        clear hHeld
        go_simp
        refine (G2.out _ _ _ hSS j1 j2 hRm).mono ?_
        rintro e y2 ⟨rfl, hb⟩
        replace hRm := RJ.out _ _ _ hRm hb
        replace hSS := below_on hSS hb
        refine hK.out _ _ hSS (fun hHeld => ?_)
        clear hK K hb
        refine wpAnyH_take (i := 6) (v := (.bool true)) rfl (by kernel_rfl) (by kernel_rfl) (by kernel_rfl) (fun _ _ _ h => h) (Or.inl ⟨by rfl, ?_⟩) hHeld ?_
        · intro w hSw; go_simp
        try simp only [List.getElem_toArray, List.getElem_cons_zero, List.getElem_cons_succ, Act.put, List.setIfInBounds_toArray, List.set_cons_zero, List.set_cons_succ]
        refine wpAnyH_take (i := 7) (v := (.bool true)) rfl (by kernel_rfl) (by kernel_rfl) (by kernel_rfl) (fun _ _ _ h => h) (Or.inl ⟨by rfl, ?_⟩) hHeld ?_
        · intro w hSw; go_simp
        try simp only [List.getElem_toArray, List.getElem_cons_zero, List.getElem_cons_succ, Act.put, List.setIfInBounds_toArray, List.set_cons_zero, List.set_cons_succ]
        refine wpAnyH_take (i := 8) (v := (.slice T m tc)) rfl (by kernel_rfl) (by kernel_rfl) (by kernel_rfl) (fun _ _ _ h => h) (Or.inl ⟨by rfl, ?_⟩) hHeld ?_
        · intro w hSw; go_simp
        try simp only [List.getElem_toArray, List.getElem_cons_zero, List.getElem_cons_succ, Act.put, List.setIfInBounds_toArray, List.set_cons_zero, List.set_cons_succ]
        refine wpAnyH_take (i := 9) (v := (.int .i64 i)) rfl (by kernel_rfl) (by kernel_rfl) (by kernel_rfl) (fun _ _ _ h => h) (Or.inl ⟨by rfl, ?_⟩) hHeld ?_
        · intro w hSw; go_simp
        try simp only [List.getElem_toArray, List.getElem_cons_zero, List.getElem_cons_succ, Act.put, List.setIfInBounds_toArray, List.set_cons_zero, List.set_cons_succ]
        refine wpAnyH_take (i := 11) (v := (.slice T m tc)) rfl (by kernel_rfl) (by kernel_rfl) (by kernel_rfl) (fun _ _ _ h => h) (Or.inl ⟨by rfl, ?_⟩) hHeld ?_
        · intro w hSw; go_simp
        try simp only [List.getElem_toArray, List.getElem_cons_zero, List.getElem_cons_succ, Act.put, List.setIfInBounds_toArray, List.set_cons_zero, List.set_cons_succ]
        refine wpAnyH_take (i := 12) (v := (.int .i64 i)) rfl (by kernel_rfl) (by kernel_rfl) (by kernel_rfl) (fun _ _ _ h => h) (Or.inl ⟨by rfl, ?_⟩) hHeld ?_
        · intro w hSw; go_simp
        try simp only [List.getElem_toArray, List.getElem_cons_zero, List.getElem_cons_succ, Act.put, List.setIfInBounds_toArray, List.set_cons_zero, List.set_cons_succ]
        refine wpAnyH_ready (rs := [10]) (by kernel_rfl) (by simp) ?_
        refine AllReadyH.cons rfl (fun K hK => ?_) AllReadyH.nil
        clear hHeld
        go_simp
        refine (N1.out _ hSS).mono ?_
        rintro e yy ⟨rfl, pp, rfl⟩
        have hb := below_dN (Below.refl (World.heap y2).size y2) pp
        generalize World.drewN y2 pp = y3 at *
        replace hRm := RJ.out _ _ _ hRm hb
        replace hSS := below_on hSS hb
        refine hK.out _ _ hSS (fun hHeld => ?_)
        clear hK K hb
        refine wpAnyH_ready (rs := [13]) (by kernel_rfl) (by simp) ?_
        refine AllReadyH.cons rfl (fun K hK => ?_) AllReadyH.nil
        clear hHeld
        go_simp
        refine (N2.out _ hSS).mono ?_
        rintro e yy ⟨rfl, pp, rfl⟩
        have hb := below_dN (Below.refl (World.heap y3).size y3) pp
        generalize World.drewN y3 pp = y4 at *
        replace hRm := RJ.out _ _ _ hRm hb
        replace hSS := below_on hSS hb
        refine hK.out _ _ hSS (fun hHeld => ?_)
        clear hK K hb
        refine wpAnyH_take (i := 14) (v := (.bool true)) rfl (by kernel_rfl) (by kernel_rfl) (by kernel_rfl) (fun _ _ _ h => h) (Or.inl ⟨by rfl, ?_⟩) hHeld ?_
        · intro w hSw; go_simp
        try simp only [List.getElem_toArray, List.getElem_cons_zero, List.getElem_cons_succ, Act.put, List.setIfInBounds_toArray, List.set_cons_zero, List.set_cons_succ]
        refine wpAnyH_take (i := 15) (v := (.bool true)) rfl (by kernel_rfl) (by kernel_rfl) (by kernel_rfl) (fun _ _ _ h => h) (Or.inl ⟨by rfl, ?_⟩) hHeld ?_
        · intro w hSw; go_simp
        try simp only [List.getElem_toArray, List.getElem_cons_zero, List.getElem_cons_succ, Act.put, List.setIfInBounds_toArray, List.set_cons_zero, List.set_cons_succ]
        refine wpAnyH_take (i := 16) (v := (.bool true)) rfl (by kernel_rfl) (by kernel_rfl) (by kernel_rfl) (fun _ _ _ h => h) (Or.inl ⟨by rfl, ?_⟩) hHeld ?_
        · intro w hSw; go_simp
        try simp only [List.getElem_toArray, List.getElem_cons_zero, List.getElem_cons_succ, Act.put, List.setIfInBounds_toArray, List.set_cons_zero, List.set_cons_succ]
        refine wpAnyH_take (i := 17) (v := (.int .i64 z)) rfl (by kernel_rfl) (by kernel_rfl) (by kernel_rfl) (fun _ _ _ h => h) (Or.inl ⟨by rfl, ?_⟩) hHeld ?_
        · intro w hSw; go_simp
        try simp only [List.getElem_toArray, List.getElem_cons_zero, List.getElem_cons_succ, Act.put, List.setIfInBounds_toArray, List.set_cons_zero, List.set_cons_succ]
        refine wpAnyH_take (i := 18) (v := (.int .i64 z)) rfl (by kernel_rfl) (by kernel_rfl) (by kernel_rfl) (fun _ _ _ h => h) (Or.inl ⟨by rfl, ?_⟩) hHeld ?_
        · intro w hSw; go_simp
        try simp only [List.getElem_toArray, List.getElem_cons_zero, List.getElem_cons_succ, Act.put, List.setIfInBounds_toArray, List.set_cons_zero, List.set_cons_succ]
        refine wpAnyH_take (i := 19) (v := (.bool true)) rfl (by kernel_rfl) (by kernel_rfl) (by kernel_rfl) (fun _ _ _ h => h) (Or.inl ⟨by rfl, ?_⟩) hHeld ?_
        · intro w hSw; go_simp
        try simp only [List.getElem_toArray, List.getElem_cons_zero, List.getElem_cons_succ, Act.put, List.setIfInBounds_toArray, List.set_cons_zero, List.set_cons_succ]
        refine wpAnyH_take (i := 20) (v := (.bool true)) rfl (by kernel_rfl) (by kernel_rfl) (by kernel_rfl) (fun _ _ _ h => h) (Or.inl ⟨by rfl, ?_⟩) hHeld ?_
        · intro w hSw; go_simp
        try simp only [List.getElem_toArray, List.getElem_cons_zero, List.getElem_cons_succ, Act.put, List.setIfInBounds_toArray, List.set_cons_zero, List.set_cons_succ]
        refine wpAnyH_take (i := 21) (v := (.bool true)) rfl (by kernel_rfl) (by kernel_rfl) (by kernel_rfl) (fun _ _ _ h => h) (Or.inl ⟨by rfl, ?_⟩) hHeld ?_
        · intro w hSw; go_simp
        try simp only [List.getElem_toArray, List.getElem_cons_zero, List.getElem_cons_succ, Act.put, List.setIfInBounds_toArray, List.set_cons_zero, List.set_cons_succ]
        refine wpAnyH_take (i := 22) (v := (.bool gd)) rfl (by kernel_rfl) (by kernel_rfl) (by kernel_rfl) (fun _ _ _ h => h) (Or.inl ⟨by rfl, ?_⟩) hHeld ?_
        · intro w hSw; go_simp
        try simp only [List.getElem_toArray, List.getElem_cons_zero, List.getElem_cons_succ, Act.put, List.setIfInBounds_toArray, List.set_cons_zero, List.set_cons_succ]
        refine wpAnyH_take (i := 23) (v := (.bool gd)) rfl (by kernel_rfl) (by kernel_rfl) (by kernel_rfl) (fun _ _ _ h => h) (Or.inl ⟨by rfl, ?_⟩) hHeld ?_
        · intro w hSw; go_simp
        try simp only [List.getElem_toArray, List.getElem_cons_zero, List.getElem_cons_succ, Act.put, List.setIfInBounds_toArray, List.set_cons_zero, List.set_cons_succ]
        refine wpAnyH_take (i := 24) (v := (.bool true)) rfl (by kernel_rfl) (by kernel_rfl) (by kernel_rfl) (fun _ _ _ h => h) (Or.inl ⟨by rfl, ?_⟩) hHeld ?_
        · intro w hSw; go_simp
        try simp only [List.getElem_toArray, List.getElem_cons_zero, List.getElem_cons_succ, Act.put, List.setIfInBounds_toArray, List.set_cons_zero, List.set_cons_succ]
        refine wpAnyH_take (i := 25) (v := (.bool true)) rfl (by kernel_rfl) (by kernel_rfl) (by kernel_rfl) (fun _ _ _ h => h) (Or.inl ⟨by rfl, ?_⟩) hHeld ?_
        · intro w hSw; go_simp
        try simp only [List.getElem_toArray, List.getElem_cons_zero, List.getElem_cons_succ, Act.put, List.setIfInBounds_toArray, List.set_cons_zero, List.set_cons_succ]
        refine wpAnyH_take (i := 26) (v := (.bool true)) rfl (by kernel_rfl) (by kernel_rfl) (by kernel_rfl) (fun _ _ _ h => h) (Or.inl ⟨by rfl, ?_⟩) hHeld ?_
        · intro w hSw; go_simp
        try simp only [List.getElem_toArray, List.getElem_cons_zero, List.getElem_cons_succ, Act.put, List.setIfInBounds_toArray, List.set_cons_zero, List.set_cons_succ]
        refine wpAnyH_take (i := 27) (v := (.slice A n cap)) rfl (by kernel_rfl) (by kernel_rfl) (by kernel_rfl) (fun _ _ _ h => h) (Or.inl ⟨by rfl, ?_⟩) hHeld ?_
        · intro w hSw; go_simp
        try simp only [List.getElem_toArray, List.getElem_cons_zero, List.getElem_cons_succ, Act.put, List.setIfInBounds_toArray, List.set_cons_zero, List.set_cons_succ]
        refine wpAnyH_take (i := 28) (v := (.slice T m tc)) rfl (by kernel_rfl) (by kernel_rfl) (by kernel_rfl) (fun _ _ _ h => h) (Or.inl ⟨by rfl, ?_⟩) hHeld ?_
        · intro w hSw; go_simp
        try simp only [List.getElem_toArray, List.getElem_cons_zero, List.getElem_cons_succ, Act.put, List.setIfInBounds_toArray, List.set_cons_zero, List.set_cons_succ]
        refine wpAnyH_take (i := 29) (v := (.int .i64 i)) rfl (by kernel_rfl) (by kernel_rfl) (by kernel_rfl) (fun _ _ _ h => h) (Or.inl ⟨by rfl, ?_⟩) hHeld ?_
        · intro w hSw; go_simp
        try simp only [List.getElem_toArray, List.getElem_cons_zero, List.getElem_cons_succ, Act.put, List.setIfInBounds_toArray, List.set_cons_zero, List.set_cons_succ]
        refine wpAnyH_take (i := 31) (v := (.slice Am n cm)) rfl (by kernel_rfl) (by kernel_rfl) (by kernel_rfl) (fun _ _ _ h => h) (Or.inl ⟨by rfl, ?_⟩) hHeld ?_
        · intro w hSw; go_simp
        try simp only [List.getElem_toArray, List.getElem_cons_zero, List.getElem_cons_succ, Act.put, List.setIfInBounds_toArray, List.set_cons_zero, List.set_cons_succ]
        refine wpAnyH_take (i := 32) (v := (.slice T m tc)) rfl (by kernel_rfl) (by kernel_rfl) (by kernel_rfl) (fun _ _ _ h => h) (Or.inl ⟨by rfl, ?_⟩) hHeld ?_
        · intro w hSw; go_simp
        try simp only [List.getElem_toArray, List.getElem_cons_zero, List.getElem_cons_succ, Act.put, List.setIfInBounds_toArray, List.set_cons_zero, List.set_cons_succ]
        refine wpAnyH_take (i := 33) (v := (.int .i64 i)) rfl (by kernel_rfl) (by kernel_rfl) (by kernel_rfl) (fun _ _ _ h => h) (Or.inl ⟨by rfl, ?_⟩) hHeld ?_
        · intro w hSw; go_simp
        try simp only [List.getElem_toArray, List.getElem_cons_zero, List.getElem_cons_succ, Act.put, List.setIfInBounds_toArray, List.set_cons_zero, List.set_cons_succ]
        refine wpAnyH_ready (rs := [30]) (by kernel_rfl) (by simp) ?_
        refine AllReadyH.cons rfl (fun K hK => ?_) AllReadyH.nil
        clear hHeld
        go_simp
        refine (M1.out _ hSS).mono ?_
        rintro e y5 ⟨rfl, hb⟩
        replace hRm := RJ.out _ _ _ hRm hb
        replace hSS := below_on hSS hb
        refine hK.out _ _ hSS (fun hHeld => ?_)
        clear hK K hb
        refine wpAnyH_ready (rs := [34]) (by kernel_rfl) (by simp) ?_
        refine AllReadyH.cons rfl (fun K hK => ?_) AllReadyH.nil
        clear hHeld
        go_simp
        refine (M2.out _ _ _ hSS j1 j2 hRm).mono ?_
        rintro e y6 ⟨rfl, hb⟩
        replace hRm := RJ.out _ _ _ hRm hb
        replace hSS := below_on hSS hb
        refine hK.out _ _ hSS (fun hHeld => ?_)
        clear hK K hb
        refine wpAnyH_take (i := 35) (v := (.bool true)) rfl (by kernel_rfl) (by kernel_rfl) (by kernel_rfl) (fun _ _ _ h => h) (Or.inl ⟨by rfl, ?_⟩) hHeld ?_
        · intro w hSw; go_simp
        try simp only [List.getElem_toArray, List.getElem_cons_zero, List.getElem_cons_succ, Act.put, List.setIfInBounds_toArray, List.set_cons_zero, List.set_cons_succ]
        refine wpAnyH_take (i := 36) (v := (.bool true)) rfl (by kernel_rfl) (by kernel_rfl) (by kernel_rfl) (fun _ _ _ h => h) (Or.inl ⟨by rfl, ?_⟩) hHeld ?_
        · intro w hSw; go_simp
        try simp only [List.getElem_toArray, List.getElem_cons_zero, List.getElem_cons_succ, Act.put, List.setIfInBounds_toArray, List.set_cons_zero, List.set_cons_succ]
        refine wpAnyH_take (i := 37) (v := (.bool true)) rfl (by kernel_rfl) (by kernel_rfl) (by kernel_rfl) (fun _ _ _ h => h) (Or.inl ⟨by rfl, ?_⟩) hHeld ?_
        · intro w hSw; go_simp
        try simp only [List.getElem_toArray, List.getElem_cons_zero, List.getElem_cons_succ, Act.put, List.setIfInBounds_toArray, List.set_cons_zero, List.set_cons_succ]
        refine wpAnyH_take (i := 38) (v := (.slice A n cap)) rfl (by kernel_rfl) (by kernel_rfl) (by kernel_rfl) (fun _ _ _ h => h) (Or.inl ⟨by rfl, ?_⟩) hHeld ?_
        · intro w hSw; go_simp
        try simp only [List.getElem_toArray, List.getElem_cons_zero, List.getElem_cons_succ, Act.put, List.setIfInBounds_toArray, List.set_cons_zero, List.set_cons_succ]
        refine wpAnyH_take (i := 39) (v := (.slice T m tc)) rfl (by kernel_rfl) (by kernel_rfl) (by kernel_rfl) (fun _ _ _ h => h) (Or.inl ⟨by rfl, ?_⟩) hHeld ?_
        · intro w hSw; go_simp
        try simp only [List.getElem_toArray, List.getElem_cons_zero, List.getElem_cons_succ, Act.put, List.setIfInBounds_toArray, List.set_cons_zero, List.set_cons_succ]
        refine wpAnyH_take (i := 41) (v := (.slice Am n cm)) rfl (by kernel_rfl) (by kernel_rfl) (by kernel_rfl) (fun _ _ _ h => h) (Or.inl ⟨by rfl, ?_⟩) hHeld ?_
        · intro w hSw; go_simp
        try simp only [List.getElem_toArray, List.getElem_cons_zero, List.getElem_cons_succ, Act.put, List.setIfInBounds_toArray, List.set_cons_zero, List.set_cons_succ]
        refine wpAnyH_take (i := 42) (v := (.slice T m tc)) rfl (by kernel_rfl) (by kernel_rfl) (by kernel_rfl) (fun _ _ _ h => h) (Or.inl ⟨by rfl, ?_⟩) hHeld ?_
        · intro w hSw; go_simp
        try simp only [List.getElem_toArray, List.getElem_cons_zero, List.getElem_cons_succ, Act.put, List.setIfInBounds_toArray, List.set_cons_zero, List.set_cons_succ]
        refine wpAnyH_ready (rs := [40]) (by kernel_rfl) (by simp) ?_
        refine AllReadyH.cons rfl (fun K hK => ?_) AllReadyH.nil
        clear hHeld
        go_simp
        refine (V1.out _ hSS).mono ?_
        rintro e y7 ⟨rfl, hb⟩
        replace hRm := RJ.out _ _ _ hRm hb
        replace hSS := below_on hSS hb
        refine hK.out _ _ hSS (fun hHeld => ?_)
        clear hK K hb
        refine wpAnyH_ready (rs := [43]) (by kernel_rfl) (by simp) ?_
        refine AllReadyH.cons rfl (fun K hK => ?_) AllReadyH.nil
        clear hHeld
        go_simp
        refine (V2.out _ _ _ hSS j1 j2 hRm).mono ?_
        rintro e y8 ⟨rfl, hb⟩
        replace hRm := RJ.out _ _ _ hRm hb
        replace hSS := below_on hSS hb
        refine hK.out _ _ hSS (fun hHeld => ?_)
        clear hK K hb
        refine wpAnyH_take (i := 44) (v := (.bool true)) rfl (by kernel_rfl) (by kernel_rfl) (by kernel_rfl) (fun _ _ _ h => h) (Or.inl ⟨by rfl, ?_⟩) hHeld ?_
        · intro w hSw; go_simp
        try simp only [List.getElem_toArray, List.getElem_cons_zero, List.getElem_cons_succ, Act.put, List.setIfInBounds_toArray, List.set_cons_zero, List.set_cons_succ]
        refine wpAnyH_take (i := 45) (v := (.bool true)) rfl (by kernel_rfl) (by kernel_rfl) (by kernel_rfl) (fun _ _ _ h => h) (Or.inl ⟨by rfl, ?_⟩) hHeld ?_
        · intro w hSw; go_simp
        try simp only [List.getElem_toArray, List.getElem_cons_zero, List.getElem_cons_succ, Act.put, List.setIfInBounds_toArray, List.set_cons_zero, List.set_cons_succ]
        refine wpAnyH_take (i := 46) (v := (.bool true)) rfl (by kernel_rfl) (by kernel_rfl) (by kernel_rfl) (fun _ _ _ h => h) (Or.inl ⟨by rfl, ?_⟩) hHeld ?_
        · intro w hSw; go_simp
        try simp only [List.getElem_toArray, List.getElem_cons_zero, List.getElem_cons_succ, Act.put, List.setIfInBounds_toArray, List.set_cons_zero, List.set_cons_succ]
        refine wpAnyH_take (i := 47) (v := (.slice T m tc)) rfl (by kernel_rfl) (by kernel_rfl) (by kernel_rfl) (fun _ _ _ h => h) (Or.inl ⟨by rfl, ?_⟩) hHeld ?_
        · intro w hSw; go_simp
        try simp only [List.getElem_toArray, List.getElem_cons_zero, List.getElem_cons_succ, Act.put, List.setIfInBounds_toArray, List.set_cons_zero, List.set_cons_succ]
        refine wpAnyH_take (i := 49) (v := (.slice T m tc)) rfl (by kernel_rfl) (by kernel_rfl) (by kernel_rfl) (fun _ _ _ h => h) (Or.inl ⟨by rfl, ?_⟩) hHeld ?_
        · intro w hSw; go_simp
        try simp only [List.getElem_toArray, List.getElem_cons_zero, List.getElem_cons_succ, Act.put, List.setIfInBounds_toArray, List.set_cons_zero, List.set_cons_succ]
        refine wpAnyH_ready (rs := [48]) (by kernel_rfl) (by simp) ?_
        refine AllReadyH.cons rfl (fun K hK => ?_) AllReadyH.nil
        clear hHeld
        go_simp
        refine (Y1.out _ hSS).mono ?_
        rintro e yy ⟨rfl, pp, rfl⟩
        have hb := below_dN (Below.refl (World.heap y8).size y8) pp
        generalize World.drewN y8 pp = y9 at *
        replace hRm := RJ.out _ _ _ hRm hb
        replace hSS := below_on hSS hb
        refine hK.out _ _ hSS (fun hHeld => ?_)
        clear hK K hb
        refine wpAnyH_ready (rs := [50]) (by kernel_rfl) (by simp) ?_
        refine AllReadyH.cons rfl (fun K hK => ?_) AllReadyH.nil
        clear hHeld
        go_simp
        refine (Y2.out _ hSS).mono ?_
        rintro e yy ⟨rfl, pp, rfl⟩
        have hb := below_dN (Below.refl (World.heap y9).size y9) pp
        generalize World.drewN y9 pp = y10 at *
        replace hRm := RJ.out _ _ _ hRm hb
        replace hSS := below_on hSS hb
        refine hK.out _ _ hSS (fun hHeld => ?_)
        clear hK K hb
        refine wpAnyH_take (i := 51) (v := (.bool true)) rfl (by kernel_rfl) (by kernel_rfl) (by kernel_rfl) (fun _ _ _ h => h) (Or.inl ⟨by rfl, ?_⟩) hHeld ?_
        · intro w hSw; go_simp
        try simp only [List.getElem_toArray, List.getElem_cons_zero, List.getElem_cons_succ, Act.put, List.setIfInBounds_toArray, List.set_cons_zero, List.set_cons_succ]
        refine wpAnyH_take (i := 52) (v := (.bool true)) rfl (by kernel_rfl) (by kernel_rfl) (by kernel_rfl) (fun _ _ _ h => h) (Or.inl ⟨by rfl, ?_⟩) hHeld ?_
        · intro w hSw; go_simp
        try simp only [List.getElem_toArray, List.getElem_cons_zero, List.getElem_cons_succ, Act.put, List.setIfInBounds_toArray, List.set_cons_zero, List.set_cons_succ]
        refine wpAnyH_take (i := 53) (v := (.bool true)) rfl (by kernel_rfl) (by kernel_rfl) (by kernel_rfl) (fun _ _ _ h => h) (Or.inl ⟨by rfl, ?_⟩) hHeld ?_
        · intro w hSw; go_simp
        try simp only [List.getElem_toArray, List.getElem_cons_zero, List.getElem_cons_succ, Act.put, List.setIfInBounds_toArray, List.set_cons_zero, List.set_cons_succ]
        refine wpAnyH_take (i := 54) (v := (.slice T m tc)) rfl (by kernel_rfl) (by kernel_rfl) (by kernel_rfl) (fun _ _ _ h => h) (Or.inl ⟨by rfl, ?_⟩) hHeld ?_
        · intro w hSw; go_simp
        try simp only [List.getElem_toArray, List.getElem_cons_zero, List.getElem_cons_succ, Act.put, List.setIfInBounds_toArray, List.set_cons_zero, List.set_cons_succ]
        refine wpAnyH_take (i := 56) (v := (.slice T m tc)) rfl (by kernel_rfl) (by kernel_rfl) (by kernel_rfl) (fun _ _ _ h => h) (Or.inl ⟨by rfl, ?_⟩) hHeld ?_
        · intro w hSw; go_simp
        try simp only [List.getElem_toArray, List.getElem_cons_zero, List.getElem_cons_succ, Act.put, List.setIfInBounds_toArray, List.set_cons_zero, List.set_cons_succ]
        refine wpAnyH_ready (rs := [55]) (by kernel_rfl) (by simp) ?_
        refine AllReadyH.cons rfl (fun K hK => ?_) AllReadyH.nil
        clear hHeld
        go_simp
        refine (S1.out _ hSS).mono ?_
        rintro e yy ⟨rfl, pp, rfl⟩
        have hb := below_dN (Below.refl (World.heap y10).size y10) pp
        generalize World.drewN y10 pp = y11 at *
        replace hRm := RJ.out _ _ _ hRm hb
        replace hSS := below_on hSS hb
        refine hK.out _ _ hSS (fun hHeld => ?_)
        clear hK K hb
        refine wpAnyH_ready (rs := [57]) (by kernel_rfl) (by simp) ?_
        refine AllReadyH.cons rfl (fun K hK => ?_) AllReadyH.nil
        clear hHeld
        go_simp
        refine (S2.out _ hSS).mono ?_
        rintro e yy ⟨rfl, pp, rfl⟩
        have hb := below_dN (Below.refl (World.heap y11).size y11) pp
        generalize World.drewN y11 pp = y12 at *
        replace hRm := RJ.out _ _ _ hRm hb
        replace hSS := below_on hSS hb
        refine hK.out _ _ hSS (fun hHeld => ?_)
        clear hK K hb
        refine wpAnyH_take (i := 58) (v := (.bool true)) rfl (by kernel_rfl) (by kernel_rfl) (by kernel_rfl) (fun _ _ _ h => h) (Or.inl ⟨by rfl, ?_⟩) hHeld ?_
        · intro w hSw; go_simp
        try simp only [List.getElem_toArray, List.getElem_cons_zero, List.getElem_cons_succ, Act.put, List.setIfInBounds_toArray, List.set_cons_zero, List.set_cons_succ]
        refine wpAnyH_take (i := 59) (v := (.bool true)) rfl (by kernel_rfl) (by kernel_rfl) (by kernel_rfl) (fun _ _ _ h => h) (Or.inl ⟨by rfl, ?_⟩) hHeld ?_
        · intro w hSw; go_simp
        try simp only [List.getElem_toArray, List.getElem_cons_zero, List.getElem_cons_succ, Act.put, List.setIfInBounds_toArray, List.set_cons_zero, List.set_cons_succ]
        refine wpAnyH_take (i := 60) (v := (.bool true)) rfl (by kernel_rfl) (by kernel_rfl) (by kernel_rfl) (fun _ _ _ h => h) (Or.inl ⟨by rfl, ?_⟩) hHeld ?_
        · intro w hSw; go_simp
        try simp only [List.getElem_toArray, List.getElem_cons_zero, List.getElem_cons_succ, Act.put, List.setIfInBounds_toArray, List.set_cons_zero, List.set_cons_succ]
        refine wpAnyH_take (i := 61) (v := (.slice T m tc)) rfl (by kernel_rfl) (by kernel_rfl) (by kernel_rfl) (fun _ _ _ h => h) (Or.inl ⟨by rfl, ?_⟩) hHeld ?_
        · intro w hSw; go_simp
        try simp only [List.getElem_toArray, List.getElem_cons_zero, List.getElem_cons_succ, Act.put, List.setIfInBounds_toArray, List.set_cons_zero, List.set_cons_succ]
        refine wpAnyH_take (i := 62) (v := (.int .i64 c)) rfl (by kernel_rfl) (by kernel_rfl) (by kernel_rfl) (fun _ _ _ h => h) (Or.inl ⟨by rfl, ?_⟩) hHeld ?_
        · intro w hSw; go_simp
        try simp only [List.getElem_toArray, List.getElem_cons_zero, List.getElem_cons_succ, Act.put, List.setIfInBounds_toArray, List.set_cons_zero, List.set_cons_succ]
        refine wpAnyH_take (i := 64) (v := (.slice T m tc)) rfl (by kernel_rfl) (by kernel_rfl) (by kernel_rfl) (fun _ _ _ h => h) (Or.inl ⟨by rfl, ?_⟩) hHeld ?_
        · intro w hSw; go_simp
        try simp only [List.getElem_toArray, List.getElem_cons_zero, List.getElem_cons_succ, Act.put, List.setIfInBounds_toArray, List.set_cons_zero, List.set_cons_succ]
        refine wpAnyH_take (i := 65) (v := (.int .i64 (q : Int))) rfl (by kernel_rfl) (by kernel_rfl) (by kernel_rfl) (fun _ _ _ h => h) (Or.inl ⟨by rfl, ?_⟩) hHeld ?_
        · intro w hSw; go_simp
        try simp only [List.getElem_toArray, List.getElem_cons_zero, List.getElem_cons_succ, Act.put, List.setIfInBounds_toArray, List.set_cons_zero, List.set_cons_succ]
        refine wpAnyH_take (i := 66) (v := (.slice Aq q cq)) rfl (by kernel_rfl) (by kernel_rfl) (by kernel_rfl) (fun _ _ _ h => h) (Or.inl ⟨by rfl, ?_⟩) hHeld ?_
        · intro w hSw; go_simp
        try simp only [List.getElem_toArray, List.getElem_cons_zero, List.getElem_cons_succ, Act.put, List.setIfInBounds_toArray, List.set_cons_zero, List.set_cons_succ]
        refine wpAnyH_ready (rs := [63]) (by kernel_rfl) (by simp) ?_
        refine AllReadyH.cons rfl (fun K hK => ?_) AllReadyH.nil
        clear hHeld
        go_simp
        refine (K1.out _ hSS).mono ?_
        rintro e y13 ⟨B9, rfl, hX9, hb⟩
        replace hRm := RJ.out _ _ _ hRm hb
        replace hSS := below_on hSS hb
        refine hK.out _ _ hSS (fun hHeld => ?_)
        clear hK K hb
        refine wpAnyH_ready (rs := [67]) (by kernel_rfl) (by simp) ?_
        refine AllReadyH.cons rfl (fun K hK => ?_) AllReadyH.nil
        clear hHeld
        go_simp
        refine (I1.out _ _ hSS hX9).mono ?_
        rintro e yy ⟨rfl, pp, rfl⟩
        have hb := below_dN (Below.refl (World.heap y13).size y13) pp
        generalize World.drewN y13 pp = y14 at *
        replace hRm := RJ.out _ _ _ hRm hb
        replace hSS := below_on hSS hb
        refine hK.out _ _ hSS (fun hHeld => ?_)
        clear hK K hb
        refine wpAnyH_take (i := 68) (v := (.bool true)) rfl (by kernel_rfl) (by kernel_rfl) (by kernel_rfl) (fun _ _ _ h => h) (Or.inl ⟨by rfl, ?_⟩) hHeld ?_
        · intro w hSw; go_simp
        try simp only [List.getElem_toArray, List.getElem_cons_zero, List.getElem_cons_succ, Act.put, List.setIfInBounds_toArray, List.set_cons_zero, List.set_cons_succ]
        refine wpAnyH_take (i := 69) (v := (.bool true)) rfl (by kernel_rfl) (by kernel_rfl) (by kernel_rfl) (fun _ _ _ h => h) (Or.inl ⟨by rfl, ?_⟩) hHeld ?_
        · intro w hSw; go_simp
        try simp only [List.getElem_toArray, List.getElem_cons_zero, List.getElem_cons_succ, Act.put, List.setIfInBounds_toArray, List.set_cons_zero, List.set_cons_succ]
        refine wpAnyH_done (by kernel_rfl) ?_ _
        clear hHeld
        go_wp2
        go_ret
        exact ⟨rfl, hSS⟩
  · rw [hl] at A1 hlc ⊢
    rw [hm] at htl ⊢
    clear hL hR hT hgh hl hm hsh
    go_enter Tryd.func4, Tryd.ntmps4
    go_wp2_with fail
    refine A0.out.mono ?_; rintro e w0 ⟨rfl, b0⟩
    replace b0 := Lib.hid b0
    clear A0
    go_wp2_with fail
    refine (A1.out _ b0.out).mono ?_; rintro e w1 ⟨rfl, q1, rfl⟩
    clear A1
    cases gh
    · have hm3 : ¬ m ≤ 200 := fun h => hgo ⟨rfl, h⟩
      have d1 : decide ((m : Int) > 200) = true := decide_eq_true (by omega)
      clear hgo
      go_wp2
      go_ret
      exact ⟨rfl, by have s0 := b0.out.size; (try simp only [World.heap_drewN, World.size_alloc] at s0); repeat (first | exact Below.refl _ _ | exact b0.out | refine Below.trans ?_ (Below.mono b0.out (by first | omega | (simp; done) | (simp; omega))) | refine Below.setCell ?_ (by first | omega | (simp; done) | (simp; omega)) _ | refine below_dN ?_ _ | refine Below.drew ?_ | refine Below.alloc ?_ (by first | omega | (simp; done) | (simp; omega)) _)⟩
    · go_wp2
      go_ret
      exact ⟨rfl, by have s0 := b0.out.size; (try simp only [World.heap_drewN, World.size_alloc] at s0); repeat (first | exact Below.refl _ _ | exact b0.out | refine Below.trans ?_ (Below.mono b0.out (by first | omega | (simp; done) | (simp; omega))) | refine Below.setCell ?_ (by first | omega | (simp; done) | (simp; omega)) _ | refine below_dN ?_ _ | refine Below.drew ?_ | refine Below.alloc ?_ (by first | omega | (simp; done) | (simp; omega)) _)⟩
end Go.Proofs.YtcendklbnogmbaaDoor
