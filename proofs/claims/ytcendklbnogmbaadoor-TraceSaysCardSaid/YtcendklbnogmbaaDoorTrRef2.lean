/- The document's own traces: DoneAt, MetBy, Value. -/
import Derived.Test.YtcendklbnogmbaaDoorTrRef1
import Derived.Test.YtcendklbnogmbaaDoorTr2
import Derived.Test.YtcendklbnogmbaaDoorJbRef2
namespace Go.Proofs.YtcendklbnogmbaaDoor
open Go.RowKit Go.Lib
set_option linter.unusedVariables false
set_option linter.unusedSimpArgs false

set_option maxHeartbeats 3200000 in
set_option maxRecDepth 100000 in
theorem rdoneAt_any (A : Option Addr) (cap : Nat) (l : List Jb) (T : Option Addr) (tc : Nat) (t : List Int) (i z : Int) (g : Bool) (w : World) (hln : l.length ≤ 1000000) (htn : t.length ≤ 1000000) (hcap : cap ≤ 9223372036854775807) (hlc : l.length ≤ cap) (hs : ∀ x ∈ l, x.name.size ≤ 1000000) (hL : Ltr w) (hR : RdJ w A l)
    (htc : tc ≤ 9223372036854775807) (htl : t.length ≤ tc) (hT : RdT w T t) (hz : doneN (doneAt l t i) = z) (hb : doneB (doneAt l t i) = g) :
    Calls Tryd.prog 17 #[.slice A l.length cap, .slice T t.length tc, .int .i64 i] w (RetB (.tuple #[.int .i64 z, .bool g]) w) := by
  obtain ⟨ga, hga⟩ : ∃ q, allB l = q := ⟨_, rfl⟩
  have C1 : Hid (Calls Tryd.prog 33 #[.slice A l.length cap] w (RetB (.bool ga) w)) := rjall_any A cap l ga w hln hcap hlc hs hL hR hga
  obtain ⟨n, hl⟩ : ∃ n, l.length = n := ⟨_, rfl⟩
  obtain ⟨m, hm⟩ : ∃ n, t.length = n := ⟨_, rfl⟩
  unfold doneAt at hz hb
  rw [hga] at hz hb
  have hh : hasB l i = (decide (0 ≤ i) && decide (i < (n : Int))) := by unfold hasB; rw [hl]
  by_cases h0 : i < 0
  · have d1 : decide (i < 0) = true := decide_eq_true h0
    rw [hh, decide_eq_false (show ¬ 0 ≤ i by omega), Bool.false_and, Bool.and_false] at hz hb
    obtain rfl : 0 = z := by rw [← hz]; rfl
    obtain rfl : false = g := by rw [← hb]; rfl
    rw [hl] at C1 hlc ⊢
    rw [hm] at htl ⊢
    clear hl hm hs hL hR hT hz hb hga hh
    go_enter Tryd.func17, Tryd.ntmps17
    go_wp2
    go_ret2
    exact ⟨rfl, by repeat (first | exact Below.refl _ _ | refine Below.setCell ?_ (by first | omega | (simp; done) | (simp; omega)) _ | refine below_dN ?_ _ | refine Below.drew ?_ | refine Below.alloc ?_ (by first | omega | (simp; done) | (simp; omega)) _)⟩
  · have d1 : decide (i < 0) = false := decide_eq_false h0
    by_cases h1 : i ≥ (n : Int)
    · have d2 : decide (i ≥ (n : Int)) = true := decide_eq_true h1
      have d2' : decide ((n : Int) ≤ i) = true := decide_eq_true h1
      rw [hh, decide_eq_false (show ¬ i < (n : Int) by omega), Bool.and_false, Bool.and_false] at hz hb
      obtain rfl : 0 = z := by rw [← hz]; rfl
      obtain rfl : false = g := by rw [← hb]; rfl
      rw [hl] at C1 hlc ⊢
      rw [hm] at htl ⊢
      clear hl hm hs hL hR hT hz hb hga hh
      go_enter Tryd.func17, Tryd.ntmps17
      go_wp2
      go_ret2
      exact ⟨rfl, by repeat (first | exact Below.refl _ _ | refine Below.setCell ?_ (by first | omega | (simp; done) | (simp; omega)) _ | refine below_dN ?_ _ | refine Below.drew ?_ | refine Below.alloc ?_ (by first | omega | (simp; done) | (simp; omega)) _)⟩
    · have d2 : decide (i ≥ (n : Int)) = false := decide_eq_false h1
      have d2' : decide ((n : Int) ≤ i) = false := decide_eq_false h1
      obtain ⟨p, rfl⟩ := Int.eq_ofNat_of_zero_le (show 0 ≤ i by omega)
      rw [hh, decide_eq_true (show 0 ≤ (p : Int) by omega), decide_eq_true (show (p : Int) < (n : Int) by omega)] at hz hb
      cases ga
      · obtain rfl : 0 = z := by rw [← hz]; rfl
        obtain rfl : false = g := by rw [← hb]; rfl
        rw [hl] at C1 hlc ⊢
        rw [hm] at htl ⊢
        clear hl hm hs hL hR hT hz hb hga hh
        go_enter Tryd.func17, Tryd.ntmps17
        go_wp2_with fail
        refine C1.out.mono ?_; rintro e gw ⟨rfl, gb⟩
        clear C1
        go_wp2
        go_ret2
        exact ⟨rfl, by have s0 := gb.size; (try simp only [World.heap_drewN, World.size_alloc] at s0); repeat (first | exact Below.refl _ _ | exact gb | refine Below.trans ?_ (Below.mono gb (by first | omega | (simp; done) | (simp; omega))) | refine Below.setCell ?_ (by first | omega | (simp; done) | (simp; omega)) _ | refine below_dN ?_ _ | refine Below.drew ?_ | refine Below.alloc ?_ (by first | omega | (simp; done) | (simp; omega)) _)⟩
      · obtain ⟨x, hx⟩ : ∃ x, l[p]? = some x := ⟨_, List.getElem?_eq_getElem (by omega)⟩
        rw [if_pos (show (true && (true && true)) = true from rfl), Int.toNat_natCast, hx] at hz hb
        simp only at hz hb
        have hgx := good_of_all hga hx
        have hsx := hs x (List.mem_of_getElem? hx)
        obtain ⟨k1, k2⟩ := work_good hgx
        obtain ⟨W, hW⟩ : ∃ z, x.work = z := ⟨_, rfl⟩
        obtain ⟨o, ho⟩ : ∃ o, doneGo (p : Int) x.work t 0 = o := ⟨_, rfl⟩
        rw [ho] at hz hb
        have C3 : Hid (∀ w', Below w.heap.size w w' → Calls Tryd.prog 34 #[.agg x.cells] w' (RetB (.int .i64 W) w')) := fun w' hb' => hW ▸ rjwork_any x w' hsx (hL.below hb')
        rw [hW] at ho k1 k2
        have b1 : (p : Int) < (n : Int) := by omega
        rw [hl] at C1 hlc hln ⊢
        rw [hm] at htl htn ⊢
        have H := Lib.hid (And.intro hl (And.intro hm (And.intro hR (And.intro hT (And.intro ho (And.intro hz (And.intro hb hx)))))))
        clear hl hm hs hL hR hT hz hb hga hh ho hx hgx hsx hW
        go_enter Tryd.func17, Tryd.ntmps17
        go_wp2_with fail
        refine C1.out.mono ?_; rintro e gw ⟨rfl, gb⟩
        clear C1
        replace gb := Lib.hid gb
        go_wp2
        clear d1 d2 d2' h0 h1
        go_loopw [8, 9] (fun s8 st wr => ∃ (k : Nat) (c : Nat), s8 = .int .i64 (c : Int) ∧ st = .int .i64 (k : Int) ∧ k ≤ m ∧ c ≤ k ∧ (c : Int) < W ∧ Hid (doneGo (p : Int) (W - (c : Int)) (t.drop k) k = o ∧ Below w.heap.size w wr)) (fun _ st _ => m - (intOf st).toNat)
        case atStart => exact ⟨0, 0, rfl, rfl, by omega, by omega, by omega, Lib.hid ⟨by simpa using H.out.2.2.2.2.1, gb.out⟩⟩
        case round =>
          obtain ⟨k, c, rfl, rfl, hkm, hck, hcW, K⟩ := hrel
          rcases Nat.lt_or_ge k m with hlt | hge
          · have d1 : decide ((k : Int) < (m : Int)) = true := decide_eq_true (by omega)
            have b2 : (k : Int) < (m : Int) := by omega
            have e1 : IntKind.i64.wrap ((k : Int) + 1) = ((k + 1 : Nat) : Int) := by rw [IntKind.wrap_i64]; omega
            obtain ⟨y, hy⟩ : ∃ x, t[k]? = some x := ⟨_, List.getElem?_eq_getElem (by rw [H.out.2.1]; exact hlt)⟩
            obtain ⟨BT, offT, rfl, t0⟩ := (H.out.2.2.2.1.below K.out.2) k y hy
            have K2 : Hid (doneGo (p : Int) (W - (c : Int)) (y :: t.drop (k + 1)) k = o) := by have := K.out.1; rw [dropT_at hy] at this; exact this
            have Kb := Lib.hid K.out.2
            clear hy K
            by_cases hyp : y = (p : Int)
            · have d2 : (y == (p : Int)) = true := by simp [hyp]
              obtain ⟨B, off, rfl, hJ⟩ := (H.out.2.2.1.below Kb.out) p x H.out.2.2.2.2.2.2.2
              have C4 : Hid (∀ w', Below wr.heap.size wr w' → Calls Tryd.prog 34 #[.agg x.cells] w' (RetB (.int .i64 W) w')) := fun w' hb' => C3.out w' (below_on Kb.out hb')
              unfold JAt at hJ
              unfold Jb.cells at C4
              obtain ⟨c0, c1, c2, c3, c4, c5, c6, c7⟩ := hJ
              generalize x.name = js at *
              generalize x.rel = jr at *
              generalize x.dl = jd at *
              generalize x.bud = jb at *
              generalize x.act = ja at *
              generalize x.vl = jv at *
              generalize x.cln = jc at *
              generalize x.hard = jh at *
              obtain ⟨q, hq⟩ : ∃ q, c + 1 = q := ⟨_, rfl⟩
              have e2 : Hid (IntKind.i64.wrap ((c : Int) + 1) = (q : Int)) := by show _ = _; rw [IntKind.wrap_i64]; omega
              have e3 : Hid (wrap64 ((c : Int) + 1) = (q : Int)) := by show _ = _; unfold wrap64; omega
              by_cases hqW : (q : Int) = W
              · have d3 : ((q : Int) == W) = true := by simp [hqW]
                have hl1 : W - (c : Int) - 1 = 0 := by omega
                have ho : some (k + 1) = o := by have := K2.out; rw [hyp, doneGo_last hl1] at this; exact this
                have hz2 : ((k + 1 : Nat) : Int) = z := by rw [← H.out.2.2.2.2.2.1, ← ho]; rfl
                have hb2 : true = g := by rw [← H.out.2.2.2.2.2.2.1, ← ho]; rfl
                subst hb2
                replace hz2 := Lib.hid hz2
                clear K2 hyp ho hqW hq hl1
                replace e2 := e2.out
                replace e3 := e3.out
                go_wp2_with fail
                refine (C4.out _ (by repeat (first | exact Below.refl _ _ | refine Below.setCell ?_ (by first | omega | (simp; done) | (simp; omega)) _ | refine below_dN ?_ _ | refine Below.drew ?_ | refine Below.alloc ?_ (by first | omega | (simp; done) | (simp; omega)) _))).mono ?_; rintro e hw ⟨rfl, hb⟩
                replace hb : Hid (Below w.heap.size w hw) := by refine below_on Kb.out (below_on ?_ hb); exact by repeat (first | exact Below.refl _ _ | refine Below.setCell ?_ (by first | omega | (simp; done) | (simp; omega)) _ | refine below_dN ?_ _ | refine Below.drew ?_ | refine Below.alloc ?_ (by first | omega | (simp; done) | (simp; omega)) _)
                clear C4 c0 c1 c2 c3 c4 c5 c6 c7
                go_wp2
                go_ret2
                exact ⟨by first | exact ret_ib hz2.out rfl | (rw [← hz2.out]), hb.out⟩
              · have d3 : ((q : Int) == W) = false := by simp [hqW]
                have hl1 : ¬ W - (c : Int) - 1 = 0 := by omega
                have hl2 : W - (q : Int) = W - (c : Int) - 1 := by omega
                have K3 : Hid (doneGo (p : Int) (W - (q : Int)) (t.drop (k + 1)) (k + 1) = o) := by have := K2.out; rw [hyp, doneGo_one hl1] at this; show doneGo _ _ _ _ = o; rw [hl2]; exact this
                have q1 : q ≤ k + 1 := by omega
                have q2 : (q : Int) < W := by omega
                clear K2 hyp hqW hq hl1 hl2
                replace e2 := e2.out
                replace e3 := e3.out
                go_wp2_with fail
                refine (C4.out _ (by repeat (first | exact Below.refl _ _ | refine Below.setCell ?_ (by first | omega | (simp; done) | (simp; omega)) _ | refine below_dN ?_ _ | refine Below.drew ?_ | refine Below.alloc ?_ (by first | omega | (simp; done) | (simp; omega)) _))).mono ?_; rintro e hw ⟨rfl, hb⟩
                replace hb : Hid (Below w.heap.size w hw) := by refine below_on Kb.out (below_on ?_ hb); exact by repeat (first | exact Below.refl _ _ | refine Below.setCell ?_ (by first | omega | (simp; done) | (simp; omega)) _ | refine below_dN ?_ _ | refine Below.drew ?_ | refine Below.alloc ?_ (by first | omega | (simp; done) | (simp; omega)) _)
                clear C4 c0 c1 c2 c3 c4 c5 c6 c7
                go_wp2
                go_roundw
                case rel => exact ⟨k + 1, q, by first | rfl | simp, by first | rfl | simp, by clear e2 e3; omega, q1, q2, Lib.hid ⟨K3.out, hb.out⟩⟩
                case measure => simp [intOf]; omega
            · have d2 : (y == (p : Int)) = false := by simp [hyp]
              have K3 : Hid (doneGo (p : Int) (W - (c : Int)) (t.drop (k + 1)) (k + 1) = o) := by have := K2.out; rw [doneGo_other hyp] at this; exact this
              clear K2 hyp
              go_wp2
              go_roundw
              case rel => exact ⟨k + 1, c, rfl, by first | rfl | simp, by omega, by omega, by omega, Lib.hid ⟨K3.out, Kb.out⟩⟩
              case measure => simp [intOf]; omega
          · have d1 : decide ((k : Int) < (m : Int)) = false := decide_eq_false (by omega)
            have ho : none = o := by have := K.out.1; rw [List.drop_eq_nil_of_le (by rw [H.out.2.1]; exact hge)] at this; exact this
            have hz2 : 0 = z := by rw [← H.out.2.2.2.2.2.1, ← ho]; rfl
            have hb2 : false = g := by rw [← H.out.2.2.2.2.2.2.1, ← ho]; rfl
            have Kb := Lib.hid K.out.2
            subst hz2
            subst hb2
            clear K ho
            go_wp2
            go_ret2
            exact ⟨rfl, Kb.out⟩
theorem metBy_at {l : List Jb} {t : List Int} {k : Nat} {x : Jb} (h : l[k]? = some x) : metBy l t (k : Int) = (allB l && metJ t (k : Int) x) := by
  unfold metBy
  have h1 : hasB l (k : Int) = true := hasB_iff.2 ⟨by omega, by have := (List.getElem?_eq_some_iff.1 h).1; omega⟩
  rw [h1, Int.toNat_natCast, h, Bool.true_and]
theorem doneAt_at {l : List Jb} {t : List Int} {k : Nat} {x : Jb} (h : l[k]? = some x) (ha : allB l = true) : doneAt l t (k : Int) = doneGo (k : Int) x.work t 0 := by
  unfold doneAt
  have h1 : hasB l (k : Int) = true := hasB_iff.2 ⟨by omega, by have := (List.getElem?_eq_some_iff.1 h).1; omega⟩
  rw [h1, ha, Int.toNat_natCast, h]
  rfl
theorem doneAt_yes {l : List Jb} {t : List Int} {i : Int} (h : doneB (doneAt l t i) = true) : allB l = true ∧ ∃ (k : Nat) (x : Jb), i = (k : Int) ∧ k < l.length ∧ l[k]? = some x := by
  unfold doneAt at h
  cases ha : allB l
  · rw [ha] at h; simp [doneB] at h
  · cases hh : hasB l i
    · rw [hh, ha] at h; simp [doneB] at h
    · obtain ⟨h0, h1⟩ := hasB_iff.1 hh
      obtain ⟨k, rfl⟩ := Int.eq_ofNat_of_zero_le h0
      exact ⟨rfl, k, _, rfl, by omega, List.getElem?_eq_getElem (by omega)⟩
theorem metBy_none {l : List Jb} {t : List Int} {i : Int} (h : doneB (doneAt l t i) = false) : metBy l t i = false := by
  cases hm : metBy l t i
  · rfl
  · unfold metBy at hm
    simp only [Bool.and_eq_true] at hm
    obtain ⟨ha, hh, hx⟩ := hm
    obtain ⟨h0, h1⟩ := hasB_iff.1 hh
    obtain ⟨k, rfl⟩ := Int.eq_ofNat_of_zero_le h0
    obtain ⟨x, hxx⟩ : ∃ x, l[k]? = some x := ⟨_, List.getElem?_eq_getElem (by omega)⟩
    rw [Int.toNat_natCast, hxx] at hx
    simp only at hx
    rw [doneAt_at hxx ha] at h
    unfold metJ at hx
    rw [metO_eq, h] at hx
    simp at hx
set_option maxHeartbeats 3200000 in
set_option maxRecDepth 100000 in
theorem rmetBy_any (A : Option Addr) (cap : Nat) (l : List Jb) (T : Option Addr) (tc : Nat) (t : List Int) (i : Int) (g : Bool) (w : World) (hln : l.length ≤ 1000000) (htn : t.length ≤ 1000000) (hcap : cap ≤ 9223372036854775807) (hlc : l.length ≤ cap) (hs : ∀ x ∈ l, x.name.size ≤ 1000000) (hL : Ltr w) (hR : RdJ w A l)
    (htc : tc ≤ 9223372036854775807) (htl : t.length ≤ tc) (hT : RdT w T t) (hg : metBy l t i = g) :
    Calls Tryd.prog 21 #[.slice A l.length cap, .slice T t.length tc, .int .i64 i] w (RetB (.bool g) w) := by
  obtain ⟨z, hz⟩ : ∃ z, doneN (doneAt l t i) = z := ⟨_, rfl⟩
  obtain ⟨gd, hgd⟩ : ∃ z, doneB (doneAt l t i) = z := ⟨_, rfl⟩
  have C1 := Lib.hid (rdoneAt_any A cap l T tc t i z gd w hln htn hcap hlc hs hL hR htc htl hT hz hgd)
  obtain ⟨n, hl⟩ : ∃ n, l.length = n := ⟨_, rfl⟩
  obtain ⟨m, hm⟩ : ∃ n, t.length = n := ⟨_, rfl⟩
  cases gd
  · rw [metBy_none hgd] at hg
    subst hg
    rw [hl] at C1 hlc ⊢
    rw [hm] at C1 htl ⊢
    clear hl hm hs hL hR hT hz hgd
    go_enter Tryd.func21, Tryd.ntmps21
    go_wp2_with fail
    refine C1.out.mono ?_; rintro e gw ⟨rfl, gb⟩
    clear C1
    replace gb := Lib.hid gb
    go_wp2_with fail
    go_quiet (fail)
    go_wp2
    go_ret
    exact ⟨rfl, by have s0 := gb.out.size; (try simp only [World.heap_drewN, World.size_alloc] at s0); repeat (first | exact Below.refl _ _ | exact gb.out | refine Below.trans ?_ (Below.mono gb.out (by first | omega | (simp; done) | (simp; omega))) | refine Below.setCell ?_ (by first | omega | (simp; done) | (simp; omega)) _ | refine below_dN ?_ _ | refine Below.drew ?_ | refine Below.alloc ?_ (by first | omega | (simp; done) | (simp; omega)) _)⟩
  · obtain ⟨ha, k, x, rfl, hk, hx⟩ := doneAt_yes hgd
    rw [metBy_at hx, ha, Bool.true_and] at hg
    rw [doneAt_at hx ha] at hz hgd
    unfold metJ at hg
    rw [metO_eq, hz, hgd, Bool.true_and] at hg
    have b1 : (k : Int) < (n : Int) := by omega
    rw [hl] at C1 hlc ⊢
    rw [hm] at C1 htl ⊢
    have RJ : Hid (∀ w', Below w.heap.size w w' → RdJ w' A l) := fun w' hb => hR.below hb
    unfold Jb.runs at hg
    replace hx := Lib.hid hx
    clear hl hm hs hL hR hT hz hgd ha hk
    go_enter Tryd.func21, Tryd.ntmps21
    go_wp2_with fail
    refine C1.out.mono ?_; rintro e gw ⟨rfl, gb⟩
    obtain ⟨B, off, rfl, hJ⟩ := RJ.out gw gb k x hx.out
    unfold JAt at hJ
    clear hx RJ C1
    obtain ⟨s, r, d, b, a, v, c, h⟩ := x
    simp only at hJ hg
    obtain ⟨c0, c1, c2, c3, c4, c5, c6, c7⟩ := hJ
    replace gb := Lib.hid gb
    by_cases h1 : z ≤ d
    · have d1 : decide (z ≤ d) = true := decide_eq_true h1
      rw [d1, Bool.true_and] at hg
      obtain ⟨q, hq⟩ : ∃ q, decide (a ≤ b) = q := ⟨_, rfl⟩
      rw [hq] at hg
      subst hg
      clear h1
      cases q
      all_goals
        go_wp2_with fail
        go_quiet (fail)
        go_wp2
        go_ret
        exact ⟨rfl, by have s0 := gb.out.size; (try simp only [World.heap_drewN, World.size_alloc] at s0); repeat (first | exact Below.refl _ _ | exact gb.out | refine Below.trans ?_ (Below.mono gb.out (by first | omega | (simp; done) | (simp; omega))) | refine Below.setCell ?_ (by first | omega | (simp; done) | (simp; omega)) _ | refine below_dN ?_ _ | refine Below.drew ?_ | refine Below.alloc ?_ (by first | omega | (simp; done) | (simp; omega)) _)⟩
    · have d1 : decide (z ≤ d) = false := decide_eq_false h1
      rw [d1, Bool.false_and] at hg
      subst hg
      clear h1
      go_wp2_with fail
      go_quiet (fail)
      go_wp2
      go_ret
      exact ⟨rfl, by have s0 := gb.out.size; (try simp only [World.heap_drewN, World.size_alloc] at s0); repeat (first | exact Below.refl _ _ | exact gb.out | refine Below.trans ?_ (Below.mono gb.out (by first | omega | (simp; done) | (simp; omega))) | refine Below.setCell ?_ (by first | omega | (simp; done) | (simp; omega)) _ | refine below_dN ?_ _ | refine Below.drew ?_ | refine Below.alloc ?_ (by first | omega | (simp; done) | (simp; omega)) _)⟩
end Go.Proofs.YtcendklbnogmbaaDoor
