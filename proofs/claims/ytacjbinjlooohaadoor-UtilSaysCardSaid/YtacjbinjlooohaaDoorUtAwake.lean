/- What the statements of layer 12 ask first: awake. UtilPeriods. -/
import Derived.Test.YtacjbinjlooohaaDoorUtB
namespace Go.Proofs.YtacjbinjlooohaaDoor
open Go.RowKit
open Go.Lib hiding intOf
set_option linter.unusedVariables false
set_option linter.unusedSimpArgs false

theorem u_third : utilV 1 3 = 349526 ∧ utilOk 1 3 = true ∧ periodV 1 349526 = 3 ∧ periodOk 1 349526 = true := by decide
theorem t_half : bs (textZ 524288) = ⟨#[48, 46, 53, 48, 48]⟩ := by
  have : textZ 524288 = [48, 46, 53, 48, 48] := by
    show dg 0 ++ 46 :: dg3 500 = _
    rw [dg_small (by decide)]; rfl
  rw [this]; rfl
set_option maxHeartbeats 1600000 in
set_option maxRecDepth 100000 in
theorem awake12_any (w : World) (hP : Pow w) : Calls Tryd.prog 8 #[] w (RetB (.bool true) w) := by
  have C1 := Lib.hid (uof_b 1 3 349526 true · (by decide) (by decide) u_third.1 u_third.2.1)
  have C2 := Lib.hid (uper_b 1 349526 3 true · (by decide) (by decide) u_third.2.2.1 u_third.2.2.2)
  have C3 : Hid (∀ w', Below w.heap.size w w' → Calls Tryd.prog 12 #[.int .i64 524288] w' (RetB (.string ⟨#[48, 46, 53, 48, 48]⟩) w')) := fun w' hb => t_half ▸ utext_b 524288 w' (by decide) (hP.below hb)
  clear hP
  go_enter Tryd.func8, Tryd.ntmps8
  go_wp2_with fail
  refine (C1.out _).mono ?_; rintro e aw ⟨rfl, a⟩
  go_wp2_with fail
  refine (C2.out _).mono ?_; rintro e bw ⟨rfl, b⟩
  go_wp2_with fail
  refine (C3.out _ (by have s0 := a.size; (try simp only [World.heap_drewN, World.size_alloc] at s0); have s1 := b.size; (try simp only [World.heap_drewN, World.size_alloc] at s1); repeat (first | exact Below.refl _ _ | exact a | exact b | refine Below.trans ?_ (Below.mono a (by first | omega | (simp; done) | (simp; omega))) | refine Below.trans ?_ (Below.mono b (by first | omega | (simp; done) | (simp; omega))) | refine Below.setCell ?_ (by first | omega | (simp; done) | (simp; omega)) _ | refine below_dN ?_ _ | refine Below.drew ?_ | refine Below.alloc ?_ (by first | omega | (simp; done) | (simp; omega)) _))).mono ?_; rintro e cw ⟨rfl, c⟩
  go_wp2
  go_ret
  exact ⟨rfl, by have s0 := a.size; (try simp only [World.heap_drewN, World.size_alloc] at s0); have s1 := b.size; (try simp only [World.heap_drewN, World.size_alloc] at s1); have s2 := c.size; (try simp only [World.heap_drewN, World.size_alloc] at s2); repeat (first | exact Below.refl _ _ | exact a | exact b | exact c | refine Below.trans ?_ (Below.mono a (by first | omega | (simp; done) | (simp; omega))) | refine Below.trans ?_ (Below.mono b (by first | omega | (simp; done) | (simp; omega))) | refine Below.trans ?_ (Below.mono c (by first | omega | (simp; done) | (simp; omega))) | refine Below.setCell ?_ (by first | omega | (simp; done) | (simp; omega)) _ | refine below_dN ?_ _ | refine Below.drew ?_ | refine Below.alloc ?_ (by first | omega | (simp; done) | (simp; omega)) _)⟩
set_option maxHeartbeats 3200000 in
set_option maxRecDepth 100000 in
theorem UtilPeriods_ret (need per share : Int) (w : World) (hL : Pow w) (hn : fitB need = true) (hp : fitB per = true) (hs : fitB share = true) :
    Calls Tryd.prog 5 #[.int .i64 need, .int .i64 per, .int .i64 share] w (RetB (.bool true) w) := by
  have A0 := Lib.hid (awake12_any w hL)
  obtain ⟨o, ho⟩ : ∃ o, periodOk need share = o := ⟨_, rfl⟩
  obtain ⟨p, hpv⟩ : ∃ p, periodV need share = p := ⟨_, rfl⟩
  have C1 := Lib.hid (uper_b need share p o · hn hs hpv ho)
  obtain ⟨o2, ho2⟩ : ∃ o, utilOk need per = o := ⟨_, rfl⟩
  obtain ⟨u2, hu2⟩ : ∃ u, utilV need per = u := ⟨_, rfl⟩
  have C4 := Lib.hid (uof_b need per u2 o2 · hn hp hu2 ho2)
  -- the first half
  have F : Hid (o = true → ∃ u, fitB p = true ∧ u ≤ share ∧ (∀ w', Calls Tryd.prog 9 #[.int .i64 need, .int .i64 p] w' (RetB (.tuple #[.int .i64 u, .bool true]) w')) ∧ (p > 1 → wrap64 (p - 1) = p - 1 ∧ ∃ v o3, ¬ v ≤ share ∧ ∀ w', Calls Tryd.prog 9 #[.int .i64 need, .int .i64 (p - 1)] w' (RetB (.tuple #[.int .i64 v, .bool o3]) w'))) := fun h => by
    have hd : 1 ≤ need ∧ need ≤ 1000 ∧ 1 ≤ share ∧ upZ (need * 1048576) share ≤ 10000 := of_decide_eq_true (ho.trans h)
    have e : upZ (need * 1048576) share = p := by rw [← hpv, (periodOk_yes hd).2]
    obtain ⟨h1, h2, h3, h4⟩ := hd
    have p1 := (up_need h1 h2 h3).1
    rw [e] at p1 h4
    obtain ⟨s1, s2⟩ := period_share (N := need * 1048576) (s := share) (p := p) (by omega) (by omega) e
    obtain ⟨y1, y2⟩ := utilOk_yes (need := need) (per := p) ⟨h1, h2, p1, h4⟩
    refine ⟨_, fitB_true ⟨by omega, by omega⟩, s1, fun w' => uof_b need p _ true w' hn (fitB_true ⟨by omega, by omega⟩) y2 y1, fun hp1 => ⟨by unfold wrap64; omega, ?_⟩⟩
    obtain ⟨z1, z2⟩ := utilOk_yes (need := need) (per := p - 1) ⟨h1, h2, by omega, by omega⟩
    have := s2 hp1
    exact ⟨_, true, by omega, fun w' => uof_b need (p - 1) _ true w' hn (fitB_true ⟨by omega, by omega⟩) z2 z1⟩
  have G : Hid (o2 = true → ∃ q, q ≤ per ∧ ∀ w', Calls Tryd.prog 10 #[.int .i64 need, .int .i64 u2] w' (RetB (.tuple #[.int .i64 q, .bool true]) w')) := fun h => by
    have hd : 1 ≤ need ∧ need ≤ 1000 ∧ 1 ≤ per ∧ per ≤ 10000 := of_decide_eq_true (ho2.trans h)
    have e : upZ (need * 1048576) per = u2 := by rw [← hu2, (utilOk_yes hd).2]
    obtain ⟨h1, h2, h3, h4⟩ := hd
    obtain ⟨p1, p2, _⟩ := up_need h1 h2 h3
    have s1 := share_period (N := need * 1048576) (p := per) (by omega) (by omega)
    rw [e] at p1 p2 s1
    obtain ⟨y1, y2⟩ := periodOk_yes (need := need) (share := u2) ⟨h1, h2, p1, by omega⟩
    exact ⟨_, s1, fun w' => uper_b need u2 _ true w' hn (fitB_true ⟨by omega, by omega⟩) y2 y1⟩
  have fin : ∀ w1, Below w.heap.size w w1 → True := fun _ _ => trivial
  clear fin hL ho hpv ho2 hu2
  go_enter Tryd.func5, Tryd.ntmps5
  go_wp2_with fail
  refine (A0.out).mono ?_; rintro e aw ⟨rfl, a⟩
  have ga := Lib.hid a
  clear A0
  go_wp2_with fail
  refine (C1.out _).mono ?_; rintro e bw ⟨rfl, b⟩
  have gb : Hid (Below w.heap.size w bw) := below_on ga.out b
  clear C1 a b ga
  cases o
  · go_wp2_with fail
    refine (C4.out _).mono ?_; rintro e cw ⟨rfl, c⟩
    have gc : Hid (Below w.heap.size w cw) := below_on gb.out c
    clear C4 c gb F
    cases o2
    · go_wp2
      go_ret
      exact ⟨rfl, by have s0 := gc.out.size; (try simp only [World.heap_drewN, World.size_alloc] at s0); repeat (first | exact Below.refl _ _ | exact gc.out | refine Below.trans ?_ (Below.mono gc.out (by first | omega | (simp; done) | (simp; omega))) | refine Below.setCell ?_ (by first | omega | (simp; done) | (simp; omega)) _ | refine below_dN ?_ _ | refine Below.drew ?_ | refine Below.alloc ?_ (by first | omega | (simp; done) | (simp; omega)) _)⟩
    · obtain ⟨q, hq, C5⟩ := G.out rfl
      replace C5 := Lib.hid C5
      have d5 : decide (q ≤ per) = true := decide_eq_true hq
      clear hq
      go_wp2_with fail
      refine (C5.out _).mono ?_; rintro e dw ⟨rfl, d⟩
      have gd : Hid (Below w.heap.size w dw) := below_on gc.out d
      clear C5 d gc
      go_wp2
      go_ret
      exact ⟨rfl, by have s0 := gd.out.size; (try simp only [World.heap_drewN, World.size_alloc] at s0); repeat (first | exact Below.refl _ _ | exact gd.out | refine Below.trans ?_ (Below.mono gd.out (by first | omega | (simp; done) | (simp; omega))) | refine Below.setCell ?_ (by first | omega | (simp; done) | (simp; omega)) _ | refine below_dN ?_ _ | refine Below.drew ?_ | refine Below.alloc ?_ (by first | omega | (simp; done) | (simp; omega)) _)⟩
  · obtain ⟨u, hfp, hu, C2, P⟩ := F.out rfl
    replace C2 := Lib.hid C2
    have d2 : decide (u > share) = false := decide_eq_false (by omega)
    clear F hu hfp
    go_wp2_with fail
    refine (C2.out _).mono ?_; rintro e cw ⟨rfl, c⟩
    have gc : Hid (Below w.heap.size w cw) := below_on gb.out c
    clear C2 c gb
    by_cases hp1 : p > 1
    · have d1 : decide (p > 1) = true := decide_eq_true hp1
      obtain ⟨e1, v, o3, hv, C3⟩ := P hp1
      replace C3 := Lib.hid C3
      have d3 : decide (v ≤ share) = false := decide_eq_false (by omega)
      clear P hp1 hv
      go_wp2_with fail
      refine (C3.out _).mono ?_; rintro e xw ⟨rfl, x⟩
      have gx : Hid (Below w.heap.size w xw) := below_on gc.out x
      clear C3 x gc
      go_wp2_with fail
      refine (C4.out _).mono ?_; rintro e yw ⟨rfl, y⟩
      have gy : Hid (Below w.heap.size w yw) := below_on gx.out y
      clear C4 y gx
      cases o2
      · go_wp2
        go_ret
        exact ⟨rfl, by have s0 := gy.out.size; (try simp only [World.heap_drewN, World.size_alloc] at s0); repeat (first | exact Below.refl _ _ | exact gy.out | refine Below.trans ?_ (Below.mono gy.out (by first | omega | (simp; done) | (simp; omega))) | refine Below.setCell ?_ (by first | omega | (simp; done) | (simp; omega)) _ | refine below_dN ?_ _ | refine Below.drew ?_ | refine Below.alloc ?_ (by first | omega | (simp; done) | (simp; omega)) _)⟩
      · obtain ⟨q, hq, C5⟩ := G.out rfl
        replace C5 := Lib.hid C5
        have d5 : decide (q ≤ per) = true := decide_eq_true hq
        clear hq
        go_wp2_with fail
        refine (C5.out _).mono ?_; rintro e dw ⟨rfl, d⟩
        have gd : Hid (Below w.heap.size w dw) := below_on gy.out d
        clear C5 d gy
        go_wp2
        go_ret
        exact ⟨rfl, by have s0 := gd.out.size; (try simp only [World.heap_drewN, World.size_alloc] at s0); repeat (first | exact Below.refl _ _ | exact gd.out | refine Below.trans ?_ (Below.mono gd.out (by first | omega | (simp; done) | (simp; omega))) | refine Below.setCell ?_ (by first | omega | (simp; done) | (simp; omega)) _ | refine below_dN ?_ _ | refine Below.drew ?_ | refine Below.alloc ?_ (by first | omega | (simp; done) | (simp; omega)) _)⟩
    · have d1 : decide (p > 1) = false := decide_eq_false hp1
      clear P hp1
      go_wp2_with fail
      refine (C4.out _).mono ?_; rintro e yw ⟨rfl, y⟩
      have gy : Hid (Below w.heap.size w yw) := below_on gc.out y
      clear C4 y gc
      cases o2
      · go_wp2
        go_ret
        exact ⟨rfl, by have s0 := gy.out.size; (try simp only [World.heap_drewN, World.size_alloc] at s0); repeat (first | exact Below.refl _ _ | exact gy.out | refine Below.trans ?_ (Below.mono gy.out (by first | omega | (simp; done) | (simp; omega))) | refine Below.setCell ?_ (by first | omega | (simp; done) | (simp; omega)) _ | refine below_dN ?_ _ | refine Below.drew ?_ | refine Below.alloc ?_ (by first | omega | (simp; done) | (simp; omega)) _)⟩
      · obtain ⟨q, hq, C5⟩ := G.out rfl
        replace C5 := Lib.hid C5
        have d5 : decide (q ≤ per) = true := decide_eq_true hq
        clear hq
        go_wp2_with fail
        refine (C5.out _).mono ?_; rintro e dw ⟨rfl, d⟩
        have gd : Hid (Below w.heap.size w dw) := below_on gy.out d
        clear C5 d gy
        go_wp2
        go_ret
        exact ⟨rfl, by have s0 := gd.out.size; (try simp only [World.heap_drewN, World.size_alloc] at s0); repeat (first | exact Below.refl _ _ | exact gd.out | refine Below.trans ?_ (Below.mono gd.out (by first | omega | (simp; done) | (simp; omega))) | refine Below.setCell ?_ (by first | omega | (simp; done) | (simp; omega)) _ | refine below_dN ?_ _ | refine Below.drew ?_ | refine Below.alloc ?_ (by first | omega | (simp; done) | (simp; omega)) _)⟩
end Go.Proofs.YtacjbinjlooohaaDoor
