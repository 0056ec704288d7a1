/- ElasticFloor, ElasticMore, ElasticSays. -/
import Derived.Test.YtkjgpidiompmlaaElAwake
namespace Go.Proofs.Ytkjgpidiompmlaa
open Go.RowKit
open Go.Lib hiding intOf
set_option linter.unusedVariables false
set_option linter.unusedSimpArgs false

set_option maxHeartbeats 3200000 in
set_option maxRecDepth 100000 in
theorem ElasticFloor_ret (A : Option Addr) (cap : Nat) (l : List Sp) (room : Int) (w : World) (hlc : l.length ≤ cap) (hcap : cap ≤ 9223372036854775807) (hR : RdSp w A l) (hr : fitB room = true) :
    Calls Try.prog 8 #[.slice A l.length cap, .int .i64 room] w (RetB (.bool true) w) := by
  have A0 := Lib.hid awake13_any
  obtain ⟨e, xs, h⟩ := PressR.exists_ room l
  obtain ⟨v, hv⟩ : ∃ v, floorV l = v := ⟨_, rfl⟩
  obtain ⟨o, ho⟩ : ∃ o, floorOk l = o := ⟨_, rfl⟩
  have C1 := Lib.hid (fun w' (hb : Below w.heap.size w w') => efloor_b A cap l v o w' hcap hlc (hR.below hb) hv ho)
  have C2 := Lib.hid (fun w' (hb : Below w.heap.size w w') => epress_b A cap l room e xs w' hcap hlc (hR.below hb) hr h)
  obtain ⟨F1, F2⟩ := h.floor
  have hov : o = true → v = floorZ l := fun h => by rw [← hv]; unfold floorV; rw [show springsB l = o from ho, h]; rfl
  have hso : springsB l = o := ho
  rw [hso] at F1 F2
  generalize floorZ l = fl at *
  generalize l.length = n at *
  clear hR h hv ho hso hr
  have T : Hid ((o = false ∧ e = 1) ∨ (o = true ∧ room < 0 ∧ e = 1) ∨ (o = true ∧ ¬ room < 0 ∧ room > 67108864 ∧ e = 1) ∨ (o = true ∧ ¬ room < 0 ∧ ¬ room > 67108864 ∧ (e = 9 ↔ room < v) ∧ (e = 0 ↔ v ≤ room))) := by
    show _ ∨ _
    cases o
    · exact .inl ⟨rfl, F1 rfl⟩
    · rw [hov rfl]
      rcases hrb : roomB room with _ | _
      · have e1 := F1 (by rw [hrb]; rfl)
        have : ¬ (0 ≤ room ∧ room ≤ 67108864) := fun c => by rw [room_iff.2 c] at hrb; cases hrb
        by_cases c : room < 0
        · exact .inr (.inl ⟨rfl, c, e1⟩)
        · exact .inr (.inr (.inl ⟨rfl, c, by omega, e1⟩))
      · have := room_iff.1 hrb
        obtain ⟨x1, x2⟩ := F2 (by rw [hrb]; rfl)
        exact .inr (.inr (.inr ⟨rfl, by omega, by omega, x1, x2⟩))
  clear F1 F2 hov
  go_enter Try.func8, Try.ntmps8
  go_wp2_with fail
  refine (A0.out _).mono ?_; rintro e aw ⟨rfl, a⟩
  have ga := Lib.hid a
  clear A0 a
  go_wp2_with fail
  refine (C1.out _ ga.out).mono ?_; rintro z bw ⟨rfl, b⟩
  have gb : Hid (Below w.heap.size w bw) := below_on ga.out b
  clear C1 b ga
  go_wp2_with fail
  refine (C2.out _ gb.out).mono ?_; rintro z cw ⟨A', c, rfl, _, _, _, b⟩
  have gc : Hid (Below w.heap.size w cw) := below_on gb.out b
  clear C2 b gb
  rcases T.out with ⟨rfl, rfl⟩ | ⟨rfl, h1, rfl⟩ | ⟨rfl, h1, h2, rfl⟩ | ⟨rfl, h1, h2, h3, h4⟩
  · clear T
    go_wp2
    go_ret
    exact ⟨rfl, by have s0 := gc.out.size; (try simp only [World.heap_drewN, World.size_alloc] at s0); repeat (first | exact Below.refl _ _ | exact gc.out | refine Below.trans ?_ (Below.mono gc.out (by first | omega | (simp; done) | (simp; omega))) | refine Below.setCell ?_ (by first | omega | (simp; done) | (simp; omega)) _ | refine below_dN ?_ _ | refine Below.drew ?_ | refine Below.alloc ?_ (by first | omega | (simp; done) | (simp; omega)) _)⟩
  · have d1 : decide (room < 0) = true := decide_eq_true h1
    clear T h1
    go_wp2
    go_ret
    exact ⟨rfl, by have s0 := gc.out.size; (try simp only [World.heap_drewN, World.size_alloc] at s0); repeat (first | exact Below.refl _ _ | exact gc.out | refine Below.trans ?_ (Below.mono gc.out (by first | omega | (simp; done) | (simp; omega))) | refine Below.setCell ?_ (by first | omega | (simp; done) | (simp; omega)) _ | refine below_dN ?_ _ | refine Below.drew ?_ | refine Below.alloc ?_ (by first | omega | (simp; done) | (simp; omega)) _)⟩
  · have d1 : decide (room < 0) = false := decide_eq_false (by omega)
    have d2 : decide (room > 67108864) = true := decide_eq_true h2
    clear T h1 h2
    go_wp2
    go_ret
    exact ⟨rfl, by have s0 := gc.out.size; (try simp only [World.heap_drewN, World.size_alloc] at s0); repeat (first | exact Below.refl _ _ | exact gc.out | refine Below.trans ?_ (Below.mono gc.out (by first | omega | (simp; done) | (simp; omega))) | refine Below.setCell ?_ (by first | omega | (simp; done) | (simp; omega)) _ | refine below_dN ?_ _ | refine Below.drew ?_ | refine Below.alloc ?_ (by first | omega | (simp; done) | (simp; omega)) _)⟩
  · have d1 : decide (room < 0) = false := decide_eq_false (by omega)
    have d2 : decide (room > 67108864) = false := decide_eq_false (by omega)
    obtain ⟨p, hp⟩ : ∃ p, decide (v > room) = p := ⟨_, rfl⟩
    obtain ⟨q, hq⟩ : ∃ q, decide (v ≤ room) = q := ⟨_, rfl⟩
    have e1 : (e == 9) = p := by
      rw [← hp, Bool.eq_iff_iff, beq_iff_eq, decide_eq_true_eq]
      exact h3
    have e2 : (e == 0) = q := by
      rw [← hq, Bool.eq_iff_iff, beq_iff_eq, decide_eq_true_eq]
      exact h4
    have e3 : (p == p) = true := by simp
    have e4 : (q == q) = true := by simp
    clear T h1 h2 h3 h4
    go_wp2
    go_ret
    exact ⟨rfl, by have s0 := gc.out.size; (try simp only [World.heap_drewN, World.size_alloc] at s0); repeat (first | exact Below.refl _ _ | exact gc.out | refine Below.trans ?_ (Below.mono gc.out (by first | omega | (simp; done) | (simp; omega))) | refine Below.setCell ?_ (by first | omega | (simp; done) | (simp; omega)) _ | refine below_dN ?_ _ | refine Below.drew ?_ | refine Below.alloc ?_ (by first | omega | (simp; done) | (simp; omega)) _)⟩
set_option maxHeartbeats 3200000 in
set_option maxRecDepth 100000 in
theorem ElasticMore_ret (A : Option Addr) (cap : Nat) (l : List Sp) (room by_ : Int) (w : World) (hlc : l.length ≤ cap) (hcap : cap ≤ 9223372036854775807) (hR : RdSp w A l) (hr : fitB room = true) (hby : fitB by_ = true) :
    Calls Try.prog 7 #[.slice A l.length cap, .int .i64 room, .int .i64 by_] w (RetB (.bool true) w) := by
  have A0 := Lib.hid awake13_any
  obtain ⟨r1, r2⟩ := fitB_iff.1 hr
  by_cases hgo : (l.length : Int) ≤ 12 ∧ 0 ≤ by_ ∧ by_ ≤ 1000000 ∧ room ≤ 62914560
  · obtain ⟨g1, g2, g3, g4⟩ := hgo
    have t1 : decide ((l.length : Int) > 12) = false := decide_eq_false (by omega)
    have t2 : decide (by_ < 0) = false := decide_eq_false (by omega)
    have t3 : decide (by_ > 1000000) = false := decide_eq_false (by omega)
    have t4 : decide (room > 62914560) = false := decide_eq_false (by omega)
    obtain ⟨e, xs, h⟩ := PressR.exists_ room l
    obtain ⟨s, hs⟩ : ∃ s, room + by_ = s := ⟨_, rfl⟩
    obtain ⟨f, ys, h'⟩ := PressR.exists_ s l
    have es : wrap64 (room + by_) = s := by unfold wrap64; omega
    have C1 := Lib.hid (fun w' (hb : Below w.heap.size w w') => epress_b A cap l room e xs w' hcap hlc (hR.below hb) hr h)
    have C2 := Lib.hid (fun w' (hb : Below w.heap.size w w') => epress_b A cap l s f ys w' hcap hlc (hR.below hb) (fitB_true ⟨by omega, by omega⟩) h')
    have L1 := h.len
    have L2 := h'.len
    have M : Hid (e = 0 → f = 0 ∧ ∀ (i : Nat) (x y : Int), xs[i]? = some x → ys[i]? = some y → x ≤ y) := fun he => by
      subst he
      rw [← hs] at h'
      exact h.more h' g2 (by omega)
    obtain ⟨n, hn⟩ : ∃ n, l.length = n := ⟨_, rfl⟩
    rw [hn] at C1 C2 L1 L2 t1 g1 ⊢
    clear hR h h' hr hby hs hn r1 r2 hlc
    go_enter Try.func7, Try.ntmps7
    go_wp2_with fail
    refine (A0.out _).mono ?_; rintro e aw ⟨rfl, a⟩
    have ga := Lib.hid a
    clear A0 a
    go_wp2_with fail
    refine (C1.out _ ga.out).mono ?_; rintro z bw ⟨X, xc, rfl, hx1, hx2, hx3, b⟩
    have gb : Hid (Below w.heap.size w bw) := below_on ga.out b
    replace hx3 := Lib.hid hx3
    clear C1 b ga t1 t2 t3 t4
    go_wp2_with fail
    refine (C2.out _ gb.out).mono ?_; rintro z cw ⟨Y, yc, rfl, hy1, hy2, hy3, b⟩
    have gc : Hid (Below w.heap.size w cw) := below_on gb.out b
    have hX : Hid (ReadsI cw X xs) := hx3.out.on b
    have hY : Hid (ReadsI cw Y ys) := hy3
    clear C2 b gb hy3 hx3 es
    by_cases he : e = 0
    · obtain ⟨hf, hle⟩ := M.out he
      subst he
      subst hf
      have l1 := L1.1 rfl
      have l2 := L2.1 rfl
      have k1 : ((n : Int) != (n : Int)) = false := by simp
      have LL := Lib.hid (And.intro l1 (And.intro l2 hle))
      rw [l1] at hx1 ⊢
      rw [l2] at hy1 ⊢
      clear M L1 L2 l1 l2 hle
      go_wp2
      clear k1
      go_loopw [11] (fun st wr => ∃ (j : Nat) (k : Nat), st = .int .i64 (j : Int) ∧ j ≤ n ∧ wr = cw.drewN k) (fun st _ => n - (intOf st).toNat)
      case atStart => exact ⟨0, 0, rfl, by omega, rfl⟩
      case round =>
        obtain ⟨j, k, rfl, hj, rfl⟩ := hrel
        rcases Nat.lt_or_ge j n with hlt | hge
        · obtain ⟨g, o, rfl, d0⟩ := hX.out j (by rw [LL.out.1]; exact hlt)
          obtain ⟨g', o', rfl, y0⟩ := hY.out j (by rw [LL.out.2.1]; exact hlt)
          have hxy := LL.out.2.2 j (xs.getD j 0) (ys.getD j 0) (by rw [List.getD, List.getElem?_eq_getElem (by rw [LL.out.1]; exact hlt)]; rfl) (by rw [List.getD, List.getElem?_eq_getElem (by rw [LL.out.2.1]; exact hlt)]; rfl)
          generalize xs.getD j 0 = x at *
          generalize ys.getD j 0 = y at *
          have q1 : (j : Int) < (n : Int) := by omega
          have q2 : (0 : Int) ≤ (j : Int) := by omega
          have q3 : decide (y < x) = false := decide_eq_false (by omega)
          have e1 : wrap64 ((j : Int) + 1) = ((j + 1 : Nat) : Int) := by unfold wrap64; omega
          clear hxy
          go_wp2
          go_quiet (fail)
          go_wp2
          go_roundw
          case rel => exact ⟨j + 1, _, by first | rfl | (simp; done) | rw [e1], by omega, rfl⟩
          case measure => simp [intOf]; omega
        · obtain rfl : j = n := by omega
          go_wp2
          go_ret
          exact ⟨rfl, below_dN gc.out _⟩
    · have k1 : (e != 0) = true := by rw [bne_iff_ne]; exact he
      clear M L1 L2 he
      go_wp2
      go_ret
      exact ⟨rfl, by have s0 := gc.out.size; (try simp only [World.heap_drewN, World.size_alloc] at s0); repeat (first | exact Below.refl _ _ | exact gc.out | refine Below.trans ?_ (Below.mono gc.out (by first | omega | (simp; done) | (simp; omega))) | refine Below.setCell ?_ (by first | omega | (simp; done) | (simp; omega)) _ | refine below_dN ?_ _ | refine Below.drew ?_ | refine Below.alloc ?_ (by first | omega | (simp; done) | (simp; omega)) _)⟩
  · obtain ⟨n, hn⟩ : ∃ n, l.length = n := ⟨_, rfl⟩
    rw [hn] at hgo ⊢
    clear hR hr hby hn r1 r2 hlc
    have hh : decide ((n : Int) > 12) = true ∨ decide ((n : Int) > 12) = false ∧ decide (by_ < 0) = true ∨ decide ((n : Int) > 12) = false ∧ decide (by_ < 0) = false ∧ decide (by_ > 1000000) = true ∨ decide ((n : Int) > 12) = false ∧ decide (by_ < 0) = false ∧ decide (by_ > 1000000) = false ∧ decide (room > 62914560) = true := by
      by_cases c1 : (n : Int) > 12
      · exact .inl (decide_eq_true c1)
      · by_cases c2 : by_ < 0
        · exact .inr (.inl ⟨decide_eq_false c1, decide_eq_true c2⟩)
        · by_cases c3 : by_ > 1000000
          · exact .inr (.inr (.inl ⟨decide_eq_false c1, decide_eq_false c2, decide_eq_true c3⟩))
          · exact .inr (.inr (.inr ⟨decide_eq_false c1, decide_eq_false c2, decide_eq_false c3, decide_eq_true (by omega)⟩))
    clear hgo
    rcases hh with h1 | ⟨h1, h2⟩ | ⟨h1, h2, h3⟩ | ⟨h1, h2, h3, h4⟩
    all_goals
      go_enter Try.func7, Try.ntmps7
      go_wp2_with fail
      refine (A0.out _).mono ?_; rintro e aw ⟨rfl, a⟩
      go_wp2
      go_ret
      exact ⟨rfl, by have s0 := a.size; (try simp only [World.heap_drewN, World.size_alloc] at s0); repeat (first | exact Below.refl _ _ | exact a | refine Below.trans ?_ (Below.mono a (by first | omega | (simp; done) | (simp; omega))) | refine Below.setCell ?_ (by first | omega | (simp; done) | (simp; omega)) _ | refine below_dN ?_ _ | refine Below.drew ?_ | refine Below.alloc ?_ (by first | omega | (simp; done) | (simp; omega)) _)⟩
end Go.Proofs.Ytkjgpidiompmlaa
