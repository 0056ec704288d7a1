/- UtilSays, UtilTexts. -/
import Derived.Test.YtacjbinjlooohaaDoorUtAwake
namespace Go.Proofs.YtacjbinjlooohaaDoor
open Go.RowKit Go.PlainAid
open Go.Lib hiding intOf
set_option linter.unusedVariables false
set_option linter.unusedSimpArgs false

set_option maxHeartbeats 3200000 in
set_option maxRecDepth 100000 in
theorem UtilSays_ret (need per share : Int) (A : Option Addr) (c : Nat) (zs : List Int) (w : World) (hL : Pow w) (hn : fitB need = true) (hp : fitB per = true) (hs : fitB share = true) (hl : zs.length ≤ 9223372036854775807) (hf : ∀ x ∈ zs, fitB x = true) (hr : ReadsI w A zs) (hA : zs ≠ [] → ∀ ad, A = some ad → ad.block < w.heap.size) :
    Calls Tryd.prog 4 #[.int .i64 need, .int .i64 per, .int .i64 share, .slice A zs.length c] w (RetB (.bool true) w) := by
  have A0 := Lib.hid (awake12_any w hL)
  have C1 := Lib.hid (uof_b need per _ _ · hn hp rfl rfl)
  have C2 := Lib.hid (rutil_any need per _ _ · hn hp rfl rfl)
  have C3 := Lib.hid (uper_b need share _ _ · hn hs rfl rfl)
  have C4 := Lib.hid (rperiod_any need share _ _ · hn hs rfl rfl)
  have hrd : ∀ w', Below w.heap.size w w' → ReadsI w' A zs := fun w' hb k hk => by
    obtain ⟨b, off, rfl, h⟩ := hr k hk
    exact ⟨b, off, rfl, by rw [hb.cell (p := ⟨b, off + k, none⟩) (cell_lt h)]; exact h⟩
  have C5 := Lib.hid (fun w' (hb : Below w.heap.size w w') => usum_b A c zs _ _ w' hl hf (hrd w' hb) rfl rfl)
  have C6 := Lib.hid (fun w' (hb : Below w.heap.size w w') => rsum_b A c zs _ _ w' hl hf (hrd w' hb) rfl rfl)
  have C7 := Lib.hid (fun w' (hb : Below w.heap.size w w') => utext_b share w' hs (hL.below hb))
  have C8 := Lib.hid (rtext_any share · hs)
  obtain ⟨n, hzn⟩ : ∃ n, zs.length = n := ⟨_, rfl⟩
  rw [hzn] at C5 C6 hl ⊢
  generalize utilV need per = v1 at *
  generalize utilOk need per = o1 at *
  generalize periodV need share = v2 at *
  generalize periodOk need share = o2 at *
  generalize totV zs = v3 at *
  generalize totOk zs = o3 at *
  generalize bs (textZ share) = s at *
  clear hn hp hs hf hr hA hrd hzn hL
  have q1 : (v1 == v1) = true := by simp
  have q2 : (o1 == o1) = true := by simp
  have q3 : (v2 == v2) = true := by simp
  have q4 : (o2 == o2) = true := by simp
  have q5 : (v3 == v3) = true := by simp
  have q6 : (o3 == o3) = true := by simp
  have q7 : (s.toList == s.toList) = true := by simp
  by_cases h20 : n ≤ 20
  · have d1 : decide ((n : Int) > 20) = false := decide_eq_false (by omega)
    go_enter Tryd.func4, Tryd.ntmps4
    go_wp2_with fail
    refine (A0.out).mono ?_; rintro e aw ⟨rfl, a⟩
    have ga := Lib.hid a
    clear A0 a
    go_wp2_with fail
    refine (C1.out _).mono ?_; rintro e bw ⟨rfl, b⟩
    have gb : Hid (Below w.heap.size w bw) := below_on ga.out b
    clear C1 b ga
    go_wp2_with fail
    refine (C2.out _).mono ?_; rintro e dw ⟨rfl, d⟩
    have gd : Hid (Below w.heap.size w dw) := below_on gb.out d
    clear C2 d gb
    go_wp2_with fail
    refine (C3.out _).mono ?_; rintro e xw ⟨rfl, x⟩
    have gx : Hid (Below w.heap.size w xw) := below_on gd.out x
    clear C3 x gd
    go_wp2_with fail
    refine (C4.out _).mono ?_; rintro e yw ⟨rfl, y⟩
    have gy : Hid (Below w.heap.size w yw) := below_on gx.out y
    clear C4 y gx
    go_wp2_with fail
    refine (C5.out _ gy.out).mono ?_; rintro e zw ⟨rfl, z⟩
    have gz : Hid (Below w.heap.size w zw) := below_on gy.out z
    clear C5 z gy
    go_wp2_with fail
    refine (C6.out _ gz.out).mono ?_; rintro e tw ⟨rfl, t⟩
    have gt : Hid (Below w.heap.size w tw) := below_on gz.out t
    clear C6 t gz
    go_wp2_with fail
    refine (C7.out _ (by have s0 := gt.out.size; (try simp only [World.heap_drewN, World.size_alloc] at s0); repeat (first | exact Below.refl _ _ | exact gt.out | refine Below.trans ?_ (Below.mono gt.out (by first | omega | (simp; done) | (simp; omega))) | refine Below.setCell ?_ (by first | omega | (simp; done) | (simp; omega)) _ | refine below_dN ?_ _ | refine Below.drew ?_ | refine Below.alloc ?_ (by first | omega | (simp; done) | (simp; omega)) _))).mono ?_; rintro e iw ⟨rfl, i⟩
    have gi : Hid (Below w.heap.size w iw) := below_on gt.out i
    clear C7 i gt
    go_wp2_with fail
    refine (C8.out _).mono ?_; rintro e jw ⟨rfl, j⟩
    have gj : Hid (Below w.heap.size w jw) := below_on gi.out j
    clear C8 j gi
    go_wp2
    go_ret
    exact ⟨rfl, by have s0 := gj.out.size; (try simp only [World.heap_drewN, World.size_alloc] at s0); repeat (first | exact Below.refl _ _ | exact gj.out | refine Below.trans ?_ (Below.mono gj.out (by first | omega | (simp; done) | (simp; omega))) | refine Below.setCell ?_ (by first | omega | (simp; done) | (simp; omega)) _ | refine below_dN ?_ _ | refine Below.drew ?_ | refine Below.alloc ?_ (by first | omega | (simp; done) | (simp; omega)) _)⟩
  · have d1 : decide ((n : Int) > 20) = true := decide_eq_true (by omega)
    go_enter Tryd.func4, Tryd.ntmps4
    go_wp2_with fail
    refine (A0.out).mono ?_; rintro e aw ⟨rfl, a⟩
    go_wp2
    go_ret
    exact ⟨rfl, by have s0 := a.size; (try simp only [World.heap_drewN, World.size_alloc] at s0); repeat (first | exact Below.refl _ _ | exact a | refine Below.trans ?_ (Below.mono a (by first | omega | (simp; done) | (simp; omega))) | refine Below.setCell ?_ (by first | omega | (simp; done) | (simp; omega)) _ | refine below_dN ?_ _ | refine Below.drew ?_ | refine Below.alloc ?_ (by first | omega | (simp; done) | (simp; omega)) _)⟩
set_option maxHeartbeats 3200000 in
set_option maxRecDepth 100000 in
theorem UtilTexts_ret (a b : Int) (w : World) (hL : Pow w) (ha : fitB a = true) (hb : fitB b = true) :
    Calls Tryd.prog 7 #[.int .i64 a, .int .i64 b] w (RetB (.bool true) w) := by
  have A0 := Lib.hid (awake12_any w hL)
  obtain ⟨a1, a2⟩ := fitB_iff.1 ha
  obtain ⟨b1, b2⟩ := fitB_iff.1 hb
  by_cases h0 : a < 0
  · have d0 : decide (a < 0) = true := decide_eq_true h0
    clear ha hb a1 a2 b1 b2 h0
    go_enter Tryd.func7, Tryd.ntmps7
    go_wp2_with fail
    refine (A0.out).mono ?_; rintro e xw ⟨rfl, x⟩
    go_wp2
    go_ret
    exact ⟨rfl, by have s0 := x.size; (try simp only [World.heap_drewN, World.size_alloc] at s0); repeat (first | exact Below.refl _ _ | exact x | refine Below.trans ?_ (Below.mono x (by first | omega | (simp; done) | (simp; omega))) | refine Below.setCell ?_ (by first | omega | (simp; done) | (simp; omega)) _ | refine below_dN ?_ _ | refine Below.drew ?_ | refine Below.alloc ?_ (by first | omega | (simp; done) | (simp; omega)) _)⟩
  · have d0 : decide (a < 0) = false := decide_eq_false h0
    by_cases h1 : b < a
    · have d1 : decide (b < a) = true := decide_eq_true h1
      clear ha hb a1 a2 b1 b2 h0 h1
      go_enter Tryd.func7, Tryd.ntmps7
      go_wp2_with fail
      refine (A0.out).mono ?_; rintro e xw ⟨rfl, x⟩
      go_wp2
      go_ret
      exact ⟨rfl, by have s0 := x.size; (try simp only [World.heap_drewN, World.size_alloc] at s0); repeat (first | exact Below.refl _ _ | exact x | refine Below.trans ?_ (Below.mono x (by first | omega | (simp; done) | (simp; omega))) | refine Below.setCell ?_ (by first | omega | (simp; done) | (simp; omega)) _ | refine below_dN ?_ _ | refine Below.drew ?_ | refine Below.alloc ?_ (by first | omega | (simp; done) | (simp; omega)) _)⟩
    · have d1 : decide (b < a) = false := decide_eq_false h1
      have C1 := Lib.hid (fun w' (hb : Below w.heap.size w w') => utext_b a w' ha (hL.below hb))
      have C2 := Lib.hid (fun w' (hb2 : Below w.heap.size w w') => utext_b b w' hb (hL.below hb2))
      have ea : textZ a = textL a.toNat := by unfold textZ; rw [if_neg h0]
      have eb : textZ b = textL b.toNat := by unfold textZ; rw [if_neg (by omega)]
      rw [ea] at C1
      rw [eb] at C2
      obtain ⟨t1, t2, t3⟩ := texts_rise (a := a.toNat) (b := b.toNat) (by omega)
      have t4 := textL_point a.toNat
      have t5 := textL_len18 (n := a.toNat) (by omega)
      have t6 := textL_len18 (n := b.toNat) (by omega)
      generalize textL a.toNat = X at *
      generalize textL b.toNat = Y at *
      have z1 := bs_size X
      have z2 := bs_size Y
      have k1 : (X.length : Int) ≤ (Y.length : Int) := by omega
      have k2 : (5 : Int) ≤ (X.length : Int) := by omega
      clear ha hb a1 a2 b1 b2 h0 h1 ea eb hL
      obtain ⟨p, hp⟩ : ∃ p, X.length - 4 = p := ⟨_, rfl⟩
      rw [hp] at t4
      have e1 : IntKind.i64.wrap ((X.length : Int) - 4) = (p : Int) := by rw [IntKind.wrap_i64]; omega
      have e2 : wrap64 ((X.length : Int) - 4) = (p : Int) := by unfold wrap64; omega
      have hbyte : ∀ h : p < (bs X).size, ((((bs X)[p]'h).toNat : Int) == 46) = true := fun h => by
        have hx : X[p]'(by rw [z1] at h; exact h) = 46 := by
          rw [List.getElem?_eq_some_iff] at t4
          exact t4.2
        have : (bs X)[p]'h = X[p]'(by rw [z1] at h; exact h) := by simp [bs, ByteArray.getElem_eq_getElem_data]
        rw [this, hx]; rfl
      have hle : ∀ ty w', leB X Y = true → (binOp .leq ty (.string (bs X)) (.string (bs Y))).run Tryd.prog w' = .ok (.bool true) w' := fun ty w' h => by
        have : binOp .leq ty (.string (bs X)) (.string (bs Y)) = pure (.bool (leB X Y)) := by simp [binOp, Op.stringOp, bs_list, leB]
        rw [this, h]; rfl
      have hlt : decide ((X.length : Int) < (Y.length : Int)) = true ∨ decide ((X.length : Int) < (Y.length : Int)) = false ∧ ∀ ty w', (binOp .leq ty (.string (bs X)) (.string (bs Y))).run Tryd.prog w' = .ok (.bool true) w' := by
        by_cases c : X.length < Y.length
        · exact .inl (decide_eq_true (by omega))
        · exact .inr ⟨decide_eq_false (by omega), fun ty w' => hle ty w' (t2.resolve_left c)⟩
      have hpx : p < (bs X).size := by omega
      clear hle t2 t3 t4 t5 t6 hp
      rcases hlt with d2 | ⟨d2, hle⟩
      all_goals
        go_enter Tryd.func7, Tryd.ntmps7
        go_wp2_with fail
        refine (A0.out).mono ?_; rintro e xw ⟨rfl, x⟩
        have gx := Lib.hid x
        clear A0 x
        go_wp2_with fail
        refine (C1.out _ (by have s0 := gx.out.size; (try simp only [World.heap_drewN, World.size_alloc] at s0); repeat (first | exact Below.refl _ _ | exact gx.out | refine Below.trans ?_ (Below.mono gx.out (by first | omega | (simp; done) | (simp; omega))) | refine Below.setCell ?_ (by first | omega | (simp; done) | (simp; omega)) _ | refine below_dN ?_ _ | refine Below.drew ?_ | refine Below.alloc ?_ (by first | omega | (simp; done) | (simp; omega)) _))).mono ?_; rintro e yw ⟨rfl, y⟩
        have gy : Hid (Below w.heap.size w yw) := below_on gx.out y
        clear C1 y gx
        go_wp2_with fail
        refine (C2.out _ (by have s0 := gy.out.size; (try simp only [World.heap_drewN, World.size_alloc] at s0); repeat (first | exact Below.refl _ _ | exact gy.out | refine Below.trans ?_ (Below.mono gy.out (by first | omega | (simp; done) | (simp; omega))) | refine Below.setCell ?_ (by first | omega | (simp; done) | (simp; omega)) _ | refine below_dN ?_ _ | refine Below.drew ?_ | refine Below.alloc ?_ (by first | omega | (simp; done) | (simp; omega)) _))).mono ?_; rintro e zw ⟨rfl, z⟩
        have gz : Hid (Below w.heap.size w zw) := below_on gy.out z
        clear C2 z gy
        go_wp2
        all_goals
          first
          | (exfalso; simp at d2; omega)
          | (go_ret
             exact ⟨by first | rfl | exact ret_b (hbyte _), gz.out⟩)
end Go.Proofs.YtacjbinjlooohaaDoor
