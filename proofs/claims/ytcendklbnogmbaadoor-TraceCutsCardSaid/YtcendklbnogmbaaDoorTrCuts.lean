/- TraceCuts: a trace's beginnings may be, if it may; they earn no more. -/
import Derived.Test.YtcendklbnogmbaaDoorTrApp
namespace Go.Proofs.YtcendklbnogmbaaDoor
open Go.RowKit Go.Lib
set_option linter.unusedVariables false
set_option linter.unusedSimpArgs false

set_option maxHeartbeats 3200000 in
set_option maxRecDepth 100000 in
theorem TraceCuts_ret (A : Option Addr) (cap : Nat) (l : List Jb) (T : Option Addr) (tc : Nat) (t : List Int) (c : Int) (w : World) (hL : Ltr w) (hlc : l.length ≤ cap) (hcap : cap ≤ 9223372036854775807) (hR : RdJ w A l)
    (htl : t.length ≤ tc) (htc : tc ≤ 9223372036854775807) (hT : RdT w T t) (hsh : (T = none ∧ tc = 0 ∧ t = []) ∨ ∃ ad, T = some ad) (hc : fitB c = true) :
    Calls Tryd.prog 5 #[.slice A l.length cap, .slice T t.length tc, .int .i64 c] w (RetB (.bool true) w) := by
  have A0 := Lib.hid (awake9_any w hL)
  obtain ⟨gh, hgh⟩ : ∃ g, heavyB 12 10000 l = g := ⟨_, rfl⟩
  have A1 := Lib.hid (fun w' (hb : Below w.heap.size w w') => heavy9_any A cap l 12 10000 gh w' hcap hlc (hR.below hb) hgh)
  obtain ⟨n, hl⟩ : ∃ n, l.length = n := ⟨_, rfl⟩
  obtain ⟨m, hm⟩ : ∃ n, t.length = n := ⟨_, rfl⟩
  clear hc hsh
  by_cases hgo : gh = false ∧ m ≤ 200
  · obtain ⟨rfl, hm2⟩ := hgo
    obtain ⟨h30, hns⟩ := heavy_none hgh
    have hss : ∀ x ∈ l, x.name.size ≤ 1000000 := fun x hx => by have := (hns x hx).1; omega
    obtain ⟨gg, hgg⟩ : ∃ g, goodT l t = g := ⟨_, rfl⟩
    obtain ⟨q, hq⟩ : ∃ q, cutN t c = q := ⟨_, rfl⟩
    have hqm : q ≤ m := by unfold cutN at hq; omega
    obtain ⟨z1, hz1⟩ : ∃ z, valZ l (t.take q) = z := ⟨_, rfl⟩
    obtain ⟨z2, hz2⟩ : ∃ z, valZ l t = z := ⟨_, rfl⟩
    obtain ⟨y1, hy1⟩ : ∃ z, busyZ (t.take q) = z := ⟨_, rfl⟩
    obtain ⟨y2, hy2⟩ : ∃ z, busyZ t = z := ⟨_, rfl⟩
    have hz : z1 ≤ z2 := by rw [← hz1, ← hz2]; have := valZ_more (l := l) (t := t.take q) (s := t.drop q); rw [List.take_append_drop] at this; exact this
    have hy : y1 ≤ y2 := by rw [← hy1, ← hy2]; have := busyZ_add (t.take q) (t.drop q); rw [List.take_append_drop] at this; have := busyZ_nonneg (t.drop q); omega
    have hlq : (t.take q).length = q := by rw [List.length_take]; omega
    have G1 : Hid (∀ w', Below w.heap.size w w' → Calls Tryd.prog 10 #[.slice A l.length cap, .slice T t.length tc] w' (RetB (.bool gg) w')) := fun w' hb => tgood_any A cap l T tc t gg w' hcap hlc hss (hL.below hb) (hR.below hb) htc htl (hT.below hb) hgg
    have N1 : Hid (∀ (i : Int) w', Below w.heap.size w w' → Calls Tryd.prog 19 #[.slice T t.length tc, .int .i64 i] w' (Ret (.int .i64 (t.count i : Int)) w')) := fun i w' hb => ran_any T tc t i _ w' htc htl (hT.below hb) rfl
    have K1 : Hid (∀ w', Below w.heap.size w w' → Calls Tryd.prog 13 #[.slice T t.length tc, .int .i64 c] w' (fun e w2 => e = .returned (.slice (some ⟨w'.heap.size, 0, none⟩) q q) ∧ RdT w2 (some ⟨w'.heap.size, 0, none⟩) (t.take q) ∧ Below w'.heap.size w' w2)) := fun w' hb => cut_any T tc t c q w' (by omega) htc htl (hT.below hb) hq
    have V2 : Hid (∀ w', Below w.heap.size w w' → Calls Tryd.prog 22 #[.slice A l.length cap, .slice T t.length tc] w' (RetB (.int .i64 z2) w')) := fun w' hb => value_any A cap l T tc t z2 w' hcap hlc hss (hL.below hb) (hR.below hb) htc htl (hT.below hb) hz2
    have Y2 : Hid (∀ w', Below w.heap.size w w' → Calls Tryd.prog 24 #[.slice T t.length tc] w' (Ret (.int .i64 y2) w')) := fun w' hb => busy_any T tc t y2 w' htc htl (hT.below hb) hy2
    have hsum : Hid (gg = true → sumC t n = y2) := fun h => by rw [← hy2, ← hl]; exact sumC_good (hgg.trans h)
    have hsb : Hid (∀ k, 0 ≤ sumC t k ∧ sumC t k ≤ 200 * (k : Int)) := fun k => by have := sumC_le t k; rw [hm] at this; have h2 : (m : Int) * (k : Int) ≤ 200 * (k : Int) := Int.mul_le_mul_of_nonneg_right (by omega) (by omega); omega
    have hcb : Hid (∀ i : Int, t.count i ≤ 200) := fun i => by have := List.count_le_length (a := i) (l := t); omega
    have G2 : Hid (∀ B w', gg = true → Below w.heap.size w w' → RdT w' (some ⟨B, 0, none⟩) (t.take q) → Calls Tryd.prog 10 #[.slice A l.length cap, .slice (some ⟨B, 0, none⟩) q q] w' (RetB (.bool true) w')) := fun B w' hg hb hX => by
      have h := tgood_any A cap l (some ⟨B, 0, none⟩) q (t.take q) true w' hcap hlc hss (hL.below hb) (hR.below hb) (by omega) (by omega) hX (goodT_prefix (s := t.drop q) (by rw [List.take_append_drop]; exact hgg.trans hg))
      rw [hlq] at h
      exact h
    have V1 : Hid (∀ B w', Below w.heap.size w w' → RdT w' (some ⟨B, 0, none⟩) (t.take q) → Calls Tryd.prog 22 #[.slice A l.length cap, .slice (some ⟨B, 0, none⟩) q q] w' (RetB (.int .i64 z1) w')) := fun B w' hb hX => by
      have h := value_any A cap l (some ⟨B, 0, none⟩) q (t.take q) z1 w' hcap hlc hss (hL.below hb) (hR.below hb) (by omega) (by omega) hX hz1
      rw [hlq] at h
      exact h
    have Y1 : Hid (∀ B w', RdT w' (some ⟨B, 0, none⟩) (t.take q) → Calls Tryd.prog 24 #[.slice (some ⟨B, 0, none⟩) q q] w' (Ret (.int .i64 y1) w')) := fun B w' hX => busy_n hX hlq (Nat.le_refl _) (by omega) hy1
    rw [hl] at A1 hlc h30 G1 V2 G2 V1 ⊢
    rw [hm] at htl G1 N1 K1 V2 Y2 ⊢
    clear hL hR hT hgh hl hm hns hss hgg hq hz1 hz2 hy1 hy2 hlq
    have d1 : decide ((m : Int) > 200) = false := decide_eq_false (by omega)
    go_enter Tryd.func5, Tryd.ntmps5
    go_wp2_with fail
    refine A0.out.mono ?_; rintro e w0 ⟨rfl, b0⟩
    replace b0 := Lib.hid b0
    clear A0
    go_wp2_with fail
    refine (A1.out _ b0.out).mono ?_; rintro e w1 ⟨rfl, q1, rfl⟩
    replace b0 : Hid (Below w.heap.size w (w0.drewN q1)) := below_dN b0.out q1
    generalize w0.drewN q1 = w1 at *
    clear A1
    go_wp2_with fail
    refine (G1.out _ b0.out).mono ?_; rintro e w2 ⟨rfl, hb⟩
    have b2 : Hid (Below w.heap.size w w2) := below_on b0.out hb
    clear G1 hb b0
    cases gg
    · go_wp2
      go_ret
      exact ⟨rfl, by have s0 := b2.out.size; (try simp only [World.heap_drewN, World.size_alloc] at s0); repeat (first | exact Below.refl _ _ | exact b2.out | refine Below.trans ?_ (Below.mono b2.out (by first | omega | (simp; done) | (simp; omega))) | refine Below.setCell ?_ (by first | omega | (simp; done) | (simp; omega)) _ | refine below_dN ?_ _ | refine Below.drew ?_ | refine Below.alloc ?_ (by first | omega | (simp; done) | (simp; omega)) _)⟩
    · replace hsum := Lib.hid (hsum.out rfl)
      have G3 := Lib.hid (fun B w' hb hX => G2.out B w' rfl hb hX)
      clear G2
      go_wp2_with fail
      refine (K1.out _ b2.out).mono ?_; rintro e w3 ⟨rfl, hX, hb⟩
      have b3 : Hid (Below w.heap.size w w3) := below_on b2.out hb
      generalize w2.heap.size = B at *
      replace hX := Lib.hid hX
      clear K1 hb b2 d1
      go_wp2
      go_loopw [8, 9] (fun s8 st wr => ∃ (k : Nat) (a : Int) (p : Nat), s8 = .int .i64 a ∧ st = .int .i64 (k : Int) ∧ k ≤ n ∧ Hid (a = sumC t k) ∧ wr = w3.drewN p) (fun _ st _ => n - (intOf st).toNat)
      case atStart => exact ⟨0, 0, 0, rfl, rfl, by omega, Lib.hid rfl, rfl⟩
      case round =>
        obtain ⟨k, a, p, rfl, rfl, hkn, hak, rfl⟩ := hrel
        have b4 : Hid (Below w.heap.size w (w3.drewN p)) := below_dN b3.out p
        have hX4 : Hid (RdT (w3.drewN p) (some ⟨B, 0, none⟩) (t.take q)) := hX.out.drewN p
        rcases Nat.lt_or_ge k n with hlt | hge
        · have e1 : IntKind.i64.wrap ((k : Int) + 1) = ((k + 1 : Nat) : Int) := by rw [IntKind.wrap_i64]; omega
          have d1 : decide ((k : Int) < (n : Int)) = true := decide_eq_true (by omega)
          have N2 := Lib.hid (N1.out (k : Int) _ b4.out)
          have ha0 := hsb.out k
          have hb0 := hcb.out (k : Int)
          rw [← hak.out] at ha0
          have hak2 : Hid (a + (t.count (k : Int) : Int) = sumC t (k + 1)) := by show _ = _; rw [hak.out]; rfl
          generalize t.count (k : Int) = v at *
          obtain ⟨y, hy9⟩ : ∃ y, a + (v : Int) = y := ⟨_, rfl⟩
          have e3 : Hid (IntKind.i64.wrap (a + (v : Int)) = y) := by show _ = _; rw [IntKind.wrap_i64]; omega
          have e4 : Hid (wrap64 (a + (v : Int)) = y) := by show _ = _; unfold wrap64; omega
          rw [hy9] at hak2
          clear hak hy9
          replace e3 := e3.out
          replace e4 := e4.out
          go_wp2_with fail
          refine N2.out.mono ?_; rintro e w5 ⟨rfl, q5, rfl⟩
          go_wp2
          go_roundw
          case rel => exact ⟨k + 1, y, p + q5, by first | rfl | simp, by first | rfl | simp, by clear e3 e4; omega, hak2, by first | rfl | simp | (rw [drewN_two])⟩
          case measure => simp [intOf]; omega
        · have d1 : decide ((k : Int) < (n : Int)) = false := decide_eq_false (by omega)
          obtain rfl : k = n := by omega
          obtain rfl : a = y2 := by rw [hak.out, hsum.out]
          have d2 : decide (z1 ≤ z2) = true := decide_eq_true hz
          have d3 : decide (y1 ≤ a) = true := decide_eq_true hy
          have d4 : (a == a) = true := by simp
          generalize w3.drewN p = w4 at *
          clear hak hsum hsb hcb N1 hz hy
          go_wp2_with fail
          refine (G3.out _ _ b4.out hX4.out).mono ?_; rintro e w5 ⟨rfl, hb⟩
          have b5 : Hid (Below w.heap.size w w5) := below_on b4.out hb
          have hX5 : Hid (RdT w5 (some ⟨B, 0, none⟩) (t.take q)) := hX4.out.below hb
          clear hb b4 hX4 G3
          go_wp2_with fail
          refine (V1.out _ _ b5.out hX5.out).mono ?_; rintro e w6 ⟨rfl, hb⟩
          have b6 : Hid (Below w.heap.size w w6) := below_on b5.out hb
          have hX6 : Hid (RdT w6 (some ⟨B, 0, none⟩) (t.take q)) := hX5.out.below hb
          clear hb b5 hX5 V1
          go_wp2_with fail
          refine (V2.out _ b6.out).mono ?_; rintro e w7 ⟨rfl, hb⟩
          have b7 : Hid (Below w.heap.size w w7) := below_on b6.out hb
          have hX7 : Hid (RdT w7 (some ⟨B, 0, none⟩) (t.take q)) := hX6.out.below hb
          clear hb b6 hX6 V2
          go_wp2_with fail
          refine (Y1.out _ _ hX7.out).mono ?_; rintro e w8 ⟨rfl, q8, rfl⟩
          have b8 : Hid (Below w.heap.size w (w7.drewN q8)) := below_dN b7.out q8
          generalize w7.drewN q8 = w8 at *
          go_wp2_with fail
          refine (Y2.out _ b8.out).mono ?_; rintro e w9 ⟨rfl, q9, rfl⟩
          have b9 : Hid (Below w.heap.size w (w8.drewN q9)) := below_dN b8.out q9
          generalize w8.drewN q9 = w9 at *
          go_wp2_with fail
          refine (Y2.out _ b9.out).mono ?_; rintro e w10 ⟨rfl, q10, rfl⟩
          go_wp2
          go_ret
          exact ⟨rfl, by have s0 := b9.out.size; (try simp only [World.heap_drewN, World.size_alloc] at s0); repeat (first | exact Below.refl _ _ | exact b9.out | refine Below.trans ?_ (Below.mono b9.out (by first | omega | (simp; done) | (simp; omega))) | refine Below.setCell ?_ (by first | omega | (simp; done) | (simp; omega)) _ | refine below_dN ?_ _ | refine Below.drew ?_ | refine Below.alloc ?_ (by first | omega | (simp; done) | (simp; omega)) _)⟩
  · rw [hl] at A1 hlc ⊢
    rw [hm] at htl ⊢
    clear hL hR hT hgh hl hm
    go_enter Tryd.func5, Tryd.ntmps5
    go_wp2_with fail
    refine A0.out.mono ?_; rintro e w0 ⟨rfl, b0⟩
    replace b0 := Lib.hid b0
    clear A0
    go_wp2_with fail
    refine (A1.out _ b0.out).mono ?_; rintro e w1 ⟨rfl, q1, rfl⟩
    clear A1
    cases gh
    · have hm3 : ¬ m ≤ 200 := fun h => hgo ⟨rfl, h⟩
      have d1 : decide ((m : Int) > 200) = true := decide_eq_true (by omega)
      clear hgo
      go_wp2
      go_ret
      exact ⟨rfl, by have s0 := b0.out.size; (try simp only [World.heap_drewN, World.size_alloc] at s0); repeat (first | exact Below.refl _ _ | exact b0.out | refine Below.trans ?_ (Below.mono b0.out (by first | omega | (simp; done) | (simp; omega))) | refine Below.setCell ?_ (by first | omega | (simp; done) | (simp; omega)) _ | refine below_dN ?_ _ | refine Below.drew ?_ | refine Below.alloc ?_ (by first | omega | (simp; done) | (simp; omega)) _)⟩
    · go_wp2
      go_ret
      exact ⟨rfl, by have s0 := b0.out.size; (try simp only [World.heap_drewN, World.size_alloc] at s0); repeat (first | exact Below.refl _ _ | exact b0.out | refine Below.trans ?_ (Below.mono b0.out (by first | omega | (simp; done) | (simp; omega))) | refine Below.setCell ?_ (by first | omega | (simp; done) | (simp; omega)) _ | refine below_dN ?_ _ | refine Below.drew ?_ | refine Below.alloc ?_ (by first | omega | (simp; done) | (simp; omega)) _)⟩
end Go.Proofs.YtcendklbnogmbaaDoor
