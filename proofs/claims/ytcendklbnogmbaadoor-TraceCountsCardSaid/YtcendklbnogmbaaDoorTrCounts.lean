/- TraceCounts: ticks are all some job's, or nobody's; nobody's change no value. -/
import Derived.Test.YtcendklbnogmbaaDoorTrApp
namespace Go.Proofs.YtcendklbnogmbaaDoor
open Go.RowKit Go.Lib
set_option linter.unusedVariables false
set_option linter.unusedSimpArgs false

set_option maxHeartbeats 3200000 in
set_option maxRecDepth 100000 in
theorem TraceCounts_ret (A : Option Addr) (cap : Nat) (l : List Jb) (T : Option Addr) (tc : Nat) (t : List Int) (c : Int) (w : World) (hL : Ltr w) (hlc : l.length ≤ cap) (hcap : cap ≤ 9223372036854775807) (hR : RdJ w A l)
    (htl : t.length ≤ tc) (htc : tc ≤ 9223372036854775807) (hT : RdT w T t) (hsh : (T = none ∧ tc = 0 ∧ t = []) ∨ ∃ ad, T = some ad) (hc : fitB c = true) :
    Calls Tryd.prog 6 #[.slice A l.length cap, .slice T t.length tc, .int .i64 c] w (RetB (.bool true) w) := by
  have A0 := Lib.hid (awake9_any w hL)
  obtain ⟨gh, hgh⟩ : ∃ g, heavyB 10 10000 l = g := ⟨_, rfl⟩
  have A1 := Lib.hid (fun w' (hb : Below w.heap.size w w') => heavy9_any A cap l 10 10000 gh w' hcap hlc (hR.below hb) hgh)
  obtain ⟨n, hl⟩ : ∃ n, l.length = n := ⟨_, rfl⟩
  obtain ⟨m, hm⟩ : ∃ n, t.length = n := ⟨_, rfl⟩
  clear hc
  by_cases hgo : gh = false ∧ m ≤ 150
  · obtain ⟨rfl, hm2⟩ := hgo
    obtain ⟨h30, hns⟩ := heavy_none hgh
    have hss : ∀ x ∈ l, x.name.size ≤ 1000000 := fun x hx => by have := (hns x hx).1; omega
    obtain ⟨v, hv⟩ : ∃ z, valZ l t = z := ⟨_, rfl⟩
    obtain ⟨s, hs⟩ : ∃ z, swGo (-1) t = z := ⟨_, rfl⟩
    obtain ⟨y, hy⟩ : ∃ z, busyZ t = z := ⟨_, rfl⟩
    obtain ⟨k, hk⟩ : ∃ z, t.count (-1) = z := ⟨_, rfl⟩
    obtain ⟨g1, hg1⟩ : ∃ z, goodT l (t ++ [-1]) = z := ⟨_, rfl⟩
    obtain ⟨g2, hg2⟩ : ∃ z, goodT l t = z := ⟨_, rfl⟩
    have hgg : Hid (g1 = true → g2 = true) := fun h => by rw [← hg2]; exact goodT_prefix (s := [-1]) (hg1.trans h)
    have hyk : y + (k : Int) = (m : Int) := by rw [← hy, ← hk, ← hm]; unfold busyZ; omega
    have hk2 : k ≤ m := by rw [← hk, ← hm]; exact List.count_le_length
    have hu : (t ++ [-1]).length = m + 1 := by simp [hm]
    have N1 : Hid (∀ w', Below w.heap.size w w' → Calls Tryd.prog 19 #[.slice T t.length tc, .int .i64 (-1)] w' (Ret (.int .i64 (k : Int)) w')) := fun w' hb => ran_any T tc t (-1) _ w' htc htl (hT.below hb) (by rw [hk])
    have Y1 : Hid (∀ w', Below w.heap.size w w' → Calls Tryd.prog 24 #[.slice T t.length tc] w' (Ret (.int .i64 y) w')) := fun w' hb => busy_any T tc t y w' htc htl (hT.below hb) hy
    have S1 : Hid (∀ w', Below w.heap.size w w' → Calls Tryd.prog 12 #[.slice T t.length tc] w' (Ret (.int .i64 (s : Int)) w')) := fun w' hb => switches_any T tc t _ w' htc htl (hT.below hb) (by rw [hs])
    have V1 : Hid (∀ w', Below w.heap.size w w' → Calls Tryd.prog 22 #[.slice A l.length cap, .slice T t.length tc] w' (RetB (.int .i64 v) w')) := fun w' hb => value_any A cap l T tc t v w' hcap hlc hss (hL.below hb) (hR.below hb) htc htl (hT.below hb) hv
    have G1 : Hid (∀ w', Below w.heap.size w w' → Calls Tryd.prog 10 #[.slice A l.length cap, .slice T t.length tc] w' (RetB (.bool g2) w')) := fun w' hb => tgood_any A cap l T tc t g2 w' hcap hlc hss (hL.below hb) (hR.below hb) htc htl (hT.below hb) hg2
    have Y2 : Hid (∀ X xc w', m + 1 ≤ xc → xc ≤ 9223372036854775807 → RdT w' X (t ++ [-1]) → Calls Tryd.prog 24 #[.slice X (m + 1) xc] w' (Ret (.int .i64 y) w')) := fun X xc w' h1 h2 hX => busy_n hX hu h1 h2 (by rw [busyZ_idle, hy])
    have S2 : Hid (∀ X xc w', m + 1 ≤ xc → xc ≤ 9223372036854775807 → RdT w' X (t ++ [-1]) → Calls Tryd.prog 12 #[.slice X (m + 1) xc] w' (Ret (.int .i64 (s : Int)) w')) := fun X xc w' h1 h2 hX => switches_n hX hu h1 h2 (by rw [swGo_idle, hs])
    have V2 : Hid (∀ X xc w', Below w.heap.size w w' → m + 1 ≤ xc → xc ≤ 9223372036854775807 → RdT w' X (t ++ [-1]) → Calls Tryd.prog 22 #[.slice A l.length cap, .slice X (m + 1) xc] w' (RetB (.int .i64 v) w')) := fun X xc w' hb h1 h2 hX => by
      have h := value_any A cap l X xc (t ++ [-1]) v w' hcap hlc hss (hL.below hb) (hR.below hb) h2 (by rw [hu]; exact h1) hX (by rw [valZ_idle, hv])
      rw [hu] at h
      exact h
    have G2 : Hid (∀ X xc w', Below w.heap.size w w' → m + 1 ≤ xc → xc ≤ 9223372036854775807 → RdT w' X (t ++ [-1]) → Calls Tryd.prog 10 #[.slice A l.length cap, .slice X (m + 1) xc] w' (RetB (.bool g1) w')) := fun X xc w' hb h1 h2 hX => by
      have h := tgood_any A cap l X xc (t ++ [-1]) g1 w' hcap hlc hss (hL.below hb) (hR.below hb) h2 (by rw [hu]; exact h1) hX hg1
      rw [hu] at h
      exact h
    have SR : Hid (∀ w', Below w.heap.size w w' → SrcN w' (.slice T m tc) m (cellsN t)) := fun w' hb => src_ticks (hT.below hb) hsh hm
    rw [hl] at A1 hlc h30 V1 G1 V2 G2 ⊢
    rw [hm] at htl N1 Y1 S1 V1 G1 ⊢
    replace hm := Lib.hid hm
    clear hL hR hT hgh hl hns hss hv hs hy hk hg1 hg2 hsh
    have d1 : decide ((m : Int) > 150) = false := decide_eq_false (by omega)
    have d2 : ((m : Int) != (m : Int)) = false := by simp
    have e3 : Hid (IntKind.i64.wrap (y + (k : Int)) = (m : Int)) := by show _ = _; rw [IntKind.wrap_i64]; omega
    have e4 : Hid (wrap64 (y + (k : Int)) = (m : Int)) := by show _ = _; unfold wrap64; omega
    replace hyk := Lib.hid hyk
    go_enter Tryd.func6, Tryd.ntmps6
    go_wp2_with fail
    refine A0.out.mono ?_; rintro e w0 ⟨rfl, b0⟩
    replace b0 := Lib.hid b0
    clear A0
    go_wp2_with fail
    refine (A1.out _ b0.out).mono ?_; rintro e w1 ⟨rfl, q1, rfl⟩
    replace b0 : Hid (Below w.heap.size w (w0.drewN q1)) := below_dN b0.out q1
    generalize w0.drewN q1 = w1 at *
    clear A1
    go_wp2_with fail
    refine (N1.out _ b0.out).mono ?_; rintro e w2 ⟨rfl, q2, rfl⟩
    replace b0 : Hid (Below w.heap.size w (w1.drewN q2)) := below_dN b0.out q2
    generalize w1.drewN q2 = w2 at *
    clear N1 d1
    go_wp2_with fail
    refine (Y1.out _ b0.out).mono ?_; rintro e w3 ⟨rfl, q3, rfl⟩
    replace b0 : Hid (Below w.heap.size w (w2.drewN q3)) := below_dN b0.out q3
    generalize w2.drewN q3 = w3 at *
    replace e3 := e3.out
    replace e4 := e4.out
    have OW := own_made0 w3 3
    have b1 : Hid (Below w.heap.size w (w3.alloc (.cells #[] 3))) := b0.out.alloc b0.out.size _
    have hsz : w.heap.size ≤ w3.heap.size := b0.out.size
    obtain ⟨v4, w4, r1, r2, r3, r4⟩ := run_append_srcN 27 OW (SR.out _ b1.out) hm.out (by simp) (by omega)
    have b4 : Hid (Below w.heap.size w w4) := b1.out.grown r3 b1.out.size (fun j hj => by simp [Value.ownBlock] at hj; omega)
    have hsz4 : w3.heap.size ≤ w4.heap.size := by have := r3.size; simp at this; omega
    obtain ⟨w5, hw5⟩ : ∃ w5, w4.alloc (.cells #[.int .i64 (-1)] 3) = w5 := ⟨_, rfl⟩
    have OW5 : w5.ownsRow w3.heap.size 3 1 v4 (0 + m) (cellsN [] ++ cellsN t) := by rw [← hw5]; exact r2.alloc _
    have hs5 : w5.heap[w4.heap.size]? = some (.cells #[.int .i64 (-1)] 3 (0, 0)) := by rw [← hw5]; exact heap_alloc_new w4 _
    have b5 : Hid (Below w.heap.size w w5) := by rw [← hw5]; exact b4.out.alloc b4.out.size _
    have hsz5 : w3.heap.size ≤ w5.heap.size := by rw [← hw5]; simp; omega
    obtain ⟨v6, w6, p1, p2, p3, p4⟩ := run_append_srcN 27 OW5 (src_one hs5) rfl hsz5 (by simp; omega)
    have b6 : Hid (Below w.heap.size w w6) := b5.out.grown p3 b5.out.size (fun j hj => by have := (OW5.lt j hj).1; omega)
    have hcc : cellsN [] ++ cellsN t ++ cellsN [-1] = cellsN (t ++ [-1]) := by simp [cellsN]
    rw [hcc] at p2
    obtain ⟨X, xc, hv6, x1, x2, hX, hshX⟩ := own_rdT p2
    rw [hu] at hv6 x1
    subst hv6
    have T6 : Hid (RdT w6 X (t ++ [-1])) := hX
    replace b0 := Lib.hid b0
    replace hsz := Lib.hid hsz
    clear OW r2 r3 r4 OW5 hs5 hsz4 hsz5 p2 p3 p4 hX hshX hcc b1 b4 b5 SR
    go_wp2_with (at_builtin; first
      | refine wpList_append_of _ rfl _ _ _ _ rfl _ _ rfl rfl r1 ?_
      | refine wpList_append_of _ rfl _ _ _ _ rfl _ _ rfl rfl p1 ?_)
    have f1 : (v == v) = true := by simp
    have f2 : ((s : Int) == (s : Int)) = true := by simp
    have f3 : (y == y) = true := by simp
    clear r1 p1 hw5 e3 e4 d2
    refine (V2.out _ _ _ b6.out x1 x2 T6.out).mono ?_; rintro e w7 ⟨rfl, hb⟩
    have b7 : Hid (Below w.heap.size w w7) := below_on b6.out hb
    have T7 : Hid (RdT w7 X (t ++ [-1])) := T6.out.below hb
    clear hb b6 T6 V2
    go_wp2_with fail
    refine (V1.out _ b7.out).mono ?_; rintro e w8 ⟨rfl, hb⟩
    have b8 : Hid (Below w.heap.size w w8) := below_on b7.out hb
    have T8 : Hid (RdT w8 X (t ++ [-1])) := T7.out.below hb
    clear hb b7 T7 V1
    go_wp2_with fail
    refine (S2.out _ _ _ x1 x2 T8.out).mono ?_; rintro e w9 ⟨rfl, q9, rfl⟩
    have b9 : Hid (Below w.heap.size w (w8.drewN q9)) := below_dN b8.out q9
    have T9 : Hid (RdT (w8.drewN q9) X (t ++ [-1])) := T8.out.drewN q9
    generalize w8.drewN q9 = w9 at *
    go_wp2_with fail
    refine (S1.out _ b9.out).mono ?_; rintro e w10 ⟨rfl, q10, rfl⟩
    have b10 : Hid (Below w.heap.size w (w9.drewN q10)) := below_dN b9.out q10
    have T10 : Hid (RdT (w9.drewN q10) X (t ++ [-1])) := T9.out.drewN q10
    generalize w9.drewN q10 = w10 at *
    go_wp2_with fail
    refine (Y2.out _ _ _ x1 x2 T10.out).mono ?_; rintro e w11 ⟨rfl, q11, rfl⟩
    have b11 : Hid (Below w.heap.size w (w10.drewN q11)) := below_dN b10.out q11
    have T11 : Hid (RdT (w10.drewN q11) X (t ++ [-1])) := T10.out.drewN q11
    generalize w10.drewN q11 = w11 at *
    go_wp2_with fail
    refine (Y1.out _ b11.out).mono ?_; rintro e w12 ⟨rfl, q12, rfl⟩
    have b12 : Hid (Below w.heap.size w (w11.drewN q12)) := below_dN b11.out q12
    have T12 : Hid (RdT (w11.drewN q12) X (t ++ [-1])) := T11.out.drewN q12
    generalize w11.drewN q12 = w12 at *
    go_wp2_with fail
    refine (G2.out _ _ _ b12.out x1 x2 T12.out).mono ?_; rintro e w13 ⟨rfl, hb⟩
    have b13 : Hid (Below w.heap.size w w13) := below_on b12.out hb
    clear hb T12 G2
    cases g1
    · go_wp2
      go_ret
      exact ⟨rfl, by have s0 := b13.out.size; (try simp only [World.heap_drewN, World.size_alloc] at s0); repeat (first | exact Below.refl _ _ | exact b13.out | refine Below.trans ?_ (Below.mono b13.out (by first | omega | (simp; done) | (simp; omega))) | refine Below.setCell ?_ (by first | omega | (simp; done) | (simp; omega)) _ | refine below_dN ?_ _ | refine Below.drew ?_ | refine Below.alloc ?_ (by first | omega | (simp; done) | (simp; omega)) _)⟩
    · obtain rfl := hgg.out rfl
      go_wp2_with fail
      refine (G1.out _ b13.out).mono ?_; rintro e w14 ⟨rfl, hb⟩
      have b14 : Hid (Below w.heap.size w w14) := below_on b13.out hb
      clear hb
      go_wp2
      go_ret
      exact ⟨rfl, by have s0 := b14.out.size; (try simp only [World.heap_drewN, World.size_alloc] at s0); repeat (first | exact Below.refl _ _ | exact b14.out | refine Below.trans ?_ (Below.mono b14.out (by first | omega | (simp; done) | (simp; omega))) | refine Below.setCell ?_ (by first | omega | (simp; done) | (simp; omega)) _ | refine below_dN ?_ _ | refine Below.drew ?_ | refine Below.alloc ?_ (by first | omega | (simp; done) | (simp; omega)) _)⟩
  · rw [hl] at A1 hlc ⊢
    rw [hm] at htl ⊢
    clear hL hR hT hgh hl hm hsh
    go_enter Tryd.func6, Tryd.ntmps6
    go_wp2_with fail
    refine A0.out.mono ?_; rintro e w0 ⟨rfl, b0⟩
    replace b0 := Lib.hid b0
    clear A0
    go_wp2_with fail
    refine (A1.out _ b0.out).mono ?_; rintro e w1 ⟨rfl, q1, rfl⟩
    clear A1
    cases gh
    · have hm3 : ¬ m ≤ 150 := fun h => hgo ⟨rfl, h⟩
      have d1 : decide ((m : Int) > 150) = true := decide_eq_true (by omega)
      clear hgo
      go_wp2
      go_ret
      exact ⟨rfl, by have s0 := b0.out.size; (try simp only [World.heap_drewN, World.size_alloc] at s0); repeat (first | exact Below.refl _ _ | exact b0.out | refine Below.trans ?_ (Below.mono b0.out (by first | omega | (simp; done) | (simp; omega))) | refine Below.setCell ?_ (by first | omega | (simp; done) | (simp; omega)) _ | refine below_dN ?_ _ | refine Below.drew ?_ | refine Below.alloc ?_ (by first | omega | (simp; done) | (simp; omega)) _)⟩
    · go_wp2
      go_ret
      exact ⟨rfl, by have s0 := b0.out.size; (try simp only [World.heap_drewN, World.size_alloc] at s0); repeat (first | exact Below.refl _ _ | exact b0.out | refine Below.trans ?_ (Below.mono b0.out (by first | omega | (simp; done) | (simp; omega))) | refine Below.setCell ?_ (by first | omega | (simp; done) | (simp; omega)) _ | refine below_dN ?_ _ | refine Below.drew ?_ | refine Below.alloc ?_ (by first | omega | (simp; done) | (simp; omega)) _)⟩
end Go.Proofs.YtcendklbnogmbaaDoor
