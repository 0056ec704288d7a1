/- OverSays: what is asked within any span, when it was too much, the worst: as the document says. -/
import Derived.Test.YtacffjkhbajgkaaDoorOvAwake
import Derived.Test.YtacffjkhbajgkaaDoorOvOwn
namespace Go.Proofs.YtacffjkhbajgkaaDoor
open Go.RowKit Go.Lib
set_option linter.unusedVariables false
set_option linter.unusedSimpArgs false

theorem spansB_len (l : List Jb) : (spansB l).length ≤ 10001 := by
  unfold spansB
  split
  · rename_i h
    have := endZ_all h
    have := segR_len (hotW (wds l)) ((endZ l).toNat + 1)
    omega
  · simp
set_option maxHeartbeats 6400000 in
set_option maxRecDepth 100000 in
theorem OverSays_ret (A : Option Addr) (cap : Nat) (l : List Jb) (f t : Int) (w : World) (hL : Ltr w) (hlc : l.length ≤ cap) (hcap : cap ≤ 9223372036854775807) (hR : RdJ w A l) (hf : fitB f = true) (ht : fitB t = true) :
    Calls Tryd.prog 4 #[.slice A l.length cap, .int .i64 f, .int .i64 t] w (RetB (.bool true) w) := by
  have A0 := Lib.hid (awake18_any w hL)
  obtain ⟨gh, hgh⟩ : ∃ g, heavyB 10 300 l = g := ⟨_, rfl⟩
  have A1 := Lib.hid (fun w' (hb : Below w.heap.size w w') => heavy18_any A cap l 10 300 gh w' hcap hlc (hR.below hb) hgh)
  obtain ⟨n, hl⟩ : ∃ n, l.length = n := ⟨_, rfl⟩
  clear hf ht
  cases gh
  · obtain ⟨h10, hns⟩ := heavy_none hgh
    have hss : ∀ x ∈ l, x.name.size ≤ 1000000 := fun x hx => by have := (hns x hx).1; omega
    obtain ⟨sp, hsp⟩ : ∃ s, spansB l = s := ⟨_, rfl⟩
    obtain ⟨⟨⟨wa, wb⟩, wd, wq⟩, hww⟩ : ∃ z, worstB l = z := ⟨_, rfl⟩
    obtain ⟨z, hz⟩ : ∃ z, loadB l f t = z := ⟨_, rfl⟩
    have O1 : Hid (∀ w', Below w.heap.size w w' → Calls Tryd.prog 13 #[.slice A l.length cap] w' (fun e w2 => ∃ A' c, e = .returned (.slice A' l.length c) ∧ l.length ≤ c ∧ c ≤ 9223372036854775807 ∧ RdJ w2 A' l ∧ Below w'.heap.size w' w2)) := fun w' hb => ownJ18_any A cap l w' (by omega) hcap hlc (hR.below hb)
    have S1 : Hid (∀ w', Below w.heap.size w w' → Calls Tryd.prog 8 #[.slice A l.length cap] w' (fun e w2 => ∃ X c, e = .returned (.slice X sp.length c) ∧ RdS w2 X sp ∧ Below w'.heap.size w' w2)) := fun w' hb => (spans_any A cap l w' (by omega) hcap hlc hss (hL.below hb) (hR.below hb)).mono fun e w2 ⟨v, h1, h2, h3⟩ => by
      rw [hsp] at h2
      obtain ⟨X, c, rfl, _, _, h4⟩ := own_rdS h2
      exact ⟨X, c, h1, h4, h3⟩
    have S2 : Hid (∀ (A' : Option Addr) (c : Nat) (w' : World), Below w.heap.size w w' → l.length ≤ c → c ≤ 9223372036854775807 → RdJ w' A' l → Calls Tryd.prog 14 #[.slice A' l.length c] w' (fun e w2 => ∃ X c, e = .returned (.slice X sp.length c) ∧ RdS w2 X sp ∧ Below w'.heap.size w' w2)) := fun A' c w' hb h1 h2 h3 => (rspans_any A' c l w' (by omega) h2 h1 hss (hL.below hb) h3).mono fun e w2 ⟨v, h1, h2, h3⟩ => by
      rw [hsp] at h2
      obtain ⟨X, c, rfl, _, _, h4⟩ := own_rdS h2
      exact ⟨X, c, h1, h4, h3⟩
    have W1 : Hid (∀ w', Below w.heap.size w w' → Calls Tryd.prog 10 #[.slice A l.length cap] w' (RetB (.tuple #[.agg #[.int .i64 wa, .int .i64 wb], .int .i64 wd, .bool wq]) w')) := fun w' hb => worst_any A cap l wa wb wd wq w' (by omega) hcap hlc hss (hL.below hb) (hR.below hb) hww
    have W2 : Hid (∀ (A' : Option Addr) (c : Nat) (w' : World), Below w.heap.size w w' → l.length ≤ c → c ≤ 9223372036854775807 → RdJ w' A' l → Calls Tryd.prog 15 #[.slice A' l.length c] w' (RetB (.tuple #[.agg #[.int .i64 wa, .int .i64 wb], .int .i64 wd, .bool wq]) w')) := fun A' c w' hb h1 h2 h3 => rworst_any A' c l wa wb wd wq w' (by omega) h2 h1 hss (hL.below hb) h3 hww
    have L1 : Hid (∀ w', Below w.heap.size w w' → Calls Tryd.prog 11 #[.slice A l.length cap, .int .i64 f, .int .i64 t] w' (RetB (.int .i64 z) w')) := fun w' hb => load_any A cap l f t z w' (by omega) hcap hlc hss (hL.below hb) (hR.below hb) hz
    have L2 : Hid (∀ (A' : Option Addr) (c : Nat) (w' : World), Below w.heap.size w w' → l.length ≤ c → c ≤ 9223372036854775807 → RdJ w' A' l → Calls Tryd.prog 16 #[.slice A' l.length c, .int .i64 f, .int .i64 t] w' (RetB (.int .i64 z) w')) := fun A' c w' hb h1 h2 h3 => rload_any A' c l f t z w' (by omega) h2 h1 hss (hL.below hb) h3 hz
    have hq9 := spansB_len l
    rw [hsp] at hq9
    obtain ⟨q, hq⟩ : ∃ q, sp.length = q := ⟨_, rfl⟩
    rw [hq] at hq9
    have HQ := Lib.hid hq
    rw [hq] at S1 S2
    rw [hl] at A1 hlc O1 S1 S2 W1 W2 L1 L2 ⊢
    clear hL hR hgh hl hns hss hz hww hsp h10 hq
    have q1 : (z != z) = false := by simp
    have q2 : (wa != wa) = false := by simp
    have q3 : (wb != wb) = false := by simp
    have q4 : (wd != wd) = false := by simp
    have q5 : (wq != wq) = false := by simp
    have q6 : ((q : Int) != (q : Int)) = false := by simp
    go_enter Tryd.func4, Tryd.ntmps4
    go_wp2_with fail
    refine A0.out.mono ?_; rintro e w0 ⟨rfl, b0⟩
    replace b0 := Lib.hid b0
    clear A0
    go_wp2_with fail
    refine (A1.out _ b0.out).mono ?_; rintro e w1 ⟨rfl, p1, rfl⟩
    replace b0 : Hid (Below w.heap.size w (w0.drewN p1)) := below_dN b0.out p1
    generalize w0.drewN p1 = w1 at *
    clear A1
    go_wp2_with fail
    refine (O1.out _ b0.out).mono ?_; rintro e w2 ⟨B, c, rfl, hc1, hc2, hB, hb⟩
    have b2 := Lib.hid (below_on b0.out hb)
    replace hB := Lib.hid hB
    clear O1 hb b0
    go_wp2_with fail
    refine (S1.out _ b2.out).mono ?_; rintro e w3 ⟨X, cx, rfl, hX, hb⟩
    have b3 := Lib.hid (below_on b2.out hb)
    have hB3 : Hid (RdJ w3 B l) := hB.out.below hb
    replace hX := Lib.hid hX
    clear S1 hb b2 hB
    go_wp2_with fail
    refine (S2.out _ _ _ b3.out hc1 hc2 hB3.out).mono ?_; rintro e w4 ⟨Y, cy, rfl, hY, hb⟩
    have b4 := Lib.hid (below_on b3.out hb)
    have hB4 : Hid (RdJ w4 B l) := hB3.out.below hb
    have hX4 : Hid (RdS w4 X sp) := hX.out.below hb
    replace hY := Lib.hid hY
    clear S2 hb b3 hB3 hX
    go_wp2_with fail
    refine (W1.out _ b4.out).mono ?_; rintro e w5 ⟨rfl, hb⟩
    have bx : Below w4.heap.size w4 (w5.alloc (.cells #[.int .i64 wa, .int .i64 wb] 32)) := hb.alloc hb.size _
    have b5 := Lib.hid (below_on b4.out bx)
    have hB5 := Lib.hid (hB4.out.below bx)
    have hX5 := Lib.hid (hX4.out.below bx)
    have hY5 := Lib.hid (hY.out.below bx)
    have hc5 := Lib.hid (And.intro (cell_new w5 #[.int .i64 wa, .int .i64 wb] 32 0) (cell_new w5 #[.int .i64 wa, .int .i64 wb] 32 1))
    have hs5 : Hid (w5.heap.size < (w5.alloc (.cells #[.int .i64 wa, .int .i64 wb] 32)).heap.size) := by show _ < _; simp
    have W3 := Lib.hid (W2.out _ _ _ b5.out hc1 hc2 hB5.out)
    clear W1 W2 hb bx b4 hB4 hX4 hY
    go_wp2_with fail
    refine W3.out.mono ?_; rintro e w6 ⟨rfl, hb⟩
    generalize w5.alloc (.cells #[.int .i64 wa, .int .i64 wb] 32) = w5' at *
    have bx : Below w5'.heap.size w5' (w6.alloc (.cells #[.int .i64 wa, .int .i64 wb] 41)) := hb.alloc hb.size _
    have b6 := Lib.hid (below_on b5.out bx)
    have hB6 := Lib.hid (hB5.out.below bx)
    have hX6 := Lib.hid (hX5.out.below bx)
    have hY6 := Lib.hid (hY5.out.below bx)
    have hc6 : Hid ((w6.alloc (.cells #[.int .i64 wa, .int .i64 wb] 41)).cell? ⟨w5.heap.size, 0, none⟩ = some (.int .i64 wa) ∧ (w6.alloc (.cells #[.int .i64 wa, .int .i64 wb] 41)).cell? ⟨w5.heap.size, 1, none⟩ = some (.int .i64 wb) ∧ w5.heap.size < (w6.alloc (.cells #[.int .i64 wa, .int .i64 wb] 41)).heap.size) :=
      ⟨by rw [bx.cell (p := ⟨w5.heap.size, 0, none⟩) hs5.out]; exact hc5.out.1, by rw [bx.cell (p := ⟨w5.heap.size, 1, none⟩) hs5.out]; exact hc5.out.2, Nat.lt_of_lt_of_le hs5.out bx.size⟩
    have hd6 : Hid ((w6.alloc (.cells #[.int .i64 wa, .int .i64 wb] 41)).cell? ⟨w6.heap.size, 0, none⟩ = some (.int .i64 wa) ∧ (w6.alloc (.cells #[.int .i64 wa, .int .i64 wb] 41)).cell? ⟨w6.heap.size, 1, none⟩ = some (.int .i64 wb) ∧ w6.heap.size < (w6.alloc (.cells #[.int .i64 wa, .int .i64 wb] 41)).heap.size) :=
      ⟨cell_new w6 _ _ 0, cell_new w6 _ _ 1, by simp⟩
    have L3 := Lib.hid (L1.out _ b6.out)
    clear W3 hb bx b5 hB5 hX5 hY5 hc5 hs5 L1
    generalize w5.heap.size = P at *
    go_wp2_with fail
    refine L3.out.mono ?_; rintro e w7 ⟨rfl, hb⟩
    have b7 := Lib.hid (below_on b6.out hb)
    have hB7 := Lib.hid (hB6.out.below hb)
    have hX7 := Lib.hid (hX6.out.below hb)
    have hY7 := Lib.hid (hY6.out.below hb)
    have hc7 : Hid (w7.cell? ⟨P, 0, none⟩ = some (.int .i64 wa) ∧ w7.cell? ⟨P, 1, none⟩ = some (.int .i64 wb) ∧ P < w7.heap.size) :=
      ⟨by rw [hb.cell (p := ⟨P, 0, none⟩) hc6.out.2.2]; exact hc6.out.1, by rw [hb.cell (p := ⟨P, 1, none⟩) hc6.out.2.2]; exact hc6.out.2.1, Nat.lt_of_lt_of_le hc6.out.2.2 hb.size⟩
    have hd7 : Hid (w7.cell? ⟨w6.heap.size, 0, none⟩ = some (.int .i64 wa) ∧ w7.cell? ⟨w6.heap.size, 1, none⟩ = some (.int .i64 wb) ∧ w6.heap.size < w7.heap.size) :=
      ⟨by rw [hb.cell (p := ⟨w6.heap.size, 0, none⟩) hd6.out.2.2]; exact hd6.out.1, by rw [hb.cell (p := ⟨w6.heap.size, 1, none⟩) hd6.out.2.2]; exact hd6.out.2.1, Nat.lt_of_lt_of_le hd6.out.2.2 hb.size⟩
    have L4 := Lib.hid (L2.out _ _ _ b7.out hc1 hc2 hB7.out)
    clear L2 L3 hb b6 hB6 hX6 hY6 hc6 hd6 hB7
    generalize w6.heap.size = Q at *
    go_wp2_with fail
    refine L4.out.mono ?_; rintro e w8 ⟨rfl, hb⟩
    have b8 := Lib.hid (below_on b7.out hb)
    have hX8 := Lib.hid (hX7.out.below hb)
    have hY8 := Lib.hid (hY7.out.below hb)
    have c0 : w8.cell? ⟨P, 0, none⟩ = some (.int .i64 wa) := by rw [hb.cell (p := ⟨P, 0, none⟩) hc7.out.2.2]; exact hc7.out.1
    have c1 : w8.cell? ⟨P, 1, none⟩ = some (.int .i64 wb) := by rw [hb.cell (p := ⟨P, 1, none⟩) hc7.out.2.2]; exact hc7.out.2.1
    have d0 : w8.cell? ⟨Q, 0, none⟩ = some (.int .i64 wa) := by rw [hb.cell (p := ⟨Q, 0, none⟩) hd7.out.2.2]; exact hd7.out.1
    have d1 : w8.cell? ⟨Q, 1, none⟩ = some (.int .i64 wb) := by rw [hb.cell (p := ⟨Q, 1, none⟩) hd7.out.2.2]; exact hd7.out.2.1
    clear L4 hb b7 hX7 hY7 hc7 hd7
    go_wp2
    clear c0 c1 d0 d1 q1 q2 q3 q4 q5 q6
    go_loopw [16] (fun st wr => ∃ (i : Nat), st = .int .i64 (i : Int) ∧ i ≤ q ∧ Hid (∃ m, wr = w8.drewN m)) (fun st _ => q - (intOf st).toNat)
    case atStart => exact ⟨0, rfl, by omega, Lib.hid ⟨0, rfl⟩⟩
    case round =>
      obtain ⟨i, rfl, hiq, K⟩ := hrel
      have bk : Hid (Below w.heap.size w wr) := by obtain ⟨m, rfl⟩ := K.out; exact below_dN b8.out m
      rcases Nat.lt_or_ge i q with hlt | hge
      · have k1 : decide ((i : Int) < (q : Int)) = true := decide_eq_true (by omega)
        have e1 : IntKind.i64.wrap ((i : Int) + 1) = ((i + 1 : Nat) : Int) := by rw [IntKind.wrap_i64]; omega
        have n1 : (i : Int) < (q : Int) := by omega
        obtain ⟨⟨x, y⟩, hx⟩ : ∃ x, sp[i]? = some x := ⟨_, List.getElem?_eq_getElem (by rw [HQ.out]; exact hlt)⟩
        obtain ⟨gx, rfl, _, x0, x1⟩ := hX8.out i _ hx
        obtain ⟨gy, rfl, _, y0, y1⟩ := hY8.out i _ hx
        have x0' : wr.cell? ⟨gx, i * 2, none⟩ = some (.int .i64 x) := by obtain ⟨m, rfl⟩ := K.out; exact x0
        have x1' : wr.cell? ⟨gx, i * 2 + 1, none⟩ = some (.int .i64 y) := by obtain ⟨m, rfl⟩ := K.out; exact x1
        have y0' : wr.cell? ⟨gy, i * 2, none⟩ = some (.int .i64 x) := by obtain ⟨m, rfl⟩ := K.out; exact y0
        have y1' : wr.cell? ⟨gy, i * 2 + 1, none⟩ = some (.int .i64 y) := by obtain ⟨m, rfl⟩ := K.out; exact y1
        have r1 : (x != x) = false := by simp
        have r2 : (y != y) = false := by simp
        clear hx x0 x1 y0 y1
        go_wp2
        go_quiet (fail)
        obtain ⟨p1, hp1⟩ : ∃ v, v = nq := ⟨nq, rfl⟩
        subst hp1
        have K9 : Hid (∃ m, wr.drewN p1 = w8.drewN m) := by obtain ⟨m, hm⟩ := K.out; exact ⟨m + p1, by rw [hm, drewN_two]⟩
        generalize wr.drewN p1 = w9 at *
        go_wp2
        go_roundw
        case rel => exact ⟨i + 1, by first | rfl | simp, by omega, K9⟩
        case measure => simp [intOf]; omega
      · have k1 : decide ((i : Int) < (q : Int)) = false := decide_eq_false (by omega)
        go_wp2
        go_ret
        exact ⟨rfl, by have s0 := bk.out.size; (try simp only [World.heap_drewN, World.size_alloc] at s0); repeat (first | exact Below.refl _ _ | exact bk.out | refine Below.trans ?_ (Below.mono bk.out (by first | omega | (simp; done) | (simp; omega))) | refine Below.setCell ?_ (by first | omega | (simp; done) | (simp; omega)) _ | refine below_dN ?_ _ | refine Below.drew ?_ | refine Below.alloc ?_ (by first | omega | (simp; done) | (simp; omega)) _)⟩
  · rw [hl] at A1 hlc ⊢
    clear hL hR hgh hl
    go_enter Tryd.func4, Tryd.ntmps4
    go_wp2_with fail
    refine A0.out.mono ?_; rintro e w0 ⟨rfl, b0⟩
    replace b0 := Lib.hid b0
    clear A0
    go_wp2_with fail
    refine (A1.out _ b0.out).mono ?_; rintro e w1 ⟨rfl, q1, rfl⟩
    clear A1
    go_wp2
    go_ret
    exact ⟨rfl, by have s0 := b0.out.size; (try simp only [World.heap_drewN, World.size_alloc] at s0); repeat (first | exact Below.refl _ _ | exact b0.out | refine Below.trans ?_ (Below.mono b0.out (by first | omega | (simp; done) | (simp; omega))) | refine Below.setCell ?_ (by first | omega | (simp; done) | (simp; omega)) _ | refine below_dN ?_ _ | refine Below.drew ?_ | refine Below.alloc ?_ (by first | omega | (simp; done) | (simp; omega)) _)⟩
end Go.Proofs.YtacffjkhbajgkaaDoor
