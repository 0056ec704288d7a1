/- The document's own traces: Value, GoodTrace. -/
import Derived.Test.YtcendklbnogmbaaDoorTrRef2
import Derived.Test.YtcendklbnogmbaaDoorTr3
import Derived.Deep.RegionHeld3
namespace Go.Proofs.YtcendklbnogmbaaDoor
open Go.RowKit Go.Lib
set_option linter.unusedVariables false
set_option linter.unusedSimpArgs false

set_option maxHeartbeats 3200000 in
set_option maxRecDepth 100000 in
theorem rvalue_any (A : Option Addr) (cap : Nat) (l : List Jb) (T : Option Addr) (tc : Nat) (t : List Int) (z : Int) (w : World) (hln : l.length ≤ 1000) (htn : t.length ≤ 1000000) (hcap : cap ≤ 9223372036854775807) (hlc : l.length ≤ cap) (hs : ∀ x ∈ l, x.name.size ≤ 1000000) (hL : Ltr w) (hR : RdJ w A l)
    (htc : tc ≤ 9223372036854775807) (htl : t.length ≤ tc) (hT : RdT w T t) (hz : valZ l t = z) :
    Calls Tryd.prog 23 #[.slice A l.length cap, .slice T t.length tc] w (RetB (.int .i64 z) w) := by
  obtain ⟨ga, hga⟩ : ∃ q, allB l = q := ⟨_, rfl⟩
  have C1 : Hid (∀ (i : Nat) (g : Bool) w', metBy l t (i : Int) = g → Below w.heap.size w w' → Calls Tryd.prog 21 #[.slice A l.length cap, .slice T t.length tc, .int .i64 (i : Int)] w' (RetB (.bool g) w')) :=
    fun i g w' hg hb => rmetBy_any A cap l T tc t i g w' (by omega) htn hcap hlc hs (hL.below hb) (hR.below hb) htc htl (hT.below hb) hg
  unfold valZ at hz
  rw [hga] at hz
  obtain ⟨n, hl⟩ : ∃ n, l.length = n := ⟨_, rfl⟩
  obtain ⟨m, hm⟩ : ∃ n, t.length = n := ⟨_, rfl⟩
  have VB : Hid (∀ (k : Nat) (x : Jb), ga = true → l[k]? = some x → 0 ≤ x.vl ∧ x.vl ≤ 1000000) := fun k x h hx => vl_good (good_of_all (hga.trans h) hx)
  rw [hl] at C1 hlc hln ⊢
  rw [hm] at C1 htl htn ⊢
  have H := Lib.hid (And.intro hl (And.intro hR (And.intro hz hga)))
  clear hl hm hs hL hR hT hz hga
  go_enter Tryd.func23, Tryd.ntmps23
  go_wp2
  go_loopw [5, 6] (fun s5 st wr => ∃ (k : Nat) (c : Int), s5 = .int .i64 c ∧ st = .int .i64 (k : Int) ∧ k ≤ n ∧ 0 ≤ c ∧ c ≤ 1000000 * (k : Int) ∧ Hid (c + (if ga then valGo t (l.drop k) k else 0) = z ∧ Below w.heap.size w wr)) (fun _ st _ => n - (intOf st).toNat)
  case atStart => exact ⟨0, 0, rfl, rfl, by omega, by omega, by omega, Lib.hid ⟨by have := H.out.2.2.1; simpa using this, Below.refl _ _⟩⟩
  case round =>
    obtain ⟨k, f, rfl, rfl, hkn, hf1, hf2, K⟩ := hrel
    rcases Nat.lt_or_ge k n with hlt | hge
    · have d1 : decide ((k : Int) < (n : Int)) = true := decide_eq_true (by omega)
      have e1 : IntKind.i64.wrap ((k : Int) + 1) = ((k + 1 : Nat) : Int) := by rw [IntKind.wrap_i64]; omega
      have b1 : (k : Int) < (n : Int) := by omega
      obtain ⟨x, hx⟩ : ∃ x, l[k]? = some x := ⟨_, List.getElem?_eq_getElem (by rw [H.out.1]; exact hlt)⟩
      obtain ⟨gx, hgx⟩ : ∃ g, metBy l t (k : Int) = g := ⟨_, rfl⟩
      have C4 := Lib.hid (C1.out k gx wr hgx K.out.2)
      rw [metBy_at hx, H.out.2.2.2] at hgx
      have Kb := Lib.hid K.out.2
      have RJ : Hid (∀ w', Below w.heap.size w w' → ∃ b off, A = some ⟨b, off, none⟩ ∧ w'.cell? ⟨b, off + k * 8 + 5, none⟩ = some (.int .i64 x.vl)) := fun w' hb => by
        obtain ⟨b, off, hA, hj⟩ := (H.out.2.1.below hb) k x hx
        exact ⟨b, off, hA, hj.2.2.2.2.2.1⟩
      cases gx
      · have K3 : Hid (f + (if ga then valGo t (l.drop (k + 1)) (k + 1) else 0) = z) := by
          have := K.out.1
          cases ga
          · exact this
          · rw [if_pos rfl, valGo_next hx] at this
            rw [Bool.true_and] at hgx
            rw [hgx] at this
            show _ = _
            simpa using this
        clear hx K hgx RJ
        go_wp2_with fail
        refine C4.out.mono ?_; rintro e hw ⟨rfl, hb⟩
        have Kc := Lib.hid (below_on Kb.out hb)
        clear C4 hb
        go_wp2
        go_roundw
        case rel => exact ⟨k + 1, f, rfl, by first | rfl | simp, by omega, by omega, by omega, Lib.hid ⟨K3.out, Kc.out⟩⟩
        case measure => simp [intOf]; omega
      · simp only [Bool.and_eq_true] at hgx
        obtain ⟨rfl, hgm⟩ := hgx
        obtain ⟨v1, v2⟩ := VB.out k x rfl hx
        obtain ⟨q, hq⟩ : ∃ q, f + x.vl = q := ⟨_, rfl⟩
        have K3 : Hid (q + (if true = true then valGo t (l.drop (k + 1)) (k + 1) else 0) = z) := by
          have := K.out.1
          rw [if_pos rfl, valGo_next hx, hgm, if_pos rfl] at this
          show _ = _
          rw [if_pos rfl, ← hq]
          omega
        have q1 : 0 ≤ q ∧ q ≤ 1000000 * ((k + 1 : Nat) : Int) := by omega
        have e3 : Hid (IntKind.i64.wrap (f + x.vl) = q) := by show _ = _; rw [IntKind.wrap_i64]; omega
        have e4 : Hid (wrap64 (f + x.vl) = q) := by show _ = _; unfold wrap64; omega
        clear hx K hgm hq
        go_wp2_with fail
        refine C4.out.mono ?_; rintro e hw ⟨rfl, hb⟩
        have Kc := Lib.hid (below_on Kb.out hb)
        obtain ⟨B, off, rfl, c5⟩ := RJ.out hw Kc.out
        generalize x.vl = v at *
        clear C4 hb RJ
        replace e3 := e3.out
        replace e4 := e4.out
        go_wp2
        go_roundw
        case rel => exact ⟨k + 1, q, by first | rfl | simp, by first | rfl | simp, by clear e3 e4; omega, q1.1, q1.2, Lib.hid ⟨K3.out, Kc.out⟩⟩
        case measure => simp [intOf]; omega
    · have d1 : decide ((k : Int) < (n : Int)) = false := decide_eq_false (by omega)
      have hf : f = z := by
        have := K.out.1
        cases ga
        · simpa using this
        · rw [if_pos rfl, valGo_end (by rw [H.out.1]; exact hge)] at this
          omega
      subst hf
      have K3 := Lib.hid K.out.2
      clear K
      go_wp2
      go_ret
      exact ⟨rfl, by have s0 := K3.out.size; (try simp only [World.heap_drewN, World.size_alloc] at s0); repeat (first | exact Below.refl _ _ | exact K3.out | refine Below.trans ?_ (Below.mono K3.out (by first | omega | (simp; done) | (simp; omega))) | refine Below.setCell ?_ (by first | omega | (simp; done) | (simp; omega)) _ | refine below_dN ?_ _ | refine Below.drew ?_ | refine Below.alloc ?_ (by first | omega | (simp; done) | (simp; omega)) _)⟩
/-- How often each ran in k ticks. -/
def cf (t : List Int) (k : Nat) (i : Nat) : Int := ((t.take k).count (i : Int) : Int)
theorem cf_other {t : List Int} {k i : Nat} {x : Int} (h : t[k]? = some x) (hx : ¬ x = (i : Int)) : cf t (k + 1) i = cf t k i := by
  unfold cf; rw [count_next (i : Int) h, if_neg hx]; simp
theorem cf_same {t : List Int} {k i : Nat} (h : t[k]? = some (i : Int)) : cf t (k + 1) i = cf t k i + 1 := by
  unfold cf; rw [count_next (i : Int) h, if_pos rfl]; omega
theorem cf_next {t : List Int} {k p : Nat} {q : Int} (h : t[k]? = some (p : Int)) (hq : cf t k p + 1 = q) : (fun i => if i = p then q else cf t k i) = cf t (k + 1) := by
  funext i
  by_cases c : i = p
  · subst c; rw [if_pos rfl, cf_same h, hq]
  · rw [if_neg c, cf_other h (by omega)]
theorem cf_le (t : List Int) (k i : Nat) : 0 ≤ cf t k i ∧ cf t k i ≤ (k : Int) := by unfold cf; have := count_le_take (t := t) (k := k) (i : Int); omega
theorem okTick_cf {l : List Jb} {t : List Int} {k p : Nat} {y : Jb} (hy : l[p]? = some y) : okTick l t k (p : Int) = (decide (y.rel ≤ (k : Int)) && (decide ((k : Int) < y.dl) && decide (cf t k p < y.work))) := by
  rw [okTick_job hy]
  have : decide (0 < lf l t k p) = decide (cf t k p < y.work) := by unfold lf cf; rw [workAt_of hy, decide_eq_decide]; omega
  rw [this]
theorem held_job9 {w0 W W2 : World} {BJ o B p : Nat} {f : Int} {s : ByteArray} {r d b a v c : Int} {h : Bool} (k : Below w0.heap.size w0 W ∧ W.cell? ⟨B, p, none⟩ = some (.int .i64 f) ∧ (W.cell? ⟨BJ, o, none⟩ = some (.string s) ∧ W.cell? ⟨BJ, o + 1, none⟩ = some (.int .i64 r) ∧ W.cell? ⟨BJ, o + 2, none⟩ = some (.int .i64 d) ∧ W.cell? ⟨BJ, o + 3, none⟩ = some (.int .i64 b) ∧ W.cell? ⟨BJ, o + 4, none⟩ = some (.int .i64 a) ∧ W.cell? ⟨BJ, o + 5, none⟩ = some (.int .i64 v) ∧ W.cell? ⟨BJ, o + 6, none⟩ = some (.int .i64 c) ∧ W.cell? ⟨BJ, o + 7, none⟩ = some (.bool h))) (hb : Below W.heap.size W W2) : Below w0.heap.size w0 W2 ∧ W2.cell? ⟨B, p, none⟩ = some (.int .i64 f) ∧ (W2.cell? ⟨BJ, o, none⟩ = some (.string s) ∧ W2.cell? ⟨BJ, o + 1, none⟩ = some (.int .i64 r) ∧ W2.cell? ⟨BJ, o + 2, none⟩ = some (.int .i64 d) ∧ W2.cell? ⟨BJ, o + 3, none⟩ = some (.int .i64 b) ∧ W2.cell? ⟨BJ, o + 4, none⟩ = some (.int .i64 a) ∧ W2.cell? ⟨BJ, o + 5, none⟩ = some (.int .i64 v) ∧ W2.cell? ⟨BJ, o + 6, none⟩ = some (.int .i64 c) ∧ W2.cell? ⟨BJ, o + 7, none⟩ = some (.bool h)) := by
  have j1 : JAt W BJ o ⟨s, r, d, b, a, v, c, h⟩ := k.2.2
  exact ⟨below_on k.1 hb, by rw [hb.cell (p := ⟨B, p, none⟩) (cell_lt k.2.1)]; exact k.2.1, j1.below j1.lt hb⟩
set_option maxHeartbeats 6400000 in
set_option maxRecDepth 100000 in
theorem rgood9_any (A : Option Addr) (cap : Nat) (l : List Jb) (T : Option Addr) (tc : Nat) (t : List Int) (g : Bool) (w : World) (hln : l.length ≤ 1000) (htn : t.length ≤ 1000000) (hcap : cap ≤ 9223372036854775807) (hlc : l.length ≤ cap) (hs : ∀ x ∈ l, x.name.size ≤ 1000000) (hL : Ltr w) (hR : RdJ w A l)
    (htc : tc ≤ 9223372036854775807) (htl : t.length ≤ tc) (hT : RdT w T t) (hg : goodT l t = g) :
    Calls Tryd.prog 18 #[.slice A l.length cap, .slice T t.length tc] w (RetB (.bool g) w) := by
  obtain ⟨ga, hga⟩ : ∃ q, allB l = q := ⟨_, rfl⟩
  have C1 : Hid (Calls Tryd.prog 33 #[.slice A l.length cap] w (RetB (.bool ga) w)) := rjall_any A cap l ga w (by omega) hcap hlc hs hL hR hga
  obtain ⟨n, hl⟩ : ∃ n, l.length = n := ⟨_, rfl⟩
  obtain ⟨m, hm⟩ : ∃ n, t.length = n := ⟨_, rfl⟩
  cases ga
  · obtain rfl : false = g := by rw [← hg]; unfold goodT; rw [hga]; rfl
    rw [hl] at C1 hlc ⊢
    rw [hm] at htl ⊢
    clear hl hm hs hL hR hT hg hga
    go_enter Tryd.func18, Tryd.ntmps18
    go_wp2_with fail
    refine C1.out.mono ?_; rintro e gw ⟨rfl, gb⟩
    clear C1
    go_wp2
    go_ret
    exact ⟨rfl, by have s0 := gb.size; (try simp only [World.heap_drewN, World.size_alloc] at s0); repeat (first | exact Below.refl _ _ | exact gb | refine Below.trans ?_ (Below.mono gb (by first | omega | (simp; done) | (simp; omega))) | refine Below.setCell ?_ (by first | omega | (simp; done) | (simp; omega)) _ | refine below_dN ?_ _ | refine Below.drew ?_ | refine Below.alloc ?_ (by first | omega | (simp; done) | (simp; omega)) _)⟩
  · by_cases hm1 : m ≤ 10000
    · have C5 : Hid (∀ (x : Jb) w', x ∈ l → Below w.heap.size w w' → Calls Tryd.prog 34 #[.agg x.cells] w' (RetB (.int .i64 x.work) w')) := fun x w' hx hb => rjwork_any x w' (hs x hx) (hL.below hb)
      have hgd : Hid (∀ x ∈ l, x.good = true) := fun x hx => List.all_eq_true.1 (Bool.and_eq_true_iff.1 hga).2 x hx
      have hgt : Hid ((∀ k x, t[k]? = some x → okTick l t k x = true) → true = g) := fun h => by rw [← hg]; exact (goodT_iff.2 ⟨hga, by omega, h⟩).symm
      have hgf : Hid (∀ k x, t[k]? = some x → okTick l t k x = false → false = g) := fun k x h1 h2 => by rw [← hg]; exact (goodT_false h1 h2).symm
      rw [hl] at C1 hlc hln ⊢
      rw [hm] at htl ⊢
      have H := Lib.hid (And.intro hl (And.intro hm (And.intro hR hT)))
      have d1 : decide ((m : Int) > 10000) = false := decide_eq_false (by omega)
      have hmk : ∀ w', (Instr.makeSlice 27 (.int .i64 (n : Int)) (.int .i64 (n : Int))).run Tryd.prog w' = .ok (.slice (some ⟨w'.heap.size, 0, none⟩) n n) (w'.alloc (.cells (madeCells #[.int .i64 0] n) 3)) := fun w' => run_make_row' _ _ _ 8 Tryd.underlying27 Tryd.infoI (by kernel_rfl) .i64 .i64 n (by omega) (by omega) w'
      clear hl hm hs hL hR hT hg hga
      go_enter Tryd.func18, Tryd.ntmps18
      go_wp2_with fail
      refine C1.out.mono ?_; rintro e gw ⟨rfl, gb⟩
      clear C1
      replace gb := Lib.hid gb
      have K0 : Hid (Arr gw gw.heap.size n (cf t 0) (gw.alloc (.cells (madeCells #[.int .i64 0] n) 3))) := (Arr.fresh gw 3 n).to fun k hk => by unfold cf; simp
      have K1 : Hid (Below w.heap.size w (gw.alloc (.cells (madeCells #[.int .i64 0] n) 3))) := gb.out.alloc gb.out.size _
      have hBw : Hid (w.heap.size ≤ gw.heap.size) := gb.out.size
      go_wp2
      clear hmk d1 hm1
      generalize gw.alloc _ = w2 at K0 K1 ⊢
      generalize hBB : gw.heap.size = B at K0 hBw ⊢
      go_loopw [6] (fun st wr => ∃ (k : Nat), st = .int .i64 (k : Int) ∧ k ≤ m ∧ Hid (Below w.heap.size w wr ∧ Arr gw B n (cf t k) wr ∧ ∀ k' x, k' < k → t[k']? = some x → okTick l t k' x = true)) (fun st _ => m - (intOf st).toNat)
      case atStart => exact ⟨0, rfl, by omega, Lib.hid ⟨K1.out, K0.out, fun k' x hk => by omega⟩⟩
      case round =>
        clear K0 K1
        obtain ⟨k, rfl, hkm, K⟩ := hrel
        rcases Nat.lt_or_ge k m with hlt | hge
        · have d1 : decide ((k : Int) < (m : Int)) = true := decide_eq_true (by omega)
          have b2 : (k : Int) < (m : Int) := by omega
          have e1 : IntKind.i64.wrap ((k : Int) + 1) = ((k + 1 : Nat) : Int) := by rw [IntKind.wrap_i64]; omega
          obtain ⟨x, hx⟩ : ∃ x, t[k]? = some x := ⟨_, List.getElem?_eq_getElem (by rw [H.out.2.1]; exact hlt)⟩
          obtain ⟨BT, off, rfl, t0⟩ := (H.out.2.2.2.below K.out.1) k x hx
          have hok : Hid (okTick l t k x = true → ∀ k' y, k' < k + 1 → t[k']? = some y → okTick l t k' y = true) := by
            intro h k' y hk hy
            by_cases c : k' = k
            · subst c; rw [hx] at hy; injection hy with hy; subst hy; exact h
            · exact K.out.2.2 k' y (by omega) hy
          by_cases hx1 : x = -1
          · subst hx1
            have K3 : Hid (Below w.heap.size w wr ∧ Arr gw B n (cf t (k + 1)) wr ∧ ∀ k' x, k' < k + 1 → t[k']? = some x → okTick l t k' x = true) :=
              ⟨K.out.1, K.out.2.1.to fun i hi => (cf_other hx (by omega)).symm, hok.out (okTick_idle l t k)⟩
            clear K hok hx
            go_wp2
            go_roundw
            case rel => exact ⟨k + 1, by first | rfl | simp, by omega, K3⟩
            case measure => simp [intOf]; omega
          · have d2 : (x == -1) = false := by simp [hx1]
            have Kb := Lib.hid K.out.1
            have hh : hasB l x = (decide (0 ≤ x) && decide (x < (n : Int))) := by unfold hasB; rw [H.out.1]
            by_cases h0 : x < 0
            · have d3 : decide (x < 0) = true := decide_eq_true h0
              obtain rfl := hgf.out k x hx (okTick_none hx1 (by rw [hh, decide_eq_false (show ¬ 0 ≤ x by omega), Bool.false_and]))
              clear K hok hx hx1 hh h0
              go_wp2
              go_ret
              exact ⟨rfl, by have s0 := Kb.out.size; (try simp only [World.heap_drewN, World.size_alloc] at s0); repeat (first | exact Below.refl _ _ | exact Kb.out | refine Below.trans ?_ (Below.mono Kb.out (by first | omega | (simp; done) | (simp; omega))) | refine Below.setCell ?_ (by first | omega | (simp; done) | (simp; omega)) _ | refine below_dN ?_ _ | refine Below.drew ?_ | refine Below.alloc ?_ (by first | omega | (simp; done) | (simp; omega)) _)⟩
            · have d3 : decide (x < 0) = false := decide_eq_false h0
              by_cases h1 : x ≥ (n : Int)
              · have d4 : decide (x ≥ (n : Int)) = true := decide_eq_true h1
                have d4' : decide ((n : Int) ≤ x) = true := decide_eq_true h1
                obtain rfl := hgf.out k x hx (okTick_none hx1 (by rw [hh, decide_eq_false (show ¬ x < (n : Int) by omega), Bool.and_false]))
                clear K hok hx hx1 hh h0 h1
                go_wp2
                go_ret
                exact ⟨rfl, by have s0 := Kb.out.size; (try simp only [World.heap_drewN, World.size_alloc] at s0); repeat (first | exact Below.refl _ _ | exact Kb.out | refine Below.trans ?_ (Below.mono Kb.out (by first | omega | (simp; done) | (simp; omega))) | refine Below.setCell ?_ (by first | omega | (simp; done) | (simp; omega)) _ | refine below_dN ?_ _ | refine Below.drew ?_ | refine Below.alloc ?_ (by first | omega | (simp; done) | (simp; omega)) _)⟩
              · have d4 : decide (x ≥ (n : Int)) = false := decide_eq_false h1
                have d4' : decide ((n : Int) ≤ x) = false := decide_eq_false h1
                obtain ⟨p, rfl⟩ := Int.eq_ofNat_of_zero_le (show 0 ≤ x by omega)
                have hp : p < n := by omega
                have b1 : (p : Int) < (n : Int) := by omega
                have d4n : decide (n ≤ p) = false := decide_eq_false (by omega)
                obtain ⟨y, hy⟩ : ∃ x, l[p]? = some x := ⟨_, List.getElem?_eq_getElem (by rw [H.out.1]; exact hp)⟩
                obtain ⟨Bj, offj, rfl, hJw⟩ := H.out.2.2.1 p y hy
                have hJ := hJw.below hJw.lt K.out.1
                have hoj := okTick_cf (t := t) (k := k) hy
                have C6 : Hid (∀ w', Below w.heap.size w w' → Calls Tryd.prog 34 #[.agg y.cells] w' (RetB (.int .i64 y.work) w')) := fun w' hb => C5.out y w' (List.mem_of_getElem? hy) hb
                obtain ⟨wk, hwk⟩ : ∃ z, y.work = z := ⟨_, rfl⟩
                rw [hwk] at C6 hoj
                unfold Jb.cells at C6
                replace hJw := Lib.hid hJw
                unfold JAt at hJ
                obtain ⟨s, r, d, b, a, v, c, h⟩ := y
                simp only at hJ C6 hoj
                obtain ⟨c0, c1, c2, c3, c4, c5, c6, c7⟩ := hJ
                clear hx1 hh h0 h1 hy hwk
                by_cases hr : (k : Int) < r
                · have d5 : decide ((k : Int) < r) = true := decide_eq_true hr
                  obtain rfl := hgf.out k p hx (by rw [hoj, decide_eq_false (show ¬ r ≤ (k : Int) by omega), Bool.false_and])
                  clear K hok hx hoj hr
                  go_wp2
                  go_ret
                  exact ⟨rfl, by have s0 := Kb.out.size; (try simp only [World.heap_drewN, World.size_alloc] at s0); repeat (first | exact Below.refl _ _ | exact Kb.out | refine Below.trans ?_ (Below.mono Kb.out (by first | omega | (simp; done) | (simp; omega))) | refine Below.setCell ?_ (by first | omega | (simp; done) | (simp; omega)) _ | refine below_dN ?_ _ | refine Below.drew ?_ | refine Below.alloc ?_ (by first | omega | (simp; done) | (simp; omega)) _)⟩
                · have d5 : decide ((k : Int) < r) = false := decide_eq_false hr
                  by_cases hd : (k : Int) ≥ d
                  · have d6 : decide ((k : Int) ≥ d) = true := decide_eq_true hd
                    have d6' : decide (d ≤ (k : Int)) = true := decide_eq_true hd
                    obtain rfl := hgf.out k p hx (by rw [hoj, decide_eq_false (show ¬ (k : Int) < d by omega), Bool.false_and, Bool.and_false])
                    clear K hok hx hoj hr hd
                    go_wp2
                    go_ret
                    exact ⟨rfl, by have s0 := Kb.out.size; (try simp only [World.heap_drewN, World.size_alloc] at s0); repeat (first | exact Below.refl _ _ | exact Kb.out | refine Below.trans ?_ (Below.mono Kb.out (by first | omega | (simp; done) | (simp; omega))) | refine Below.setCell ?_ (by first | omega | (simp; done) | (simp; omega)) _ | refine below_dN ?_ _ | refine Below.drew ?_ | refine Below.alloc ?_ (by first | omega | (simp; done) | (simp; omega)) _)⟩
                  · have d6 : decide ((k : Int) ≥ d) = false := decide_eq_false hd
                    have d6' : decide (d ≤ (k : Int)) = false := decide_eq_false hd
                    rw [decide_eq_true (show r ≤ (k : Int) by omega), decide_eq_true (show (k : Int) < d by omega), Bool.true_and, Bool.true_and] at hoj
                    obtain ⟨f, hf⟩ : ∃ f, cf t k p = f := ⟨_, rfl⟩
                    have bd := cf_le t k p
                    rw [hf] at bd hoj
                    have f1 : wr.cell? ⟨B, p, none⟩ = some (.int .i64 f) := by rw [← hf]; exact K.out.2.1.cell p hp
                    have f2 : wr.frozen? ⟨B, p, none⟩ = false := K.out.2.1.frz p hp
                    obtain ⟨q, hq⟩ : ∃ q, f + 1 = q := ⟨_, rfl⟩
                    have K3 : Hid (Below w.heap.size w (wr.setCell ⟨B, p, none⟩ (.int .i64 q)) ∧ Arr gw B n (cf t (k + 1)) (wr.setCell ⟨B, p, none⟩ (.int .i64 q))) := by
                      refine ⟨Kb.out.setCell hBw.out _, ?_⟩
                      have := K.out.2.1.store hp q
                      rw [cf_next hx (by rw [hf, hq])] at this
                      exact this
                    obtain ⟨wx, hwx⟩ : ∃ wx, wr.setCell ⟨B, p, none⟩ (.int .i64 q) = wx := ⟨_, rfl⟩
                    have r1 : wx.cell? ⟨B, p, none⟩ = some (.int .i64 q) := by rw [← hwx]; exact World.cell?_setCell_same _ _ _ f1
                    rw [hwx] at K3
                    have r2 := hJw.out.below hJw.out.lt K3.out.1
                    unfold JAt at r2
                    simp only at r2
                    have BX : Hid (∀ W, Below wx.heap.size wx W → Below w.heap.size w W ∧ Arr gw B n (cf t (k + 1)) W) := fun W hb => ⟨below_on K3.out.1 hb, K3.out.2.on hb⟩
                    have e3 : Hid (IntKind.i64.wrap (f + 1) = q) := by show _ = _; rw [IntKind.wrap_i64]; omega
                    have e4 : Hid (wrap64 (f + 1) = q) := by show _ = _; unfold wrap64; omega
                    have C7 : Hid (∀ w', Below wx.heap.size wx w' → Calls Tryd.prog 34 #[.agg #[.string s, .int .i64 r, .int .i64 d, .int .i64 b, .int .i64 a, .int .i64 v, .int .i64 c, .bool h]] w' (RetB (.int .i64 wk) w')) := fun w' hb => C6.out w' (BX.out w' hb).1
                    obtain ⟨gq, hgq⟩ : ∃ g, decide (q > wk) = g := ⟨_, rfl⟩
                    have hno : Hid (gq = true → false = g) := fun hg => hgf.out k p hx (by rw [hoj, decide_eq_false]; rw [hg] at hgq; have := of_decide_eq_true hgq; omega)
                    have hyes : Hid (gq = false → ∀ k' y, k' < k + 1 → t[k']? = some y → okTick l t k' y = true) := fun hg => hok.out (by rw [hoj]; rw [hg] at hgq; have := of_decide_eq_false hgq; exact decide_eq_true (by omega))
                    clear hx hok K Kb hoj bd hf hq hr hd C6 hJw K3
                    replace e3 := e3.out
                    replace e4 := e4.out
                    go_wp2_with fail
                    try rw [hwx]
                    clear hwx e3 e4 c0 c1 c2 c3 c4 c5 c6 c7 f1 f2 t0 d2 d3 d4 d4' d5 d6 d6'
                    go_region_held3 (fun W => Below wx.heap.size wx W ∧ W.cell? ⟨B, p, none⟩ = some (.int .i64 q) ∧ (W.cell? ⟨Bj, offj + p * 8, none⟩ = some (.string s) ∧ W.cell? ⟨Bj, offj + p * 8 + 1, none⟩ = some (.int .i64 r) ∧ W.cell? ⟨Bj, offj + p * 8 + 2, none⟩ = some (.int .i64 d) ∧ W.cell? ⟨Bj, offj + p * 8 + 3, none⟩ = some (.int .i64 b) ∧ W.cell? ⟨Bj, offj + p * 8 + 4, none⟩ = some (.int .i64 a) ∧ W.cell? ⟨Bj, offj + p * 8 + 5, none⟩ = some (.int .i64 v) ∧ W.cell? ⟨Bj, offj + p * 8 + 6, none⟩ = some (.int .i64 c) ∧ W.cell? ⟨Bj, offj + p * 8 + 7, none⟩ = some (.bool h)))
                      (first | assumption | exact ⟨Below.drew (Below.refl _ _), r1, r2⟩ | (refine held_job9 ?_ hb; assumption))
                      (first
                        | (go_at_call 34; refine (C7.out _ (And.left (by assumption))).mono ?_; rintro e w2 ⟨rfl, hb⟩))
                    have hb3 : Hid (Below w.heap.size w w2 ∧ Arr gw B n (cf t (k + 1)) w2) := BX.out _ (And.left (by assumption))
                    clear hb r1 r2 BX C7
                    cases gq
                    · have K9 := Lib.hid (hyes.out rfl)
                      clear hno hyes
                      go_wp2
                      go_roundw
                      case rel => exact ⟨k + 1, by first | rfl | simp, by omega, Lib.hid ⟨hb3.out.1, hb3.out.2, K9.out⟩⟩
                      case measure => simp [intOf]; omega
                    · obtain rfl := hno.out rfl
                      have K9 := Lib.hid hb3.out.1
                      clear hno hyes hb3
                      go_wp2
                      go_ret
                      exact ⟨rfl, by have s0 := K9.out.size; (try simp only [World.heap_drewN, World.size_alloc] at s0); repeat (first | exact Below.refl _ _ | exact K9.out | refine Below.trans ?_ (Below.mono K9.out (by first | omega | (simp; done) | (simp; omega))) | refine Below.setCell ?_ (by first | omega | (simp; done) | (simp; omega)) _ | refine below_dN ?_ _ | refine Below.drew ?_ | refine Below.alloc ?_ (by first | omega | (simp; done) | (simp; omega)) _)⟩
        · have d1 : decide ((k : Int) < (m : Int)) = false := decide_eq_false (by omega)
          obtain rfl := hgt.out (fun k' x hk => K.out.2.2 k' x (by have := (List.getElem?_eq_some_iff.1 hk).1; have := H.out.2.1; omega) hk)
          have Kb := Lib.hid K.out.1
          clear K
          go_wp2
          go_ret
          exact ⟨rfl, by have s0 := Kb.out.size; (try simp only [World.heap_drewN, World.size_alloc] at s0); repeat (first | exact Below.refl _ _ | exact Kb.out | refine Below.trans ?_ (Below.mono Kb.out (by first | omega | (simp; done) | (simp; omega))) | refine Below.setCell ?_ (by first | omega | (simp; done) | (simp; omega)) _ | refine below_dN ?_ _ | refine Below.drew ?_ | refine Below.alloc ?_ (by first | omega | (simp; done) | (simp; omega)) _)⟩
    · obtain rfl : false = g := by rw [← hg]; unfold goodT; rw [hm, decide_eq_false hm1]; simp
      have d1 : decide ((m : Int) > 10000) = true := decide_eq_true (by omega)
      rw [hl] at C1 hlc ⊢
      rw [hm] at htl ⊢
      clear hl hm hs hL hR hT hg hga hm1
      go_enter Tryd.func18, Tryd.ntmps18
      go_wp2_with fail
      refine C1.out.mono ?_; rintro e gw ⟨rfl, gb⟩
      clear C1
      go_wp2
      go_ret
      exact ⟨rfl, by have s0 := gb.size; (try simp only [World.heap_drewN, World.size_alloc] at s0); repeat (first | exact Below.refl _ _ | exact gb | refine Below.trans ?_ (Below.mono gb (by first | omega | (simp; done) | (simp; omega))) | refine Below.setCell ?_ (by first | omega | (simp; done) | (simp; omega)) _ | refine below_dN ?_ _ | refine Below.drew ?_ | refine Below.alloc ?_ (by first | omega | (simp; done) | (simp; omega)) _)⟩
end Go.Proofs.YtcendklbnogmbaaDoor
