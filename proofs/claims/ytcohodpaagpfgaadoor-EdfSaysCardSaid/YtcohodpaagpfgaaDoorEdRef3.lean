/- The document's own Run, meets, Meets. (Written by genedr3.py.) -/
import Derived.Test.YtcohodpaagpfgaaDoorEdRef2
import Derived.Test.YtcohodpaagpfgaaDoorJbRef2
import Derived.Deep.DeepCutAuto
import Derived.Deep.CutRange
namespace Go.Proofs.YtcohodpaagpfgaaDoor
open Go.RowKit Go.Lib
set_option linter.unusedVariables false
set_option linter.unusedSimpArgs false

theorem map_at {f : Jb → Int} {l : List Jb} {i : Nat} {x : Int} (h : (l.map f)[i]? = some x) : atL f l i = x := by
  rw [List.getElem?_map] at h
  obtain ⟨y, hy, rfl⟩ := Option.map_eq_some_iff.1 h
  exact atL_of hy
theorem cellsE_next {f : Jb → Int} {l : List Jb} {i : Nat} {x : Jb} (h : l[i]? = some x) : cellsE ((l.map f).take (i + 1)) = cellsE ((l.map f).take i) ++ [.int .i64 (f x)] := by
  rw [List.take_add_one, List.getElem?_map, h]; simp [cellsE]
/-- Behind an append of one number. -/
theorem oneMoreE {N k : Nat} {r : List Int} {b : Int} {w wp w3 : World} {v : Value} {e e' : TypeId} (bw : Below N w wp) (hN : N ≤ wp.heap.size) (ho : wp.ownsRow N e 1 v k (cellsE r)) (hg : (wp.alloc (.cells #[.int .i64 b] e')).grownBy w3 v.ownBlock) : Below N w w3 := by
  have bm : Below wp.heap.size wp (wp.alloc (.cells #[.int .i64 b] e')) := (Below.refl _ _).alloc (Nat.le_refl _) _
  exact (bw.trans (bm.mono hN)).grown hg (by simp; omega) (fun j hj => (ho.lt j hj).1)
set_option maxHeartbeats 3200000 in
set_option maxRecDepth 100000 in
theorem rRun_any (A : Option Addr) (cap : Nat) (l : List Jb) (t : Int) (w : World) (hn : l.length ≤ 1000) (hcap : cap ≤ 9223372036854775807) (hlc : l.length ≤ cap) (hs : ∀ x ∈ l, x.name.size ≤ 1000000) (hL : Ltr w) (hR : RdJ w A l) :
    Calls Tryd.prog 19 #[.slice A l.length cap, .int .i64 t] w (Ticks (runL l t) w) := by
  obtain ⟨i0, hi0, hz0, hz1, hz2⟩ := info_parts Tryd.infoI
  obtain ⟨ga, hga⟩ : ∃ g, allB l = g := ⟨_, rfl⟩
  have C1 := Lib.hid (rjall_any A cap l ga w (by omega) hcap hlc hs hL hR hga)
  by_cases hgo : ga = true ∧ 0 ≤ t
  · obtain ⟨rfl, ht⟩ := hgo
    obtain ⟨q, hq⟩ : ∃ q : Nat, min t 10000 = (q : Int) := ⟨(min t 10000).toNat, by omega⟩
    have hq2 : q ≤ 10000 := by omega
    have hr : Hid (runL l t = edfL Jb.work l q) := by show _ = _; unfold runL; rw [hga, decide_eq_true ht, hq]; rfl
    obtain ⟨n, hl⟩ : ∃ n, l.length = n := ⟨_, rfl⟩
    have CR : Hid (∀ (A5 : Option Addr) (c5 : Nat) (w' : World), Below w.heap.size w w' → n ≤ c5 → c5 ≤ 9223372036854775807 → RdT w' A5 (l.map Jb.work) → Calls Tryd.prog 36 #[.slice A n cap, .slice A5 n c5, .int .i64 (q : Int)] w' (Ticks (edfL Jb.work l q) w')) := fun A5 c5 w' hb h1 h2 h3 => by
      have := rrun_any A cap l Jb.work A5 c5 (l.map Jb.work) q w' hn hcap hlc (hR.below hb) (by simp) (fun i x hx => map_at hx) h3 (by omega) h2 hq2
      rw [hl] at this
      exact this
    have H := Lib.hid (And.intro hl (And.intro hs (And.intro hL hR)))
    have d0 : decide (t < 0) = false := decide_eq_false (by omega)
    rw [hl] at C1 hlc hn ⊢
    rw [hr.out]
    clear hs hL hR hga ht hl hr
    go_enter Tryd.func19, Tryd.ntmps19
    go_wp2_with fail
    refine C1.out.mono ?_; rintro e w1 ⟨rfl, hb1⟩
    have b1 := Lib.hid hb1
    clear C1 hb1
    go_upto_if 15 with fail
    go_cut [1] (fun s1 wx => s1 = .int .i64 (q : Int) ∧ wx = w1)
    case first =>
      by_cases hc : t > 10000
      · have d1 : decide (t > 10000) = true := decide_eq_true hc
        obtain rfl : q = 10000 := by omega
        clear hq
        go_wp2
        go_meet
        exact ⟨rfl, rfl⟩
      · have d1 : decide (t > 10000) = false := decide_eq_false hc
        obtain rfl : t = (q : Int) := by omega
        clear hq
        go_wp2
        go_meet
        exact ⟨rfl, rfl⟩
    case rest =>
      obtain ⟨rfl, hw⟩ := hcut
      subst wc
      clear hq d0
      go_wp2
      go_loopw [5, 6] (fun sv st wr => ∃ (i : Nat), st = .int .i64 (i : Int) ∧ i ≤ n ∧ Hid (Below w.heap.size w wr ∧ wr.ownsRow w.heap.size 3 1 sv i (cellsE ((l.map Jb.work).take i)))) (fun _ st _ => n - (intOf st).toNat)
      case atStart => exact ⟨0, by first | rfl | simp, by omega, Lib.hid ⟨b1.out, World.ownsRow_nil _ _ _ _⟩⟩
      case round =>
        obtain ⟨i, rfl, hin, K⟩ := hrel
        rcases Nat.lt_or_ge i n with hlt | hge
        · have d1 : decide ((i : Int) < (n : Int)) = true := decide_eq_true (by omega)
          have e1 : IntKind.i64.wrap ((i : Int) + 1) = ((i + 1 : Nat) : Int) := by rw [IntKind.wrap_i64]; omega
          have b9 : (i : Int) < (n : Int) := by omega
          obtain ⟨x, hx⟩ : ∃ x, l[i]? = some x := ⟨_, List.getElem?_eq_getElem (by rw [H.out.1]; exact hlt)⟩
          obtain ⟨Bj, off, rfl, hJ⟩ := (H.out.2.2.2.below K.out.1) i x hx
          obtain ⟨wk, hwk⟩ : ∃ z, Jb.work x = z := ⟨_, rfl⟩
          have C : Hid (∀ w', Below wr.heap.size wr w' → Calls Tryd.prog 35 #[.agg x.cells] w' (RetB (.int .i64 wk) w')) := fun w' hb => hwk ▸ rjwork_any x w' (H.out.2.1 x (List.mem_of_getElem? hx)) ((H.out.2.2.1.below K.out.1).below hb)
          have hnx : Hid (cellsE ((l.map Jb.work).take (i + 1)) = cellsE ((l.map Jb.work).take i) ++ [.int .i64 wk]) := by show _ = _; rw [cellsE_next hx, hwk]
          clear hx hwk
          unfold JAt at hJ
          unfold Jb.cells at C
          obtain ⟨s, r, d, b, a, v, c, h⟩ := x
          simp only at hJ C
          obtain ⟨c0, c1, c2, c3, c4, c5, c6, c7⟩ := hJ
          obtain ⟨A5, c5', hv5, _⟩ := ownE_ticks K.out.2
          rw [List.length_take, List.length_map, Nat.min_eq_left (by rw [H.out.1]; omega)] at hv5
          subst hv5
          go_wp2_with fail
          refine (C.out _ (by repeat (first | exact Below.refl _ _ | refine Below.setCell ?_ (by first | omega | (simp; done) | (simp; omega)) _ | refine below_dN ?_ _ | refine Below.drew ?_ | refine Below.alloc ?_ (by first | omega | (simp; done) | (simp; omega)) _))).mono ?_; rintro e hw ⟨rfl, hb⟩
          replace hb : Below wr.heap.size wr hw := by refine below_on ?_ hb; exact by repeat (first | exact Below.refl _ _ | refine Below.setCell ?_ (by first | omega | (simp; done) | (simp; omega)) _ | refine below_dN ?_ _ | refine Below.drew ?_ | refine Below.alloc ?_ (by first | omega | (simp; done) | (simp; omega)) _)
          have KV : Hid (hw.ownsRow w.heap.size 3 1 (.slice A5 i c5') i (cellsE ((l.map Jb.work).take i))) := own_same K.out.2 fun q hq => hb.block q ((K.out.2.lt q hq).2)
          have KB : Hid (Below w.heap.size w hw) := below_on K.out.1 hb
          have hsz : Hid (w.heap.size ≤ hw.heap.size) := KB.out.size
          clear K C c0 c1 c2 c3 c4 c5 c6 c7 hb
          go_wp2_with (at_builtin; refine wpList_append_own_at _ rfl (.tmp 22) (.tmp 28) 29 rfl w.heap.size 3 i0 (.int .i64 0) 1 8 Tryd.underlying29 hi0 hz0 hz1 hz2 rfl (by decide) _ _ _ rfl (KV.out.alloc _) ⟨hw.heap.size, 0, none⟩ 1 1 [.int .i64 wk] rfl rfl (newsE _ _ _ _ rfl) (oneE _) (by unfold maxLen; omega) (by omega) (by have := hsz.out; simp; omega) ?_)
          intro v' w3 hown' hgrow' hnil hloc
          have K9 : Hid (Below w.heap.size w w3 ∧ w3.ownsRow w.heap.size 3 1 v' (i + 1) (cellsE ((l.map Jb.work).take (i + 1)))) := ⟨oneMoreE KB.out hsz.out KV.out hgrow', by rw [hnx.out]; exact hown'⟩
          clear hown' hgrow' hnil hloc KV KB hsz hnx
          go_wp2
          go_roundw
          case rel => exact ⟨i + 1, by first | rfl | simp, by omega, K9⟩
          case measure => simp [intOf]; omega
        · have d1 : decide ((i : Int) < (n : Int)) = false := decide_eq_false (by omega)
          obtain rfl : i = n := by omega
          obtain ⟨A5, c5', hv5, k1, k2, k3, _⟩ := ownE_ticks K.out.2
          rw [List.take_of_length_le (by rw [List.length_map, H.out.1]; exact hge)] at k3
          rw [List.length_take, List.length_map, Nat.min_eq_left (by rw [H.out.1]; omega)] at hv5 k1
          subst hv5
          have C9 := Lib.hid (CR.out A5 c5' wr K.out.1 k1 k2 k3)
          have KB := Lib.hid K.out.1
          clear K k3 CR
          go_wp2_with fail
          refine C9.out.mono ?_; rintro e w' ⟨X, c, rfl, j1, j2, j3, j4, j5⟩
          have KK := Lib.hid (And.intro j3 (And.intro (below_on KB.out j4) j5))
          clear j3 j4 j5 C9 KB
          go_wp2
          go_ret
          exact ⟨X, c, rfl, j1, j2, KK.out.1, KK.out.2.1, KK.out.2.2⟩
  · have hr : runL l t = [] := by
      unfold runL
      rw [hga]
      cases ga
      · rfl
      · rw [decide_eq_false (fun h => hgo ⟨rfl, h⟩)]; rfl
    rw [hr]
    generalize l.length = n at *
    clear hs hL hR hga hr
    go_enter Tryd.func19, Tryd.ntmps19
    go_wp2_with fail
    refine C1.out.mono ?_; rintro e w1 ⟨rfl, hb1⟩
    replace hb1 := Lib.hid hb1
    clear C1
    cases ga
    · clear hgo
      go_wp2
      go_ret
      exact ⟨none, 0, rfl, Nat.le_refl _, by decide, fun k x hx => by simp at hx, hb1.out, .inl ⟨rfl, rfl, rfl⟩⟩
    · have d1 : decide (t < 0) = true := decide_eq_true (by have : ¬ 0 ≤ t := fun h => hgo ⟨rfl, h⟩; omega)
      clear hgo
      go_wp2
      go_ret
      exact ⟨none, 0, rfl, Nat.le_refl _, by decide, fun k x hx => by simp at hx, hb1.out, .inl ⟨rfl, rfl, rfl⟩⟩
set_option maxHeartbeats 3200000 in
set_option maxRecDepth 100000 in
theorem rmeets_any (A : Option Addr) (cap : Nat) (l : List Jb) (Wa : Option Addr) (wc : Nat) (g : Bool) (w : World) (hn : l.length ≤ 1000) (hcap : cap ≤ 9223372036854775807) (hlc : l.length ≤ cap) (hs : ∀ x ∈ l, x.name.size ≤ 1000000) (hL : Ltr w) (hR : RdJ w A l)
    (hW : RdT w Wa (l.map Jb.charge)) (hwc : l.length ≤ wc) (hwc2 : wc ≤ 9223372036854775807) (hga : allB l = true) (hg : meetsB l = g) :
    Calls Tryd.prog 38 #[.slice A l.length cap, .slice Wa l.length wc] w (RetB (.bool g) w) := by
  have hg1 : ∀ y ∈ l, y.good = true := fun y hy => List.all_eq_true.1 (Bool.and_eq_true_iff.1 hga).2 y hy
  obtain ⟨E, hE⟩ : ∃ E : Nat, endM 0 l = (E : Int) := ⟨(endM 0 l).toNat, by have := (endM_le l 0).1; omega⟩
  have hE2 : E ≤ 10000 := by have := endM_bound l 0 10000 (by omega) (fun x hx => (jb_num (hg1 x hx)).2.2.1); omega
  have hez : endZ l = (E : Int) := by unfold endZ; rw [if_pos hga, hE]
  have C3 := Lib.hid (rjend_any A cap l (E : Int) w (by omega) hcap hlc hs hL hR hez)
  have C4 : Hid (∀ w', Below w.heap.size w w' → Calls Tryd.prog 36 #[.slice A l.length cap, .slice Wa l.length wc, .int .i64 (E : Int)] w' (Ticks (edfL Jb.charge l E) w')) := fun w' hb => rrun_any A cap l Jb.charge Wa wc (l.map Jb.charge) E w' hn hcap hlc (hR.below hb) (by simp) (fun i x hx => map_at hx) (hW.below hb) hwc hwc2 hE2
  obtain ⟨n, hl⟩ : ∃ n, l.length = n := ⟨_, rfl⟩
  obtain ⟨r, hr⟩ : ∃ r, edfL Jb.charge l E = r := ⟨_, rfl⟩
  have hrl : r.length = E := by rw [← hr, edfL_len]
  have hmt : Hid ((∀ (i : Nat) (x : Jb), l[i]? = some x → x.charge ≤ cn r x.dl.toNat i) → true = g) := fun h => by
    rw [← hg]; symm; refine meetsB_iff.2 ⟨hga, ?_⟩; rw [hE, Int.toNat_natCast, hr]; exact h
  have hmf : Hid (∀ (i : Nat) (x : Jb), l[i]? = some x → ¬ x.charge ≤ cn r x.dl.toNat i → false = g) := fun i x hx h => by
    cases g
    · rfl
    · exfalso
      have := (meetsB_iff.1 hg).2 i x hx
      rw [hE, Int.toNat_natCast, hr] at this
      exact h this
  have hdl : Hid (∀ (i : Nat) (x : Jb), l[i]? = some x → 0 ≤ x.dl ∧ x.dl ≤ (E : Int)) := fun i x hx => by
    have h1 := jb_num (hg1 x (List.mem_of_getElem? hx))
    have h2 := (endM_le l 0).2 x (List.mem_of_getElem? hx)
    omega
  have H := Lib.hid (And.intro hl (And.intro hR (And.intro hW hrl)))
  rw [hr] at C4
  rw [hl] at C3 C4 hn hlc hwc ⊢
  clear hs hL hR hga hg hg1 hE hez hl hr hW
  go_enter Tryd.func38, Tryd.ntmps38
  go_wp2_with fail
  refine C3.out.mono ?_; rintro e w1 ⟨rfl, hb1⟩
  replace hb1 := Lib.hid hb1
  clear C3
  go_wp2_with fail
  refine (C4.out _ hb1.out).mono ?_; rintro e w2 ⟨X, c, rfl, hc1, hc2, hT, hb2, _⟩
  have b2 : Hid (Below w.heap.size w w2) := below_on hb1.out hb2
  rw [hrl] at hc1 ⊢
  replace hT := Lib.hid hT
  clear C4 hb1 hb2
  have HJ : Hid (RdJ w2 A l ∧ RdT w2 Wa (l.map Jb.charge)) := ⟨H.out.2.1.below b2.out, H.out.2.2.1.below b2.out⟩
  go_wp2
  go_loopw [6] (fun st wr => ∃ (i : Nat), st = .int .i64 (i : Int) ∧ i ≤ n ∧ wr = w2 ∧ Hid (∀ (j : Nat) (x : Jb), j < i → l[j]? = some x → x.charge ≤ cn r x.dl.toNat j)) (fun st _ => n - (intOf st).toNat)
  case atStart => exact ⟨0, rfl, by omega, rfl, Lib.hid (fun j x hj => by omega)⟩
  case round =>
    obtain ⟨i, rfl, hin, hwr, K⟩ := hrel
    replace hwr := hwr.symm
    subst hwr
    rcases Nat.lt_or_ge i n with hlt | hge
    · have d1 : decide ((i : Int) < (n : Int)) = true := decide_eq_true (by omega)
      have e1 : IntKind.i64.wrap ((i : Int) + 1) = ((i + 1 : Nat) : Int) := by rw [IntKind.wrap_i64]; omega
      have b1 : (i : Int) < (n : Int) := by omega
      obtain ⟨x, hx⟩ : ∃ x, l[i]? = some x := ⟨_, List.getElem?_eq_getElem (by rw [H.out.1]; exact hlt)⟩
      obtain ⟨Bj, off, rfl, hJ⟩ := HJ.out.1 i x hx
      have c2 := hJ.2.2.1
      obtain ⟨Bw, offw, rfl, y0⟩ := HJ.out.2 i x.charge (by rw [List.getElem?_map, hx]; rfl)
      have hd := hdl.out i x hx
      have hf := Lib.hid (hmf.out i x hx)
      have hk : Hid (x.charge ≤ cn r x.dl.toNat i → ∀ (j : Nat) (y : Jb), j < i + 1 → l[j]? = some y → y.charge ≤ cn r y.dl.toNat j) := fun h j y hj hy => by
        by_cases c : j = i
        · subst c; rw [hx] at hy; injection hy with hy; subst hy; exact h
        · exact K.out j y (by omega) hy
      clear hJ hx K
      generalize x.charge = ch at *
      obtain ⟨D, hD⟩ := Int.eq_ofNat_of_zero_le hd.1
      rw [hD] at c2 hd hf hk
      rw [Int.toNat_natCast] at hf hk
      have hDE : D ≤ E := by omega
      clear hd hD
      go_wp2
      go_loopw [7, 8] (fun s7 st wr => ∃ (k : Nat) (v : Int), s7 = .int .i64 v ∧ st = .int .i64 (k : Int) ∧ k ≤ D ∧ wr = w2 ∧ Hid (cn r k i = v)) (fun _ st _ => D - (intOf st).toNat)
      case atStart => exact ⟨0, 0, rfl, rfl, by omega, rfl, Lib.hid (cn_zero r i)⟩
      case round =>
        obtain ⟨k, v, rfl, rfl, hkD, hwr, J⟩ := hrel
        replace hwr := hwr.symm
        subst hwr
        have q1 := cn_nonneg r k i
        have q2 := cn_le r k i
        rw [J.out] at q1 q2
        rcases Nat.lt_or_ge k D with hlt2 | hge2
        · have d2 : decide ((k : Int) < (D : Int)) = true := decide_eq_true (by omega)
          have d3 : decide ((k : Int) < (E : Int)) = true := decide_eq_true (by omega)
          have e2 : IntKind.i64.wrap ((k : Int) + 1) = ((k + 1 : Nat) : Int) := by rw [IntKind.wrap_i64]; omega
          have b3 : (k : Int) < (E : Int) := by omega
          obtain ⟨z, hz⟩ : ∃ x, r[k]? = some x := ⟨_, List.getElem?_eq_getElem (by have := H.out.2.2.2; omega)⟩
          obtain ⟨Bt, offt, rfl, t0⟩ := hT.out k z hz
          have hnx := cn_next i hz
          rw [J.out] at hnx
          clear hz J
          by_cases hzi : z = (i : Int)
          · have d4 : (z == (i : Int)) = true := by simp [hzi]
            rw [if_pos hzi] at hnx
            obtain ⟨v2, hv2⟩ : ∃ v2, v + 1 = v2 := ⟨_, rfl⟩
            rw [hv2] at hnx
            have e3 : IntKind.i64.wrap (v + 1) = v2 := by rw [IntKind.wrap_i64]; omega
            have e4 : wrap64 (v + 1) = v2 := by unfold wrap64; omega
            replace hnx := Lib.hid hnx
            clear hzi q1 q2 hv2
            go_wp2
            go_roundw
            case rel => exact ⟨k + 1, v2, by first | rfl | simp, by first | rfl | simp, by clear e3 e4; omega, by first | rfl | trivial, hnx⟩
            case measure => simp [intOf]; clear e3 e4; omega
          · have d4 : (z == (i : Int)) = false := by simp [hzi]
            rw [if_neg hzi, Int.add_zero] at hnx
            replace hnx := Lib.hid hnx
            clear hzi q1 q2
            go_wp2
            go_roundw
            case rel => exact ⟨k + 1, v, rfl, by first | rfl | simp, by omega, by first | rfl | trivial, hnx⟩
            case measure => simp [intOf]; omega
        · obtain rfl : k = D := by omega
          have d2 : decide ((k : Int) < (k : Int)) = false := decide_eq_false (by omega)
          have hkE : k < E ∨ E ≤ k := Nat.lt_or_ge k E
          clear q1 q2
          rw [J.out] at hf hk
          by_cases hch : ch ≤ v
          · have d4 : decide (v < ch) = false := decide_eq_false (by omega)
            have K2 := Lib.hid (hk.out hch)
            clear hf hk J hch
            rcases hkE with h | h
            · have d3 : decide ((k : Int) < (E : Int)) = true := decide_eq_true (by omega)
              go_wp2
              go_roundw
              case rel => exact ⟨i + 1, by first | rfl | simp, by omega, by first | rfl | trivial, K2⟩
              case measure => simp [intOf]; omega
            · have d3 : decide ((k : Int) < (E : Int)) = false := decide_eq_false (by omega)
              go_wp2
              go_roundw
              case rel => exact ⟨i + 1, by first | rfl | simp, by omega, by first | rfl | trivial, K2⟩
              case measure => simp [intOf]; omega
          · have d4 : decide (v < ch) = true := decide_eq_true (by omega)
            obtain rfl := hf.out (by omega)
            clear hf hk J hch
            rcases hkE with h | h
            · have d3 : decide ((k : Int) < (E : Int)) = true := decide_eq_true (by omega)
              go_wp2
              go_ret
              exact ⟨rfl, by have s0 := b2.out.size; (try simp only [World.heap_drewN, World.size_alloc] at s0); repeat (first | exact Below.refl _ _ | exact b2.out | refine Below.trans ?_ (Below.mono b2.out (by first | omega | (simp; done) | (simp; omega))) | refine Below.setCell ?_ (by first | omega | (simp; done) | (simp; omega)) _ | refine below_dN ?_ _ | refine Below.drew ?_ | refine Below.alloc ?_ (by first | omega | (simp; done) | (simp; omega)) _)⟩
            · have d3 : decide ((k : Int) < (E : Int)) = false := decide_eq_false (by omega)
              go_wp2
              go_ret
              exact ⟨rfl, by have s0 := b2.out.size; (try simp only [World.heap_drewN, World.size_alloc] at s0); repeat (first | exact Below.refl _ _ | exact b2.out | refine Below.trans ?_ (Below.mono b2.out (by first | omega | (simp; done) | (simp; omega))) | refine Below.setCell ?_ (by first | omega | (simp; done) | (simp; omega)) _ | refine below_dN ?_ _ | refine Below.drew ?_ | refine Below.alloc ?_ (by first | omega | (simp; done) | (simp; omega)) _)⟩
    · have d1 : decide ((i : Int) < (n : Int)) = false := decide_eq_false (by omega)
      obtain rfl := hmt.out (fun j x hx => K.out j x (by have := (List.getElem?_eq_some_iff.1 hx).1; have := H.out.1; omega) hx)
      clear K
      go_wp2
      go_ret
      exact ⟨rfl, by have s0 := b2.out.size; (try simp only [World.heap_drewN, World.size_alloc] at s0); repeat (first | exact Below.refl _ _ | exact b2.out | refine Below.trans ?_ (Below.mono b2.out (by first | omega | (simp; done) | (simp; omega))) | refine Below.setCell ?_ (by first | omega | (simp; done) | (simp; omega)) _ | refine below_dN ?_ _ | refine Below.drew ?_ | refine Below.alloc ?_ (by first | omega | (simp; done) | (simp; omega)) _)⟩
set_option maxHeartbeats 3200000 in
set_option maxRecDepth 100000 in
theorem rMeets_any (A : Option Addr) (cap : Nat) (l : List Jb) (g : Bool) (w : World) (hn : l.length ≤ 1000) (hcap : cap ≤ 9223372036854775807) (hlc : l.length ≤ cap) (hs : ∀ x ∈ l, x.name.size ≤ 1000000) (hL : Ltr w) (hR : RdJ w A l) (hg : meetsB l = g) :
    Calls Tryd.prog 20 #[.slice A l.length cap] w (RetB (.bool g) w) := by
  obtain ⟨i0, hi0, hz0, hz1, hz2⟩ := info_parts Tryd.infoI
  obtain ⟨ga, hga⟩ : ∃ g, allB l = g := ⟨_, rfl⟩
  have C1 := Lib.hid (rjall_any A cap l ga w (by omega) hcap hlc hs hL hR hga)
  cases ga
  · obtain rfl : false = g := by rw [← hg]; unfold meetsB; rw [hga]; rfl
    generalize l.length = n at *
    clear hs hL hR hga hg
    go_enter Tryd.func20, Tryd.ntmps20
    go_wp2_with fail
    refine C1.out.mono ?_; rintro e w1 ⟨rfl, hb1⟩
    clear C1
    go_wp2
    go_ret
    exact ⟨rfl, by have s0 := hb1.size; (try simp only [World.heap_drewN, World.size_alloc] at s0); repeat (first | exact Below.refl _ _ | exact hb1 | refine Below.trans ?_ (Below.mono hb1 (by first | omega | (simp; done) | (simp; omega))) | refine Below.setCell ?_ (by first | omega | (simp; done) | (simp; omega)) _ | refine below_dN ?_ _ | refine Below.drew ?_ | refine Below.alloc ?_ (by first | omega | (simp; done) | (simp; omega)) _)⟩
  · obtain ⟨n, hl⟩ : ∃ n, l.length = n := ⟨_, rfl⟩
    have CR : Hid (∀ (A5 : Option Addr) (c5 : Nat) (w' : World), Below w.heap.size w w' → n ≤ c5 → c5 ≤ 9223372036854775807 → RdT w' A5 (l.map Jb.charge) → Calls Tryd.prog 38 #[.slice A n cap, .slice A5 n c5] w' (RetB (.bool g) w')) := fun A5 c5 w' hb h1 h2 h3 => by
      have := rmeets_any A cap l A5 c5 g w' hn hcap hlc hs (hL.below hb) (hR.below hb) h3 (by omega) h2 hga hg
      rw [hl] at this
      exact this
    have H := Lib.hid (And.intro hl (And.intro hs (And.intro hL hR)))
    rw [hl] at C1 hlc hn ⊢
    clear hs hL hR hga hl hg
    go_enter Tryd.func20, Tryd.ntmps20
    go_wp2_with fail
    refine C1.out.mono ?_; rintro e w1 ⟨rfl, hb1⟩
    have b1 := Lib.hid hb1
    clear C1 hb1
    go_wp2
    go_loopw [3, 4] (fun sv st wr => ∃ (i : Nat), st = .int .i64 (i : Int) ∧ i ≤ n ∧ Hid (Below w.heap.size w wr ∧ wr.ownsRow w.heap.size 3 1 sv i (cellsE ((l.map Jb.charge).take i)))) (fun _ st _ => n - (intOf st).toNat)
    case atStart => exact ⟨0, by first | rfl | simp, by omega, Lib.hid ⟨b1.out, World.ownsRow_nil _ _ _ _⟩⟩
    case round =>
      obtain ⟨i, rfl, hin, K⟩ := hrel
      rcases Nat.lt_or_ge i n with hlt | hge
      · have d1 : decide ((i : Int) < (n : Int)) = true := decide_eq_true (by omega)
        have e1 : IntKind.i64.wrap ((i : Int) + 1) = ((i + 1 : Nat) : Int) := by rw [IntKind.wrap_i64]; omega
        have b9 : (i : Int) < (n : Int) := by omega
        obtain ⟨x, hx⟩ : ∃ x, l[i]? = some x := ⟨_, List.getElem?_eq_getElem (by rw [H.out.1]; exact hlt)⟩
        obtain ⟨Bj, off, rfl, hJ⟩ := (H.out.2.2.2.below K.out.1) i x hx
        obtain ⟨wk, hwk⟩ : ∃ z, Jb.charge x = z := ⟨_, rfl⟩
        have C : Hid (∀ w', Below wr.heap.size wr w' → Calls Tryd.prog 37 #[.agg x.cells] w' (RetB (.int .i64 wk) w')) := fun w' hb => hwk ▸ rjcharge_any x w' (H.out.2.1 x (List.mem_of_getElem? hx)) ((H.out.2.2.1.below K.out.1).below hb)
        have hnx : Hid (cellsE ((l.map Jb.charge).take (i + 1)) = cellsE ((l.map Jb.charge).take i) ++ [.int .i64 wk]) := by show _ = _; rw [cellsE_next hx, hwk]
        clear hx hwk
        unfold JAt at hJ
        unfold Jb.cells at C
        obtain ⟨s, r, d, b, a, v, c, h⟩ := x
        simp only at hJ C
        obtain ⟨c0, c1, c2, c3, c4, c5, c6, c7⟩ := hJ
        obtain ⟨A5, c5', hv5, _⟩ := ownE_ticks K.out.2
        rw [List.length_take, List.length_map, Nat.min_eq_left (by rw [H.out.1]; omega)] at hv5
        subst hv5
        go_wp2_with fail
        refine (C.out _ (by repeat (first | exact Below.refl _ _ | refine Below.setCell ?_ (by first | omega | (simp; done) | (simp; omega)) _ | refine below_dN ?_ _ | refine Below.drew ?_ | refine Below.alloc ?_ (by first | omega | (simp; done) | (simp; omega)) _))).mono ?_; rintro e hw ⟨rfl, hb⟩
        replace hb : Below wr.heap.size wr hw := by refine below_on ?_ hb; exact by repeat (first | exact Below.refl _ _ | refine Below.setCell ?_ (by first | omega | (simp; done) | (simp; omega)) _ | refine below_dN ?_ _ | refine Below.drew ?_ | refine Below.alloc ?_ (by first | omega | (simp; done) | (simp; omega)) _)
        have KV : Hid (hw.ownsRow w.heap.size 3 1 (.slice A5 i c5') i (cellsE ((l.map Jb.charge).take i))) := own_same K.out.2 fun q hq => hb.block q ((K.out.2.lt q hq).2)
        have KB : Hid (Below w.heap.size w hw) := below_on K.out.1 hb
        have hsz : Hid (w.heap.size ≤ hw.heap.size) := KB.out.size
        clear K C c0 c1 c2 c3 c4 c5 c6 c7 hb
        go_wp2_with (at_builtin; refine wpList_append_own_at _ rfl (.tmp 14) (.tmp 20) 29 rfl w.heap.size 3 i0 (.int .i64 0) 1 8 Tryd.underlying29 hi0 hz0 hz1 hz2 rfl (by decide) _ _ _ rfl (KV.out.alloc _) ⟨hw.heap.size, 0, none⟩ 1 1 [.int .i64 wk] rfl rfl (newsE _ _ _ _ rfl) (oneE _) (by unfold maxLen; omega) (by omega) (by have := hsz.out; simp; omega) ?_)
        intro v' w3 hown' hgrow' hnil hloc
        have K9 : Hid (Below w.heap.size w w3 ∧ w3.ownsRow w.heap.size 3 1 v' (i + 1) (cellsE ((l.map Jb.charge).take (i + 1)))) := ⟨oneMoreE KB.out hsz.out KV.out hgrow', by rw [hnx.out]; exact hown'⟩
        clear hown' hgrow' hnil hloc KV KB hsz hnx
        go_wp2
        go_roundw
        case rel => exact ⟨i + 1, by first | rfl | simp, by omega, K9⟩
        case measure => simp [intOf]; omega
      · have d1 : decide ((i : Int) < (n : Int)) = false := decide_eq_false (by omega)
        obtain rfl : i = n := by omega
        obtain ⟨A5, c5', hv5, k1, k2, k3, _⟩ := ownE_ticks K.out.2
        rw [List.take_of_length_le (by rw [List.length_map, H.out.1]; exact hge)] at k3
        rw [List.length_take, List.length_map, Nat.min_eq_left (by rw [H.out.1]; omega)] at hv5 k1
        subst hv5
        have C9 := Lib.hid (CR.out A5 c5' wr K.out.1 k1 k2 k3)
        have KB := Lib.hid K.out.1
        clear K k3 CR
        go_wp2_with fail
        refine C9.out.mono ?_; rintro e w' ⟨rfl, hb⟩
        have KK := Lib.hid (below_on KB.out hb)
        clear hb C9 KB
        go_wp2
        go_ret
        exact ⟨rfl, by have s0 := KK.out.size; (try simp only [World.heap_drewN, World.size_alloc] at s0); repeat (first | exact Below.refl _ _ | exact KK.out | refine Below.trans ?_ (Below.mono KK.out (by first | omega | (simp; done) | (simp; omega))) | refine Below.setCell ?_ (by first | omega | (simp; done) | (simp; omega)) _ | refine below_dN ?_ _ | refine Below.drew ?_ | refine Below.alloc ?_ (by first | omega | (simp; done) | (simp; omega)) _)⟩
end Go.Proofs.YtcohodpaagpfgaaDoor
