/- Package over: the iterator of intervals: its contract. -/
import Derived.Test.YtacffjkhbajgkaaDoorOvP3
namespace Go.Proofs.YtacffjkhbajgkaaDoor
open Go.RowKit Go.Lib
set_option linter.unusedVariables false
set_option linter.unusedSimpArgs false

set_option maxHeartbeats 6400000 in
set_option maxRecDepth 100000 in
theorem ival_stops (nd : Nat) (hnd : 1 ≤ nd) (we w : World) (Bs : Nat) (A : Option Addr) (cap : Nat) (l : List Jb) (hn : l.length ≤ 40) (hcap : cap ≤ 9223372036854775807) (hlc : l.length ≤ cap) (hs : ∀ x ∈ l, x.name.size ≤ 1000000) (hg : allB l = true) (hL : Ltr we) (hR : RdJ we A l)
    (hbe : Below we.heap.size we w) (hbox : Boxed w Bs 25 (.slice A l.length cap)) :
    SeqStopsK Fence.wide nd Tryd.prog 28 #[.pointer (some ⟨Bs, 0, none⟩)] encIv (KpT we.heap.size w.heap.size)
      (fun xs => worstI xs = worstW (wds l) ∧ ∀ E : Nat, (∀ v ∈ wds l, v.d ≤ (E : Int)) → spansI xs = (segs (hotW (wds l)) E).reverse) (fun _ => True) 2000 w := fun lid J Jx W hW hJ hJx hY h0 => by
  have hgood := wds_good hg
  have hbW : Below we.heap.size we W := hbe.trans (hW.mono hbe.size)
  have hboxW : Boxed W Bs 25 (.slice A l.length cap) := (hW.block Bs hbox.lt).trans hbox
  have C1 := Lib.hid (by_ty A cap l W hn hcap hlc (hR.below hbW))
  have C2 := Lib.hid (fun w' (hb : Below we.heap.size we w') => releases_any A cap l w' (by omega) hcap hlc (hR.below hb))
  have hfin : Hid (∀ (g : Nat → Int) (R : Nat → Int) (m : Nat), Run (dlOf l) g 0 l.length → (∀ i j, i < j → j < m → R i < R j) → (∀ i, i < m → ∃ x ∈ l, R i = x.rel) → (∀ x ∈ l, ∃ i, i < m ∧ R i = x.rel) →
      (worstI (allF (ordS l g) l.length R m) = worstW (wds l) ∧ ∀ E : Nat, (∀ v ∈ wds l, v.d ≤ (E : Int)) → spansI (allF (ordS l g) l.length R m) = (segs (hotW (wds l)) E).reverse)) := fun g R m r1 r2 r3 r4 => by
    have := ovW_of r1 r2 r3 r4
    exact ⟨this.worst, fun E hE => this.spans (fun v hv => (hgood v hv).1) hE⟩
  have HR := Lib.hid (And.intro hR (And.intro hL hs))
  have KW := Lib.hid (And.intro hbW (And.intro hboxW h0))
  have hcb := hboxW.cell
  show CallsIn Fence.wide nd Tryd.prog 28 #[.func (.yield lid) #[] #[], .pointer (some ⟨Bs, 0, none⟩)] W _
  refine callsIn_of_wp Tryd.func28 rfl trivial ?_ rfl
  simp only [Tryd.ntmps28, List.size_toArray, List.length_cons, List.length_nil, Nat.reduceAdd, Nat.reduceSub, Array.replicate_succ, Array.replicate_zero, List.push_toArray, List.append_toArray, List.nil_append, List.cons_append]
  obtain ⟨n, hl⟩ : ∃ n, l.length = n := ⟨_, rfl⟩
  have HL : Hid (l.length = n) := hl
  have C3 : Hid (∀ (x : Jb) w', x ∈ l → Below we.heap.size we w' → Calls Tryd.prog 23 #[.agg x.cells] w' (RetB (.int .i64 x.charge) w')) := fun x w' hx hb => jcharge_any x w' (hs x hx) (hL.below hb)
  have HG := Lib.hid hgood
  have hwW : Hid (w.heap.size ≤ W.heap.size) := hW.size
  have HJ := Lib.hid (And.intro hJ (And.intro hJx hY))
  rw [hl] at C1 C2 hfin hcb KW hn hlc
  clear hl hbe hbox hbW hboxW hgood hs hL hR h0 hJ hJx hY hW hg
  gi_wp2_with fail
  refine ⟨trivial, (callsIn_wide.2 C1.out).mono ?_⟩
  rintro _ w1 ⟨Bo, g, rfl, hBo1, hBo2, hb1, hrun, hty, hoc⟩
  have K1 : Hid (Below W.heap.size W w1 ∧ w.heap.size ≤ Bo ∧ Run (dlOf l) g 0 n ∧ TyI w1 Bo ∧ ∀ k, k < n → w1.cell? ⟨Bo, k, none⟩ = some (.int .i64 (g k))) := ⟨hb1, Nat.le_trans hwW.out hBo1, hrun, hty, hoc⟩
  have hcb1 : w1.cell? ⟨Bs, 0, none⟩ = some (.slice A n cap) := by rw [hb1.cell (p := ⟨Bs, 0, none⟩) KW.out.2.1.lt]; exact hcb
  have C2' := Lib.hid (C2.out w1 (below_on KW.out.1 hb1))
  clear hBo1 hBo2 hb1 hrun hty hoc C1 C2 hcb
  gi_wp2_with fail
  refine ⟨trivial, (callsIn_wide.2 C2'.out).mono ?_⟩
  rintro _ Wa ⟨Br, m, R, rfl, hmn, hBr1, hBr2, hty, hb2, hrc, hr1, hr2, hr3⟩
  have hmn2 : m ≤ 40 := by omega
  have K2 : Hid (w.heap.size ≤ Br ∧ (∀ k, k < m → Wa.cell? ⟨Br, k, none⟩ = some (.int .i64 (R k))) ∧ (∀ k, k < n → Wa.cell? ⟨Bo, k, none⟩ = some (.int .i64 (g k))) ∧ w.heap.size ≤ Bo ∧ Run (dlOf l) g 0 n ∧ ∀ i, i < m → ∃ x ∈ l, R i = x.rel) := by
    refine ⟨Nat.le_trans hwW.out (Nat.le_trans K1.out.1.size hBr1), hrc, fun k hk => ?_, K1.out.2.1, K1.out.2.2.1, hr2⟩
    rw [hb2.cell (p := ⟨Bo, k, none⟩) K1.out.2.2.2.1.lt]
    exact K1.out.2.2.2.2 k hk
  have KK : Hid (IvK we Wa Bs Bo Br (.slice A n cap) Wa ∧ J [] Wa) := by
    have hbb := below_on K1.out.1 hb2
    refine ⟨⟨KW.out.1.trans (hbb.mono KW.out.1.size), (hbb.block Bs KW.out.2.1.lt).trans KW.out.2.1, K1.out.2.2.2.1.on hb2, hty, rfl, rfl⟩, ?_⟩
    exact HJ.out.1 _ _ _ none KW.out.2.2 (grown_of_below hbb) (fun r e => by cases e)
  have hfin2 : Hid (worstI (allF (ordS l g) n R m) = worstW (wds l) ∧ ∀ E : Nat, (∀ v ∈ wds l, v.d ≤ (E : Int)) → spansI (allF (ordS l g) n R m) = (segs (hotW (wds l)) E).reverse) := hfin.out g R m K1.out.2.2.1 hr1 hr2 hr3
  clear hBr1 hBr2 hty hb2 hrc hr1 hr2 hr3 K1 C2' hcb1 hfin KW hmn hwW
  gi_wp2
  gi_loopw [16] (fun st wr => ∃ (i : Nat), st = .int .i64 (i : Int) ∧ i ≤ m ∧ Hid (IvK we Wa Bs Bo Br (.slice A n cap) wr ∧ J (allF (ordS l g) n R i) wr)) (fun st _ => m - (intOf st).toNat)
  case atStart => exact ⟨0, rfl, by omega, KK⟩
  case round =>
    clear KK
    obtain ⟨i, rfl, him, K⟩ := hrel
    obtain ⟨z84, hz84⟩ : ∃ z, z = u84 := ⟨_, rfl⟩
    subst hz84
    rcases Nat.lt_or_ge i m with hlt | hge
    · have d1 : decide ((i : Int) < (m : Int)) = true := decide_eq_true (by omega)
      have e1 : IntKind.i64.wrap ((i : Int) + 1) = ((i + 1 : Nat) : Int) := by rw [IntKind.wrap_i64]; omega
      have b1 : (i : Int) < (m : Int) := by omega
      have cr := K.out.1.rc (K2.out.2.1 i hlt)
      obtain ⟨a, ha⟩ : ∃ a, R i = a := ⟨_, rfl⟩
      rw [ha] at cr
      have HA : Hid (R i = a ∧ i < m ∧ 0 ≤ a ∧ a ≤ 10000) := by
        obtain ⟨x, hx, e⟩ := K2.out.2.2.2.2.2 i hlt
        have := HG.out x.wd (List.mem_map.2 ⟨x, hx, rfl⟩)
        have e2 : x.wd.r = a := by rw [← ha, e]; rfl
        exact ⟨ha, hlt, by omega, by omega⟩
      have K0 : Hid (IvK we Wa Bs Bo Br (.slice A n cap) wr ∧ J (allF (ordS l g) n R i ++ rowF (ordS l g) n a 0) wr) := ⟨K.out.1, by rw [show rowF (ordS l g) n a 0 = [] from rfl, List.append_nil]; exact K.out.2⟩
      clear K ha hlt
      gi_wp2
      gi_loopw [6, 22] (fun s6 st wr => ∃ (k : Nat) (e : Int), s6 = .int .i64 e ∧ st = .int .i64 (k : Int) ∧ k ≤ n ∧ 0 ≤ e ∧ e ≤ 1100 * (k : Int) ∧ Hid (runF a (ordS l g) k = e ∧ IvK we Wa Bs Bo Br (.slice A n cap) wr ∧ J (allF (ordS l g) n R i ++ rowF (ordS l g) n a k) wr)) (fun _ st _ => n - (intOf st).toNat)
      case atStart => exact ⟨0, 0, rfl, rfl, by omega, by omega, by omega, Lib.hid ⟨rfl, K0.out.1, K0.out.2⟩⟩
      case round =>
        clear K0 cr
        obtain ⟨k, e, rfl, rfl, hkn, he0, he1, G⟩ := hrel
        rcases Nat.lt_or_ge k n with hlt2 | hge2
        · have d2 : decide ((k : Int) < (n : Int)) = true := decide_eq_true (by omega)
          have e2 : IntKind.i64.wrap ((k : Int) + 1) = ((k + 1 : Nat) : Int) := by rw [IntKind.wrap_i64]; omega
          have b2 : (k : Int) < (n : Int) := by omega
          have co := G.out.2.1.oc (K2.out.2.2.1 k hlt2)
          have hgk := K2.out.2.2.2.2.1.to k (Nat.zero_le _) hlt2
          obtain ⟨v, hv⟩ := Int.eq_ofNat_of_zero_le (show 0 ≤ g k by simpa using hgk.1)
          have hvn : v < n := by omega
          rw [hv] at co
          obtain ⟨x, hx⟩ : ∃ x, l[v]? = some x := ⟨_, List.getElem?_eq_getElem (by rw [HL.out]; exact hvn)⟩
          obtain ⟨B, off, hAe, hJ8⟩ := HR.out.1 v x hx
          have HX : Hid (ordS l g k = x.wd ∧ g k = (v : Int) ∧ l[v]? = some x) := ⟨ordS_at hv hx, hv, hx⟩
          have cbx := G.out.2.1.box.cell
          have hJw := JAt.below (o := off + v * 8) hJ8 (hJ8.lt) G.out.2.1.below
          subst hAe
          clear hgk hv hx
          obtain ⟨ch, hch⟩ : ∃ ch, x.charge = ch := ⟨_, rfl⟩
          have hcb := charge_pos x
          rw [show x.wd.c = x.charge from rfl, hch] at hcb
          have hxg := HG.out x.wd (List.mem_map.2 ⟨x, List.mem_of_getElem? HX.out.2.2, rfl⟩)
          have hxd : Hid (0 ≤ x.dl ∧ x.dl ≤ 10000) := ⟨by have : x.wd.d = x.dl := rfl; omega, by have : x.wd.d = x.dl := rfl; omega⟩
          have HQ : Hid (runF a (ordS l g) (k + 1) = if a ≤ x.rel then e + ch else e) := by
            show (if a ≤ (ordS l g k).r then runF a (ordS l g) k + (ordS l g k).c else runF a (ordS l g) k) = _
            rw [HX.out.1, G.out.1, ← hch]; rfl
          have G2 : Hid (IvK we Wa Bs Bo Br (.slice (some ⟨B, off, none⟩) n cap) wr ∧ J (allF (ordS l g) n R i ++ rowF (ordS l g) n a k) wr) := G.out.2
          have C4 : Hid (Calls Tryd.prog 23 #[.agg x.cells] wr (RetB (.int .i64 ch) wr)) := by have := C3.out x wr (List.mem_of_getElem? HX.out.2.2) G.out.2.1.below; rw [hch] at this; exact this
          obtain ⟨q, hq⟩ : ∃ q, (if a ≤ x.rel then e + ch else e) = q := ⟨_, rfl⟩
          have hqb : Hid (0 ≤ q ∧ q ≤ 1100 * ((k + 1 : Nat) : Int)) := by
            by_cases c : a ≤ x.rel
            · rw [if_pos c] at hq; exact ⟨by omega, by omega⟩
            · rw [if_neg c] at hq; exact ⟨by omega, by omega⟩
          rw [hq] at HQ
          unfold Jb.cells at C4
          unfold JAt at hJw
          obtain ⟨c0, c1, c2, c3, c4, c5, c6, c7⟩ := hJw
          clear G hch hxg hJ8
          generalize x.name = xs at *
          generalize hxrel : x.rel = xr at *
          generalize hxdl : x.dl = xd at *
          generalize x.bud = xb at *
          generalize x.act = xa at *
          generalize x.vl = xv at *
          generalize x.cln = xc at *
          generalize x.hard = xh at *
          have HD : Hid (x.rel = xr ∧ x.dl = xd) := ⟨hxrel, hxdl⟩
          clear hxrel hxdl
          obtain ⟨gt, hgt⟩ : ∃ gt, decide (a ≤ xr) = gt := ⟨_, rfl⟩
          have d3 : decide (xr ≥ a) = gt := hgt
          have d3' : decide (a ≤ xr) = gt := hgt
          have HGT : Hid (decide (a ≤ xr) = gt) := hgt
          clear hgt
          gi_upto_if 33 with fail
          gi_cut [6, 84] from 34 (fun s6 s84 wx => s6 = .int .i64 q ∧ s84 = z84 ∧ Hid (IvK we Wa Bs Bo Br (.slice (some ⟨B, off, none⟩) n cap) wx ∧ J (allF (ordS l g) n R i ++ rowF (ordS l g) n a k) wx))
          case first =>
            cases gt
            rotate_left
            · have h1 : a ≤ xr := of_decide_eq_true HGT.out
              rw [if_pos h1] at hq
              have e3 : IntKind.i64.wrap (e + ch) = q := by rw [IntKind.wrap_i64]; have := hqb.out; omega
              have e3' : wrap64 (e + ch) = q := by unfold wrap64; have := hqb.out; omega
              clear hq hcb h1 he0 he1
              gi_wp2_with fail
              refine ⟨trivial, (callsIn_wide.2 C4.out).mono ?_⟩
              rintro _ hw ⟨rfl, hb⟩
              have G3 : Hid (IvK we Wa Bs Bo Br (.slice (some ⟨B, off, none⟩) n cap) hw ∧ J (allF (ordS l g) n R i ++ rowF (ordS l g) n a k) hw) := ⟨G2.out.1.on hb, HJ.out.1 _ _ _ none G2.out.2 (grown_of_below hb) (fun r e => by cases e)⟩
              clear G2 hb C4 c0 c1 c2 c3 c4 c5 c6 c7
              gi_wp2
              gi_meet
              case rel => exact ⟨rfl, rfl, G3⟩
            · have h1 : ¬ a ≤ xr := of_decide_eq_false HGT.out
              rw [if_neg h1] at hq
              subst hq
              clear hcb h1 he0 he1
              gi_wp2
              gi_meet
              case rel => exact ⟨rfl, rfl, G2⟩
          case rest =>
            clear G2 C4 c0 c1 c2 c3 c4 c5 c6 c7 hcb hq cbx co he0 he1
            obtain ⟨rfl, hz, G⟩ := hcut
            have hz2 := hz.symm
            clear hz
            subst hz2
            have cbx := G.out.1.box.cell
            obtain ⟨B', off', hAe, hJ8⟩ := HR.out.1 v x HX.out.2.2
            simp only [Option.some.injEq, Addr.mk.injEq, and_true] at hAe
            obtain ⟨rfl, rfl⟩ := hAe
            have hJw := JAt.below hJ8 (hJ8.lt) G.out.1.below
            have c2 := hJw.2.2.1
            rw [HD.out.2] at c2
            clear hJ8 hJw
            gi_upto_region 11 with fail
            gi_cut [10, 84] from 46 (fun s10 s84 wx => s10 = .bool (lastF (ordS l g) n k) ∧ s84 = z84 ∧ Hid (IvK we Wa Bs Bo Br (.slice (some ⟨B, off, none⟩) n cap) wx ∧ J (allF (ordS l g) n R i ++ rowF (ordS l g) n a k) wx))
            case first =>
              obtain ⟨p, hp⟩ : ∃ p, n = p + 1 := ⟨n - 1, by omega⟩
              have e5 : IntKind.i64.wrap ((n : Int) - 1) = (p : Int) := by rw [IntKind.wrap_i64]; omega
              have e5' : wrap64 ((n : Int) - 1) = (p : Int) := by unfold wrap64; omega
              by_cases hk1 : k + 1 = n
              · have hkp : k = p := by omega
                have d5 : ((k : Int) == (p : Int)) = true := by rw [hkp]; simp
                have hla : Hid (lastF (ordS l g) n k = true) := by show _ = _; unfold lastF; rw [decide_eq_true hk1]; rfl
                clear hp hk1 hkp
                gi_quiet (fail)
                gi_wp2
                gi_meet
                case rel =>
                  rw [hla.out]
                  exact ⟨rfl, rfl, Lib.hid ⟨G.out.1.on (below_dN (Below.refl _ _) _), HJ.out.1 _ _ _ none G.out.2 (grown_of_below (below_dN (Below.refl _ _) _)) (fun r e => by cases e)⟩⟩
              · have hkp : ¬ k = p := by omega
                have d5 : ((k : Int) == (p : Int)) = false := by simp; omega
                have hk2 : k + 1 < n := by omega
                have co2 := G.out.1.oc (K2.out.2.2.1 (k + 1) hk2)
                have hgk := K2.out.2.2.2.2.1.to (k + 1) (Nat.zero_le _) hk2
                obtain ⟨v2, hv2⟩ := Int.eq_ofNat_of_zero_le (show 0 ≤ g (k + 1) by simpa using hgk.1)
                have hvn2 : v2 < n := by omega
                rw [hv2] at co2
                obtain ⟨x2, hx2⟩ : ∃ x, l[v2]? = some x := ⟨_, List.getElem?_eq_getElem (by rw [HL.out]; exact hvn2)⟩
                obtain ⟨B', off', hAe, hJ8⟩ := HR.out.1 v2 x2 hx2
                simp only [Option.some.injEq, Addr.mk.injEq, and_true] at hAe
                obtain ⟨rfl, rfl⟩ := hAe
                have hJw := JAt.below hJ8 (hJ8.lt) G.out.1.below
                have c9 := hJw.2.2.1
                obtain ⟨gl, hgl⟩ : ∃ gl, decide (xd < x2.dl) = gl := ⟨_, rfl⟩
                have hla : Hid (lastF (ordS l g) n k = gl) := by
                  show _ = _
                  unfold lastF
                  rw [decide_eq_false hk1, HX.out.1, ordS_at hv2 hx2, Bool.false_or, ← hgl, ← HD.out.2]
                  rfl
                have d6 : decide (x2.dl > xd) = gl := hgl
                clear hp hk1 hkp hgk hv2 hx2 hJ8 hJw
                generalize x2.dl = xd2 at *
                have b7 : ((k + 1 : Nat) : Int) < (n : Int) := by omega
                have b8 : (v2 : Int) < (n : Int) := by omega
                gi_quiet (fail)
                gi_wp2
                gi_meet
                case rel =>
                  rw [hla.out]
                  exact ⟨rfl, rfl, Lib.hid ⟨G.out.1.on (below_dN (Below.refl _ _) _), HJ.out.1 _ _ _ none G.out.2 (grown_of_below (below_dN (Below.refl _ _) _)) (fun r e => by cases e)⟩⟩
            case rest =>
              clear G cbx c2
              obtain ⟨rfl, hz, G⟩ := hcut
              have hz2 := hz.symm
              clear hz
              subst hz2
              have hqo := hqb.out
              have hxo := hxd.out
              obtain ⟨la, hla⟩ : ∃ la, lastF (ordS l g) n k = la := ⟨_, rfl⟩
              have HLA : Hid (lastF (ordS l g) n k = la) := hla
              rw [hla]
              clear hla
              obtain ⟨ge, hge⟩ : ∃ ge, decide (a < xd) = ge := ⟨_, rfl⟩
              have d7 : decide (xd > a) = ge := hge
              have HSD : Hid ((ordS l g k).d = xd) := by show _ = _; rw [HX.out.1, ← HD.out.2]; rfl
              have HGE : Hid (decide (a < xd) = ge) := hge
              have NO : Hid ((la && ge) = false → rowF (ordS l g) n a (k + 1) = rowF (ordS l g) n a k) := fun h => by
                show rowF (ordS l g) n a k ++ itemF (ordS l g) n a k = _
                rw [itemF_no (by rw [HLA.out, HSD.out, HGE.out]; exact h), List.append_nil]
              have YES : Hid ((la && ge) = true → rowF (ordS l g) n a (k + 1) = rowF (ordS l g) n a k ++ [((a, xd), q - (xd - a))]) := fun h => by
                show rowF (ordS l g) n a k ++ itemF (ordS l g) n a k = _
                rw [itemF_yes (by rw [HLA.out, HSD.out, HGE.out]; exact h), HSD.out, HQ.out]
              have bnd : Hid (0 ≤ q ∧ q ≤ 1100 * ((k + 1 : Nat) : Int)) := hqb
              cases la
              · have G5 : Hid (runF a (ordS l g) (k + 1) = q ∧ IvK we Wa Bs Bo Br (.slice (some ⟨B, off, none⟩) n cap) wc ∧ J (allF (ordS l g) n R i ++ rowF (ordS l g) n a (k + 1)) wc) := ⟨HQ.out, G.out.1, by rw [NO.out rfl]; exact G.out.2⟩
                clear G hqo hxo
                gi_wp2
                refine ⟨fun _ h => (by cases h), ?_⟩
                gi_wp2
                go_roundw
                case rel => exact ⟨k + 1, q, by first | rfl | simp, by first | rfl | simp, by omega, bnd.out.1, bnd.out.2, G5⟩
                case measure => simp [intOf]; omega
              · cases ge
                · have G5 : Hid (runF a (ordS l g) (k + 1) = q ∧ IvK we Wa Bs Bo Br (.slice (some ⟨B, off, none⟩) n cap) wc ∧ J (allF (ordS l g) n R i ++ rowF (ordS l g) n a (k + 1)) wc) := ⟨HQ.out, G.out.1, by rw [NO.out rfl]; exact G.out.2⟩
                  clear G hqo hxo
                  gi_wp2
                  refine ⟨fun _ h => (by cases h), ?_⟩
                  gi_wp2
                  go_roundw
                  case rel => exact ⟨k + 1, q, by first | rfl | simp, by first | rfl | simp, by omega, bnd.out.1, bnd.out.2, G5⟩
                  case measure => simp [intOf]; omega
                · have hal := HA.out.2.2
                  obtain ⟨D, hD⟩ : ∃ D, xd - a = D := ⟨_, rfl⟩
                  obtain ⟨E, hE⟩ : ∃ E, q - D = E := ⟨_, rfl⟩
                  have e6 : IntKind.i64.wrap (xd - a) = D := by rw [IntKind.wrap_i64]; omega
                  have e6' : wrap64 (xd - a) = D := by unfold wrap64; omega
                  have e7 : IntKind.i64.wrap (q - D) = E := by rw [IntKind.wrap_i64]; omega
                  have e7' : wrap64 (q - D) = E := by unfold wrap64; omega
                  have Y2 : Hid (rowF (ordS l g) n a (k + 1) = rowF (ordS l g) n a k ++ [((a, xd), E)]) := by show _ = _; rw [YES.out rfl, hD, hE]
                  have hlen : (allF (ordS l g) n R i ++ rowF (ordS l g) n a k).length < 2000 := by
                    rw [List.length_append]
                    have l1 := allF_len (ordS l g) n R i
                    have l2 := rowF_len (ordS l g) n a k
                    have l3 : i * n ≤ 40 * 40 := Nat.mul_le_mul (by omega) hn
                    omega
                  obtain ⟨fn, tmps, assign, body, hy, hRd⟩ := HJ.out.2.2 _ ((a, xd), E) wc G.out.2 hlen
                  dsimp only [encIv] at hy
                  have GK : Hid (IvK we Wa Bs Bo Br (.slice (some ⟨B, off, none⟩) n cap) wc) := G.out.1
                  have HRd := Lib.hid hRd
                  clear G hqo hxo hal hD hE hlen hRd d7
                  have d7 : decide (xd > a) = true := HGE.out
                  gi_wp2
                  refine HRd.out.mono ?_
                  rintro _ W3 (⟨rfl, hJ3, hk3⟩ | ⟨rfl, hJx3⟩)
                  · have G5 : Hid (runF a (ordS l g) (k + 1) = q ∧ IvK we Wa Bs Bo Br (.slice (some ⟨B, off, none⟩) n cap) W3 ∧ J (allF (ordS l g) n R i ++ rowF (ordS l g) n a (k + 1)) W3) := ⟨HQ.out, GK.out.round hk3 K2.out.2.2.2.1 K2.out.1, by rw [Y2.out, ← List.append_assoc]; exact hJ3⟩
                    clear hJ3 hk3 GK HRd hy e6 e6' e7 e7'
                    gi_wp2
                    go_roundw
                    case rel => exact ⟨k + 1, q, by first | rfl | simp, by first | rfl | simp, by omega, bnd.out.1, bnd.out.2, G5⟩
                    case measure => simp [intOf]; omega
                  · have X5 := Lib.hid hJx3
                    clear hJx3 GK HRd hy e6 e6' e7 e7'
                    gi_wp2
                    refine bodyPost_ret (results_none rfl _ _ _) rfl ?_
                    exact ⟨⟨_, rfl⟩, .inr ⟨_, trivial, X5.out⟩⟩
        · have d2 : decide ((k : Int) < (n : Int)) = false := decide_eq_false (by omega)
          obtain rfl : k = n := by omega
          have G2 : Hid (IvK we Wa Bs Bo Br (.slice A k cap) wr ∧ J (allF (ordS l g) k R (i + 1)) wr) := ⟨G.out.2.1, by have := G.out.2.2; rw [← HA.out.1] at this; exact this⟩
          have hi : i < m := HA.out.2.1
          clear G
          gi_wp2
          go_roundw
          case rel => exact ⟨i + 1, by first | rfl | simp, by omega, G2⟩
          case measure => simp [intOf]; omega
    · have d1 : decide ((i : Int) < (m : Int)) = false := decide_eq_false (by omega)
      obtain rfl : i = m := by omega
      gi_wp2
      go_end0
      exact ⟨⟨_, rfl⟩, .inl ⟨_, hfin2.out, K.out.2⟩⟩
end Go.Proofs.YtacffjkhbajgkaaDoor
