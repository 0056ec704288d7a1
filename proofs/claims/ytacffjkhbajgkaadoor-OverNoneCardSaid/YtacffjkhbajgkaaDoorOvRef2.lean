/- The document's own Spans (chapter 18). -/
import Derived.Test.YtacffjkhbajgkaaDoorOvRef1
import Derived.Test.YtacffjkhbajgkaaDoorCelZ
import Derived.Test.YtacffjkhbajgkaaDoorDlMath
import Derived.OwnWalk
import Derived.Laws.OwnMore
import Derived.Maps.AppendAt
import Derived.OneCell
namespace Go.Proofs.YtacffjkhbajgkaaDoor
open Go.RowKit Go.Lib
set_option linter.unusedVariables false
set_option linter.unusedSimpArgs false

theorem own_base {w : World} {b b' : Nat} {e : TypeId} {size n : Nat} {v : Value} {xs : List Value} (h : w.ownsRow b e size v n xs) (hb : b' ≤ b) : w.ownsRow b' e size v n xs :=
  ⟨h.1, h.2.imp id fun ⟨g, cap, cur, a, h0, c⟩ => ⟨g, cap, cur, a, Nat.le_trans hb h0, c⟩⟩
/-- What Spans answers. -/
def spansB (l : List Jb) : List (Int × Int) := if allB l = true then segR (hotW (wds l)) ((endZ l).toNat + 1) else []
theorem spansB_none {l : List Jb} (h : allB l = false) : spansB l = [] := by unfold spansB; rw [if_neg (by rw [h]; exact Bool.false_ne_true)]
theorem Tryd.infoBo : (Tryd.prog.info? 4).map (fun i => (i.zero, i.size, i.bytes)) = some (some (.bool false), 1, 1) := by kernel_rfl
theorem Tryd.infoSpR : (Tryd.prog.info? 41).map (fun i => (i.zero, i.size, i.bytes)) = some (some (.agg #[.int .i64 0, .int .i64 0]), 2, 16) := by kernel_rfl
theorem news_two (w : World) (a b : Int) (e : TypeId) (B : Nat) (hB : w.heap.size = B) : ∀ j u, (cellsT [(a, b)])[j]? = some u → (w.alloc (.cells #[.int .i64 a, .int .i64 b] e)).cell? ((⟨B, 0, none⟩ : Addr).add j) = some u := by
  intro j u hj
  subst hB
  rw [Addr.add_lit]
  match j, hj with
  | 0, hj => simp [cellsT] at hj; subst hj; simp
  | 1, hj => simp [cellsT] at hj; subst hj; simp

theorem CelF.grown {B n : Nat} {f : Nat → Bool} {w w' : World} (h : CelF B n f w) {row : Option Nat} (hg : w.grownBy w' row) (hr : row ≠ some B) : CelF B n f w' :=
  ⟨Nat.lt_of_lt_of_le h.lt hg.size, fun k hk => by rw [World.cell?_of_block (hg.block B h.lt (fun e => hr e.symm))]; exact h.cell k hk, fun k hk => by rw [World.frozen?_of_block (hg.block B h.lt (fun e => hr e.symm))]; exact h.frz k hk⟩
/-- Behind an append of one span. -/
theorem ranS {N M n k : Nat} {h : Nat → Bool} {r : List (Int × Int)} {a b : Int} {w wp w3 : World} {v v' : Value} {e e' : TypeId} (hN : N ≤ M) (bw : Below N w wp) (hc : CelF M n h wp) (ho : wp.ownsRow (M + 1) e 2 v r.length (cellsT r)) (hg : (wp.alloc (.cells #[.int .i64 a, .int .i64 b] e')).grownBy w3 v.ownBlock)
    (hk : k = r.length) (hown : w3.ownsRow (M + 1) e 2 v' (k + 1) (cellsT r ++ cellsT [(a, b)])) : Below N w w3 ∧ CelF M n h w3 ∧ w3.ownsRow (M + 1) e 2 v' (r ++ [(a, b)]).length (cellsT (r ++ [(a, b)])) := by
  have hl := hc.lt
  have bm : Below wp.heap.size wp (wp.alloc (.cells #[.int .i64 a, .int .i64 b] e')) := (Below.refl _ _).alloc (Nat.le_refl _) _
  refine ⟨(bw.trans (bm.mono (Nat.le_of_lt (Nat.lt_of_le_of_lt hN hl)))).grown hg (by simp; omega) (fun j hj => by have := (ho.lt j hj).1; omega), (hc.on bm).grown hg (fun e => by have := (ho.lt _ e).1; omega), ?_⟩
  rw [cellsT_append, List.length_append, List.length_singleton, ← hk]
  exact hown
theorem cellsT_sec {l : List (Int × Int)} {i : Nat} {s : Int × Int} (h : l[i]? = some s) (z : Int) : (cellsT l).set (i * 2 + 1) (.int .i64 z) = cellsT (l.set i (s.1, z)) := by
  rw [← cellsT_set]
  congr 1
  have h1 := (cellsT_get l i s h).1
  apply List.ext_getElem?
  intro j
  rw [List.getElem?_set]
  by_cases c : i * 2 = j
  · subst c
    rw [if_pos rfl, h1, if_pos (List.getElem?_eq_some_iff.1 h1).1]
  · rw [if_neg c]
theorem segR_much {f : Int → Bool} {n N : Nat} (h : f (n : Int) = true) (hN : (segR f n).length = N) (h0 : 0 < N) : ∃ s, (segR f n)[N - 1]? = some s ∧
    segR f (n + 1) = if s.2 = (n : Int) then (segR f n).set (N - 1) (s.1, (n : Int) + 1) else segR f n ++ [((n : Int), (n : Int) + 1)] :=
  segR_more h (by omega)

set_option maxHeartbeats 6400000 in
set_option maxRecDepth 100000 in
theorem rspans_any (A : Option Addr) (cap : Nat) (l : List Jb) (w : World) (hn : l.length ≤ 1000) (hcap : cap ≤ 9223372036854775807) (hlc : l.length ≤ cap) (hs : ∀ x ∈ l, x.name.size ≤ 1000000) (hL : Ltr w) (hR : RdJ w A l) :
    Calls Tryd.prog 14 #[.slice A l.length cap] w (fun e w' => ∃ v, e = .returned v ∧ w'.ownsRow w.heap.size 41 2 v (spansB l).length (cellsT (spansB l)) ∧ Below w.heap.size w w') := by
  obtain ⟨g, hg⟩ : ∃ g, allB l = g := ⟨_, rfl⟩
  have C1 : Hid (Calls Tryd.prog 24 #[.slice A l.length cap] w (RetB (.bool g) w)) := rjall_any A cap l g w (by omega) hcap hlc hs hL hR hg
  cases g
  · rw [spansB_none hg]
    generalize l.length = n at *
    clear hs hL hR hg
    go_enter Tryd.func14, Tryd.ntmps14
    go_wp2_with fail
    refine C1.out.mono ?_; rintro e gw ⟨rfl, gb⟩
    replace gb := Lib.hid gb
    clear C1
    go_wp2
    go_ret
    exact ⟨_, rfl, World.ownsRow_nil _ _ _ _, gb.out⟩
  · obtain ⟨hE0, hE1, hE2⟩ := endZ_all hg
    have hgd := wds_good hg
    obtain ⟨E, hE⟩ := Int.eq_ofNat_of_zero_le hE0
    have hsp : spansB l = segR (hotW (wds l)) (E + 1) := by unfold spansB; rw [if_pos hg, hE, Int.toNat_natCast]
    rw [hE] at hE1 hE2
    have C2 : Hid (∀ w', Below w.heap.size w w' → Calls Tryd.prog 25 #[.slice A l.length cap] w' (RetB (.int .i64 (E : Int)) w')) := fun w' hb => rjend_any A cap l _ w' (by omega) hcap hlc hs (hL.below hb) (hR.below hb) hE
    have C3 : Hid (∀ f t z w', loadW f t (wds l) = z → Below w.heap.size w w' → Calls Tryd.prog 16 #[.slice A l.length cap, .int .i64 f, .int .i64 t] w' (RetB (.int .i64 z) w')) := fun f t z w' hz hb => rload_any A cap l f t z w' hn hcap hlc hs (hL.below hb) (hR.below hb) (by rw [loadB_all hg]; exact hz)
    have hLb := fun a b => loadW_bound l a b
    obtain ⟨n, hl⟩ : ∃ n, l.length = n := ⟨_, rfl⟩
    have HL : Hid ((wds l).length = n) := by show _ = _; rw [wds_len, hl]
    have HG := Lib.hid (And.intro hgd hE2)
    have HB := Lib.hid hLb
    have WA : Hid (∀ (i : Nat) (x : Jb), l[i]? = some x → (wds l)[i]? = some x.wd) := fun i x h => wds_at h
    have H := Lib.hid (And.intro hl hR)
    obtain ⟨r0, hr0⟩ : ∃ r, spansB l = r := ⟨_, rfl⟩
    have Z : Hid (segR (hotW (wds l)) (E + 1) = r0) := by show _ = _; rw [← hsp, hr0]
    rw [hl] at C1 C2 C3 hlc hn ⊢
    rw [hr0]
    generalize wds l = L at *
    obtain ⟨m, hm⟩ : ∃ m, E + 1 = m := ⟨_, rfl⟩
    have e0 : IntKind.i64.wrap ((E : Int) + 1) = (m : Int) := by rw [IntKind.wrap_i64]; omega
    have e0' : wrap64 ((E : Int) + 1) = (m : Int) := by unfold wrap64; omega
    have hmk : ∀ w', (Instr.makeSlice 57 (.int .i64 (m : Int)) (.int .i64 (m : Int))).run Tryd.prog w' = .ok (.slice (some ⟨w'.heap.size, 0, none⟩) m m) (w'.alloc (.cells (madeCells #[.bool false] m) 4)) := fun w' => run_make_row' _ _ _ 1 Tryd.underlying57 Tryd.infoBo (by kernel_rfl) .i64 .i64 m (by omega) (by omega) w'
    obtain ⟨i0, hi0, hz0, hz1, hz2⟩ := info_parts Tryd.infoSpR
    have hm9 : m ≤ 10001 := by omega
    replace hm := Lib.hid hm
    clear hl hs hL hR hg hgd hE hE0 hE1 hE2 hsp hLb hr0
    go_enter Tryd.func14, Tryd.ntmps14
    go_wp2_with fail
    refine C1.out.mono ?_; rintro e gw ⟨rfl, gb⟩
    replace gb := Lib.hid gb
    clear C1
    go_wp2_with fail
    refine (C2.out _ gb.out).mono ?_; rintro e ew ⟨rfl, eb⟩
    replace eb := Lib.hid (below_on gb.out eb)
    clear C2 gb
    have K0 : Hid (CelF ew.heap.size m (fun p => allW L (L.take 0) (p : Int)) (ew.alloc (.cells (madeCells #[.bool false] m) 4))) := (CelF.fresh ew 4 m).to fun p hp => by simp [allW]
    have K1 : Hid (Below w.heap.size w (ew.alloc (.cells (madeCells #[.bool false] m) 4))) := eb.out.alloc eb.out.size _
    have hBw : Hid (w.heap.size ≤ ew.heap.size) := eb.out.size
    go_wp2
    clear hmk e0 e0'
    generalize ew.alloc _ = w2 at K0 K1 ⊢
    generalize hMB : ew.heap.size = M at K0 hBw ⊢
    clear eb hMB
    go_loopw [4] (fun st wr => ∃ (i : Nat), st = .int .i64 (i : Int) ∧ i ≤ n ∧ Hid (Below w.heap.size w wr ∧ CelF M m (fun p => allW L (L.take i) (p : Int)) wr)) (fun st _ => n - (intOf st).toNat)
    case atStart => exact ⟨0, rfl, by omega, Lib.hid ⟨K1.out, K0.out⟩⟩
    case round =>
      clear K0 K1
      obtain ⟨i, rfl, hin, K⟩ := hrel
      rcases Nat.lt_or_ge i n with hlt | hge
      · have d1 : decide ((i : Int) < (n : Int)) = true := decide_eq_true (by omega)
        have e1 : IntKind.i64.wrap ((i : Int) + 1) = ((i + 1 : Nat) : Int) := by rw [IntKind.wrap_i64]; omega
        have b1 : (i : Int) < (n : Int) := by omega
        obtain ⟨x, hx⟩ : ∃ x, l[i]? = some x := ⟨_, List.getElem?_eq_getElem (by rw [H.out.1]; exact hlt)⟩
        have hxw := WA.out i x hx
        have hxg := HG.out.1 _ (List.mem_of_getElem? hxw)
        obtain ⟨fr, hfr⟩ := Int.eq_ofNat_of_zero_le hxg.1
        obtain ⟨X, hX⟩ : ∃ X, x.wd = X := ⟨_, rfl⟩
        rw [hX] at hxw hfr
        have hxr : x.rel = (fr : Int) := by rw [← hfr, ← hX]; rfl
        obtain ⟨Bi, offi, hAi, hJi⟩ := H.out.2 i x hx
        have Ci : Hid (w.cell? ⟨Bi, offi + i * 8 + 1, none⟩ = some (.int .i64 (fr : Int)) ∧ Bi < w.heap.size) := by
          refine ⟨by rw [← hxr]; exact hJi.2.1, hJi.lt⟩
        have HX := Lib.hid (And.intro hxw hfr)
        subst hAi
        clear hx hxg hfr hX hxw hxr hJi
        obtain ⟨wo, hwo⟩ : ∃ v, v = wr := ⟨wr, rfl⟩
        subst hwo
        go_wp2
        go_loopw [5] (fun st wr => ∃ (k : Nat), st = .int .i64 (k : Int) ∧ k ≤ n ∧ Hid (Below w.heap.size w wr ∧ CelF M m (fun p => allW L (L.take i) (p : Int) || rowW L X (L.take k) (p : Int)) wr)) (fun st _ => n - (intOf st).toNat)
        case atStart => exact ⟨0, rfl, by omega, Lib.hid ⟨K.out.1, K.out.2.to fun p hp => by simp [rowW]⟩⟩
        case round =>
          clear K
          obtain ⟨k, rfl, hkn, J⟩ := hrel
          rcases Nat.lt_or_ge k n with hlt2 | hge2
          · have d2 : decide ((k : Int) < (n : Int)) = true := decide_eq_true (by omega)
            have e2 : IntKind.i64.wrap ((k : Int) + 1) = ((k + 1 : Nat) : Int) := by rw [IntKind.wrap_i64]; omega
            have b2 : (k : Int) < (n : Int) := by omega
            obtain ⟨y, hy⟩ : ∃ x, l[k]? = some x := ⟨_, List.getElem?_eq_getElem (by rw [H.out.1]; exact hlt2)⟩
            have hyw := WA.out k y hy
            have hyg := HG.out.1 _ (List.mem_of_getElem? hyw)
            have hyE := HG.out.2 _ (List.mem_of_getElem? hyw)
            obtain ⟨td, htd⟩ := Int.eq_ofNat_of_zero_le (show 0 ≤ y.wd.d by omega)
            obtain ⟨Y, hY⟩ : ∃ Y, y.wd = Y := ⟨_, rfl⟩
            rw [hY] at hyw htd hyE
            have hyd : y.dl = (td : Int) := by rw [← htd, ← hY]; rfl
            obtain ⟨Bk, offk, hAk, hJk⟩ := H.out.2 k y hy
            simp only [Option.some.injEq, Addr.mk.injEq, and_true] at hAk
            obtain ⟨rfl, rfl⟩ := hAk
            have c1 : wr.cell? ⟨Bi, offi + i * 8 + 1, none⟩ = some (.int .i64 (fr : Int)) := by rw [J.out.1.cell (p := ⟨Bi, offi + i * 8 + 1, none⟩) Ci.out.2]; exact Ci.out.1
            have c2 : wr.cell? ⟨Bi, offi + k * 8 + 2, none⟩ = some (.int .i64 (td : Int)) := by rw [J.out.1.cell (p := ⟨Bi, offi + k * 8 + 2, none⟩) Ci.out.2, ← hyd]; exact hJk.2.2.1
            have htE : td < m := by have := hm.out; omega
            have HF : Hid (fr ≤ 10000) := by
              have := HG.out.1 X (List.mem_of_getElem? HX.out.1)
              have := HX.out.2
              show _ ≤ _
              omega
            have hN : Hid (∀ p : Int, rowW L X (L.take (k + 1)) p = (rowW L X (L.take k) p || pairW L X Y p)) := fun p => rowW_next hyw p
            have hM : Hid (muchW L X Y = (decide ((fr : Int) < (td : Int)) && decide ((td : Int) - (fr : Int) < loadW (fr : Int) (td : Int) L))) := by
              show _ = _; unfold muchW; rw [HX.out.2, htd]
            have hP : Hid (∀ p : Int, muchW L X Y = true → pairW L X Y p = (decide ((fr : Int) ≤ p) && decide (p < (td : Int)))) := fun p h => by rw [pairW_yes h, HX.out.2, htd]
            clear hy hyw hyg htd hY hyd hJk hyE
            by_cases h1 : fr < td
            · have d3 : decide ((fr : Int) < (td : Int)) = true := decide_eq_true (by omega)
              obtain ⟨z, hz⟩ : ∃ z, loadW (fr : Int) (td : Int) L = z := ⟨_, rfl⟩
              have hzb := HB.out (fr : Int) (td : Int)
              rw [hz] at hzb
              have HM2 : Hid (muchW L X Y = decide ((td : Int) - (fr : Int) < z)) := by show _ = _; rw [hM.out, d3, hz, Bool.true_and]
              obtain ⟨D, hD⟩ : ∃ D, (td : Int) - (fr : Int) = D := ⟨_, rfl⟩
              rw [hD] at HM2
              have hFo := HF.out
              have e3 : IntKind.i64.wrap ((td : Int) - (fr : Int)) = D := by rw [IntKind.wrap_i64]; omega
              have e3' : wrap64 ((td : Int) - (fr : Int)) = D := by unfold wrap64; omega
              replace e3 := Lib.hid e3
              replace e3' := Lib.hid e3'
              have C4 : Hid (∀ w', Below w.heap.size w w' → Calls Tryd.prog 16 #[.slice (some ⟨Bi, offi, none⟩) n cap, .int .i64 (fr : Int), .int .i64 (td : Int)] w' (RetB (.int .i64 z) w')) := fun w' hb => C3.out _ _ z w' hz hb
              replace hD := Lib.hid hD
              clear hM hz hzb hFo
              go_wp2
              go_quiet (fail)
              obtain ⟨p1, hp1⟩ : ∃ v, v = nq := ⟨nq, rfl⟩
              subst hp1
              have J1 : Hid (Below w.heap.size w (wr.drewN p1) ∧ CelF M m (fun p => allW L (L.take i) (p : Int) || rowW L X (L.take k) (p : Int)) (wr.drewN p1)) := ⟨below_dN J.out.1 p1, J.out.2.on (below_dN (Below.refl _ _) p1)⟩
              generalize wr.drewN p1 = w1 at *
              clear J c1 c2
              replace e3 := e3.out
              replace e3' := e3'.out
              go_wp2_with fail
              refine (C4.out _ J1.out.1).mono ?_; rintro e w3 ⟨rfl, hb⟩
              have J3 : Hid (Below w.heap.size w w3 ∧ CelF M m (fun p => allW L (L.take i) (p : Int) || rowW L X (L.take k) (p : Int)) w3) := ⟨below_on J1.out.1 hb, J1.out.2.on hb⟩
              clear J1 hb C4
              by_cases h2 : z > D
              · have d4 : decide (z > D) = true := decide_eq_true h2
                have hmu : Hid (muchW L X Y = true) := by show _ = _; rw [HM2.out]; exact decide_eq_true (by omega)
                clear HM2 h2
                go_wp2
                clear e3 e3' d4
                go_loopw [8] (fun st wr => ∃ (q : Nat), st = .int .i64 (q : Int) ∧ fr ≤ q ∧ q ≤ td ∧ Hid (Below w.heap.size w wr ∧ CelF M m (fun p => (allW L (L.take i) (p : Int) || rowW L X (L.take k) (p : Int)) || (decide (fr ≤ p) && decide (p < q))) wr)) (fun st _ => td - (intOf st).toNat)
                case atStart => exact ⟨fr, rfl, by omega, by omega, Lib.hid ⟨J3.out.1, J3.out.2.to fun p hp => by
                  have : (decide (fr ≤ p) && decide (p < fr)) = false := by rw [← Bool.decide_and]; exact decide_eq_false (by omega)
                  rw [this, Bool.or_false]⟩⟩
                case round =>
                  clear J3
                  obtain ⟨q, rfl, hq1, hq2, G⟩ := hrel
                  rcases Nat.lt_or_ge q td with hlt3 | hge3
                  · have d5 : decide ((q : Int) < (td : Int)) = true := decide_eq_true (by omega)
                    have e5 : IntKind.i64.wrap ((q : Int) + 1) = ((q + 1 : Nat) : Int) := by rw [IntKind.wrap_i64]; omega
                    have b5 : (q : Int) < (m : Int) := by omega
                    have hqm : q < m := by omega
                    have g0 := G.out.2.cell q hqm
                    have g1 := G.out.2.frz q hqm
                    have G2 : Hid (Below w.heap.size w (wr.setCell ⟨M, q, none⟩ (.bool true)) ∧ CelF M m (fun p => (allW L (L.take i) (p : Int) || rowW L X (L.take k) (p : Int)) || (decide (fr ≤ p) && decide (p < q + 1))) (wr.setCell ⟨M, q, none⟩ (.bool true))) := by
                      refine ⟨G.out.1.setCell hBw.out _, (G.out.2.store hqm true).to fun p hp => ?_⟩
                      by_cases c : p = q
                      · subst c; rw [if_pos rfl, decide_eq_true hq1, decide_eq_true (show p < p + 1 by omega)]; simp
                      · rw [if_neg c]
                        congr 2
                        rw [decide_eq_decide]; omega
                    clear G
                    go_wp2
                    go_roundw
                    case rel => exact ⟨q + 1, by first | rfl | simp, by omega, by omega, G2⟩
                    case measure => simp [intOf]; omega
                  · have d5 : decide ((q : Int) < (td : Int)) = false := decide_eq_false (by omega)
                    obtain rfl : q = td := by omega
                    have G2 : Hid (Below w.heap.size w wr ∧ CelF M m (fun p => allW L (L.take i) (p : Int) || rowW L X (L.take (k + 1)) (p : Int)) wr) := by
                      refine ⟨G.out.1, G.out.2.to fun p hp => ?_⟩
                      rw [hN.out, hP.out _ hmu.out, ← Bool.or_assoc]
                      congr 2 <;> rw [decide_eq_decide] <;> omega
                    clear G
                    go_wp2
                    go_roundw
                    case rel => exact ⟨k + 1, by first | rfl | simp, by omega, G2⟩
                    case measure => simp [intOf]; omega
              · have d4 : decide (z > D) = false := decide_eq_false h2
                have G2 : Hid (Below w.heap.size w w3 ∧ CelF M m (fun p => allW L (L.take i) (p : Int) || rowW L X (L.take (k + 1)) (p : Int)) w3) := by
                  refine ⟨J3.out.1, J3.out.2.to fun p hp => ?_⟩
                  rw [hN.out, pairW_no (by rw [HM2.out]; exact decide_eq_false (by omega)), Bool.or_false]
                clear J3 h2
                go_wp2
                go_roundw
                case rel => exact ⟨k + 1, by first | rfl | simp, by clear e3 e3'; omega, G2⟩
                case measure => simp [intOf]; clear e3 e3'; omega
            · have d3 : decide ((fr : Int) < (td : Int)) = false := decide_eq_false (by omega)
              have G2 : Hid (Below w.heap.size w wr ∧ CelF M m (fun p => allW L (L.take i) (p : Int) || rowW L X (L.take (k + 1)) (p : Int)) wr) := by
                refine ⟨J.out.1, J.out.2.to fun p hp => ?_⟩
                rw [hN.out, pairW_no (by rw [hM.out, d3, Bool.false_and]), Bool.or_false]
              clear J hM
              go_wp2
              go_quiet (fail)
              obtain ⟨p1, hp1⟩ : ∃ v, v = nq := ⟨nq, rfl⟩
              subst hp1
              have G3 : Hid (Below w.heap.size w (wr.drewN p1) ∧ CelF M m (fun p => allW L (L.take i) (p : Int) || rowW L X (L.take (k + 1)) (p : Int)) (wr.drewN p1)) := ⟨below_dN G2.out.1 p1, G2.out.2.on (below_dN (Below.refl _ _) p1)⟩
              generalize wr.drewN p1 = w1 at *
              clear G2 c1 c2
              go_wp2
              go_roundw
              case rel => exact ⟨k + 1, by first | rfl | simp, by omega, G3⟩
              case measure => simp [intOf]; omega
          · have d2 : decide ((k : Int) < (n : Int)) = false := decide_eq_false (by omega)
            obtain rfl : k = n := by omega
            have K2 : Hid (Below w.heap.size w wr ∧ CelF M m (fun p => allW L (L.take (i + 1)) (p : Int)) wr) := by
              refine ⟨J.out.1, J.out.2.to fun p hp => ?_⟩
              rw [allW_next HX.out.1, List.take_of_length_le (l := L) (i := k) (by rw [HL.out]; exact Nat.le_refl _)]
            clear J
            go_wp2
            go_roundw
            case rel => exact ⟨i + 1, by first | rfl | simp, by omega, K2⟩
            case measure => simp [intOf]; omega
      · have d1 : decide ((i : Int) < (n : Int)) = false := decide_eq_false (by omega)
        obtain rfl : i = n := by omega
        have K2 : Hid (Below w.heap.size w wr ∧ CelF M m (fun p => hotW L (p : Int)) wr) := by
          refine ⟨K.out.1, K.out.2.to fun p hp => ?_⟩
          rw [List.take_of_length_le (l := L) (i := i) (by rw [HL.out]; exact Nat.le_refl _), allW_hot]
        clear K WA HG HB HL C3
        generalize hotW L = h at *
        go_wp2
        go_loopw [9, 10] (fun s9 st wr => ∃ (t : Nat), st = .int .i64 (t : Int) ∧ t ≤ m ∧ Hid (Below w.heap.size w wr ∧ CelF M m (fun p => h (p : Int)) wr ∧ wr.ownsRow (M + 1) 41 2 s9 (segR h t).length (cellsT (segR h t)))) (fun _ st _ => m - (intOf st).toNat)
        case atStart => exact ⟨0, rfl, by omega, Lib.hid ⟨K2.out.1, K2.out.2, World.ownsRow_nil _ _ _ _⟩⟩
        case round =>
          clear K2
          obtain ⟨t, rfl, htm, K⟩ := hrel
          have hsz : Hid (M + 1 ≤ wr.heap.size) := K.out.2.1.lt
          rcases Nat.lt_or_ge t m with hlt | hge
          · have d1 : decide ((t : Int) < (m : Int)) = true := decide_eq_true (by omega)
            have e1 : IntKind.i64.wrap ((t : Int) + 1) = ((t + 1 : Nat) : Int) := by rw [IntKind.wrap_i64]; omega
            have e1' : wrap64 ((t : Int) + 1) = ((t + 1 : Nat) : Int) := by unfold wrap64; omega
            have b1 : (t : Int) < (m : Int) := by omega
            have g0 := K.out.2.1.cell t hlt
            have hlen := segR_len h t
            obtain ⟨Ar, cr, rfl⟩ := own_any K.out.2.2
            by_cases ht : h (t : Int) = true
            · rw [ht] at g0
              obtain ⟨N, hN⟩ : ∃ N, (segR h t).length = N := ⟨_, rfl⟩
              rw [hN] at hlen
              rcases Nat.eq_zero_or_pos N with h0 | h0
              · subst h0
                have hnil := List.eq_nil_of_length_eq_zero hN
                have hnx := segR_nil ht hnil
                have KO : Hid (wr.ownsRow (M + 1) 41 2 (.slice Ar 0 cr) 0 (cellsT [])) := by have := K.out.2.2; rw [hN, hnil] at this; exact this
                have Kb := Lib.hid (And.intro K.out.1 K.out.2.1)
                have hnx2 : Hid (segR h (t + 1) = [((t : Int), ((t + 1 : Nat) : Int))]) := by show _ = _; rw [hnx]; rfl
                rw [hN]
                clear K hnx hnil hN ht hlen
                go_wp2_with (at_builtin; refine wpList_append_own_at _ rfl (.tmp 95) (.tmp 100) 39 rfl (M + 1) 41 i0 (.agg #[.int .i64 0, .int .i64 0]) 2 16 Tryd.underlying39 hi0 hz0 hz1 hz2 rfl (by decide) _ _ _ rfl (KO.out.alloc _) ⟨wr.heap.size, 0, none⟩ 1 1 (cellsT [((t : Int), ((t + 1 : Nat) : Int))]) rfl rfl (news_two _ _ _ _ _ rfl) (cellsT_ones _) (by unfold maxLen; omega) (by omega) (by have := hsz.out; simp; omega) ?_)
                intro v' w3 hown' hgrow' hnil' hloc
                have K9 : Hid (Below w.heap.size w w3 ∧ CelF M m (fun p => h (p : Int)) w3 ∧ w3.ownsRow (M + 1) 41 2 v' (segR h (t + 1)).length (cellsT (segR h (t + 1)))) := by
                  have := ranS (r := []) hBw.out Kb.out.1 Kb.out.2 KO.out hgrow' rfl hown'
                  rw [hnx2.out]
                  exact this
                clear hown' hgrow' hnil' hloc KO Kb hnx2
                go_wp2
                go_roundw
                case rel => exact ⟨t + 1, by first | rfl | simp, by omega, K9⟩
                case measure => simp [intOf]; omega
              · obtain ⟨⟨s1, s2⟩, hs, hnx⟩ := segR_much ht hN h0
                have KO : Hid (wr.ownsRow (M + 1) 41 2 (.slice Ar N cr) N (cellsT (segR h t))) := by have := K.out.2.2; rw [hN] at this; exact this
                have Kb := Lib.hid (And.intro K.out.1 K.out.2.1)
                have d3 : decide ((N : Int) > 0) = true := decide_eq_true (by omega)
                have d3' : decide (0 < (N : Int)) = true := d3
                have b3 : (0 : Int) < (N : Int) := by omega
                have hcs := (cellsT_get _ _ _ hs).2
                simp only at hcs hnx
                rcases KO.out.2 with ⟨hbad, hb0⟩ | ⟨gb, cap', cur, hv, hgb, hgh, hgc, hgm, hgs⟩
                · omega
                simp only [Value.slice.injEq] at hv
                obtain ⟨rfl, _, rfl⟩ := hv
                have lt1 : (N - 1) * 2 + 1 < N * 2 := by omega
                have g2 : wr.cell? ⟨gb, (N - 1) * 2 + 1, none⟩ = some (.int .i64 s2) := by rw [KO.out.cellAt _ lt1]; exact hcs
                have g3 : wr.frozen? ⟨gb, (N - 1) * 2 + 1, none⟩ = false := KO.out.frozenAt _
                rw [hN]
                have hNr := Lib.hid hN
                have hsr := Lib.hid hs
                have hMg : Hid (M < gb) := hgb
                clear K ht hs hcs hgb hgh hgc hgm hgs hN cur
                by_cases h2 : s2 = (t : Int)
                · rw [if_pos h2] at hnx
                  have d4 : (s2 == (t : Int)) = true := by simp [h2]
                  have K9 : Hid (Below w.heap.size w (wr.setCell ⟨gb, (N - 1) * 2 + 1, none⟩ (.int .i64 ((t + 1 : Nat) : Int))) ∧ CelF M m (fun p => h (p : Int)) (wr.setCell ⟨gb, (N - 1) * 2 + 1, none⟩ (.int .i64 ((t + 1 : Nat) : Int))) ∧ (wr.setCell ⟨gb, (N - 1) * 2 + 1, none⟩ (.int .i64 ((t + 1 : Nat) : Int))).ownsRow (M + 1) 41 2 (.slice (some ⟨gb, 0, none⟩) N cr) (segR h (t + 1)).length (cellsT (segR h (t + 1)))) := by
                    refine ⟨Kb.out.1.setCell (by have := hBw.out; have := hMg.out; show _ ≤ gb; omega) _, Kb.out.2.other (by have := hMg.out; omega) _, ?_⟩
                    have := (KO.out.stored ((N - 1) * 2 + 1) (.int .i64 ((t + 1 : Nat) : Int))).1
                    rw [cellsT_sec hsr.out] at this
                    rw [hnx, List.length_set, hNr.out]
                    exact this
                  clear KO Kb hnx h2
                  go_wp2
                  go_roundw
                  case rel => exact ⟨t + 1, by first | rfl | simp, by omega, K9⟩
                  case measure => simp [intOf]; omega
                · rw [if_neg h2] at hnx
                  have d4 : (s2 == (t : Int)) = false := by simp [h2]
                  have hnx2 : Hid (segR h (t + 1) = segR h t ++ [((t : Int), ((t + 1 : Nat) : Int))]) := by show _ = _; rw [hnx]; rfl
                  clear hnx h2
                  go_wp2_with (at_builtin; refine wpList_append_own_at _ rfl (.tmp 95) (.tmp 100) 39 rfl (M + 1) 41 i0 (.agg #[.int .i64 0, .int .i64 0]) 2 16 Tryd.underlying39 hi0 hz0 hz1 hz2 rfl (by decide) _ _ _ rfl (KO.out.alloc _) ⟨wr.heap.size, 0, none⟩ 1 1 (cellsT [((t : Int), ((t + 1 : Nat) : Int))]) rfl rfl (news_two _ _ _ _ _ rfl) (cellsT_ones _) (by unfold maxLen; omega) (by omega) (by have := hsz.out; simp; omega) ?_)
                  intro v' w3 hown' hgrow' hnil' hloc
                  have K9 : Hid (Below w.heap.size w w3 ∧ CelF M m (fun p => h (p : Int)) w3 ∧ w3.ownsRow (M + 1) 41 2 v' (segR h (t + 1)).length (cellsT (segR h (t + 1)))) := by
                    have := ranS hBw.out Kb.out.1 Kb.out.2 (by rw [hNr.out]; exact KO.out) hgrow' hNr.out.symm hown'
                    rw [hnx2.out]
                    exact this
                  clear hown' hgrow' hnil' hloc KO Kb hnx2 g2 g3
                  go_wp2
                  go_roundw
                  case rel => exact ⟨t + 1, by first | rfl | simp, by omega, K9⟩
                  case measure => simp [intOf]; omega
            · have ht2 := Bool.eq_false_iff.2 ht
              rw [ht2] at g0
              have hnx : Hid (segR h (t + 1) = segR h t) := segR_no ht2
              have K9 : Hid (Below w.heap.size w wr ∧ CelF M m (fun p => h (p : Int)) wr ∧ wr.ownsRow (M + 1) 41 2 (.slice Ar (segR h t).length cr) (segR h (t + 1)).length (cellsT (segR h (t + 1)))) := by
                show _ ∧ _ ∧ _
                rw [hnx.out]; exact K.out
              clear K hnx ht ht2 hlen
              go_wp2
              go_roundw
              case rel => exact ⟨t + 1, by first | rfl | simp, by omega, K9⟩
              case measure => simp [intOf]; omega
          · have d1 : decide ((t : Int) < (m : Int)) = false := decide_eq_false (by omega)
            obtain rfl : t = m := by omega
            have K9 : Hid (wr.ownsRow w.heap.size 41 2 u9 r0.length (cellsT r0) ∧ Below w.heap.size w wr) := by
              refine ⟨?_, K.out.1⟩
              have := K.out.2.2
              rw [← hm.out, Z.out] at this
              exact own_base this (by have := hBw.out; omega)
            clear K
            go_wp2
            go_ret
            exact ⟨_, rfl, K9.out.1, K9.out.2⟩
end Go.Proofs.YtacffjkhbajgkaaDoor
