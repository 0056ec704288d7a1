/- ElasticBest: no other shares cost less, but for what was lost by rounding. -/
import Derived.Test.YtkjgpidiompmlaaElAwake
import Derived.Test.YtkjgpidiompmlaaRowZ
namespace Go.Proofs.Ytkjgpidiompmlaa
open Go.RowKit
open Go.Lib hiding intOf
set_option linter.unusedVariables false
set_option linter.unusedSimpArgs false

theorem cellsZ_get {l : List Int} {k : Nat} (h : k < l.length) : (cellsZ l)[k]? = some (.int .i64 (l.getD k 0)) := by
  unfold cellsZ
  rw [List.getElem?_map, List.getD, List.getElem?_eq_getElem h]
  rfl
theorem cellsZ_ones (l : List Int) : ∀ u ∈ cellsZ l, u.oneCell' = true := by
  intro u hu
  obtain ⟨k, _, rfl⟩ := List.mem_map.1 hu
  rfl
theorem readsZ_src {w : World} {b off : Nat} {l : List Int} (h : ReadsI w (some ⟨b, off, none⟩) l) : ∀ j u, (cellsZ l)[j]? = some u → w.cell? ⟨b, off + j, none⟩ = some u := by
  intro j u hu
  have hj := (List.getElem?_eq_some_iff.1 hu).1
  have hj2 : j < l.length := by simpa [cellsZ] using hj
  rw [cellsZ_get hj2] at hu
  injection hu with hu
  obtain ⟨b', off', he, c⟩ := h j hj2
  cases he
  rw [c, hu]
theorem CelZ.of_own {w : World} {base n : Nat} {e : TypeId} {v : Value} {l : List Int} (h : w.ownsRow base e 1 v n (cellsZ l)) (h0 : 0 < n) :
    ∃ g c, v = .slice (some ⟨g, 0, none⟩) n c ∧ base ≤ g ∧ n ≤ c ∧ c ≤ 9223372036854775807 ∧ CelZ g n (fun k => l.getD k 0) w := by
  have hn : n = l.length := by have := h.1; simp [cellsZ] at this; omega
  rcases h.2 with ⟨rfl, h1⟩ | ⟨g, cap, cur, rfl, hb, hh, h1, h2, h3, h4⟩
  · omega
  · refine ⟨g, cap, rfl, hb, h1, by unfold maxLen at h2; omega, (Array.getElem?_eq_some_iff.1 hh).1, fun j hj => ?_, fun i hi => by simp [World.frozen?, hh]⟩
    rw [h.cellAt _ (by omega)]
    exact cellsZ_get (by omega)
theorem Try.infoN2 : (Try.prog.info? 2).map (fun i => (i.zero, i.size, i.bytes)) = some (some (.int .i64 0), 1, 8) := by kernel_rfl
theorem mod_at {at_ : Int} {n : Nat} (h0 : 0 ≤ at_) (hn : 0 < n) : ∃ k : Nat, k < n ∧ at_ % (n : Int) = (k : Int) ∧ at_.tmod (n : Int) = (k : Int) := by
  obtain ⟨q, rfl⟩ := Int.eq_ofNat_of_zero_le h0
  refine ⟨q % n, Nat.mod_lt _ hn, by simp, ?_⟩
  rw [Int.tmod_eq_emod_of_nonneg (by omega)]; simp
theorem wrapI {x y : Int} (e : x = y) (h0 : -9223372036854775808 ≤ y) (h1 : y ≤ 9223372036854775807) : IntKind.i64.wrap x = y ∧ wrap64 x = y := by
  subst e
  constructor
  · rw [IntKind.wrap_i64]; omega
  · unfold wrap64; omega
theorem small_add {a b c : Int} (e : a + b = c) (ha : 0 ≤ a ∧ a ≤ 67110000) (hb : 1 ≤ b ∧ b ≤ 1000) : IntKind.i64.wrap (a + b) = c ∧ wrap64 (a + b) = c := wrapI e (by omega) (by omega)
theorem small_sub {a b c : Int} (e : a - b = c) (ha : 0 ≤ a ∧ a ≤ 67110000) (hb : 1 ≤ b ∧ b ≤ 1000) : IntKind.i64.wrap (a - b) = c ∧ wrap64 (a - b) = c := wrapI e (by omega) (by omega)
theorem sq_bound {d s : Int} (h0 : 0 ≤ d) (h1 : d ≤ 67108864) (s0 : 0 ≤ s) (s1 : s ≤ 1000) : 0 ≤ d * d ∧ d * d ≤ 4503599627370496 ∧ 0 ≤ d * d * s ∧ d * d * s ≤ 4503599627370496000 := by
  have a0 : 0 ≤ d * d := Int.mul_nonneg h0 h0
  have a1 : d * d ≤ 67108864 * 67108864 := Int.mul_le_mul h1 h1 h0 (by omega)
  have b0 : 0 ≤ d * d * s := Int.mul_nonneg a0 s0
  have b1 : d * d * s ≤ 4503599627370496 * 1000 := Int.mul_le_mul (by omega) s1 s0 (by omega)
  exact ⟨a0, by omega, b0, by omega⟩
set_option maxHeartbeats 12800000 in
set_option maxRecDepth 100000 in
theorem ElasticBest_ret (A : Option Addr) (cap : Nat) (l : List Sp) (room ai ak by_ : Int) (w : World) (hlc : l.length ≤ cap) (hcap : cap ≤ 9223372036854775807) (hR : RdSp w A l) (hr : fitB room = true) (hai : fitB ai = true) (hak : fitB ak = true) (hby : fitB by_ = true) :
    Calls Try.prog 6 #[.slice A l.length cap, .int .i64 room, .int .i64 ai, .int .i64 ak, .int .i64 by_] w (RetB (.bool true) w) := by
  obtain ⟨i0, hi0, hz0, hz1, hz2⟩ := info_parts Try.infoN2
  have A0 := Lib.hid awake13_any
  obtain ⟨n, hn⟩ : ∃ n, l.length = n := ⟨_, rfl⟩
  by_cases hgo : 2 ≤ n ∧ n ≤ 8 ∧ 0 ≤ ai ∧ 0 ≤ ak ∧ 1 ≤ by_ ∧ by_ ≤ 1000
  · obtain ⟨g1, g2, g3, g4, g5, g6⟩ := hgo
    have t1 : decide ((n : Int) < 2) = false := decide_eq_false (by omega)
    have t2 : decide ((n : Int) > 8) = false := decide_eq_false (by omega)
    have t3 : decide (ai < 0) = false := decide_eq_false (by omega)
    have t4 : decide (ak < 0) = false := decide_eq_false (by omega)
    have t5 : decide (by_ < 1) = false := decide_eq_false (by omega)
    have t6 : decide (by_ > 1000) = false := decide_eq_false (by omega)
    obtain ⟨e, xs, h⟩ := PressR.exists_ room l
    have C1 := Lib.hid (fun w' (hb : Below w.heap.size w w') => epress_b A cap l room e xs w' hcap hlc (hR.below hb) hr h)
    have L1 := h.len
    have H := Lib.hid (And.intro hn (And.intro hR h))
    rw [hn] at C1 L1 hlc ⊢
    clear hR h hn hr hai hak hby
    go_enter Try.func6, Try.ntmps6
    go_wp2_with fail
    refine (A0.out _).mono ?_; rintro e aw ⟨rfl, a⟩
    have ga := Lib.hid a
    clear A0 a
    go_wp2_with fail
    refine (C1.out _ ga.out).mono ?_; rintro z bw ⟨X, xc, rfl, hx1, hx2, hx3, b⟩
    have gb : Hid (Below w.heap.size w bw) := below_on ga.out b
    have hX : Hid (ReadsI bw X xs) := hx3
    clear C1 b ga t1 t2 t3 t4 t5 t6 hx3
    by_cases he : e = 0
    · subst he
      have l1 := L1.1 rfl
      have hgood : Hid (∀ s ∈ l, s.good = true) := by
        rcases H.out.2.2.cases_ with ⟨h1, _⟩ | ⟨h1, _⟩ | ⟨_, hg, _, _⟩
        · omega
        · omega
        · exact (springs_iff.1 (Bool.and_eq_true_iff.1 hg).1).2
      have k1 : ((n : Int) != (n : Int)) = false := by simp
      have LX := Lib.hid l1
      rw [l1] at hx1 ⊢
      clear L1 l1
      obtain ⟨ia, hia, ea1, ea2⟩ := mod_at (n := n) g3 (by omega)
      obtain ⟨ib, hib, eb1, eb2⟩ := mod_at (n := n) g4 (by omega)
      have n0 : ¬ (n : Int) = 0 := by omega
      have n0' : ((n : Int) == 0) = false := beq_eq_false_iff_ne.2 n0
      have ea3 : wrap64 (ia : Int) = (ia : Int) := by unfold wrap64; clear ea1 ea2 eb1 eb2; omega
      have eb3 : wrap64 (ib : Int) = (ib : Int) := by unfold wrap64; clear ea1 ea2 eb1 eb2; omega
      obtain ⟨sa, hsa⟩ : ∃ x, l[ia]? = some x := ⟨_, List.getElem?_eq_getElem (by rw [H.out.1]; exact hia)⟩
      obtain ⟨sb, hsb⟩ : ∃ x, l[ib]? = some x := ⟨_, List.getElem?_eq_getElem (by rw [H.out.1]; exact hib)⟩
      obtain ⟨xa, hxa⟩ : ∃ x, xs[ia]? = some x := ⟨_, List.getElem?_eq_getElem (by rw [LX.out]; exact hia)⟩
      obtain ⟨xb, hxb⟩ : ∃ x, xs[ib]? = some x := ⟨_, List.getElem?_eq_getElem (by rw [LX.out]; exact hib)⟩
      obtain ⟨XB, xo, rfl, _⟩ := hX.out ia (by rw [LX.out]; exact hia)
      obtain ⟨B, off, rfl, _⟩ := H.out.2.1 ia sa hsa
      go_wp2
      clear k1
      generalize hbw : bw = bq
      go_quiet (fail)
      obtain ⟨w5, hw5⟩ : ∃ v, bq.drewN nq = v := ⟨_, rfl⟩
      rw [hw5]
      have hb5 : Hid (Below w.heap.size w w5) := by rw [← hw5, ← hbw]; exact below_dN gb.out _
      have hX5 : Hid (ReadsI w5 (some ⟨XB, xo, none⟩) xs) := by rw [← hw5, ← hbw]; exact hX.out.drewN _
      have bm : Below w5.heap.size w5 (w5.alloc (.cells #[] 2)) := (Below.refl _ _).alloc (Nat.le_refl _) _
      have S6 := Lib.hid (readsZ_src (hX5.out.on bm))
      have hcl : Hid ((cellsZ xs).length = n * 1) := by show _ = _; rw [show (cellsZ xs).length = xs.length by simp [cellsZ], LX.out]; omega
      have hsw : Hid (w.heap.size ≤ w5.heap.size) := hb5.out.size
      have hXl : Hid (XB < w5.heap.size) := by
        obtain ⟨b', o', he, c⟩ := hX5.out ia (by rw [LX.out]; exact hia)
        cases he
        exact cell_lt c
      clear bm hX gb ea1 ea2 eb1 eb2 hbw hw5
      go_wp2_with (at_builtin; refine wpList_append_own _ rfl _ _ 23 rfl w5.heap.size 2 i0 (.int .i64 0) 1 8 Try.underlying23 hi0 hz0 hz1 hz2 rfl (by decide) _ _ _ rfl (World.ownsRow_made w5 #[] 0 (Nat.le_refl _) (Nat.zero_le _) (by simp)) ⟨XB, xo, none⟩ n xc (cellsZ xs) rfl hcl.out (fun q u hq => by rw [Addr.add_lit]; exact S6.out q u hq) (cellsZ_ones _) (by unfold maxLen; omega) (by omega) (by simp) ?_)
      intro v' w6 hown hgrow hnil
      have b6 : Below w5.heap.size w5 w6 := ((Below.refl _ w5).alloc (Nat.le_refl _) _).grown hgrow (by simp) (by intro q hq; simp [Value.ownBlock] at hq; omega)
      obtain ⟨G, cG, rfl, j1, j2, j3, O⟩ := CelZ.of_own (w := w6) (base := w5.heap.size) (n := n) (l := xs) (by simpa using hown) (by omega)
      clear hown hgrow hnil S6 hcl
      -- the shares in their ranges
      have hxr := H.out.2.2.len.2.2.2
      have xa1 := hxr xa (List.mem_of_getElem? hxa)
      have xb1 := hxr xb (List.mem_of_getElem? hxb)
      have sa1 := sp_iff.1 (hgood.out sa (List.mem_of_getElem? hsa))
      have sb1 := sp_iff.1 (hgood.out sb (List.mem_of_getElem? hsb))
      have hxa' : xs.getD ia 0 = xa := by rw [List.getD, hxa]; rfl
      have hxb' : xs.getD ib 0 = xb := by rw [List.getD, hxb]; rfl
      obtain ⟨ya, hya⟩ : ∃ z, xa + by_ = z := ⟨_, rfl⟩
      have wya := small_add hya ⟨xa1.1, Int.le_trans xa1.2 (by decide)⟩ ⟨g5, g6⟩
      have f1 := O.cell ia hia
      have f2 := O.frz ia hia
      rw [hxa'] at f1
      have O7 := O.store hia ya
      have b7 : Below w5.heap.size w5 (w6.setCell ⟨G, ia, none⟩ (.int .i64 ya)) := b6.setCell j1 _
      have g1' := O7.cell ib hib
      have g2' := O7.frz ib hib
      obtain ⟨yb0, hyb0⟩ : ∃ z, (if ib = ia then ya else xs.getD ib 0) = z := ⟨_, rfl⟩
      rw [hyb0] at g1'
      obtain ⟨yb, hyb⟩ : ∃ z, yb0 - by_ = z := ⟨_, rfl⟩
      have hyb1 : yb0 = (if ib = ia then ya else xb) := by rw [← hyb0, hxb']
      have hy0b : 0 ≤ yb0 ∧ yb0 ≤ 67110000 := by
        rw [hyb1]
        clear hcap hlc hx1 hx2 j1 j2 j3
        split
        · omega
        · omega
      have wyb := small_sub hyb hy0b ⟨g5, g6⟩
      have O8 := O7.store hib yb
      have b8 : Below w5.heap.size w5 ((w6.setCell ⟨G, ia, none⟩ (.int .i64 ya)).setCell ⟨G, ib, none⟩ (.int .i64 yb)) := b7.setCell j1 _
      have qa : (ia : Int) < (n : Int) := Int.ofNat_lt.2 hia
      have qb : (ib : Int) < (n : Int) := Int.ofNat_lt.2 hib
      replace O8 := Lib.hid O8
      replace b8 := Lib.hid b8
      have wy1 := wya.1
      have wy2 := wya.2
      have wy3 := wyb.1
      have wy4 := wyb.2
      have hx8 : Hid (ReadsI ((w6.setCell ⟨G, ia, none⟩ (.int .i64 ya)).setCell ⟨G, ib, none⟩ (.int .i64 yb)) (some ⟨XB, xo, none⟩) xs) := hX5.out.on b8.out
      have gb8 : Hid (Below w.heap.size w ((w6.setCell ⟨G, ia, none⟩ (.int .i64 ya)).setCell ⟨G, ib, none⟩ (.int .i64 yb))) := below_on hb5.out b8.out
      clear O O7 b7 b6 hxr wya wyb hxa' hxb' hsw hXl j1 hb5 hX5 b8 hyb0 hcap hlc hx1 hx2 j2 j3
      by_cases hab : ia = ib
      · subst hab
        have kk : ((ia : Int) == (ia : Int)) = true := by simp
        clear hyb1 hy0b O8 hx8 hgood LX H hsa hsb hxa hxb xa1 xb1 sa1 sb1 hya hyb
        go_wp2
        generalize World.setCell (World.setCell w6 _ _) _ _ = w8 at *
        go_quiet (fail)
        go_wp2
        go_ret
        exact ⟨rfl, below_dN gb8.out _⟩
      · have ne2 : ¬ ib = ia := fun h => hab h.symm
        rw [if_neg ne2] at hyb1
        have kk : ((ia : Int) == (ib : Int)) = false := by rw [beq_eq_false_iff_ne]; intro h; exact hab (Int.ofNat_inj.1 h)
        subst hyb1
        have cA : ∀ W, Below w.heap.size w W → W.cell? ⟨B, off + ia * 3, none⟩ = some (.int .i64 sa.want) ∧ W.cell? ⟨B, off + ia * 3 + 1, none⟩ = some (.int .i64 sa.least) ∧ W.cell? ⟨B, off + ia * 3 + 2, none⟩ = some (.int .i64 sa.soft) := fun W hW => by
          obtain ⟨B', off', he, c⟩ := (H.out.2.1.below hW) ia sa hsa
          cases he
          exact c
        have cB : ∀ W, Below w.heap.size w W → W.cell? ⟨B, off + ib * 3, none⟩ = some (.int .i64 sb.want) ∧ W.cell? ⟨B, off + ib * 3 + 1, none⟩ = some (.int .i64 sb.least) ∧ W.cell? ⟨B, off + ib * 3 + 2, none⟩ = some (.int .i64 sb.soft) := fun W hW => by
          obtain ⟨B', off', he, c⟩ := (H.out.2.1.below hW) ib sb hsb
          cases he
          exact c
        obtain ⟨a0, a1, a2⟩ := cA _ gb8.out
        obtain ⟨b0, b1, b2⟩ := cB _ gb8.out
        have y0 := O8.out.cell ia hia
        rw [if_neg hab, if_pos rfl] at y0
        have y1 := O8.out.cell ib hib
        rw [if_pos rfl] at y1
        have x0 : ((w6.setCell ⟨G, ia, none⟩ (.int .i64 ya)).setCell ⟨G, ib, none⟩ (.int .i64 yb)).cell? ⟨XB, xo + ia, none⟩ = some (.int .i64 xa) := by
          obtain ⟨b', o', he, c⟩ := hx8.out ia (by rw [LX.out]; exact hia)
          cases he
          rw [c, List.getD, hxa]; rfl
        have x1 : ((w6.setCell ⟨G, ia, none⟩ (.int .i64 ya)).setCell ⟨G, ib, none⟩ (.int .i64 yb)).cell? ⟨XB, xo + ib, none⟩ = some (.int .i64 yb0) := by
          obtain ⟨b', o', he, c⟩ := hx8.out ib (by rw [LX.out]; exact hib)
          cases he
          rw [c, List.getD, hxb]; rfl
        have hxw := (H.out.2.2.holds.1 ib sb yb0 hsb hxb).2.1
        have best := Lib.hid (fun (z1 : sa.soft ≠ 0) (z2 : sb.soft ≠ 0) (z3 : xa + by_ ≤ sa.want) (z4 : sb.least ≤ yb0 - by_) => H.out.2.2.best g5 hsa hsb hxa hxb z1 z2 z3 z4)
        go_wp2
        generalize World.setCell (World.setCell w6 _ _) _ _ = w8 at *
        clear cA cB O8 hx8 hgood LX H hsa hsb hxa hxb f1 f2 g1' g2' wy1 wy2 wy3 wy4 n0 n0' hab ne2
        obtain ⟨wa, la, fa⟩ := sa
        obtain ⟨wb, lb, fb⟩ := sb
        simp only at a0 a1 a2 b0 b1 b2 sa1 sb1 best hxw
        by_cases z1 : fa = 0
        · have d1 : (fa == 0) = true := beq_iff_eq.2 z1
          clear best z1 xa1 xb1 sa1 sb1 hya hyb hxw
          go_quiet (fail)
          go_wp2
          go_ret
          exact ⟨rfl, below_dN gb8.out _⟩
        · have d1 : (fa == 0) = false := beq_eq_false_iff_ne.2 z1
          by_cases z2 : fb = 0
          · have d2 : (fb == 0) = true := beq_iff_eq.2 z2
            clear best hxw z1 z2 xa1 xb1 sa1 sb1 hya hyb
            go_quiet (fail)
            go_wp2
            go_ret
            exact ⟨rfl, below_dN gb8.out _⟩
          · have d2 : (fb == 0) = false := beq_eq_false_iff_ne.2 z2
            by_cases z3 : ya > wa
            · have d3 : decide (ya > wa) = true := decide_eq_true z3
              clear best hxw z1 z2 z3 xa1 xb1 sa1 sb1 hya hyb
              go_quiet (fail)
              go_wp2
              go_ret
              exact ⟨rfl, below_dN gb8.out _⟩
            · have d3 : decide (ya > wa) = false := decide_eq_false z3
              by_cases z4 : yb < lb
              · have d4 : decide (yb < lb) = true := decide_eq_true z4
                clear best hxw z1 z2 z3 z4 xa1 xb1 sa1 sb1 hya hyb
                go_quiet (fail)
                go_wp2
                go_ret
                exact ⟨rfl, below_dN gb8.out _⟩
              · have d4 : decide (yb < lb) = false := decide_eq_false z4
                have hbest := best.out z1 z2 (by omega) (by omega)
                rw [hya, hyb] at hbest
                obtain ⟨da, hda⟩ : ∃ z, wa - xa = z := ⟨_, rfl⟩
                obtain ⟨db, hdb⟩ : ∃ z, wb - yb0 = z := ⟨_, rfl⟩
                obtain ⟨ea, hea⟩ : ∃ z, wa - ya = z := ⟨_, rfl⟩
                obtain ⟨eb, heb⟩ : ∃ z, wb - yb = z := ⟨_, rfl⟩
                rw [hda, hdb, hea, heb] at hbest
                have r1 : 0 ≤ da ∧ da ≤ 67108864 := by omega
                have r2 : 0 ≤ db ∧ db ≤ 67108864 := by omega
                have r3 : 0 ≤ ea ∧ ea ≤ 67108864 := by omega
                have r4 : 0 ≤ eb ∧ eb ≤ 67108864 := by omega
                have s1 := sq_bound r1.1 r1.2 sb1.2.1 sb1.2.2
                have s2 := sq_bound r2.1 r2.2 sa1.2.1 sa1.2.2
                have s3 := sq_bound r3.1 r3.2 sb1.2.1 sb1.2.2
                have s4 := sq_bound r4.1 r4.2 sa1.2.1 sa1.2.2
                have fab := sa1.2
                have fbb := sb1.2
                have D1 := wrapI hda (by omega) (by omega)
                have D2 := wrapI hdb (by omega) (by omega)
                have E1 := wrapI hea (by omega) (by omega)
                have E2 := wrapI heb (by omega) (by omega)
                clear best hxw z1 z2 z3 z4 xa1 xb1 sa1 sb1 hya hyb hda hdb hea heb r1 r2 r3 r4 g2 g3 g4 hy0b
                obtain ⟨p1, hp1⟩ : ∃ z, da * da = z := ⟨_, rfl⟩
                obtain ⟨p3, hp3⟩ : ∃ z, db * db = z := ⟨_, rfl⟩
                obtain ⟨q1', hq1⟩ : ∃ z, ea * ea = z := ⟨_, rfl⟩
                obtain ⟨q3', hq3⟩ : ∃ z, eb * eb = z := ⟨_, rfl⟩
                rw [hp1] at hbest s1
                rw [hp3] at hbest s2
                rw [hq1] at hbest s3
                rw [hq3] at hbest s4
                obtain ⟨p2, hp2⟩ : ∃ z, p1 * fb = z := ⟨_, rfl⟩
                obtain ⟨p4, hp4⟩ : ∃ z, p3 * fa = z := ⟨_, rfl⟩
                obtain ⟨q2', hq2⟩ : ∃ z, q1' * fb = z := ⟨_, rfl⟩
                obtain ⟨q4', hq4⟩ : ∃ z, q3' * fa = z := ⟨_, rfl⟩
                rw [hp2] at hbest s1
                rw [hp4] at hbest s2
                rw [hq2] at hbest s3
                rw [hq4] at hbest s4
                obtain ⟨was, hwas⟩ : ∃ z, p2 + p4 = z := ⟨_, rfl⟩
                obtain ⟨iz, hiz⟩ : ∃ z, q2' + q4' = z := ⟨_, rfl⟩
                obtain ⟨m1, hm1⟩ : ∃ z, 2 * by_ = z := ⟨_, rfl⟩
                obtain ⟨m2, hm2⟩ : ∃ z, fa + fb = z := ⟨_, rfl⟩
                obtain ⟨m3, hm3⟩ : ∃ z, m1 * m2 = z := ⟨_, rfl⟩
                rw [hwas, hiz, hm1, hm2, hm3] at hbest
                have m1b : 0 ≤ m1 ∧ m1 ≤ 2000 := by omega
                have m2b : 0 ≤ m2 ∧ m2 ≤ 2000 := by omega
                have m3a : 0 ≤ m3 := by rw [← hm3]; exact Int.mul_nonneg m1b.1 m2b.1
                have m3b : m3 ≤ 2000 * 2000 := by rw [← hm3]; exact Int.mul_le_mul m1b.2 m2b.2 m2b.1 (by decide)
                obtain ⟨m4, hm4⟩ : ∃ z, was - m3 = z := ⟨_, rfl⟩
                rw [hm4] at hbest
                have P1 := wrapI hp1 (by omega) (by omega)
                have P2 := wrapI hp2 (by omega) (by omega)
                have P3 := wrapI hp3 (by omega) (by omega)
                have P4 := wrapI hp4 (by omega) (by omega)
                have P5 := wrapI hwas (by omega) (by omega)
                have Q1 := wrapI hq1 (by omega) (by omega)
                have Q2 := wrapI hq2 (by omega) (by omega)
                have Q3 := wrapI hq3 (by omega) (by omega)
                have Q4 := wrapI hq4 (by omega) (by omega)
                have Q5 := wrapI hiz (by omega) (by omega)
                have M1 := wrapI hm1 (by omega) (by omega)
                have M2 := wrapI hm2 (by omega) (by omega)
                have M3 := wrapI hm3 (by omega) (by omega)
                have M4 := wrapI hm4 (by omega) (by omega)
                have d5 : decide (iz ≥ m4) = true := decide_eq_true hbest
                clear hbest s1 s2 s3 s4 fab fbb hp1 hp2 hp3 hp4 hq1 hq2 hq3 hq4 hwas hiz hm1 hm2 hm3 hm4 m1b m2b m3a m3b g1 g5 g6
                obtain ⟨D1, D1'⟩ := D1
                obtain ⟨D2, D2'⟩ := D2
                obtain ⟨E1, E1'⟩ := E1
                obtain ⟨E2, E2'⟩ := E2
                obtain ⟨P1, P1'⟩ := P1
                obtain ⟨P2, P2'⟩ := P2
                obtain ⟨P3, P3'⟩ := P3
                obtain ⟨P4, P4'⟩ := P4
                obtain ⟨P5, P5'⟩ := P5
                obtain ⟨Q1, Q1'⟩ := Q1
                obtain ⟨Q2, Q2'⟩ := Q2
                obtain ⟨Q3, Q3'⟩ := Q3
                obtain ⟨Q4, Q4'⟩ := Q4
                obtain ⟨Q5, Q5'⟩ := Q5
                obtain ⟨M1, M1'⟩ := M1
                obtain ⟨M2, M2'⟩ := M2
                obtain ⟨M3, M3'⟩ := M3
                obtain ⟨M4, M4'⟩ := M4
                go_quiet (fail)
                go_wp2
                go_quiet (fail)
                go_wp2
                go_quiet (fail)
                go_wp2
                go_quiet (fail)
                go_wp2
                go_quiet (fail)
                go_wp2
                go_ret
                exact ⟨rfl, below_dN (below_dN (below_dN (below_dN (below_dN gb8.out _) _) _) _) _⟩
    · have k1 : (e != 0) = true := by rw [bne_iff_ne]; exact he
      clear L1 he H hX
      go_wp2
      go_ret
      exact ⟨rfl, by have s0 := gb.out.size; (try simp only [World.heap_drewN, World.size_alloc] at s0); repeat (first | exact Below.refl _ _ | exact gb.out | refine Below.trans ?_ (Below.mono gb.out (by first | omega | (simp; done) | (simp; omega))) | refine Below.setCell ?_ (by first | omega | (simp; done) | (simp; omega)) _ | refine below_dN ?_ _ | refine Below.drew ?_ | refine Below.alloc ?_ (by first | omega | (simp; done) | (simp; omega)) _)⟩
  · rw [hn]
    clear hR hr hai hak hby hn hlc
    have hh : decide ((n : Int) < 2) = true ∨ decide ((n : Int) < 2) = false ∧ decide ((n : Int) > 8) = true ∨ decide ((n : Int) < 2) = false ∧ decide ((n : Int) > 8) = false ∧ decide (ai < 0) = true ∨ decide ((n : Int) < 2) = false ∧ decide ((n : Int) > 8) = false ∧ decide (ai < 0) = false ∧ decide (ak < 0) = true ∨ decide ((n : Int) < 2) = false ∧ decide ((n : Int) > 8) = false ∧ decide (ai < 0) = false ∧ decide (ak < 0) = false ∧ decide (by_ < 1) = true ∨ decide ((n : Int) < 2) = false ∧ decide ((n : Int) > 8) = false ∧ decide (ai < 0) = false ∧ decide (ak < 0) = false ∧ decide (by_ < 1) = false ∧ decide (by_ > 1000) = true := by
      simp only [decide_eq_true_eq, decide_eq_false_iff_not]
      omega
    clear hgo
    rcases hh with h1 | ⟨h1, h2⟩ | ⟨h1, h2, h3⟩ | ⟨h1, h2, h3, h4⟩ | ⟨h1, h2, h3, h4, h5⟩ | ⟨h1, h2, h3, h4, h5, h6⟩
    all_goals
      go_enter Try.func6, Try.ntmps6
      go_wp2_with fail
      refine (A0.out _).mono ?_; rintro e aw ⟨rfl, a⟩
      go_wp2
      go_ret
      exact ⟨rfl, by have s0 := a.size; (try simp only [World.heap_drewN, World.size_alloc] at s0); repeat (first | exact Below.refl _ _ | exact a | refine Below.trans ?_ (Below.mono a (by first | omega | (simp; done) | (simp; omega))) | refine Below.setCell ?_ (by first | omega | (simp; done) | (simp; omega)) _ | refine below_dN ?_ _ | refine Below.drew ?_ | refine Below.alloc ?_ (by first | omega | (simp; done) | (simp; omega)) _)⟩
end Go.Proofs.Ytkjgpidiompmlaa
