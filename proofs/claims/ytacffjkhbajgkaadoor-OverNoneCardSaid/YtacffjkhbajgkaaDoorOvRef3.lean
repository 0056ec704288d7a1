/- The document's own Worst (chapter 18). (Written by genover3.py.) -/
import Derived.Test.YtacffjkhbajgkaaDoorOvRef1
import Derived.OneCell
namespace Go.Proofs.YtacffjkhbajgkaaDoor
open Go.RowKit Go.Lib
set_option linter.unusedVariables false
set_option linter.unusedSimpArgs false

theorem results_cell3 {fn : Func} {p u v : Tmp} {ty : TypeId} (h : fn.results = #[.cell p ty, .tmp u, .tmp v]) (tmps : Array Value) (P : Program) (w : World) :
    (results fn tmps).run P w =
      ((asAddr (tmps.getD p undef)).run P w).andThen fun a w₁ => ((loadVar ty a).run P w₁).andThen fun x w₂ => .ok (.tuple #[x, tmps.getD u undef, tmps.getD v undef]) w₂ := by
  simp only [results, h]
  simp [Sem.run_bind, Result.andThen]
/-- What Worst answers. -/
def worstB (l : List Jb) : Bw := if allB l = true then worstW (wds l) else ((0, 0), 0, false)
theorem worstB_none {l : List Jb} (h : allB l = false) : worstB l = ((0, 0), 0, false) := by unfold worstB; rw [if_neg (by rw [h]; exact Bool.false_ne_true)]
theorem worstB_all {l : List Jb} (h : allB l = true) : worstB l = worstW (wds l) := by unfold worstB; rw [if_pos h]
theorem worstB_ok (l : List Jb) : (worstB l).2.2 = (allB l && decide (0 < l.length)) := by
  by_cases h : allB l = true
  · rw [worstB_all h, h, Bool.true_and, worstW_ok (fun v hv => (wds_good h v hv).2.1), wds_len]
  · have h' := Bool.eq_false_iff.2 h
    rw [worstB_none h', h', Bool.false_and]
/-- The best so far: of the spans from the first i ones, and from x to the first k. -/
def rowsB (L : List Wd) (i : Nat) : Bw := (L.take i).foldl (fun b x => L.foldl (fun b y => wstep L b x y) b) ((0, 0), 0, false)
def bestB (L : List Wd) (i : Nat) (x : Wd) (k : Nat) : Bw := (L.take k).foldl (fun b y => wstep L b x y) (rowsB L i)
theorem bestB_zero (L : List Wd) (i : Nat) (x : Wd) : bestB L i x 0 = rowsB L i := rfl
theorem bestB_next {L : List Wd} {k : Nat} {y : Wd} (h : L[k]? = some y) (i : Nat) (x : Wd) : bestB L i x (k + 1) = wstep L (bestB L i x k) x y := by
  unfold bestB; rw [List.take_add_one, h]; simp
theorem rowsB_next {L : List Wd} {i : Nat} {x : Wd} (h : L[i]? = some x) : rowsB L (i + 1) = bestB L i x L.length := by
  unfold bestB rowsB; rw [List.take_add_one, h]; simp
theorem rowsB_all (L : List Wd) : rowsB L L.length = worstW L := by unfold rowsB worstW; rw [List.take_length]
/-- Two boxes of two numbers: the result's (R), the best one's (P). -/
structure BxW (R P : Nat) (a b : Int) (w : World) : Prop where
  lt : R < P ∧ P < w.heap.size
  r0 : w.cell? ⟨R, 0, none⟩ = some (.int .i64 0)
  r1 : w.cell? ⟨R, 1, none⟩ = some (.int .i64 0)
  fr : ∀ k, w.frozen? ⟨R, k, none⟩ = false
  p0 : w.cell? ⟨P, 0, none⟩ = some (.int .i64 a)
  p1 : w.cell? ⟨P, 1, none⟩ = some (.int .i64 b)
  fp : ∀ k, w.frozen? ⟨P, k, none⟩ = false
theorem BxW.on {R P : Nat} {a b : Int} {w w' : World} (h : BxW R P a b w) (hb : Below w.heap.size w w') : BxW R P a b w' := by
  have hR : R < w.heap.size := Nat.lt_trans h.lt.1 h.lt.2
  have hP := h.lt.2
  exact ⟨⟨h.lt.1, Nat.lt_of_lt_of_le hP hb.size⟩, by rw [hb.cell (p := ⟨R, 0, none⟩) hR]; exact h.r0, by rw [hb.cell (p := ⟨R, 1, none⟩) hR]; exact h.r1, fun k => by rw [hb.frozen (p := ⟨R, k, none⟩) hR]; exact h.fr k,
    by rw [hb.cell (p := ⟨P, 0, none⟩) hP]; exact h.p0, by rw [hb.cell (p := ⟨P, 1, none⟩) hP]; exact h.p1, fun k => by rw [hb.frozen (p := ⟨P, k, none⟩) hP]; exact h.fp k⟩
theorem BxW.store {R P : Nat} {a b : Int} {w : World} (h : BxW R P a b w) (x y : Int) : BxW R P x y ((w.setCell ⟨P, 0, none⟩ (.int .i64 x)).setCell ⟨P, 1, none⟩ (.int .i64 y)) := by
  have ne : R ≠ P := Nat.ne_of_lt h.lt.1
  have o : ∀ (W : World) (j k : Nat) (u : Value), (W.setCell ⟨P, k, none⟩ u).cell? ⟨R, j, none⟩ = W.cell? ⟨R, j, none⟩ := fun W j k u => World.cell?_setCell_other _ _ _ _ (by intro e; simp only [Addr.mk.injEq] at e; omega)
  refine ⟨⟨h.lt.1, by simpa [World.setCell] using h.lt.2⟩, by rw [o, o]; exact h.r0, by rw [o, o]; exact h.r1, fun k => by rw [World.frozen?_setCell, World.frozen?_setCell]; exact h.fr k, ?_, ?_, fun k => by rw [World.frozen?_setCell, World.frozen?_setCell]; exact h.fp k⟩
  · rw [World.cell?_setCell_other _ _ _ _ (by intro e; simp only [Addr.mk.injEq] at e; omega)]
    exact World.cell?_setCell_same _ _ _ h.p0
  · exact World.cell?_setCell_same _ _ _ (by rw [World.cell?_setCell_other _ _ _ _ (by intro e; simp only [Addr.mk.injEq] at e; omega)]; exact h.p1)
/-- The result's cells behind its store. -/
theorem BxW.res {R P : Nat} {a b : Int} {w : World} (h : BxW R P a b w) (x y : Int) : ((w.setCell ⟨R, 0, none⟩ (.int .i64 x)).setCell ⟨R, 1, none⟩ (.int .i64 y)).cell? ⟨R, 0, none⟩ = some (.int .i64 x) ∧ ((w.setCell ⟨R, 0, none⟩ (.int .i64 x)).setCell ⟨R, 1, none⟩ (.int .i64 y)).cell? ⟨R, 1, none⟩ = some (.int .i64 y) := by
  constructor
  · rw [World.cell?_setCell_other _ _ _ _ (by intro e; simp only [Addr.mk.injEq] at e; omega)]
    exact World.cell?_setCell_same _ _ _ h.r0
  · exact World.cell?_setCell_same _ _ _ (by rw [World.cell?_setCell_other _ _ _ _ (by intro e; simp only [Addr.mk.injEq] at e; omega)]; exact h.r1)
theorem wb_false (a b d x y z : Int) : wbetter ((a, b), d, false) x y z = true := rfl
theorem wb_iff (a b d x y z : Int) : wbetter ((a, b), d, true) x y z = true ↔ d < z ∨ z = d ∧ (x < a ∨ x = a ∧ y < b) := by
  unfold wbetter; simp
theorem wb_no {a b d x y z : Int} (h : ¬ (d < z ∨ z = d ∧ (x < a ∨ x = a ∧ y < b))) : wbetter ((a, b), d, true) x y z = false := Bool.eq_false_iff.2 fun e => h ((wb_iff _ _ _ _ _ _).1 e)
theorem wbetter_eq (a b d x y z : Int) (g : Bool) : wbetter ((a, b), d, g) x y z = (!g || (decide (d < z) || (decide (z = d) && (decide (x < a) || (decide (x = a) && decide (y < b)))))) := rfl

set_option maxHeartbeats 6400000 in
set_option maxRecDepth 100000 in
theorem rworst_any (A : Option Addr) (cap : Nat) (l : List Jb) (a b d : Int) (q : Bool) (w : World) (hn : l.length ≤ 1000) (hcap : cap ≤ 9223372036854775807) (hlc : l.length ≤ cap) (hs : ∀ x ∈ l, x.name.size ≤ 1000000) (hL : Ltr w) (hR : RdJ w A l) (hz : worstB l = ((a, b), d, q)) :
    Calls Tryd.prog 15 #[.slice A l.length cap] w (RetB (.tuple #[.agg #[.int .i64 a, .int .i64 b], .int .i64 d, .bool q]) w) := by
  obtain ⟨g, hg⟩ : ∃ g, allB l = g := ⟨_, rfl⟩
  have hm0 : Below w.heap.size w (w.alloc (.cells #[.int .i64 0, .int .i64 0] 41)) := (Below.refl _ _).alloc (Nat.le_refl _) _
  have C1 : Hid (∀ w', Below w.heap.size w w' → Calls Tryd.prog 24 #[.slice A l.length cap] w' (RetB (.bool g) w')) := fun w' hb => rjall_any A cap l g w' (by omega) hcap hlc hs (hL.below hb) (hR.below hb) hg
  have bad : ∀ n, l.length = n → g = false ∨ n = 0 → a = 0 ∧ b = 0 ∧ d = 0 ∧ q = false := by
    intro n hn2 h
    have : worstB l = ((0, 0), 0, false) := by
      rcases h with rfl | rfl
      · exact worstB_none hg
      · rw [List.eq_nil_of_length_eq_zero hn2]; rfl
    rw [this] at hz
    simp only [Prod.mk.injEq] at hz
    exact ⟨hz.1.1.symm, hz.1.2.symm, hz.2.1.symm, hz.2.2.symm⟩
  have hok := worstB_ok l
  rw [hz, hg] at hok
  simp only at hok
  by_cases hgo : g = true ∧ 0 < l.length
  · obtain ⟨rfl, hpos⟩ := hgo
    rw [decide_eq_true hpos, Bool.true_and] at hok
    subst hok
    have hgd := wds_good hg
    rw [worstB_all hg] at hz
    have C3 : Hid (∀ f t z w', loadW f t (wds l) = z → Below w.heap.size w w' → Calls Tryd.prog 16 #[.slice A l.length cap, .int .i64 f, .int .i64 t] w' (RetB (.int .i64 z) w')) := fun f t z w' hz hb => rload_any A cap l f t z w' hn hcap hlc hs (hL.below hb) (hR.below hb) (by rw [loadB_all hg]; exact hz)
    have hLb := fun a b => loadW_bound l a b
    obtain ⟨n, hl⟩ : ∃ n, l.length = n := ⟨_, rfl⟩
    have HL : Hid ((wds l).length = n) := by show _ = _; rw [wds_len, hl]
    have HG := Lib.hid hgd
    have HB := Lib.hid hLb
    have WA : Hid (∀ (i : Nat) (x : Jb), l[i]? = some x → (wds l)[i]? = some x.wd) := fun i x h => wds_at h
    have H := Lib.hid (And.intro hl hR)
    replace hz := Lib.hid hz
    rw [hl] at C1 C3 hlc hn hpos hLb ⊢
    replace HB : Hid (∀ f t, 0 ≤ loadW f t (wds l) ∧ loadW f t (wds l) ≤ 1100 * (n : Int)) := hLb
    generalize wds l = L at *
    have e0 : ((n : Int) == 0) = false := by rw [beq_eq_false_iff_ne]; omega
    clear hl hs hL hR hg hgd hLb bad
    go_enter Tryd.func15, Tryd.ntmps15
    go_wp2_with fail
    refine (C1.out _ hm0).mono ?_; rintro e gw ⟨rfl, gb⟩
    replace gb := Lib.hid gb
    clear C1
    have hgs : Hid (w.heap.size + 1 ≤ gw.heap.size) := by have := gb.out.size; rw [World.size_alloc] at this; exact this
    have K0 : Hid (Below w.heap.size w (gw.alloc (.cells #[.int .i64 0, .int .i64 0] 41)) ∧ BxW w.heap.size gw.heap.size 0 0 (gw.alloc (.cells #[.int .i64 0, .int .i64 0] 41))) := by
      have hlt : w.heap.size < (w.alloc (.cells #[.int .i64 0, .int .i64 0] 41)).heap.size := by simp
      have hb2 : Below (w.alloc (.cells #[.int .i64 0, .int .i64 0] 41)).heap.size (w.alloc (.cells #[.int .i64 0, .int .i64 0] 41)) (gw.alloc (.cells #[.int .i64 0, .int .i64 0] 41)) := gb.out.alloc gb.out.size _
      have hbs := hb2.size
      refine ⟨by have s0 := hb2.size; (try simp only [World.heap_drewN, World.size_alloc] at s0); repeat (first | exact Below.refl _ _ | exact hb2 | refine Below.trans ?_ (Below.mono hb2 (by first | omega | (simp; done) | (simp; omega))) | refine Below.setCell ?_ (by first | omega | (simp; done) | (simp; omega)) _ | refine below_dN ?_ _ | refine Below.drew ?_ | refine Below.alloc ?_ (by first | omega | (simp; done) | (simp; omega)) _), ⟨by have := hgs.out; omega, by simp⟩, ?_, ?_, ?_, by simp, by simp, ?_⟩
      · rw [hb2.cell (p := ⟨w.heap.size, 0, none⟩) hlt]; simp
      · rw [hb2.cell (p := ⟨w.heap.size, 1, none⟩) hlt]; simp
      · intro k; rw [hb2.frozen (p := ⟨w.heap.size, k, none⟩) hlt]; unfold World.frozen?; rw [heap_alloc_new]; simp
      · intro k; unfold World.frozen?; rw [heap_alloc_new]; simp
    go_wp2
    clear e0
    generalize gw.alloc _ = w2 at K0 ⊢
    generalize hPP : gw.heap.size = P at K0 hgs ⊢
    clear hPP gb
    have hPl : Hid (w.heap.size < P) := hgs.out
    go_loopw [6, 7, 8] (fun s6 s7 st wr => ∃ (i : Nat) (a1 b1 d1 : Int) (g1 : Bool), s6 = .int .i64 d1 ∧ s7 = .bool g1 ∧ st = .int .i64 (i : Int) ∧ i ≤ n ∧ Hid (rowsB L i = ((a1, b1), d1, g1) ∧ Below w.heap.size w wr ∧ BxW w.heap.size P a1 b1 wr)) (fun _ _ st _ => n - (intOf st).toNat)
    case atStart => exact ⟨0, 0, 0, 0, false, rfl, rfl, rfl, by omega, Lib.hid ⟨rfl, K0.out.1, K0.out.2⟩⟩
    case round =>
      clear K0
      obtain ⟨i, a0, b0, d0, g0, rfl, rfl, rfl, hin, K⟩ := hrel
      rcases Nat.lt_or_ge i n with hlt | hge
      · have c1 : decide ((i : Int) < (n : Int)) = true := decide_eq_true (by omega)
        have e1 : IntKind.i64.wrap ((i : Int) + 1) = ((i + 1 : Nat) : Int) := by rw [IntKind.wrap_i64]; omega
        have n1 : (i : Int) < (n : Int) := by omega
        obtain ⟨xj, hx⟩ : ∃ x, l[i]? = some x := ⟨_, List.getElem?_eq_getElem (by rw [H.out.1]; exact hlt)⟩
        have hxw := WA.out i xj hx
        have hxg := HG.out _ (List.mem_of_getElem? hxw)
        obtain ⟨X, hX⟩ : ∃ X, xj.wd = X := ⟨_, rfl⟩
        rw [hX] at hxw hxg
        obtain ⟨x, hxr⟩ : ∃ x, xj.rel = x := ⟨_, rfl⟩
        have hXr : X.r = x := by rw [← hX, ← hxr]; rfl
        obtain ⟨Bi, offi, hAi, hJi⟩ := H.out.2 i xj hx
        have Ci : Hid (w.cell? ⟨Bi, offi + i * 8 + 1, none⟩ = some (.int .i64 x) ∧ Bi < w.heap.size) := ⟨by rw [← hxr]; exact hJi.2.1, hJi.lt⟩
        have HX := Lib.hid (And.intro hxw (And.intro hXr hxg))
        subst hAi
        clear hx hxg hX hxw hxr hXr hJi
        obtain ⟨wo, hwo⟩ : ∃ v, v = wr := ⟨wr, rfl⟩
        subst hwo
        go_wp2
        go_loopw [6, 7, 9] (fun s6 s7 st wr => ∃ (k : Nat) (a1 b1 d1 : Int) (g1 : Bool), s6 = .int .i64 d1 ∧ s7 = .bool g1 ∧ st = .int .i64 (k : Int) ∧ k ≤ n ∧ Hid (bestB L i X k = ((a1, b1), d1, g1) ∧ Below w.heap.size w wr ∧ BxW w.heap.size P a1 b1 wr)) (fun _ _ st _ => n - (intOf st).toNat)
        case atStart => exact ⟨0, a0, b0, d0, g0, rfl, rfl, rfl, by omega, Lib.hid ⟨by rw [bestB_zero]; exact K.out.1, K.out.2⟩⟩
        case round =>
          clear K
          obtain ⟨k, a1, b1, d1, g1, rfl, rfl, rfl, hkn, J⟩ := hrel
          rcases Nat.lt_or_ge k n with hlt2 | hge2
          · have c2 : decide ((k : Int) < (n : Int)) = true := decide_eq_true (by omega)
            have e2 : IntKind.i64.wrap ((k : Int) + 1) = ((k + 1 : Nat) : Int) := by rw [IntKind.wrap_i64]; omega
            have n2 : (k : Int) < (n : Int) := by omega
            have hk1 : k + 1 ≤ n := by omega
            have hm1 : n - (k + 1) < n - k := by omega
            obtain ⟨yj, hy⟩ : ∃ x, l[k]? = some x := ⟨_, List.getElem?_eq_getElem (by rw [H.out.1]; exact hlt2)⟩
            have hyw := WA.out k yj hy
            have hyg := HG.out _ (List.mem_of_getElem? hyw)
            obtain ⟨Y, hY⟩ : ∃ Y, yj.wd = Y := ⟨_, rfl⟩
            rw [hY] at hyw hyg
            obtain ⟨y, hyr⟩ : ∃ x, yj.dl = x := ⟨_, rfl⟩
            have hYd : Y.d = y := by rw [← hY, ← hyr]; rfl
            obtain ⟨Bk, offk, hAk, hJk⟩ := H.out.2 k yj hy
            simp only [Option.some.injEq, Addr.mk.injEq, and_true] at hAk
            obtain ⟨rfl, rfl⟩ := hAk
            have l1 : wr.cell? ⟨Bi, offi + i * 8 + 1, none⟩ = some (.int .i64 x) := by rw [J.out.2.1.cell (p := ⟨Bi, offi + i * 8 + 1, none⟩) Ci.out.2]; exact Ci.out.1
            have l2 : wr.cell? ⟨Bi, offi + k * 8 + 2, none⟩ = some (.int .i64 y) := by rw [J.out.2.1.cell (p := ⟨Bi, offi + k * 8 + 2, none⟩) Ci.out.2, ← hyr]; exact hJk.2.2.1
            have hxy : Hid ((0 ≤ x ∧ x ≤ 10000) ∧ 0 ≤ y ∧ y ≤ 10000) := by
              have h1 := HX.out.2.2
              have h2 := HX.out.2.1
              show _ ∧ _
              omega
            have HS0 : Hid (bestB L i X (k + 1) = wstep L ((a1, b1), d1, g1) X Y) := by show _ = _; rw [bestB_next hyw, J.out.1]
            have HW : Hid (∀ b : Bw, wstep L b X Y = if x < y then if wbetter b x y (loadW x y L - (y - x)) = true then ((x, y), loadW x y L - (y - x), true) else b else b) := fun b => by unfold wstep; rw [HX.out.2.1, hYd]
            have J0 : Hid (Below w.heap.size w wr ∧ BxW w.heap.size P a1 b1 wr) := J.out.2
            clear hy hyw hyg hY hyr hYd hJk J
            by_cases h1 : x ≥ y
            · have c3 : decide (x ≥ y) = true := decide_eq_true h1
              have c3' : decide (y ≤ x) = true := c3
              have K8 : Hid (bestB L i X (k + 1) = ((a1, b1), d1, g1)) := by show _ = _; rw [HS0.out, HW.out, if_neg (by omega)]
              clear h1 HS0 HW
              go_wp2
              go_quiet (fail)
              obtain ⟨p1, hp1⟩ : ∃ v, v = nq := ⟨nq, rfl⟩
              subst hp1
              have K9 : Hid (bestB L i X (k + 1) = ((a1, b1), d1, g1) ∧ Below w.heap.size w (wr.drewN p1) ∧ BxW w.heap.size P a1 b1 (wr.drewN p1)) := ⟨K8.out, below_dN J0.out.1 p1, J0.out.2.on (below_dN (Below.refl _ _) p1)⟩
              generalize wr.drewN p1 = w1 at *
              clear J0 K8 l1 l2
              go_wp2
              go_roundw
              case rel => exact ⟨k + 1, a1, b1, d1, g1, by first | rfl | simp, by first | rfl | simp, by first | rfl | simp, hk1, K9⟩
              case measure => simp [intOf]; exact hm1
            · have c3 : decide (x ≥ y) = false := decide_eq_false h1
              have c3' : decide (y ≤ x) = false := c3
              obtain ⟨z, hz2⟩ : ∃ z, loadW x y L = z := ⟨_, rfl⟩
              have hzb := HB.out x y
              rw [hz2] at hzb
              obtain ⟨D, hD⟩ : ∃ D, y - x = D := ⟨_, rfl⟩
              obtain ⟨dd, hdd⟩ : ∃ D', z - D = D' := ⟨_, rfl⟩
              have hxo := hxy.out
              have e3 : IntKind.i64.wrap (y - x) = D := by rw [IntKind.wrap_i64]; omega
              have e3' : wrap64 (y - x) = D := by unfold wrap64; omega
              have e4 : IntKind.i64.wrap (z - D) = dd := by rw [IntKind.wrap_i64]; omega
              have e4' : wrap64 (z - D) = dd := by unfold wrap64; omega
              replace e3 := Lib.hid e3
              replace e3' := Lib.hid e3'
              replace e4 := Lib.hid e4
              replace e4' := Lib.hid e4'
              have HS : Hid (bestB L i X (k + 1) = if wbetter ((a1, b1), d1, g1) x y dd = true then ((x, y), dd, true) else ((a1, b1), d1, g1)) := by
                show _ = _
                rw [HS0.out, HW.out, if_pos (by omega), hz2, hD, hdd]
              have C4 : Hid (∀ w', Below w.heap.size w w' → Calls Tryd.prog 16 #[.slice (some ⟨Bi, offi, none⟩) n cap, .int .i64 x, .int .i64 y] w' (RetB (.int .i64 z) w')) := fun w' hb => C3.out _ _ z w' hz2 hb
              clear HS0 HW hz2 hzb hxo hD hdd h1
              go_wp2
              go_quiet (fail)
              obtain ⟨p1, hp1⟩ : ∃ v, v = nq := ⟨nq, rfl⟩
              subst hp1
              have J1 : Hid (Below w.heap.size w (wr.drewN p1) ∧ BxW w.heap.size P a1 b1 (wr.drewN p1)) := ⟨below_dN J0.out.1 p1, J0.out.2.on (below_dN (Below.refl _ _) p1)⟩
              generalize wr.drewN p1 = w1 at *
              clear J0 l1 l2
              replace e3 := e3.out
              replace e3' := e3'.out
              replace e4 := e4.out
              replace e4' := e4'.out
              go_wp2_with fail
              refine (C4.out _ J1.out.1).mono ?_; rintro e w3 ⟨rfl, hb⟩
              have J3 : Hid (Below w.heap.size w w3 ∧ BxW w.heap.size P a1 b1 w3) := ⟨below_on J1.out.1 hb, J1.out.2.on hb⟩
              have p0 := J3.out.2.p0
              have p1 := J3.out.2.p1
              have f0 := J3.out.2.fp 0
              have f1 := J3.out.2.fp 1
              replace e3 := Lib.hid e3
              replace e3' := Lib.hid e3'
              replace e4 := Lib.hid e4
              replace e4' := Lib.hid e4'
              clear J1 hb C4
              replace e3 := e3.out
              replace e3' := e3'.out
              replace e4 := e4.out
              replace e4' := e4'.out
              cases g1
              · have K9 : Hid (bestB L i X (k + 1) = ((x, y), dd, true) ∧ Below w.heap.size w ((w3.setCell ⟨P, 0, none⟩ (.int .i64 x)).setCell ⟨P, 1, none⟩ (.int .i64 y)) ∧ BxW w.heap.size P x y ((w3.setCell ⟨P, 0, none⟩ (.int .i64 x)).setCell ⟨P, 1, none⟩ (.int .i64 y))) := ⟨by rw [HS.out, if_pos (wb_false _ _ _ _ _ _)], (J3.out.1.setCell (Nat.le_of_lt hPl.out) _).setCell (Nat.le_of_lt hPl.out) _, J3.out.2.store x y⟩
                clear J3 HS 
                go_wp2
                go_roundw
                case rel => exact ⟨k + 1, x, y, dd, true, by first | rfl | simp, by first | rfl | simp, by first | rfl | simp, hk1, K9⟩
                case measure => simp [intOf]; exact hm1
              · by_cases t1 : dd > d1
                · have d5 : decide (dd > d1) = true := decide_eq_true t1
                  have d5' : decide (d1 < dd) = true := d5
                  have K9 : Hid (bestB L i X (k + 1) = ((x, y), dd, true) ∧ Below w.heap.size w ((w3.setCell ⟨P, 0, none⟩ (.int .i64 x)).setCell ⟨P, 1, none⟩ (.int .i64 y)) ∧ BxW w.heap.size P x y ((w3.setCell ⟨P, 0, none⟩ (.int .i64 x)).setCell ⟨P, 1, none⟩ (.int .i64 y))) := ⟨by rw [HS.out, if_pos ((wb_iff _ _ _ _ _ _).2 (by omega))], (J3.out.1.setCell (Nat.le_of_lt hPl.out) _).setCell (Nat.le_of_lt hPl.out) _, J3.out.2.store x y⟩
                  clear J3 HS t1
                  go_wp2
                  go_roundw
                  case rel => exact ⟨k + 1, x, y, dd, true, by first | rfl | simp, by first | rfl | simp, by first | rfl | simp, hk1, K9⟩
                  case measure => simp [intOf]; exact hm1
                · have d5 : decide (dd > d1) = false := decide_eq_false t1
                  have d5' : decide (d1 < dd) = false := d5
                  by_cases t2 : dd = d1
                  · have d6 : (dd == d1) = true := by simp [t2]
                    by_cases t3 : x < a1
                    · have d7 : decide (x < a1) = true := decide_eq_true t3
                      have K9 : Hid (bestB L i X (k + 1) = ((x, y), dd, true) ∧ Below w.heap.size w ((w3.setCell ⟨P, 0, none⟩ (.int .i64 x)).setCell ⟨P, 1, none⟩ (.int .i64 y)) ∧ BxW w.heap.size P x y ((w3.setCell ⟨P, 0, none⟩ (.int .i64 x)).setCell ⟨P, 1, none⟩ (.int .i64 y))) := ⟨by rw [HS.out, if_pos ((wb_iff _ _ _ _ _ _).2 (by omega))], (J3.out.1.setCell (Nat.le_of_lt hPl.out) _).setCell (Nat.le_of_lt hPl.out) _, J3.out.2.store x y⟩
                      clear J3 HS t1 t2 t3
                      go_wp2
                      go_roundw
                      case rel => exact ⟨k + 1, x, y, dd, true, by first | rfl | simp, by first | rfl | simp, by first | rfl | simp, hk1, K9⟩
                      case measure => simp [intOf]; exact hm1
                    · have d7 : decide (x < a1) = false := decide_eq_false t3
                      by_cases t4 : x = a1
                      · have d8 : (x == a1) = true := by simp [t4]
                        by_cases t5 : y < b1
                        · have d9 : decide (y < b1) = true := decide_eq_true t5
                          have K9 : Hid (bestB L i X (k + 1) = ((x, y), dd, true) ∧ Below w.heap.size w ((w3.setCell ⟨P, 0, none⟩ (.int .i64 x)).setCell ⟨P, 1, none⟩ (.int .i64 y)) ∧ BxW w.heap.size P x y ((w3.setCell ⟨P, 0, none⟩ (.int .i64 x)).setCell ⟨P, 1, none⟩ (.int .i64 y))) := ⟨by rw [HS.out, if_pos ((wb_iff _ _ _ _ _ _).2 (by omega))], (J3.out.1.setCell (Nat.le_of_lt hPl.out) _).setCell (Nat.le_of_lt hPl.out) _, J3.out.2.store x y⟩
                          clear J3 HS t1 t2 t3 t4 t5
                          go_wp2
                          go_roundw
                          case rel => exact ⟨k + 1, x, y, dd, true, by first | rfl | simp, by first | rfl | simp, by first | rfl | simp, hk1, K9⟩
                          case measure => simp [intOf]; exact hm1
                        · have d9 : decide (y < b1) = false := decide_eq_false t5
                          have K9 : Hid (bestB L i X (k + 1) = ((a1, b1), d1, true) ∧ Below w.heap.size w w3 ∧ BxW w.heap.size P a1 b1 w3) := ⟨by rw [HS.out, if_neg (by rw [wb_no (by omega)]; exact Bool.false_ne_true)], J3.out⟩
                          clear J3 HS t1 t2 t3 t4 t5
                          go_wp2
                          go_roundw
                          case rel => exact ⟨k + 1, a1, b1, d1, true, by first | rfl | simp, by first | rfl | simp, by first | rfl | simp, hk1, K9⟩
                          case measure => simp [intOf]; exact hm1
                      · have d8 : (x == a1) = false := by simp [t4]
                        have K9 : Hid (bestB L i X (k + 1) = ((a1, b1), d1, true) ∧ Below w.heap.size w w3 ∧ BxW w.heap.size P a1 b1 w3) := ⟨by rw [HS.out, if_neg (by rw [wb_no (by omega)]; exact Bool.false_ne_true)], J3.out⟩
                        clear J3 HS t1 t2 t3 t4
                        go_wp2
                        go_roundw
                        case rel => exact ⟨k + 1, a1, b1, d1, true, by first | rfl | simp, by first | rfl | simp, by first | rfl | simp, hk1, K9⟩
                        case measure => simp [intOf]; exact hm1
                  · have d6 : (dd == d1) = false := by simp [t2]
                    have K9 : Hid (bestB L i X (k + 1) = ((a1, b1), d1, true) ∧ Below w.heap.size w w3 ∧ BxW w.heap.size P a1 b1 w3) := ⟨by rw [HS.out, if_neg (by rw [wb_no (by omega)]; exact Bool.false_ne_true)], J3.out⟩
                    clear J3 HS t1 t2
                    go_wp2
                    go_roundw
                    case rel => exact ⟨k + 1, a1, b1, d1, true, by first | rfl | simp, by first | rfl | simp, by first | rfl | simp, hk1, K9⟩
                    case measure => simp [intOf]; exact hm1
          · have c2 : decide ((k : Int) < (n : Int)) = false := decide_eq_false (by omega)
            obtain rfl : k = n := by omega
            have K2 : Hid (rowsB L (i + 1) = ((a1, b1), d1, g1) ∧ Below w.heap.size w wr ∧ BxW w.heap.size P a1 b1 wr) := ⟨by rw [rowsB_next HX.out.1, HL.out]; exact J.out.1, J.out.2⟩
            clear J
            go_wp2
            go_roundw
            case rel => exact ⟨i + 1, a1, b1, d1, g1, by first | rfl | simp, by first | rfl | simp, by first | rfl | simp, by omega, K2⟩
            case measure => simp [intOf]; omega
      · have c1 : decide ((i : Int) < (n : Int)) = false := decide_eq_false (by omega)
        obtain rfl : i = n := by omega
        have hf : ((a0, b0), d0, g0) = ((a, b), d, true) := by rw [← hz.out, ← K.out.1, ← rowsB_all, HL.out]
        simp only [Prod.mk.injEq] at hf
        obtain ⟨⟨rfl, rfl⟩, rfl, rfl⟩ := hf
        have p0 := K.out.2.2.p0
        have p1 := K.out.2.2.p1
        have r0 := K.out.2.2.r0
        have r1 := K.out.2.2.r1
        have f0 := K.out.2.2.fr 0
        have f1 := K.out.2.2.fr 1
        have q0 := (K.out.2.2.res a0 b0).1
        have q1 := (K.out.2.2.res a0 b0).2
        have hb9 : Hid (Below w.heap.size w ((wr.setCell ⟨w.heap.size, 0, none⟩ (.int .i64 a0)).setCell ⟨w.heap.size, 1, none⟩ (.int .i64 b0))) := (K.out.2.1.setCell (Nat.le_refl _) _).setCell (Nat.le_refl _) _
        clear K
        go_wp2
        (try simp only [Exit.inBlock, Exit.then])
        refine bodyPost_ret (v := .tuple #[.agg #[.int .i64 a0, .int .i64 b0], .int .i64 d0, .bool true]) ?_ rfl ⟨rfl, hb9.out⟩
        rw [results_cell3 rfl]; go_simp
  · rcases Bool.eq_false_or_eq_true g with hgt | hgf
    · subst hgt
      have h0 : l.length = 0 := by
        rcases Nat.eq_zero_or_pos l.length with h | h
        · exact h
        · exact absurd ⟨rfl, h⟩ hgo
      obtain ⟨rfl, rfl, rfl, rfl⟩ := bad 0 h0 (.inr rfl)
      rw [h0] at C1 hlc ⊢
      clear hs hL hR hg hz hok bad hgo h0
      go_enter Tryd.func15, Tryd.ntmps15
      go_wp2_with fail
      refine (C1.out _ hm0).mono ?_; rintro e gw ⟨rfl, gb⟩
      have hlt : w.heap.size < (w.alloc (.cells #[.int .i64 0, .int .i64 0] 41)).heap.size := by simp
      have r0 : gw.cell? ⟨w.heap.size, 0, none⟩ = some (.int .i64 0) := by rw [gb.cell (p := ⟨w.heap.size, 0, none⟩) hlt]; simp
      have r1 : gw.cell? ⟨w.heap.size, 1, none⟩ = some (.int .i64 0) := by rw [gb.cell (p := ⟨w.heap.size, 1, none⟩) hlt]; simp
      have f0 : ∀ k, gw.frozen? ⟨w.heap.size, k, none⟩ = false := by intro k; rw [gb.frozen (p := ⟨w.heap.size, k, none⟩) hlt]; unfold World.frozen?; rw [heap_alloc_new]; simp
      have f1 := f0 0
      have f2 := f0 1
      have q1 : ((gw.setCell ⟨w.heap.size, 0, none⟩ (.int .i64 0)).setCell ⟨w.heap.size, 1, none⟩ (.int .i64 0)).cell? ⟨w.heap.size, 0, none⟩ = some (.int .i64 0) := by
        rw [World.cell?_setCell_other _ _ _ _ (by intro e; simp only [Addr.mk.injEq] at e; omega)]
        exact World.cell?_setCell_same _ _ _ r0
      have q2 : ((gw.setCell ⟨w.heap.size, 0, none⟩ (.int .i64 0)).setCell ⟨w.heap.size, 1, none⟩ (.int .i64 0)).cell? ⟨w.heap.size, 1, none⟩ = some (.int .i64 0) :=
        World.cell?_setCell_same _ _ _ (by rw [World.cell?_setCell_other _ _ _ _ (by intro e; simp only [Addr.mk.injEq] at e; omega)]; exact r1)
      have hb9 : Hid (Below w.heap.size w ((gw.setCell ⟨w.heap.size, 0, none⟩ (.int .i64 0)).setCell ⟨w.heap.size, 1, none⟩ (.int .i64 0))) := ((by have s0 := gb.size; (try simp only [World.heap_drewN, World.size_alloc] at s0); repeat (first | exact Below.refl _ _ | exact gb | refine Below.trans ?_ (Below.mono gb (by first | omega | (simp; done) | (simp; omega))) | refine Below.setCell ?_ (by first | omega | (simp; done) | (simp; omega)) _ | refine below_dN ?_ _ | refine Below.drew ?_ | refine Below.alloc ?_ (by first | omega | (simp; done) | (simp; omega)) _) : Below w.heap.size w gw).setCell (Nat.le_refl _) _).setCell (Nat.le_refl _) _
      clear gb C1 f0
      go_wp2
      (try simp only [Exit.inBlock, Exit.then])
      refine bodyPost_ret (v := .tuple #[.agg #[.int .i64 0, .int .i64 0], .int .i64 0, .bool false]) ?_ rfl ⟨rfl, hb9.out⟩
      rw [results_cell3 rfl]; go_simp
    · subst hgf
      obtain ⟨rfl, rfl, rfl, rfl⟩ := bad _ rfl (.inl rfl)
      generalize l.length = n at *
      clear hs hL hR hg hz hok bad hgo
      go_enter Tryd.func15, Tryd.ntmps15
      go_wp2_with fail
      refine (C1.out _ hm0).mono ?_; rintro e gw ⟨rfl, gb⟩
      have hlt : w.heap.size < (w.alloc (.cells #[.int .i64 0, .int .i64 0] 41)).heap.size := by simp
      have r0 : gw.cell? ⟨w.heap.size, 0, none⟩ = some (.int .i64 0) := by rw [gb.cell (p := ⟨w.heap.size, 0, none⟩) hlt]; simp
      have r1 : gw.cell? ⟨w.heap.size, 1, none⟩ = some (.int .i64 0) := by rw [gb.cell (p := ⟨w.heap.size, 1, none⟩) hlt]; simp
      have f0 : ∀ k, gw.frozen? ⟨w.heap.size, k, none⟩ = false := by intro k; rw [gb.frozen (p := ⟨w.heap.size, k, none⟩) hlt]; unfold World.frozen?; rw [heap_alloc_new]; simp
      have f1 := f0 0
      have f2 := f0 1
      have q1 : ((gw.setCell ⟨w.heap.size, 0, none⟩ (.int .i64 0)).setCell ⟨w.heap.size, 1, none⟩ (.int .i64 0)).cell? ⟨w.heap.size, 0, none⟩ = some (.int .i64 0) := by
        rw [World.cell?_setCell_other _ _ _ _ (by intro e; simp only [Addr.mk.injEq] at e; omega)]
        exact World.cell?_setCell_same _ _ _ r0
      have q2 : ((gw.setCell ⟨w.heap.size, 0, none⟩ (.int .i64 0)).setCell ⟨w.heap.size, 1, none⟩ (.int .i64 0)).cell? ⟨w.heap.size, 1, none⟩ = some (.int .i64 0) :=
        World.cell?_setCell_same _ _ _ (by rw [World.cell?_setCell_other _ _ _ _ (by intro e; simp only [Addr.mk.injEq] at e; omega)]; exact r1)
      have hb9 : Hid (Below w.heap.size w ((gw.setCell ⟨w.heap.size, 0, none⟩ (.int .i64 0)).setCell ⟨w.heap.size, 1, none⟩ (.int .i64 0))) := ((by have s0 := gb.size; (try simp only [World.heap_drewN, World.size_alloc] at s0); repeat (first | exact Below.refl _ _ | exact gb | refine Below.trans ?_ (Below.mono gb (by first | omega | (simp; done) | (simp; omega))) | refine Below.setCell ?_ (by first | omega | (simp; done) | (simp; omega)) _ | refine below_dN ?_ _ | refine Below.drew ?_ | refine Below.alloc ?_ (by first | omega | (simp; done) | (simp; omega)) _) : Below w.heap.size w gw).setCell (Nat.le_refl _) _).setCell (Nat.le_refl _) _
      clear gb C1 f0
      go_wp2
      (try simp only [Exit.inBlock, Exit.then])
      refine bodyPost_ret (v := .tuple #[.agg #[.int .i64 0, .int .i64 0], .int .i64 0, .bool false]) ?_ rfl ⟨rfl, hb9.out⟩
      rw [results_cell3 rfl]; go_simp
end Go.Proofs.YtacffjkhbajgkaaDoor
