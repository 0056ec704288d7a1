/- The document's own first, run. -/
import Derived.Test.YtcohodpaagpfgaaDoorEdSch
import Derived.Test.YtcohodpaagpfgaaDoorEdRunM
import Derived.Test.YtcohodpaagpfgaaDoorRegT
import Derived.OwnWalk
import Derived.Maps.AppendAt
import Derived.Deep.AppendLies
import Derived.Deep.RegionWith
import Derived.StillTailTactics
namespace Go.Proofs.YtcohodpaagpfgaaDoor
open Go.RowKit Go.Lib
set_option linter.unusedVariables false
set_option linter.unusedSimpArgs false

set_option maxHeartbeats 1600000 in
set_option maxRecDepth 100000 in
theorem rfirst_any (A : Option Addr) (cap : Nat) (l : List Jb) (M n mc : Nat) (may : Nat → Bool) (b : Int) (w : World) (hl : l.length = n) (hn : n ≤ 1000000) (hcap : cap ≤ 9223372036854775807) (hlc : n ≤ cap) (hR : RdJ w A l)
    (hM : ∀ k, k < n → w.cell? ⟨M, k, none⟩ = some (.bool (may k))) (hmc : n ≤ mc) (hmc2 : mc ≤ 9223372036854775807) (hb : pick may (atL Jb.dl l) n = b) :
    Calls Tryd.prog 55 #[.slice A n cap, .slice (some ⟨M, 0, none⟩) n mc] w (Ret (.int .i64 b) w) := by
  have H := Lib.hid (And.intro hl (And.intro hR (And.intro hM hb)))
  clear hl hR hM hb
  go_enter Tryd.func55, Tryd.ntmps55
  go_wp2
  go_loopw [5, 6] (fun s5 st wr => ∃ (k : Nat) (c : Int) (m : Nat), s5 = .int .i64 c ∧ st = .int .i64 (k : Int) ∧ k ≤ n ∧ wr = w.drewN m ∧ Hid (pick may (atL Jb.dl l) k = c)) (fun _ st _ => n - (intOf st).toNat)
  case atStart => exact ⟨0, -1, 0, rfl, rfl, by omega, rfl, Lib.hid rfl⟩
  case round =>
    obtain ⟨k, c, m, rfl, rfl, hkn, rfl, K⟩ := hrel
    rcases Nat.lt_or_ge k n with hlt | hge
    · have d1 : decide ((k : Int) < (n : Int)) = true := decide_eq_true (by omega)
      have e1 : IntKind.i64.wrap ((k : Int) + 1) = ((k + 1 : Nat) : Int) := by rw [IntKind.wrap_i64]; omega
      have b1 : (k : Int) < (n : Int) := by omega
      have b0 : (0 : Int) ≤ (k : Int) := by omega
      have m0 := H.out.2.2.1 k hlt
      have hnx : pick may (atL Jb.dl l) (k + 1) = if may k && (decide (c < 0) || decide (atL Jb.dl l k < atL Jb.dl l c.toNat)) then (k : Int) else c := by rw [← K.out]; rfl
      obtain ⟨x, hx⟩ : ∃ x, l[k]? = some x := ⟨_, List.getElem?_eq_getElem (by rw [H.out.1]; exact hlt)⟩
      obtain ⟨Bj, off, rfl, hJ⟩ := H.out.2.1 k x hx
      have c2 := hJ.2.2.1
      rw [atL_of hx] at hnx
      have hck : c = -1 ∨ ∃ p : Nat, c = (p : Int) ∧ p < k := by
        rw [← K.out]
        rcases pick_picked may (atL Jb.dl l) k with ⟨h, _⟩ | ⟨i, h, hi, _⟩
        · exact .inl h
        · exact .inr ⟨i, h, hi⟩
      clear hJ hx K
      generalize x.dl = d at *
      cases hm : may k
      · rw [hm] at m0 hnx
        have K2 : Hid (pick may (atL Jb.dl l) (k + 1) = c) := hnx
        clear hnx hck
        go_wp2
        go_quiet (fail)
        go_wp2
        go_roundw
        case rel => exact ⟨k + 1, c, _, rfl, by first | rfl | simp, by omega, rfl, K2⟩
        case measure => simp [intOf]; omega
      · rw [hm] at m0 hnx
        rw [Bool.true_and] at hnx
        rcases hck with rfl | ⟨p, rfl, hpk⟩
        · have K2 : Hid (pick may (atL Jb.dl l) (k + 1) = (k : Int)) := hnx
          have d2 : decide ((-1 : Int) < 0) = true := rfl
          clear hnx
          go_wp2
          go_quiet (fail)
          go_wp2
          go_roundw
          case rel => exact ⟨k + 1, (k : Int), _, by first | rfl | simp, by first | rfl | simp, by omega, rfl, K2⟩
          case measure => simp [intOf]; omega
        · have d2 : decide ((p : Int) < 0) = false := decide_eq_false (by omega)
          have b3 : (p : Int) < (n : Int) := by omega
          have b4 : (0 : Int) ≤ (p : Int) := by omega
          obtain ⟨y, hy⟩ : ∃ x, l[p]? = some x := ⟨_, List.getElem?_eq_getElem (by rw [H.out.1]; omega)⟩
          obtain ⟨Bj', off', he, hJ'⟩ := H.out.2.1 p y hy
          cases he
          have c3 := hJ'.2.2.1
          rw [d2, Bool.false_or, Int.toNat_natCast, atL_of hy] at hnx
          clear hJ' hy
          generalize y.dl = d' at *
          by_cases hd : d < d'
          · have d3 : decide (d < d') = true := decide_eq_true hd
            rw [d3] at hnx
            have K2 : Hid (pick may (atL Jb.dl l) (k + 1) = (k : Int)) := hnx
            clear hnx hd hpk
            go_wp2
            go_quiet (fail)
            go_wp2
            go_roundw
            case rel => exact ⟨k + 1, (k : Int), _, by first | rfl | simp, by first | rfl | simp, by omega, rfl, K2⟩
            case measure => simp [intOf]; omega
          · have d3 : decide (d < d') = false := decide_eq_false hd
            rw [d3] at hnx
            have K2 : Hid (pick may (atL Jb.dl l) (k + 1) = (p : Int)) := hnx
            clear hnx hd hpk
            go_wp2
            go_quiet (fail)
            go_wp2
            go_roundw
            case rel => exact ⟨k + 1, (p : Int), _, rfl, by first | rfl | simp, by omega, rfl, K2⟩
            case measure => simp [intOf]; omega
    · have d1 : decide ((k : Int) < (n : Int)) = false := decide_eq_false (by omega)
      obtain rfl : k = n := by omega
      obtain rfl : c = b := by rw [← K.out, H.out.2.2.2]
      clear K
      go_wp2
      go_ret
      exact ⟨rfl, _, rfl⟩

theorem newsE (w : World) (x : Value) (e : TypeId) (B : Nat) (hB : w.heap.size = B) : ∀ j u, ([x] : List Value)[j]? = some u → (w.alloc (.cells #[x] e)).cell? ((⟨B, 0, none⟩ : Addr).add j) = some u := by
  intro j u hj
  subst hB
  rw [Addr.add_lit]
  match j, hj with
  | 0, hj => simp at hj; subst hj; simp
theorem oneE (x : Int) : ∀ u ∈ [Value.int .i64 x], u.oneCell' = true := by intro u hu; simp at hu; subst hu; rfl
def cellsE (l : List Int) : List Value := l.map (Value.int .i64)
theorem cellsE_snoc (l : List Int) (x : Int) : cellsE (l ++ [x]) = cellsE l ++ [.int .i64 x] := by simp [cellsE]
theorem ownE_ticks {w : World} {base n : Nat} {e : TypeId} {v : Value} {l : List Int} (h : w.ownsRow base e 1 v n (cellsE l)) :
    ∃ A c, v = .slice A l.length c ∧ l.length ≤ c ∧ c ≤ 9223372036854775807 ∧ RdT w A l ∧ ((A = none ∧ c = 0 ∧ l = []) ∨ ∃ ad, A = some ad) := by
  have hn : n = l.length := by have := h.1; simp [cellsE] at this; omega
  subst hn
  rcases h.2 with ⟨rfl, h0⟩ | ⟨g, cap, cur, rfl, hb, hh, h1, h2, _⟩
  · refine ⟨none, 0, by simp [h0], by omega, by decide, fun k x hx => ?_, .inl ⟨rfl, rfl, List.eq_nil_of_length_eq_zero h0⟩⟩
    rw [List.eq_nil_of_length_eq_zero h0] at hx; simp at hx
  · refine ⟨some ⟨g, 0, none⟩, cap, rfl, h1, by unfold maxLen at h2; omega, fun k x hx => ⟨g, 0, rfl, ?_⟩, .inr ⟨_, rfl⟩⟩
    have hk := (List.getElem?_eq_some_iff.1 hx).1
    rw [Nat.zero_add, h.cellAt _ (by omega)]
    simp [cellsE, hx]
theorem Cel.grown {B n : Nat} {f : Nat → Int} {w w' : World} (h : Cel B n f w) {row : Option Nat} (hg : w.grownBy w' row) (hr : row ≠ some B) : Cel B n f w' :=
  ⟨Nat.lt_of_lt_of_le h.lt hg.size, fun k hk => by rw [World.cell?_of_block (hg.block B h.lt (fun e => hr e.symm))]; exact h.cell k hk, fun k hk => by rw [World.frozen?_of_block (hg.block B h.lt (fun e => hr e.symm))]; exact h.frz k hk⟩
/-- Behind an append of one tick. -/
theorem ranE {N R n k : Nat} {f : Nat → Int} {r : List Int} {b : Int} {w wp w3 : World} {v v' : Value} {e e' : TypeId} (hN : N = R) (bw : Below N w wp) (hc : Cel R n f wp) (ho : wp.ownsRow (R + 1) e 1 v k (cellsE r)) (hg : (wp.alloc (.cells #[.int .i64 b] e')).grownBy w3 v.ownBlock)
    (hown : w3.ownsRow (R + 1) e 1 v' (k + 1) (cellsE r ++ [.int .i64 b])) : Below N w w3 ∧ Cel R n f w3 ∧ w3.ownsRow (R + 1) e 1 v' (k + 1) (cellsE (r ++ [b])) := by
  subst hN
  have hl := hc.lt
  have bm : Below wp.heap.size wp (wp.alloc (.cells #[.int .i64 b] e')) := (Below.refl _ _).alloc (Nat.le_refl _) _
  refine ⟨(bw.trans (bm.mono (Nat.le_of_lt hl))).grown hg (by simp; omega) (fun j hj => by have := (ho.lt j hj).1; omega), (hc.on bm).grown hg (fun e => by have := (ho.lt _ e).1; omega), by rw [cellsE_snoc]; exact hown⟩
/-- A block B of n answers f. -/
structure CelB (B n : Nat) (f : Nat → Bool) (w : World) : Prop where
  lt : B < w.heap.size
  cell : ∀ k, k < n → w.cell? ⟨B, k, none⟩ = some (.bool (f k))
  frz : ∀ k, k < n → w.frozen? ⟨B, k, none⟩ = false
section
variable {B n : Nat} {f g : Nat → Bool} {w w' : World}
theorem CelB.drewN (h : CelB B n f w) (k : Nat) : CelB B n f (w.drewN k) := ⟨h.lt, h.cell, h.frz⟩
theorem CelB.drew (h : CelB B n f w) : CelB B n f w.drew := ⟨h.lt, h.cell, h.frz⟩
theorem CelB.to (h : CelB B n f w) (e : ∀ k, k < n → f k = g k) : CelB B n g w := ⟨h.lt, fun k hk => by rw [← e k hk]; exact h.cell k hk, h.frz⟩
theorem CelB.store (h : CelB B n f w) {k : Nat} (hk : k < n) (v : Bool) : CelB B n (fun q => if q = k then v else f q) (w.setCell ⟨B, k, none⟩ (.bool v)) := by
  refine ⟨by simpa [World.setCell] using h.lt, fun q hq => ?_, fun q hq => ?_⟩
  · by_cases c : q = k
    · subst c; rw [if_pos rfl]; exact World.cell?_setCell_same _ _ _ (h.cell q hq)
    · rw [if_neg c, World.cell?_setCell_other _ _ _ _ (by intro e'; simp only [Addr.mk.injEq] at e'; omega)]; exact h.cell q hq
  · rw [World.frozen?_setCell]; exact h.frz q hq
theorem CelB.fresh (w0 : World) (e : TypeId) (n : Nat) : CelB w0.heap.size n (fun _ => false) (w0.alloc (.cells (madeCells #[.bool false] n) e)) := by
  refine ⟨by simp, fun k hk => ?_, fun k hk => ?_⟩
  · have e1 : (madeCells #[Value.bool false] n)[k]? = some (.bool false) := by
      unfold madeCells
      simp [hk, Nat.mod_one]
    simp [e1]
  · unfold World.frozen?
    rw [heap_alloc_new]
    simp
end
theorem Tryd.infoBl : (Tryd.prog.info? 4).map (fun i => (i.zero, i.size, i.bytes)) = some (some (.bool false), 1, 1) := by kernel_rfl
section
variable (n : Nat) (rel dl wk : Nat → Int)
/-- How often each has run behind k ticks. -/
def rnE (k : Nat) (i : Nat) : Int := cn (edfT n rel dl wk k) k i
/-- The first i answers laid. -/
def laidM (k i : Nat) (q : Nat) : Bool := if q < i then mayB rel wk (edfT n rel dl wk k) k q else false
variable {n rel dl wk}
theorem rnE_zero (i : Nat) : rnE n rel dl wk 0 i = 0 := cn_zero _ _
theorem rnE_next (k i : Nat) : rnE n rel dl wk (k + 1) i = rnE n rel dl wk k i + (if pickE n rel dl wk k = (i : Int) then 1 else 0) := by
  unfold rnE
  rw [cn_next i (edfT_pick k), cn_edfT i (Nat.le_succ k)]
theorem rnE_bound (k i : Nat) : 0 ≤ rnE n rel dl wk k i ∧ rnE n rel dl wk k i ≤ (k : Int) := ⟨cn_nonneg _ _ _, cn_le _ _ _⟩
theorem laidM_next (k i : Nat) : (fun q => if q = i then mayB rel wk (edfT n rel dl wk k) k i else laidM n rel dl wk k i q) = laidM n rel dl wk k (i + 1) := by
  funext q; unfold laidM
  by_cases c : q = i
  · subst c; rw [if_pos rfl, if_pos (by omega)]
  · rw [if_neg c]
    by_cases c2 : q < i
    · rw [if_pos c2, if_pos (by omega)]
    · rw [if_neg c2, if_neg (by omega)]
end
set_option maxHeartbeats 3200000 in
set_option maxRecDepth 100000 in
theorem rrun_any (A : Option Addr) (cap : Nat) (l : List Jb) (f : Jb → Int) (Wa : Option Addr) (wc : Nat) (ws : List Int) (t : Nat) (w : World) (hn : l.length ≤ 1000) (hcap : cap ≤ 9223372036854775807) (hlc : l.length ≤ cap) (hR : RdJ w A l)
    (hwl : ws.length = l.length) (hws : ∀ (i : Nat) (x : Int), ws[i]? = some x → atL f l i = x) (hW : RdT w Wa ws) (hwc : l.length ≤ wc) (hwc2 : wc ≤ 9223372036854775807) (ht : t ≤ 10000) :
    Calls Tryd.prog 36 #[.slice A l.length cap, .slice Wa l.length wc, .int .i64 (t : Int)] w (Ticks (edfL f l t) w) := by
  obtain ⟨n, hl⟩ : ∃ n, l.length = n := ⟨_, rfl⟩
  obtain ⟨i0, hi0, hz0, hz1, hz2⟩ := info_parts Tryd.infoI
  have hmk : ∀ w', (Instr.makeSlice 29 (.int .i64 (n : Int)) (.int .i64 (n : Int))).run Tryd.prog w' = .ok (.slice (some ⟨w'.heap.size, 0, none⟩) n n) (w'.alloc (.cells (madeCells #[.int .i64 0] n) 3)) := fun w' => run_make_row' _ _ _ 8 Tryd.underlying29 Tryd.infoI (by kernel_rfl) .i64 .i64 n (by omega) (by omega) w'
  have hmkb : Hid (∀ w', (Instr.makeSlice 74 (.int .i64 (n : Int)) (.int .i64 (n : Int))).run Tryd.prog w' = .ok (.slice (some ⟨w'.heap.size, 0, none⟩) n n) (w'.alloc (.cells (madeCells #[.bool false] n) 4))) := fun w' => run_make_row' _ _ _ 1 Tryd.underlying74 Tryd.infoBl (by kernel_rfl) .i64 .i64 n (by omega) (by omega) w'
  have hed : Hid (∀ k, edfL f l k = edfT n (atL Jb.rel l) (atL Jb.dl l) (atL f l) k) := fun k => by rw [← hl]; rfl
  have H := Lib.hid (And.intro hl (And.intro hR (And.intro (hwl.trans hl) (And.intro hws hW))))
  generalize hrelF : atL Jb.rel l = rel at *
  generalize hdlF : atL Jb.dl l = dl at *
  generalize hwkF : atL f l = wk at *
  have hrelF' := Lib.hid hrelF
  have hdlF' := Lib.hid hdlF
  rw [hl] at hn hlc hwc ⊢
  clear hl hR hwl hws hW hrelF hdlF hwkF
  have hm : Below w.heap.size w (w.alloc (.cells (madeCells #[.int .i64 0] n) 3)) := (Below.refl _ _).alloc (Nat.le_refl _) _
  have K0 : Hid (Below w.heap.size w (w.alloc (.cells (madeCells #[.int .i64 0] n) 3)) ∧ Cel w.heap.size n (rnE n rel dl wk 0) (w.alloc (.cells (madeCells #[.int .i64 0] n) 3)) ∧ (w.alloc (.cells (madeCells #[.int .i64 0] n) 3)).ownsRow (w.heap.size + 1) 3 1 (.slice none 0 0) 0 (cellsE (edfT n rel dl wk 0))) :=
    ⟨hm, (freshC w 3 n).to fun k hk => (rnE_zero k).symm, World.ownsRow_nil _ _ _ _⟩
  clear hm
  go_enter Tryd.func36, Tryd.ntmps36
  go_wp2
  clear hmk
  generalize w.alloc _ = w1 at K0 ⊢
  have hRw : Hid (w.heap.size ≤ w.heap.size) := Nat.le_refl _
  generalize hRB : w.heap.size = R at K0 ⊢
  replace hRB := Lib.hid hRB
  go_loopw [7, 9] (fun s7 st wr => ∃ (k : Nat), st = .int .i64 (k : Int) ∧ k ≤ t ∧ Hid (Below w.heap.size w wr ∧ Cel R n (rnE n rel dl wk k) wr ∧ wr.ownsRow (R + 1) 3 1 s7 k (cellsE (edfT n rel dl wk k)))) (fun _ st _ => t - (intOf st).toNat)
  case atStart => exact ⟨0, rfl, by omega, by show _ ∧ _; rw [hRB.out]; exact K0.out⟩
  case round =>
    clear K0
    obtain ⟨k, rfl, hkt, K⟩ := hrel
    rcases Nat.lt_or_ge k t with hlt | hge
    · have d1 : decide ((k : Int) < (t : Int)) = true := decide_eq_true (by omega)
      have e1 : IntKind.i64.wrap ((k : Int) + 1) = ((k + 1 : Nat) : Int) := by rw [IntKind.wrap_i64]; omega
      have hmkb1 := hmkb.out
      obtain ⟨wo, hwo⟩ : ∃ v, v = wr := ⟨wr, rfl⟩
      subst hwo
      have hb1 : Below wo.heap.size wo (wo.alloc (.cells (madeCells #[.bool false] n) 4)) := (Below.refl _ _).alloc (Nat.le_refl _) _
      have J0 : Hid (Below wo.heap.size wo (wo.alloc (.cells (madeCells #[.bool false] n) 4)) ∧ CelB wo.heap.size n (laidM n rel dl wk k 0) (wo.alloc (.cells (madeCells #[.bool false] n) 4))) :=
        ⟨hb1, (CelB.fresh wo 4 n).to fun q hq => by unfold laidM; rw [if_neg (by omega)]⟩
      clear hb1
      obtain ⟨A7, c7, hv7, _⟩ := ownE_ticks K.out.2.2
      rw [edfT_len] at hv7
      subst hv7
      go_wp2
      clear hmkb1
      generalize wo.alloc _ = w2 at J0 ⊢
      generalize hMB : wo.heap.size = M at J0 ⊢
      replace hMB := Lib.hid hMB
      go_loopw [11] (fun st wr => ∃ (i : Nat), st = .int .i64 (i : Int) ∧ i ≤ n ∧ Hid (Below wo.heap.size wo wr ∧ CelB M n (laidM n rel dl wk k i) wr)) (fun st _ => n - (intOf st).toNat)
      case atStart => exact ⟨0, rfl, by omega, by show _ ∧ _; rw [hMB.out]; exact J0.out⟩
      case round =>
        clear J0
        obtain ⟨i, rfl, hin, J⟩ := hrel
        rcases Nat.lt_or_ge i n with hlt2 | hge2
        · have d2 : decide ((i : Int) < (n : Int)) = true := decide_eq_true (by omega)
          have e2 : IntKind.i64.wrap ((i : Int) + 1) = ((i + 1 : Nat) : Int) := by rw [IntKind.wrap_i64]; omega
          have b1 : (i : Int) < (n : Int) := by omega
          have b0 : (0 : Int) ≤ (i : Int) := by omega
          obtain ⟨x, hx⟩ : ∃ x, l[i]? = some x := ⟨_, List.getElem?_eq_getElem (by rw [H.out.1]; exact hlt2)⟩
          have bw := below_on K.out.1 J.out.1
          obtain ⟨Bj, off, rfl, hJ⟩ := (H.out.2.1.below bw) i x hx
          have c1 := hJ.2.1
          obtain ⟨y, hy⟩ : ∃ x, ws[i]? = some x := ⟨_, List.getElem?_eq_getElem (by rw [H.out.2.2.1]; exact hlt2)⟩
          obtain ⟨Bw, offw, rfl, y0⟩ := (H.out.2.2.2.2.below bw) i y hy
          have hyw := H.out.2.2.2.1 i y hy
          have hrx : rel i = x.rel := by rw [← hrelF'.out]; exact atL_of hx
          have r0 := (K.out.2.1.on J.out.1).cell i hlt2
          have m0 := J.out.2.cell i hlt2
          have m1 := J.out.2.frz i hlt2
          have hmay : mayB rel wk (edfT n rel dl wk k) k i = (decide (x.rel ≤ (k : Int)) && decide (rnE n rel dl wk k i < y)) := by unfold mayB; rw [hrx, hyw]; rfl
          have hst : Hid (∀ (b : Bool) (W : World), mayB rel wk (edfT n rel dl wk k) k i = b → CelB M n (laidM n rel dl wk k i) W → CelB M n (laidM n rel dl wk k (i + 1)) (W.setCell ⟨M, i, none⟩ (.bool b))) := fun b W hb h => by
            have := h.store hlt2 b
            rw [← hb, laidM_next] at this
            rw [← hb]; exact this
          clear hJ hx hy hyw hrx bw
          generalize x.rel = rl at *
          generalize rnE n rel dl wk k i = rn at *
          by_cases t1 : rl ≤ (k : Int)
          · have d3 : decide (rl ≤ (k : Int)) = true := decide_eq_true t1
            obtain ⟨q, hq⟩ : ∃ q, decide (rn < y) = q := ⟨_, rfl⟩
            rw [d3, hq, Bool.true_and] at hmay
            have J2 : Hid (Below wo.heap.size wo (wr.drew.setCell ⟨M, i, none⟩ (.bool q)) ∧ CelB M n (laidM n rel dl wk k (i + 1)) (wr.drew.setCell ⟨M, i, none⟩ (.bool q))) := ⟨J.out.1.drew.setCell (by have := hMB.out; show _ ≤ M; omega) _, hst.out q _ hmay J.out.2.drew⟩
            have m2 : wr.drew.cell? ⟨M, i, none⟩ = some (.bool (laidM n rel dl wk k i i)) := m0
            have m3 : wr.drew.frozen? ⟨M, i, none⟩ = false := m1
            clear K J hst hmay t1
            go_wp2
            go_still_tail 21, (by kernel_rfl)
            change wpList _ _ _ _ _ wr.drew
            clear m0 m1 c1 y0 r0
            generalize wr.drew = wq at *
            go_wp2
            go_roundw
            case rel => exact ⟨i + 1, by first | rfl | simp, by omega, by first | exact J2 | (rw [← hq] at J2; exact J2) | (simp only [hq]; exact J2)⟩
            case measure => simp [intOf]; omega
          · have d3 : decide (rl ≤ (k : Int)) = false := decide_eq_false t1
            rw [d3, Bool.false_and] at hmay
            have J2 : Hid (Below wo.heap.size wo (wr.drew.setCell ⟨M, i, none⟩ (.bool false)) ∧ CelB M n (laidM n rel dl wk k (i + 1)) (wr.drew.setCell ⟨M, i, none⟩ (.bool false))) := ⟨J.out.1.drew.setCell (by have := hMB.out; show _ ≤ M; omega) _, hst.out false _ hmay J.out.2.drew⟩
            have m2 : wr.drew.cell? ⟨M, i, none⟩ = some (.bool (laidM n rel dl wk k i i)) := m0
            have m3 : wr.drew.frozen? ⟨M, i, none⟩ = false := m1
            have c2 : wr.drew.cell? ⟨Bj, off + i * 8 + 1, none⟩ = some (.int .i64 rl) := c1
            clear K J hst hmay t1 m0 m1 c1 y0 r0
            go_wp2
            refine wp_region_T (fun W => W.cell? ⟨Bj, off + i * 8 + 1, none⟩ = some (.int .i64 rl)) 21 (by kernel_rfl) ?_
            generalize wr.drew = wq at *
            refine wpAnyT_free (i := 0) (v := (.slice (some ⟨M, 0, none⟩) n n)) rfl (by kernel_rfl) (fun _ _ _ h => h) (Or.inl ⟨by rfl, ?_⟩) (fun _ => c2) ?_
            · intro w _; go_simp
            try simp only [List.getElem_toArray, List.getElem_cons_zero, List.getElem_cons_succ, Act.put, List.setIfInBounds_toArray, List.set_cons_zero, List.set_cons_succ]
            refine wpAnyT_free (i := 1) (v := (.int .i64 (i : Int))) rfl (by kernel_rfl) (fun _ _ _ h => h) (Or.inl ⟨by rfl, ?_⟩) (fun _ => c2) ?_
            · intro w _; go_simp
            try simp only [List.getElem_toArray, List.getElem_cons_zero, List.getElem_cons_succ, Act.put, List.setIfInBounds_toArray, List.set_cons_zero, List.set_cons_succ]
            refine wpAnyT_free (i := 2) (v := (.slice (some ⟨Bj, off, none⟩) n cap)) rfl (by kernel_rfl) (fun _ _ _ h => h) (Or.inl ⟨by rfl, ?_⟩) (fun _ => c2) ?_
            · intro w _; go_simp
            try simp only [List.getElem_toArray, List.getElem_cons_zero, List.getElem_cons_succ, Act.put, List.setIfInBounds_toArray, List.set_cons_zero, List.set_cons_succ]
            refine wpAnyT_free (i := 3) (v := (.int .i64 (i : Int))) rfl (by kernel_rfl) (fun _ _ _ h => h) (Or.inl ⟨by rfl, ?_⟩) (fun _ => c2) ?_
            · intro w _; go_simp
            try simp only [List.getElem_toArray, List.getElem_cons_zero, List.getElem_cons_succ, Act.put, List.setIfInBounds_toArray, List.set_cons_zero, List.set_cons_succ]
            refine wpAnyT_free (i := 4) (v := (.pointer (some ⟨Bj, off + i * 8, none⟩))) rfl (by kernel_rfl) (fun _ _ _ h => h) (Or.inl ⟨by rfl, ?_⟩) (fun _ => c2) ?_
            · intro w _; go_simp
            try simp only [List.getElem_toArray, List.getElem_cons_zero, List.getElem_cons_succ, Act.put, List.setIfInBounds_toArray, List.set_cons_zero, List.set_cons_succ]
            refine wpAnyT_free (i := 5) (v := (.pointer (some ⟨Bj, off + i * 8 + 1, none⟩))) rfl (by kernel_rfl) (fun _ _ _ h => h) (Or.inl ⟨by rfl, ?_⟩) (fun _ => c2) ?_
            · intro w _; go_simp
            try simp only [List.getElem_toArray, List.getElem_cons_zero, List.getElem_cons_succ, Act.put, List.setIfInBounds_toArray, List.set_cons_zero, List.set_cons_succ]
            refine wpAnyT_take (i := 6) (v := (.int .i64 rl)) rfl (by kernel_rfl) (fun _ _ _ h => h) (Or.inl ⟨by rfl, ?_⟩) c2 ?_
            · intro w hSw; go_simp
            try simp only [List.getElem_toArray, List.getElem_cons_zero, List.getElem_cons_succ, Act.put, List.setIfInBounds_toArray, List.set_cons_zero, List.set_cons_succ]
            refine wpAnyT_free (i := 7) (v := (.int .i64 (k : Int))) rfl (by kernel_rfl) (fun _ _ _ h => h) (Or.inl ⟨by rfl, ?_⟩) (fun _ => c2) ?_
            · intro w _; go_simp
            try simp only [List.getElem_toArray, List.getElem_cons_zero, List.getElem_cons_succ, Act.put, List.setIfInBounds_toArray, List.set_cons_zero, List.set_cons_succ]
            refine wpAnyT_free (i := 8) (v := (.bool false)) rfl (by kernel_rfl) (fun _ _ _ h => h) (Or.inl ⟨by rfl, ?_⟩) (fun _ => c2) ?_
            · intro w _; go_simp
            try simp only [List.getElem_toArray, List.getElem_cons_zero, List.getElem_cons_succ, Act.put, List.setIfInBounds_toArray, List.set_cons_zero, List.set_cons_succ]
            refine wpAnyT_free (i := 9) (v := (.bool false)) rfl (by kernel_rfl) (fun _ _ _ h => h) (Or.inl ⟨by rfl, ?_⟩) (fun _ => c2) ?_
            · intro w _; go_simp
            try simp only [List.getElem_toArray, List.getElem_cons_zero, List.getElem_cons_succ, Act.put, List.setIfInBounds_toArray, List.set_cons_zero, List.set_cons_succ]
            refine wpAnyT_free (i := 10) (v := undef) rfl (by kernel_rfl) (fun _ _ _ h => h) (Or.inr ⟨by rfl, rfl⟩) (fun _ => c2) ?_
            try simp only [List.getElem_toArray, List.getElem_cons_zero, List.getElem_cons_succ, Act.put, List.setIfInBounds_toArray, List.set_cons_zero, List.set_cons_succ]
            refine wpAnyT_free (i := 11) (v := undef) rfl (by kernel_rfl) (fun _ _ _ h => h) (Or.inr ⟨by rfl, rfl⟩) (fun _ => c2) ?_
            try simp only [List.getElem_toArray, List.getElem_cons_zero, List.getElem_cons_succ, Act.put, List.setIfInBounds_toArray, List.set_cons_zero, List.set_cons_succ]
            refine wpAnyT_free (i := 12) (v := undef) rfl (by kernel_rfl) (fun _ _ _ h => h) (Or.inr ⟨by rfl, rfl⟩) (fun _ => c2) ?_
            try simp only [List.getElem_toArray, List.getElem_cons_zero, List.getElem_cons_succ, Act.put, List.setIfInBounds_toArray, List.set_cons_zero, List.set_cons_succ]
            refine wpAnyT_free (i := 13) (v := undef) rfl (by kernel_rfl) (fun _ _ _ h => h) (Or.inr ⟨by rfl, rfl⟩) (fun _ => c2) ?_
            try simp only [List.getElem_toArray, List.getElem_cons_zero, List.getElem_cons_succ, Act.put, List.setIfInBounds_toArray, List.set_cons_zero, List.set_cons_succ]
            refine wpAnyT_free (i := 14) (v := undef) rfl (by kernel_rfl) (fun _ _ _ h => h) (Or.inr ⟨by rfl, rfl⟩) (fun _ => c2) ?_
            try simp only [List.getElem_toArray, List.getElem_cons_zero, List.getElem_cons_succ, Act.put, List.setIfInBounds_toArray, List.set_cons_zero, List.set_cons_succ]
            refine wpAnyT_free (i := 15) (v := undef) rfl (by kernel_rfl) (fun _ _ _ h => h) (Or.inr ⟨by rfl, rfl⟩) (fun _ => c2) ?_
            try simp only [List.getElem_toArray, List.getElem_cons_zero, List.getElem_cons_succ, Act.put, List.setIfInBounds_toArray, List.set_cons_zero, List.set_cons_succ]
            refine wpAnyT_free (i := 16) (v := undef) rfl (by kernel_rfl) (fun _ _ _ h => h) (Or.inr ⟨by rfl, rfl⟩) (fun _ => c2) ?_
            try simp only [List.getElem_toArray, List.getElem_cons_zero, List.getElem_cons_succ, Act.put, List.setIfInBounds_toArray, List.set_cons_zero, List.set_cons_succ]
            refine wpAnyT_free (i := 17) (v := undef) rfl (by kernel_rfl) (fun _ _ _ h => h) (Or.inr ⟨by rfl, rfl⟩) (fun _ => c2) ?_
            try simp only [List.getElem_toArray, List.getElem_cons_zero, List.getElem_cons_succ, Act.put, List.setIfInBounds_toArray, List.set_cons_zero, List.set_cons_succ]
            refine wpAnyT_free (i := 18) (v := undef) rfl (by kernel_rfl) (fun _ _ _ h => h) (Or.inr ⟨by rfl, rfl⟩) (fun _ => c2) ?_
            try simp only [List.getElem_toArray, List.getElem_cons_zero, List.getElem_cons_succ, Act.put, List.setIfInBounds_toArray, List.set_cons_zero, List.set_cons_succ]
            refine wpAnyT_free (i := 19) (v := (.bool false)) rfl (by kernel_rfl) (fun _ _ _ h => h) (Or.inl ⟨by rfl, ?_⟩) (fun _ => c2) ?_
            · intro w _; go_simp
            try simp only [List.getElem_toArray, List.getElem_cons_zero, List.getElem_cons_succ, Act.put, List.setIfInBounds_toArray, List.set_cons_zero, List.set_cons_succ]
            refine wpAnyT_free (i := 20) (v := (.pointer (some ⟨M, i, none⟩))) rfl (by kernel_rfl) (fun _ _ _ h => h) (Or.inl ⟨by rfl, ?_⟩) (fun _ => c2) ?_
            · intro w _; go_simp
            try simp only [List.getElem_toArray, List.getElem_cons_zero, List.getElem_cons_succ, Act.put, List.setIfInBounds_toArray, List.set_cons_zero, List.set_cons_succ]
            refine wpAnyT_ready (rs := [21]) (by kernel_rfl) (by simp) ?_
            refine AllT.cons rfl (fun K hK => ?_) AllT.nil
            go_simp
            refine hK _ _ (fun h => absurd (h.symm.trans (by kernel_rfl)) Bool.false_ne_true) ?_
            clear hK K
            try simp only [List.getElem_toArray, List.getElem_cons_zero, List.getElem_cons_succ, Act.put, List.setIfInBounds_toArray, List.set_cons_zero, List.set_cons_succ]
            refine wpAnyT_done (by kernel_rfl) ?_ _
            go_wp2
            go_roundw
            case rel => exact ⟨i + 1, by first | rfl | simp, by omega, J2⟩
            case measure => simp [intOf]; omega
        · have d2 : decide ((i : Int) < (n : Int)) = false := decide_eq_false (by omega)
          obtain rfl : i = n := by omega
          obtain ⟨b, hb⟩ : ∃ b, pickE i rel dl wk k = b := ⟨_, rfl⟩
          have bw : Hid (Below w.heap.size w wr) := below_on K.out.1 J.out.1
          have C := Lib.hid (rfirst_any A cap l M i i (mayB rel wk (edfT i rel dl wk k) k) b wr H.out.1 (by omega) hcap hlc (H.out.2.1.below bw.out) (fun q hq => by rw [J.out.2.cell q hq]; unfold laidM; rw [if_pos hq]) (Nat.le_refl _) (by omega) (by rw [hdlF'.out]; exact hb))
          have KR : Hid (Cel R i (rnE i rel dl wk k) wr) := K.out.2.1.on J.out.1
          have KV : Hid (wr.ownsRow (R + 1) 3 1 (.slice A7 k c7) k (cellsE (edfT i rel dl wk k))) := own_same K.out.2.2 fun q hq => J.out.1.block q ((K.out.2.2.lt q hq).2)
          have hbR : Hid (R + 1 ≤ wr.heap.size) := KR.out.lt
          have hnx : Hid (edfT i rel dl wk (k + 1) = edfT i rel dl wk k ++ [b]) := by show _ = _; rw [edfT_succ, ← hb]; rfl
          have hk9 : k < 10000 := by omega
          clear K J
          go_wp2_with fail
          refine C.out.mono ?_; rintro e w' ⟨rfl, m, rfl⟩
          replace bw : Hid (Below w.heap.size w (wr.drewN m)) := below_dN bw.out m
          replace KR : Hid (Cel R i (rnE i rel dl wk k) (wr.drewN m)) := KR.out.drewN m
          replace KV : Hid ((wr.drewN m).ownsRow (R + 1) 3 1 (.slice A7 k c7) k (cellsE (edfT i rel dl wk k))) := KV.out
          replace hbR : Hid (R + 1 ≤ (wr.drewN m).heap.size) := hbR.out
          generalize wr.drewN m = wp at *
          clear C
          rcases pickE_cases (n := i) (rel := rel) (dl := dl) (wk := wk) k with hp | ⟨p, hp, hpn, _⟩
          · rw [hp] at hb
            subst hb
            have d5 : decide ((-1 : Int) ≥ 0) = false := rfl
            have KR2 : Hid (Cel R i (rnE i rel dl wk (k + 1)) wp) := KR.out.to fun q hq => by rw [rnE_next, hp, if_neg (by omega)]; omega
            clear KR hp
            go_wp2_with (at_builtin; refine wpList_append_own_at _ rfl (.tmp 62) (.tmp 64) 29 rfl (R + 1) 3 i0 (.int .i64 0) 1 8 Tryd.underlying29 hi0 hz0 hz1 hz2 rfl (by decide) _ _ _ rfl (KV.out.alloc _) ⟨wp.heap.size, 0, none⟩ 1 1 [.int .i64 (-1)] rfl rfl (newsE _ _ _ _ rfl) (oneE _) (by unfold maxLen; omega) (by omega) (by have := hbR.out; simp; omega) ?_)
            intro v' w3 hown' hgrow' hnil hloc
            have K9 : Hid (Below w.heap.size w w3 ∧ Cel R i (rnE i rel dl wk (k + 1)) w3 ∧ w3.ownsRow (R + 1) 3 1 v' (k + 1) (cellsE (edfT i rel dl wk (k + 1)))) := by
              have := ranE hRB.out bw.out KR2.out KV.out hgrow' hown'
              rw [← hnx.out] at this
              exact this
            clear hown' hgrow' hnil hloc KR2 KV bw hbR hnx
            go_wp2
            go_roundw
            case rel => exact ⟨k + 1, by first | rfl | simp, by omega, K9⟩
            case measure => simp [intOf]; omega
          · rw [hp] at hb
            subst hb
            have d5 : decide ((p : Int) ≥ 0) = true := decide_eq_true (by omega)
            have b1 : (p : Int) < (i : Int) := by omega
            have b0 : (0 : Int) ≤ (p : Int) := by omega
            obtain ⟨F, hF⟩ : ∃ F, rnE i rel dl wk k p = F := ⟨_, rfl⟩
            have bd := rnE_bound (n := i) (rel := rel) (dl := dl) (wk := wk) k p
            have hup : Hid (∀ q, q < i → (if q = p then rnE i rel dl wk k p + 1 else rnE i rel dl wk k q) = rnE i rel dl wk (k + 1) q) := fun q hq => by
              rw [rnE_next, hp]
              by_cases c : q = p
              · subst c; rw [if_pos rfl, if_pos rfl]
              · rw [if_neg c, if_neg (by omega)]; omega
            have y0 : wp.cell? ⟨R, p, none⟩ = some (.int .i64 F) := by rw [← hF]; exact KR.out.cell p hpn
            have y1 : wp.frozen? ⟨R, p, none⟩ = false := KR.out.frz p hpn
            rw [hF] at bd hup
            obtain ⟨q, hq⟩ : ∃ q, F + 1 = q := ⟨_, rfl⟩
            have e3 : IntKind.i64.wrap (F + 1) = q := by rw [IntKind.wrap_i64]; omega
            have e4 : wrap64 (F + 1) = q := by unfold wrap64; omega
            rw [hq] at hup
            have KR2 : Hid (Cel R i (rnE i rel dl wk (k + 1)) (wp.setCell ⟨R, p, none⟩ (.int .i64 q))) := (KR.out.store hpn q).to fun j hj => hup.out j hj
            have KV2 : Hid ((wp.setCell ⟨R, p, none⟩ (.int .i64 q)).ownsRow (R + 1) 3 1 (.slice A7 k c7) k (cellsE (edfT i rel dl wk k))) := ownsRow_setCell_other KV.out (fun e => by have := (KV.out.lt _ e).1; simp at this; omega) _
            have bw2 : Hid (Below w.heap.size w (wp.setCell ⟨R, p, none⟩ (.int .i64 q))) := bw.out.setCell (by have := hRB.out; show _ ≤ R; omega) _
            have hk1 : k + 1 ≤ t := by omega
            have hk2 : t - (k + 1) < t - k := by omega
            clear KR hp hF bd hup hq KV bw
            go_wp2_with (at_builtin; refine wpList_append_own_at _ rfl (.tmp 62) (.tmp 64) 29 rfl (R + 1) 3 i0 (.int .i64 0) 1 8 Tryd.underlying29 hi0 hz0 hz1 hz2 rfl (by decide) _ _ _ rfl (KV2.out.alloc _) ⟨wp.heap.size, 0, none⟩ 1 1 [.int .i64 (p : Int)] rfl rfl (newsE _ _ _ _ (by simp)) (oneE _) (by unfold maxLen; clear e3 e4; omega) (by clear e3 e4; omega) (by have := hbR.out; simp; clear e3 e4; omega) ?_)
            intro v' w3 hown' hgrow' hnil hloc
            have K9 : Hid (Below w.heap.size w w3 ∧ Cel R i (rnE i rel dl wk (k + 1)) w3 ∧ w3.ownsRow (R + 1) 3 1 v' (k + 1) (cellsE (edfT i rel dl wk (k + 1)))) := by
              have := ranE hRB.out bw2.out KR2.out KV2.out hgrow' hown'
              rw [← hnx.out] at this
              exact this
            clear hown' hgrow' hnil hloc KR2 KV2 bw2 hbR hnx
            go_wp2
            go_roundw
            case rel => exact ⟨k + 1, by first | rfl | simp, hk1, K9⟩
            case measure => simp [intOf]; clear e3 e4; omega
    · have d1 : decide ((k : Int) < (t : Int)) = false := decide_eq_false (by omega)
      obtain rfl : k = t := by omega
      obtain ⟨A7, c7, hv7, h1, h2, h3, h4⟩ := ownE_ticks K.out.2.2
      rw [edfT_len] at hv7 h1
      subst hv7
      have K9 := Lib.hid (And.intro K.out.1 (And.intro h3 h4))
      clear K h3 h4
      go_wp2
      go_ret
      refine ⟨A7, c7, by first | (rw [edfL_len]; done) | (rw [edfL_len]; rfl), by rw [edfL_len]; exact h1, h2, ?_, K9.out.1, ?_⟩
      · rw [hed.out]; exact K9.out.2.1
      · rw [hed.out]; exact K9.out.2.2
end Go.Proofs.YtcohodpaagpfgaaDoor
