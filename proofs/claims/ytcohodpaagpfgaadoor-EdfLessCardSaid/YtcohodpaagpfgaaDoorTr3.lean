/- The contracts of package trace: works, Good, Cut. -/
import Derived.Test.YtcohodpaagpfgaaDoorTr2
import Derived.Deep.OwnRows
import Derived.Laws.CopyRow
import Derived.Laws.IdiomCopy
namespace Go.Proofs.YtcohodpaagpfgaaDoor
open Go.RowKit Go.Lib
set_option linter.unusedVariables false
set_option linter.unusedSimpArgs false

/-- A new block B of n numbers f, beyond w0. -/
structure Arr (w0 : World) (B n : Nat) (f : Nat → Int) (w : World) : Prop where
  below : Below B w0 w
  size : B < w.heap.size
  cell : ∀ k, k < n → w.cell? ⟨B, k, none⟩ = some (.int .i64 (f k))
  frz : ∀ k, k < n → w.frozen? ⟨B, k, none⟩ = false
theorem Arr.on {w0 w w' : World} {B n : Nat} {f : Nat → Int} (h : Arr w0 B n f w) (hb : Below w.heap.size w w') : Arr w0 B n f w' :=
  ⟨h.below.trans (hb.mono (Nat.le_of_lt h.size)), Nat.lt_of_lt_of_le h.size hb.size, fun k hk => by rw [hb.cell (p := ⟨B, k, none⟩) h.size]; exact h.cell k hk, fun k hk => by rw [hb.frozen (p := ⟨B, k, none⟩) h.size]; exact h.frz k hk⟩
theorem Arr.drewN {w0 w : World} {B n : Nat} {f : Nat → Int} (h : Arr w0 B n f w) (k : Nat) : Arr w0 B n f (w.drewN k) := h.on (below_dN (Below.refl _ _) k)
theorem Arr.to {w0 w : World} {B n : Nat} {f g : Nat → Int} (h : Arr w0 B n f w) (e : ∀ k, k < n → f k = g k) : Arr w0 B n g w :=
  ⟨h.below, h.size, fun k hk => by rw [← e k hk]; exact h.cell k hk, h.frz⟩
theorem Arr.store {w0 w : World} {B n : Nat} {f : Nat → Int} (h : Arr w0 B n f w) {k : Nat} (hk : k < n) (v : Int) : Arr w0 B n (fun q => if q = k then v else f q) (w.setCell ⟨B, k, none⟩ (.int .i64 v)) := by
  refine ⟨h.below.setCell (Nat.le_refl B) _, by simpa [World.setCell] using h.size, fun q hq => ?_, fun q hq => ?_⟩
  · by_cases c : q = k
    · subst c; rw [if_pos rfl]; exact World.cell?_setCell_same _ _ _ (h.cell q hq)
    · rw [if_neg c, World.cell?_setCell_other _ _ _ _ (by intro e'; simp only [Addr.mk.injEq] at e'; omega)]; exact h.cell q hq
  · rw [World.frozen?_setCell]; exact h.frz q hq
theorem Arr.fresh (w0 : World) (e : TypeId) (n : Nat) : Arr w0 w0.heap.size n (fun _ => 0) (w0.alloc (.cells (madeCells #[.int .i64 0] n) e)) := by
  refine ⟨(Below.refl _ _).alloc (Nat.le_refl _) _, by simp, fun k hk => ?_, fun k hk => ?_⟩
  · have e1 : (madeCells #[Value.int .i64 0] n)[k]? = some (.int .i64 0) := by
      unfold madeCells
      simp [hk, Nat.mod_one]
    simp [e1]
  · unfold World.frozen?
    rw [heap_alloc_new]
    simp
theorem Tryd.infoI : (Tryd.prog.info? 3).map (fun i => (i.zero, i.size, i.bytes)) = some (some (.int .i64 0), 1, 8) := by kernel_rfl
theorem Tryd.sizeI : (Tryd.prog.info? 3).map (·.size) = some 1 := by kernel_rfl
def workAt (l : List Jb) (i : Nat) : Int := ((l[i]?).map Jb.work).getD 0
theorem workAt_of {l : List Jb} {i : Nat} {x : Jb} (h : l[i]? = some x) : workAt l i = x.work := by unfold workAt; rw [h]; rfl
/-- The first i works laid. -/
def laidW (l : List Jb) (i : Nat) : Nat → Int := fun k => if k < i then workAt l k else 0
theorem laidW_next (l : List Jb) (i : Nat) : (fun q => if q = i then workAt l i else laidW l i q) = laidW l (i + 1) := by
  funext q; unfold laidW
  by_cases c : q = i
  · subst c; rw [if_pos rfl, if_pos (by omega)]
  · rw [if_neg c]
    by_cases c2 : q < i
    · rw [if_pos c2, if_pos (by omega)]
    · rw [if_neg c2, if_neg (by omega)]
set_option maxHeartbeats 3200000 in
set_option maxRecDepth 100000 in
theorem works_any (A : Option Addr) (cap : Nat) (l : List Jb) (w : World) (hn : l.length ≤ 1000) (hcap : cap ≤ 9223372036854775807) (hlc : l.length ≤ cap) (hs : ∀ x ∈ l, x.name.size ≤ 1000000) (hL : Ltr w) (hR : RdJ w A l) :
    Calls Tryd.prog 39 #[.slice A l.length cap] w (fun e w' => ∃ B, e = .returned (.slice (some ⟨B, 0, none⟩) l.length l.length) ∧ w.heap.size ≤ B ∧ Below w.heap.size w w' ∧ Arr w B l.length (workAt l) w') := by
  obtain ⟨n, hl⟩ : ∃ n, l.length = n := ⟨_, rfl⟩
  rw [hl] at hn hlc ⊢
  have H := Lib.hid (And.intro hl (And.intro hs (And.intro hL hR)))
  have hmk : ∀ w', (Instr.makeSlice 29 (.int .i64 (n : Int)) (.int .i64 (n : Int))).run Tryd.prog w' = .ok (.slice (some ⟨w'.heap.size, 0, none⟩) n n) (w'.alloc (.cells (madeCells #[.int .i64 0] n) 3)) := fun w' => run_make_row' _ _ _ 8 Tryd.underlying29 Tryd.infoI (by kernel_rfl) .i64 .i64 n (by omega) (by omega) w'
  have K0 : Hid (Arr w w.heap.size n (laidW l 0) (w.alloc (.cells (madeCells #[.int .i64 0] n) 3))) := (Arr.fresh w 3 n).to fun k hk => by unfold laidW; rw [if_neg (by omega)]
  clear hl hs hL hR
  go_enter Tryd.func39, Tryd.ntmps39
  go_wp2
  clear hmk
  generalize w.alloc _ = w2 at K0 ⊢
  have hB : Hid (w.heap.size = w.heap.size) := rfl
  generalize hBB : w.heap.size = B at K0 ⊢
  go_loopw [11] (fun st wr => ∃ (i : Nat), st = .int .i64 (i : Int) ∧ i ≤ n ∧ Hid (Arr w B n (laidW l i) wr)) (fun st _ => n - (intOf st).toNat)
  case atStart => exact ⟨0, rfl, by omega, K0⟩
  case round =>
    clear K0
    obtain ⟨i, rfl, hin, K⟩ := hrel
    rcases Nat.lt_or_ge i n with hlt | hge
    · have d1 : decide ((i : Int) < (n : Int)) = true := decide_eq_true (by omega)
      have e1 : IntKind.i64.wrap ((i : Int) + 1) = ((i + 1 : Nat) : Int) := by rw [IntKind.wrap_i64]; omega
      have b1 : (i : Int) < (n : Int) := by omega
      have hbw : Hid (Below w.heap.size w wr) := by show Below _ _ _; rw [hBB]; exact K.out.below
      obtain ⟨x, hx⟩ : ∃ x, l[i]? = some x := ⟨_, List.getElem?_eq_getElem (by rw [H.out.1]; exact hlt)⟩
      obtain ⟨Bj, off, rfl, hJ⟩ := (H.out.2.2.2.below hbw.out) i x hx
      obtain ⟨wk, hwk⟩ : ∃ z, x.work = z := ⟨_, rfl⟩
      have C : Hid (∀ w', Below wr.heap.size wr w' → Calls Tryd.prog 25 #[.agg x.cells] w' (RetB (.int .i64 wk) w')) := fun w' hb => hwk ▸ jwork_any x w' (H.out.2.1 x (List.mem_of_getElem? hx)) ((H.out.2.2.1.below hbw.out).below hb)
      have hwa : Hid (workAt l i = wk) := by show _ = _; rw [workAt_of hx, hwk]
      clear hx hwk
      unfold JAt at hJ
      unfold Jb.cells at C
      obtain ⟨s, r, d, b, a, v, c, h⟩ := x
      simp only at hJ C
      obtain ⟨c0, c1, c2, c3, c4, c5, c6, c7⟩ := hJ
      go_wp2_with fail
      refine (C.out _ (by repeat (first | exact Below.refl _ _ | refine Below.setCell ?_ (by first | omega | (simp; done) | (simp; omega)) _ | refine below_dN ?_ _ | refine Below.drew ?_ | refine Below.alloc ?_ (by first | omega | (simp; done) | (simp; omega)) _))).mono ?_; rintro e hw ⟨rfl, hb⟩
      replace hb : Hid (Below wr.heap.size wr hw) := by refine below_on ?_ hb; exact by repeat (first | exact Below.refl _ _ | refine Below.setCell ?_ (by first | omega | (simp; done) | (simp; omega)) _ | refine below_dN ?_ _ | refine Below.drew ?_ | refine Below.alloc ?_ (by first | omega | (simp; done) | (simp; omega)) _)
      have K2 := K.out.on hb.out
      have f1 : hw.cell? ⟨B, i, none⟩ = some (.int .i64 (laidW l i i)) := K2.cell i hlt
      have f2 : hw.frozen? ⟨B, i, none⟩ = false := K2.frz i hlt
      have K3 : Hid (Arr w B n (laidW l (i + 1)) (hw.setCell ⟨B, i, none⟩ (.int .i64 wk))) := by
        have := K2.store hlt wk
        rw [← hwa.out, laidW_next] at this
        rw [← hwa.out]
        exact this
      clear K K2 C c0 c1 c2 c3 c4 c5 c6 c7 hwa hbw
      go_wp2
      go_roundw
      case rel => exact ⟨i + 1, by first | rfl | simp, by omega, K3⟩
      case measure => simp [intOf]; omega
    · have d1 : decide ((i : Int) < (n : Int)) = false := decide_eq_false (by omega)
      obtain rfl : i = n := by omega
      have K3 : Hid (Arr w B i (workAt l) wr) := K.out.to fun k hk => by unfold laidW; rw [if_pos hk]
      clear K
      go_wp2
      go_ret
      exact ⟨B, rfl, by omega, K3.out.below, K3.out⟩

/-- What is left of each job's work behind k ticks. -/
def lf (l : List Jb) (t : List Int) (k : Nat) (i : Nat) : Int := workAt l i - ((t.take k).count (i : Int) : Int)
theorem lf_zero (l : List Jb) (t : List Int) (i : Nat) : lf l t 0 i = workAt l i := by unfold lf; simp
theorem lf_other {l : List Jb} {t : List Int} {k i : Nat} {x : Int} (h : t[k]? = some x) (hx : ¬ x = (i : Int)) : lf l t (k + 1) i = lf l t k i := by
  unfold lf; rw [count_next (i : Int) h, if_neg hx]; simp
theorem lf_same {l : List Jb} {t : List Int} {k i : Nat} (h : t[k]? = some (i : Int)) : lf l t (k + 1) i = lf l t k i - 1 := by
  unfold lf; rw [count_next (i : Int) h, if_pos rfl]; omega
theorem lf_next {l : List Jb} {t : List Int} {k p : Nat} {q : Int} (h : t[k]? = some (p : Int)) (hq : lf l t k p - 1 = q) : (fun i => if i = p then q else lf l t k i) = lf l t (k + 1) := by
  funext i
  by_cases c : i = p
  · subst c; rw [if_pos rfl, lf_same h, hq]
  · rw [if_neg c, lf_other h (by omega)]
theorem okTick_idle (l : List Jb) (t : List Int) (k : Nat) : okTick l t k (-1) = true := by unfold okTick; simp
theorem okTick_job {l : List Jb} {t : List Int} {k p : Nat} {y : Jb} (hy : l[p]? = some y) : okTick l t k (p : Int) = (decide (y.rel ≤ (k : Int)) && (decide ((k : Int) < y.dl) && decide (0 < lf l t k p))) := by
  unfold okTick
  have h1 : hasB l (p : Int) = true := hasB_iff.2 ⟨by omega, by have := (List.getElem?_eq_some_iff.1 hy).1; omega⟩
  have h2 : decide ((p : Int) = -1) = false := decide_eq_false (by omega)
  have h3 : lf l t k p = y.work - ((t.take k).count (p : Int) : Int) := by unfold lf; rw [workAt_of hy]
  have h4 : decide ((((t.take k).count (p : Int) : Nat) : Int) < y.work) = decide (0 < lf l t k p) := by rw [h3, decide_eq_decide]; omega
  rw [h1, h2, Bool.false_or, Bool.true_and, Int.toNat_natCast, hy]
  simp only [h4]
theorem okTick_none {l : List Jb} {t : List Int} {k : Nat} {x : Int} (h : ¬ x = -1) (hh : hasB l x = false) : okTick l t k x = false := by
  unfold okTick; rw [hh, decide_eq_false h]; rfl
theorem goodT_false {l : List Jb} {t : List Int} {k : Nat} {x : Int} (h : t[k]? = some x) (hx : okTick l t k x = false) : goodT l t = false := by
  cases hg : goodT l t
  · rfl
  · have := (goodT_iff.1 hg).2.2 k x h
    rw [hx] at this; cases this
set_option maxHeartbeats 3200000 in
set_option maxRecDepth 100000 in
theorem tgood_any (A : Option Addr) (cap : Nat) (l : List Jb) (T : Option Addr) (tc : Nat) (t : List Int) (g : Bool) (w : World) (hcap : cap ≤ 9223372036854775807) (hlc : l.length ≤ cap) (hs : ∀ x ∈ l, x.name.size ≤ 1000000) (hL : Ltr w) (hR : RdJ w A l)
    (htc : tc ≤ 9223372036854775807) (htl : t.length ≤ tc) (hT : RdT w T t) (hg : goodT l t = g) :
    Calls Tryd.prog 21 #[.slice A l.length cap, .slice T t.length tc] w (RetB (.bool g) w) := by
  obtain ⟨ga, hga⟩ : ∃ q, allB l = q := ⟨_, rfl⟩
  have C1 : Hid (Calls Tryd.prog 24 #[.slice A l.length cap] w (RetB (.bool ga) w)) := all_any A cap l ga w hcap hlc hs hL hR hga
  obtain ⟨n, hl⟩ : ∃ n, l.length = n := ⟨_, rfl⟩
  obtain ⟨m, hm⟩ : ∃ n, t.length = n := ⟨_, rfl⟩
  cases ga
  · obtain rfl : false = g := by rw [← hg]; unfold goodT; rw [hga]; rfl
    rw [hl] at C1 hlc ⊢
    rw [hm] at htl ⊢
    clear hl hm hs hL hR hT hg hga
    go_enter Tryd.func21, Tryd.ntmps21
    go_wp2_with fail
    refine C1.out.mono ?_; rintro e gw ⟨rfl, gb⟩
    clear C1
    go_wp2
    go_ret
    exact ⟨rfl, by have s0 := gb.size; (try simp only [World.heap_drewN, World.size_alloc] at s0); repeat (first | exact Below.refl _ _ | exact gb | refine Below.trans ?_ (Below.mono gb (by first | omega | (simp; done) | (simp; omega))) | refine Below.setCell ?_ (by first | omega | (simp; done) | (simp; omega)) _ | refine below_dN ?_ _ | refine Below.drew ?_ | refine Below.alloc ?_ (by first | omega | (simp; done) | (simp; omega)) _)⟩
  · by_cases hm1 : m ≤ 10000
    · have hn200 := len_of_all hga
      have C2 : Hid (∀ w', Below w.heap.size w w' → Calls Tryd.prog 39 #[.slice A l.length cap] w' (fun e w2 => ∃ B, e = .returned (.slice (some ⟨B, 0, none⟩) l.length l.length) ∧ w'.heap.size ≤ B ∧ Below w'.heap.size w' w2 ∧ Arr w' B l.length (workAt l) w2)) :=
        fun w' hb => works_any A cap l w' (by omega) hcap hlc hs (hL.below hb) (hR.below hb)
      have C3 : Hid (∀ (x : Int) (q : Bool) w', hasB l x = q → Calls Tryd.prog 40 #[.slice A l.length cap, .int .i64 x] w' (Ret (.bool q) w')) := fun x q w' hq => has_any A cap l.length x q w' hq
      have hgd : Hid (∀ x ∈ l, x.good = true) := fun x hx => List.all_eq_true.1 (Bool.and_eq_true_iff.1 hga).2 x hx
      have HG : Hid (g = false → True) := fun _ => trivial
      have hgt : Hid ((∀ k x, t[k]? = some x → okTick l t k x = true) → true = g) := fun h => by rw [← hg]; exact (goodT_iff.2 ⟨hga, by omega, h⟩).symm
      have hgf : Hid (∀ k x, t[k]? = some x → okTick l t k x = false → false = g) := fun k x h1 h2 => by rw [← hg]; exact (goodT_false h1 h2).symm
      rw [hl] at C1 C2 C3 hlc hn200 ⊢
      rw [hm] at htl ⊢
      have H := Lib.hid (And.intro hl (And.intro hm (And.intro hR hT)))
      have d1 : decide ((m : Int) > 10000) = false := decide_eq_false (by omega)
      clear hl hm hs hL hR hT hg hga HG
      go_enter Tryd.func21, Tryd.ntmps21
      go_wp2_with fail
      refine C1.out.mono ?_; rintro e gw ⟨rfl, gb⟩
      clear C1
      replace gb := Lib.hid gb
      go_wp2_with fail
      refine (C2.out _ gb.out).mono ?_; rintro e hw ⟨B, rfl, hBs, hb, hA⟩
      have K0 : Hid (Below w.heap.size w hw ∧ Arr gw B n (lf l t 0) hw) := ⟨below_on gb.out hb, hA.to fun k _ => (lf_zero l t k).symm⟩
      have hBw : Hid (w.heap.size ≤ B) := by have := gb.out.size; show w.heap.size ≤ B; omega
      clear C2 hb hA hBs d1
      go_wp2
      go_loopw [20] (fun st wr => ∃ (k : Nat), st = .int .i64 (k : Int) ∧ k ≤ m ∧ Hid (Below w.heap.size w wr ∧ Arr gw B n (lf l t k) wr ∧ (∀ i, i < n → 0 ≤ lf l t k i ∧ lf l t k i ≤ 1100) ∧ ∀ k' x, k' < k → t[k']? = some x → okTick l t k' x = true)) (fun st _ => m - (intOf st).toNat)
      case atStart =>
        refine ⟨0, rfl, by omega, Lib.hid ⟨K0.out.1, K0.out.2, fun i hi => ?_, fun k' x hk => by omega⟩⟩
        obtain ⟨y, hy⟩ : ∃ x, l[i]? = some x := ⟨_, List.getElem?_eq_getElem (by rw [H.out.1]; exact hi)⟩
        have := work_good (hgd.out y (List.mem_of_getElem? hy))
        rw [lf_zero, workAt_of hy]
        omega
      case round =>
        clear K0
        obtain ⟨k, rfl, hkm, K⟩ := hrel
        rcases Nat.lt_or_ge k m with hlt | hge
        · have d1 : decide ((k : Int) < (m : Int)) = true := decide_eq_true (by omega)
          have e1 : IntKind.i64.wrap ((k : Int) + 1) = ((k + 1 : Nat) : Int) := by rw [IntKind.wrap_i64]; omega
          obtain ⟨x, hx⟩ : ∃ x, t[k]? = some x := ⟨_, List.getElem?_eq_getElem (by rw [H.out.2.1]; exact hlt)⟩
          obtain ⟨BT, off, rfl, t0⟩ := (H.out.2.2.2.below K.out.1) k x hx
          have hok : Hid (okTick l t k x = true → ∀ k' y, k' < k + 1 → t[k']? = some y → okTick l t k' y = true) := by
            intro h k' y hk hy
            by_cases c : k' = k
            · subst c; rw [hx] at hy; injection hy with hy; subst hy; exact h
            · exact K.out.2.2.2 k' y (by omega) hy
          by_cases hx1 : x = -1
          · subst hx1
            have K3 : Hid (Below w.heap.size w wr ∧ Arr gw B n (lf l t (k + 1)) wr ∧ (∀ i, i < n → 0 ≤ lf l t (k + 1) i ∧ lf l t (k + 1) i ≤ 1100) ∧ ∀ k' x, k' < k + 1 → t[k']? = some x → okTick l t k' x = true) :=
              ⟨K.out.1, K.out.2.1.to fun i hi => (lf_other hx (by omega)).symm, fun i hi => by rw [lf_other hx (by omega)]; exact K.out.2.2.1 i hi, hok.out (okTick_idle l t k)⟩
            clear K hok hx
            go_wp2
            go_roundw
            case rel => exact ⟨k + 1, by first | rfl | simp, by omega, K3⟩
            case measure => simp [intOf]; omega
          · have d2 : (x == -1) = false := by simp [hx1]
            obtain ⟨gh, hgh⟩ : ∃ q, hasB l x = q := ⟨_, rfl⟩
            have C4 := Lib.hid (fun w' => C3.out x gh w' hgh)
            cases gh
            · obtain rfl := hgf.out k x hx (okTick_none hx1 hgh)
              have Kb := Lib.hid K.out.1
              clear K hok hx hx1 hgh
              go_wp2_with fail
              refine (C4.out _).mono ?_; rintro e w' ⟨rfl, n1, rfl⟩
              go_wp2
              go_ret
              exact ⟨rfl, by have s0 := Kb.out.size; (try simp only [World.heap_drewN, World.size_alloc] at s0); repeat (first | exact Below.refl _ _ | exact Kb.out | refine Below.trans ?_ (Below.mono Kb.out (by first | omega | (simp; done) | (simp; omega))) | refine Below.setCell ?_ (by first | omega | (simp; done) | (simp; omega)) _ | refine below_dN ?_ _ | refine Below.drew ?_ | refine Below.alloc ?_ (by first | omega | (simp; done) | (simp; omega)) _)⟩
            · obtain ⟨h0, h1⟩ := hasB_iff.1 hgh
              obtain ⟨p, rfl⟩ := Int.eq_ofNat_of_zero_le h0
              have hp : p < n := by have := H.out.1; omega
              have b1 : (p : Int) < (n : Int) := by omega
              obtain ⟨y, hy⟩ : ∃ x, l[p]? = some x := ⟨_, List.getElem?_eq_getElem (by rw [H.out.1]; exact hp)⟩
              obtain ⟨Bj, offj, rfl, hJ⟩ := (H.out.2.2.1.below K.out.1) p y hy
              have hoj := okTick_job (t := t) (k := k) hy
              obtain ⟨gq, hgq⟩ : ∃ q, (decide (y.rel ≤ (k : Int)) && decide ((k : Int) < y.dl)) = q := ⟨_, rfl⟩
              rw [← Bool.and_assoc, hgq] at hoj
              replace hoj := Lib.hid hoj
              unfold JAt at hJ
              obtain ⟨s, r, d, b, a, v, c, h⟩ := y
              simp only at hJ hgq
              have C5 := Lib.hid (fun w' => within_raw s r d b a v c h gq (k : Int) w' hgq)
              obtain ⟨c0, c1, c2, c3, c4, c5, c6, c7⟩ := hJ
              replace hx := Lib.hid hx
              clear hgh h0 h1 hgq hx1 hy
              go_wp2_with fail
              refine (C4.out _).mono ?_; rintro e w' ⟨rfl, n2, rfl⟩
              go_wp2_with fail
              refine (C5.out _).mono ?_; rintro e hw2 ⟨rfl, hb⟩
              replace hb : Hid (Below wr.heap.size wr hw2) := by refine below_on ?_ hb; exact by repeat (first | exact Below.refl _ _ | refine Below.setCell ?_ (by first | omega | (simp; done) | (simp; omega)) _ | refine below_dN ?_ _ | refine Below.drew ?_ | refine Below.alloc ?_ (by first | omega | (simp; done) | (simp; omega)) _)
              have Kb : Hid (Below w.heap.size w hw2) := below_on K.out.1 hb.out
              clear C5 c0 c1 c2 c3 c4 c5 c6 c7 C4 t0
              cases gq
              · obtain rfl := hgf.out k p hx.out (by rw [hoj.out]; rfl)
                clear K hok hx
                go_wp2
                go_ret
                exact ⟨rfl, by have s0 := Kb.out.size; (try simp only [World.heap_drewN, World.size_alloc] at s0); repeat (first | exact Below.refl _ _ | exact Kb.out | refine Below.trans ?_ (Below.mono Kb.out (by first | omega | (simp; done) | (simp; omega))) | refine Below.setCell ?_ (by first | omega | (simp; done) | (simp; omega)) _ | refine below_dN ?_ _ | refine Below.drew ?_ | refine Below.alloc ?_ (by first | omega | (simp; done) | (simp; omega)) _)⟩
              · have K2 := K.out.2.1.on hb.out
                have bd := K.out.2.2.1 p hp
                obtain ⟨f, hf⟩ : ∃ f, lf l t k p = f := ⟨_, rfl⟩
                have f1 : hw2.cell? ⟨B, p, none⟩ = some (.int .i64 f) := by rw [← hf]; exact K2.cell p hp
                have f2 : hw2.frozen? ⟨B, p, none⟩ = false := K2.frz p hp
                rw [hf] at bd hoj
                by_cases hf0 : f = 0
                · obtain rfl := hgf.out k p hx.out (by rw [hoj.out, hf0]; rfl)
                  have d3 : (f == 0) = true := by simp [hf0]
                  clear K K2 hok hx bd hf0 hf
                  go_wp2
                  go_ret
                  exact ⟨rfl, by have s0 := Kb.out.size; (try simp only [World.heap_drewN, World.size_alloc] at s0); repeat (first | exact Below.refl _ _ | exact Kb.out | refine Below.trans ?_ (Below.mono Kb.out (by first | omega | (simp; done) | (simp; omega))) | refine Below.setCell ?_ (by first | omega | (simp; done) | (simp; omega)) _ | refine below_dN ?_ _ | refine Below.drew ?_ | refine Below.alloc ?_ (by first | omega | (simp; done) | (simp; omega)) _)⟩
                · have d3 : (f == 0) = false := by simp [hf0]
                  obtain ⟨q, hq⟩ : ∃ q, f - 1 = q := ⟨_, rfl⟩
                  have e3 : IntKind.i64.wrap (f - 1) = q := by rw [IntKind.wrap_i64]; omega
                  have e4 : wrap64 (f - 1) = q := by unfold wrap64; omega
                  have K3 : Hid (Below w.heap.size w (hw2.setCell ⟨B, p, none⟩ (.int .i64 q)) ∧ Arr gw B n (lf l t (k + 1)) (hw2.setCell ⟨B, p, none⟩ (.int .i64 q)) ∧ (∀ i, i < n → 0 ≤ lf l t (k + 1) i ∧ lf l t (k + 1) i ≤ 1100) ∧ ∀ k' x, k' < k + 1 → t[k']? = some x → okTick l t k' x = true) := by
                    refine ⟨Kb.out.setCell hBw.out _, ?_, fun i hi => ?_, hok.out (by rw [hoj.out]; simp; omega)⟩
                    · have := K2.store hp q
                      rw [lf_next hx.out (by rw [hf, hq])] at this
                      exact this
                    · rw [← lf_next hx.out (by rw [hf, hq])]
                      by_cases c : i = p
                      · simp only [c, if_pos]; omega
                      · simp only [if_neg c]; exact K.out.2.2.1 i hi
                  clear K K2 hok hx bd hf0 hf hq Kb
                  go_wp2
                  go_roundw
                  case rel => exact ⟨k + 1, by first | rfl | simp, by omega, K3⟩
                  case measure => simp [intOf]; omega
        · have d1 : decide ((k : Int) < (m : Int)) = false := decide_eq_false (by omega)
          obtain rfl := hgt.out (fun k' x hk => K.out.2.2.2 k' x (by have := (List.getElem?_eq_some_iff.1 hk).1; have := H.out.2.1; omega) hk)
          have Kb := Lib.hid K.out.1
          clear K
          go_wp2
          go_ret
          exact ⟨rfl, by have s0 := Kb.out.size; (try simp only [World.heap_drewN, World.size_alloc] at s0); repeat (first | exact Below.refl _ _ | exact Kb.out | refine Below.trans ?_ (Below.mono Kb.out (by first | omega | (simp; done) | (simp; omega))) | refine Below.setCell ?_ (by first | omega | (simp; done) | (simp; omega)) _ | refine below_dN ?_ _ | refine Below.drew ?_ | refine Below.alloc ?_ (by first | omega | (simp; done) | (simp; omega)) _)⟩
    · obtain rfl : false = g := by rw [← hg]; unfold goodT; rw [hm, decide_eq_false hm1]; simp
      have d1 : decide ((m : Int) > 10000) = true := decide_eq_true (by omega)
      rw [hl] at C1 hlc ⊢
      rw [hm] at htl ⊢
      clear hl hm hs hL hR hT hg hga hm1
      go_enter Tryd.func21, Tryd.ntmps21
      go_wp2_with fail
      refine C1.out.mono ?_; rintro e gw ⟨rfl, gb⟩
      clear C1
      go_wp2
      go_ret
      exact ⟨rfl, by have s0 := gb.size; (try simp only [World.heap_drewN, World.size_alloc] at s0); repeat (first | exact Below.refl _ _ | exact gb | refine Below.trans ?_ (Below.mono gb (by first | omega | (simp; done) | (simp; omega))) | refine Below.setCell ?_ (by first | omega | (simp; done) | (simp; omega)) _ | refine below_dN ?_ _ | refine Below.drew ?_ | refine Below.alloc ?_ (by first | omega | (simp; done) | (simp; omega)) _)⟩
end Go.Proofs.YtcohodpaagpfgaaDoor
