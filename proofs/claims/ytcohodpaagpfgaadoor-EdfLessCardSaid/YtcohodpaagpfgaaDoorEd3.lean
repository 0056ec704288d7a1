/- The contracts of package edf: each, first. (each: written by gened3.py from XEd3.base.) -/
import Derived.Test.YtcohodpaagpfgaaDoorEdJobs
import Derived.Test.YtcohodpaagpfgaaDoorJbBy
import Derived.Test.YtcohodpaagpfgaaDoorTr4
namespace Go.Proofs.YtcohodpaagpfgaaDoor
open Go.RowKit Go.Lib
set_option linter.unusedVariables false
set_option linter.unusedSimpArgs false

/-- A block B of n numbers f. -/
structure Cel (B n : Nat) (f : Nat → Int) (w : World) : Prop where
  lt : B < w.heap.size
  cell : ∀ k, k < n → w.cell? ⟨B, k, none⟩ = some (.int .i64 (f k))
  frz : ∀ k, k < n → w.frozen? ⟨B, k, none⟩ = false
section
variable {B n : Nat} {f g : Nat → Int} {w w' : World}
theorem Arr.cel {w0 : World} (h : Arr w0 B n f w) : Cel B n f w := ⟨h.size, h.cell, h.frz⟩
theorem Cel.on (h : Cel B n f w) (hb : Below w.heap.size w w') : Cel B n f w' :=
  ⟨Nat.lt_of_lt_of_le h.lt hb.size, fun k hk => by rw [hb.cell (p := ⟨B, k, none⟩) h.lt]; exact h.cell k hk, fun k hk => by rw [hb.frozen (p := ⟨B, k, none⟩) h.lt]; exact h.frz k hk⟩
theorem Cel.drewN (h : Cel B n f w) (k : Nat) : Cel B n f (w.drewN k) := h.on (below_dN (Below.refl _ _) k)
theorem Cel.to (h : Cel B n f w) (e : ∀ k, k < n → f k = g k) : Cel B n g w := ⟨h.lt, fun k hk => by rw [← e k hk]; exact h.cell k hk, h.frz⟩
theorem Cel.store (h : Cel B n f w) {k : Nat} (hk : k < n) (v : Int) : Cel B n (fun q => if q = k then v else f q) (w.setCell ⟨B, k, none⟩ (.int .i64 v)) := by
  refine ⟨by simpa [World.setCell] using h.lt, fun q hq => ?_, fun q hq => ?_⟩
  · by_cases c : q = k
    · subst c; rw [if_pos rfl]; exact World.cell?_setCell_same _ _ _ (h.cell q hq)
    · rw [if_neg c, World.cell?_setCell_other _ _ _ _ (by intro e'; simp only [Addr.mk.injEq] at e'; omega)]; exact h.cell q hq
  · rw [World.frozen?_setCell]; exact h.frz q hq
theorem Cel.other (h : Cel B n f w) {C k : Nat} (hc : B ≠ C) (v : Value) : Cel B n f (w.setCell ⟨C, k, none⟩ v) := by
  refine ⟨by simpa [World.setCell] using h.lt, fun q hq => ?_, fun q hq => ?_⟩
  · rw [World.cell?_setCell_other _ _ _ _ (by intro e'; simp only [Addr.mk.injEq] at e'; omega)]; exact h.cell q hq
  · rw [World.frozen?_setCell]; exact h.frz q hq
theorem Cel.rdT (h : Cel B n f w) {t : List Int} (ht : t.length = n) (e : ∀ (k : Nat) (x : Int), t[k]? = some x → f k = x) : RdT w (some ⟨B, 0, none⟩) t := fun k x hx => by
  have hk : k < n := by have := (List.getElem?_eq_some_iff.1 hx).1; omega
  exact ⟨B, 0, rfl, by rw [Nat.zero_add, h.cell k hk, e k x hx]⟩
end
/-- The first i of them laid. -/
def laidL (f : Jb → Int) (l : List Jb) (i : Nat) : Nat → Int := fun k => if k < i then atL f l k else 0
theorem laidL_next (f : Jb → Int) (l : List Jb) (i : Nat) : (fun q => if q = i then atL f l i else laidL f l i q) = laidL f l (i + 1) := by
  funext q; unfold laidL
  by_cases c : q = i
  · subst c; rw [if_pos rfl, if_pos (by omega)]
  · rw [if_neg c]
    by_cases c2 : q < i
    · rw [if_pos c2, if_pos (by omega)]
    · rw [if_neg c2, if_neg (by omega)]
set_option maxHeartbeats 3200000 in
set_option maxRecDepth 100000 in
theorem eachW_any (A : Option Addr) (cap : Nat) (l : List Jb) (w : World) (hn : l.length ≤ 1000) (hcap : cap ≤ 9223372036854775807) (hlc : l.length ≤ cap) (hs : ∀ x ∈ l, x.name.size ≤ 1000000) (hL : Ltr w) (hR : RdJ w A l) :
    Calls Tryd.prog 30 #[.slice A l.length cap, .func (.func 25) #[] #[]] w (fun e w' => ∃ B, e = .returned (.slice (some ⟨B, 0, none⟩) l.length l.length) ∧ w.heap.size ≤ B ∧ Below w.heap.size w w' ∧ Cel B l.length (atL Jb.work l) w') := by
  obtain ⟨n, hl⟩ : ∃ n, l.length = n := ⟨_, rfl⟩
  rw [hl] at hn hlc ⊢
  have H := Lib.hid (And.intro hl (And.intro hs (And.intro hL hR)))
  have hmk : ∀ w', (Instr.makeSlice 29 (.int .i64 (n : Int)) (.int .i64 (n : Int))).run Tryd.prog w' = .ok (.slice (some ⟨w'.heap.size, 0, none⟩) n n) (w'.alloc (.cells (madeCells #[.int .i64 0] n) 3)) := fun w' => run_make_row' _ _ _ 8 Tryd.underlying29 Tryd.infoI (by kernel_rfl) .i64 .i64 n (by omega) (by omega) w'
  have K0 : Hid (Arr w w.heap.size n (laidL Jb.work l 0) (w.alloc (.cells (madeCells #[.int .i64 0] n) 3))) := (Arr.fresh w 3 n).to fun k hk => by unfold laidL; rw [if_neg (by omega)]
  clear hl hs hL hR
  go_enter Tryd.func30, Tryd.ntmps30
  go_wp2
  clear hmk
  generalize w.alloc _ = w2 at K0 ⊢
  generalize hBB : w.heap.size = B at K0 ⊢
  go_loopw [13] (fun st wr => ∃ (i : Nat), st = .int .i64 (i : Int) ∧ i ≤ n ∧ Hid (Arr w B n (laidL Jb.work l i) wr)) (fun st _ => n - (intOf st).toNat)
  case atStart => exact ⟨0, rfl, by omega, K0⟩
  case round =>
    clear K0
    obtain ⟨i, rfl, hin, K⟩ := hrel
    rcases Nat.lt_or_ge i n with hlt | hge
    · have d1 : decide ((i : Int) < (n : Int)) = true := decide_eq_true (by omega)
      have e1 : IntKind.i64.wrap ((i : Int) + 1) = ((i + 1 : Nat) : Int) := by rw [IntKind.wrap_i64]; omega
      have b1 : (i : Int) < (n : Int) := by omega
      have hbw : Hid (Below w.heap.size w wr) := by show Below _ _ _; rw [hBB]; exact K.out.below
      obtain ⟨x, hx⟩ : ∃ x, l[i]? = some x := ⟨_, List.getElem?_eq_getElem (by rw [H.out.1]; exact hlt)⟩
      obtain ⟨Bj, off, rfl, hJ⟩ := (H.out.2.2.2.below hbw.out) i x hx
      obtain ⟨wk, hwk⟩ : ∃ z, x.work = z := ⟨_, rfl⟩
      have C : Hid (∀ w', Below wr.heap.size wr w' → Calls Tryd.prog 25 #[.agg x.cells] w' (RetB (.int .i64 wk) w')) := fun w' hb => hwk ▸ jwork_any x w' (H.out.2.1 x (List.mem_of_getElem? hx)) ((H.out.2.2.1.below hbw.out).below hb)
      have hwa : Hid (atL Jb.work l i = wk) := by show _ = _; rw [atL_of hx, hwk]
      clear hx hwk
      unfold JAt at hJ
      unfold Jb.cells at C
      obtain ⟨s, r, d, b, a, v, c, h⟩ := x
      simp only at hJ C
      obtain ⟨c0, c1, c2, c3, c4, c5, c6, c7⟩ := hJ
      go_wp2_with fail
      refine (C.out _ (by repeat (first | exact Below.refl _ _ | refine Below.setCell ?_ (by first | omega | (simp; done) | (simp; omega)) _ | refine below_dN ?_ _ | refine Below.drew ?_ | refine Below.alloc ?_ (by first | omega | (simp; done) | (simp; omega)) _))).mono ?_; rintro e hw ⟨rfl, hb⟩
      replace hb : Hid (Below wr.heap.size wr hw) := by refine below_on ?_ hb; exact by repeat (first | exact Below.refl _ _ | refine Below.setCell ?_ (by first | omega | (simp; done) | (simp; omega)) _ | refine below_dN ?_ _ | refine Below.drew ?_ | refine Below.alloc ?_ (by first | omega | (simp; done) | (simp; omega)) _)
      have K2 := K.out.on hb.out
      have f1 : hw.cell? ⟨B, i, none⟩ = some (.int .i64 (laidL Jb.work l i i)) := K2.cell i hlt
      have f2 : hw.frozen? ⟨B, i, none⟩ = false := K2.frz i hlt
      have K3 : Hid (Arr w B n (laidL Jb.work l (i + 1)) (hw.setCell ⟨B, i, none⟩ (.int .i64 wk))) := by
        have := K2.store hlt wk
        rw [← hwa.out, laidL_next] at this
        rw [← hwa.out]
        exact this
      clear K K2 C c0 c1 c2 c3 c4 c5 c6 c7 hwa hbw
      go_wp2
      go_roundw
      case rel => exact ⟨i + 1, by first | rfl | simp, by omega, K3⟩
      case measure => simp [intOf]; omega
    · have d1 : decide ((i : Int) < (n : Int)) = false := decide_eq_false (by omega)
      obtain rfl : i = n := by omega
      have K3 : Hid (Below w.heap.size w wr ∧ Cel B i (atL Jb.work l) wr) := ⟨by rw [hBB]; exact K.out.below, (K.out.to fun k hk => by unfold laidL; rw [if_pos hk]).cel⟩
      clear K
      go_wp2
      go_ret
      exact ⟨B, rfl, by omega, K3.out.1, K3.out.2⟩
set_option maxHeartbeats 3200000 in
set_option maxRecDepth 100000 in
theorem eachC_any (A : Option Addr) (cap : Nat) (l : List Jb) (w : World) (hn : l.length ≤ 1000) (hcap : cap ≤ 9223372036854775807) (hlc : l.length ≤ cap) (hs : ∀ x ∈ l, x.name.size ≤ 1000000) (hL : Ltr w) (hR : RdJ w A l) :
    Calls Tryd.prog 30 #[.slice A l.length cap, .func (.func 31) #[] #[]] w (fun e w' => ∃ B, e = .returned (.slice (some ⟨B, 0, none⟩) l.length l.length) ∧ w.heap.size ≤ B ∧ Below w.heap.size w w' ∧ Cel B l.length (atL Jb.charge l) w') := by
  obtain ⟨n, hl⟩ : ∃ n, l.length = n := ⟨_, rfl⟩
  rw [hl] at hn hlc ⊢
  have H := Lib.hid (And.intro hl (And.intro hs (And.intro hL hR)))
  have hmk : ∀ w', (Instr.makeSlice 29 (.int .i64 (n : Int)) (.int .i64 (n : Int))).run Tryd.prog w' = .ok (.slice (some ⟨w'.heap.size, 0, none⟩) n n) (w'.alloc (.cells (madeCells #[.int .i64 0] n) 3)) := fun w' => run_make_row' _ _ _ 8 Tryd.underlying29 Tryd.infoI (by kernel_rfl) .i64 .i64 n (by omega) (by omega) w'
  have K0 : Hid (Arr w w.heap.size n (laidL Jb.charge l 0) (w.alloc (.cells (madeCells #[.int .i64 0] n) 3))) := (Arr.fresh w 3 n).to fun k hk => by unfold laidL; rw [if_neg (by omega)]
  clear hl hs hL hR
  go_enter Tryd.func30, Tryd.ntmps30
  go_wp2
  clear hmk
  generalize w.alloc _ = w2 at K0 ⊢
  generalize hBB : w.heap.size = B at K0 ⊢
  go_loopw [13] (fun st wr => ∃ (i : Nat), st = .int .i64 (i : Int) ∧ i ≤ n ∧ Hid (Arr w B n (laidL Jb.charge l i) wr)) (fun st _ => n - (intOf st).toNat)
  case atStart => exact ⟨0, rfl, by omega, K0⟩
  case round =>
    clear K0
    obtain ⟨i, rfl, hin, K⟩ := hrel
    rcases Nat.lt_or_ge i n with hlt | hge
    · have d1 : decide ((i : Int) < (n : Int)) = true := decide_eq_true (by omega)
      have e1 : IntKind.i64.wrap ((i : Int) + 1) = ((i + 1 : Nat) : Int) := by rw [IntKind.wrap_i64]; omega
      have b1 : (i : Int) < (n : Int) := by omega
      have hbw : Hid (Below w.heap.size w wr) := by show Below _ _ _; rw [hBB]; exact K.out.below
      obtain ⟨x, hx⟩ : ∃ x, l[i]? = some x := ⟨_, List.getElem?_eq_getElem (by rw [H.out.1]; exact hlt)⟩
      obtain ⟨Bj, off, rfl, hJ⟩ := (H.out.2.2.2.below hbw.out) i x hx
      obtain ⟨wk, hwk⟩ : ∃ z, x.charge = z := ⟨_, rfl⟩
      have C : Hid (∀ w', Below wr.heap.size wr w' → Calls Tryd.prog 31 #[.agg x.cells] w' (RetB (.int .i64 wk) w')) := fun w' hb => hwk ▸ jcharge_any x w' (H.out.2.1 x (List.mem_of_getElem? hx)) ((H.out.2.2.1.below hbw.out).below hb)
      have hwa : Hid (atL Jb.charge l i = wk) := by show _ = _; rw [atL_of hx, hwk]
      clear hx hwk
      unfold JAt at hJ
      unfold Jb.cells at C
      obtain ⟨s, r, d, b, a, v, c, h⟩ := x
      simp only at hJ C
      obtain ⟨c0, c1, c2, c3, c4, c5, c6, c7⟩ := hJ
      go_wp2_with fail
      refine (C.out _ (by repeat (first | exact Below.refl _ _ | refine Below.setCell ?_ (by first | omega | (simp; done) | (simp; omega)) _ | refine below_dN ?_ _ | refine Below.drew ?_ | refine Below.alloc ?_ (by first | omega | (simp; done) | (simp; omega)) _))).mono ?_; rintro e hw ⟨rfl, hb⟩
      replace hb : Hid (Below wr.heap.size wr hw) := by refine below_on ?_ hb; exact by repeat (first | exact Below.refl _ _ | refine Below.setCell ?_ (by first | omega | (simp; done) | (simp; omega)) _ | refine below_dN ?_ _ | refine Below.drew ?_ | refine Below.alloc ?_ (by first | omega | (simp; done) | (simp; omega)) _)
      have K2 := K.out.on hb.out
      have f1 : hw.cell? ⟨B, i, none⟩ = some (.int .i64 (laidL Jb.charge l i i)) := K2.cell i hlt
      have f2 : hw.frozen? ⟨B, i, none⟩ = false := K2.frz i hlt
      have K3 : Hid (Arr w B n (laidL Jb.charge l (i + 1)) (hw.setCell ⟨B, i, none⟩ (.int .i64 wk))) := by
        have := K2.store hlt wk
        rw [← hwa.out, laidL_next] at this
        rw [← hwa.out]
        exact this
      clear K K2 C c0 c1 c2 c3 c4 c5 c6 c7 hwa hbw
      go_wp2
      go_roundw
      case rel => exact ⟨i + 1, by first | rfl | simp, by omega, K3⟩
      case measure => simp [intOf]; omega
    · have d1 : decide ((i : Int) < (n : Int)) = false := decide_eq_false (by omega)
      obtain rfl : i = n := by omega
      have K3 : Hid (Below w.heap.size w wr ∧ Cel B i (atL Jb.charge l) wr) := ⟨by rw [hBB]; exact K.out.below, (K.out.to fun k hk => by unfold laidL; rw [if_pos hk]).cel⟩
      clear K
      go_wp2
      go_ret
      exact ⟨B, rfl, by omega, K3.out.1, K3.out.2⟩
/-- Of those in the order g that may, the first one; -1: none. -/
def FstIs (g : Nat → Int) (may : Nat → Bool) (n : Nat) (b : Int) : Prop :=
  (b = -1 ∧ ∀ q, q < n → may (g q).toNat = false) ∨ ∃ q, q < n ∧ b = g q ∧ may (g q).toNat = true ∧ ∀ p, p < q → may (g p).toNat = false
theorem FstIs.found {g : Nat → Int} {may : Nat → Bool} {n : Nat} {b : Int} (h : FstIs g may n b) {k : Nat} (hk : k < n) (h1 : may (g k).toNat = true) (h0 : ∀ p, p < k → may (g p).toNat = false) : b = g k := by
  rcases h with ⟨_, h⟩ | ⟨q, hq, rfl, h2, h3⟩
  · rw [h k hk] at h1; cases h1
  · rcases Nat.lt_trichotomy q k with c | c | c
    · rw [h0 q c] at h2; cases h2
    · subst c; rfl
    · rw [h3 k c] at h1; cases h1
theorem FstIs.none {g : Nat → Int} {may : Nat → Bool} {n : Nat} {b : Int} (h : FstIs g may n b) (h0 : ∀ p, p < n → may (g p).toNat = false) : b = -1 := by
  rcases h with ⟨h, _⟩ | ⟨q, hq, _, h2, _⟩
  · exact h
  · rw [h0 q hq] at h2; cases h2
/-- The first in the order by deadlines is the one that is picked. -/
theorem pick_fst {l : List Jb} {g : Nat → Int} {may : Nat → Bool} {n : Nat} (hn : l.length = n) (hg : Run (dlOf l) g 0 n) : FstIs g may n (pick may (atL Jb.dl l) n) := by
  have hd : ∀ i : Nat, dlOf l (i : Int) = atL Jb.dl l i := fun i => by unfold dlOf atL; rw [Int.toNat_natCast]
  have hk : ∀ q, q < n → ∃ i : Nat, g q = (i : Int) ∧ i < n := fun q hq => by
    have := hg.to q (Nat.zero_le _) hq
    exact ⟨(g q).toNat, by omega, by omega⟩
  rcases pick_picked may (atL Jb.dl l) n with ⟨h1, h2⟩ | ⟨i, h1, h2, h3, h4⟩
  · refine .inl ⟨h1, fun q hq => ?_⟩
    obtain ⟨i, e, hi⟩ := hk q hq
    rw [e, Int.toNat_natCast]; exact h2 i hi
  · obtain ⟨q, _, hq, e⟩ := hg.fro i (Nat.zero_le _) h2
    refine .inr ⟨q, hq, by rw [h1, e], by rw [e, Int.toNat_natCast]; exact h3, fun p hp => ?_⟩
    obtain ⟨j, ej, hj⟩ := hk p (by omega)
    rw [ej, Int.toNat_natCast]
    cases hm : may j
    · rfl
    · exfalso
      have a1 := h4 j hj hm
      have a2 := hg.srt p q (Nat.zero_le _) hp hq
      unfold TT at a2
      rw [ej, e, hd, hd] at a2
      omega
/-- May i run, by what is left? -/
def mayF (rel lf : Nat → Int) (t : Int) (i : Nat) : Bool := decide (lf i > 0) && decide (rel i ≤ t)
set_option maxHeartbeats 1600000 in
set_option maxRecDepth 100000 in
theorem first_any (A : Option Addr) (cap : Nat) (l : List Jb) (O F n oc fc : Nat) (g lf : Nat → Int) (t b : Int) (w : World) (hl : l.length = n) (hn : n ≤ 1000) (hcap : cap ≤ 9223372036854775807) (hlc : n ≤ cap) (hR : RdJ w A l)
    (hO : ∀ k, k < n → w.cell? ⟨O, k, none⟩ = some (.int .i64 (g k))) (hF : Cel F n lf w) (hg : ∀ k, k < n → 0 ≤ g k ∧ g k < (n : Int)) (hoc : n ≤ oc) (hfc : n ≤ fc) (ho : oc ≤ 9223372036854775807) (hf : fc ≤ 9223372036854775807) (hb : FstIs g (mayF (atL Jb.rel l) lf t) n b) :
    Calls Tryd.prog 53 #[.slice A n cap, .slice (some ⟨O, 0, none⟩) n oc, .slice (some ⟨F, 0, none⟩) n fc, .int .i64 t] w (Ret (.int .i64 b) w) := by
  have H := Lib.hid (And.intro hl (And.intro hR (And.intro hO (And.intro hF (And.intro hg hb)))))
  clear hl hR hO hF hg hb
  go_enter Tryd.func53, Tryd.ntmps53
  go_wp2
  go_loopw [13] (fun st wr => ∃ (k : Nat), st = .int .i64 (k : Int) ∧ k ≤ n ∧ wr = w ∧ Hid (∀ q, q < k → mayF (atL Jb.rel l) lf t (g q).toNat = false)) (fun st _ => n - (intOf st).toNat)
  case atStart => exact ⟨0, rfl, by omega, rfl, Lib.hid (fun q hq => by omega)⟩
  case round =>
    obtain ⟨k, rfl, hkn, rfl, K⟩ := hrel
    rcases Nat.lt_or_ge k n with hlt | hge
    · have d1 : decide ((k : Int) < (n : Int)) = true := decide_eq_true (by omega)
      have e1 : IntKind.i64.wrap ((k : Int) + 1) = ((k + 1 : Nat) : Int) := by rw [IntKind.wrap_i64]; omega
      have b1 : (k : Int) < (n : Int) := by omega
      have o0 := H.out.2.2.1 k hlt
      have hgk := H.out.2.2.2.2.1 k hlt
      obtain ⟨p, hp⟩ := Int.eq_ofNat_of_zero_le hgk.1
      have hpn : p < n := by omega
      have b2 : (p : Int) < (n : Int) := by omega
      have b3 : (0 : Int) ≤ (p : Int) := by omega
      have f0 := H.out.2.2.2.1.cell p hpn
      obtain ⟨y, hy⟩ : ∃ x, l[p]? = some x := ⟨_, List.getElem?_eq_getElem (by rw [H.out.1]; exact hpn)⟩
      obtain ⟨Bj, off, rfl, hJ⟩ := H.out.2.1 p y hy
      have c1 := hJ.2.1
      have hm : mayF (atL Jb.rel l) lf t (g k).toNat = (decide (lf p > 0) && decide (y.rel ≤ t)) := by rw [hp, Int.toNat_natCast]; unfold mayF; rw [atL_of hy]
      have HF : Hid (mayF (atL Jb.rel l) lf t (g k).toNat = true → (p : Int) = b) := fun h => by rw [← hp]; exact (H.out.2.2.2.2.2.found hlt h K.out).symm
      have HN : Hid (mayF (atL Jb.rel l) lf t (g k).toNat = false → ∀ q, q < k + 1 → mayF (atL Jb.rel l) lf t (g q).toNat = false) := fun h q hq => by
        by_cases c : q = k
        · subst c; exact h
        · exact K.out q (by omega)
      rw [hp] at o0
      clear hJ hy K hgk hp
      generalize mayF (atL Jb.rel l) lf t (g k).toNat = mm at *
      generalize y.rel = r at *
      generalize lf p = f at *
      by_cases t1 : f > 0
      · have d2 : decide (f > 0) = true := decide_eq_true t1
        have d2' : decide (0 < f) = true := d2
        by_cases t2 : r ≤ t
        · have d3 : decide (r ≤ t) = true := decide_eq_true t2
          obtain rfl : mm = true := by rw [hm, d2, d3]; rfl
          have hb := Lib.hid (HF.out rfl)
          clear HF HN hm t1 t2
          go_wp2
          go_ret
          exact ⟨by first | exact ret_i hb.out, 0, rfl⟩
        · have d3 : decide (r ≤ t) = false := decide_eq_false t2
          obtain rfl : mm = false := by rw [hm, d3]; simp
          have K2 := Lib.hid (HN.out rfl)
          clear HF HN hm t1 t2
          go_wp2
          go_roundw
          case rel => exact ⟨k + 1, by first | rfl | simp, by omega, by first | rfl | trivial, K2⟩
          case measure => simp [intOf]; omega
      · have d2 : decide (f > 0) = false := decide_eq_false t1
        have d2' : decide (0 < f) = false := d2
        obtain rfl : mm = false := by rw [hm, d2]; rfl
        have K2 := Lib.hid (HN.out rfl)
        clear HF HN hm t1
        go_wp2
        go_roundw
        case rel => exact ⟨k + 1, by first | rfl | simp, by omega, by first | rfl | trivial, K2⟩
        case measure => simp [intOf]; omega
    · have d1 : decide ((k : Int) < (n : Int)) = false := decide_eq_false (by omega)
      obtain rfl : b = -1 := H.out.2.2.2.2.2.none (fun q hq => K.out q (by omega))
      clear K
      go_wp2
      go_ret
      first | exact ⟨rfl, 0, rfl⟩ | exact ⟨rfl, _, rfl⟩
end Go.Proofs.YtcohodpaagpfgaaDoor
