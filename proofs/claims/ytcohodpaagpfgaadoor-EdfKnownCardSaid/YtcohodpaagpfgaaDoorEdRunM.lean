/- The contracts of package edf: Run, Meets. -/
import Derived.Test.YtcohodpaagpfgaaDoorEdSch
namespace Go.Proofs.YtcohodpaagpfgaaDoor
open Go.RowKit Go.Lib
set_option linter.unusedVariables false
set_option linter.unusedSimpArgs false

/-- What Run answers. -/
def runL (l : List Jb) (t : Int) : List Int := if allB l && decide (0 ≤ t) then edfL Jb.work l (min t 10000).toNat else []
theorem atL_work_le {l : List Jb} (h : allB l = true) {i : Nat} (hi : i < l.length) : atL Jb.work l i ≤ 100000 := by
  obtain ⟨x, hx⟩ : ∃ x, l[i]? = some x := ⟨_, List.getElem?_eq_getElem hi⟩
  rw [atL_of hx]
  have := work_good (good_of_all h hx); omega
theorem atL_charge_le {l : List Jb} (h : allB l = true) {i : Nat} (hi : i < l.length) : atL Jb.charge l i ≤ 100000 := by
  obtain ⟨x, hx⟩ : ∃ x, l[i]? = some x := ⟨_, List.getElem?_eq_getElem hi⟩
  rw [atL_of hx]
  have := charge_good (good_of_all h hx); omega
/-- A slice of ticks that a call hands back. -/
def Ticks (r : List Int) (w : World) (e : Ending) (w' : World) : Prop := ∃ X c, e = .returned (.slice X r.length c) ∧ r.length ≤ c ∧ c ≤ 9223372036854775807 ∧ RdT w' X r ∧ Below w.heap.size w w' ∧ ((X = none ∧ c = 0 ∧ r = []) ∨ ∃ ad, X = some ad)
set_option maxHeartbeats 1600000 in
set_option maxRecDepth 100000 in
theorem run_any (A : Option Addr) (cap : Nat) (l : List Jb) (t : Int) (w : World) (hn : l.length ≤ 40) (hcap : cap ≤ 9223372036854775807) (hlc : l.length ≤ cap) (hs : ∀ x ∈ l, x.name.size ≤ 1000000) (hL : Ltr w) (hR : RdJ w A l) :
    Calls Tryd.prog 11 #[.slice A l.length cap, .int .i64 t] w (Ticks (runL l t) w) := by
  obtain ⟨ga, hga⟩ : ∃ g, allB l = g := ⟨_, rfl⟩
  have C1 := Lib.hid (all_any A cap l ga w hcap hlc hs hL hR hga)
  by_cases hgo : ga = true ∧ 0 ≤ t
  · obtain ⟨rfl, ht⟩ := hgo
    obtain ⟨q, hq⟩ : ∃ q : Nat, min t 10000 = (q : Int) := ⟨(min t 10000).toNat, by omega⟩
    have hq2 : q ≤ 10000 := by omega
    have hr : Hid (runL l t = edfL Jb.work l q) := by show _ = _; unfold runL; rw [hga, decide_eq_true ht, hq]; rfl
    have C2 : Hid (∀ w', Below w.heap.size w w' → Calls Tryd.prog 30 #[.slice A l.length cap, .func (.func 25) #[] #[]] w' (fun e w2 => ∃ B, e = .returned (.slice (some ⟨B, 0, none⟩) l.length l.length) ∧ w'.heap.size ≤ B ∧ Below w'.heap.size w' w2 ∧ Cel B l.length (atL Jb.work l) w2)) := fun w' hb => eachW_any A cap l w' (by omega) hcap hlc hs (hL.below hb) (hR.below hb)
    have C3 : Hid (∀ (N : Nat) (w' : World), Below w.heap.size w w' → Cel N l.length (atL Jb.work l) w' → Calls Tryd.prog 29 #[.slice A l.length cap, .slice (some ⟨N, 0, none⟩) l.length l.length, .int .i64 (q : Int)] w' (fun e w2 => ∃ T, e = .returned (.slice (some ⟨T, 0, none⟩) q q) ∧ w'.heap.size ≤ T ∧ RdT w2 (some ⟨T, 0, none⟩) (edfL Jb.work l q) ∧ Below w'.heap.size w' w2)) := fun N w' hb hN => sched_any A cap l Jb.work N l.length q w' hn hcap hlc (hR.below hb) hN (fun i hi => atL_work_le hga hi) hq2
    have d1 : decide (t < 0) = false := decide_eq_false (by omega)
    generalize l.length = n at *
    clear hs hL hR hga ht
    rw [hr.out]
    clear hr
    go_enter Tryd.func11, Tryd.ntmps11
    go_wp2_with fail
    refine C1.out.mono ?_; rintro e w1 ⟨rfl, hb1⟩
    replace hb1 := Lib.hid hb1
    clear C1
    go_wp2_with fail
    refine (C2.out _ hb1.out).mono ?_; rintro e w2 ⟨B, rfl, _, hb, hC⟩
    have b2 : Hid (Below w.heap.size w w2) := below_on hb1.out hb
    replace hC := Lib.hid hC
    clear C2 hb hb1
    go_wp2_with fail
    refine (C3.out _ _ b2.out hC.out).mono ?_; rintro e w3 ⟨T, rfl, _, hT, hb⟩
    have b3 : Hid (Below w.heap.size w w3) := below_on b2.out hb
    replace hT := Lib.hid hT
    clear C3 hC hb b2
    go_wp2
    go_ret
    exact ⟨some ⟨T, 0, none⟩, q, by first | (rw [edfL_len]; done) | (rw [edfL_len]; rfl), by rw [edfL_len]; exact Nat.le_refl _, by omega, hT.out, b3.out, .inr ⟨_, rfl⟩⟩
  · have hr : runL l t = [] := by
      unfold runL
      rw [hga]
      cases ga
      · rfl
      · rw [decide_eq_false (fun h => hgo ⟨rfl, h⟩)]; rfl
    rw [hr]
    generalize l.length = n at *
    clear hs hL hR hga hr
    go_enter Tryd.func11, Tryd.ntmps11
    go_wp2_with fail
    refine C1.out.mono ?_; rintro e w1 ⟨rfl, hb1⟩
    replace hb1 := Lib.hid hb1
    clear C1
    cases ga
    · clear hgo
      go_wp2
      go_ret
      exact ⟨none, 0, rfl, Nat.le_refl _, by decide, fun k x hx => by simp at hx, hb1.out, .inl ⟨rfl, rfl, rfl⟩⟩
    · have d1 : decide (t < 0) = true := decide_eq_true (by have : ¬ 0 ≤ t := fun h => hgo ⟨rfl, h⟩; omega)
      clear hgo
      go_wp2
      go_ret
      exact ⟨none, 0, rfl, Nat.le_refl _, by decide, fun k x hx => by simp at hx, hb1.out, .inl ⟨rfl, rfl, rfl⟩⟩

/-! ## Meets -/
theorem RdT.other {w : World} {T : Nat} {r : List Int} (h : RdT w (some ⟨T, 0, none⟩) r) {C k : Nat} (hc : T ≠ C) (v : Value) : RdT (w.setCell ⟨C, k, none⟩ v) (some ⟨T, 0, none⟩) r := by
  intro j x hx
  obtain ⟨b, off, he, h1⟩ := h j x hx
  cases he
  exact ⟨T, 0, rfl, by rw [World.cell?_setCell_other _ _ _ _ (by intro e'; simp only [Addr.mk.injEq] at e'; omega)]; exact h1⟩
theorem cn_le (r : List Int) (k i : Nat) : cn r k i ≤ (k : Int) := by
  unfold cn
  have : (r.take k).count (i : Int) ≤ (r.take k).length := List.count_le_length
  rw [List.length_take] at this
  omega
/-- The ticks of i in time, of the first k. -/
def inT (l : List Jb) (r : List Int) (k i : Nat) : Int := cn r (min k (atL Jb.dl l i).toNat) i
theorem inT_zero (l : List Jb) (r : List Int) (i : Nat) : inT l r 0 i = 0 := by unfold inT; rw [Nat.zero_min, cn_zero]
theorem inT_same {l : List Jb} {r : List Int} {k i : Nat} {x : Int} (hx : r[k]? = some x) (h : ¬ x = (i : Int) ∨ atL Jb.dl l i ≤ (k : Int)) : inT l r (k + 1) i = inT l r k i := by
  unfold inT
  rcases Nat.lt_or_ge k (atL Jb.dl l i).toNat with c | c
  · rw [Nat.min_eq_left (by omega), Nat.min_eq_left (by omega), cn_next i hx]
    rcases h with h | h
    · rw [if_neg h]; omega
    · omega
  · rw [Nat.min_eq_right (by omega), Nat.min_eq_right (by omega)]
theorem inT_up {l : List Jb} {r : List Int} {k p : Nat} (hx : r[k]? = some (p : Int)) (h : (k : Int) < atL Jb.dl l p) : inT l r (k + 1) p = inT l r k p + 1 := by
  unfold inT
  rw [Nat.min_eq_left (by omega), Nat.min_eq_left (by omega), cn_next p hx, if_pos rfl]
theorem inT_bound (l : List Jb) (r : List Int) (k i : Nat) : 0 ≤ inT l r k i ∧ inT l r k i ≤ (k : Int) := by
  unfold inT
  have h1 := cn_nonneg r (min k (atL Jb.dl l i).toNat) i
  have h2 := cn_le r (min k (atL Jb.dl l i).toNat) i
  omega
theorem meets_eq {l : List Jb} {E : Nat} (ha : allB l = true) (hE : endM 0 l = (E : Int)) : ((List.range l.length).map (inT l (edfL Jb.charge l E) E) == (List.range l.length).map (atL Jb.charge l)) = meetsB l := by
  have hg : ∀ y ∈ l, y.good = true := fun y hy => List.all_eq_true.1 (Bool.and_eq_true_iff.1 ha).2 y hy
  rw [Bool.eq_iff_iff, beq_iff_eq, meetsB_iff, hE, Int.toNat_natCast]
  have key : ∀ (i : Nat) (x : Jb), l[i]? = some x → inT l (edfL Jb.charge l E) E i = cn (edfL Jb.charge l E) x.dl.toNat i ∧ atL Jb.charge l i = x.charge ∧ cn (edfL Jb.charge l E) x.dl.toNat i ≤ x.charge := by
    intro i x hx
    have hi := (List.getElem?_eq_some_iff.1 hx).1
    have hdl := (endM_le l 0).2 x (List.mem_of_getElem? hx)
    refine ⟨?_, atL_of hx, ?_⟩
    · unfold inT
      rw [atL_of hx, Nat.min_eq_right (by omega)]
    · have := (edfT_edf (n := l.length) (rel := atL Jb.rel l) (dl := atL Jb.dl l) (wk := atL Jb.charge l) E).le (fun j hj => by
        obtain ⟨y, hy⟩ : ∃ y, l[j]? = some y := ⟨_, List.getElem?_eq_getElem hj⟩
        rw [atL_of hy]; have := charge_good (hg y (List.mem_of_getElem? hy)); omega) hi x.dl.toNat
      rw [atL_of hx] at this
      exact this
  constructor
  · intro h
    refine ⟨ha, fun i x hx => ?_⟩
    have hi := (List.getElem?_eq_some_iff.1 hx).1
    have h1 := congrArg (fun m => m[i]?) h
    simp only [List.getElem?_map, List.getElem?_range hi, Option.map_some, Option.some.injEq] at h1
    obtain ⟨k1, k2, k3⟩ := key i x hx
    omega
  · rintro ⟨_, h⟩
    refine List.map_congr_left fun i hi => ?_
    have hi2 := List.mem_range.1 hi
    obtain ⟨x, hx⟩ : ∃ y, l[i]? = some y := ⟨_, List.getElem?_eq_getElem hi2⟩
    obtain ⟨k1, k2, k3⟩ := key i x hx
    have := h i x hx
    omega
theorem equalN_any (B1 B2 n : Nat) (f1 f2 : Nat → Int) (g : Bool) (w : World) (hn : n ≤ 1000) (h1 : Cel B1 n f1 w) (h2 : Cel B2 n f2 w) (hg : ((List.range n).map f1 == (List.range n).map f2) = g) :
    Calls Tryd.prog 32 #[.slice (some ⟨B1, 0, none⟩) n n, .slice (some ⟨B2, 0, none⟩) n n] w (Ret (.bool g) w) := by
  have h := Tryd.slices_Equal_int B1 0 n n B2 0 n n ((List.range n).map f1) ((List.range n).map f2) w (by simp) (by simp) (by omega) (by omega)
    (fun j hj => by have hj2 : j < n := by simpa using hj
                    rw [Nat.zero_add, h1.cell j hj2]; simp [List.getD, List.getElem?_range hj2])
    (fun j hj => by have hj2 : j < n := by simpa using hj
                    rw [Nat.zero_add, h2.cell j hj2]; simp [List.getD, List.getElem?_range hj2])
  rw [List.take_of_length_le (by simp), List.take_of_length_le (by simp), hg] at h
  exact h
set_option maxHeartbeats 3200000 in
set_option maxRecDepth 100000 in
theorem meets_any (A : Option Addr) (cap : Nat) (l : List Jb) (g : Bool) (w : World) (hn : l.length ≤ 40) (hcap : cap ≤ 9223372036854775807) (hlc : l.length ≤ cap) (hs : ∀ x ∈ l, x.name.size ≤ 1000000) (hL : Ltr w) (hR : RdJ w A l) (hg : meetsB l = g) :
    Calls Tryd.prog 12 #[.slice A l.length cap] w (RetB (.bool g) w) := by
  obtain ⟨ga, hga⟩ : ∃ g, allB l = g := ⟨_, rfl⟩
  have C1 := Lib.hid (all_any A cap l ga w hcap hlc hs hL hR hga)
  cases ga
  · obtain rfl : false = g := by rw [← hg]; unfold meetsB; rw [hga]; rfl
    generalize l.length = n at *
    clear hs hL hR hga hg
    go_enter Tryd.func12, Tryd.ntmps12
    go_wp2_with fail
    refine C1.out.mono ?_; rintro e w1 ⟨rfl, hb1⟩
    clear C1
    go_wp2
    go_ret
    exact ⟨rfl, by have s0 := hb1.size; (try simp only [World.heap_drewN, World.size_alloc] at s0); repeat (first | exact Below.refl _ _ | exact hb1 | refine Below.trans ?_ (Below.mono hb1 (by first | omega | (simp; done) | (simp; omega))) | refine Below.setCell ?_ (by first | omega | (simp; done) | (simp; omega)) _ | refine below_dN ?_ _ | refine Below.drew ?_ | refine Below.alloc ?_ (by first | omega | (simp; done) | (simp; omega)) _)⟩
  · have hg1 : ∀ y ∈ l, y.good = true := fun y hy => List.all_eq_true.1 (Bool.and_eq_true_iff.1 hga).2 y hy
    obtain ⟨E, hE⟩ : ∃ E : Nat, endM 0 l = (E : Int) := ⟨(endM 0 l).toNat, by have := (endM_le l 0).1; omega⟩
    have hE2 : E ≤ 10000 := by have := endM_bound l 0 10000 (by omega) (fun x hx => (jb_num (hg1 x hx)).2.2.1); omega
    have hez : endZ l = (E : Int) := by unfold endZ; rw [if_pos hga, hE]
    have C2 : Hid (∀ w', Below w.heap.size w w' → Calls Tryd.prog 30 #[.slice A l.length cap, .func (.func 31) #[] #[]] w' (fun e w2 => ∃ B, e = .returned (.slice (some ⟨B, 0, none⟩) l.length l.length) ∧ w'.heap.size ≤ B ∧ Below w'.heap.size w' w2 ∧ Cel B l.length (atL Jb.charge l) w2)) := fun w' hb => eachC_any A cap l w' (by omega) hcap hlc hs (hL.below hb) (hR.below hb)
    have C3 : Hid (∀ w', Below w.heap.size w w' → Calls Tryd.prog 23 #[.slice A l.length cap] w' (RetB (.int .i64 (E : Int)) w')) := fun w' hb => end_any A cap l _ w' hcap hlc hs (hL.below hb) (hR.below hb) hez
    have C4 : Hid (∀ (N : Nat) (w' : World), Below w.heap.size w w' → Cel N l.length (atL Jb.charge l) w' → Calls Tryd.prog 29 #[.slice A l.length cap, .slice (some ⟨N, 0, none⟩) l.length l.length, .int .i64 (E : Int)] w' (fun e w2 => ∃ T, e = .returned (.slice (some ⟨T, 0, none⟩) E E) ∧ w'.heap.size ≤ T ∧ RdT w2 (some ⟨T, 0, none⟩) (edfL Jb.charge l E) ∧ Below w'.heap.size w' w2)) := fun N w' hb hN => sched_any A cap l Jb.charge N l.length E w' hn hcap hlc (hR.below hb) hN (fun i hi => atL_charge_le hga hi) hE2
    have C5 : Hid (∀ (B1 B2 : Nat) (w' : World), Cel B1 l.length (inT l (edfL Jb.charge l E) E) w' → Cel B2 l.length (atL Jb.charge l) w' → Calls Tryd.prog 32 #[.slice (some ⟨B1, 0, none⟩) l.length l.length, .slice (some ⟨B2, 0, none⟩) l.length l.length] w' (Ret (.bool g) w')) := fun B1 B2 w' h1 h2 => equalN_any B1 B2 l.length _ _ g w' (by omega) h1 h2 (by rw [meets_eq hga hE, hg])
    obtain ⟨n, hl⟩ : ∃ n, l.length = n := ⟨_, rfl⟩
    have hmk : ∀ w', (Instr.makeSlice 29 (.int .i64 (n : Int)) (.int .i64 (n : Int))).run Tryd.prog w' = .ok (.slice (some ⟨w'.heap.size, 0, none⟩) n n) (w'.alloc (.cells (madeCells #[.int .i64 0] n) 3)) := fun w' => run_make_row' _ _ _ 8 Tryd.underlying29 Tryd.infoI (by kernel_rfl) .i64 .i64 n (by omega) (by omega) w'
    obtain ⟨r, hr⟩ : ∃ r, edfL Jb.charge l E = r := ⟨_, rfl⟩
    have hrl : r.length = E := by rw [← hr, edfL_len]
    have hrr : ∀ (k : Nat) (x : Int), r[k]? = some x → x = -1 ∨ ∃ i : Nat, x = (i : Int) ∧ i < n := fun k x hx => by rw [← hr] at hx; have := edfT_range hx; rw [hl] at this; exact this
    have H := Lib.hid (And.intro hl (And.intro hR (And.intro hrl hrr)))
    rw [hr] at C4 C5
    rw [hl] at C1 C2 C3 C4 C5 hn hlc ⊢
    clear hs hL hR hga hg hg1 hE hez hl hr hrl hrr
    go_enter Tryd.func12, Tryd.ntmps12
    go_wp2_with fail
    refine C1.out.mono ?_; rintro e w1 ⟨rfl, hb1⟩
    replace hb1 := Lib.hid hb1
    clear C1
    go_wp2_with fail
    refine (C2.out _ hb1.out).mono ?_; rintro e w2 ⟨N, rfl, hN0, hb, hC⟩
    have b2 : Hid (Below w.heap.size w w2) := below_on hb1.out hb
    have hm : Below w2.heap.size w2 (w2.alloc (.cells (madeCells #[.int .i64 0] n) 3)) := (Below.refl _ _).alloc (Nat.le_refl _) _
    have K0 : Hid (Below w.heap.size w (w2.alloc (.cells (madeCells #[.int .i64 0] n) 3)) ∧ Cel N n (atL Jb.charge l) (w2.alloc (.cells (madeCells #[.int .i64 0] n) 3)) ∧ Cel w2.heap.size n (inT l r 0) (w2.alloc (.cells (madeCells #[.int .i64 0] n) 3)) ∧ N < w2.heap.size ∧ w.heap.size ≤ w2.heap.size) :=
      ⟨below_on b2.out hm, hC.on hm, (freshC w2 3 n).to fun k hk => (inT_zero l r k).symm, hC.lt, b2.out.size⟩
    clear C2 hb hb1 hC hm b2 hN0
    go_wp2_with fail
    generalize w2.alloc _ = w3 at K0 ⊢
    generalize w2.heap.size = I at *
    refine (C3.out _ K0.out.1).mono ?_; rintro e w4 ⟨rfl, hb⟩
    have K1 : Hid (Below w.heap.size w w4 ∧ Cel N n (atL Jb.charge l) w4 ∧ Cel I n (inT l r 0) w4 ∧ N < I ∧ w.heap.size ≤ I) := ⟨below_on K0.out.1 hb, K0.out.2.1.on hb, K0.out.2.2.1.on hb, K0.out.2.2.2⟩
    clear C3 hb K0
    go_wp2_with fail
    refine (C4.out _ _ K1.out.1 K1.out.2.1).mono ?_; rintro e w5 ⟨T, rfl, hT0, hT, hb⟩
    have K2 : Hid (Below w.heap.size w w5 ∧ Cel N n (atL Jb.charge l) w5 ∧ Cel I n (inT l r 0) w5 ∧ RdT w5 (some ⟨T, 0, none⟩) r) := ⟨below_on K1.out.1 hb, K1.out.2.1.on hb, K1.out.2.2.1.on hb, hT⟩
    have hNI : Hid (N < I ∧ w.heap.size ≤ I ∧ I < T) := ⟨K1.out.2.2.2.1, K1.out.2.2.2.2, Nat.lt_of_lt_of_le K1.out.2.2.1.lt hT0⟩
    clear C4 hb K1 hmk hT0 hT
    go_wp2
    go_loopw [21] (fun st wr => ∃ (k : Nat), st = .int .i64 (k : Int) ∧ k ≤ E ∧ Hid (Below w.heap.size w wr ∧ Cel N n (atL Jb.charge l) wr ∧ Cel I n (inT l r k) wr ∧ RdT wr (some ⟨T, 0, none⟩) r)) (fun st _ => E - (intOf st).toNat)
    case atStart => exact ⟨0, rfl, by omega, K2⟩
    case round =>
      clear K2
      obtain ⟨k, rfl, hkE, K⟩ := hrel
      rcases Nat.lt_or_ge k E with hlt | hge
      · have d1 : decide ((k : Int) < (E : Int)) = true := decide_eq_true (by omega)
        have e1 : IntKind.i64.wrap ((k : Int) + 1) = ((k + 1 : Nat) : Int) := by rw [IntKind.wrap_i64]; omega
        have b1 : (k : Int) < (E : Int) := by omega
        obtain ⟨x, hx⟩ : ∃ x, r[k]? = some x := ⟨_, List.getElem?_eq_getElem (by have := H.out.2.2.1; omega)⟩
        obtain ⟨B', off', he, t0⟩ := K.out.2.2.2 k x hx
        cases he
        rw [Nat.zero_add] at t0
        rcases H.out.2.2.2 k x hx with rfl | ⟨p, rfl, hpn⟩
        · have K3 : Hid (Below w.heap.size w wr ∧ Cel N n (atL Jb.charge l) wr ∧ Cel I n (inT l r (k + 1)) wr ∧ RdT wr (some ⟨T, 0, none⟩) r) := ⟨K.out.1, K.out.2.1, K.out.2.2.1.to fun i _ => (inT_same hx (.inl (by omega))).symm, K.out.2.2.2⟩
          clear K hx
          go_wp2
          go_roundw
          case rel => exact ⟨k + 1, by first | rfl | simp, by omega, K3⟩
          case measure => simp [intOf]; omega
        · have b2 : (p : Int) < (n : Int) := by omega
          have d2 : ((p : Int) != -1) = true := by first | (simp; done) | (simp; omega)
          obtain ⟨y, hy⟩ : ∃ y, l[p]? = some y := ⟨_, List.getElem?_eq_getElem (by rw [H.out.1]; exact hpn)⟩
          obtain ⟨Bj, off, rfl, hJ⟩ := (H.out.2.1.below K.out.1) p y hy
          have c2 := hJ.2.2.1
          have hdy : atL Jb.dl l p = y.dl := atL_of hy
          clear hJ hy
          generalize y.dl = dy at *
          by_cases hlt2 : (k : Int) < dy
          · have d3 : decide ((k : Int) < dy) = true := decide_eq_true hlt2
            obtain ⟨F, hF⟩ : ∃ F, inT l r k p = F := ⟨_, rfl⟩
            have hup : inT l r (k + 1) p = F + 1 := by rw [inT_up hx (by rw [hdy]; exact hlt2), hF]
            have bd := inT_bound l r k p
            rw [hF] at bd
            have y0 : wr.cell? ⟨I, p, none⟩ = some (.int .i64 F) := by rw [← hF]; exact K.out.2.2.1.cell p hpn
            have y1 : wr.frozen? ⟨I, p, none⟩ = false := K.out.2.2.1.frz p hpn
            obtain ⟨q, hq⟩ : ∃ q, F + 1 = q := ⟨_, rfl⟩
            have e3 : IntKind.i64.wrap (F + 1) = q := by rw [IntKind.wrap_i64]; omega
            have e4 : wrap64 (F + 1) = q := by unfold wrap64; omega
            have K3 : Hid (Below w.heap.size w (wr.setCell ⟨I, p, none⟩ (.int .i64 q)) ∧ Cel N n (atL Jb.charge l) (wr.setCell ⟨I, p, none⟩ (.int .i64 q)) ∧ Cel I n (inT l r (k + 1)) (wr.setCell ⟨I, p, none⟩ (.int .i64 q)) ∧ RdT (wr.setCell ⟨I, p, none⟩ (.int .i64 q)) (some ⟨T, 0, none⟩) r) :=
              ⟨K.out.1.setCell hNI.out.2.1 _, K.out.2.1.other (by have := hNI.out.1; omega) _, (K.out.2.2.1.store hpn q).to (fun i hi => by
                by_cases c : i = p
                · subst c; rw [if_pos rfl, hup, hq]
                · rw [if_neg c, inT_same hx (.inl (by omega))]), K.out.2.2.2.other (by have := hNI.out.2.2; omega) _⟩
            clear K hx hdy hlt2 hF hup bd hq
            go_wp2
            go_roundw
            case rel => exact ⟨k + 1, by first | rfl | simp, by clear e3 e4; omega, K3⟩
            case measure => simp [intOf]; clear e3 e4; omega
          · have d3 : decide ((k : Int) < dy) = false := decide_eq_false hlt2
            have K3 : Hid (Below w.heap.size w wr ∧ Cel N n (atL Jb.charge l) wr ∧ Cel I n (inT l r (k + 1)) wr ∧ RdT wr (some ⟨T, 0, none⟩) r) := ⟨K.out.1, K.out.2.1, K.out.2.2.1.to fun i _ => (by
              by_cases c : i = p
              · subst c; exact (inT_same hx (.inr (by rw [hdy]; omega))).symm
              · exact (inT_same hx (.inl (by omega))).symm), K.out.2.2.2⟩
            clear K hx hdy hlt2
            go_wp2
            go_roundw
            case rel => exact ⟨k + 1, by first | rfl | simp, by omega, K3⟩
            case measure => simp [intOf]; omega
      · have d1 : decide ((k : Int) < (E : Int)) = false := decide_eq_false (by omega)
        obtain rfl : k = E := by omega
        have C6 := Lib.hid (C5.out I N wr K.out.2.2.1 K.out.2.1)
        have b9 := Lib.hid K.out.1
        clear K C5
        go_wp2_with fail
        refine C6.out.mono ?_; rintro e w' ⟨rfl, m, rfl⟩
        go_wp2
        go_ret
        exact ⟨rfl, by have s0 := b9.out.size; (try simp only [World.heap_drewN, World.size_alloc] at s0); repeat (first | exact Below.refl _ _ | exact b9.out | refine Below.trans ?_ (Below.mono b9.out (by first | omega | (simp; done) | (simp; omega))) | refine Below.setCell ?_ (by first | omega | (simp; done) | (simp; omega)) _ | refine below_dN ?_ _ | refine Below.drew ?_ | refine Below.alloc ?_ (by first | omega | (simp; done) | (simp; omega)) _)⟩
end Go.Proofs.YtcohodpaagpfgaaDoor
