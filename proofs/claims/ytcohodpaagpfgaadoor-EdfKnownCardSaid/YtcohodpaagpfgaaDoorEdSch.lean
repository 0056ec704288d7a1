/- The contracts of package edf: schedule, Run. -/
import Derived.Test.YtcohodpaagpfgaaDoorEd3
import Derived.Test.YtcohodpaagpfgaaDoorShelf
namespace Go.Proofs.YtcohodpaagpfgaaDoor
open Go.RowKit Go.Lib
set_option linter.unusedVariables false
set_option linter.unusedSimpArgs false

/-- A copy of a block of numbers. -/
theorem cloneN_any (B n c : Nat) (f : Nat → Int) (w : World) (hn : n ≤ 1000) (hF : Cel B n f w) :
    Calls Tryd.prog 51 #[.slice (some ⟨B, 0, none⟩) n c] w fun e w' => ∃ g c', e = .returned (.slice (some ⟨g, 0, none⟩) n c') ∧ w.heap.size ≤ g ∧ n ≤ c' ∧ c' ≤ 9223372036854775807 ∧ Below w.heap.size w w' ∧ Cel g n f w' := by
  have h := Tryd.slices_Clone_int B 0 n c ((List.range n).map f) w (by simp) (by omega) (fun j hj => by
    have hj2 : j < n := by simpa using hj
    rw [Nat.zero_add, hF.cell j hj2]
    simp [List.getD, List.getElem?_range hj2])
  refine h.mono ?_
  rintro e w' ⟨v', rfl, hown, hnil, hb⟩
  rw [List.take_of_length_le (by simp)] at hown
  rcases hown.2 with ⟨rfl, rfl⟩ | ⟨g, cap, cur, rfl, hg, hh, h1, h2, h3, h4⟩
  · exact absurd rfl hnil
  · refine ⟨g, cap, rfl, hg, h1, by unfold maxLen at h2; omega, hb, (Array.getElem?_eq_some_iff.1 hh).1, fun k hk => ?_, fun k hk => by simp [World.frozen?, hh]⟩
    rw [cell_row hh, ← Array.getElem?_toList]
    have : (cur.toList.take (n * 1))[k]? = some (.int .i64 (f k)) := by rw [h4]; simp [List.getElem?_range hk]
    rw [List.getElem?_take, if_pos (by omega)] at this
    exact this
section
variable (n : Nat) (rel dl wk : Nat → Int)
/-- What is left behind k ticks. -/
def lfE (k : Nat) (i : Nat) : Int := wk i - cn (edfT n rel dl wk k) k i
/-- The ticks laid. -/
def laidE (k : Nat) (q : Nat) : Int := if q < k then ((edfT n rel dl wk k)[q]?).getD 0 else 0
/-- Who is picked at k. -/
def pickE (k : Nat) : Int := pick (mayB rel wk (edfT n rel dl wk k) k) dl n
variable {n rel dl wk}
theorem lfE_zero (i : Nat) : lfE n rel dl wk 0 i = wk i := by unfold lfE; rw [cn_zero]; omega
theorem edfT_pick (k : Nat) : (edfT n rel dl wk (k + 1))[k]? = some (pickE n rel dl wk k) := edfT_at (Nat.lt_succ_self k)
theorem lfE_next (k i : Nat) : lfE n rel dl wk (k + 1) i = lfE n rel dl wk k i - (if pickE n rel dl wk k = (i : Int) then 1 else 0) := by
  unfold lfE
  rw [cn_next i (edfT_pick k), cn_edfT i (Nat.le_succ k)]
  omega
theorem laidE_next (k : Nat) : (fun q => if q = k then pickE n rel dl wk k else laidE n rel dl wk k q) = laidE n rel dl wk (k + 1) := by
  funext q
  unfold laidE
  by_cases c : q = k
  · subst c; rw [if_pos rfl, if_pos (by omega), edfT_pick]; rfl
  · rw [if_neg c]
    by_cases c2 : q < k
    · rw [if_pos c2, if_pos (by omega), edfT_succ, List.getElem?_append_left (by rw [edfT_len]; exact c2)]
    · rw [if_neg c2, if_neg (by omega)]
theorem mayF_may (k : Nat) : mayF rel (lfE n rel dl wk k) (k : Int) = mayB rel wk (edfT n rel dl wk k) k := by
  funext i
  unfold mayF mayB lfE
  rw [Bool.and_comm]
  congr 1
  rw [decide_eq_decide]; omega
theorem pickE_cases (k : Nat) : pickE n rel dl wk k = -1 ∨ ∃ p : Nat, pickE n rel dl wk k = (p : Int) ∧ p < n ∧ 0 < lfE n rel dl wk k p := by
  rcases pick_picked (mayB rel wk (edfT n rel dl wk k) k) dl n with ⟨h, _⟩ | ⟨i, h, hi, hm, _⟩
  · exact .inl h
  · refine .inr ⟨i, h, hi, ?_⟩
    unfold mayB at hm
    have := of_decide_eq_true (Bool.and_eq_true_iff.1 hm).2
    unfold lfE; omega
theorem lfE_le (k i : Nat) : lfE n rel dl wk k i ≤ wk i := by unfold lfE; have := cn_nonneg (edfT n rel dl wk k) k i; omega
end
theorem freshC (w0 : World) (e : TypeId) (n : Nat) : Cel w0.heap.size n (fun _ => 0) (w0.alloc (.cells (madeCells #[.int .i64 0] n) e)) := (Arr.fresh w0 e n).cel
set_option maxHeartbeats 3200000 in
set_option maxRecDepth 100000 in
theorem sched_any (A : Option Addr) (cap : Nat) (l : List Jb) (f : Jb → Int) (N nc t : Nat) (w : World) (hn : l.length ≤ 40) (hcap : cap ≤ 9223372036854775807) (hlc : l.length ≤ cap) (hR : RdJ w A l) (hN : Cel N l.length (atL f l) w)
    (hf : ∀ i, i < l.length → atL f l i ≤ 100000) (ht : t ≤ 10000) :
    Calls Tryd.prog 29 #[.slice A l.length cap, .slice (some ⟨N, 0, none⟩) l.length nc, .int .i64 (t : Int)] w (fun e w' => ∃ T, e = .returned (.slice (some ⟨T, 0, none⟩) t t) ∧ w.heap.size ≤ T ∧ RdT w' (some ⟨T, 0, none⟩) (edfL f l t) ∧ Below w.heap.size w w') := by
  obtain ⟨n, hl⟩ : ∃ n, l.length = n := ⟨_, rfl⟩
  have C1 := Lib.hid (cloneN_any N l.length nc (atL f l) w (by omega) hN)
  have C2 : Hid (∀ w', Below w.heap.size w w' → Calls Tryd.prog 52 #[.slice A l.length cap] w' (fun e w2 => ∃ (B : Nat) (g : Nat → Int), e = .returned (.slice (some ⟨B, 0, none⟩) l.length l.length) ∧ w'.heap.size ≤ B ∧ B < w2.heap.size ∧ Below w'.heap.size w' w2 ∧ Run (dlOf l) g 0 l.length ∧ ∀ k, k < l.length → w2.cell? ⟨B, k, none⟩ = some (.int .i64 (g k)))) := fun w' hb => by_any A cap l w' hn hcap hlc (hR.below hb)
  have hmk : ∀ w', (Instr.makeSlice 29 (.int .i64 (t : Int)) (.int .i64 (t : Int))).run Tryd.prog w' = .ok (.slice (some ⟨w'.heap.size, 0, none⟩) t t) (w'.alloc (.cells (madeCells #[.int .i64 0] t) 3)) := fun w' => run_make_row' _ _ _ 8 Tryd.underlying29 Tryd.infoI (by kernel_rfl) .i64 .i64 t (by omega) (by omega) w'
  have H := Lib.hid (And.intro hl (And.intro hR hf))
  rw [hl] at hn hlc C1 C2 ⊢
  clear hl hR hN hf
  go_enter Tryd.func29, Tryd.ntmps29
  go_wp2_with fail
  refine C1.out.mono ?_; rintro e w1 ⟨G, c1, rfl, hG, hc1, hc1', hb1, hG1⟩
  have C3 := Lib.hid (C2.out w1 hb1)
  clear C1 C2
  go_wp2_with fail
  refine C3.out.mono ?_; rintro e w2 ⟨O, g, rfl, hO1, hO2, hb2, hRun, hOc⟩
  clear C3
  have hGO : G < O := by have := hG1.lt; omega
  have b2 : Hid (Below w.heap.size w w2) := below_on hb1 hb2
  have hG2 : Cel G n (atL f l) w2 := hG1.on hb2
  have hb3 : Below w2.heap.size w2 (w2.alloc (.cells (madeCells #[.int .i64 0] t) 3)) := (Below.refl _ _).alloc (Nat.le_refl _) _
  have hwG : Hid (w.heap.size ≤ G) := hG
  have hwO : Hid (w.heap.size ≤ O) := by have := hb1.size; show w.heap.size ≤ O; omega
  have K0 : Hid (Below w.heap.size w (w2.alloc (.cells (madeCells #[.int .i64 0] t) 3)) ∧ Cel G n (lfE n (atL Jb.rel l) (atL Jb.dl l) (atL f l) 0) (w2.alloc (.cells (madeCells #[.int .i64 0] t) 3)) ∧
      Cel w2.heap.size t (laidE n (atL Jb.rel l) (atL Jb.dl l) (atL f l) 0) (w2.alloc (.cells (madeCells #[.int .i64 0] t) 3)) ∧ ∀ k, k < n → (w2.alloc (.cells (madeCells #[.int .i64 0] t) 3)).cell? ⟨O, k, none⟩ = some (.int .i64 (g k))) :=
    ⟨below_on b2.out hb3, (hG2.on hb3).to fun k hk => (lfE_zero k).symm, (freshC w2 3 t).to fun k hk => by unfold laidE; rw [if_neg (by omega)], fun k hk => by rw [hb3.cell (p := ⟨O, k, none⟩) hO2]; exact hOc k hk⟩
  have RN : Hid (Run (dlOf l) g 0 n) := hRun
  have hOT : Hid (O < w2.heap.size) := hO2
  clear hG hb1 hG1 hO1 hO2 hb2 hRun hOc hG2 hb3 b2
  go_wp2
  clear hmk
  generalize w2.alloc _ = w3 at K0 ⊢
  have hwT : Hid (w.heap.size ≤ w2.heap.size) := by have := hwO.out; have := hOT.out; show w.heap.size ≤ w2.heap.size; omega
  generalize w2.heap.size = T at *
  go_loopw [20] (fun st wr => ∃ (k : Nat), st = .int .i64 (k : Int) ∧ k ≤ t ∧ Hid (Below w.heap.size w wr ∧ Cel G n (lfE n (atL Jb.rel l) (atL Jb.dl l) (atL f l) k) wr ∧ Cel T t (laidE n (atL Jb.rel l) (atL Jb.dl l) (atL f l) k) wr ∧ ∀ q, q < n → wr.cell? ⟨O, q, none⟩ = some (.int .i64 (g q)))) (fun st _ => t - (intOf st).toNat)
  case atStart => exact ⟨0, rfl, by omega, K0⟩
  case round =>
    clear K0
    obtain ⟨k, rfl, hkt, K⟩ := hrel
    rcases Nat.lt_or_ge k t with hlt | hge
    · have d1 : decide ((k : Int) < (t : Int)) = true := decide_eq_true (by omega)
      have e1 : IntKind.i64.wrap ((k : Int) + 1) = ((k + 1 : Nat) : Int) := by rw [IntKind.wrap_i64]; omega
      have b1 : (k : Int) < (t : Int) := by omega
      obtain ⟨b, hb⟩ : ∃ b, pickE n (atL Jb.rel l) (atL Jb.dl l) (atL f l) k = b := ⟨_, rfl⟩
      have C := Lib.hid (first_any A cap l O G n n c1 g (lfE n (atL Jb.rel l) (atL Jb.dl l) (atL f l) k) (k : Int) b wr H.out.1 (by omega) hcap hlc (H.out.2.1.below K.out.1) K.out.2.2.2 K.out.2.1 (fun q hq => by have := RN.out.to q (Nat.zero_le _) hq; omega) (Nat.le_refl _) hc1 (by omega) hc1' (by rw [mayF_may, ← hb]; exact pick_fst H.out.1 RN.out))
      have hT : Hid (∀ (W : World), Cel T t (laidE n (atL Jb.rel l) (atL Jb.dl l) (atL f l) k) W → Cel T t (laidE n (atL Jb.rel l) (atL Jb.dl l) (atL f l) (k + 1)) (W.setCell ⟨T, k, none⟩ (.int .i64 b))) := fun W h => by
        have := h.store hlt b
        rw [← hb, laidE_next] at this
        rw [← hb]; exact this
      rcases pickE_cases (n := n) (rel := atL Jb.rel l) (dl := atL Jb.dl l) (wk := atL f l) k with hp | ⟨p, hp, hpn, hpf⟩
      · rw [hp] at hb
        subst hb
        have K3 : Hid (∀ m, Below w.heap.size w ((wr.drewN m).setCell ⟨T, k, none⟩ (.int .i64 (-1))) ∧ Cel G n (lfE n (atL Jb.rel l) (atL Jb.dl l) (atL f l) (k + 1)) ((wr.drewN m).setCell ⟨T, k, none⟩ (.int .i64 (-1))) ∧ Cel T t (laidE n (atL Jb.rel l) (atL Jb.dl l) (atL f l) (k + 1)) ((wr.drewN m).setCell ⟨T, k, none⟩ (.int .i64 (-1))) ∧ ∀ q, q < n → ((wr.drewN m).setCell ⟨T, k, none⟩ (.int .i64 (-1))).cell? ⟨O, q, none⟩ = some (.int .i64 (g q))) := fun m =>
          ⟨(below_dN K.out.1 m).setCell hwT.out _, (((K.out.2.1.drewN m).other (by have := hOT.out; omega) _).to fun i hi => by rw [lfE_next, hp, if_neg (by omega)]; omega), hT.out _ (K.out.2.2.1.drewN m), fun q hq => by
            rw [World.cell?_setCell_other _ _ _ _ (by intro e'; simp only [Addr.mk.injEq] at e'; have := hOT.out; omega)]; exact K.out.2.2.2 q hq⟩
        have t0 : Hid (∀ m, (wr.drewN m).cell? ⟨T, k, none⟩ = some (.int .i64 (laidE n (atL Jb.rel l) (atL Jb.dl l) (atL f l) k k)) ∧ (wr.drewN m).frozen? ⟨T, k, none⟩ = false) := fun m => ⟨K.out.2.2.1.cell k hlt, K.out.2.2.1.frz k hlt⟩
        clear K hT hp
        go_wp2_with fail
        refine C.out.mono ?_; rintro e w' ⟨rfl, m, rfl⟩
        have K4 := Lib.hid (K3.out m)
        obtain ⟨x0, x1⟩ := t0.out m
        clear C K3 t0
        generalize wr.drewN m = W at *
        go_wp2
        go_roundw
        case rel => exact ⟨k + 1, by first | rfl | simp, by omega, K4⟩
        case measure => simp [intOf]; omega
      · rw [hp] at hb
        subst hb
        have hle := Int.le_trans (lfE_le (n := n) (rel := atL Jb.rel l) (dl := atL Jb.dl l) (wk := atL f l) k p) (H.out.2.2 p (by have := H.out.1; omega))
        have hnx : Hid (∀ i, i < n → (if i = p then lfE n (atL Jb.rel l) (atL Jb.dl l) (atL f l) k p - 1 else lfE n (atL Jb.rel l) (atL Jb.dl l) (atL f l) k i) = lfE n (atL Jb.rel l) (atL Jb.dl l) (atL f l) (k + 1) i) := fun i hi => by
          rw [lfE_next, hp]
          by_cases c : i = p
          · subst c; rw [if_pos rfl, if_pos rfl]
          · rw [if_neg c, if_neg (by omega)]; omega
        obtain ⟨F, hF⟩ : ∃ F, lfE n (atL Jb.rel l) (atL Jb.dl l) (atL f l) k p = F := ⟨_, rfl⟩
        have g0 : Hid (∀ m, (wr.drewN m).cell? ⟨G, p, none⟩ = some (.int .i64 F) ∧ (wr.drewN m).frozen? ⟨G, p, none⟩ = false) := fun m => ⟨by rw [← hF]; exact K.out.2.1.cell p hpn, K.out.2.1.frz p hpn⟩
        rw [hF] at hpf hle hnx
        obtain ⟨q, hq⟩ : ∃ q, F - 1 = q := ⟨_, rfl⟩
        have e3 : IntKind.i64.wrap (F - 1) = q := by rw [IntKind.wrap_i64]; omega
        have e4 : wrap64 (F - 1) = q := by unfold wrap64; omega
        have K3 : Hid (∀ m, Below w.heap.size w (((wr.drewN m).setCell ⟨G, p, none⟩ (.int .i64 q)).setCell ⟨T, k, none⟩ (.int .i64 (p : Int))) ∧ Cel G n (lfE n (atL Jb.rel l) (atL Jb.dl l) (atL f l) (k + 1)) (((wr.drewN m).setCell ⟨G, p, none⟩ (.int .i64 q)).setCell ⟨T, k, none⟩ (.int .i64 (p : Int))) ∧ Cel T t (laidE n (atL Jb.rel l) (atL Jb.dl l) (atL f l) (k + 1)) (((wr.drewN m).setCell ⟨G, p, none⟩ (.int .i64 q)).setCell ⟨T, k, none⟩ (.int .i64 (p : Int))) ∧ ∀ q', q' < n → (((wr.drewN m).setCell ⟨G, p, none⟩ (.int .i64 q)).setCell ⟨T, k, none⟩ (.int .i64 (p : Int))).cell? ⟨O, q', none⟩ = some (.int .i64 (g q'))) := fun m =>
          ⟨((below_dN K.out.1 m).setCell hwG.out _).setCell hwT.out _, (((K.out.2.1.drewN m).store hpn q).other (by have := hOT.out; omega) _).to (fun i hi => by have := hnx.out i hi; rw [hq] at this; exact this), hT.out _ ((K.out.2.2.1.drewN m).other (by have := hOT.out; omega) _), fun q' hq' => by
            rw [World.cell?_setCell_other _ _ _ _ (by intro e'; simp only [Addr.mk.injEq] at e'; have := hOT.out; omega), World.cell?_setCell_other _ _ _ _ (by intro e'; simp only [Addr.mk.injEq] at e'; omega)]; exact K.out.2.2.2 q' hq'⟩
        have t0 : Hid (∀ m, ((wr.drewN m).setCell ⟨G, p, none⟩ (.int .i64 q)).cell? ⟨T, k, none⟩ = some (.int .i64 (laidE n (atL Jb.rel l) (atL Jb.dl l) (atL f l) k k)) ∧ ((wr.drewN m).setCell ⟨G, p, none⟩ (.int .i64 q)).frozen? ⟨T, k, none⟩ = false ∧ (wr.drewN m).cell? ⟨T, k, none⟩ = some (.int .i64 (laidE n (atL Jb.rel l) (atL Jb.dl l) (atL f l) k k)) ∧ (wr.drewN m).frozen? ⟨T, k, none⟩ = false) := fun m => by
          have := (K.out.2.2.1.drewN m).other (C := G) (k := p) (by have := hOT.out; omega) (.int .i64 q)
          exact ⟨this.cell k hlt, this.frz k hlt, K.out.2.2.1.cell k hlt, K.out.2.2.1.frz k hlt⟩
        have b5 : (p : Int) < (n : Int) := by omega
        have d5 : ((p : Int) != -1) = true := by first | (simp; done) | (simp; omega)
        clear K hT hp hnx hF hle hpf hq
        go_wp2_with fail
        refine C.out.mono ?_; rintro e w' ⟨rfl, m, rfl⟩
        have K4 := Lib.hid (K3.out m)
        obtain ⟨x0, x1, x2, x3⟩ := t0.out m
        obtain ⟨y0, y1⟩ := g0.out m
        clear C K3 t0 g0
        generalize wr.drewN m = W at *
        go_wp2
        go_roundw
        case rel => exact ⟨k + 1, by first | rfl | simp, by omega, K4⟩
        case measure => simp [intOf]; omega
    · have d1 : decide ((k : Int) < (t : Int)) = false := decide_eq_false (by omega)
      obtain rfl : k = t := by omega
      have K3 : Hid (RdT wr (some ⟨T, 0, none⟩) (edfL f l k) ∧ Below w.heap.size w wr) := ⟨K.out.2.2.1.rdT edfL_len (fun q x hx => by
        have hq := (List.getElem?_eq_some_iff.1 hx).1
        rw [edfL_len] at hq
        have hx2 : (edfT n (atL Jb.rel l) (atL Jb.dl l) (atL f l) k)[q]? = some x := by rw [← H.out.1]; exact hx
        unfold laidE; rw [if_pos hq, hx2]; rfl), K.out.1⟩
      clear K
      go_wp2
      go_ret
      exact ⟨T, rfl, hwT.out, K3.out.1, K3.out.2⟩
end Go.Proofs.YtcohodpaagpfgaaDoor
