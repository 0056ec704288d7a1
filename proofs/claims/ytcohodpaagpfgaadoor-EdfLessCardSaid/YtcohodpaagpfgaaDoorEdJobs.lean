/- Maths of chapter 10: jobs of a list: the best there is; all are met if one is left out. -/
import Derived.Test.YtcohodpaagpfgaaDoorEdRun
namespace Go.Proofs.YtcohodpaagpfgaaDoor
set_option linter.unusedVariables false
set_option linter.unusedSimpArgs false

/-- The first m ticks, each job so much work. -/
def edfL (f : Jb → Int) (l : List Jb) (m : Nat) : List Int := edfT l.length (atL Jb.rel l) (atL Jb.dl l) (atL f l) m
theorem jb_num {x : Jb} (h : x.good = true) : 0 ≤ x.rel ∧ x.rel < x.dl ∧ x.dl ≤ 10000 ∧ 1 ≤ x.bud ∧ x.bud ≤ 1000 ∧ 1 ≤ x.act ∧ x.act ≤ 1000 ∧ 0 ≤ x.cln ∧ x.cln ≤ 100 := by
  have h2 := (Bool.and_eq_true_iff.1 h).2
  rw [jnum_iff] at h2
  omega
theorem charge_good {x : Jb} (h : x.good = true) : 1 ≤ x.charge ∧ x.charge ≤ 1100 := by
  have := jb_num h
  unfold Jb.charge
  rw [if_pos h]; omega
theorem endM_le : ∀ (l : List Jb) (e : Int), e ≤ endM e l ∧ ∀ x ∈ l, x.dl ≤ endM e l
  | [], e => ⟨Int.le_refl _, by simp⟩
  | y :: l, e => by
    have ih := endM_le l (max e y.dl)
    have e1 : endM e (y :: l) = endM (max e y.dl) l := rfl
    rw [e1]
    refine ⟨by have := ih.1; omega, fun x hx => ?_⟩
    rcases List.mem_cons.1 hx with rfl | hx
    · have := ih.1; omega
    · exact ih.2 x hx
theorem endM_bound : ∀ (l : List Jb) (e B : Int), e ≤ B → (∀ x ∈ l, x.dl ≤ B) → endM e l ≤ B
  | [], e, B, h, _ => h
  | y :: l, e, B, h, hl => by
    have e1 : endM e (y :: l) = endM (max e y.dl) l := rfl
    rw [e1]
    exact endM_bound l _ B (by have := hl y (by simp); omega) (fun x hx => hl x (by simp [hx]))
theorem endM_mono {l m : List Jb} {e : Int} (he : e ≤ endM e m) (h : ∀ x ∈ l, x ∈ m) : endM e l ≤ endM e m :=
  endM_bound l e _ he fun x hx => (endM_le m e).2 x (h x hx)
section
variable {f : Jb → Int} {l : List Jb} {m : Nat}
theorem edfL_len : (edfL f l m).length = m := edfT_len m
theorem jobs_num (hg : ∀ x ∈ l, x.good = true) {i : Nat} (hi : i < l.length) : ∃ (x : Jb) (p q : Nat), l[i]? = some x ∧ x.good = true ∧ atL Jb.rel l i = (p : Int) ∧ atL Jb.dl l i = (q : Int) ∧ x.rel = (p : Int) ∧ x.dl = (q : Int) := by
  have hx : l[i]? = some l[i] := List.getElem?_eq_getElem hi
  have hgx := hg _ (List.mem_of_getElem? hx)
  have := jb_num hgx
  refine ⟨l[i], l[i].rel.toNat, l[i].dl.toNat, hx, hgx, ?_, ?_, by omega, by omega⟩
  · rw [atL_of hx]; omega
  · rw [atL_of hx]; omega
theorem jobs_best {s : List Int} (hg : ∀ x ∈ l, x.good = true) (hm : ∀ x ∈ l, x.dl ≤ (m : Int)) (hf : ∀ x ∈ l, 0 ≤ f x)
    (hs : ∀ (i : Nat) (x : Jb) (p q : Nat), l[i]? = some x → x.rel = (p : Int) → x.dl = (q : Int) → f x ≤ cn s q i - cn s p i) {i : Nat} {x : Jb} {q : Nat} (hx : l[i]? = some x) (hq : x.dl = (q : Int)) : f x ≤ cn (edfL f l m) q i := by
  have hi := (List.getElem?_eq_some_iff.1 hx).1
  have h := edf_best (n := l.length) (rel := atL Jb.rel l) (dl := atL Jb.dl l) (wk := atL f l) (s := s) (m := m)
    (fun j hj => by
      obtain ⟨y, p, q, hy, hgy, h1, h2, h3, h4⟩ := jobs_num hg hj
      exact ⟨p, q, h1, h2, by have := hm y (List.mem_of_getElem? hy); omega⟩)
    (fun j hj => by
      obtain ⟨y, p, q, hy, _⟩ := jobs_num hg hj
      rw [atL_of hy]; exact hf y (List.mem_of_getElem? hy))
    (fun j hj => by
      obtain ⟨y, p, q, hy, hgy, h1, h2, h3, h4⟩ := jobs_num hg hj
      exact ⟨p, q, h1, h2, by rw [atL_of hy]; exact hs j y p q hy h3 h4⟩) hi (q := q) (by rw [atL_of hx, hq])
  rw [atL_of hx] at h
  exact h
end
/-- Whatever trace has all done in time, so has the earliest deadline first. -/
theorem best_trace {l : List Jb} {t : List Int} {m : Nat} (hgt : goodT l t = true) (hm : ∀ x ∈ l, x.dl ≤ (m : Int)) (hd : ∀ i : Nat, i < l.length → doneB (doneAt l t (i : Int)) = true) {i : Nat} {x : Jb} (hx : l[i]? = some x) :
    ∃ r, doneGo (i : Int) x.work (edfL Jb.work l m) 0 = some r ∧ (r : Int) ≤ x.dl := by
  have ha := (goodT_iff.1 hgt).1
  have hg : ∀ y ∈ l, y.good = true := fun y hy => List.all_eq_true.1 (Bool.and_eq_true_iff.1 ha).2 y hy
  have hgx := hg x (List.mem_of_getElem? hx)
  have hn := jb_num hgx
  obtain ⟨q, hq⟩ := Int.eq_ofNat_of_zero_le (show 0 ≤ x.dl by omega)
  have h := jobs_best (f := Jb.work) (m := m) (s := t) hg hm (fun y hy => by have := work_good (hg y hy); omega) (fun j y p q hy hp hq => by
    have hj := (List.getElem?_eq_some_iff.1 hy).1
    have hdj := hd j hj
    unfold doneAt at hdj
    have hh : hasB l (j : Int) = true := hasB_iff.2 ⟨by omega, by omega⟩
    rw [ha, hh, if_pos (show (true && true) = true from rfl), Int.toNat_natCast, hy] at hdj
    simp only at hdj
    cases hdg : doneGo (j : Int) y.work t 0 with
    | none => rw [hdg] at hdj; cases hdj
    | some r =>
      have e1 := done_cn hdg
      obtain ⟨w1, w2⟩ := goodT_window hgt hy
      rw [w1 p (by omega), w2 q (by omega)]
      have e2 : cn t r j ≤ cn t (r + t.length) j := cn_mono t j (by omega)
      rw [cn_all (k := r + t.length) j (by omega)] at e2
      omega) hx hq
  obtain ⟨r, h1, h2⟩ := cn_done (work_good hgx).1 h
  exact ⟨r, h1, by omega⟩
/-- Are all met at their charges? -/
def meetsB (l : List Jb) : Bool := allB l && (List.range l.length).all fun i => match l[i]? with | some x => decide (x.charge ≤ cn (edfL Jb.charge l (endM 0 l).toNat) x.dl.toNat i) | none => true
theorem meetsB_iff {l : List Jb} : meetsB l = true ↔ allB l = true ∧ ∀ (i : Nat) (x : Jb), l[i]? = some x → x.charge ≤ cn (edfL Jb.charge l (endM 0 l).toNat) x.dl.toNat i := by
  unfold meetsB
  rw [Bool.and_eq_true, List.all_eq_true]
  refine and_congr Iff.rfl ⟨fun h i x hx => ?_, fun h i hi => ?_⟩
  · have := h i (List.mem_range.2 (List.getElem?_eq_some_iff.1 hx).1)
    rw [hx] at this
    exact of_decide_eq_true this
  · split
    · rename_i x hx; exact decide_eq_true (h i x hx)
    · rfl
/-- No span is asked too much, just if all are met. -/
theorem meets_dem {l : List Jb} (ha : allB l = true) (h : ∀ a b : Nat, a ≤ b → (l.map fun x => if (a : Int) ≤ x.rel ∧ x.dl ≤ (b : Int) then x.charge else 0).sum ≤ (b : Int) - (a : Int)) : meetsB l = true := by
  have hg : ∀ y ∈ l, y.good = true := fun y hy => List.all_eq_true.1 (Bool.and_eq_true_iff.1 ha).2 y hy
  refine meetsB_iff.2 ⟨ha, fun i x hx => ?_⟩
  have hi := (List.getElem?_eq_some_iff.1 hx).1
  obtain ⟨y, p, q, hy, hgy, h1, h2, h3, h4⟩ := jobs_num hg hi
  rw [hx] at hy; injection hy with hy; subst hy
  have hql : q ≤ (endM 0 l).toNat := by have := (endM_le l 0).2 x (List.mem_of_getElem? hx); omega
  rw [show x.dl.toNat = q by omega]
  rcases Int.lt_or_le (cn (edfL Jb.charge l (endM 0 l).toNat) q i) x.charge with hlt | hle
  · exfalso
    obtain ⟨a, k1, k2, k3⟩ := (edfT_edf (n := l.length) (rel := atL Jb.rel l) (dl := atL Jb.dl l) (wk := atL Jb.charge l) (endM 0 l).toNat).asked
      (fun j hj => by obtain ⟨y, p, q, _, _, h1, _⟩ := jobs_num hg hj; omega)
      (fun j hj => by obtain ⟨y, p, q, hy, hgy, _⟩ := jobs_num hg hj; rw [atL_of hy]; have := charge_good hgy; omega) hi h2 (by rw [edfT_len]; exact hql) (by rw [atL_of hx]; exact hlt)
    rw [dem_list] at k3
    have := h a q k1
    omega
  · exact hle
theorem dem_meets {l : List Jb} (h : meetsB l = true) (a b : Nat) (hab : a ≤ b) : (l.map fun x => if (a : Int) ≤ x.rel ∧ x.dl ≤ (b : Int) then x.charge else 0).sum ≤ (b : Int) - (a : Int) := by
  obtain ⟨ha, hm⟩ := meetsB_iff.1 h
  have hg : ∀ y ∈ l, y.good = true := fun y hy => List.all_eq_true.1 (Bool.and_eq_true_iff.1 ha).2 y hy
  rw [← dem_list]
  refine dem_le (s := edfL Jb.charge l (endM 0 l).toNat) (fun i hi => ?_) a b hab
  obtain ⟨y, p, q, hy, hgy, h1, h2, h3, h4⟩ := jobs_num hg hi
  refine ⟨p, q, h1, h2, ?_⟩
  have := hm i y hy
  rw [show y.dl.toNat = q by omega, ← atL_of (f := Jb.charge) hy] at this
  exact (edfT_edf (n := l.length) (rel := atL Jb.rel l) (dl := atL Jb.dl l) (wk := atL Jb.charge l) (endM 0 l).toNat).window h1 this
/-- All that are met are, if one is left out. -/
theorem meets_drop {l : List Jb} (h : meetsB l = true) (k : Nat) : meetsB (l.take k ++ l.drop (k + 1)) = true := by
  have ha := (meetsB_iff.1 h).1
  have hmem : ∀ x ∈ l.take k ++ l.drop (k + 1), x ∈ l := fun x hx => by
    rcases List.mem_append.1 hx with hx | hx
    · exact List.mem_of_mem_take hx
    · exact List.mem_of_mem_drop hx
  have hg : ∀ y ∈ l, y.good = true := fun y hy => List.all_eq_true.1 (Bool.and_eq_true_iff.1 ha).2 y hy
  have ha2 : allB (l.take k ++ l.drop (k + 1)) = true := by
    unfold allB
    rw [Bool.and_eq_true, decide_eq_true_eq, List.all_eq_true]
    refine ⟨?_, fun x hx => hg x (hmem x hx)⟩
    have := len_of_all ha
    rw [List.length_append, List.length_take, List.length_drop]; omega
  refine meets_dem ha2 fun a b hab => ?_
  refine Int.le_trans (sum_drop_one _ l k fun x hx => ?_) (dem_meets h a b hab)
  split
  · have := charge_good (hg x hx); omega
  · omega
end Go.Proofs.YtcohodpaagpfgaaDoor
