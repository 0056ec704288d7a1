/- Jobs as they count in chapter 18. -/
import Derived.Test.YtacffjkhbajgkaaDoorOvMath
import Derived.Test.YtacffjkhbajgkaaDoorJb2
namespace Go.Proofs.YtacffjkhbajgkaaDoor
open Go.RowKit Go.Lib
set_option linter.unusedVariables false
set_option linter.unusedSimpArgs false

/-- A job as it counts. -/
def Jb.wd (x : Jb) : Wd := ⟨x.rel, x.dl, x.charge⟩
def wds (l : List Jb) : List Wd := l.map Jb.wd
theorem wds_len (l : List Jb) : (wds l).length = l.length := by unfold wds; rw [List.length_map]
theorem wds_at {l : List Jb} {i : Nat} {x : Jb} (h : l[i]? = some x) : (wds l)[i]? = some x.wd := by unfold wds; rw [List.getElem?_map, h]; rfl
theorem wds_next {l : List Jb} {i : Nat} {x : Jb} (h : l[i]? = some x) : wds (l.take (i + 1)) = wds (l.take i) ++ [x.wd] := by
  unfold wds; rw [List.take_add_one, h]; simp
theorem wd_good {x : Jb} (h : x.good = true) : 0 ≤ x.wd.r ∧ x.wd.r < x.wd.d ∧ x.wd.d ≤ 10000 ∧ 1 ≤ x.wd.c ∧ x.wd.c ≤ 1100 := by
  have hj := jnum_iff.1 (Bool.and_eq_true_iff.1 h).2
  have hc : x.charge = x.bud + x.cln := by unfold Jb.charge; rw [h, if_pos rfl]
  show 0 ≤ x.rel ∧ x.rel < x.dl ∧ x.dl ≤ 10000 ∧ 1 ≤ x.charge ∧ x.charge ≤ 1100
  omega
theorem wds_good {l : List Jb} (h : allB l = true) : ∀ v ∈ wds l, 0 ≤ v.r ∧ v.r < v.d ∧ v.d ≤ 10000 ∧ 1 ≤ v.c ∧ v.c ≤ 1100 := by
  intro v hv
  obtain ⟨x, hx, rfl⟩ := List.mem_map.1 hv
  exact wd_good (List.all_eq_true.1 (Bool.and_eq_true_iff.1 h).2 x hx)
theorem charge_pos (x : Jb) : 0 ≤ x.wd.c ∧ x.wd.c ≤ 1100 := by
  show 0 ≤ x.charge ∧ x.charge ≤ 1100
  unfold Jb.charge
  by_cases h : x.good = true
  · rw [h, if_pos rfl]
    have hj := jnum_iff.1 (Bool.and_eq_true_iff.1 h).2
    omega
  · rw [if_neg h]; omega
theorem loadW_bound (l : List Jb) (a b : Int) : 0 ≤ loadW a b (wds l) ∧ loadW a b (wds l) ≤ 1100 * (l.length : Int) := by
  constructor
  · exact loadW_pos (fun v hv => by obtain ⟨x, _, rfl⟩ := List.mem_map.1 hv; exact (charge_pos x).1) a b
  · have := loadW_le (C := 1100) (by omega) (l := wds l) (fun v hv => by obtain ⟨x, _, rfl⟩ := List.mem_map.1 hv; exact (charge_pos x).2) a b
    rw [wds_len] at this
    exact this
/-- What Load answers. -/
def loadB (l : List Jb) (a b : Int) : Int := if allB l = true then loadW a b (wds l) else 0
theorem loadB_all {l : List Jb} (h : allB l = true) (a b : Int) : loadB l a b = loadW a b (wds l) := by unfold loadB; rw [if_pos h]
theorem loadB_none {l : List Jb} (h : allB l = false) (a b : Int) : loadB l a b = 0 := by unfold loadB; rw [if_neg (by rw [h]; exact Bool.false_ne_true)]
theorem loadW_snoc (a b : Int) (l : List Wd) (v : Wd) : loadW a b (l ++ [v]) = loadW a b l + (if a ≤ v.r ∧ v.d ≤ b then v.c else 0) := by
  rw [loadW_append]; simp [loadW]
/-! ## The last deadline -/
theorem endM_ge : ∀ (l : List Jb) (e : Int), e ≤ endM e l ∧ ∀ x ∈ l, x.dl ≤ endM e l
  | [], e => ⟨Int.le_refl _, fun x hx => by simp at hx⟩
  | y :: l, e => by
    have h := endM_ge l (max e y.dl)
    show e ≤ endM (max e y.dl) l ∧ _
    refine ⟨by omega, fun x hx => ?_⟩
    rcases List.mem_cons.1 hx with rfl | hx
    · show _ ≤ endM (max e x.dl) l; omega
    · exact h.2 x hx
theorem endM_top : ∀ (l : List Jb) (e B : Int), e ≤ B → (∀ x ∈ l, x.dl ≤ B) → endM e l ≤ B
  | [], e, B, h, _ => h
  | y :: l, e, B, h, hx => by
    show endM (max e y.dl) l ≤ B
    exact endM_top l _ B (by have := hx y (List.mem_cons_self ..); omega) (fun x hm => hx x (List.mem_cons_of_mem _ hm))
theorem endZ_all {l : List Jb} (h : allB l = true) : 0 ≤ endZ l ∧ endZ l ≤ 10000 ∧ ∀ v ∈ wds l, v.d ≤ endZ l := by
  unfold endZ
  rw [h, if_pos rfl]
  have g := wds_good h
  refine ⟨(endM_ge l 0).1, endM_top l 0 10000 (by omega) (fun x hx => (g x.wd (List.mem_map.2 ⟨x, hx, rfl⟩)).2.2.1), fun v hv => ?_⟩
  obtain ⟨x, hx, rfl⟩ := List.mem_map.1 hv
  exact (endM_ge l 0).2 x hx

/-! ## Ticks with too much, pair by pair -/
/-- Is t within the span from x to y, and has that too much? -/
def pairW (L : List Wd) (x y : Wd) (t : Int) : Bool := muchW L x y && (decide (x.r ≤ t) && decide (t < y.d))
def rowW (L : List Wd) (x : Wd) (m : List Wd) (t : Int) : Bool := m.any fun y => pairW L x y t
def allW (L m : List Wd) (t : Int) : Bool := m.any fun x => rowW L x L t
theorem allW_hot (L : List Wd) (t : Int) : allW L L t = hotW L t := rfl
theorem rowW_next {L : List Wd} {x : Wd} {m : List Wd} {k : Nat} {y : Wd} (h : m[k]? = some y) (t : Int) : rowW L x (m.take (k + 1)) t = (rowW L x (m.take k) t || pairW L x y t) := by
  unfold rowW; rw [List.take_add_one, h]; simp
theorem allW_next {L m : List Wd} {i : Nat} {x : Wd} (h : m[i]? = some x) (t : Int) : allW L (m.take (i + 1)) t = (allW L (m.take i) t || rowW L x L t) := by
  unfold allW; rw [List.take_add_one, h]; simp
theorem pairW_no {L : List Wd} {x y : Wd} (h : muchW L x y = false) (t : Int) : pairW L x y t = false := by unfold pairW; rw [h, Bool.false_and]
theorem pairW_yes {L : List Wd} {x y : Wd} (h : muchW L x y = true) (t : Int) : pairW L x y t = (decide (x.r ≤ t) && decide (t < y.d)) := by unfold pairW; rw [h, Bool.true_and]

/-! ## Spans, tick by tick, the first one first -/
def segR (f : Int → Bool) (n : Nat) : List (Int × Int) := (segs f n).reverse
theorem segR_zero (f : Int → Bool) : segR f 0 = [] := rfl
theorem segR_no {f : Int → Bool} {n : Nat} (h : f (n : Int) = false) : segR f (n + 1) = segR f n := by
  unfold segR; rw [show segs f (n + 1) = segs f n by show (if _ then _ else _) = _; rw [h, if_neg Bool.false_ne_true]]
theorem segR_nil {f : Int → Bool} {n : Nat} (h : f (n : Int) = true) (h0 : segR f n = []) : segR f (n + 1) = [((n : Int), (n : Int) + 1)] := by
  have : segs f n = [] := by rw [← List.reverse_reverse (segs f n)]; exact congrArg List.reverse h0
  unfold segR; rw [show segs f (n + 1) = pushS (n : Int) (segs f n) by show (if _ then _ else _) = _; rw [if_pos h], this]; rfl
/-- One more tick, where there are spans. -/
theorem segR_more {f : Int → Bool} {n k : Nat} (h : f (n : Int) = true) (hk : (segR f n).length = k + 1) : ∃ s, (segR f n)[k]? = some s ∧
    segR f (n + 1) = if s.2 = (n : Int) then (segR f n).set k (s.1, (n : Int) + 1) else segR f n ++ [((n : Int), (n : Int) + 1)] := by
  unfold segR at hk ⊢
  rw [show segs f (n + 1) = pushS (n : Int) (segs f n) by show (if _ then _ else _) = _; rw [if_pos h]]
  match hs : segs f n with
  | [] => rw [hs] at hk; simp at hk
  | s :: r =>
    rw [hs] at hk
    have hr : r.reverse.length = k := by simpa using hk
    refine ⟨s, ?_, ?_⟩
    · rw [List.reverse_cons, List.getElem?_append_right (by omega), hr, Nat.sub_self]; rfl
    · by_cases c : s.2 = (n : Int)
      · rw [if_pos c, show pushS (n : Int) (s :: r) = (s.1, (n : Int) + 1) :: r by simp only [pushS, if_pos c]]
        rw [List.reverse_cons, List.reverse_cons, List.set_append_right _ _ (by omega), hr, Nat.sub_self]; rfl
      · rw [if_neg c, show pushS (n : Int) (s :: r) = ((n : Int), (n : Int) + 1) :: s :: r by simp only [pushS, if_neg c]]
        rw [List.reverse_cons]
theorem segR_len (f : Int → Bool) : ∀ n : Nat, (segR f n).length ≤ n
  | 0 => by simp [segR, segs]
  | n + 1 => by
    have h := segR_len f n
    by_cases c : f (n : Int) = true
    · rcases hk : (segR f n).length with _ | k
      · rw [segR_nil c (List.eq_nil_of_length_eq_zero hk)]; simp
      · obtain ⟨s, _, e⟩ := segR_more c hk
        rw [e]
        split <;> simp <;> omega
    · rw [segR_no (Bool.eq_false_iff.2 c)]; omega
end Go.Proofs.YtacffjkhbajgkaaDoor
