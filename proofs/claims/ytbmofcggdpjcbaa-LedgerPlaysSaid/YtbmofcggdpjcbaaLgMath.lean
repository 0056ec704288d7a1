/- Rows of what was earned and lost: sums, errors, the best name: plain mathematics. -/
import Derived.Test.YtbmofcggdpjcbaaNumMath
namespace Go.Proofs.Ytbmofcggdpjcbaa
set_option linter.unusedVariables false

/-- A row: when, under which name, what (what was lost is below nought). -/
structure Rw where
  tick : Int
  name : List UInt8
  val : Int
instance : Inhabited Rw := ⟨⟨0, [], 0⟩⟩

/-- A sum over rows. -/
def sumF (f : Rw → Int) : List Rw → Int
  | [] => 0
  | x :: l => f x + sumF f l
section
variable {f g : Rw → Int}
theorem sumF_append (l r : List Rw) : sumF f (l ++ r) = sumF f l + sumF f r := by
  induction l with
  | nil => simp [sumF]
  | cons x l ih => simp only [List.cons_append, sumF, ih]; omega
theorem sumF_one (x : Rw) : sumF f [x] = f x := by simp [sumF]
theorem sumF_snoc (l : List Rw) (x : Rw) : sumF f (l ++ [x]) = sumF f l + f x := by rw [sumF_append, sumF_one]
theorem sumF_next {l : List Rw} {i : Nat} {x : Rw} (h : l[i]? = some x) : sumF f (l.take (i + 1)) = sumF f (l.take i) + f x := by
  rw [List.take_add_one, h]; exact sumF_snoc _ _
theorem sumF_nonneg (h : ∀ x, 0 ≤ f x) (l : List Rw) : 0 ≤ sumF f l := by
  induction l with
  | nil => simp [sumF]
  | cons x l ih => simp only [sumF]; have := h x; omega
theorem sumF_le (h : ∀ x, f x ≤ g x) (l : List Rw) : sumF f l ≤ sumF g l := by
  induction l with
  | nil => simp [sumF]
  | cons x l ih => simp only [sumF]; have := h x; omega
theorem sumF_congr (l : List Rw) (h : ∀ x ∈ l, f x = g x) : sumF f l = sumF g l := by
  induction l with
  | nil => simp [sumF]
  | cons x l ih => simp only [sumF]; rw [h x (by simp), ih (fun y hy => h y (by simp [hy]))]
theorem sumF_add (l : List Rw) : sumF (fun x => f x + g x) l = sumF f l + sumF g l := by
  induction l with
  | nil => simp [sumF]
  | cons x l ih => simp only [sumF, ih]; omega
theorem sumF_sub (l : List Rw) : sumF (fun x => f x - g x) l = sumF f l - sumF g l := by
  induction l with
  | nil => simp [sumF]
  | cons x l ih => simp only [sumF, ih]; omega
theorem sumF_zero (l : List Rw) (h : ∀ x ∈ l, f x = 0) : sumF f l = 0 := by
  induction l with
  | nil => simp [sumF]
  | cons x l ih => simp only [sumF]; rw [h x (by simp), ih (fun y hy => h y (by simp [hy]))]; rfl
theorem sumF_take_le (h : ∀ x, 0 ≤ f x) (l : List Rw) (i : Nat) : sumF f (l.take i) ≤ sumF f l := by
  have e := sumF_append (f := f) (l.take i) (l.drop i)
  rw [List.take_append_drop] at e
  have := sumF_nonneg h (l.drop i)
  omega
theorem sumF_mem (h : ∀ x, 0 ≤ f x) {l : List Rw} {x : Rw} (hx : x ∈ l) : f x ≤ sumF f l := by
  induction l with
  | nil => simp at hx
  | cons y l ih =>
    simp only [sumF]
    have h1 := h y
    have h2 := sumF_nonneg h l
    rcases List.mem_cons.1 hx with rfl | hx
    · omega
    · have := ih hx; omega
end
/-- What a row that p takes has earned; has lost. -/
def eF (p : Rw → Bool) (x : Rw) : Int := if p x = true ∧ 0 < x.val then x.val else 0
def lF (p : Rw → Bool) (x : Rw) : Int := if p x = true ∧ ¬ 0 < x.val then -x.val else 0
/-- What a row has brought up to that tick. -/
def tF (t : Int) (x : Rw) : Int := if x.tick ≤ t then x.val else 0
def allR : Rw → Bool := fun _ => true
def nameR (n : List UInt8) : Rw → Bool := fun x => decide (x.name = n)
def tickR (t : Int) : Rw → Bool := fun x => decide (x.tick ≤ t)
theorem eF_nonneg (p : Rw → Bool) (x : Rw) : 0 ≤ eF p x := by unfold eF; split <;> omega
theorem lF_nonneg (p : Rw → Bool) (x : Rw) : 0 ≤ lF p x := by unfold lF; split <;> omega
theorem eF_all (p : Rw → Bool) (x : Rw) : eF p x ≤ eF allR x := by unfold eF allR; split <;> split <;> simp_all <;> omega
theorem lF_all (p : Rw → Bool) (x : Rw) : lF p x ≤ lF allR x := by unfold lF allR; split <;> split <;> simp_all <;> omega
theorem eF_allR (x : Rw) : eF allR x = if 0 < x.val then x.val else 0 := by simp [eF, allR]
theorem lF_allR (x : Rw) : lF allR x = if 0 < x.val then 0 else -x.val := by
  unfold lF allR
  by_cases h : 0 < x.val <;> simp [h]
theorem tF_parts (t : Int) (x : Rw) : tF t x = eF (tickR t) x - lF (tickR t) x := by
  unfold tF eF lF tickR
  by_cases h : x.tick ≤ t
  · by_cases h2 : 0 < x.val
    · simp [h, h2]
    · simp [h, h2]
  · simp [h]
def earned (l : List Rw) : Int := sumF (eF allR) l
def lost (l : List Rw) : Int := sumF (lF allR) l
/-- All of them, in the order of their ticks; the sums bounded. -/
structure LInv (l : List Rw) : Prop where
  tick : ∀ x ∈ l, 0 ≤ x.tick
  order : l.Pairwise (fun x y => x.tick ≤ y.tick)
  e : earned l ≤ 4611686018427387904
  lo : lost l ≤ 4611686018427387904
theorem LInv.nil : LInv [] := ⟨by simp, List.Pairwise.nil, by decide, by decide⟩
section
variable {l : List Rw}
theorem earned_nn (l : List Rw) : 0 ≤ earned l := sumF_nonneg (eF_nonneg _) l
theorem lost_nn (l : List Rw) : 0 ≤ lost l := sumF_nonneg (lF_nonneg _) l
/-- Every part of a sum is bounded as all of it. -/
theorem e_part (h : LInv l) (p : Rw → Bool) (i : Nat) : 0 ≤ sumF (eF p) (l.take i) ∧ sumF (eF p) (l.take i) ≤ 4611686018427387904 := by
  have h1 := sumF_take_le (eF_nonneg p) l i
  have h2 := sumF_le (eF_all p) l
  have h3 := h.e
  unfold earned at h3
  exact ⟨sumF_nonneg (eF_nonneg _) _, by omega⟩
theorem l_part (h : LInv l) (p : Rw → Bool) (i : Nat) : 0 ≤ sumF (lF p) (l.take i) ∧ sumF (lF p) (l.take i) ≤ 4611686018427387904 := by
  have h1 := sumF_take_le (lF_nonneg p) l i
  have h2 := sumF_le (lF_all p) l
  have h3 := h.lo
  unfold lost at h3
  exact ⟨sumF_nonneg (lF_nonneg _) _, by omega⟩
theorem t_part (h : LInv l) (t : Int) (i : Nat) : -4611686018427387904 ≤ sumF (tF t) (l.take i) ∧ sumF (tF t) (l.take i) ≤ 4611686018427387904 := by
  have e : sumF (tF t) (l.take i) = sumF (eF (tickR t)) (l.take i) - sumF (lF (tickR t)) (l.take i) := by
    rw [← sumF_sub]; exact sumF_congr _ (fun x _ => tF_parts t x)
  have h1 := e_part h (tickR t) i
  have h2 := l_part h (tickR t) i
  omega
theorem val_bound (h : LInv l) {x : Rw} (hx : x ∈ l) : -4611686018427387904 ≤ x.val ∧ x.val ≤ 4611686018427387904 := by
  have h1 := sumF_mem (eF_nonneg allR) hx
  have h2 := sumF_mem (lF_nonneg allR) hx
  have h3 := h.e
  have h4 := h.lo
  unfold earned at h3
  unfold lost at h4
  rw [eF_allR] at h1
  rw [lF_allR] at h2
  by_cases hv : 0 < x.val
  · rw [if_pos hv] at h1; omega
  · rw [if_neg hv] at h2; omega
/-- Behind the first later row there are only later ones. -/
theorem t_stop (h : LInv l) {t : Int} {i : Nat} {x : Rw} (hx : l[i]? = some x) (ht : t < x.tick) : sumF (tF t) (l.take i) = sumF (tF t) l := by
  have e := sumF_append (f := tF t) (l.take i) (l.drop i)
  rw [List.take_append_drop] at e
  obtain ⟨hi, hxe⟩ := List.getElem?_eq_some_iff.1 hx
  have z : sumF (tF t) (l.drop i) = 0 := sumF_zero _ fun y hy => by
    obtain ⟨j, hj, rfl⟩ := List.mem_iff_getElem.1 hy
    rw [List.length_drop] at hj
    rw [List.getElem_drop]
    unfold tF
    rw [if_neg]
    have : x.tick ≤ (l[i + j]).tick := by
      by_cases hj0 : j = 0
      · subst hj0
        have : l[i + 0] = x := by simpa using hxe
        rw [this]; omega
      · have := List.pairwise_iff_getElem.1 h.order i (i + j) hi (by omega) (by omega)
        rw [hxe] at this
        exact this
    omega
  omega
/-- Is there a row with a greater tick? -/
def lateB (l : List Rw) (t : Int) : Bool := match l.getLast? with
  | some x => decide (t < x.tick)
  | none => false
/-- What a row's writing answers, and what becomes of the rows. -/
def putE (l : List Rw) (t v s : Int) : Int := if t < 0 ∨ v < 0 then 1 else if lateB l t = true then 10 else if 4611686018427387904 < s + v then 8 else 0
def earnE (l : List Rw) (t v : Int) : Int := putE l t v (earned l)
def loseE (l : List Rw) (t v : Int) : Int := putE l t v (lost l)
def earnL (l : List Rw) (t : Int) (n : List UInt8) (v : Int) : List Rw := if earnE l t v = 0 then l ++ [⟨t, n, v⟩] else l
def loseL (l : List Rw) (t : Int) (n : List UInt8) (v : Int) : List Rw := if loseE l t v = 0 then l ++ [⟨t, n, -v⟩] else l
theorem putE_zero {t v s : Int} (h : putE l t v s = 0) : 0 ≤ t ∧ 0 ≤ v ∧ lateB l t = false ∧ s + v ≤ 4611686018427387904 := by
  unfold putE at h
  split at h
  · cases h
  · split at h
    · cases h
    · split at h
      · cases h
      · rename_i a b c
        exact ⟨by omega, by omega, by simpa using b, by omega⟩
theorem not_late {t : Int} (h : LInv l) (hl : lateB l t = false) : ∀ x ∈ l, x.tick ≤ t := by
  intro x hx
  unfold lateB at hl
  cases hg : l.getLast? with
  | none => rw [List.getLast?_eq_none_iff.1 hg] at hx; simp at hx
  | some y =>
    rw [hg] at hl
    have hy : ¬ t < y.tick := by simpa using hl
    obtain ⟨i, hi, rfl⟩ := List.mem_iff_getElem.1 hx
    rw [List.getLast?_eq_getElem?] at hg
    obtain ⟨hl2, hye⟩ := List.getElem?_eq_some_iff.1 hg
    by_cases he : i = l.length - 1
    · subst he; rw [hye]; omega
    · have := List.pairwise_iff_getElem.1 h.order i (l.length - 1) hi hl2 (by omega)
      rw [hye] at this; omega
theorem earned_snoc (l : List Rw) (t : Int) (n : List UInt8) (v : Int) (hv : 0 ≤ v) : earned (l ++ [⟨t, n, v⟩]) = earned l + v ∧ lost (l ++ [⟨t, n, v⟩]) = lost l := by
  unfold earned lost
  rw [sumF_snoc, sumF_snoc, eF_allR, lF_allR]
  by_cases h : 0 < v
  · rw [if_pos h, if_pos h]; exact ⟨rfl, by omega⟩
  · have : v = 0 := by omega
    subst this; simp
theorem lost_snoc (l : List Rw) (t : Int) (n : List UInt8) (v : Int) (hv : 0 ≤ v) : earned (l ++ [⟨t, n, -v⟩]) = earned l ∧ lost (l ++ [⟨t, n, -v⟩]) = lost l + v := by
  unfold earned lost
  rw [sumF_snoc, sumF_snoc, eF_allR, lF_allR]
  have h : ¬ 0 < (Rw.mk t n (-v)).val := by show ¬ 0 < -v; omega
  rw [if_neg h, if_neg h]
  exact ⟨by omega, by show lost l + - -v = _; rw [Int.neg_neg]; rfl⟩
theorem LInv.snoc (h : LInv l) {t v : Int} {n : List UInt8} (ht : 0 ≤ t) (hl : lateB l t = false) (he : earned (l ++ [⟨t, n, v⟩]) ≤ 4611686018427387904) (hlo : lost (l ++ [⟨t, n, v⟩]) ≤ 4611686018427387904) : LInv (l ++ [⟨t, n, v⟩]) := by
  refine ⟨fun x hx => ?_, ?_, he, hlo⟩
  · rcases List.mem_append.1 hx with hx | hx
    · exact h.tick x hx
    · simp at hx; subst hx; exact ht
  · refine List.pairwise_append.2 ⟨h.order, List.pairwise_singleton _ _, fun x hx y hy => ?_⟩
    simp at hy; subst hy
    exact not_late h hl x hx
theorem LInv.earn (h : LInv l) (t : Int) (n : List UInt8) (v : Int) : LInv (earnL l t n v) := by
  unfold earnL
  split
  · rename_i hz
    obtain ⟨h1, h2, h3, h4⟩ := putE_zero hz
    have := earned_snoc l t n v h2
    exact h.snoc h1 h3 (by rw [this.1]; exact h4) (by rw [this.2]; exact h.lo)
  · exact h
theorem LInv.lose (h : LInv l) (t : Int) (n : List UInt8) (v : Int) : LInv (loseL l t n v) := by
  unfold loseL
  split
  · rename_i hz
    obtain ⟨h1, h2, h3, h4⟩ := putE_zero hz
    have := lost_snoc l t n v h2
    exact h.snoc h1 h3 (by rw [this.1]; exact h.e) (by rw [this.2]; exact h4)
  · exact h
theorem earnL_len (l : List Rw) (t : Int) (n : List UInt8) (v : Int) : (earnL l t n v).length ≤ l.length + 1 := by unfold earnL; split <;> simp
theorem loseL_len (l : List Rw) (t : Int) (n : List UInt8) (v : Int) : (loseL l t n v).length ≤ l.length + 1 := by unfold loseL; split <;> simp
end

/-! The best name. -/
/-- Of the names T: b has the greatest sum m, and of several with it it is the least; or there is none above nought. -/
def BestOn (S : List UInt8 → Int) (T : List (List UInt8)) (b : List UInt8) (m : Int) : Prop :=
  (m = 0 ∧ b = [] ∧ ∀ n ∈ T, S n = 0) ∨ (0 < m ∧ S b = m ∧ b ∈ T ∧ ∀ n ∈ T, S n ≤ m ∧ (S n = m → b ≤ n))
section
variable {S : List UInt8 → Int} {T T' : List (List UInt8)} {b b' n : List UInt8} {m m' : Int}
theorem BestOn.nil : BestOn S [] [] 0 := .inl ⟨rfl, rfl, by simp⟩
theorem BestOn.nonneg (h : BestOn S T b m) : 0 ≤ m := by rcases h with h | h <;> omega
theorem BestOn.uniq (h : BestOn S T b m) (h' : BestOn S T b' m') : b = b' ∧ m = m' := by
  rcases h with ⟨rfl, rfl, h⟩ | ⟨h1, h2, h3, h4⟩ <;> rcases h' with ⟨rfl, rfl, h'⟩ | ⟨h1', h2', h3', h4'⟩
  · exact ⟨rfl, rfl⟩
  · have := h _ h3'; omega
  · have := h' _ h3; omega
  · have a := h4 _ h3'
    have c := h4' _ h3
    have e : m = m' := by omega
    exact ⟨List.le_antisymm (a.2 (by omega)) (c.2 (by omega)), e⟩
/-- One name more: it is better, or it isn't. -/
theorem BestOn.take (h : BestOn S T b m) (hn : 0 ≤ S n) (hb : m < S n ∨ (S n = m ∧ 0 < m ∧ n < b)) : BestOn S (T ++ [n]) n (S n) := by
  have hm := h.nonneg
  refine .inr ⟨by omega, rfl, by simp, fun k hk => ?_⟩
  rcases List.mem_append.1 hk with hk | hk
  · rcases h with ⟨h1, _, h2⟩ | ⟨h1, h2, h3, h4⟩
    · have := h2 k hk
      exact ⟨by omega, fun e => by omega⟩
    · have := h4 k hk
      refine ⟨by omega, fun e => ?_⟩
      rcases hb with hb | ⟨hb1, _, hb2⟩
      · omega
      · exact List.le_trans (List.le_of_lt hb2) (this.2 (by omega))
  · simp at hk; subst hk
    exact ⟨Int.le_refl _, fun _ => List.le_refl _⟩
theorem BestOn.keep (h : BestOn S T b m) (hn : 0 ≤ S n) (hb : ¬ (m < S n ∨ (S n = m ∧ 0 < m ∧ n < b))) : BestOn S (T ++ [n]) b m := by
  rcases h with ⟨h1, h0, h2⟩ | ⟨h1, h2, h3, h4⟩
  · refine .inl ⟨h1, h0, fun k hk => ?_⟩
    rcases List.mem_append.1 hk with hk | hk
    · exact h2 k hk
    · simp at hk; subst hk; omega
  · refine .inr ⟨h1, h2, by simp [h3], fun k hk => ?_⟩
    rcases List.mem_append.1 hk with hk | hk
    · exact h4 k hk
    · simp at hk; subst hk
      refine ⟨by omega, fun e => ?_⟩
      rcases List.le_total b k with hle | hle
      · exact hle
      · by_cases he : k = b
        · rw [he]; exact List.le_refl _
        · exact absurd (.inr ⟨e, h1, List.not_le.1 fun h => he (List.le_antisymm hle h)⟩) hb
/-- Of names in ascending order the least one stays. -/
theorem BestOn.keepUp (h : BestOn S T b m) (hn : 0 ≤ S n) (hup : ∀ k ∈ T, k ≤ n) (hb : ¬ m < S n) : BestOn S (T ++ [n]) b m := by
  refine h.keep hn fun e => ?_
  rcases e with e | ⟨e1, e2, e3⟩
  · exact hb e
  · rcases h with ⟨h1, _⟩ | ⟨_, _, h3, _⟩
    · omega
    · exact absurd e3 (List.not_lt.2 (hup b h3))
/-- Names without a sum do not matter. -/
theorem BestOn.wider (h : BestOn S T b m) (hs : ∀ k ∈ T, k ∈ T') (hz : ∀ k ∈ T', k ∉ T → S k = 0) : BestOn S T' b m := by
  rcases h with ⟨h1, h0, h2⟩ | ⟨h1, h2, h3, h4⟩
  · refine .inl ⟨h1, h0, fun k hk => ?_⟩
    by_cases hm : k ∈ T
    · exact h2 k hm
    · exact hz k hk hm
  · refine .inr ⟨h1, h2, hs _ h3, fun k hk => ?_⟩
    by_cases hm : k ∈ T
    · exact h4 k hm
    · have := hz k hk hm
      exact ⟨by omega, fun e => by omega⟩
end
/-- The sum of a name. -/
def sumN (l : List Rw) (n : List UInt8) : Int := sumF (eF (nameR n)) l
theorem sumN_nn (l : List Rw) (n : List UInt8) : 0 ≤ sumN l n := sumF_nonneg (eF_nonneg _) l
def namesR (l : List Rw) : List (List UInt8) := l.map (·.name)
/-- The best of all names, one after the other. -/
def bestGo (S : List UInt8 → Int) : List (List UInt8) → List UInt8 × Int → List UInt8 × Int
  | [], s => s
  | n :: r, s => bestGo S r (if s.2 < S n ∨ (S n = s.2 ∧ 0 < s.2 ∧ n < s.1) then (n, S n) else s)
def bestV (l : List Rw) : List UInt8 × Int := bestGo (sumN l) (namesR l) ([], 0)
theorem bestGo_on {S : List UInt8 → Int} (hS : ∀ n, 0 ≤ S n) : ∀ (r T : List (List UInt8)) (s : List UInt8 × Int), BestOn S T s.1 s.2 → BestOn S (T ++ r) (bestGo S r s).1 (bestGo S r s).2
  | [], T, s, h => by simpa [bestGo] using h
  | n :: r, T, s, h => by
    rw [bestGo, show T ++ n :: r = (T ++ [n]) ++ r by simp]
    refine bestGo_on hS r _ _ ?_
    split
    · rename_i hc; exact h.take (hS n) hc
    · rename_i hc; exact h.keep (hS n) hc
theorem bestV_on (l : List Rw) : BestOn (sumN l) (namesR l) (bestV l).1 (bestV l).2 := by
  have := bestGo_on (sumN_nn l) (namesR l) [] ([], 0) BestOn.nil
  simpa [bestV] using this
theorem bestV_uniq {l : List Rw} {b : List UInt8} {m : Int} (h : BestOn (sumN l) (namesR l) b m) : bestV l = (b, m) := by
  have := (bestV_on l).uniq h
  exact Prod.ext this.1 this.2
end Go.Proofs.Ytbmofcggdpjcbaa
