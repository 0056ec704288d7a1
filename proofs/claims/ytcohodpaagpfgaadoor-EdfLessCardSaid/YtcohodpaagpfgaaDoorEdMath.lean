/- The earliest deadline first, as maths: it meets whatever can be met; where it does not, some span is asked too much. No word of any program. -/
import Derived.Test.YtcohodpaagpfgaaDoorNumMath
namespace Go.Proofs.YtcohodpaagpfgaaDoor
set_option linter.unusedVariables false
set_option linter.unusedSimpArgs false

/-- How often i ran in the first k ticks. -/
def cn (r : List Int) (k : Nat) (i : Nat) : Int := ((r.take k).count (i : Int) : Int)
theorem cn_zero (r : List Int) (i : Nat) : cn r 0 i = 0 := by simp [cn]
theorem cn_next {r : List Int} {k : Nat} {x : Int} (i : Nat) (h : r[k]? = some x) : cn r (k + 1) i = cn r k i + (if x = (i : Int) then 1 else 0) := by
  unfold cn
  rw [List.take_add_one, h]
  by_cases hx : x = (i : Int)
  · subst hx; simp
  · rw [if_neg hx, List.count_append]; simp [List.count_cons, hx]
theorem cn_end {r : List Int} {k : Nat} (i : Nat) (h : r.length ≤ k) : cn r (k + 1) i = cn r k i := by
  unfold cn; rw [List.take_of_length_le h, List.take_of_length_le (by omega)]
theorem cn_step (r : List Int) (k i : Nat) : cn r k i ≤ cn r (k + 1) i ∧ cn r (k + 1) i ≤ cn r k i + 1 := by
  rcases Nat.lt_or_ge k r.length with h | h
  · rw [cn_next i (List.getElem?_eq_getElem h)]; split <;> omega
  · rw [cn_end i h]; omega
theorem cn_mono (r : List Int) (i : Nat) {a b : Nat} (h : a ≤ b) : cn r a i ≤ cn r b i := by
  induction b with
  | zero =>
    obtain rfl : a = 0 := by omega
    exact Int.le_refl _
  | succ b ih =>
    rcases Nat.lt_or_ge b a with h1 | h1
    · obtain rfl : a = b + 1 := by omega
      exact Int.le_refl _
    · exact Int.le_trans (ih h1) (cn_step r b i).1
theorem cn_nonneg (r : List Int) (k i : Nat) : 0 ≤ cn r k i := by unfold cn; omega
theorem cn_app {r s : List Int} {k : Nat} (i : Nat) (h : k ≤ r.length) : cn (r ++ s) k i = cn r k i := by unfold cn; rw [List.take_append_of_le_length h]
theorem cn_all {r : List Int} {k : Nat} (i : Nat) (h : r.length ≤ k) : cn r k i = (r.count (i : Int) : Int) := by unfold cn; rw [List.take_of_length_le h]

/-- A sum over the jobs below n. -/
def sm (f : Nat → Int) : Nat → Int
  | 0 => 0
  | n + 1 => sm f n + f n
theorem sm_le {f g : Nat → Int} : ∀ {n : Nat}, (∀ i, i < n → f i ≤ g i) → sm f n ≤ sm g n
  | 0, _ => Int.le_refl _
  | n + 1, h => by have := sm_le (n := n) (fun i hi => h i (by omega)); have := h n (by omega); unfold sm; omega
theorem sm_lt {f g : Nat → Int} : ∀ {n : Nat}, (∀ i, i < n → f i ≤ g i) → ∀ j, j < n → f j < g j → sm f n < sm g n
  | 0, _, j, hj, _ => by omega
  | n + 1, h, j, hj, hlt => by
    unfold sm
    have h1 := h n (by omega)
    rcases Nat.lt_or_ge j n with hjn | hjn
    · have := sm_lt (n := n) (fun i hi => h i (by omega)) j hjn hlt; omega
    · obtain rfl : j = n := by omega
      have := sm_le (n := j) (fun i hi => h i (by omega)); omega
theorem sm_add (f g : Nat → Int) : ∀ n, sm (fun i => f i + g i) n = sm f n + sm g n
  | 0 => rfl
  | n + 1 => by unfold sm; rw [sm_add f g n]; omega
theorem sm_sub (f g : Nat → Int) : ∀ n, sm (fun i => f i - g i) n = sm f n - sm g n
  | 0 => rfl
  | n + 1 => by unfold sm; rw [sm_sub f g n]; omega
theorem sm_zero {f : Nat → Int} : ∀ {n : Nat}, (∀ i, i < n → f i = 0) → sm f n = 0
  | 0, _ => rfl
  | n + 1, h => by unfold sm; rw [sm_zero (n := n) (fun i hi => h i (by omega)), h n (by omega)]; rfl
theorem sm_congr {f g : Nat → Int} : ∀ {n : Nat}, (∀ i, i < n → f i = g i) → sm f n = sm g n
  | 0, _ => rfl
  | n + 1, h => by unfold sm; rw [sm_congr (n := n) (fun i hi => h i (by omega)), h n (by omega)]
theorem sm_nonneg {f : Nat → Int} {n : Nat} (h : ∀ i, i < n → 0 ≤ f i) : 0 ≤ sm f n := by
  have := sm_le (f := fun _ => 0) (g := f) (n := n) h
  rwa [sm_zero (fun _ _ => rfl)] at this
/-- One tick is at most one job's. -/
theorem sm_tick (P : Nat → Bool) (x : Int) : ∀ n : Nat, sm (fun i => if P i then (if x = (i : Int) then 1 else 0) else 0) n = if 0 ≤ x ∧ x < (n : Int) ∧ P x.toNat = true then 1 else 0
  | 0 => by unfold sm; rw [if_neg (by omega)]
  | n + 1 => by
    unfold sm
    rw [sm_tick P x n]
    by_cases hx : x = (n : Int)
    · subst hx
      rw [if_neg (show ¬ (0 ≤ (n : Int) ∧ (n : Int) < (n : Int) ∧ P (n : Int).toNat = true) by omega)]
      by_cases hP : P n = true
      · rw [if_pos hP, if_pos rfl, if_pos ⟨by omega, by omega, by simpa using hP⟩]; rfl
      · rw [if_neg hP, if_neg (fun h => hP (by simpa using h.2.2))]; rfl
    · have h0 : (if P n = true then (if x = (n : Int) then (1 : Int) else 0) else 0) = 0 := by split <;> simp [hx]
      rw [h0, Int.add_zero]
      by_cases h1 : 0 ≤ x ∧ x < (n : Int) ∧ P x.toNat = true
      · rw [if_pos h1, if_pos ⟨h1.1, by omega, h1.2.2⟩]
      · rw [if_neg h1, if_neg (fun h => h1 ⟨h.1, by omega, h.2.2⟩)]
/-- The ticks from a to b of jobs with P are no more than b - a. -/
theorem sm_span (P : Nat → Bool) (r : List Int) (n a : Nat) : ∀ m : Nat, sm (fun i => if P i then cn r (a + m) i - cn r a i else 0) n ≤ (m : Int)
  | 0 => by
    rw [sm_zero]; · exact Int.le_refl _
    · intro i _; rw [Nat.add_zero]; split <;> omega
  | m + 1 => by
    have ih := sm_span P r n a m
    rcases Nat.lt_or_ge (a + m) r.length with h | h
    · have hx := List.getElem?_eq_getElem h
      have e : sm (fun i => if P i then cn r (a + (m + 1)) i - cn r a i else 0) n = sm (fun i => if P i then cn r (a + m) i - cn r a i else 0) n + sm (fun i => if P i then (if r[a + m] = (i : Int) then 1 else 0) else 0) n := by
        rw [← sm_add]
        refine sm_congr fun i _ => ?_
        rw [← Nat.add_assoc, cn_next i hx]
        split <;> omega
      rw [e, sm_tick]
      split <;> omega
    · have e : sm (fun i => if P i then cn r (a + (m + 1)) i - cn r a i else 0) n = sm (fun i => if P i then cn r (a + m) i - cn r a i else 0) n := by
        refine sm_congr fun i _ => ?_
        rw [← Nat.add_assoc, cn_end i h]
      rw [e]; omega
/-- .. and just as many, if each of them is such a job's. -/
theorem sm_span_full (P : Nat → Bool) (r : List Int) (n a : Nat) : ∀ m : Nat, (∀ k, k < m → ∃ j : Nat, j < n ∧ P j = true ∧ r[a + k]? = some (j : Int)) → sm (fun i => if P i then cn r (a + m) i - cn r a i else 0) n = (m : Int)
  | 0, _ => by
    rw [sm_zero]; · rfl
    · intro i _; rw [Nat.add_zero]; split <;> omega
  | m + 1, h => by
    have ih := sm_span_full P r n a m (fun k hk => h k (by omega))
    obtain ⟨j, hj, hP, hx⟩ := h m (by omega)
    have e : sm (fun i => if P i then cn r (a + (m + 1)) i - cn r a i else 0) n = sm (fun i => if P i then cn r (a + m) i - cn r a i else 0) n + sm (fun i => if P i then (if (j : Int) = (i : Int) then 1 else 0) else 0) n := by
      rw [← sm_add]
      refine sm_congr fun i _ => ?_
      rw [← Nat.add_assoc, cn_next i hx]
      split <;> omega
    rw [e, sm_tick, if_pos ⟨by omega, by omega, by simpa using hP⟩, ih]
    omega

section
variable (n : Nat) (rel dl wk : Nat → Int)
/-- What is asked of the span from a to b. -/
def dem (a b : Int) : Int := sm (fun i => if a ≤ rel i ∧ dl i ≤ b then wk i else 0) n
/-- May i run at k? -/
def pend (r : List Int) (k : Nat) (i : Nat) : Prop := rel i ≤ (k : Int) ∧ cn r k i < wk i
/-- The trace r runs the earliest deadline first. -/
def Edf (r : List Int) : Prop := ∀ (k : Nat) (x : Int), r[k]? = some x → (x = -1 ∧ ∀ j, j < n → ¬ pend rel wk r k j) ∨ ∃ i : Nat, x = (i : Int) ∧ i < n ∧ pend rel wk r k i ∧ ∀ j, j < n → pend rel wk r k j → dl i ≤ dl j
variable {n rel dl wk}
theorem Edf.le {r : List Int} (h : Edf n rel dl wk r) (h0 : ∀ i, i < n → 0 ≤ wk i) {i : Nat} (hi : i < n) : ∀ k, cn r k i ≤ wk i
  | 0 => by rw [cn_zero]; exact h0 i hi
  | k + 1 => by
    have ih := h.le h0 hi k
    rcases Nat.lt_or_ge k r.length with hk | hk
    · have hx := List.getElem?_eq_getElem hk
      rw [cn_next i hx]
      split
      · rename_i he
        rcases h k _ hx with ⟨h1, _⟩ | ⟨j, h1, _, hp, _⟩
        · omega
        · obtain rfl : j = i := by omega
          have := hp.2; omega
      · omega
    · rw [cn_end i hk]; exact ih
theorem Edf.early {r : List Int} (h : Edf n rel dl wk r) {i : Nat} : ∀ k : Nat, (k : Int) ≤ rel i → cn r k i = 0
  | 0, _ => cn_zero _ _
  | k + 1, hk => by
    have ih := h.early (i := i) k (by omega)
    rcases Nat.lt_or_ge k r.length with hkl | hkl
    · have hx := List.getElem?_eq_getElem hkl
      rw [cn_next i hx, ih]
      split
      · rename_i he
        rcases h k _ hx with ⟨h1, _⟩ | ⟨j, h1, _, hp, _⟩
        · omega
        · obtain rfl : j = i := by omega
          have := hp.1; omega
      · rfl
    · rw [cn_end i hkl]; exact ih
/-- Back from d on while only jobs due by d run: what is due by d and was there before has been done by then. -/
theorem Edf.back {r : List Int} (h : Edf n rel dl wk r) (hr0 : ∀ i, i < n → 0 ≤ rel i) (d : Nat) (hd : d ≤ r.length) :
    ∃ a : Nat, a ≤ d ∧ (∀ k, a ≤ k → k < d → ∃ j : Nat, j < n ∧ dl j ≤ (d : Int) ∧ r[k]? = some (j : Int)) ∧ ∀ j, j < n → dl j ≤ (d : Int) → rel j < (a : Int) → wk j ≤ cn r a j := by
  have key : ∀ m a : Nat, a = m → a ≤ d → (∀ k, a ≤ k → k < d → ∃ j : Nat, j < n ∧ dl j ≤ (d : Int) ∧ r[k]? = some (j : Int)) →
      ∃ a : Nat, a ≤ d ∧ (∀ k, a ≤ k → k < d → ∃ j : Nat, j < n ∧ dl j ≤ (d : Int) ∧ r[k]? = some (j : Int)) ∧ ∀ j, j < n → dl j ≤ (d : Int) → rel j < (a : Int) → wk j ≤ cn r a j := by
    intro m
    induction m with
    | zero =>
      intro a ha had hall
      exact ⟨a, had, hall, fun j hj _ hrj => by have := hr0 j hj; omega⟩
    | succ m ih =>
      intro a ha had hall
      by_cases hm : ∃ j : Nat, j < n ∧ dl j ≤ (d : Int) ∧ r[m]? = some (j : Int)
      · refine ih m rfl (by omega) fun k hk hkd => ?_
        by_cases e : k = m
        · subst e; exact hm
        · exact hall k (by omega) hkd
      · refine ⟨a, had, hall, fun j hj hdj hrj => ?_⟩
        have hml : m < r.length := by omega
        have hx := List.getElem?_eq_getElem hml
        have hmono : cn r m j ≤ cn r a j := cn_mono r j (by omega)
        have hnp : ¬ pend rel wk r m j := by
          intro hp
          rcases h m _ hx with ⟨_, h1⟩ | ⟨i, h1, hi, _, h2⟩
          · exact h1 j hj hp
          · exact hm ⟨i, hi, Int.le_trans (h2 j hj hp) hdj, by rw [hx, h1]⟩
        unfold pend at hnp
        have h1 : rel j ≤ (m : Int) := by omega
        have h2 : ¬ cn r m j < wk j := fun h3 => hnp ⟨h1, h3⟩
        omega
  exact key d d rfl (Nat.le_refl _) (fun k h1 h2 => by omega)
/-- Where the earliest deadline first misses one, a span is asked too much. -/
theorem Edf.asked {r : List Int} (h : Edf n rel dl wk r) (hr0 : ∀ i, i < n → 0 ≤ rel i) (hw0 : ∀ i, i < n → 0 ≤ wk i) {i d : Nat} (hi : i < n) (hdi : dl i = (d : Int)) (hd : d ≤ r.length) (hmiss : cn r d i < wk i) :
    ∃ a : Nat, a ≤ d ∧ (a : Int) ≤ rel i ∧ (d : Int) - (a : Int) < dem n rel dl wk a d := by
  obtain ⟨a, had, hall, hdone⟩ := h.back hr0 d hd
  have hra : ∀ j, j < n → dl j ≤ (d : Int) → ∀ k, a ≤ k → cn r k j < wk j → (a : Int) ≤ rel j := by
    intro j hj hdj k hk hlt
    rcases Int.lt_or_le (rel j) (a : Int) with h1 | h1
    · have := hdone j hj hdj h1
      have := cn_mono r j hk
      omega
    · exact h1
  have hai : (a : Int) ≤ rel i := hra i hi (by omega) d had hmiss
  refine ⟨a, had, hai, ?_⟩
  have hfull := sm_span_full (fun j => decide ((a : Int) ≤ rel j ∧ dl j ≤ (d : Int))) r n a (d - a) (fun k hk => by
    obtain ⟨j, hj, hdj, hx⟩ := hall (a + k) (by omega) (by omega)
    refine ⟨j, hj, decide_eq_true ⟨?_, hdj⟩, hx⟩
    rcases h (a + k) _ hx with ⟨h1, _⟩ | ⟨j', h1, _, hp, _⟩
    · omega
    · obtain rfl : j' = j := by omega
      exact hra j' hj hdj (a + k) (by omega) hp.2)
  have hlt : sm (fun j => if decide ((a : Int) ≤ rel j ∧ dl j ≤ (d : Int)) = true then cn r (a + (d - a)) j - cn r a j else 0) n < dem n rel dl wk a d := by
    unfold dem
    have hda : a + (d - a) = d := by omega
    refine sm_lt (fun j hj => ?_) i hi ?_
    · rw [hda]
      by_cases hP : (a : Int) ≤ rel j ∧ dl j ≤ (d : Int)
      · rw [if_pos (decide_eq_true hP), if_pos hP, h.early a hP.1]
        have := h.le hw0 hj d; omega
      · rw [if_neg (by simpa using hP), if_neg hP]; exact Int.le_refl _
    · rw [hda]
      have hP : (a : Int) ≤ rel i ∧ dl i ≤ (d : Int) := ⟨hai, by omega⟩
      rw [if_pos (decide_eq_true hP), if_pos hP, h.early a hP.1]
      omega
  rw [hfull] at hlt
  omega
/-- What gives each job its work between its release and its deadline shows that no span is asked too much. -/
theorem dem_le {s : List Int} (hs : ∀ i, i < n → ∃ p q : Nat, rel i = (p : Int) ∧ dl i = (q : Int) ∧ wk i ≤ cn s q i - cn s p i) (a b : Nat) (hab : a ≤ b) : dem n rel dl wk a b ≤ (b : Int) - (a : Int) := by
  have h1 : dem n rel dl wk a b ≤ sm (fun i => if decide ((a : Int) ≤ rel i ∧ dl i ≤ (b : Int)) = true then cn s (a + (b - a)) i - cn s a i else 0) n := by
    unfold dem
    refine sm_le fun i hi => ?_
    by_cases hP : (a : Int) ≤ rel i ∧ dl i ≤ (b : Int)
    · rw [if_pos hP, if_pos (decide_eq_true hP), show a + (b - a) = b by omega]
      obtain ⟨p, q, hp, hq, hw⟩ := hs i hi
      have e1 := cn_mono s i (show a ≤ p by omega)
      have e2 := cn_mono s i (show q ≤ b by omega)
      omega
    · rw [if_neg hP, if_neg (by simpa using hP)]; exact Int.le_refl _
  have h2 := sm_span (fun i => decide ((a : Int) ≤ rel i ∧ dl i ≤ (b : Int))) s n a (b - a)
  omega
end
end Go.Proofs.YtcohodpaagpfgaaDoor
