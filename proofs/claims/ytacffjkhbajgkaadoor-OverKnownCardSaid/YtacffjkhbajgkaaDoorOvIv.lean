/- Maths of the program's way (chapter 18): each span from a release to a later deadline, by its beginning and then by its end, with what it lacks; of them the spans joined, and the worst. No word of any program. -/
import Derived.Test.YtacffjkhbajgkaaDoorOvMath
import Derived.Test.YtacffjkhbajgkaaDoorJbSortM
import Derived.Lib.SlicesCompact
namespace Go.Proofs.YtacffjkhbajgkaaDoor
set_option linter.unusedVariables false
set_option linter.unusedSimpArgs false

/-- A span and what it lacks. -/
abbrev Iv := (Int × Int) × Int

/-! ## The spans, in the order of the program's loops: S: the jobs by deadline; R: the releases, ascending -/
def runF (a : Int) (S : Nat → Wd) : Nat → Int
  | 0 => 0
  | k + 1 => if a ≤ (S k).r then runF a S k + (S k).c else runF a S k
def lastF (S : Nat → Wd) (n k : Nat) : Bool := decide (k + 1 = n) || decide ((S k).d < (S (k + 1)).d)
def itemF (S : Nat → Wd) (n : Nat) (a : Int) (k : Nat) : List Iv := if (lastF S n k && decide (a < (S k).d)) = true then [((a, (S k).d), runF a S (k + 1) - ((S k).d - a))] else []
def rowF (S : Nat → Wd) (n : Nat) (a : Int) : Nat → List Iv
  | 0 => []
  | k + 1 => rowF S n a k ++ itemF S n a k
def allF (S : Nat → Wd) (n : Nat) (R : Nat → Int) : Nat → List Iv
  | 0 => []
  | i + 1 => allF S n R i ++ rowF S n (R i) n

theorem itemF_no {S : Nat → Wd} {n : Nat} {a : Int} {k : Nat} (h : (lastF S n k && decide (a < (S k).d)) = false) : itemF S n a k = [] := by unfold itemF; rw [h]; rfl
theorem itemF_yes {S : Nat → Wd} {n : Nat} {a : Int} {k : Nat} (h : (lastF S n k && decide (a < (S k).d)) = true) : itemF S n a k = [((a, (S k).d), runF a S (k + 1) - ((S k).d - a))] := by unfold itemF; rw [h]; rfl
theorem itemF_mem {S : Nat → Wd} {n : Nat} {a : Int} {k : Nat} {x : Iv} : x ∈ itemF S n a k ↔ lastF S n k = true ∧ a < (S k).d ∧ x = ((a, (S k).d), runF a S (k + 1) - ((S k).d - a)) := by
  by_cases h : (lastF S n k && decide (a < (S k).d)) = true
  · rw [itemF_yes h]
    rw [Bool.and_eq_true, decide_eq_true_eq] at h
    simp [h]
  · have h' := Bool.eq_false_iff.2 h
    rw [itemF_no h']
    rw [Bool.and_eq_true, decide_eq_true_eq] at h
    simp only [List.not_mem_nil, false_iff]
    rintro ⟨h1, h2, _⟩
    exact h ⟨h1, h2⟩
theorem rowF_mem {S : Nat → Wd} {n : Nat} {a : Int} {m : Nat} {x : Iv} : x ∈ rowF S n a m ↔ ∃ k, k < m ∧ lastF S n k = true ∧ a < (S k).d ∧ x = ((a, (S k).d), runF a S (k + 1) - ((S k).d - a)) := by
  induction m with
  | zero => simp [rowF]
  | succ m ih =>
    rw [rowF, List.mem_append, ih, itemF_mem]
    constructor
    · rintro (⟨k, hk, h⟩ | h)
      · exact ⟨k, by omega, h⟩
      · exact ⟨m, by omega, h⟩
    · rintro ⟨k, hk, h⟩
      by_cases e : k = m
      · subst e; exact Or.inr h
      · exact Or.inl ⟨k, by omega, h⟩
theorem allF_mem {S : Nat → Wd} {n : Nat} {R : Nat → Int} {m : Nat} {x : Iv} : x ∈ allF S n R m ↔ ∃ i k, i < m ∧ k < n ∧ lastF S n k = true ∧ R i < (S k).d ∧ x = ((R i, (S k).d), runF (R i) S (k + 1) - ((S k).d - R i)) := by
  induction m with
  | zero => simp [allF]
  | succ m ih =>
    rw [allF, List.mem_append, ih, rowF_mem]
    constructor
    · rintro (⟨i, k, hi, h⟩ | ⟨k, hk, h⟩)
      · exact ⟨i, k, by omega, h⟩
      · exact ⟨m, k, by omega, hk, h⟩
    · rintro ⟨i, k, hi, hk, h⟩
      by_cases e : i = m
      · subst e; exact Or.inr ⟨k, hk, h⟩
      · exact Or.inl ⟨i, k, by omega, hk, h⟩
theorem itemF_len (S : Nat → Wd) (n : Nat) (a : Int) (k : Nat) : (itemF S n a k).length ≤ 1 := by unfold itemF; split <;> simp
theorem rowF_len (S : Nat → Wd) (n : Nat) (a : Int) (m : Nat) : (rowF S n a m).length ≤ m := by
  induction m with
  | zero => simp [rowF]
  | succ m ih => rw [rowF, List.length_append]; have := itemF_len S n a m; omega
theorem allF_len (S : Nat → Wd) (n : Nat) (R : Nat → Int) (m : Nat) : (allF S n R m).length ≤ m * n := by
  induction m with
  | zero => simp [allF]
  | succ m ih => rw [allF, List.length_append, Nat.add_mul, Nat.one_mul]; have := rowF_len S n (R m) n; omega

/-! ## Their order -/
def lexLt (x y : Iv) : Prop := x.1.1 < y.1.1 ∨ x.1.1 = y.1.1 ∧ x.1.2 < y.1.2
/-- Deadlines do not fall. -/
def RiseS (S : Nat → Wd) (n : Nat) : Prop := ∀ i j, i ≤ j → j < n → (S i).d ≤ (S j).d
theorem rowF_pair {S : Nat → Wd} {n : Nat} (hS : RiseS S n) (a : Int) {m : Nat} (hm : m ≤ n) : (rowF S n a m).Pairwise lexLt := by
  induction m with
  | zero => simp [rowF]
  | succ m ih =>
    rw [rowF, List.pairwise_append]
    refine ⟨ih (by omega), ?_, ?_⟩
    · unfold itemF; split <;> simp
    · intro x hx y hy
      obtain ⟨k, hk, hl, h1, rfl⟩ := rowF_mem.1 hx
      obtain ⟨_, h2, rfl⟩ := itemF_mem.1 hy
      refine Or.inr ⟨rfl, ?_⟩
      show (S k).d < (S m).d
      unfold lastF at hl
      rw [Bool.or_eq_true, decide_eq_true_eq, decide_eq_true_eq] at hl
      have := hS (k + 1) m (by omega) (by omega)
      omega
theorem allF_pair {S : Nat → Wd} {n : Nat} (hS : RiseS S n) {R : Nat → Int} {m : Nat} (hR : ∀ i j, i < j → j < m → R i < R j) : (allF S n R m).Pairwise lexLt := by
  induction m with
  | zero => simp [allF]
  | succ m ih =>
    rw [allF, List.pairwise_append]
    refine ⟨ih (fun i j h1 h2 => hR i j h1 (by omega)), rowF_pair hS _ (Nat.le_refl n), ?_⟩
    intro x hx y hy
    obtain ⟨i, k, hi, hk, hl, h1, rfl⟩ := allF_mem.1 hx
    obtain ⟨k', hk', hl', h1', rfl⟩ := rowF_mem.1 hy
    exact Or.inl (hR i m hi (by omega))

/-! ## What is asked -/
def listS (S : Nat → Wd) (m : Nat) : List Wd := (List.range m).map S
theorem listS_succ (S : Nat → Wd) (m : Nat) : listS S (m + 1) = listS S m ++ [S m] := by simp [listS, List.range_succ]
theorem listS_mem {S : Nat → Wd} {m : Nat} {x : Wd} : x ∈ listS S m ↔ ∃ k, k < m ∧ x = S k := by
  simp only [listS, List.mem_map, List.mem_range]
  exact ⟨fun ⟨k, h, e⟩ => ⟨k, h, e.symm⟩, fun ⟨k, h, e⟩ => ⟨k, h, e.symm⟩⟩
theorem loadW_one (a b : Int) (l : List Wd) (v : Wd) : loadW a b (l ++ [v]) = loadW a b l + (if a ≤ v.r ∧ v.d ≤ b then v.c else 0) := by
  rw [loadW_append]; simp [loadW]
theorem loadW_perm {l m : List Wd} (h : l.Perm m) (a b : Int) : loadW a b l = loadW a b m := by
  induction h with
  | nil => rfl
  | cons x _ ih => simp only [loadW, ih]
  | swap x y l => simp only [loadW]; omega
  | trans _ _ h1 h2 => rw [h1, h2]
theorem runF_load {S : Nat → Wd} {n k : Nat} (hS : RiseS S n) (hk : k < n) (a : Int) : ∀ m, m ≤ k + 1 → runF a S m = loadW a (S k).d (listS S m)
  | 0, _ => rfl
  | m + 1, h => by
    rw [listS_succ, loadW_one, ← runF_load hS hk a m (by omega)]
    have := hS m k (by omega) hk
    show (if a ≤ (S m).r then runF a S m + (S m).c else runF a S m) = _
    by_cases c : a ≤ (S m).r
    · rw [if_pos c, if_pos ⟨c, this⟩]
    · rw [if_neg c, if_neg (fun e => c e.1)]; omega
theorem loadW_tail {S : Nat → Wd} {n k : Nat} (hS : RiseS S n) (hl : lastF S n k = true) (a : Int) : ∀ m, k + 1 ≤ m → m ≤ n → loadW a (S k).d (listS S m) = loadW a (S k).d (listS S (k + 1))
  | 0, h, _ => by omega
  | m + 1, h, h2 => by
    by_cases e : m = k
    · subst e; rfl
    · rw [listS_succ, loadW_one, loadW_tail hS hl a m (by omega) (by omega)]
      unfold lastF at hl
      rw [Bool.or_eq_true, decide_eq_true_eq, decide_eq_true_eq] at hl
      have h3 := hS (k + 1) m (by omega) (by omega)
      rw [if_neg (fun c => by omega)]; omega
/-- The jobs by deadline are the jobs; the releases are theirs, ascending. -/
structure OvW (L : List Wd) (S : Nat → Wd) (n : Nat) (R : Nat → Int) (m : Nat) : Prop where
  rise : RiseS S n
  perm : (listS S n).Perm L
  up : ∀ i j, i < j → j < m → R i < R j
  rel : ∀ i, i < m → ∃ x ∈ L, R i = x.r
  all : ∀ x ∈ L, ∃ i, i < m ∧ R i = x.r
section
variable {L : List Wd} {S : Nat → Wd} {n m : Nat} {R : Nat → Int}
theorem OvW.load (h : OvW L S n R m) {k : Nat} (hk : k < n) (hl : lastF S n k = true) (a : Int) : runF a S (k + 1) = loadW a (S k).d L := by
  rw [runF_load h.rise hk a (k + 1) (Nat.le_refl _), ← loadW_tail h.rise hl a n (by omega) (Nat.le_refl n)]
  exact loadW_perm h.perm _ _
/-- The last job of a deadline. -/
theorem lastF_of (hS : RiseS S n) : ∀ (j k : Nat), k + j + 1 = n → ∃ q, k ≤ q ∧ q < n ∧ lastF S n q = true ∧ (S q).d = (S k).d
  | 0, k, h => ⟨k, Nat.le_refl k, by omega, by unfold lastF; rw [decide_eq_true (by omega)]; rfl, rfl⟩
  | j + 1, k, h => by
    have h1 := hS k (k + 1) (by omega) (by omega)
    by_cases c : (S k).d < (S (k + 1)).d
    · exact ⟨k, Nat.le_refl k, by omega, by unfold lastF; rw [decide_eq_true c, Bool.or_true], rfl⟩
    · obtain ⟨q, q1, q2, q3, q4⟩ := lastF_of hS j (k + 1) (by omega)
      exact ⟨q, by omega, q2, q3, by omega⟩
theorem OvW.of_mem (h : OvW L S n R m) {x : Iv} (hx : x ∈ allF S n R m) : ∃ i ∈ L, ∃ k ∈ L, i.r < k.d ∧ x = ((i.r, k.d), loadW i.r k.d L - (k.d - i.r)) := by
  obtain ⟨i, k, hi, hk, hl, h1, rfl⟩ := allF_mem.1 hx
  obtain ⟨v, hv, e⟩ := h.rel i hi
  refine ⟨v, hv, S k, h.perm.mem_iff.1 (listS_mem.2 ⟨k, hk, rfl⟩), by rw [← e]; exact h1, ?_⟩
  rw [h.load hk hl, e]
theorem OvW.to_mem (h : OvW L S n R m) {i k : Wd} (hi : i ∈ L) (hk : k ∈ L) (hlt : i.r < k.d) : ((i.r, k.d), loadW i.r k.d L - (k.d - i.r)) ∈ allF S n R m := by
  obtain ⟨p, hp, e⟩ := h.all i hi
  obtain ⟨q, hq, rfl⟩ := listS_mem.1 (h.perm.mem_iff.2 hk)
  obtain ⟨q', q1, q2, q3, q4⟩ := lastF_of h.rise (n - q - 1) q (by omega)
  refine allF_mem.2 ⟨p, q', hp, q2, q3, by omega, ?_⟩
  rw [h.load q2 q3, e, q4]

/-! ## The worst -/
def wstepI (b : Bw) (x : Iv) : Bw := if (!b.2.2 || decide (x.2 > b.2.1)) = true then (x.1, x.2, true) else b
def worstI (xs : List Iv) : Bw := xs.foldl wstepI ((0, 0), 0, false)
theorem worstI_snoc (xs : List Iv) (x : Iv) : worstI (xs ++ [x]) = wstepI (worstI xs) x := by simp [worstI]
structure WorstI (xs : List Iv) (b : Bw) : Prop where
  some : b.2.2 = true → (b.1, b.2.1) ∈ xs
  none : b.2.2 = false → b = ((0, 0), 0, false) ∧ xs = []
  best : ∀ x ∈ xs, x.2 < b.2.1 ∨ x.2 = b.2.1 ∧ (b.1.1 < x.1.1 ∨ b.1.1 = x.1.1 ∧ b.1.2 ≤ x.1.2)
theorem worstI_is : ∀ (xs ys : List Iv) (b : Bw), (ys ++ xs).Pairwise lexLt → WorstI ys b → WorstI (ys ++ xs) (xs.foldl wstepI b)
  | [], ys, b, _, h => by simpa using h
  | x :: xs, ys, b, hp, h => by
    have e : ys ++ x :: xs = (ys ++ [x]) ++ xs := by simp
    rw [e] at hp ⊢
    rw [List.foldl_cons]
    refine worstI_is xs (ys ++ [x]) _ hp ?_
    have hlt : ∀ y ∈ ys, lexLt y x := fun y hy => (List.pairwise_append.1 (List.pairwise_append.1 hp).1).2.2 y hy x (List.mem_singleton.2 rfl)
    unfold wstepI
    by_cases c : (!b.2.2 || decide (x.2 > b.2.1)) = true
    · rw [if_pos c]
      rw [Bool.or_eq_true, Bool.not_eq_true', decide_eq_true_eq] at c
      refine ⟨fun _ => by simp, fun q => by simp at q, ?_⟩
      intro y hy
      rcases List.mem_append.1 hy with hy | hy
      · rcases c with c | c
        · rw [(h.none c).2] at hy; simp at hy
        · have := h.best y hy
          exact Or.inl (by show y.2 < x.2; omega)
      · rw [List.mem_singleton.1 hy]
        exact Or.inr ⟨rfl, Or.inr ⟨rfl, Int.le_refl _⟩⟩
    · rw [if_neg c]
      rw [Bool.or_eq_true, Bool.not_eq_true', decide_eq_true_eq, not_or] at c
      have ct : b.2.2 = true := by simpa using c.1
      refine ⟨fun q => List.mem_append_left _ (h.some q), fun q => by rw [ct] at q; exact Bool.noConfusion q, ?_⟩
      intro y hy
      rcases List.mem_append.1 hy with hy | hy
      · exact h.best y hy
      · rw [List.mem_singleton.1 hy]
        have h1 := hlt _ (h.some ct)
        unfold lexLt at h1
        simp only at h1
        have c2 := c.2
        by_cases e2 : x.2 = b.2.1
        · exact Or.inr ⟨e2, by omega⟩
        · exact Or.inl (by omega)
theorem worstI_of {xs : List Iv} (h : xs.Pairwise lexLt) : WorstI xs (worstI xs) := by
  have := worstI_is xs [] ((0, 0), 0, false) (by simpa using h) ⟨fun q => by simp at q, fun _ => ⟨rfl, rfl⟩, fun x hx => by simp at hx⟩
  exact this
theorem OvW.worst (h : OvW L S n R m) : worstI (allF S n R m) = worstW L := by
  have hW := worstI_of (allF_pair h.rise h.up)
  refine worst_uniq ?_ (worstW_worst L)
  generalize worstI (allF S n R m) = b at hW ⊢
  refine ⟨fun q => ?_, fun q => ?_, fun i k hik hlt => ?_⟩
  · obtain ⟨i, hi, k, hk, hlt, e⟩ := h.of_mem (hW.some q)
    rw [Prod.mk.injEq] at e
    exact ⟨i, k, ⟨hi, hk⟩, hlt, e.1, e.2⟩
  · refine ⟨(hW.none q).1, fun i k hik hlt => ?_⟩
    have := h.to_mem hik.1 hik.2 hlt
    rw [(hW.none q).2] at this
    simp at this
  · exact hW.best _ (h.to_mem hik.1 hik.2 hlt)

/-! ## The spans, joined -/
def joinA (acc : List (Int × Int)) (s : Int × Int) : List (Int × Int) :=
  match acc.getLast? with
  | none => [s]
  | some q => if q.2 < s.1 then acc ++ [s] else acc.dropLast ++ [(q.1, max q.2 s.2)]
def sstepI (acc : List (Int × Int)) (x : Iv) : List (Int × Int) := if x.2 > 0 then joinA acc x.1 else acc
def spansI (xs : List Iv) : List (Int × Int) := xs.foldl sstepI []
theorem spansI_snoc (xs : List Iv) (x : Iv) : spansI (xs ++ [x]) = sstepI (spansI xs) x := by simp [spansI]
theorem joinA_nil (s : Int × Int) : joinA [] s = [s] := rfl
theorem joinA_last (r : List (Int × Int)) (q s : Int × Int) : joinA (r ++ [q]) s = if q.2 < s.1 then r ++ [q] ++ [s] else r ++ [(q.1, max q.2 s.2)] := by
  unfold joinA; rw [List.getLast?_concat, List.dropLast_concat]
theorem joinA_at {acc : List (Int × Int)} {k : Nat} {q : Int × Int} (hk : acc.length = k + 1) (hq : acc[k]? = some q) (s : Int × Int) : joinA acc s = if q.2 < s.1 then acc ++ [s] else acc.set k (q.1, max q.2 s.2) := by
  rcases List.eq_nil_or_concat acc with rfl | ⟨r, u, rfl⟩
  · simp at hk
  · rw [List.concat_eq_append] at *
    rw [List.length_append, List.length_singleton] at hk
    have hr : r.length = k := by omega
    rw [List.getElem?_append_right (by omega), hr, Nat.sub_self] at hq
    simp at hq
    subst hq
    rw [joinA_last, List.set_append_right _ _ (by omega), hr, Nat.sub_self]
    rfl
theorem joinA_len (acc : List (Int × Int)) (s : Int × Int) : (joinA acc s).length ≤ acc.length + 1 := by
  rcases List.eq_nil_or_concat acc with rfl | ⟨r, u, rfl⟩
  · simp [joinA_nil]
  · rw [List.concat_eq_append, joinA_last]; split <;> simp
theorem spansI_len : ∀ (xs : List Iv), (spansI xs).length ≤ xs.length := by
  have : ∀ (xs : List Iv) (acc : List (Int × Int)), (xs.foldl sstepI acc).length ≤ acc.length + xs.length := by
    intro xs
    induction xs with
    | nil => intro acc; simp
    | cons x xs ih =>
      intro acc
      rw [List.foldl_cons]
      have h1 := ih (sstepI acc x)
      have h2 : (sstepI acc x).length ≤ acc.length + 1 := by unfold sstepI; split; exact joinA_len _ _; omega
      rw [List.length_cons]; omega
  intro xs; have := this xs []; simpa [spansI] using this
/-- The spans so far, told backwards: they fall; they are the ticks of those with too much; none begins behind the newest. -/
structure JoinI (xs : List Iv) (acc : List (Int × Int)) : Prop where
  falls : Falls acc.reverse
  ins : ∀ u, InS acc.reverse u ↔ ∃ x ∈ xs, x.2 > 0 ∧ x.1.1 ≤ u ∧ u < x.1.2
  low : ∀ s ∈ acc, ∃ x ∈ xs, s.1 = x.1.1
theorem join_step {acc : List (Int × Int)} {s : Int × Int} (hF : Falls acc.reverse) (hs : s.1 < s.2) (hlow : ∀ q ∈ acc, q.1 ≤ s.1) :
    Falls (joinA acc s).reverse ∧ (∀ u, InS (joinA acc s).reverse u ↔ InS acc.reverse u ∨ s.1 ≤ u ∧ u < s.2) ∧ ∀ q ∈ joinA acc s, q.1 = s.1 ∨ ∃ p ∈ acc, q.1 = p.1 := by
  rcases List.eq_nil_or_concat acc with rfl | ⟨r, q, rfl⟩
  · rw [joinA_nil]
    refine ⟨⟨fun v hv => by simp at hv; subst hv; exact hs, by simp⟩, fun u => by simp [InS], fun v hv => by simp at hv; subst hv; exact Or.inl rfl⟩
  · rw [List.concat_eq_append] at *
    rw [List.reverse_append] at hF
    simp only [List.reverse_cons, List.reverse_nil, List.nil_append, List.singleton_append, List.cons_append] at hF
    have hfq := hF.full q (List.mem_cons_self ..)
    obtain ⟨p1, p2⟩ := List.pairwise_cons.mp hF.apart
    have hql := hlow q (by simp)
    rw [joinA_last]
    by_cases c : q.2 < s.1
    · rw [if_pos c]
      simp only [List.reverse_append, List.reverse_cons, List.reverse_nil, List.nil_append, List.singleton_append, List.cons_append]
      refine ⟨⟨?_, ?_⟩, ?_, ?_⟩
      · intro v hv
        rcases List.mem_cons.mp hv with rfl | hv
        · exact hs
        · exact hF.full v hv
      · refine List.pairwise_cons.mpr ⟨?_, hF.apart⟩
        intro v hv
        rcases List.mem_cons.mp hv with rfl | hv
        · exact c
        · have := p1 v hv; omega
      · intro u
        simp only [InS, List.mem_cons, exists_eq_or_imp]
        constructor
        · rintro (h | h | h)
          · exact Or.inr h
          · exact Or.inl (Or.inl h)
          · exact Or.inl (Or.inr h)
        · rintro ((h | h) | h)
          · exact Or.inr (Or.inl h)
          · exact Or.inr (Or.inr h)
          · exact Or.inl h
      · intro v hv
        rcases List.mem_append.1 hv with hv | hv
        · exact Or.inr ⟨v, hv, rfl⟩
        · rw [List.mem_singleton.1 hv]; exact Or.inl rfl
    · rw [if_neg c]
      simp only [List.reverse_append, List.reverse_cons, List.reverse_nil, List.nil_append, List.singleton_append, List.cons_append]
      refine ⟨⟨?_, ?_⟩, ?_, ?_⟩
      · intro v hv
        rcases List.mem_cons.mp hv with rfl | hv
        · show q.1 < max q.2 s.2; omega
        · exact hF.full v (List.mem_cons_of_mem _ hv)
      · exact List.pairwise_cons.mpr ⟨fun v hv => p1 v hv, p2⟩
      · intro u
        simp only [InS, List.mem_cons, exists_eq_or_imp]
        constructor
        · rintro (⟨h1, h2⟩ | h)
          · rcases Int.lt_or_le u q.2 with h3 | h3
            · exact Or.inl (Or.inl ⟨h1, h3⟩)
            · exact Or.inr ⟨by omega, by omega⟩
          · exact Or.inl (Or.inr h)
        · rintro ((⟨h1, h2⟩ | h) | ⟨h1, h2⟩)
          · exact Or.inl ⟨h1, by omega⟩
          · exact Or.inr h
          · exact Or.inl ⟨by omega, by omega⟩
      · intro v hv
        rcases List.mem_append.1 hv with hv | hv
        · exact Or.inr ⟨v, List.mem_append_left _ hv, rfl⟩
        · rw [List.mem_singleton.1 hv]; exact Or.inr ⟨q, by simp, rfl⟩
theorem joinI_is : ∀ (xs ys : List Iv) (acc : List (Int × Int)), (ys ++ xs).Pairwise lexLt → (∀ x ∈ ys ++ xs, x.1.1 < x.1.2) → JoinI ys acc → JoinI (ys ++ xs) (xs.foldl sstepI acc)
  | [], ys, acc, _, _, h => by simpa using h
  | x :: xs, ys, acc, hp, hf, h => by
    have e : ys ++ x :: xs = (ys ++ [x]) ++ xs := by simp
    rw [e] at hp hf ⊢
    rw [List.foldl_cons]
    refine joinI_is xs (ys ++ [x]) _ hp hf ?_
    have hlt : ∀ y ∈ ys, lexLt y x := fun y hy => (List.pairwise_append.1 (List.pairwise_append.1 hp).1).2.2 y hy x (List.mem_singleton.2 rfl)
    unfold sstepI
    by_cases c : x.2 > 0
    · rw [if_pos c]
      obtain ⟨j1, j2, j3⟩ := join_step h.falls (s := x.1) (hf x (by simp)) (fun q hq => by
        obtain ⟨y, hy, e2⟩ := h.low q hq
        have := hlt y hy
        unfold lexLt at this
        omega)
      refine ⟨j1, fun u => ?_, fun q hq => ?_⟩
      · rw [j2 u, h.ins u]
        simp only [List.mem_append, List.mem_singleton]
        constructor
        · rintro (⟨y, hy, h1⟩ | h1)
          · exact ⟨y, Or.inl hy, h1⟩
          · exact ⟨x, Or.inr rfl, c, h1⟩
        · rintro ⟨y, hy | rfl, h1⟩
          · exact Or.inl ⟨y, hy, h1⟩
          · exact Or.inr h1.2
      · rcases j3 q hq with e2 | ⟨p, hp2, e2⟩
        · exact ⟨x, by simp, e2⟩
        · obtain ⟨y, hy, e3⟩ := h.low p hp2
          exact ⟨y, List.mem_append_left _ hy, e2.trans e3⟩
    · rw [if_neg c]
      refine ⟨h.falls, fun u => ?_, fun q hq => ?_⟩
      · rw [h.ins u]
        simp only [List.mem_append, List.mem_singleton]
        constructor
        · rintro ⟨y, hy, h1⟩; exact ⟨y, Or.inl hy, h1⟩
        · rintro ⟨y, hy | rfl, h1⟩
          · exact ⟨y, hy, h1⟩
          · exact absurd h1.1 c
      · obtain ⟨y, hy, e3⟩ := h.low q hq
        exact ⟨y, List.mem_append_left _ hy, e3⟩
theorem OvW.spans (h : OvW L S n R m) {E : Nat} (hr : ∀ w ∈ L, 0 ≤ w.r) (hE : ∀ w ∈ L, w.d ≤ E) : spansI (allF S n R m) = (segs (hotW L) E).reverse := by
  have hJ := joinI_is (allF S n R m) [] [] (by simpa using allF_pair h.rise h.up) (fun x hx => by
    obtain ⟨i, hi, k, hk, hlt, rfl⟩ := h.of_mem (by simpa using hx)
    exact hlt) ⟨⟨by simp, by simp⟩, fun u => by simp [InS], fun s hs => by simp at hs⟩
  simp only [List.nil_append] at hJ
  change JoinI _ (spansI (allF S n R m)) at hJ
  obtain ⟨a1, _, a3⟩ := segs_all (hotW L) E
  rw [← List.reverse_reverse (spansI _)]
  congr 1
  refine falls_uniq hJ.falls a1 (fun u => ?_)
  rw [hJ.ins u, a3 u]
  constructor
  · rintro ⟨x, hx, h1, h2, h3⟩
    obtain ⟨i, hi, k, hk, hlt, rfl⟩ := h.of_mem hx
    have hh : hotW L u = true := hotW_iff.2 ⟨i, hi, k, hk, hlt, by simp only at h1; omega, h2, h3⟩
    have := hotW_within hr hE hh
    exact ⟨this.1, this.2, hh⟩
  · rintro ⟨_, _, hh⟩
    obtain ⟨i, hi, k, hk, hlt, h1, h2, h3⟩ := hotW_iff.1 hh
    exact ⟨_, h.to_mem hi hk hlt, by simp only; omega, h2, h3⟩
end

/-! ## Sorted numbers, each once -/
theorem compact_rise (d : Array Int) (hs : ∀ i j, i ≤ j → j < d.size → d[i]! ≤ d[j]!) : ∀ m, m ≤ d.size →
    (Lib.compactUpTo d m).Pairwise (· < ·) ∧ (∀ x ∈ Lib.compactUpTo d m, ∃ j, j < m ∧ x = d[j]!) ∧ ∀ j, j < m → d[j]! ∈ Lib.compactUpTo d m
  | 0, _ => ⟨by simp [Lib.compactUpTo], by simp [Lib.compactUpTo], fun j h => by omega⟩
  | m + 1, hm => by
    obtain ⟨h1, h2, h3⟩ := compact_rise d hs m (by omega)
    rw [Lib.compactUpTo_succ]
    by_cases c : Lib.keeps d m = true
    · rw [if_pos c]
      refine ⟨?_, ?_, ?_⟩
      · rw [List.pairwise_append]
        refine ⟨h1, by simp, ?_⟩
        intro x hx y hy
        rw [List.mem_singleton.1 hy]
        obtain ⟨j, hj, rfl⟩ := h2 x hx
        have g1 := hs j (m - 1) (by omega) (by omega)
        have g2 := hs (m - 1) m (by omega) (by omega)
        have g3 : d[m]! ≠ d[m - 1]! := by
          intro e
          rw [Lib.keeps_neg (by omega) e] at c
          exact Bool.noConfusion c
        omega
      · intro x hx
        rcases List.mem_append.1 hx with hx | hx
        · obtain ⟨j, hj, e⟩ := h2 x hx; exact ⟨j, by omega, e⟩
        · exact ⟨m, by omega, List.mem_singleton.1 hx⟩
      · intro j hj
        by_cases e : j = m
        · subst e; simp
        · exact List.mem_append_left _ (h3 j (by omega))
    · rw [if_neg c, List.append_nil]
      refine ⟨h1, fun x hx => by obtain ⟨j, hj, e⟩ := h2 x hx; exact ⟨j, by omega, e⟩, fun j hj => ?_⟩
      by_cases e : j = m
      · subst e
        have hj0 : 0 < j := by
          rcases Nat.eq_zero_or_pos j with h0 | h0
          · subst h0; exact absurd (Lib.keeps_lt_one d 0 (by omega)) c
          · exact h0
        by_cases e2 : d[j]! = d[j - 1]!
        · rw [e2]; exact h3 (j - 1) (by omega)
        · exact absurd (Lib.keeps_pos e2) c
      · exact h3 j (by omega)
/-- Numbers sorted, each once: ascending, and just those. -/
theorem once_rise (zs : List Int) : (Lib.compact (zs.mergeSort fun x y => decide (x ≤ y))).Pairwise (· < ·) ∧ ∀ x, x ∈ Lib.compact (zs.mergeSort fun x y => decide (x ≤ y)) ↔ x ∈ zs := by
  have hp := List.mergeSort_perm zs (fun x y => decide (x ≤ y))
  have hs := List.pairwise_mergeSort (le := fun x y : Int => decide (x ≤ y)) (by intro a b c h1 h2; simp at *; omega) (by intro a b; simp; omega) zs
  generalize zs.mergeSort (fun x y => decide (x ≤ y)) = ys at hp hs
  have hd : ∀ i j, i ≤ j → j < ys.toArray.size → ys.toArray[i]! ≤ ys.toArray[j]! := by
    intro i j hij hj
    have hj' : j < ys.length := by simpa using hj
    rw [getElem!_pos ys.toArray i (by simp; omega), getElem!_pos ys.toArray j (by simpa using hj)]
    simp only [List.getElem_toArray]
    by_cases e : i = j
    · subst e; exact Int.le_refl _
    · have := List.pairwise_iff_getElem.1 hs i j (by omega) hj' (by omega)
      simpa using this
  obtain ⟨h1, h2, h3⟩ := compact_rise ys.toArray hd ys.length (by simp)
  refine ⟨h1, fun x => ?_⟩
  rw [← hp.mem_iff]
  constructor
  · intro hx
    obtain ⟨j, hj, rfl⟩ := h2 x hx
    rw [getElem!_pos ys.toArray j (by simpa using hj)]
    simp
  · intro hx
    obtain ⟨j, hj, rfl⟩ := List.getElem_of_mem hx
    have := h3 j hj
    rw [getElem!_pos ys.toArray j (by simpa using hj), List.getElem_toArray] at this
    exact this
end Go.Proofs.YtacffjkhbajgkaaDoor
