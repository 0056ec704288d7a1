/- Maths of chapter 18: what is asked within a span; the ticks with too much, as spans; the worst. No word of any program. -/
import Derived.Test.YtacffjkhbajgkaaDoorNumMath
namespace Go.Proofs.YtacffjkhbajgkaaDoor
set_option linter.unusedVariables false
set_option linter.unusedSimpArgs false

/-- A job as it counts here: from, to, charge. -/
structure Wd where
  (r d c : Int)

/-! ## What is asked within a span -/
def loadW (a b : Int) : List Wd → Int
  | [] => 0
  | w :: l => (if a ≤ w.r ∧ w.d ≤ b then w.c else 0) + loadW a b l

theorem loadW_pos {l : List Wd} (hc : ∀ w ∈ l, 0 ≤ w.c) (a b : Int) : 0 ≤ loadW a b l := by
  induction l with
  | nil => simp [loadW]
  | cons w l ih =>
    have h1 := ih (fun v hv => hc v (List.mem_cons_of_mem _ hv))
    have h2 := hc w (List.mem_cons_self ..)
    unfold loadW
    split <;> omega

theorem loadW_wide {l : List Wd} (hc : ∀ w ∈ l, 0 ≤ w.c) {a b a' b' : Int} (ha : a' ≤ a) (hb : b ≤ b') : loadW a b l ≤ loadW a' b' l := by
  induction l with
  | nil => simp [loadW]
  | cons w l ih =>
    have h1 := ih (fun v hv => hc v (List.mem_cons_of_mem _ hv))
    have h2 := hc w (List.mem_cons_self ..)
    unfold loadW
    by_cases h : a ≤ w.r ∧ w.d ≤ b
    · rw [if_pos h, if_pos ⟨by omega, by omega⟩]; omega
    · rw [if_neg h]; split <;> omega

theorem loadW_append (a b : Int) (l m : List Wd) : loadW a b (l ++ m) = loadW a b l + loadW a b m := by
  induction l with
  | nil => simp [loadW]
  | cons w l ih => simp only [List.cons_append, loadW, ih]; omega

/-- At most n charges of at most c each. -/
theorem loadW_le {l : List Wd} {C : Int} (hC : 0 ≤ C) (hc : ∀ w ∈ l, w.c ≤ C) (a b : Int) : loadW a b l ≤ C * l.length := by
  induction l with
  | nil => simp [loadW]
  | cons w l ih =>
    have h1 := ih (fun v hv => hc v (List.mem_cons_of_mem _ hv))
    have h2 := hc w (List.mem_cons_self ..)
    unfold loadW
    rw [List.length_cons, Int.natCast_add, Int.mul_add]
    simp only [Int.natCast_one, Int.mul_one]
    split <;> omega

/-! ## Where it is too much -/
/-- The span from i's release to k's deadline has too much. -/
def muchW (l : List Wd) (i k : Wd) : Bool := decide (i.r < k.d) && decide (k.d - i.r < loadW i.r k.d l)

def hotW (l : List Wd) (t : Int) : Bool := l.any (fun i => l.any (fun k => muchW l i k && (decide (i.r ≤ t) && decide (t < k.d))))

theorem hotW_iff {l : List Wd} {t : Int} : hotW l t = true ↔ ∃ i ∈ l, ∃ k ∈ l, i.r < k.d ∧ k.d - i.r < loadW i.r k.d l ∧ i.r ≤ t ∧ t < k.d := by
  unfold hotW muchW
  simp only [List.any_eq_true, Bool.and_eq_true, decide_eq_true_eq]
  constructor
  · rintro ⟨i, hi, k, hk, ⟨h1, h2⟩, h3, h4⟩; exact ⟨i, hi, k, hk, h1, h2, h3, h4⟩
  · rintro ⟨i, hi, k, hk, h1, h2, h3, h4⟩; exact ⟨i, hi, k, hk, ⟨h1, h2⟩, h3, h4⟩

theorem hotW_more {l m : List Wd} (hc : ∀ w ∈ m, 0 ≤ w.c) {t : Int} (h : hotW l t = true) : hotW (l ++ m) t = true := by
  rw [hotW_iff] at h ⊢
  obtain ⟨i, hi, k, hk, h1, h2, h3, h4⟩ := h
  refine ⟨i, List.mem_append_left _ hi, k, List.mem_append_left _ hk, h1, ?_, h3, h4⟩
  rw [loadW_append]
  have := loadW_pos hc i.r k.d
  omega

theorem hotW_within {l : List Wd} {E : Int} (hr : ∀ w ∈ l, 0 ≤ w.r) (hd : ∀ w ∈ l, w.d ≤ E) {t : Int} (h : hotW l t = true) : 0 ≤ t ∧ t < E := by
  rw [hotW_iff] at h
  obtain ⟨i, hi, k, hk, h1, h2, h3, h4⟩ := h
  have := hr i hi; have := hd k hk
  omega

/-! ## Spans: the ticks of a set, joined -/
/-- One more tick behind spans (the last one first). -/
def pushS (t : Int) : List (Int × Int) → List (Int × Int)
  | [] => [(t, t + 1)]
  | s :: l => if s.2 = t then (s.1, t + 1) :: l else (t, t + 1) :: s :: l

/-- The spans of the ticks below n (the last one first). -/
def segs (f : Int → Bool) : Nat → List (Int × Int)
  | 0 => []
  | n + 1 => if f (n : Int) = true then pushS (n : Int) (segs f n) else segs f n

/-- t lies within one of them. -/
def InS (l : List (Int × Int)) (t : Int) : Prop := ∃ s ∈ l, s.1 ≤ t ∧ t < s.2

/-- They fall, lie apart, none is empty. -/
structure Falls (l : List (Int × Int)) : Prop where
  full : ∀ s ∈ l, s.1 < s.2
  apart : l.Pairwise (fun x y => y.2 < x.1)

theorem Falls.tail {s : Int × Int} {l : List (Int × Int)} (h : Falls (s :: l)) : Falls l :=
  ⟨fun v hv => h.full v (List.mem_cons_of_mem _ hv), (List.pairwise_cons.mp h.apart).2⟩

theorem falls_push {t : Int} {l : List (Int × Int)} (h : Falls l) (hb : ∀ s ∈ l, s.2 ≤ t) : Falls (pushS t l) ∧ (∀ u, InS (pushS t l) u ↔ InS l u ∨ u = t) := by
  match l, h, hb with
  | [], h, hb =>
    refine ⟨⟨?_, ?_⟩, ?_⟩
    · intro s hs; simp [pushS] at hs; subst hs; simp only []; omega
    · simp [pushS]
    · intro u
      simp [pushS, InS]
      omega
  | s :: l, h, hb =>
    have hf := h.full s (List.mem_cons_self ..)
    have hbs := hb s (List.mem_cons_self ..)
    obtain ⟨hp1, hp2⟩ := List.pairwise_cons.mp h.apart
    by_cases he : s.2 = t
    · rw [show pushS t (s :: l) = (s.1, t + 1) :: l by simp only [pushS, if_pos he]]
      refine ⟨⟨?_, ?_⟩, ?_⟩
      · intro v hv
        rcases List.mem_cons.mp hv with rfl | hv
        · simp only []; omega
        · exact h.full v (List.mem_cons_of_mem _ hv)
      · exact List.pairwise_cons.mpr ⟨hp1, hp2⟩
      · intro u
        simp only [InS, List.mem_cons, exists_eq_or_imp]
        constructor
        · rintro (⟨h1, h2⟩ | h1)
          · rcases Int.lt_or_le u t with h3 | h3
            · exact Or.inl (Or.inl ⟨h1, by omega⟩)
            · exact Or.inr (by omega)
          · exact Or.inl (Or.inr h1)
        · rintro ((⟨h1, h2⟩ | h1) | rfl)
          · exact Or.inl ⟨h1, by omega⟩
          · exact Or.inr h1
          · exact Or.inl ⟨by omega, by omega⟩
    · rw [show pushS t (s :: l) = (t, t + 1) :: s :: l by simp only [pushS, if_neg he]]
      refine ⟨⟨?_, ?_⟩, ?_⟩
      · intro v hv
        rcases List.mem_cons.mp hv with rfl | hv
        · simp only []; omega
        · exact h.full v hv
      · refine List.pairwise_cons.mpr ⟨?_, h.apart⟩
        intro v hv
        simp only []
        rcases List.mem_cons.mp hv with rfl | hv
        · omega
        · have := hp1 v hv; omega
      · intro u
        simp only [InS, List.mem_cons, exists_eq_or_imp]
        constructor
        · rintro (⟨h1, h2⟩ | h1 | h1)
          · exact Or.inr (by omega)
          · exact Or.inl (Or.inl h1)
          · exact Or.inl (Or.inr h1)
        · rintro ((h1 | h1) | rfl)
          · exact Or.inr (Or.inl h1)
          · exact Or.inr (Or.inr h1)
          · exact Or.inl ⟨by omega, by omega⟩

theorem segs_all (f : Int → Bool) (n : Nat) : Falls (segs f n) ∧ (∀ s ∈ segs f n, 0 ≤ s.1 ∧ s.2 ≤ n) ∧ ∀ u, InS (segs f n) u ↔ 0 ≤ u ∧ u < n ∧ f u = true := by
  induction n with
  | zero =>
    refine ⟨⟨by simp [segs], by simp [segs]⟩, by simp [segs], ?_⟩
    intro u; simp only [segs, InS]
    constructor
    · rintro ⟨s, hs, _⟩; simp at hs
    · rintro ⟨h1, h2, _⟩; omega
  | succ n ih =>
    obtain ⟨h1, h2, h3⟩ := ih
    unfold segs
    by_cases hf : f (n : Int) = true
    · rw [if_pos hf]
      obtain ⟨g1, g2⟩ := falls_push (t := (n : Int)) h1 (fun s hs => (h2 s hs).2)
      refine ⟨g1, ?_, ?_⟩
      · intro s hs
        have hlo := g1.full s hs
        have ha := (g2 s.1).mp ⟨s, hs, by omega, by omega⟩
        have hb := (g2 (s.2 - 1)).mp ⟨s, hs, by omega, by omega⟩
        have ha' : 0 ≤ s.1 := by rcases ha with h | h; exact ((h3 _).mp h).1; omega
        have hb' : s.2 - 1 ≤ n := by
          rcases hb with h | h
          · have := ((h3 _).mp h).2.1; omega
          · omega
        refine ⟨ha', ?_⟩
        simp only [Int.natCast_add, Int.natCast_one]; omega
      · intro u
        rw [g2 u, h3 u]
        simp only [Int.natCast_add, Int.natCast_one]
        constructor
        · rintro (⟨a, b, c⟩ | rfl)
          · exact ⟨a, by omega, c⟩
          · exact ⟨by omega, by omega, hf⟩
        · rintro ⟨a, b, c⟩
          rcases Int.lt_or_le u n with h | h
          · exact Or.inl ⟨a, h, c⟩
          · exact Or.inr (by omega)
    · rw [if_neg hf]
      refine ⟨h1, ?_, ?_⟩
      · intro s hs
        have := h2 s hs
        simp only [Int.natCast_add, Int.natCast_one]
        exact ⟨this.1, by omega⟩
      · intro u
        rw [h3 u]
        simp only [Int.natCast_add, Int.natCast_one]
        constructor
        · rintro ⟨a, b, c⟩; exact ⟨a, by omega, c⟩
        · rintro ⟨a, b, c⟩
          refine ⟨a, ?_, c⟩
          rcases Int.lt_or_le u n with h | h
          · exact h
          · have : u = n := by omega
            subst this; exact absurd c hf

/-- No two such lists tell the same ticks. -/
theorem falls_uniq {l m : List (Int × Int)} (hl : Falls l) (hm : Falls m) (h : ∀ u, InS l u ↔ InS m u) : l = m := by
  induction l generalizing m with
  | nil =>
    match m, hm, h with
    | [], _, _ => rfl
    | s :: m, hm, h =>
      have := hm.full s (List.mem_cons_self ..)
      obtain ⟨v, hv, _⟩ := (h s.1).mpr ⟨s, List.mem_cons_self .., by omega, by omega⟩
      simp at hv
  | cons s l ih =>
    match m, hm, h with
    | [], _, h =>
      have := hl.full s (List.mem_cons_self ..)
      obtain ⟨v, hv, _⟩ := (h s.1).mp ⟨s, List.mem_cons_self .., by omega, by omega⟩
      simp at hv
    | q :: m, hm, h =>
      have fs := hl.full s (List.mem_cons_self ..)
      have fq := hm.full q (List.mem_cons_self ..)
      obtain ⟨ps, _⟩ := List.pairwise_cons.mp hl.apart
      obtain ⟨pq, _⟩ := List.pairwise_cons.mp hm.apart
      have top : ∀ {s : Int × Int} {l : List (Int × Int)}, s.1 < s.2 → (∀ y ∈ l, y.2 < s.1) → ∀ {u}, InS (s :: l) u → u < s.2 := by
        intro s l hf hp u hu
        obtain ⟨v, hv, h1, h2⟩ := hu
        rcases List.mem_cons.mp hv with rfl | hv
        · exact h2
        · have := hp v hv; omega
      have gap : ∀ {s : Int × Int} {l : List (Int × Int)}, (∀ y ∈ l, y.2 < s.1) → ¬ InS (s :: l) (s.1 - 1) := by
        intro s l hp hu
        obtain ⟨v, hv, h1, h2⟩ := hu
        rcases List.mem_cons.mp hv with rfl | hv
        · omega
        · have := hp v hv; omega
      have e2 : s.2 = q.2 := by
        have a := top fq pq ((h (s.2 - 1)).mp ⟨s, List.mem_cons_self .., by omega, by omega⟩)
        have b := top fs ps ((h (q.2 - 1)).mpr ⟨q, List.mem_cons_self .., by omega, by omega⟩)
        omega
      have e1 : s.1 = q.1 := by
        rcases Int.lt_trichotomy s.1 q.1 with g | g | g
        · exact absurd ((h (q.1 - 1)).mp ⟨s, List.mem_cons_self .., by omega, by omega⟩) (gap pq)
        · exact g
        · exact absurd ((h (s.1 - 1)).mpr ⟨q, List.mem_cons_self .., by omega, by omega⟩) (gap ps)
      have e : s = q := Prod.ext e1 e2
      subst e
      have rest : ∀ {l : List (Int × Int)}, (∀ y ∈ l, y.2 < s.1) → ∀ u, InS l u ↔ InS (s :: l) u ∧ u < s.1 := by
        intro l hp u
        constructor
        · rintro ⟨v, hv, h1, h2⟩
          have := hp v hv
          exact ⟨⟨v, List.mem_cons_of_mem _ hv, h1, h2⟩, by omega⟩
        · rintro ⟨⟨v, hv, h1, h2⟩, h3⟩
          rcases List.mem_cons.mp hv with rfl | hv
          · omega
          · exact ⟨v, hv, h1, h2⟩
      congr 1
      refine ih hl.tail hm.tail (fun u => ?_)
      rw [rest ps u, rest pq u, h u]

/-- Fewer ticks: each span lies in one of the others. -/
theorem falls_sub {l m : List (Int × Int)} (hl : Falls l) (hm : Falls m) (h : ∀ u, InS l u → InS m u) : ∀ s ∈ l, ∃ q ∈ m, q.1 ≤ s.1 ∧ s.2 ≤ q.2 := by
  intro s hs
  have hf := hl.full s hs
  obtain ⟨q, hq, h1, h2⟩ := h s.1 ⟨s, hs, by omega, by omega⟩
  refine ⟨q, hq, h1, ?_⟩
  rcases Int.lt_or_le q.2 s.2 with g | g
  · exfalso
    obtain ⟨v, hv, g1, g2⟩ := h q.2 ⟨s, hs, by omega, by omega⟩
    have two : ∀ {m : List (Int × Int)}, m.Pairwise (fun x y => y.2 < x.1) → ∀ x ∈ m, ∀ y ∈ m, x = y ∨ y.2 < x.1 ∨ x.2 < y.1 := by
      intro m
      induction m with
      | nil => intro _ x hx; simp at hx
      | cons z m ih =>
        intro hp x hx y hy
        obtain ⟨p1, p2⟩ := List.pairwise_cons.mp hp
        rcases List.mem_cons.mp hx with ex | hx <;> rcases List.mem_cons.mp hy with ey | hy
        · exact Or.inl (ex.trans ey.symm)
        · exact Or.inr (Or.inl (ex ▸ p1 y hy))
        · exact Or.inr (Or.inr (ey ▸ p1 x hx))
        · exact ih p2 x hx y hy
    rcases two hm.apart q hq v hv with rfl | h3 | h3
    · omega
    · have := hm.full v hv; omega
    · omega
  · exact g

/-- Spans as a call answers them: the first one first. -/
def spansW (l : List Wd) (E : Nat) : List (Int × Int) := (segs (hotW l) E).reverse

theorem spansW_ext (l : List Wd) {E F : Nat} (hr : ∀ w ∈ l, 0 ≤ w.r) (hE : ∀ w ∈ l, w.d ≤ E) (hF : ∀ w ∈ l, w.d ≤ F) : spansW l E = spansW l F := by
  unfold spansW
  congr 1
  obtain ⟨a1, _, a3⟩ := segs_all (hotW l) E
  obtain ⟨b1, _, b3⟩ := segs_all (hotW l) F
  refine falls_uniq a1 b1 (fun u => ?_)
  rw [a3, b3]
  constructor
  · rintro ⟨_, _, h⟩; have := hotW_within hr hF h; exact ⟨this.1, this.2, h⟩
  · rintro ⟨_, _, h⟩; have := hotW_within hr hE h; exact ⟨this.1, this.2, h⟩

theorem spansW_rise (l : List Wd) (E : Nat) : (spansW l E).Pairwise (fun x y => x.2 < y.1) ∧ ∀ s ∈ spansW l E, 0 ≤ s.1 ∧ s.1 < s.2 ∧ s.2 ≤ E := by
  obtain ⟨a1, a2, _⟩ := segs_all (hotW l) E
  unfold spansW
  refine ⟨List.pairwise_reverse.mpr a1.apart, ?_⟩
  intro s hs
  have hs := List.mem_reverse.mp hs
  have := a2 s hs; have := a1.full s hs
  omega

theorem spansW_sub {l m : List Wd} {E F : Nat} (hr : ∀ w ∈ l ++ m, 0 ≤ w.r) (hd : ∀ w ∈ l ++ m, w.d ≤ F) (hc : ∀ w ∈ m, 0 ≤ w.c) : ∀ s ∈ spansW l E, ∃ q ∈ spansW (l ++ m) F, q.1 ≤ s.1 ∧ s.2 ≤ q.2 := by
  obtain ⟨a1, _, a3⟩ := segs_all (hotW l) E
  obtain ⟨b1, _, b3⟩ := segs_all (hotW (l ++ m)) F
  intro s hs
  obtain ⟨q, hq, h⟩ := falls_sub a1 b1 (fun u hu => by
    rw [a3] at hu
    have h := hotW_more hc hu.2.2
    have := hotW_within hr hd h
    exact (b3 u).mpr ⟨this.1, this.2, h⟩) s (List.mem_reverse.mp hs)
  exact ⟨q, List.mem_reverse.mpr hq, h⟩

theorem spansW_nil {l : List Wd} {E : Nat} (hr : ∀ w ∈ l, 0 ≤ w.r) (hd : ∀ w ∈ l, w.d ≤ E) : spansW l E = [] ↔ ∀ i ∈ l, ∀ k ∈ l, i.r < k.d → loadW i.r k.d l - (k.d - i.r) ≤ 0 := by
  obtain ⟨a1, a2, a3⟩ := segs_all (hotW l) E
  unfold spansW
  rw [List.reverse_eq_nil_iff]
  constructor
  · intro h i hi k hk hik
    rcases Int.lt_or_le 0 (loadW i.r k.d l - (k.d - i.r)) with g | g
    · exfalso
      have hh : hotW l i.r = true := hotW_iff.mpr ⟨i, hi, k, hk, hik, by omega, by omega, hik⟩
      have hw := hotW_within hr hd hh
      obtain ⟨s, hs, _⟩ := (a3 i.r).mpr ⟨hw.1, hw.2, hh⟩
      rw [h] at hs; simp at hs
    · exact g
  · intro h
    match hs : segs (hotW l) E with
    | [] => rfl
    | s :: r =>
      exfalso
      have hm : s ∈ segs (hotW l) E := by rw [hs]; exact List.mem_cons_self ..
      have hf := a1.full s hm
      obtain ⟨_, _, hh⟩ := (a3 s.1).mp ⟨s, hm, by omega, by omega⟩
      obtain ⟨i, hi, k, hk, h1, h2, h3, h4⟩ := hotW_iff.mp hh
      have := h i hi k hk h1
      omega

/-! ## The worst one -/
/-- What the spans' loop keeps: the best so far, its excess, is there one. -/
abbrev Bw := (Int × Int) × Int × Bool

def wbetter (b : Bw) (x y d : Int) : Bool := !b.2.2 || (decide (b.2.1 < d) || (decide (d = b.2.1) && (decide (x < b.1.1) || (decide (x = b.1.1) && decide (y < b.1.2)))))

def wstep (l : List Wd) (b : Bw) (i k : Wd) : Bw :=
  if i.r < k.d then
    if wbetter b i.r k.d (loadW i.r k.d l - (k.d - i.r)) = true then ((i.r, k.d), loadW i.r k.d l - (k.d - i.r), true) else b
  else b

def worstW (l : List Wd) : Bw := l.foldl (fun b i => l.foldl (fun b k => wstep l b i k) b) ((0, 0), 0, false)

/-- The worst of the pairs S. -/
structure Worst (l : List Wd) (S : Wd → Wd → Prop) (b : Bw) : Prop where
  some : b.2.2 = true → ∃ i k, S i k ∧ i.r < k.d ∧ b.1 = (i.r, k.d) ∧ b.2.1 = loadW i.r k.d l - (k.d - i.r)
  none : b.2.2 = false → b = ((0, 0), 0, false) ∧ ∀ i k, S i k → ¬ i.r < k.d
  best : ∀ i k, S i k → i.r < k.d → loadW i.r k.d l - (k.d - i.r) < b.2.1 ∨ loadW i.r k.d l - (k.d - i.r) = b.2.1 ∧ (b.1.1 < i.r ∨ b.1.1 = i.r ∧ b.1.2 ≤ k.d)

theorem worst_step {l : List Wd} {S : Wd → Wd → Prop} {b : Bw} (h : Worst l S b) (i k : Wd) : Worst l (fun x y => S x y ∨ x = i ∧ y = k) (wstep l b i k) := by
  unfold wstep
  by_cases hik : i.r < k.d
  · rw [if_pos hik]
    generalize hD : loadW i.r k.d l - (k.d - i.r) = D
    by_cases hw : wbetter b i.r k.d D = true
    · rw [if_pos hw]
      refine ⟨fun _ => ⟨i, k, Or.inr ⟨rfl, rfl⟩, hik, rfl, hD.symm⟩, fun h => by simp at h, ?_⟩
      rintro x y (hs | ⟨rfl, rfl⟩) hxy
      · simp only []
        have hb := h.best x y hs hxy
        simp only [wbetter, Bool.or_eq_true, Bool.and_eq_true, decide_eq_true_eq, Bool.not_eq_true'] at hw
        rcases hw with hw | hw | ⟨hw, hw2⟩
        · exact absurd hxy ((h.none hw).2 x y hs)
        · exact Or.inl (by omega)
        · rcases hb with hb | ⟨hb, hb2⟩
          · exact Or.inl (by omega)
          · refine Or.inr ⟨by omega, ?_⟩
            omega
      · exact Or.inr ⟨hD, Or.inr ⟨rfl, Int.le_refl _⟩⟩
    · rw [if_neg hw]
      have hw' := hw
      simp only [wbetter, Bool.or_eq_true, Bool.and_eq_true, decide_eq_true_eq, Bool.not_eq_true', not_or, not_and] at hw'
      obtain ⟨n1, n2, n3⟩ := hw'
      refine ⟨?_, fun g => absurd g n1, ?_⟩
      · intro g
        obtain ⟨x, y, hs, r⟩ := h.some g
        exact ⟨x, y, Or.inl hs, r⟩
      · rintro x y (hs | ⟨rfl, rfl⟩) hxy
        · exact h.best x y hs hxy
        · rw [hD]
          rcases Int.lt_or_le D b.2.1 with g | g
          · exact Or.inl g
          · have e : D = b.2.1 := by omega
            obtain ⟨m1, m2⟩ := n3 e
            refine Or.inr ⟨e, ?_⟩
            rcases Int.lt_or_le b.1.1 x.r with g2 | g2
            · exact Or.inl g2
            · have e2 : x.r = b.1.1 := by omega
              exact Or.inr ⟨e2.symm, by have := m2 e2; omega⟩
  · rw [if_neg hik]
    refine ⟨?_, ?_, ?_⟩
    · intro g
      obtain ⟨x, y, hs, r⟩ := h.some g
      exact ⟨x, y, Or.inl hs, r⟩
    · intro g
      refine ⟨(h.none g).1, ?_⟩
      rintro x y (hs | ⟨rfl, rfl⟩)
      · exact (h.none g).2 x y hs
      · exact hik
    · rintro x y (hs | ⟨rfl, rfl⟩) hxy
      · exact h.best x y hs hxy
      · exact absurd hxy hik

theorem Worst.of {l : List Wd} {S T : Wd → Wd → Prop} {b : Bw} (h : Worst l S b) (e : ∀ i k, S i k ↔ T i k) : Worst l T b := by
  have : S = T := by funext i k; exact propext (e i k)
  rw [← this]; exact h

theorem worst_row {l : List Wd} {S : Wd → Wd → Prop} {b : Bw} (h : Worst l S b) (i : Wd) (m : List Wd) : Worst l (fun x y => S x y ∨ x = i ∧ y ∈ m) (m.foldl (fun b k => wstep l b i k) b) := by
  induction m generalizing S b with
  | nil => exact h.of (by intro x y; simp)
  | cons k m ih =>
    rw [List.foldl_cons]
    refine (ih (worst_step h i k)).of (fun x y => ?_)
    simp only [List.mem_cons]
    constructor
    · rintro ((a | ⟨a, b⟩) | ⟨a, b⟩)
      · exact Or.inl a
      · exact Or.inr ⟨a, Or.inl b⟩
      · exact Or.inr ⟨a, Or.inr b⟩
    · rintro (a | ⟨a, b | b⟩)
      · exact Or.inl (Or.inl a)
      · exact Or.inl (Or.inr ⟨a, b⟩)
      · exact Or.inr ⟨a, b⟩

theorem worst_rows {l : List Wd} {S : Wd → Wd → Prop} {b : Bw} (h : Worst l S b) (m : List Wd) : Worst l (fun x y => S x y ∨ x ∈ m ∧ y ∈ l) (m.foldl (fun b i => l.foldl (fun b k => wstep l b i k) b) b) := by
  induction m generalizing S b with
  | nil => exact h.of (by intro x y; simp)
  | cons k m ih =>
    rw [List.foldl_cons]
    refine (ih (worst_row h k l)).of (fun x y => ?_)
    simp only [List.mem_cons]
    constructor
    · rintro ((a | ⟨a, b⟩) | ⟨a, b⟩)
      · exact Or.inl a
      · exact Or.inr ⟨Or.inl a, b⟩
      · exact Or.inr ⟨Or.inr a, b⟩
    · rintro (a | ⟨a | a, b⟩)
      · exact Or.inl (Or.inl a)
      · exact Or.inl (Or.inr ⟨a, b⟩)
      · exact Or.inr ⟨a, b⟩

theorem worst_start (l : List Wd) : Worst l (fun _ _ => False) ((0, 0), 0, false) :=
  ⟨fun h => Bool.noConfusion h, fun _ => ⟨rfl, fun _ _ h => absurd h (by simp)⟩, fun _ _ h => absurd h (by simp)⟩

theorem worstW_worst (l : List Wd) : Worst l (fun x y => x ∈ l ∧ y ∈ l) (worstW l) :=
  (worst_rows (worst_start l) l).of (by intro x y; simp)

/-- There is but one. -/
theorem worst_uniq {l : List Wd} {S : Wd → Wd → Prop} {b c : Bw} (hb : Worst l S b) (hc : Worst l S c) : b = c := by
  match eb : b.2.2, ec : c.2.2 with
  | false, false => rw [(hb.none eb).1, (hc.none ec).1]
  | false, true =>
    obtain ⟨i, k, hs, hlt, _⟩ := hc.some ec
    exact absurd hlt ((hb.none eb).2 i k hs)
  | true, false =>
    obtain ⟨i, k, hs, hlt, _⟩ := hb.some eb
    exact absurd hlt ((hc.none ec).2 i k hs)
  | true, true =>
    obtain ⟨i, k, hs, hlt, p1, p2⟩ := hb.some eb
    obtain ⟨i', k', hs', hlt', p1', p2'⟩ := hc.some ec
    have q := hc.best i k hs hlt
    have q' := hb.best i' k' hs' hlt'
    have a1 : b.1.1 = i.r := by rw [p1]
    have a2 : b.1.2 = k.d := by rw [p1]
    have b1 : c.1.1 = i'.r := by rw [p1']
    have b2 : c.1.2 = k'.d := by rw [p1']
    refine Prod.ext (Prod.ext ?_ ?_) (Prod.ext ?_ (by rw [eb, ec]))
    · omega
    · omega
    · omega

theorem worstW_ok {l : List Wd} (h : ∀ w ∈ l, w.r < w.d) : (worstW l).2.2 = decide (0 < l.length) := by
  match l with
  | [] => rfl
  | w :: l =>
    match e : (worstW (w :: l)).2.2 with
    | true => simp
    | false =>
      exact absurd (h w (List.mem_cons_self ..)) (((worstW_worst (w :: l)).none e).2 w w ⟨List.mem_cons_self .., List.mem_cons_self ..⟩)

/-- OverNone's first half. -/
theorem spansW_worst {l : List Wd} {E : Nat} (hr : ∀ w ∈ l, 0 ≤ w.r) (hd : ∀ w ∈ l, w.d ≤ E) : spansW l E = [] ↔ (worstW l).2.2 = false ∨ (worstW l).2.1 ≤ 0 := by
  have hW := worstW_worst l
  rw [spansW_nil hr hd]
  constructor
  · intro h
    match e : (worstW l).2.2 with
    | false => exact Or.inl rfl
    | true =>
      obtain ⟨i, k, hs, hlt, _, p⟩ := hW.some e
      exact Or.inr (by rw [p]; exact h i hs.1 k hs.2 hlt)
  · rintro h i hi k hk hlt
    rcases h with h | h
    · exact absurd hlt ((hW.none h).2 i k ⟨hi, hk⟩)
    · have := hW.best i k ⟨hi, hk⟩ hlt
      omega
end Go.Proofs.YtacffjkhbajgkaaDoor
