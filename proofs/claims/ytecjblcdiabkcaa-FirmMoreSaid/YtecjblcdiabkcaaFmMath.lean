/- A history of booleans, the first one first: how many of the last k are met, where it is broken, the worst, what may be missed. -/
import Derived.Test.YtecjblcdiabkcaaRgMath
namespace Go.Proofs.Ytecjblcdiabkcaa
set_option linter.unusedVariables false

/-- How many are met of the last k of the first n. -/
def mc (k n : Nat) (l : List Bool) : Nat := yes ((l.take n).reverse.take k)
theorem mc_le (k n : Nat) (l : List Bool) : mc k n l ≤ k := by
  unfold mc
  have := yes_le ((l.take n).reverse.take k)
  rw [List.length_take] at this
  omega
theorem mc_app {n : Nat} {l : List Bool} (x : List Bool) (k : Nat) (h : n ≤ l.length) : mc k n (l ++ x) = mc k n l := by
  unfold mc
  rw [List.take_append_of_le_length h]
theorem mc_all (k : Nat) (l : List Bool) : mc k l.length l = yes (l.reverse.take k) := by
  unfold mc; rw [List.take_length]
theorem yes_rev (l : List Bool) : yes l.reverse = yes l := by unfold yes; exact List.count_reverse
/-- As a span from s on. -/
theorem mc_span {k n : Nat} {l : List Bool} (hn : n ≤ l.length) : mc k n l = yes ((l.take n).drop (n - k)) := by
  unfold mc
  rw [List.take_reverse, yes_rev, List.length_take, Nat.min_eq_left hn]
theorem yes_app (a b : List Bool) : yes (a ++ b) = yes a + yes b := by unfold yes; exact List.count_append
theorem take_nextB {l : List Bool} {i : Nat} {x : Bool} (h : l[i]? = some x) : l.take (i + 1) = l.take i ++ [x] := by
  rw [List.take_add_one, h]; rfl
/-- One more of a span. -/
theorem span_next {l : List Bool} {s i : Nat} {x : Bool} (hs : s ≤ i) (h : l[i]? = some x) : yes ((l.take (i + 1)).drop s) = yes ((l.take i).drop s) + x.toNat := by
  have hi := (List.getElem?_eq_some_iff.1 h).1
  rw [take_nextB h, List.drop_append_of_le_length (by rw [List.length_take]; omega), yes_app]
  cases x <;> rfl
theorem span_none {l : List Bool} {s : Nat} : yes ((l.take s).drop s) = 0 := by
  rw [List.drop_of_length_le (by rw [List.length_take]; omega)]; rfl
/-- What Add answers where the history is l behind it. -/
def addB (m k : Nat) (l : List Bool) : Bool := decide (l.length < k ∨ m ≤ mc k l.length l)
/-- The least met of any k in a row, among the first n; k where there is none. -/
def wst (k : Nat) (l : List Bool) : Nat → Nat
  | 0 => k
  | n + 1 => if k ≤ n + 1 then min (wst k l n) (mc k (n + 1) l) else wst k l n
/-- Where it is broken, among the first n. -/
def brk (m k : Nat) (l : List Bool) : Nat → List Nat
  | 0 => []
  | n + 1 => brk m k l n ++ if k ≤ n + 1 ∧ mc k (n + 1) l < m then [n] else []
/-- Whether n more may be missed. -/
def mayB (m k : Nat) (l : List Bool) : Nat → Bool
  | 0 => true
  | n + 1 => mayB m k l n && addB m k (l ++ List.replicate (n + 1) false)
theorem wst_le (k : Nat) (l : List Bool) : ∀ n, wst k l n ≤ k
  | 0 => Nat.le_refl _
  | n + 1 => by
    have := wst_le k l n
    unfold wst
    split <;> omega
theorem wst_app {l : List Bool} (x : List Bool) (k : Nat) : ∀ {n}, n ≤ l.length → wst k (l ++ x) n = wst k l n
  | 0, _ => rfl
  | n + 1, h => by
    unfold wst
    rw [wst_app x k (n := n) (by omega), mc_app x k h]
theorem brk_app {l : List Bool} (x : List Bool) (m k : Nat) : ∀ {n}, n ≤ l.length → brk m k (l ++ x) n = brk m k l n
  | 0, _ => rfl
  | n + 1, h => by
    unfold brk
    rw [brk_app x m k (n := n) (by omega), mc_app x k h]
theorem wst_small {k : Nat} {l : List Bool} : ∀ {n}, n < k → wst k l n = k
  | 0, _ => rfl
  | n + 1, h => by
    unfold wst
    rw [if_neg (by omega), wst_small (by omega)]
theorem brk_small {m k : Nat} {l : List Bool} : ∀ {n}, n < k → brk m k l n = []
  | 0, _ => rfl
  | n + 1, h => by
    unfold brk
    rw [if_neg (by omega), brk_small (by omega), List.append_nil]
theorem brk_len (m k : Nat) (l : List Bool) : ∀ n, (brk m k l n).length ≤ n
  | 0 => Nat.le_refl _
  | n + 1 => by
    have := brk_len m k l n
    unfold brk
    rw [List.length_append]
    split
    · simp; omega
    · simp; omega
theorem brk_mem {m k : Nat} {l : List Bool} : ∀ {n x}, x ∈ brk m k l n ↔ x < n ∧ k ≤ x + 1 ∧ mc k (x + 1) l < m
  | 0, x => by simp [brk]
  | n + 1, x => by
    unfold brk
    rw [List.mem_append, brk_mem (n := n)]
    split
    · rename_i h
      rw [List.mem_singleton]
      constructor
      · rintro (⟨h1, h2, h3⟩ | rfl)
        · exact ⟨by omega, h2, h3⟩
        · exact ⟨by omega, h.1, h.2⟩
      · rintro ⟨h1, h2, h3⟩
        rcases Nat.lt_or_ge x n with q | q
        · exact .inl ⟨q, h2, h3⟩
        · exact .inr (by omega)
    · rename_i h
      constructor
      · rintro (⟨h1, h2, h3⟩ | h1)
        · exact ⟨by omega, h2, h3⟩
        · cases h1
      · rintro ⟨h1, h2, h3⟩
        rcases Nat.lt_or_ge x n with q | q
        · exact .inl ⟨q, h2, h3⟩
        · obtain rfl : x = n := by omega
          exact absurd ⟨h2, h3⟩ h
/-- The worst is below m just where it was broken. -/
theorem wst_lt {m k : Nat} {l : List Bool} (hm : m ≤ k) : ∀ n, wst k l n < m ↔ 0 < (brk m k l n).length
  | 0 => by simp [wst, brk]; omega
  | n + 1 => by
    have ih := wst_lt (l := l) hm n
    unfold wst brk
    rw [List.length_append]
    by_cases h1 : k ≤ n + 1
    · rw [if_pos h1]
      by_cases h2 : mc k (n + 1) l < m
      · rw [if_pos ⟨h1, h2⟩]; simp; omega
      · rw [if_neg (fun h => h2 h.2)]; simp; omega
    · rw [if_neg h1, if_neg (fun h => h1 h.1)]; simpa using ih
/-- One more: the worst. -/
theorem wst_add (k : Nat) (l : List Bool) (b : Bool) : wst k (l ++ [b]) (l ++ [b]).length = if k ≤ l.length + 1 then min (wst k l l.length) (mc k (l ++ [b]).length (l ++ [b])) else wst k l l.length := by
  have e : (l ++ [b]).length = l.length + 1 := by simp
  rw [e, wst, wst_app [b] k (Nat.le_refl _)]
/-- One more: where it is broken. -/
theorem brk_add (m k : Nat) (l : List Bool) (b : Bool) : brk m k (l ++ [b]) (l ++ [b]).length = brk m k l l.length ++ if addB m k (l ++ [b]) = false then [l.length] else [] := by
  have e : (l ++ [b]).length = l.length + 1 := by simp
  rw [addB, e, brk, brk_app [b] m k (Nat.le_refl _)]
  congr 1
  by_cases h : k ≤ l.length + 1 ∧ mc k (l.length + 1) (l ++ [b]) < m
  · rw [if_pos h, if_pos (decide_eq_false (by omega))]
  · rw [if_neg h, if_neg]
    intro q
    have := of_decide_eq_false q
    omega
/-- What a history of its last size elements tells. -/
theorem radd_rev (k : Nat) (l : List Bool) (b : Bool) : radd k (l.reverse.take k) b = (l ++ [b]).reverse.take k := by
  unfold radd
  rw [List.reverse_append, List.reverse_singleton, List.singleton_append]
  cases k with
  | zero => simp
  | succ k => rw [List.take_succ_cons, List.take_succ_cons, List.take_take, Nat.min_eq_left (by omega)]
/-! More met ones. -/
/-- One row is met wherever the other is. -/
def Leq (a b : List Bool) : Prop := a.length = b.length ∧ ∀ i : Nat, a[i]? = some true → b[i]? = some true
theorem yes_leq : ∀ {a b : List Bool}, Leq a b → yes a ≤ yes b
  | [], b, h => Nat.zero_le _
  | x :: a, [], h => by have := h.1; simp at this
  | x :: a, y :: b, h => by
    have ih := yes_leq (a := a) (b := b) ⟨by simpa using h.1, fun i hi => by simpa using h.2 (i + 1) (by simpa using hi)⟩
    have h0 := h.2 0
    simp at h0
    unfold yes at *
    cases x <;> cases y <;> simp_all <;> omega
theorem Leq.take {a b : List Bool} (h : Leq a b) (n : Nat) : Leq (a.take n) (b.take n) := by
  refine ⟨by rw [List.length_take, List.length_take, h.1], fun i hi => ?_⟩
  rw [List.getElem?_take] at hi ⊢
  split at hi
  · rename_i q; rw [if_pos q]; exact h.2 i hi
  · cases hi
theorem Leq.drop {a b : List Bool} (h : Leq a b) (n : Nat) : Leq (a.drop n) (b.drop n) := by
  refine ⟨by rw [List.length_drop, List.length_drop, h.1], fun i hi => ?_⟩
  rw [List.getElem?_drop] at hi ⊢
  exact h.2 _ hi
theorem mc_leq {a b : List Bool} (h : Leq a b) (k n : Nat) (hn : n ≤ a.length) : mc k n a ≤ mc k n b := by
  rw [mc_span hn, mc_span (h.1 ▸ hn)]
  exact yes_leq ((h.take n).drop _)
theorem addB_leq {a b : List Bool} (h : Leq a b) {m k : Nat} (ha : addB m k a = true) : addB m k b = true := by
  have h1 := of_decide_eq_true ha
  have h2 := mc_leq h k a.length (Nat.le_refl _)
  rw [h.1] at h1 h2
  exact decide_eq_true (by omega)
theorem addB_less {a : List Bool} {m k : Nat} (ha : addB (m + 1) k a = true) : addB m k a = true := by
  have h1 := of_decide_eq_true ha
  exact decide_eq_true (by omega)
theorem brk_leq {a b : List Bool} (h : Leq a b) (m k : Nat) : ∀ {n}, n ≤ a.length → (brk m k b n).length ≤ (brk m k a n).length
  | 0, _ => Nat.le_refl _
  | n + 1, hn => by
    have ih := brk_leq h m k (n := n) (by omega)
    have h2 := mc_leq h k (n + 1) hn
    unfold brk
    rw [List.length_append, List.length_append]
    by_cases q : k ≤ n + 1 ∧ mc k (n + 1) b < m
    · rw [if_pos q, if_pos ⟨q.1, by omega⟩]; omega
    · rw [if_neg q]; simp; omega
theorem brk_less (a : List Bool) (m k : Nat) : ∀ n, (brk m k a n).length ≤ (brk (m + 1) k a n).length
  | 0 => Nat.le_refl _
  | n + 1 => by
    have ih := brk_less a m k n
    unfold brk
    rw [List.length_append, List.length_append]
    by_cases q : k ≤ n + 1 ∧ mc k (n + 1) a < m
    · rw [if_pos q, if_pos ⟨q.1, by omega⟩]; omega
    · rw [if_neg q]; simp; omega
theorem Leq.snoc {a b : List Bool} (h : Leq a b) {x y : Bool} (hxy : x = true → y = true) : Leq (a ++ [x]) (b ++ [y]) := by
  refine ⟨by simp [h.1], fun i hi => ?_⟩
  rcases Nat.lt_trichotomy i a.length with q | q | q
  · rw [List.getElem?_append_left q] at hi
    rw [List.getElem?_append_left (h.1 ▸ q)]
    exact h.2 i hi
  · subst q
    rw [List.getElem?_append_right (Nat.le_refl _), Nat.sub_self] at hi
    rw [h.1, List.getElem?_append_right (Nat.le_refl _), Nat.sub_self]
    simp at hi ⊢
    exact hxy hi
  · rw [List.getElem?_eq_none (by simp; omega)] at hi; cases hi
theorem Leq.nil : Leq [] [] := ⟨rfl, fun i h => h⟩
end Go.Proofs.Ytecjblcdiabkcaa
