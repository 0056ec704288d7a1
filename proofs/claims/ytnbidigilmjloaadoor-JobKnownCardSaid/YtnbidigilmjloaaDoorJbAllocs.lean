/- Five variables made in a region that draws its order: in whichever order they are made, each has a block of its own. -/
import Derived.Test.YtnbidigilmjloaaDoorRegT
import Derived.Test.YtnbidigilmjloaaDoorOwn
import Derived.OrdersHeld
namespace Go.Proofs.YtnbidigilmjloaaDoor
open Go.RowKit
set_option linter.unusedVariables false
set_option linter.unusedSimpArgs false

def putF (f : Nat → Bool) (j : Nat) : Nat → Bool := fun k => if k = j then true else f k
def putV (x : Nat → Value) (j : Nat) (v : Value) : Nat → Value := fun k => if k = j then v else x k
/-- Those of f are made: each a block of its own, from base on. -/
structure AInv (e : TypeId) (z : Array Value) (w0 : World) (f : Nat → Bool) (x : Nat → Value) (W : World) : Prop where
  below : Below w0.heap.size w0 W
  no : ∀ j, f j = false → x j = undef
  yes : ∀ j, f j = true → ∃ p, x j = .pointer (some ⟨p, 0, none⟩) ∧ w0.heap.size ≤ p ∧ W.heap[p]? = some (.cells z e (0, 0))
  ne : ∀ i j, i ≠ j → f i = true → f j = true → x i ≠ x j
theorem AInv.start (e : TypeId) (z : Array Value) (w0 : World) : AInv e z w0 (fun _ => false) (fun _ => undef) w0 := ⟨Below.refl _ _, fun _ _ => rfl, fun _ h => (by cases h), fun _ _ _ h => (by cases h)⟩
theorem AInv.next {e : TypeId} {z : Array Value} {w0 : World} {f : Nat → Bool} {x : Nat → Value} {W : World} (h : AInv e z w0 f x W) {j : Nat} (hj : f j = false) :
    AInv e z w0 (putF f j) (putV x j (.pointer (some ⟨W.heap.size, 0, none⟩))) (W.alloc (.cells z e)) := by
  have old : ∀ k, f k = true → ∃ p, x k = .pointer (some ⟨p, 0, none⟩) ∧ w0.heap.size ≤ p ∧ p < W.heap.size ∧ W.heap[p]? = some (.cells z e (0, 0)) := fun k hk => by
    obtain ⟨p, h1, h2, h3⟩ := h.yes k hk
    exact ⟨p, h1, h2, (Array.getElem?_eq_some_iff.1 h3).1, h3⟩
  have nw : ∀ k, f k = true → x k ≠ .pointer (some ⟨W.heap.size, 0, none⟩) := fun k hk e => by
    obtain ⟨p, h1, _, h3, _⟩ := old k hk
    rw [h1] at e
    injection e with e
    injection e with e
    injection e with e
    omega
  refine ⟨h.below.alloc h.below.size _, fun k hk => ?_, fun k hk => ?_, fun a b hab ha hb => ?_⟩
  · unfold putF at hk; unfold putV
    by_cases c : k = j
    · rw [if_pos c] at hk; cases hk
    · rw [if_neg c] at hk ⊢; exact h.no k hk
  · unfold putF at hk; unfold putV
    by_cases c : k = j
    · rw [if_pos c]; exact ⟨W.heap.size, rfl, h.below.size, heap_alloc_new W _⟩
    · rw [if_neg c] at hk ⊢
      obtain ⟨p, h1, h2, h3, h4⟩ := old k hk
      exact ⟨p, h1, h2, by rw [Below.heap_alloc _ _ _ h3]; exact h4⟩
  · unfold putF at ha hb; unfold putV
    by_cases c1 : a = j
    · have c2 : b ≠ j := fun e => hab (c1.trans e.symm)
      rw [if_pos c1, if_neg c2]; rw [if_neg c2] at hb
      exact fun e => nw b hb e.symm
    · rw [if_neg c1] at ha ⊢
      by_cases c2 : b = j
      · rw [if_pos c2]; exact nw a ha
      · rw [if_neg c2] at hb ⊢; exact h.ne a b hab ha hb
def one (b : Bool) : Nat := if b = true then 0 else 1
def cnt5 (f : Nat → Bool) : Nat := one (f 0) + one (f 1) + one (f 2) + one (f 3) + one (f 4)
theorem cnt5_next {f : Nat → Bool} {j m : Nat} (hj : j < 5) (h : f j = false) (hm : cnt5 f = m + 1) : cnt5 (putF f j) = m := by
  unfold cnt5 at *
  rcases (by omega : j = 0 ∨ j = 1 ∨ j = 2 ∨ j = 3 ∨ j = 4) with rfl | rfl | rfl | rfl | rfl <;> simp [putF, one, h] at hm ⊢ <;> omega
theorem cnt5_zero {f : Nat → Bool} (h : cnt5 f = 0) : ∀ j, j < 5 → f j = true := by
  intro j hj
  unfold cnt5 one at h
  rcases (by omega : j = 0 ∨ j = 1 ∨ j = 2 ∨ j = 3 ∨ j = 4) with rfl | rfl | rfl | rfl | rfl
  all_goals
    cases hf : f _
    · rw [hf] at h; simp at h
    · rfl
theorem cnt5_some {f : Nat → Bool} {m : Nat} (h : cnt5 f = m + 1) : ∃ j, j < 5 ∧ f j = false := by
  cases h0 : f 0
  · exact ⟨0, by decide, h0⟩
  cases h1 : f 1
  · exact ⟨1, by decide, h1⟩
  cases h2 : f 2
  · exact ⟨2, by decide, h2⟩
  cases h3 : f 3
  · exact ⟨3, by decide, h3⟩
  cases h4 : f 4
  · exact ⟨4, by decide, h4⟩
  unfold cnt5 at h
  rw [h0, h1, h2, h3, h4] at h
  simp [one] at h
theorem allocs5 {P : Program} {ops : Array Oper} {Q : Exit → Act → World → Prop} {S : World → Prop} (D : (Nat → Bool) → Array Bool) (V : (Nat → Value) → Act) (q k : Nat) (e : TypeId) (z : Array Value) (w0 : World)
    (hset : ∀ f j, j < 5 → (D f).setIfInBounds (q + j) true = D (putF f j))
    (hready : ∀ f, (∃ j, j < 5 ∧ f j = false) → ∃ rs, Region.ready .any ops (D f) = rs ∧ rs ≠ [] ∧ ∀ i ∈ rs, ∃ j, j < 5 ∧ f j = false ∧ i = q + j)
    (hstep : ∀ j, j < 5 → ∀ (K : Act → World → Prop) (x : Nat → Value) (W : World), K (V (putV x j (.pointer (some ⟨W.heap.size, 0, none⟩)))) (W.alloc (.cells z e)) → wpOp P ops Q (q + j) K (V x) W)
    (hS : ∀ W, Below w0.heap.size w0 W → S W)
    (hdone : ∀ f x W, (∀ j, j < 5 → f j = true) → AInv e z w0 f x W → wpAnyH P .any ops Q S k (D f) (V x) W) :
    ∀ m f x W, cnt5 f = m → AInv e z w0 f x W → wpAnyH P .any ops Q S (k + m) (D f) (V x) W := by
  intro m
  induction m with
  | zero => intro f x W hc hi; exact hdone f x W (cnt5_zero hc) hi
  | succ m ih =>
    intro f x W hc hi
    obtain ⟨rs, h1, h2, h3⟩ := hready f (cnt5_some hc)
    refine ⟨fun h0 => absurd (h1.symm.trans h0) h2, ?_⟩
    rw [h1]
    intro i hir
    obtain ⟨j, hj, hfj, rfl⟩ := h3 i hir
    refine hstep j hj _ x W ⟨hS _ (hi.next hfj).below, ?_⟩
    rw [hset f j hj]
    exact ih _ _ _ (cnt5_next hj hfj hc) (hi.next hfj)
end Go.Proofs.YtnbidigilmjloaaDoor
