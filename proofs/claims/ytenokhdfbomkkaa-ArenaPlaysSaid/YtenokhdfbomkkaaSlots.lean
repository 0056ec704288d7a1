/- Slots of three cells, in a row; the state of an arena. -/
import Derived.Test.YtenokhdfbomkkaaOwn
namespace Go.Proofs.Ytenokhdfbomkkaa
open Go.RowKit
set_option linter.unusedVariables false

/-- The cells of slots: value, generation, held. -/
def cells3 {α : Type} (mk : α → Value) (ss : List (α × Int × Bool)) : List Value := ss.flatMap fun s => [mk s.1, .int .i64 s.2.1, .bool s.2.2]
section
variable {α : Type} {mk : α → Value}
theorem cells3_nil : cells3 mk [] = [] := rfl
theorem cells3_cons (s : α × Int × Bool) (ss : List (α × Int × Bool)) : cells3 mk (s :: ss) = mk s.1 :: .int .i64 s.2.1 :: .bool s.2.2 :: cells3 mk ss := by simp [cells3]
theorem cells3_append (s t : List (α × Int × Bool)) : cells3 mk (s ++ t) = cells3 mk s ++ cells3 mk t := by simp [cells3]
theorem cells3_length (ss : List (α × Int × Bool)) : (cells3 mk ss).length = ss.length * 3 := by
  induction ss with
  | nil => rfl
  | cons s ss ih => rw [cells3_cons]; simp [ih]; omega
theorem cells3_get (ss : List (α × Int × Bool)) : ∀ (i : Nat) (s : α × Int × Bool), ss[i]? = some s →
    (cells3 mk ss)[i * 3]? = some (mk s.1) ∧ (cells3 mk ss)[i * 3 + 1]? = some (.int .i64 s.2.1) ∧ (cells3 mk ss)[i * 3 + 2]? = some (.bool s.2.2) := by
  induction ss with
  | nil => intro i s h; simp at h
  | cons t ss ih =>
    intro i s h
    rw [cells3_cons]
    match i, h with
    | 0, h => simp at h; subst h; simp
    | i + 1, h =>
      have := ih i s (by simpa using h)
      rw [show (i + 1) * 3 = i * 3 + 1 + 1 + 1 by omega]
      simpa using this
theorem cells3_set (ss : List (α × Int × Bool)) : ∀ (i : Nat) (s : α × Int × Bool), ss[i]? = some s → ∀ (x : α) (g : Int) (b : Bool),
    (cells3 mk ss).set (i * 3) (mk x) = cells3 mk (ss.set i (x, s.2)) ∧ (cells3 mk ss).set (i * 3 + 1) (.int .i64 g) = cells3 mk (ss.set i (s.1, g, s.2.2)) ∧ (cells3 mk ss).set (i * 3 + 2) (.bool b) = cells3 mk (ss.set i (s.1, s.2.1, b)) := by
  induction ss with
  | nil => intro i s h; simp at h
  | cons t ss ih =>
    intro i s h x g b
    match i, h with
    | 0, h => simp at h; subst h; simp [cells3_cons]
    | i + 1, h =>
      have := ih i s (by simpa using h) x g b
      rw [show (i + 1) * 3 = i * 3 + 1 + 1 + 1 by omega]
      simpa [cells3_cons] using this
theorem cells3_put (ss : List (α × Int × Bool)) (i : Nat) (s : α × Int × Bool) (h : ss[i]? = some s) (x : α) (g : Int) (b : Bool) :
    (((cells3 mk ss).set (i * 3) (mk x)).set (i * 3 + 2) (.bool b)).set (i * 3 + 1) (.int .i64 g) = cells3 mk (ss.set i (x, g, b)) := by
  have hi : i < ss.length := (List.getElem?_eq_some_iff.1 h).1
  rw [(cells3_set ss i s h x g b).1, (cells3_set (ss.set i (x, s.2)) i (x, s.2) (by simp [hi]) x g b).2.2, List.set_set, (cells3_set (ss.set i (x, s.2.1, b)) i (x, s.2.1, b) (by simp [hi]) x g b).2.1, List.set_set]
theorem cells3_free (ss : List (α × Int × Bool)) (i : Nat) (s : α × Int × Bool) (h : ss[i]? = some s) (x : α) (g : Int) (b : Bool) :
    (((cells3 mk ss).set (i * 3) (mk x)).set (i * 3 + 1) (.int .i64 g)).set (i * 3 + 2) (.bool b) = cells3 mk (ss.set i (x, g, b)) := by
  have hi : i < ss.length := (List.getElem?_eq_some_iff.1 h).1
  rw [(cells3_set ss i s h x g b).1, (cells3_set (ss.set i (x, s.2)) i (x, s.2) (by simp [hi]) x g b).2.1, List.set_set, (cells3_set (ss.set i (x, g, s.2.2)) i (x, g, s.2.2) (by simp [hi]) x g b).2.2, List.set_set]
/-- The error of a handle. -/
def findE (room : Nat) (ss : List (α × Int × Bool)) (slot gen : Int) : Int :=
  if slot < 0 ∨ (room : Int) ≤ slot then 1 else if (ss.length : Int) ≤ slot then 7 else
  match ss[slot.toNat]? with
  | some s => if s.2.2 = true ∧ s.2.1 = gen then 0 else 7
  | none => 7
end
/-- The handles of the slots that hold a value, from slot k on. -/
def allFrom {α : Type} (k : Nat) : List (α × Int × Bool) → List (Nat × Int)
  | [] => []
  | s :: ss => (if s.2.2 = true then [(k, s.2.1)] else []) ++ allFrom (k + 1) ss
theorem allFrom_append {α : Type} (ss t : List (α × Int × Bool)) : ∀ k, allFrom k (ss ++ t) = allFrom k ss ++ allFrom (k + ss.length) t := by
  induction ss with
  | nil => intro k; simp [allFrom]
  | cons s ss ih => intro k; simp only [List.cons_append, allFrom, ih, List.append_assoc, List.length_cons]; rw [show k + 1 + ss.length = k + (ss.length + 1) by omega]
theorem allFrom_take {α : Type} (ss : List (α × Int × Bool)) (i : Nat) (s : α × Int × Bool) (h : ss[i]? = some s) : allFrom 0 (ss.take (i + 1)) = allFrom 0 (ss.take i) ++ (if s.2.2 = true then [(i, s.2.1)] else []) := by
  have hi : i < ss.length := (List.getElem?_eq_some_iff.1 h).1
  rw [List.take_add_one, h, allFrom_append]
  simp only [Option.toList_some, allFrom, List.append_nil, List.length_take, Nat.min_eq_left (Nat.le_of_lt hi), Nat.zero_add]
theorem allFrom_le {α : Type} (ss : List (α × Int × Bool)) : ∀ k, (allFrom k ss).length ≤ ss.length := by
  induction ss with
  | nil => intro k; simp [allFrom]
  | cons s ss ih => intro k; have := ih (k + 1); simp only [allFrom, List.length_append, List.length_cons]; split <;> simp <;> omega
/-- The cells of handles. -/
def hCells (l : List (Nat × Int)) : List Value := l.flatMap fun p => [.int .i64 (p.1 : Int), .int .i64 p.2]
theorem hCells_append (s t : List (Nat × Int)) : hCells (s ++ t) = hCells s ++ hCells t := by simp [hCells]
theorem hCells_one (p : Nat × Int) : hCells [p] = [.int .i64 (p.1 : Int), .int .i64 p.2] := rfl
theorem hCells_len (l : List (Nat × Int)) : (hCells l).length = l.length * 2 := by
  induction l with
  | nil => rfl
  | cons s ss ih => simp only [hCells, List.flatMap_cons] at *; simp [ih]; omega
theorem hCells_get (l : List (Nat × Int)) : ∀ (i : Nat) (p : Nat × Int), l[i]? = some p → (hCells l)[i * 2]? = some (.int .i64 (p.1 : Int)) ∧ (hCells l)[i * 2 + 1]? = some (.int .i64 p.2) := by
  induction l with
  | nil => intro i s h; simp at h
  | cons t ss ih =>
    intro i s h
    match i, h with
    | 0, h => simp at h; subst h; simp [hCells]
    | i + 1, h =>
      have := ih i s (by simpa using h)
      rw [show (i + 1) * 2 = i * 2 + 1 + 1 by omega]
      simpa [hCells] using this
/-- The places in a row of ints. -/
def natCells (fr : List Nat) : List Value := fr.map fun (p : Nat) => .int .i64 (p : Int)
theorem natCells_append (s t : List Nat) : natCells (s ++ t) = natCells s ++ natCells t := by simp [natCells]
theorem natCells_get (fr : List Nat) (i p : Nat) (h : fr[i]? = some p) : (natCells fr)[i]? = some (.int .i64 (p : Int)) := by simp [natCells, h]
theorem natCells_len (fr : List Nat) : (natCells fr).length = fr.length := by simp [natCells]
theorem natCells_take (fr : List Nat) (m : Nat) : (natCells fr).take m = natCells (fr.take m) := by simp [natCells, List.map_take]
theorem Try.infoInt : (Try.prog.info? 3).map (fun i => (i.zero, i.size, i.bytes)) = some (some (.int .i64 0), 1, 8) := by kernel_rfl
theorem Try.infoHandle : (Try.prog.info? 28).map (fun i => (i.zero, i.size, i.bytes)) = some (some (.agg #[.int .i64 0, .int .i64 0]), 2, 16) := by kernel_rfl
theorem news_one (w : World) (x : Value) (e : TypeId) : ∀ j u, ([x] : List Value)[j]? = some u → (w.alloc (.cells #[x] e)).cell? ((⟨w.heap.size, 0, none⟩ : Addr).add j) = some u := by
  intro j u hj
  match j, hj with
  | 0, hj => simp at hj; subst hj; simp [Addr.add]
theorem news_two (w : World) (x y : Value) (e : TypeId) : ∀ j u, ([x, y] : List Value)[j]? = some u → (w.alloc (.cells #[x, y] e)).cell? ((⟨w.heap.size, 0, none⟩ : Addr).add j) = some u := by
  intro j u hj
  match j, hj with
  | 0, hj => simp at hj; subst hj; simp [Addr.add]
  | 1, hj => simp at hj; subst hj; simp [Addr.add]
theorem news_three (w : World) (x y z : Value) (e : TypeId) : ∀ j u, ([x, y, z] : List Value)[j]? = some u → (w.alloc (.cells #[x, y, z] e)).cell? ((⟨w.heap.size, 0, none⟩ : Addr).add j) = some u := by
  intro j u hj
  match j, hj with
  | 0, hj => simp at hj; subst hj; simp [Addr.add]
  | 1, hj => simp at hj; subst hj; simp [Addr.add]
  | 2, hj => simp at hj; subst hj; simp [Addr.add]
theorem one_int (x : Int) : ∀ u ∈ [Value.int .i64 x], u.oneCell' = true := by intro u hu; simp at hu; subst hu; rfl
theorem one_str (y : ByteArray) : ∀ u ∈ [Value.string y], u.oneCell' = true := by intro u hu; simp at hu; subst hu; rfl
theorem one_bool (y : Bool) : ∀ u ∈ [Value.bool y], u.oneCell' = true := by intro u hu; simp at hu; subst hu; rfl
theorem two_ints (x y : Int) : ∀ u ∈ [Value.int .i64 x, Value.int .i64 y], u.oneCell' = true := by intro u hu; simp at hu; rcases hu with rfl | rfl <;> rfl
end Go.Proofs.Ytenokhdfbomkkaa
