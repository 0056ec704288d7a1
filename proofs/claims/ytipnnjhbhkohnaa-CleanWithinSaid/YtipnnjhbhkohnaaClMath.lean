/- The life of a job: plain mathematics. -/
import Derived.Test.YtipnnjhbhkohnaaNumMath
namespace Go.Proofs.Ytipnnjhbhkohnaa
set_option linter.unusedVariables false

/-- A life: its budget, its need, its cleaning; how long it ran, how long it was cleaned; its stage. -/
structure Lf where
  b : Nat
  a : Nat
  c : Nat
  ran : Nat
  cl : Nat
  st : Nat
instance : Inhabited Lf := ⟨⟨1, 1, 0, 0, 0, 0⟩⟩
namespace Lf
/-- What a life keeps. -/
structure Ok (x : Lf) : Prop where
  b1 : 1 ≤ x.b
  b2 : x.b ≤ 1000
  a1 : 1 ≤ x.a
  a2 : x.a ≤ 1000
  c2 : x.c ≤ 100
  st : x.st ≤ 3
  run : x.st = 0 → x.ran < x.a ∧ x.ran < x.b ∧ x.cl = 0
  cln : x.st = 1 → x.cl < x.c ∧ x.ran ≤ x.a ∧ x.ran ≤ x.b ∧ x.ran ≠ x.a
  don : x.st = 2 → x.ran = x.a ∧ x.ran ≤ x.b ∧ x.cl = 0
  gon : x.st = 3 → x.cl = x.c ∧ x.ran ≤ x.b ∧ x.ran ≤ x.a ∧ x.ran ≠ x.a
def new (b a c : Nat) : Lf := ⟨b, a, c, 0, 0, 0⟩
/-- Aborted. -/
def abo (x : Lf) : Lf := if x.st = 0 then { x with st := if x.c = 0 then 3 else 1 } else x
def aboE (x : Lf) : Int := if x.st = 0 then 0 else 4
/-- One tick more. -/
def run (x : Lf) : Lf :=
  if x.st = 0 then
    (if x.ran + 1 = x.a then { x with ran := x.ran + 1, st := 2 } else if x.ran + 1 = x.b then { x with ran := x.ran + 1, st := if x.c = 0 then 3 else 1 } else { x with ran := x.ran + 1 })
  else if x.st = 1 then (if x.cl + 1 = x.c then { x with cl := x.cl + 1, st := 3 } else { x with cl := x.cl + 1 })
  else x
def runB (x : Lf) : Bool := decide (x.st ≤ 1)
def left (x : Lf) : Nat := if x.st = 0 then (if x.a ≤ x.b then x.a - x.ran else x.b - x.ran + x.c) else if x.st = 1 then x.c - x.cl else 0
def charge (x : Lf) : Nat := if x.st = 0 then x.b - x.ran + x.c else if x.st = 1 then x.c - x.cl else 0
variable {x : Lf}
theorem new_ok {b a c : Nat} (h1 : 1 ≤ b) (h2 : b ≤ 1000) (h3 : 1 ≤ a) (h4 : a ≤ 1000) (h5 : c ≤ 100) : (new b a c).Ok := by
  unfold new
  constructor <;> simp <;> omega
theorem ok_abo (h : x.Ok) : x.abo.Ok := by
  obtain ⟨b, a, c, r, cl, st⟩ := x
  obtain ⟨h1, h2, h3, h4, h5, h6, h7, h8, h9, h10⟩ := h
  simp only at *
  unfold Lf.abo
  by_cases h0 : st = 0
  · rw [if_pos h0]
    by_cases hc : c = 0
    · rw [if_pos hc]; constructor <;> simp only <;> omega
    · rw [if_neg hc]; constructor <;> simp only <;> omega
  · rw [if_neg h0]; exact ⟨h1, h2, h3, h4, h5, h6, h7, h8, h9, h10⟩
theorem ok_run (h : x.Ok) : x.run.Ok := by
  obtain ⟨b, a, c, r, cl, st⟩ := x
  obtain ⟨h1, h2, h3, h4, h5, h6, h7, h8, h9, h10⟩ := h
  simp only at *
  unfold Lf.run
  simp only
  repeat' split
  all_goals (constructor <;> simp only <;> omega)
theorem same_abo (x : Lf) : x.abo.b = x.b ∧ x.abo.a = x.a ∧ x.abo.c = x.c ∧ x.abo.ran = x.ran ∧ x.abo.cl = x.cl := by
  unfold Lf.abo; split <;> simp
theorem same_run (x : Lf) : x.run.b = x.b ∧ x.run.a = x.a ∧ x.run.c = x.c := by
  unfold Lf.run; repeat' split
  all_goals simp
/-- As many ticks are left as it takes: each one takes one off. -/
theorem left_run (h : x.Ok) (hs : x.st ≤ 1) : x.left = x.run.left + 1 := by
  obtain ⟨b, a, c, r, cl, st⟩ := x
  obtain ⟨h1, h2, h3, h4, h5, h6, h7, h8, h9, h10⟩ := h
  simp only at *
  unfold Lf.left Lf.run
  simp only
  rcases (by omega : st = 0 ∨ st = 1) with rfl | rfl
  · obtain ⟨r1, r2, r3⟩ := h7 rfl
    simp only [if_true]
    by_cases e1 : r + 1 = a
    · simp only [e1, if_true]
      by_cases hab : a ≤ b
      · simp [hab]; omega
      · exfalso; omega
    · simp only [e1, if_false]
      by_cases e2 : r + 1 = b
      · simp only [e2, if_true]
        by_cases hab : a ≤ b
        · exfalso; omega
        · by_cases hc : c = 0
          · simp [hc, hab]; omega
          · simp [hc, hab]; omega
      · simp only [e2, if_false, if_true]
        by_cases hab : a ≤ b
        · simp [hab]; omega
        · simp [hab]; omega
  · obtain ⟨r1, _⟩ := h8 rfl
    by_cases e1 : cl + 1 = c
    · simp [e1]; omega
    · simp [e1]; omega
theorem left_end (hs : ¬ x.st ≤ 1) : x.left = 0 := by
  unfold Lf.left
  rw [if_neg (by omega), if_neg (by omega)]
theorem left_some (h : x.Ok) (hs : x.st ≤ 1) : 0 < x.left := by rw [left_run h hs]; omega
theorem left_le (h : x.Ok) : x.left ≤ 1100 := by
  obtain ⟨b, a, c, r, cl, st⟩ := x
  obtain ⟨h1, h2, h3, h4, h5, h6, h7, h8, h9, h10⟩ := h
  simp only at *
  unfold Lf.left
  simp only
  repeat' split
  all_goals omega
theorem left_charge (h : x.Ok) : x.left ≤ x.charge := by
  obtain ⟨b, a, c, r, cl, st⟩ := x
  obtain ⟨h1, h2, h3, h4, h5, h6, h7, h8, h9, h10⟩ := h
  simp only at *
  unfold Lf.left Lf.charge
  simp only
  repeat' split
  all_goals omega
/-- What is used and what may be is no more than at first. -/
theorem charge_run (h : x.Ok) (hs : x.st ≤ 1) : x.run.ran + x.run.cl = x.ran + x.cl + 1 ∧ x.run.ran + x.run.cl + x.run.charge ≤ x.ran + x.cl + x.charge := by
  obtain ⟨b, a, c, r, cl, st⟩ := x
  obtain ⟨h1, h2, h3, h4, h5, h6, h7, h8, h9, h10⟩ := h
  simp only at *
  unfold Lf.charge Lf.run
  simp only
  rcases (by omega : st = 0 ∨ st = 1) with rfl | rfl
  · obtain ⟨r1, r2, r3⟩ := h7 rfl
    simp only [if_true]
    by_cases e1 : r + 1 = a
    · simp [e1]; omega
    · simp only [e1, if_false]
      by_cases e2 : r + 1 = b
      · simp only [e2, if_true]
        by_cases hc : c = 0
        · simp [hc]; omega
        · simp [hc]; omega
      · simp only [e2, if_false, if_true]; omega
  · obtain ⟨r1, _⟩ := h8 rfl
    by_cases e1 : cl + 1 = c
    · simp [e1]; omega
    · simp [e1]; omega
theorem charge_abo (h : x.Ok) : x.abo.ran + x.abo.cl = x.ran + x.cl ∧ x.abo.charge ≤ x.charge := by
  obtain ⟨b, a, c, r, cl, st⟩ := x
  obtain ⟨h1, h2, h3, h4, h5, h6, h7, h8, h9, h10⟩ := h
  simp only at *
  unfold Lf.charge Lf.abo
  simp only
  by_cases h0 : st = 0
  · subst h0
    by_cases hc : c = 0
    · simp [hc]
    · obtain ⟨_, _, r3⟩ := h7 rfl
      simp [hc]; omega
  · simp [h0]
end Lf
end Go.Proofs.Ytipnnjhbhkohnaa
