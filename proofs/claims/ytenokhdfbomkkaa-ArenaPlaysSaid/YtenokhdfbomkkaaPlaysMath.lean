/- ArenaPlays: what holds of the slots and the freed ones. -/
import Derived.Test.YtenokhdfbomkkaaSlots
namespace Go.Proofs.Ytenokhdfbomkkaa
set_option linter.unusedVariables false

theorem pget_set {α : Type} (l : List α) (p k : Nat) (v : α) (hp : p < l.length) : (l.set p v)[k]? = if k = p then some v else l[k]? := by
  by_cases e : k = p
  · subst e; rw [if_pos rfl, List.getElem?_set_self hp]
  · rw [if_neg e, List.getElem?_set_ne (fun h => e h.symm)]
theorem allFrom_set {α : Type} (ss : List (α × Int × Bool)) : ∀ (k p : Nat) (s x : α × Int × Bool), ss[p]? = some s → (allFrom k (ss.set p x)).length + (if s.2.2 = true then 1 else 0) = (allFrom k ss).length + (if x.2.2 = true then 1 else 0) := by
  induction ss with
  | nil => intro k p s x h; simp at h
  | cons t ss ih =>
    intro k p s x h
    match p, h with
    | 0, h => simp at h; subst h; simp only [List.set_cons_zero, allFrom, List.length_append]; split <;> split <;> simp <;> omega
    | p + 1, h => have := ih (k + 1) p s x (by simpa using h); simp only [List.set_cons_succ, allFrom, List.length_append]; omega
structure PInv (room : Nat) (ss : List (ByteArray × Int × Bool)) (fr : List Nat) (i : Nat) : Prop where
  le : ss.length ≤ room
  cnt : (allFrom 0 ss).length + fr.length = ss.length
  frn : fr.Nodup
  frh : ∀ p ∈ fr, ∃ x g, ss[p]? = some (x, g, false)
  gen : ∀ (p : Nat) x, ss[p]? = some x → 0 ≤ x.2.1 ∧ x.2.1 ≤ (i : Int)
variable {room p i : Nat} {ss : List (ByteArray × Int × Bool)} {fr : List Nat} {x v z : ByteArray} {g : Int} {b : Bool}
theorem PInv.start (room : Nat) : PInv room [] [] 0 := ⟨by simp, rfl, by simp, by simp, by simp⟩
theorem PInv.later (h : PInv room ss fr i) : PInv room ss fr (i + 1) := ⟨h.le, h.cnt, h.frn, h.frh, fun p x hx => ⟨(h.gen p x hx).1, by have := (h.gen p x hx).2; omega⟩⟩
theorem PInv.pop (h : PInv room ss (fr ++ [p]) i) (hp : ss[p]? = some (x, g, b)) : PInv room (ss.set p (v, g + 1, true)) fr (i + 1) := by
  have hpl : p < ss.length := (List.getElem?_eq_some_iff.1 hp).1
  have hn := List.nodup_append.1 h.frn
  have hpf : p ∉ fr := fun hm => hn.2.2 p hm p (by simp) rfl
  obtain ⟨x', g', hx'⟩ := h.frh p (by simp)
  rw [hp] at hx'; cases hx'
  refine ⟨by simpa using h.le, ?_, hn.1, ?_, ?_⟩
  · have := allFrom_set ss 0 p _ (v, g + 1, true) hp; have := h.cnt; simp at *; omega
  · intro q hq
    obtain ⟨y, g', hy⟩ := h.frh q (by simp [hq])
    exact ⟨y, g', by rw [pget_set _ _ _ _ hpl, if_neg (fun (e : q = p) => hpf (e ▸ hq))]; exact hy⟩
  · intro q y hy
    rw [pget_set _ _ _ _ hpl] at hy
    by_cases e : q = p
    · rw [if_pos e] at hy; cases hy
      have := h.gen p _ hp
      simp only at this ⊢; omega
    · rw [if_neg e] at hy; have := h.gen q y hy; omega
theorem PInv.new (h : PInv room ss [] i) (hl : ss.length < room) : PInv room (ss ++ [(v, 1, true)]) [] (i + 1) := by
  refine ⟨by simp; omega, ?_, by simp, by simp, ?_⟩
  · have := h.cnt; rw [allFrom_append]; simp [allFrom] at *; omega
  · intro q y hy
    rcases Nat.lt_or_ge q ss.length with hq | hq
    · rw [List.getElem?_append_left hq] at hy; have := h.gen q y hy; omega
    · rw [List.getElem?_append_right hq] at hy
      have hz : q - ss.length = 0 := by
        rcases Nat.eq_zero_or_pos (q - ss.length) with h0 | h0
        · exact h0
        · rw [List.getElem?_eq_none (by simp; omega)] at hy; cases hy
      rw [hz] at hy; simp at hy; subst hy; simp only; omega
theorem PInv.setv (h : PInv room ss fr i) (hp : ss[p]? = some (x, g, true)) : PInv room (ss.set p (v, g, true)) fr (i + 1) := by
  have hpl : p < ss.length := (List.getElem?_eq_some_iff.1 hp).1
  refine ⟨by simpa using h.le, ?_, h.frn, ?_, ?_⟩
  · have := allFrom_set ss 0 p _ (v, g, true) hp; have := h.cnt; simp at *; omega
  · intro q hq
    obtain ⟨y, g', hy⟩ := h.frh q hq
    refine ⟨y, g', ?_⟩
    rw [pget_set _ _ _ _ hpl, if_neg (fun (e : q = p) => by rw [e, hp] at hy; cases hy)]; exact hy
  · intro q y hy
    rw [pget_set _ _ _ _ hpl] at hy
    by_cases e : q = p
    · rw [if_pos e] at hy; cases hy; have := h.gen p _ hp; simp only at this ⊢; omega
    · rw [if_neg e] at hy; have := h.gen q y hy; omega
theorem PInv.free (h : PInv room ss fr i) (hp : ss[p]? = some (x, g, true)) : PInv room (ss.set p (z, g, false)) (fr ++ [p]) (i + 1) := by
  have hpl : p < ss.length := (List.getElem?_eq_some_iff.1 hp).1
  have hpf : p ∉ fr := fun hm => by obtain ⟨y, g', hy⟩ := h.frh p hm; rw [hp] at hy; cases hy
  refine ⟨by simpa using h.le, ?_, ?_, ?_, ?_⟩
  · have := allFrom_set ss 0 p _ (z, g, false) hp; have := h.cnt; simp at *; omega
  · rw [List.nodup_append]; exact ⟨h.frn, by simp, fun a ha c hc => by simp at hc; subst hc; exact fun e => hpf (e ▸ ha)⟩
  · intro q hq
    rw [pget_set _ _ _ _ hpl]
    rcases List.mem_append.1 hq with hq | hq
    · rw [if_neg (fun (e : q = p) => hpf (e ▸ hq))]; exact h.frh q hq
    · simp at hq; subst hq; rw [if_pos rfl]; exact ⟨_, _, rfl⟩
  · intro q y hy
    rw [pget_set _ _ _ _ hpl] at hy
    by_cases e : q = p
    · rw [if_pos e] at hy; cases hy; have := h.gen p _ hp; simp only at this ⊢; omega
    · rw [if_neg e] at hy; have := h.gen q y hy; omega
end Go.Proofs.Ytenokhdfbomkkaa
