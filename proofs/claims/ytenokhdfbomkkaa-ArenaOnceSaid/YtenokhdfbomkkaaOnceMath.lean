/- ArenaOnce: what holds of the slots, the freed ones, those that are there, and all that were told. -/
import Derived.Test.YtenokhdfbomkkaaSlots
namespace Go.Proofs.Ytenokhdfbomkkaa
set_option linter.unusedVariables false

structure OInv (room : Nat) (ss : List (Int × Int × Bool)) (fr : List Nat) (th T : List (Nat × Int)) (i : Nat) : Prop where
  len : th.length + fr.length = ss.length
  le : ss.length ≤ room
  frn : fr.Nodup
  frh : ∀ p ∈ fr, ∃ x g, ss[p]? = some (x, g, false)
  thn : (th.map Prod.fst).Nodup
  thh : ∀ q ∈ th, ∃ x, ss[q.1]? = some (x, q.2, true)
  told : ∀ q ∈ T, ∃ x, ss[q.1]? = some x ∧ q.2 ≤ x.2.1
  gen : ∀ (p : Nat) x, ss[p]? = some x → 0 ≤ x.2.1 ∧ x.2.1 ≤ (i : Int)
theorem OInv.start (room : Nat) : OInv room [] [] [] [] 0 := ⟨rfl, by simp, by simp, by simp, by simp, by simp, by simp, by simp⟩
theorem OInv.later {room : Nat} {ss : List (Int × Int × Bool)} {fr : List Nat} {th T : List (Nat × Int)} {i : Nat} (h : OInv room ss fr th T i) : OInv room ss fr th T (i + 1) :=
  ⟨h.len, h.le, h.frn, h.frh, h.thn, h.thh, h.told, fun p x hx => ⟨(h.gen p x hx).1, by have := (h.gen p x hx).2; omega⟩⟩
theorem hCells_ones (l : List (Nat × Int)) : ∀ u ∈ hCells l, u.oneCell' = true := by
  intro u hu
  simp only [hCells, List.mem_flatMap] at hu
  obtain ⟨p, _, hp⟩ := hu
  simp at hp
  rcases hp with rfl | rfl <;> rfl
theorem hCells_one_all (l : List (Nat × Int)) (k : Nat) : ∀ u ∈ (hCells l).take k, u.oneCell' = true := fun u hu => hCells_ones l u (List.mem_of_mem_take hu)
theorem hCells_one_drop (l : List (Nat × Int)) (k : Nat) : ∀ u ∈ (hCells l).drop k, u.oneCell' = true := fun u hu => hCells_ones l u (List.mem_of_mem_drop hu)
theorem hCells_take (l : List (Nat × Int)) : ∀ k, (hCells l).take (k * 2) = hCells (l.take k) := by
  induction l with
  | nil => intro k; simp [hCells]
  | cons p l ih =>
    intro k
    match k with
    | 0 => simp [hCells]
    | k + 1 => rw [show (k + 1) * 2 = k * 2 + 1 + 1 by omega]; have := ih k; simp only [hCells, List.flatMap_cons, List.take_succ_cons] at *; simp [this]
theorem hCells_drop (l : List (Nat × Int)) : ∀ k, (hCells l).drop (k * 2) = hCells (l.drop k) := by
  induction l with
  | nil => intro k; simp [hCells]
  | cons p l ih =>
    intro k
    match k with
    | 0 => simp
    | k + 1 => rw [show (k + 1) * 2 = k * 2 + 1 + 1 by omega]; have := ih k; simp only [hCells, List.flatMap_cons, List.drop_succ_cons] at *; simp [this]
theorem get_set {α : Type} (l : List α) (p k : Nat) (v : α) (hp : p < l.length) : (l.set p v)[k]? = if k = p then some v else l[k]? := by
  by_cases e : k = p
  · subst e; rw [if_pos rfl, List.getElem?_set_self hp]
  · rw [if_neg e, List.getElem?_set_ne (fun h => e h.symm)]
theorem OInv.pop {room p : Nat} {ss : List (Int × Int × Bool)} {fr : List Nat} {th T : List (Nat × Int)} {i : Nat} {x v g : Int} {b : Bool} (h : OInv room ss (fr ++ [p]) th T i) (hp : ss[p]? = some (x, g, b)) :
    OInv room (ss.set p (v, g + 1, true)) fr (th ++ [(p, g + 1)]) (T ++ [(p, g + 1)]) (i + 1) ∧ (p, g + 1) ∉ T := by
  have hpl : p < ss.length := (List.getElem?_eq_some_iff.1 hp).1
  have hn := List.nodup_append.1 h.frn
  have hpf : p ∉ fr := fun hm => hn.2.2 p hm p (by simp) rfl
  have hpt : ∀ q ∈ th, q.1 ≠ p := by
    intro q hq e
    obtain ⟨y, hy⟩ := h.thh q hq
    obtain ⟨y', g', hy'⟩ := h.frh p (by simp)
    rw [e, hy'] at hy
    cases hy
  refine ⟨⟨?_, by simpa using h.le, hn.1, ?_, ?_, ?_, ?_, ?_⟩, ?_⟩
  · have := h.len; simp at this ⊢; omega
  · intro q hq
    obtain ⟨y, g', hy⟩ := h.frh q (by simp [hq])
    refine ⟨y, g', ?_⟩
    rw [get_set _ _ _ _ hpl, if_neg (fun (e : q = p) => hpf (e ▸ hq))]; exact hy
  · rw [List.map_append, List.nodup_append]
    refine ⟨h.thn, by simp, fun a ha c hc => ?_⟩
    obtain ⟨q, hq, rfl⟩ := List.mem_map.1 ha
    simp at hc; subst hc
    exact hpt q hq
  · intro q hq
    rw [get_set _ _ _ _ hpl]
    rcases List.mem_append.1 hq with hq | hq
    · rw [if_neg (hpt q hq)]; exact h.thh q hq
    · simp at hq; subst hq; rw [if_pos rfl]; exact ⟨v, rfl⟩
  · intro q hq
    rw [get_set _ _ _ _ hpl]
    rcases List.mem_append.1 hq with hq | hq
    · obtain ⟨y, hy, hle⟩ := h.told q hq
      by_cases e : q.1 = p
      · rw [if_pos e]
        rw [e, hp] at hy; cases hy
        simp only at hle
        exact ⟨_, rfl, by simp only; omega⟩
      · rw [if_neg e]; exact ⟨y, hy, hle⟩
    · simp at hq; subst hq; rw [if_pos rfl]; exact ⟨_, rfl, Int.le_refl _⟩
  · intro q y hy
    rw [get_set _ _ _ _ hpl] at hy
    by_cases e : q = p
    · rw [if_pos e] at hy; cases hy
      have := h.gen p _ hp
      simp only at this ⊢
      omega
    · rw [if_neg e] at hy
      have := h.gen q y hy
      omega
  · intro hm
    obtain ⟨y, hy, hle⟩ := h.told _ hm
    simp only at hy hle
    rw [hp] at hy; cases hy
    simp only at hle
    omega
theorem OInv.new {room : Nat} {ss : List (Int × Int × Bool)} {th T : List (Nat × Int)} {i : Nat} {v : Int} (h : OInv room ss [] th T i) (hl : ss.length < room) :
    OInv room (ss ++ [(v, 1, true)]) [] (th ++ [(ss.length, 1)]) (T ++ [(ss.length, 1)]) (i + 1) ∧ (ss.length, (1 : Int)) ∉ T := by
  have old : ∀ (p : Nat) y, ss[p]? = some y → (ss ++ [(v, (1 : Int), true)])[p]? = some y := fun p y hy => by
    have hp : p < ss.length := (List.getElem?_eq_some_iff.1 hy).1
    rw [List.getElem?_append_left hp]; exact hy
  have neu : (ss ++ [(v, (1 : Int), true)])[ss.length]? = some (v, 1, true) := by simp
  refine ⟨⟨?_, by simp; omega, by simp, by simp, ?_, ?_, ?_, ?_⟩, ?_⟩
  · have := h.len; simp at this ⊢; omega
  · rw [List.map_append, List.nodup_append]
    refine ⟨h.thn, by simp, fun a ha c hc => ?_⟩
    obtain ⟨q, hq, rfl⟩ := List.mem_map.1 ha
    simp at hc; subst hc
    obtain ⟨y, hy⟩ := h.thh q hq
    have := (List.getElem?_eq_some_iff.1 hy).1
    omega
  · intro q hq
    rcases List.mem_append.1 hq with hq | hq
    · obtain ⟨y, hy⟩ := h.thh q hq
      exact ⟨y, old _ _ hy⟩
    · simp at hq; subst hq; exact ⟨v, neu⟩
  · intro q hq
    rcases List.mem_append.1 hq with hq | hq
    · obtain ⟨y, hy, hle⟩ := h.told q hq
      exact ⟨y, old _ _ hy, hle⟩
    · simp at hq; subst hq; exact ⟨_, neu, Int.le_refl _⟩
  · intro q y hy
    rcases Nat.lt_or_ge q ss.length with hq | hq
    · rw [List.getElem?_append_left hq] at hy
      have := h.gen q y hy
      omega
    · rw [List.getElem?_append_right hq] at hy
      have hz : q - ss.length = 0 := by
        rcases Nat.eq_zero_or_pos (q - ss.length) with h0 | h0
        · exact h0
        · rw [List.getElem?_eq_none (by simp; omega)] at hy; cases hy
      rw [hz] at hy; simp at hy; subst hy
      simp only; omega
  · intro hm
    obtain ⟨y, hy, hle⟩ := h.told _ hm
    have := (List.getElem?_eq_some_iff.1 hy).1
    simp only at this
    omega
theorem OInv.free {room k s : Nat} {ss : List (Int × Int × Bool)} {fr : List Nat} {th T : List (Nat × Int)} {i : Nat} {g : Int} (h : OInv room ss fr th T i) (hk : th[k]? = some (s, g)) :
    (∃ x, ss[s]? = some (x, g, true)) ∧ OInv room (ss.set s (0, g, false)) (fr ++ [s]) (th.take k ++ th.drop (k + 1)) T (i + 1) := by
  have hkl : k < th.length := (List.getElem?_eq_some_iff.1 hk).1
  obtain ⟨x, hx⟩ := h.thh (s, g) (List.mem_of_getElem? hk)
  simp only at hx
  have hsl : s < ss.length := (List.getElem?_eq_some_iff.1 hx).1
  have hsp : th = th.take k ++ (s, g) :: th.drop (k + 1) := by
    conv => lhs; rw [← List.take_append_drop k th]
    rw [List.drop_eq_getElem_cons hkl]
    rw [(List.getElem?_eq_some_iff.1 hk).2]
  have hsub : ∀ q ∈ th.take k ++ th.drop (k + 1), q ∈ th ∧ q.1 ≠ s := by
    intro q hq
    have hn := h.thn
    rw [hsp, List.map_append, List.map_cons, List.nodup_append] at hn
    refine ⟨?_, ?_⟩
    · rcases List.mem_append.1 hq with hq | hq
      · exact List.mem_of_mem_take hq
      · exact List.mem_of_mem_drop hq
    · rcases List.mem_append.1 hq with hq | hq
      · exact hn.2.2 q.1 (List.mem_map_of_mem hq) s (by simp)
      · have := (List.nodup_cons.1 hn.2.1).1
        intro e
        have hm := List.mem_map_of_mem (f := Prod.fst) hq
        rw [e] at hm
        exact this hm
  have hsf : s ∉ fr := fun hm => by
    obtain ⟨y, g', hy⟩ := h.frh s hm
    rw [hx] at hy; cases hy
  refine ⟨⟨x, hx⟩, ⟨?_, by simpa using h.le, ?_, ?_, ?_, ?_, ?_, ?_⟩⟩
  · have := h.len
    simp only [List.length_append, List.length_take, List.length_drop, List.length_set, List.length_cons, List.length_nil]
    omega
  · rw [List.nodup_append]
    exact ⟨h.frn, by simp, fun a ha c hc => by simp at hc; subst hc; exact fun e => hsf (e ▸ ha)⟩
  · intro q hq
    rw [get_set _ _ _ _ hsl]
    rcases List.mem_append.1 hq with hq | hq
    · rw [if_neg (fun (e : q = s) => hsf (e ▸ hq))]; exact h.frh q hq
    · simp at hq; subst hq; rw [if_pos rfl]; exact ⟨_, _, rfl⟩
  · have hn := h.thn
    rw [hsp, List.map_append, List.map_cons, List.nodup_append] at hn
    rw [List.map_append, List.nodup_append]
    exact ⟨hn.1, (List.nodup_cons.1 hn.2.1).2, fun a ha c hc => hn.2.2 a ha c (List.mem_cons_of_mem _ hc)⟩
  · intro q hq
    obtain ⟨h1, h2⟩ := hsub q hq
    rw [get_set _ _ _ _ hsl, if_neg h2]
    exact h.thh q h1
  · intro q hq
    obtain ⟨y, hy, hle⟩ := h.told q hq
    rw [get_set _ _ _ _ hsl]
    by_cases e : q.1 = s
    · rw [if_pos e]; rw [e, hx] at hy; cases hy
      exact ⟨_, rfl, hle⟩
    · rw [if_neg e]; exact ⟨y, hy, hle⟩
  · intro q y hy
    rw [get_set _ _ _ _ hsl] at hy
    by_cases e : q = s
    · rw [if_pos e] at hy; cases hy
      have := h.gen s _ hx
      simp only at this ⊢; omega
    · rw [if_neg e] at hy
      have := h.gen q y hy
      omega
end Go.Proofs.Ytenokhdfbomkkaa
