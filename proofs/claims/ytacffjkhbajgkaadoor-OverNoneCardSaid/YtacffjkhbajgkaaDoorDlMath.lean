/- Timers in the order of their sets: what the calls of a queue answer. -/
import Derived.Test.YtacffjkhbajgkaaDoorOwn
namespace Go.Proofs.YtacffjkhbajgkaaDoor
open Go.RowKit
set_option linter.unusedVariables false

/-- A timer: its id, and the time at which it expires. -/
abbrev Tm := Int × Int
/-- The place of the first timer that p takes, or -1. -/
def idxP (p : Tm → Bool) (l : List Tm) : Int := match l.findIdx? p with
  | some i => (i : Int)
  | none => -1
section
variable {p : Tm → Bool} {l : List Tm} {i : Nat} {y : Tm}
theorem idxP_some (h : l.findIdx? p = some i) : idxP p l = (i : Int) ∧ i < l.length ∧ (∃ y, l[i]? = some y ∧ p y = true) ∧ ∀ z ∈ l.take i, p z = false := by
  refine ⟨by unfold idxP; rw [h], ?_⟩
  obtain ⟨hi, h1, h2⟩ := List.findIdx?_eq_some_iff_getElem.1 h
  refine ⟨hi, ⟨_, List.getElem?_eq_getElem hi, h1⟩, fun z hz => ?_⟩
  obtain ⟨j, hj, rfl⟩ := List.mem_iff_getElem.1 hz
  rw [List.length_take] at hj
  rw [List.getElem_take]
  simpa using h2 j (by omega)
theorem idxP_none (h : l.findIdx? p = none) : idxP p l = -1 ∧ ∀ y ∈ l, p y = false :=
  ⟨by unfold idxP; rw [h], fun y hy => List.findIdx?_eq_none_iff.1 h y hy⟩
theorem find_at (h : ∀ z ∈ l.take i, p z = false) (hy : l[i]? = some y) (he : p y = true) : l.findIdx? p = some i := by
  have hi := (List.getElem?_eq_some_iff.1 hy).1
  refine List.findIdx?_eq_some_iff_getElem.2 ⟨hi, ?_, fun j hj => ?_⟩
  · rw [(List.getElem?_eq_some_iff.1 hy).2]; exact he
  · have := h l[j] (List.mem_iff_getElem.2 ⟨j, by rw [List.length_take]; omega, by rw [List.getElem_take]⟩)
    simpa using this
theorem find_out (h : ∀ z ∈ l, p z = false) : l.findIdx? p = none := List.findIdx?_eq_none_iff.2 h
theorem idxP_at (h : ∀ z ∈ l.take i, p z = false) (hy : l[i]? = some y) (he : p y = true) : idxP p l = (i : Int) := (idxP_some (find_at h hy he)).1
theorem idxP_out (h : ∀ z ∈ l, p z = false) : idxP p l = -1 := (idxP_none (find_out h)).1
theorem takeP_next (h : ∀ z ∈ l.take i, p z = false) (hy : l[i]? = some y) (he : p y = false) : ∀ z ∈ l.take (i + 1), p z = false := by
  intro z hz
  rw [List.take_add_one, hy] at hz
  rcases List.mem_append.1 hz with hz | hz
  · exact h z hz
  · simp at hz; subst hz; exact he
end
def isId (id : Int) : Tm → Bool := fun x => decide (x.1 = id)
def isAt (t : Int) : Tm → Bool := fun x => decide (x.2 = t)

/-- The cells of timers. -/
def cellsT (l : List Tm) : List Value := l.flatMap fun x => [.int .i64 x.1, .int .i64 x.2]
theorem cellsT_cons (x : Tm) (l : List Tm) : cellsT (x :: l) = .int .i64 x.1 :: .int .i64 x.2 :: cellsT l := by simp [cellsT]
theorem cellsT_append (s t : List Tm) : cellsT (s ++ t) = cellsT s ++ cellsT t := by simp [cellsT]
theorem cellsT_one (x : Tm) : cellsT [x] = [.int .i64 x.1, .int .i64 x.2] := rfl
theorem cellsT_length (l : List Tm) : (cellsT l).length = l.length * 2 := by
  induction l with
  | nil => rfl
  | cons s ss ih => rw [cellsT_cons]; simp [ih]; omega
theorem cellsT_take : ∀ (l : List Tm) (i : Nat), (cellsT l).take (i * 2) = cellsT (l.take i)
  | [], i => by simp [cellsT]
  | x :: l, 0 => by simp [cellsT]
  | x :: l, i + 1 => by rw [cellsT_cons, show (i + 1) * 2 = i * 2 + 1 + 1 by omega]; simp [cellsT_cons, cellsT_take l i]
theorem cellsT_drop : ∀ (l : List Tm) (i : Nat), (cellsT l).drop (i * 2) = cellsT (l.drop i)
  | [], i => by simp [cellsT]
  | x :: l, 0 => by simp
  | x :: l, i + 1 => by rw [cellsT_cons, show (i + 1) * 2 = i * 2 + 1 + 1 by omega]; simp [cellsT_drop l i]
theorem cellsT_get (l : List Tm) : ∀ (i : Nat) (s : Tm), l[i]? = some s →
    (cellsT l)[i * 2]? = some (.int .i64 s.1) ∧ (cellsT l)[i * 2 + 1]? = some (.int .i64 s.2) := by
  induction l with
  | nil => intro i s h; simp at h
  | cons t ss ih =>
    intro i s h
    rw [cellsT_cons]
    match i, h with
    | 0, h => simp at h; subst h; simp
    | i + 1, h =>
      have := ih i s (by simpa using h)
      rw [show (i + 1) * 2 = i * 2 + 1 + 1 by omega]
      simpa using this
theorem cellsT_set (l : List Tm) : ∀ (i : Nat) (x : Tm), ((cellsT l).set (i * 2) (.int .i64 x.1)).set (i * 2 + 1) (.int .i64 x.2) = cellsT (l.set i x) := by
  induction l with
  | nil => intro i x; simp [cellsT]
  | cons t ss ih =>
    intro i x
    match i with
    | 0 => simp [cellsT_cons]
    | i + 1 =>
      have := ih i x
      rw [show (i + 1) * 2 = i * 2 + 1 + 1 by omega, List.set_cons_succ, cellsT_cons, cellsT_cons]
      simpa using this
theorem cellsT_ones (l : List Tm) : ∀ u ∈ cellsT l, u.oneCell' = true := by
  intro u hu
  obtain ⟨x, _, hx⟩ := List.mem_flatMap.1 hu
  simp at hx
  rcases hx with rfl | rfl <;> rfl
theorem cellsT_two (x : Tm) : ∀ u ∈ [Value.int .i64 x.1, .int .i64 x.2], u.oneCell' = true := by
  intro u hu; simp at hu; rcases hu with rfl | rfl <;> rfl
/-- The cells of numbers. -/
def cellsN (l : List Int) : List Value := l.map (.int .i64 ·)
theorem cellsN_length (l : List Int) : (cellsN l).length = l.length := by simp [cellsN]
theorem cellsN_append (s t : List Int) : cellsN (s ++ t) = cellsN s ++ cellsN t := by simp [cellsN]

/-- What the calls answer and leave. -/
def stopB (l : List Tm) (id : Int) : Bool := (l.findIdx? (isId id)).isSome
def stopL (l : List Tm) (id : Int) : List Tm := match l.findIdx? (isId id) with
  | some i => l.eraseIdx i
  | none => l
def setE (room : Nat) (l : List Tm) (id after : Int) : Int := if after < 1 ∨ 10000 < after then 1 else if stopB l id = false ∧ l.length = room then 6 else 0
def setL (room : Nat) (now : Int) (l : List Tm) (id after : Int) : List Tm := if after < 1 ∨ 10000 < after then l else if stopB l id = false ∧ l.length = room then l else stopL l id ++ [(id, now + after)]
def tickR (now : Int) (l : List Tm) : List Int := (l.filter (isAt (now + 1))).map (·.1)
def tickL (now : Int) (l : List Tm) : List Tm := l.filter (fun x => !isAt (now + 1) x)
def leftV (now : Int) (l : List Tm) (id : Int) : Int × Bool := match l.findIdx? (isId id) with
  | some i => ((l.getD i (0, 0)).2 - now, true)
  | none => (0, false)
/-- What a queue keeps. -/
structure QInv (room : Nat) (now : Nat) (l : List Tm) : Prop where
  le : l.length ≤ room
  room1 : 1 ≤ room
  room2 : room ≤ 1000
  at_ : ∀ x ∈ l, (now : Int) < x.2 ∧ x.2 ≤ now + 10000
  ids : (l.map (·.1)).Nodup
section
variable {room now : Nat} {l : List Tm} {id after : Int}
theorem QInv.start (h1 : 1 ≤ room) (h2 : room ≤ 1000) : QInv room 0 [] := ⟨Nat.zero_le _, h1, h2, by simp, List.nodup_nil⟩
theorem stopL_sub (l : List Tm) (id : Int) : (stopL l id).Sublist l := by
  unfold stopL
  split
  · exact List.eraseIdx_sublist _ _
  · exact List.Sublist.refl _
theorem QInv.sub (h : QInv room now l) {m : List Tm} (hs : m.Sublist l) : QInv room now m :=
  ⟨Nat.le_trans hs.length_le h.le, h.room1, h.room2, fun x hx => h.at_ x (hs.subset hx), h.ids.sublist (hs.map _)⟩
theorem QInv.stop (h : QInv room now l) (id : Int) : QInv room now (stopL l id) := h.sub (stopL_sub l id)
theorem stopL_len (h : stopB l id = true) : (stopL l id).length + 1 = l.length := by
  unfold stopB at h
  unfold stopL
  cases hf : l.findIdx? (isId id) with
  | none => rw [hf] at h; cases h
  | some i =>
    have := (idxP_some hf).2.1
    simp only
    rw [List.length_eraseIdx_of_lt this]; omega
theorem stopL_same (h : stopB l id = false) : stopL l id = l := by
  unfold stopB at h
  unfold stopL
  cases hf : l.findIdx? (isId id) with
  | none => rfl
  | some i => rw [hf] at h; cases h
theorem stopL_gone (h : (l.map (·.1)).Nodup) (id : Int) : ∀ z ∈ stopL l id, z.1 ≠ id := by
  unfold stopL
  cases hf : l.findIdx? (isId id) with
  | none => intro z hz; simpa [isId] using (idxP_none hf).2 z hz
  | some i =>
    obtain ⟨_, hi, ⟨y, hy, hye⟩, _⟩ := idxP_some hf
    simp only
    intro z hz he
    have hyid : y.1 = id := by simpa [isId] using hye
    have hyi := (List.getElem?_eq_some_iff.1 hy).2
    obtain ⟨j, hji, hj⟩ := (List.mem_eraseIdx_iff_getElem?).1 hz
    obtain ⟨hjl, hzj⟩ := List.getElem?_eq_some_iff.1 hj
    have hne := List.pairwise_iff_getElem.1 h
    rcases Nat.lt_or_gt_of_ne hji with hlt | hgt
    · exact hne j i (by simpa using hjl) (by simpa using hi) hlt (by simp [hzj, hyi, he, hyid])
    · exact hne i j (by simpa using hi) (by simpa using hjl) hgt (by simp [hzj, hyi, he, hyid])
theorem QInv.set (h : QInv room now l) (id after : Int) : QInv room now (setL room now l id after) := by
  unfold setL
  split
  · exact h
  · rename_i h1
    split
    · exact h
    · rename_i h2
      have hs := h.stop id
      refine ⟨?_, h.room1, h.room2, fun x hx => ?_, ?_⟩
      · rw [List.length_append]
        simp only [List.length_cons, List.length_nil]
        cases hb : stopB l id with
        | true => have := stopL_len hb; have := h.le; omega
        | false =>
          rw [stopL_same hb]
          have : l.length ≠ room := fun e => h2 ⟨hb, e⟩
          have := h.le
          omega
      · rcases List.mem_append.1 hx with hx | hx
        · exact hs.at_ x hx
        · simp at hx; subst hx; simp only; omega
      · rw [List.map_append, List.nodup_append]
        refine ⟨hs.ids, by simp, fun a ha b hb => ?_⟩
        obtain ⟨z, hz, rfl⟩ := List.mem_map.1 ha
        have hb' : b = id := by simpa using hb
        rw [hb']
        exact stopL_gone h.ids id z hz
theorem QInv.tick (h : QInv room now l) : QInv room (now + 1) (tickL now l) := by
  have hs : (tickL now l).Sublist l := List.filter_sublist
  have k := h.sub hs
  refine ⟨k.le, k.room1, k.room2, fun x hx => ?_, k.ids⟩
  have h1 := k.at_ x hx
  have h2 := (List.mem_filter.1 hx).2
  simp [isAt] at h2
  omega
end
end Go.Proofs.YtacffjkhbajgkaaDoor
