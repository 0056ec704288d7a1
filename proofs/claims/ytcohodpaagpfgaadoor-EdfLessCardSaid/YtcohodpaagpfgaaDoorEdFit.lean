/- Maths of chapter 10: needs that fit. -/
import Derived.Test.YtcohodpaagpfgaaDoorEdRun
namespace Go.Proofs.YtcohodpaagpfgaaDoor
set_option linter.unusedVariables false
set_option linter.unusedSimpArgs false

/-- What is left of a job. -/
structure Lf where
  dl : Int
  need : Int
instance : Inhabited Lf := ⟨⟨0, 0⟩⟩
/-- A need counts if it is more than nothing. -/
def Lf.pos (x : Lf) : Int := if 0 < x.need then x.need else 0
def needs (l : List Lf) (d : Int) : Int := (l.map fun x => if x.dl ≤ d then x.pos else 0).sum
def slackOf (now : Int) (l : List Lf) (x : Lf) : Int := x.dl - now - needs l x.dl
def numB (n : Int) : Bool := decide (-1000000 ≤ n) && decide (n ≤ 1000000)
def bndB (now : Int) (l : List Lf) : Bool := decide (l.length ≤ 1000) && (numB now && l.all fun x => numB x.dl && numB x.need)
def fitsB (now : Int) (l : List Lf) : Bool := bndB now l && l.all fun x => decide (0 ≤ slackOf now l x)
/-- The least of them, so far. -/
def slackGo (now : Int) (l : List Lf) : Option Int → List Lf → Option Int
  | o, [] => o
  | none, x :: r => slackGo now l (some (slackOf now l x)) r
  | some b, x :: r => slackGo now l (some (if slackOf now l x < b then slackOf now l x else b)) r
def slackO (now : Int) (l : List Lf) : Option Int := if bndB now l then slackGo now l none l else none
def oZ (o : Option Int) : Int := o.getD 0
def oB (o : Option Int) : Bool := o.isSome
theorem pos_nonneg (x : Lf) : 0 ≤ x.pos := by unfold Lf.pos; split <;> omega
theorem needs_nil (d : Int) : needs [] d = 0 := rfl
theorem needs_cons (x : Lf) (l : List Lf) (d : Int) : needs (x :: l) d = (if x.dl ≤ d then x.pos else 0) + needs l d := by simp [needs]
theorem needs_nonneg : ∀ (l : List Lf) (d : Int), 0 ≤ needs l d
  | [], _ => Int.le_refl _
  | x :: l, d => by rw [needs_cons]; have := needs_nonneg l d; have := pos_nonneg x; split <;> omega
theorem needs_app (l m : List Lf) (d : Int) : needs (l ++ m) d = needs l d + needs m d := by simp [needs]
theorem needs_bound : ∀ (l : List Lf) (d : Int), (∀ x ∈ l, x.need ≤ 1000000) → needs l d ≤ 1000000 * (l.length : Int)
  | [], _, _ => by simp [needs]
  | x :: l, d, h => by
    have ih := needs_bound l d (fun y hy => h y (by simp [hy]))
    have := h x (by simp)
    rw [needs_cons, List.length_cons]
    unfold Lf.pos
    split
    · split <;> omega
    · omega
theorem numB_iff {n : Int} : numB n = true ↔ -1000000 ≤ n ∧ n ≤ 1000000 := by unfold numB; simp
theorem bndB_iff {now : Int} {l : List Lf} : bndB now l = true ↔ l.length ≤ 1000 ∧ (-1000000 ≤ now ∧ now ≤ 1000000) ∧ ∀ x ∈ l, (-1000000 ≤ x.dl ∧ x.dl ≤ 1000000) ∧ (-1000000 ≤ x.need ∧ x.need ≤ 1000000) := by
  unfold bndB
  simp only [Bool.and_eq_true, decide_eq_true_eq, List.all_eq_true, numB_iff]
theorem fitsB_iff {now : Int} {l : List Lf} : fitsB now l = true ↔ bndB now l = true ∧ ∀ x ∈ l, 0 ≤ slackOf now l x := by
  unfold fitsB
  simp only [Bool.and_eq_true, decide_eq_true_eq, List.all_eq_true]
/-- Where all slacks are no less than nothing, so is it at any time behind the first deadline. -/
theorem needs_le {now : Int} {l : List Lf} (h : ∀ x ∈ l, 0 ≤ slackOf now l x) {y : Lf} (hy : y ∈ l) : ∀ (m : Nat) (d : Int), d = y.dl + (m : Int) → needs l d ≤ d - now := by
  intro m
  induction m with
  | zero =>
    intro d hd
    have := h y hy
    unfold slackOf at this
    rw [show d = y.dl by omega]; omega
  | succ m ih =>
    intro d hd
    by_cases he : ∃ x ∈ l, x.dl = d
    · obtain ⟨x, hx, rfl⟩ := he
      have := h x hx
      unfold slackOf at this
      omega
    · have e : needs l d = needs l (d - 1) := by
        unfold needs
        congr 1
        refine List.map_congr_left fun x hx => ?_
        have : x.dl ≠ d := fun hh => he ⟨x, hx, hh⟩
        by_cases h1 : x.dl ≤ d
        · rw [if_pos h1, if_pos (by omega)]
        · rw [if_neg h1, if_neg (by omega)]
      have := ih (d - 1) (by omega)
      rw [e]; omega
section
variable {now : Int} {a b : List Lf} {x y : Lf}
/-- One need is less. -/
theorem fits_less (h : fitsB now (a ++ x :: b) = true) (hd : y.dl = x.dl) (hn : y.need ≤ x.need) (hb : -1000000 ≤ y.need) : fitsB now (a ++ y :: b) = true := by
  obtain ⟨h1, h2⟩ := fitsB_iff.1 h
  obtain ⟨k1, k2, k3⟩ := bndB_iff.1 h1
  have hpos : y.pos ≤ x.pos := by unfold Lf.pos; split <;> split <;> omega
  have hle : ∀ d, needs (a ++ y :: b) d ≤ needs (a ++ x :: b) d := fun d => by
    rw [needs_app, needs_app, needs_cons, needs_cons, hd]
    split <;> omega
  refine fitsB_iff.2 ⟨bndB_iff.2 ⟨by simpa using k1, k2, fun z hz => ?_⟩, fun z hz => ?_⟩
  · simp only [List.mem_append, List.mem_cons] at hz
    rcases hz with hz | rfl | hz
    · exact k3 z (by simp [hz])
    · have := k3 x (by simp); omega
    · exact k3 z (by simp [hz])
  · simp only [List.mem_append, List.mem_cons] at hz
    have key : ∀ z' ∈ a ++ x :: b, z'.dl = z.dl → 0 ≤ slackOf now (a ++ y :: b) z := fun z' hz' e => by
      have h3 := h2 z' hz'
      have := hle z.dl
      unfold slackOf at h3 ⊢
      rw [e] at h3
      omega
    rcases hz with hz | rfl | hz
    · exact key z (by simp [hz]) rfl
    · exact key x (by simp) hd.symm
    · exact key z (by simp [hz]) rfl
/-- One has more time. -/
theorem fits_later (h : fitsB now (a ++ x :: b) = true) (hd : x.dl ≤ y.dl) (hn : y.need = x.need) (hb : y.dl ≤ 1000000) : fitsB now (a ++ y :: b) = true := by
  obtain ⟨h1, h2⟩ := fitsB_iff.1 h
  obtain ⟨k1, k2, k3⟩ := bndB_iff.1 h1
  have hpos : y.pos = x.pos := by unfold Lf.pos; rw [hn]
  have hx0 := pos_nonneg x
  have hle : ∀ d, needs (a ++ y :: b) d ≤ needs (a ++ x :: b) d := fun d => by
    rw [needs_app, needs_app, needs_cons, needs_cons, hpos]
    by_cases c : y.dl ≤ d
    · rw [if_pos c, if_pos (by omega)]; omega
    · rw [if_neg c]; split <;> omega
  refine fitsB_iff.2 ⟨bndB_iff.2 ⟨by simpa using k1, k2, fun z hz => ?_⟩, fun z hz => ?_⟩
  · simp only [List.mem_append, List.mem_cons] at hz
    rcases hz with hz | rfl | hz
    · exact k3 z (by simp [hz])
    · have := k3 x (by simp); omega
    · exact k3 z (by simp [hz])
  · simp only [List.mem_append, List.mem_cons] at hz
    have key : ∀ z' ∈ a ++ x :: b, z'.dl ≤ z.dl → 0 ≤ slackOf now (a ++ y :: b) z := fun z' hz' e => by
      have h3 := needs_le h2 hz' (z.dl - z'.dl).toNat z.dl (by omega)
      have := hle z.dl
      unfold slackOf
      omega
    rcases hz with hz | rfl | hz
    · exact key z (by simp [hz]) (Int.le_refl _)
    · exact key x (by simp) hd
    · exact key z (by simp [hz]) (Int.le_refl _)
end
/-! ## The least -/
theorem slackGo_some (now : Int) (l : List Lf) : ∀ (r : List Lf) (b : Int), ∃ c, slackGo now l (some b) r = some c ∧ c ≤ b ∧ (∀ x ∈ r, c ≤ slackOf now l x) ∧ (c = b ∨ ∃ x ∈ r, c = slackOf now l x)
  | [], b => ⟨b, rfl, Int.le_refl _, by simp, .inl rfl⟩
  | x :: r, b => by
    obtain ⟨c, h1, h2, h3, h4⟩ := slackGo_some now l r (if slackOf now l x < b then slackOf now l x else b)
    refine ⟨c, h1, ?_, fun y hy => ?_, ?_⟩
    · split at h2 <;> omega
    · rcases List.mem_cons.1 hy with rfl | hy
      · split at h2 <;> omega
      · exact h3 y hy
    · rcases h4 with h4 | ⟨y, hy, h4⟩
      · split at h4
        · exact .inr ⟨x, by simp, h4⟩
        · exact .inl h4
      · exact .inr ⟨y, by simp [hy], h4⟩
theorem slackO_iff {now : Int} {l : List Lf} (hb : bndB now l = true) (hl : l ≠ []) : ∃ c, slackO now l = some c ∧ (∀ x ∈ l, c ≤ slackOf now l x) ∧ ∃ x ∈ l, c = slackOf now l x := by
  unfold slackO
  rw [if_pos hb]
  match l, hl with
  | x :: r, _ =>
    show ∃ c, slackGo now (x :: r) (some (slackOf now (x :: r) x)) r = some c ∧ _
    obtain ⟨c, h1, h2, h3, h4⟩ := slackGo_some now (x :: r) r (slackOf now (x :: r) x)
    refine ⟨c, h1, fun y hy => ?_, ?_⟩
    · rcases List.mem_cons.1 hy with rfl | hy
      · exact h2
      · exact h3 y hy
    · rcases h4 with h4 | ⟨y, hy, h4⟩
      · exact ⟨x, by simp, h4⟩
      · exact ⟨y, by simp [hy], h4⟩
theorem fits_slack (now : Int) (l : List Lf) : fitsB now l = (bndB now l && (!oB (slackO now l) || decide (0 ≤ oZ (slackO now l)))) := by
  cases hb : bndB now l
  · unfold fitsB; rw [hb]; rfl
  · rw [Bool.true_and]
    by_cases hl : l = []
    · subst hl
      unfold fitsB slackO slackGo
      rw [hb]; rfl
    · obtain ⟨c, h1, h2, x, hx, h3⟩ := slackO_iff hb hl
      rw [h1]
      show _ = (!true || decide (0 ≤ c))
      rw [Bool.eq_iff_iff, fitsB_iff]
      simp only [Bool.not_true, Bool.false_or, decide_eq_true_eq]
      constructor
      · intro h; rw [h3]; exact h.2 x hx
      · intro h; exact ⟨hb, fun y hy => Int.le_trans h (h2 y hy)⟩
end Go.Proofs.YtcohodpaagpfgaaDoor
