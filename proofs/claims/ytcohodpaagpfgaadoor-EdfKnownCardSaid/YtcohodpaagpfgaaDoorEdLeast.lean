/- Maths of chapter 10: the least slack by one pass over the needs in the order of their deadlines. -/
import Derived.Test.YtcohodpaagpfgaaDoorEdFit
namespace Go.Proofs.YtcohodpaagpfgaaDoor
set_option linter.unusedVariables false
set_option linter.unusedSimpArgs false

def posSum (l : List Lf) : Int := (l.map Lf.pos).sum
/-- One pass: the needs so far, the least so far. -/
def lstGo (now : Int) : List Lf → Int → Int → Int
  | [], _, s => s
  | x :: r, nd, s => lstGo now r (nd + x.pos) (min s (x.dl - now - (nd + x.pos)))
theorem posSum_cons (x : Lf) (l : List Lf) : posSum (x :: l) = x.pos + posSum l := by simp [posSum]
theorem lstGo_spec (now : Int) : ∀ (r : List Lf) (nd s : Int), lstGo now r nd s ≤ s ∧ (∀ (i : Nat) (x : Lf), r[i]? = some x → lstGo now r nd s ≤ x.dl - now - (nd + posSum (r.take (i + 1)))) ∧
    (lstGo now r nd s = s ∨ ∃ (i : Nat) (x : Lf), r[i]? = some x ∧ lstGo now r nd s = x.dl - now - (nd + posSum (r.take (i + 1))))
  | [], nd, s => ⟨Int.le_refl _, fun i x h => by simp at h, .inl rfl⟩
  | y :: r, nd, s => by
    obtain ⟨h1, h2, h3⟩ := lstGo_spec now r (nd + y.pos) (min s (y.dl - now - (nd + y.pos)))
    have e : lstGo now (y :: r) nd s = lstGo now r (nd + y.pos) (min s (y.dl - now - (nd + y.pos))) := rfl
    rw [e]
    generalize lstGo now r (nd + y.pos) (min s (y.dl - now - (nd + y.pos))) = c at *
    refine ⟨by omega, fun i x hx => ?_, ?_⟩
    · match i, hx with
      | 0, hx =>
        simp at hx
        subst hx
        simp [posSum]
        omega
      | i + 1, hx =>
        rw [List.getElem?_cons_succ] at hx
        have := h2 i x hx
        rw [List.take_succ_cons, posSum_cons]
        omega
    · rcases h3 with h3 | ⟨i, x, hx, h3⟩
      · by_cases hc : s ≤ y.dl - now - (nd + y.pos)
        · exact .inl (by omega)
        · refine .inr ⟨0, y, rfl, ?_⟩
          simp [posSum]
          omega
      · refine .inr ⟨i + 1, x, by rw [List.getElem?_cons_succ]; exact hx, ?_⟩
        rw [List.take_succ_cons, posSum_cons]
        omega
/-- By deadlines. -/
def SrtL (s : List Lf) : Prop := ∀ (i j : Nat) (x y : Lf), i < j → s[i]? = some x → s[j]? = some y → x.dl ≤ y.dl
theorem needs_perm {l s : List Lf} (h : s.Perm l) (d : Int) : needs s d = needs l d := by
  induction h with
  | nil => rfl
  | cons x _ ih => rw [needs_cons, needs_cons, ih]
  | swap x y l => rw [needs_cons, needs_cons, needs_cons, needs_cons]; omega
  | trans _ _ ih1 ih2 => rw [ih1, ih2]
theorem needs_all : ∀ (l : List Lf) (d : Int), (∀ x ∈ l, x.dl ≤ d) → needs l d = posSum l
  | [], _, _ => rfl
  | x :: l, d, h => by
    rw [needs_cons, posSum_cons, if_pos (h x (by simp)), needs_all l d (fun y hy => h y (by simp [hy]))]
theorem needs_no : ∀ (l : List Lf) (d : Int), (∀ x ∈ l, d < x.dl) → needs l d = 0
  | [], _, _ => rfl
  | x :: l, d, h => by
    rw [needs_cons, if_neg (by have := h x (by simp); omega), needs_no l d (fun y hy => h y (by simp [hy]))]; rfl
theorem needs_cut (s : List Lf) (i : Nat) (d : Int) : needs s d = needs (s.take i) d + needs (s.drop i) d := by
  rw [← needs_app, List.take_append_drop]
theorem mem_take_at {s : List Lf} {i : Nat} {x : Lf} (h : x ∈ s.take i) : ∃ k, k < i ∧ s[k]? = some x := by
  obtain ⟨k, hk, he⟩ := List.mem_iff_getElem.1 h
  rw [List.length_take] at hk
  refine ⟨k, by omega, ?_⟩
  rw [List.getElem_take] at he
  rw [List.getElem?_eq_getElem (by omega), he]
theorem mem_drop_at {s : List Lf} {i : Nat} {x : Lf} (h : x ∈ s.drop i) : ∃ k, i ≤ k ∧ s[k]? = some x := by
  obtain ⟨k, hk, he⟩ := List.mem_iff_getElem.1 h
  rw [List.length_drop] at hk
  refine ⟨i + k, by omega, ?_⟩
  rw [List.getElem_drop] at he
  rw [List.getElem?_eq_getElem (by omega), he]
theorem SrtL.le {s : List Lf} (hs : SrtL s) {i : Nat} {x : Lf} (hx : s[i]? = some x) : posSum (s.take (i + 1)) ≤ needs s x.dl := by
  rw [needs_cut s (i + 1), needs_all (s.take (i + 1)) x.dl (fun y hy => by
    obtain ⟨k, hk, hy2⟩ := mem_take_at hy
    by_cases e : k = i
    · subst e; rw [hx] at hy2; injection hy2 with hy2; subst hy2; exact Int.le_refl _
    · exact hs k i y x (by omega) hy2 hx)]
  have := needs_nonneg (s.drop (i + 1)) x.dl
  omega
theorem SrtL.last {s : List Lf} (hs : SrtL s) (d : Int) : ∀ (m j : Nat) (x : Lf), j + m = s.length → s[j]? = some x → x.dl = d → ∃ (i : Nat) (y : Lf), s[i]? = some y ∧ y.dl = d ∧ posSum (s.take (i + 1)) = needs s d
  | 0, j, x, h, hx, _ => by have := (List.getElem?_eq_some_iff.1 hx).1; omega
  | m + 1, j, x, h, hx, hd => by
    by_cases hn : ∃ y, s[j + 1]? = some y ∧ y.dl = d
    · obtain ⟨y, hy, hyd⟩ := hn
      exact hs.last d m (j + 1) y (by omega) hy hyd
    · refine ⟨j, x, hx, hd, ?_⟩
      rw [needs_cut s (j + 1), needs_all (s.take (j + 1)) d (fun y hy => by
        obtain ⟨k, hk, hy2⟩ := mem_take_at hy
        by_cases e : k = j
        · subst e; rw [hx] at hy2; injection hy2 with hy2; subst hy2; omega
        · have := hs k j y x (by omega) hy2 hx; omega), needs_no (s.drop (j + 1)) d (fun y hy => by
        obtain ⟨k, hk, hy2⟩ := mem_drop_at hy
        have hlt : j + 1 < s.length := by have := (List.getElem?_eq_some_iff.1 hy2).1; omega
        have hz : s[j + 1]? = some s[j + 1] := List.getElem?_eq_getElem hlt
        have h1 : ¬ s[j + 1].dl = d := fun e => hn ⟨_, hz, e⟩
        have h2 := hs j (j + 1) x _ (by omega) hx hz
        by_cases e : k = j + 1
        · subst e; rw [hz] at hy2; injection hy2 with hy2; subst hy2; omega
        · have := hs (j + 1) k _ y (by omega) hz hy2; omega)]
      omega
/-- One pass over the needs by their deadlines finds the least slack. -/
theorem least_eq {now : Int} {l s : List Lf} {x0 : Lf} (hb : bndB now l = true) (hp : s.Perm l) (hs : SrtL s) (h0 : s[0]? = some x0) : slackO now l = some (lstGo now s 0 (x0.dl - now)) := by
  have hl : l ≠ [] := by
    rintro rfl
    have := hp.length_eq
    have h2 := (List.getElem?_eq_some_iff.1 h0).1
    simp at this
    simp [this] at h2
  obtain ⟨c, hc, hle, x, hx, hcx⟩ := slackO_iff hb hl
  rw [hc]
  obtain ⟨h1, h2, h3⟩ := lstGo_spec now s 0 (x0.dl - now)
  generalize lstGo now s 0 (x0.dl - now) = e at *
  have hge : c ≤ e := by
    rcases h3 with h3 | ⟨i, y, hy, h3⟩
    · have := hle x0 (hp.mem_iff.1 (List.mem_of_getElem? h0))
      unfold slackOf at this
      have := needs_nonneg l x0.dl
      omega
    · have := hle y (hp.mem_iff.1 (List.mem_of_getElem? hy))
      unfold slackOf at this
      have h4 := hs.le hy
      rw [needs_perm hp] at h4
      omega
  have hle2 : e ≤ c := by
    obtain ⟨j, hj, he⟩ := List.mem_iff_getElem.1 (hp.mem_iff.2 hx)
    obtain ⟨i, y, hy, hyd, hps⟩ := hs.last x.dl (s.length - j) j x (by omega) (by rw [List.getElem?_eq_getElem hj, he]) rfl
    have := h2 i y hy
    rw [hps, needs_perm hp, hyd] at this
    rw [hcx]
    unfold slackOf
    omega
  congr 1
  omega
/-- The pass, step by step. -/
theorem lstGo_at {now : Int} {s : List Lf} {k : Nat} {x : Lf} (h : s[k]? = some x) (nd z : Int) : lstGo now (s.drop k) nd z = lstGo now (s.drop (k + 1)) (nd + x.pos) (min z (x.dl - now - (nd + x.pos))) := by
  rw [dropT_at h]; rfl
theorem lstGo_end {now : Int} {s : List Lf} {k : Nat} (h : s.length ≤ k) (nd z : Int) : lstGo now (s.drop k) nd z = z := by
  rw [List.drop_eq_nil_of_le h]; rfl
theorem pos_max (x : Lf) : max x.need 0 = x.pos := by unfold Lf.pos; split <;> omega
theorem pos_le {x : Lf} (h : x.need ≤ 1000000) : x.pos ≤ 1000000 := by unfold Lf.pos; split <;> omega
end Go.Proofs.YtcohodpaagpfgaaDoor
