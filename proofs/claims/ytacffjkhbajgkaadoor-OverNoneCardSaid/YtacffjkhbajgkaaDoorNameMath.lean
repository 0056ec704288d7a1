/- What package name answers, as functions of bytes and runes: no program is run in this text. -/
import Derived.Lib.DecodeN
import Derived.Laws.RangeAny
import Derived.Lib.IsU
namespace Go.Proofs.YtacffjkhbajgkaaDoor
open Go.Lib
set_option linter.unusedVariables false
set_option linter.unusedSimpArgs false

/-! Runes -/
theorem dec_pos (s : ByteArray) (pos : Nat) : 1 ≤ (Utf8.decode s pos).2 := by
  rw [decode_at]; unfold decodeN
  repeat' split
  all_goals simp

theorem decN_run (n b0 b1 b2 b3 : Nat) (hn : 0 < n) (j : Nat) (hj : j < (decodeN n b0 b1 b2 b3).2) :
    j < n ∧ (j = 1 → 128 ≤ b1) ∧ (j = 2 → 128 ≤ b2) ∧ (j = 3 → 128 ≤ b3) ∧ j ≤ 3 ∧ (0 < j → 128 ≤ b0) := by
  unfold decodeN at hj
  repeat' split at hj
  all_goals (simp only at hj; refine ⟨?_, ?_, ?_, ?_, ?_, ?_⟩ <;> omega)

theorem dec_run (s : ByteArray) (pos : Nat) (h : pos < s.size) (j : Nat) (hj : j < (Utf8.decode s pos).2) (h0 : 128 ≤ (s.get! pos).toNat) : pos + j < s.size ∧ 128 ≤ (s.get! (pos + j)).toNat := by
  rw [decode_at] at hj
  obtain ⟨h1, h2, h3, h4, h5, _⟩ := decN_run _ _ _ _ _ (by omega) j hj
  refine ⟨by omega, ?_⟩
  match j, h5 with
  | 0, _ => exact h0
  | 1, _ => exact h2 rfl
  | 2, _ => exact h3 rfl
  | 3, _ => exact h4 rfl

theorem dec_end (s : ByteArray) (pos : Nat) (h : pos < s.size) : pos + (Utf8.decode s pos).2 ≤ s.size := by
  have hp := dec_pos s pos
  rw [decode_at] at hp ⊢
  obtain ⟨h1, _⟩ := decN_run (s.size - pos) (s.get! pos).toNat (s.get! (pos + 1)).toNat (s.get! (pos + 2)).toNat (s.get! (pos + 3)).toNat (by omega) ((decodeN (s.size - pos) (s.get! pos).toNat (s.get! (pos + 1)).toNat (s.get! (pos + 2)).toNat (s.get! (pos + 3)).toNat).2 - 1) (by omega)
  omega

theorem dec_low (s : ByteArray) (pos : Nat) (h0 : (s.get! pos).toNat < 128) : Utf8.decode s pos = ((s.get! pos).toNat, 1) := by
  rw [decode_at]; unfold decodeN; rw [if_pos h0]

theorem dec_high (s : ByteArray) (pos : Nat) (h0 : 128 ≤ (s.get! pos).toNat) : 128 ≤ (Utf8.decode s pos).1 := by
  rw [decode_at]; unfold decodeN
  rw [if_neg (by omega)]
  repeat' split
  all_goals (simp only; omega)

theorem dec_le (s : ByteArray) (pos : Nat) : (Utf8.decode s pos).1 ≤ 1114111 := by
  have h0 := (s.get! pos).toNat_lt
  rw [decode_at]; unfold decodeN
  repeat' split
  all_goals (simp only; omega)

set_option maxHeartbeats 4000000 in
set_option maxRecDepth 100000 in
theorem decN_cut (n n' b0 b1 b2 b3 c1 c2 c3 : Nat) (hn : n' ≤ n) (hp : 0 < n') (hw : (decodeN n b0 b1 b2 b3).2 ≤ n') (h1 : 1 < n' → c1 = b1) (h2 : 2 < n' → c2 = b2) (h3 : 3 < n' → c3 = b3) :
    decodeN n' b0 c1 c2 c3 = decodeN n b0 b1 b2 b3 := by
  by_cases g3 : 3 < n'
  · rw [h1 (by omega), h2 (by omega), h3 g3]
    unfold decodeN
    simp only [show (1 < n') = True by simp; omega, show (2 < n') = True by simp; omega, show (3 < n') = True by simp; omega, show (1 < n) = True by simp; omega, show (2 < n) = True by simp; omega, show (3 < n) = True by simp; omega]
  · by_cases g2 : 2 < n'
    · obtain rfl : n' = 3 := by omega
      rw [h1 (by omega), h2 (by omega)]
      unfold decodeN at hw ⊢
      repeat' split at hw
      all_goals repeat' split
      all_goals first | rfl | (exfalso; simp only at hw; omega) | (exfalso; omega)
    · by_cases g1 : 1 < n'
      · obtain rfl : n' = 2 := by omega
        rw [h1 (by omega)]
        unfold decodeN at hw ⊢
        repeat' split at hw
        all_goals repeat' split
        all_goals first | rfl | (exfalso; simp only at hw; omega) | (exfalso; omega)
      · obtain rfl : n' = 1 := by omega
        unfold decodeN at hw ⊢
        repeat' split at hw
        all_goals repeat' split
        all_goals first | rfl | (exfalso; simp only at hw; omega) | (exfalso; omega)

theorem get_data (s : ByteArray) (k : Nat) : s.get! k = s.data.toList.getD k 0 := by
  by_cases h : k < s.size
  · have h2 : k < s.data.size := h
    simp only [ByteArray.get!, Array.getElem!_eq_getD, Array.getD_eq_getD_getElem?, List.getD_eq_getElem?_getD, Array.getElem?_toList]
    rfl
  · have h2 : ¬ k < s.data.size := h
    simp only [ByteArray.get!, Array.getElem!_eq_getD, Array.getD_eq_getD_getElem?, List.getD_eq_getElem?_getD, Array.getElem?_toList]
    rfl

theorem get_idx (s : ByteArray) (k : Nat) (h : k < s.size) : s.get! k = s[k]'h := by
  rw [get_data]
  have h2 : k < s.data.toList.length := by simpa using h
  rw [List.getD_eq_getElem?_getD, List.getElem?_eq_getElem h2]
  simp
  rfl

theorem dec_cut (s : ByteArray) (pos i : Nat) (h : pos < i) (hi : pos + (Utf8.decode s pos).2 ≤ i) (hs : i ≤ s.size) : Utf8.decode (s.extract 0 i) pos = Utf8.decode s pos := by
  have hsz : (s.extract 0 i).size = i := by rw [ByteArray.size_extract]; omega
  have hg : ∀ k, k < i → (s.extract 0 i).get! k = s.get! k := by
    intro k hk
    rw [get_data, get_data, ByteArray.data_extract]
    simp [List.getD_eq_getElem?_getD, hk]
  rw [decode_at] at hi
  rw [decode_at, decode_at, hsz, hg pos h]
  refine decN_cut _ _ _ _ _ _ _ _ _ (by omega) (by omega) (by omega) ?_ ?_ ?_
  · intro h1; rw [hg _ (by omega)]
  · intro h1; rw [hg _ (by omega)]
  · intro h1; rw [hg _ (by omega)]

/-- The runes from a place on, each with its place. -/
def rsF (s : ByteArray) : Nat → Nat → List (Nat × Nat)
  | 0, _ => []
  | f + 1, pos => if pos < s.size then (pos, (Utf8.decode s pos).1) :: rsF s f (pos + (Utf8.decode s pos).2) else []
theorem rsF_end (s : ByteArray) (f pos : Nat) (h : ¬ pos < s.size) : rsF s f pos = [] := by
  cases f with
  | zero => rfl
  | succ f => simp [rsF, h]
theorem rsF_fuel (s : ByteArray) : ∀ (f g pos : Nat), s.size ≤ pos + f → s.size ≤ pos + g → rsF s f pos = rsF s g pos
  | 0, g, pos, hf, hg => by rw [rsF_end s 0 pos (by omega), rsF_end s g pos (by omega)]
  | f + 1, 0, pos, hf, hg => by rw [rsF_end s 0 pos (by omega), rsF_end s _ pos (by omega)]
  | f + 1, g + 1, pos, hf, hg => by
    have := dec_pos s pos
    by_cases h : pos < s.size
    · simp only [rsF, if_pos h]
      rw [rsF_fuel s f g _ (by omega) (by omega)]
    · rw [rsF_end s _ pos h, rsF_end s _ pos h]
def rsAt (s : ByteArray) (pos : Nat) : List (Nat × Nat) := rsF s s.size pos
theorem rsAt_end (s : ByteArray) (pos : Nat) (h : ¬ pos < s.size) : rsAt s pos = [] := rsF_end s _ pos h
theorem rsAt_step (s : ByteArray) (pos : Nat) (h : pos < s.size) : rsAt s pos = (pos, (Utf8.decode s pos).1) :: rsAt s (pos + (Utf8.decode s pos).2) := by
  have := dec_pos s pos
  unfold rsAt
  rw [rsF_fuel s s.size ((s.size - 1) + 1) pos (by omega) (by omega)]
  simp only [rsF, if_pos h]
  rw [rsF_fuel s (s.size - 1) s.size _ (by omega) (by omega)]

theorem rsAt_len (s : ByteArray) : ∀ (f pos : Nat), s.size ≤ pos + f → pos ≤ s.size → (rsAt s pos).length + pos ≤ s.size
  | 0, pos, h, h2 => by rw [rsAt_end s pos (by omega)]; simp; omega
  | f + 1, pos, h, h2 => by
    by_cases hp : pos < s.size
    · have := dec_pos s pos
      have := dec_end s pos hp
      rw [rsAt_step s pos hp]
      have := rsAt_len s f (pos + (Utf8.decode s pos).2) (by omega) (by omega)
      simp; omega
    · rw [rsAt_end s pos hp]; simp; omega

/-! Good -/
def okR (x : Nat × Nat) : Bool := (isLetterU x.2 || (decide (48 ≤ x.2) && decide (x.2 ≤ 57) || x.2 == 95)) && (x.1 != 0 || isLetterU x.2)
def goodB (s : ByteArray) : Bool := decide (1 ≤ (rsAt s 0).length) && (decide ((rsAt s 0).length ≤ 20) && (rsAt s 0).all okR)

/-! The beginnings of a text, and a digit more -/
theorem rs_cut (s : ByteArray) (i : Nat) (hi : i ≤ s.size) : ∀ (f pos : Nat), i ≤ pos + f → (∃ a, rsAt s pos = a ++ rsAt s i) → pos ≤ i → rsAt s pos = rsAt (s.extract 0 i) pos ++ rsAt s i
  | f, pos, h, hpre, hpi => by
    have hsz : (s.extract 0 i).size = i := by rw [ByteArray.size_extract]; omega
    by_cases he : pos = i
    · subst he
      rw [rsAt_end (s.extract 0 pos) pos (by omega)]; rfl
    · have hp : pos < s.size := by omega
      obtain ⟨a, ha⟩ := hpre
      have hw := dec_pos s pos
      have hwe := dec_end s pos hp
      rw [rsAt_step s pos hp] at ha
      have hk : pos + (Utf8.decode s pos).2 ≤ i := by
        rcases Nat.lt_or_ge i (pos + (Utf8.decode s pos).2) with hlt | hge
        · exfalso
          have hia : i < s.size := by omega
          rw [rsAt_step s i hia] at ha
          cases a with
          | nil => simp at ha; omega
          | cons b a =>
            simp only [List.cons_append, List.cons.injEq] at ha
            have hall : ∀ (f q : Nat), s.size ≤ q + f → ∀ x ∈ rsAt s q, q ≤ x.1 := by
              intro f
              induction f with
              | zero => intro q hq x hx; rw [rsAt_end s q (by omega)] at hx; simp at hx
              | succ f ih =>
                intro q hq x hx
                by_cases hqs : q < s.size
                · have := dec_pos s q
                  rw [rsAt_step s q hqs] at hx
                  rcases List.mem_cons.1 hx with rfl | hx
                  · exact Nat.le_refl _
                  · have := ih _ (by omega) x hx; omega
                · rw [rsAt_end s q hqs] at hx; simp at hx
            have hm : (i, (Utf8.decode s i).1) ∈ rsAt s (pos + (Utf8.decode s pos).2) := by rw [ha.2]; simp
            have := hall s.size _ (by omega) _ hm
            simp at this; omega
        · exact hge
      match f, h with
      | 0, h => omega
      | f + 1, h =>
        have hd := dec_cut s pos i (by omega) hk hi
        rw [rsAt_step s pos hp, rsAt_step (s.extract 0 i) pos (by omega), hd]
        have hne : ∃ a', rsAt s (pos + (Utf8.decode s pos).2) = a' ++ rsAt s i := by
          cases a with
          | nil =>
            exfalso
            simp only [List.nil_append] at ha
            have := congrArg List.length ha
            have hia : ¬ i < s.size ∨ i < s.size := by omega
            rcases hia with h1 | h1
            · rw [rsAt_end s i h1] at ha; simp at ha
            · rw [rsAt_step s i h1] at ha
              simp at ha; omega
          | cons b a => simp only [List.cons_append, List.cons.injEq] at ha; exact ⟨a, ha.2⟩
        rw [rs_cut s i hi f _ (by omega) hne hk]
        rfl

theorem good_cut (s : ByteArray) (i : Nat) (h0 : 0 < i) (hi : i ≤ s.size) (hpre : ∃ a, rsAt s 0 = a ++ rsAt s i) (hg : goodB s = true) : goodB (s.extract 0 i) = true := by
  have hc := rs_cut s i hi i 0 (by omega) hpre (by omega)
  have hsz : (s.extract 0 i).size = i := by rw [ByteArray.size_extract]; omega
  have h1 : 1 ≤ (rsAt (s.extract 0 i) 0).length := by rw [rsAt_step _ 0 (by omega)]; simp
  unfold goodB at hg ⊢
  rw [hc] at hg
  simp only [Bool.and_eq_true, decide_eq_true_eq, List.length_append, List.all_append] at hg ⊢
  exact ⟨h1, by omega, hg.2.2.1⟩

theorem size_data (s : ByteArray) : s.size = s.data.toList.length := Array.length_toList.symm
theorem rs_more (s t : ByteArray) (ht : t.data.toList = s.data.toList ++ [55]) : ∀ (f pos : Nat), s.size ≤ pos + f → pos ≤ s.size → rsAt t pos = rsAt s pos ++ [(s.size, 55)] := by
  have hsz : t.size = s.size + 1 := by rw [size_data, size_data, ht]; simp
  have hget : ∀ k, k < s.size → t.get! k = s.get! k := by
    intro k hk
    rw [get_data, get_data, ht]
    have : k < s.data.toList.length := by rw [← size_data]; exact hk
    rw [List.getD_eq_getElem?_getD, List.getD_eq_getElem?_getD, List.getElem?_append_left this]
  have hlast : (t.get! s.size).toNat = 55 := by
    rw [get_data, ht, size_data, List.getD_eq_getElem?_getD, List.getElem?_append_right (Nat.le_refl _), Nat.sub_self]
    rfl
  have hex : t.extract 0 s.size = s := by
    apply ByteArray.ext
    rw [ByteArray.data_extract]
    apply Array.ext'
    rw [Array.toList_extract, ht, size_data]
    simp [List.extract]
  have hend : ∀ pos, pos = s.size → rsAt t pos = rsAt s pos ++ [(s.size, 55)] := by
    intro pos hp
    subst hp
    rw [rsAt_end s _ (by omega), rsAt_step t _ (by omega), dec_low t _ (by rw [hlast]; decide), hlast, rsAt_end t _ (by simp only; omega)]
    rfl
  intro f
  induction f with
  | zero => intro pos h h2; exact hend pos (by omega)
  | succ f ih =>
    intro pos h h2
    by_cases hp : pos < s.size
    · have hw := dec_pos s pos
      have hwe := dec_end s pos hp
      have hd : Utf8.decode t pos = Utf8.decode s pos := by
        by_cases hlow : (s.get! pos).toNat < 128
        · rw [dec_low _ _ hlow, dec_low _ _ (by rw [hget _ hp]; exact hlow), hget _ hp]
        · have hk : pos + (Utf8.decode t pos).2 ≤ s.size := by
            rcases Nat.lt_or_ge s.size (pos + (Utf8.decode t pos).2) with hlt | hge
            · exfalso
              have := (dec_run t pos (by omega) (s.size - pos) (by omega) (by rw [hget _ hp]; omega)).2
              rw [show pos + (s.size - pos) = s.size by omega, hlast] at this
              omega
            · exact hge
          have := dec_cut t pos s.size hp hk (by omega)
          rw [hex] at this
          exact this.symm
      rw [rsAt_step s pos hp, rsAt_step t pos (by omega), hd, ih _ (by omega) hwe]
      rfl
    · exact hend pos (by omega)

theorem good_more (s t : ByteArray) (ht : t.data.toList = s.data.toList ++ [55]) (hg : goodB s = true) : goodB t = decide ((rsAt s 0).length < 20) := by
  have h0 := rs_more s t ht s.size 0 (by omega) (by omega)
  unfold goodB at hg ⊢
  rw [h0]
  simp only [Bool.and_eq_true, decide_eq_true_eq] at hg
  obtain ⟨g1, g2, g3⟩ := hg
  have hs0 : s.size ≠ 0 := by
    intro hz
    rw [rsAt_end s 0 (by omega)] at g1; simp at g1
  have hok : okR (s.size, 55) = true := by
    unfold okR
    rw [show (s.size != 0) = true by simpa using hs0]
    simp
  rw [List.all_append, g3]
  simp only [List.length_append, List.length_singleton, List.all_cons, List.all_nil, hok, Bool.and_true]
  rw [decide_eq_true (show 1 ≤ (rsAt s 0).length + 1 by omega), Bool.true_and]
  by_cases h : (rsAt s 0).length < 20
  · rw [decide_eq_true h, decide_eq_true (by omega)]
  · rw [decide_eq_false h, decide_eq_false (by omega)]
end Go.Proofs.YtacffjkhbajgkaaDoor
