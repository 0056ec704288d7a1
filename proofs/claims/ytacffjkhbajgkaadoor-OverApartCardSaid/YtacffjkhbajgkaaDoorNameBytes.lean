/- Words, numbers and fields, as functions of bytes: no program is run in this text. -/
import Derived.Test.YtacffjkhbajgkaaDoorNameMath
import Derived.Laws.Strings3
namespace Go.Proofs.YtacffjkhbajgkaaDoor
open Go.Lib
set_option linter.unusedVariables false
set_option linter.unusedSimpArgs false

/-- A text of these bytes. -/
def bs (l : List UInt8) : ByteArray := ⟨l.toArray⟩
theorem bs_data (l : List UInt8) : (bs l).data.toList = l := by simp [bs]
theorem bs_size (l : List UInt8) : (bs l).size = l.length := by rw [size_data, bs_data]
theorem bs_of (s : ByteArray) : bs s.data.toList = s := by apply ByteArray.ext; simp [bs]
theorem bs_inj {a b : List UInt8} (h : bs a = bs b) : a = b := by rw [← bs_data a, h, bs_data]
theorem bs_add (a b : List UInt8) : bs a ++ bs b = bs (a ++ b) := by apply ByteArray.ext; rw [ByteArray.data_append]; apply Array.ext'; simp [bs]
theorem bs_list (l : List UInt8) : (bs l).toList = l := by rw [ByteArray.toList_eq, bs_data]
theorem to_list (s : ByteArray) : s.toList = s.data.toList := ByteArray.toList_eq s
theorem ext_bs (s : ByteArray) (a b : Nat) : s.extract a b = bs ((s.data.toList.drop a).take (b - a)) := by
  rw [← bs_of s, bs_data]; exact ByteArray.extract_mk _ _ _
/-- The bytes from a to b. -/
def sub (s : ByteArray) (a b : Nat) : List UInt8 := (s.data.toList.drop a).take (b - a)
theorem ext_sub (s : ByteArray) (a b : Nat) : s.extract a b = bs (sub s a b) := ext_bs s a b
theorem sub_len (s : ByteArray) (a b : Nat) (h : b ≤ s.size) : (sub s a b).length = b - a := by
  rw [size_data] at h
  unfold sub
  rw [List.length_take, List.length_drop]; omega
theorem sub_self (s : ByteArray) (a : Nat) : sub s a a = [] := by simp [sub]
theorem sub_end (s : ByteArray) (a : Nat) : sub s a s.size = s.data.toList.drop a := by
  unfold sub
  rw [List.take_of_length_le]
  rw [size_data]; simp
theorem sub_all (s : ByteArray) (b : Nat) : sub s 0 b = s.data.toList.take b := by simp [sub]
theorem drop_at (s : ByteArray) (k : Nat) (h : k < s.size) : s.data.toList.drop k = s.get! k :: s.data.toList.drop (k + 1) := by
  have h2 : k < s.data.toList.length := by rw [← size_data]; exact h
  rw [get_data, List.drop_eq_getElem_cons h2, List.getD_eq_getElem?_getD, List.getElem?_eq_getElem h2]; rfl
theorem sub_snoc (s : ByteArray) (a k : Nat) (ha : a ≤ k) (h : k < s.size) : sub s a (k + 1) = sub s a k ++ [s.get! k] := by
  have h2 : k < s.data.toList.length := by rw [← size_data]; exact h
  unfold sub
  rw [show k + 1 - a = (k - a) + 1 by omega, List.take_add_one, List.getElem?_drop, show a + (k - a) = k by omega, get_data, List.getD_eq_getElem?_getD, List.getElem?_eq_getElem h2]
  rfl

/-! Words -/
def blank (b : UInt8) : Bool := b.toNat == 32 || b.toNat == 9
/-- What is left of a text, behind a word begun. -/
def wgo : List UInt8 → List UInt8 → List (List UInt8)
  | cur, [] => if cur = [] then [] else [cur]
  | cur, b :: r => if blank b then (if cur = [] then wgo [] r else cur :: wgo [] r) else wgo (cur ++ [b]) r
def wordsL (l : List UInt8) : List (List UInt8) := wgo [] l
def wordsB (s : ByteArray) : List ByteArray := (wordsL s.data.toList).map bs

theorem wgo_blank (cur : List UInt8) (s : ByteArray) (k : Nat) (h : k < s.size) (hb : blank (s.get! k) = true) :
    wgo cur (s.data.toList.drop k) = (if cur = [] then [] else [cur]) ++ wgo [] (s.data.toList.drop (k + 1)) := by
  rw [drop_at s k h, wgo, if_pos hb]
  split <;> simp
theorem wgo_more (cur : List UInt8) (s : ByteArray) (k : Nat) (h : k < s.size) (hb : blank (s.get! k) = false) :
    wgo cur (s.data.toList.drop k) = wgo (cur ++ [s.get! k]) (s.data.toList.drop (k + 1)) := by
  rw [drop_at s k h, wgo, if_neg (by simp [hb])]
/-- Bytes that are no blanks go into the word. -/
theorem wgo_run (s : ByteArray) (st k : Nat) (hst : st ≤ k) : ∀ (m : Nat), k + m ≤ s.size → (∀ j, j < m → blank (s.get! (k + j)) = false) →
    wgo (sub s st k) (s.data.toList.drop k) = wgo (sub s st (k + m)) (s.data.toList.drop (k + m))
  | 0, _, _ => rfl
  | m + 1, hm, hb => by
    rw [wgo_run s st k hst m (by omega) (fun j hj => hb j (by omega)), wgo_more _ s (k + m) (by omega) (hb m (by omega)), ← sub_snoc s st (k + m) (by omega) (by omega)]
    rfl
theorem blank_high (b : UInt8) (h : 128 ≤ b.toNat) : blank b = false := by
  unfold blank
  rw [show (b.toNat == 32) = false by simp; omega, show (b.toNat == 9) = false by simp; omega]; rfl

theorem wgo_ne : ∀ (l cur : List UInt8), ∀ x ∈ wgo cur l, x ≠ []
  | [], cur, x, hx => by
    unfold wgo at hx
    split at hx
    · simp at hx
    · simp at hx; subst hx; assumption
  | b :: l, cur, x, hx => by
    unfold wgo at hx
    split at hx
    · split at hx
      · exact wgo_ne l [] x hx
      · rcases List.mem_cons.1 hx with rfl | hx
        · assumption
        · exact wgo_ne l [] x hx
    · exact wgo_ne l _ x hx
theorem wgo_flat : ∀ (l cur : List UInt8), (wgo cur l).flatten = cur ++ l.filter (fun b => !blank b)
  | [], cur => by unfold wgo; split <;> simp_all
  | b :: l, cur => by
    unfold wgo
    split
    · rename_i hb
      split
      · rename_i hc; rw [wgo_flat l []]; simp [hb, hc]
      · rw [List.flatten_cons, wgo_flat l []]; simp [hb]
    · rename_i hb
      rw [wgo_flat l]; simp [hb]
theorem wgo_nob : ∀ (l cur : List UInt8), (∀ b ∈ cur, blank b = false) → ∀ x ∈ wgo cur l, ∀ b ∈ x, blank b = false
  | [], cur, hc, x, hx => by
    unfold wgo at hx
    split at hx
    · simp at hx
    · simp at hx; subst hx; exact hc
  | b :: l, cur, hc, x, hx => by
    unfold wgo at hx
    split at hx
    · split at hx
      · exact wgo_nob l [] (by simp) x hx
      · rcases List.mem_cons.1 hx with rfl | hx
        · exact hc
        · exact wgo_nob l [] (by simp) x hx
    · rename_i hb
      refine wgo_nob l _ (fun c hcm => ?_) x hx
      rcases List.mem_append.1 hcm with h | h
      · exact hc c h
      · simp at h; subst h; simpa using hb
theorem wgo_in : ∀ (x rest cur : List UInt8), (∀ b ∈ x, blank b = false) → wgo cur (x ++ rest) = wgo (cur ++ x) rest
  | [], rest, cur, _ => by simp
  | b :: x, rest, cur, h => by
    rw [List.cons_append, wgo, if_neg (by simp [h b (by simp)]), wgo_in x rest _ (fun c hc => h c (by simp [hc]))]
    simp
/-- The words, each with two blanks ahead. -/
def joinL (ws : List (List UInt8)) : List UInt8 := (ws.map fun w => [32, 32] ++ w).flatten
theorem wgo_join : ∀ (ws : List (List UInt8)) (cur : List UInt8), (∀ x ∈ ws, x ≠ [] ∧ ∀ b ∈ x, blank b = false) → wgo cur (joinL ws) = (if cur = [] then [] else [cur]) ++ ws
  | [], cur, _ => by simp [joinL, wgo]
  | x :: ws, cur, h => by
    have hx := h x (by simp)
    have e : joinL (x :: ws) = 32 :: 32 :: (x ++ joinL ws) := by simp [joinL]
    rw [e, wgo, if_pos (by decide)]
    have h2 : wgo [] (32 :: (x ++ joinL ws)) = x :: ws := by
      rw [wgo, if_pos (by decide), if_pos rfl, wgo_in x _ [] hx.2, wgo_join ws _ (fun y hy => h y (by simp [hy]))]
      simp [hx.1]
    rw [h2]
    split <;> simp
theorem words_join (l : List UInt8) : wordsL (joinL (wordsL l)) = wordsL l := by
  have := wgo_join (wordsL l) [] (fun x hx => ⟨wgo_ne l [] x hx, wgo_nob l [] (by simp) x hx⟩)
  simpa [wordsL] using this
theorem joinL_snoc (ws : List (List UInt8)) (w : List UInt8) : joinL (ws ++ [w]) = joinL ws ++ ([32, 32] ++ w) := by simp [joinL]

theorem wgo_len : ∀ (l cur : List UInt8), (wgo cur l).length ≤ l.length + 1 ∧ (cur = [] → (wgo cur l).length ≤ l.length)
  | [], cur => by unfold wgo; split <;> simp_all
  | b :: l, cur => by
    unfold wgo
    have h1 := wgo_len l []
    have h2 := wgo_len l (cur ++ [b])
    split
    · split <;> simp_all <;> omega
    · refine ⟨by simp; omega, fun _ => by simp; omega⟩
theorem words_len (l : List UInt8) : (wordsL l).length ≤ l.length := (wgo_len l []).2 rfl
theorem word_short : ∀ (l cur : List UInt8), ∀ x ∈ wgo cur l, x.length ≤ cur.length + l.length
  | [], cur, x, hx => by
    unfold wgo at hx
    split at hx
    · simp at hx
    · simp at hx; subst hx; simp
  | b :: l, cur, x, hx => by
    unfold wgo at hx
    split at hx
    · split at hx
      · have := word_short l [] x hx; simp at this; simp; omega
      · rcases List.mem_cons.1 hx with rfl | hx
        · simp
        · have := word_short l [] x hx; simp at this; simp; omega
    · have := word_short l _ x hx; simp at this; simp; omega

/-! Numbers -/
def dig (b : UInt8) : Bool := decide (48 ≤ b.toNat) && decide (b.toNat ≤ 57)
def numGo : Nat → Int → List UInt8 → Option Int
  | d, v, [] => if d = 0 then none else some v
  | d, v, b :: r => if dig b = true ∧ d ≠ 12 then numGo (d + 1) (v * 10 + ((b.toNat : Int) - 48)) r else none
def numL : List UInt8 → Option Int
  | [] => none
  | b :: r => if b.toNat = 45 then (numGo 0 0 r).map (fun v => -v) else numGo 0 0 (b :: r)
def numV (o : Option Int) : Int := o.getD 0

/-! Fields -/
def hasKey (key word : List UInt8) : Bool := (key ++ [61]).isPrefixOf word
def fieldL (key : List UInt8) : List (List UInt8) → Option (List UInt8)
  | [] => none
  | w :: ws => if hasKey key w = true then some (w.drop (key.length + 1)) else fieldL key ws
theorem hasKey_iff (key word : List UInt8) : hasKey key word = true ↔ word.take (key.length + 1) = key ++ [61] := by
  unfold hasKey
  rw [List.isPrefixOf_iff_prefix, List.prefix_iff_eq_take]
  simp
  exact eq_comm
theorem hasKey_at {key word : List UInt8} (h : hasKey key word = true) : word.take key.length = key ∧ key.length < word.length ∧ word.getD key.length 0 = 61 := by
  unfold hasKey at h
  rw [List.isPrefixOf_iff_prefix] at h
  obtain ⟨t, rfl⟩ := h
  refine ⟨by simp, by simp, by simp [List.getD_eq_getElem?_getD]⟩
theorem hasKey_of {key word : List UInt8} (h1 : word.take key.length = key) (h2 : key.length < word.length) (h3 : word.getD key.length 0 = 61) : hasKey key word = true := by
  rw [hasKey_iff, List.take_add_one, h1]
  rw [List.getD_eq_getElem?_getD, List.getElem?_eq_getElem h2] at h3
  rw [List.getElem?_eq_getElem h2]
  simp at h3
  simp [h3]
theorem field_first (key v rest : List UInt8) (hk : ∀ b ∈ key, blank b = false) (hv : ∀ b ∈ v, blank b = false) :
    fieldL key (wordsL (key ++ [61] ++ v ++ [32] ++ rest)) = some v := by
  have h : wordsL (key ++ [61] ++ v ++ [32] ++ rest) = (key ++ [61] ++ v) :: wordsL rest := by
    unfold wordsL
    rw [show key ++ [61] ++ v ++ [32] ++ rest = (key ++ [61] ++ v) ++ (32 :: rest) by simp, wgo_in _ _ _ (by
      intro b hb
      simp only [List.mem_append, List.mem_singleton] at hb
      rcases hb with (h | rfl) | h
      · exact hk b h
      · decide
      · exact hv b h), wgo, if_pos (by decide)]
    simp
  rw [h, fieldL, if_pos (by unfold hasKey; rw [List.isPrefixOf_iff_prefix]; exact ⟨v, rfl⟩)]
  simp [List.drop_append]
end Go.Proofs.YtacffjkhbajgkaaDoor
