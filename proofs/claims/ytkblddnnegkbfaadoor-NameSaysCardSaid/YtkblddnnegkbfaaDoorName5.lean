/- What follows a key: package name's answer and the document's own. -/
import Derived.Test.YtkblddnnegkbfaaDoorName4
namespace Go.Proofs.YtkblddnnegkbfaaDoor
open Go.RowKit Go.Lib Go.PlainAid
set_option linter.unusedVariables false
set_option linter.unusedSimpArgs false

def optT (o : Option (List UInt8)) : Value := .tuple #[.string (bs (o.getD [])), .bool o.isSome]
def afterL (K L : List UInt8) : Option (List UInt8) := if hasKey K L = true then some (L.drop (K.length + 1)) else none

theorem ret_sb {a a' : List UInt8} {b b' : Bool} (h1 : a = a') (h2 : b = b') : Ending.returned (.tuple #[.string (bs a), .bool b]) = .returned (.tuple #[.string (bs a'), .bool b']) := by rw [h1, h2]

set_option maxHeartbeats 1600000 in
set_option maxRecDepth 1000000 in
theorem after_any (s key : ByteArray) (w : World) (hs : s.size ≤ 1000000) : Calls Tryd.prog 24 #[.string s, .string key] w (RetB (optT (afterL key.data.toList s.data.toList)) w) := by
  obtain ⟨K, hK⟩ : ∃ K, key.data.toList = K := ⟨_, rfl⟩
  rw [hK]
  have hkl : key.toList = K := by rw [to_list, hK]
  clear hK
  replace hs : (s.size : Int) ≤ 1000000 := by omega
  obtain ⟨L, hL⟩ : ∃ L, s.data.toList = L := ⟨_, rfl⟩
  have hLz : s.size = L.length := by rw [← hL]; exact size_data s
  rw [hL]
  go_enter Tryd.func24, Tryd.ntmps24
  go_wp2
  go_loopw [] (fun wr => ∃ pos : Nat, wr = w.iter s pos ∧ pos ≤ s.size ∧ (hasKey K L = true → pos ≤ K.length)) (fun wr => s.size - wr.iterPos w.heap.size)
  case atStart => exact ⟨0, rfl, by omega, fun _ => by omega⟩
  case round =>
    obtain ⟨pos, rfl, hps, hkey⟩ := hrel
    by_cases hp : pos < s.size
    · have hnx : ∀ ty, (Instr.next (.pointer (some ⟨w.heap.size, 0, none⟩)) true ty).run Tryd.prog (w.iter s pos) = _ := fun ty => run_next_any w s pos ty hp
      have hnx2 : ∀ ty, (Instr.next (.pointer (some ⟨w.heap.size, 0, none⟩)) true ty).run Tryd.prog (w.iter s pos) = .ok (.tuple #[.bool true, .int .i64 (pos : Nat), .int .i32 ((Utf8.decode s pos).1 : Nat)]) (w.iter s (pos + (Utf8.decode s pos).2)) := hnx
      clear hnx
      have hwd := dec_pos s pos
      have hwe := dec_end s pos hp
      have hgl : ∀ j, s.get! j = L.getD j 0 := fun j => by rw [get_data, hL]
      have hlow : (s.get! pos).toNat < 128 → (Utf8.decode s pos).1 = (s.get! pos).toNat ∧ (Utf8.decode s pos).2 = 1 := fun h => by rw [dec_low s pos h]; exact ⟨rfl, rfl⟩
      have hhigh : 128 ≤ (s.get! pos).toNat → 128 ≤ (Utf8.decode s pos).1 ∧ ∀ j, j < (Utf8.decode s pos).2 → 128 ≤ (s.get! (pos + j)).toNat := fun h => ⟨dec_high s pos h, fun j hj => (dec_run s pos hp j hj h).2⟩
      have hex : s.extract 0 pos = bs (L.take pos) := by rw [ext_sub, sub_all, hL]
      have hXl : (L.take pos).length = pos := by rw [List.length_take]; omega
      have hex2 : s.extract (pos + 1) s.size = bs (L.drop (pos + 1)) := by rw [ext_sub, sub_end, hL]
      generalize (Utf8.decode s pos).1 = r at *
      generalize (Utf8.decode s pos).2 = k at *
      have hr61 : r = 61 → s.get! pos = 61 := fun h => by
        rcases Nat.lt_or_ge (s.get! pos).toNat 128 with h1 | h1
        · have := (hlow h1).1
          exact UInt8.toNat_inj.1 (by rw [← this, h]; rfl)
        · have := (hhigh h1).1; omega
      have hstop : r = 61 → L.take pos = K → hasKey K L = true ∧ pos = K.length := fun h1 h2 => by
        have e : pos = K.length := by rw [← h2, hXl]
        refine ⟨hasKey_of (by rw [← e]; exact h2) (by omega) (by rw [← e, ← hgl]; exact hr61 h1), e⟩
      have hgo : ¬ (r = 61 ∧ L.take pos = K) → hasKey K L = true → pos + k ≤ K.length := fun h1 h2 => by
        obtain ⟨a1, a2, a3⟩ := hasKey_at h2
        have h3 := hkey h2
        rw [← hgl] at a3
        rcases Nat.lt_or_ge (s.get! pos).toNat 128 with h4 | h4
        · obtain ⟨b1, b2⟩ := hlow h4
          rcases Nat.lt_or_ge pos K.length with h5 | h5
          · omega
          · exfalso
            have e : pos = K.length := by omega
            exact h1 ⟨by rw [b1, e, a3]; rfl, by rw [e]; exact a1⟩
        · rcases Nat.lt_or_ge K.length (pos + k) with h5 | h5
          · exfalso
            have := (hhigh h4).2 (K.length - pos) (by omega)
            rw [show pos + (K.length - pos) = K.length by omega, a3] at this
            exact absurd this (by decide)
          · exact h5
      clear hlow hhigh hr61 hgl
      have hsl : ∀ w', (Instr.slice 9 (.string s) none (some (.int .i64 (pos : Nat))) none).run Tryd.prog w' = .ok (.string (bs (L.take pos))) w' := fun w' => by
        rw [run_slice_string_to_if w' 9 s .i64 (pos : Nat) Tryd.underlying9, if_pos (by omega), show ((pos : Int)).toNat = pos by omega, hex]
      have hsl2 : ∀ w', (Instr.slice 9 (.string s) (some (.int .i64 ((pos : Nat) + 1))) none none).run Tryd.prog w' = .ok (.string (bs (L.drop (pos + 1)))) w' := fun w' => by
        rw [run_slice_string_from_if w' 9 s .i64 ((pos : Nat) + 1) Tryd.underlying9, if_pos (by omega), show ((pos : Int) + 1).toNat = pos + 1 by omega, hex2]
      have hXt := bs_list (L.take pos)
      clear hex hex2 hXl hkey hL
      generalize L.take pos = X at *
      by_cases h61 : r = 61
      · have h61' : ((r : Int) == 61) = true := by simp; omega
        by_cases hX : X = K
        · have hX' : (X == K) = true := by simp [hX]
          obtain ⟨hy, hpk⟩ := hstop h61 hX
          have hres : afterL K L = some (L.drop (pos + 1)) := by unfold afterL; rw [if_pos hy, hpk]
          replace hX := Lib.hid hX
          replace h61 := Lib.hid h61
          clear hstop hgo
          replace hpk := Lib.hid hpk
          replace hres := Lib.hid hres
          go_wp2
          go_ret2
          exact ⟨by rw [hres.out]; rfl, below_iter _ _ _⟩
        · have hX' : (X == K) = false := by simp [hX]
          replace hgo := Lib.hid (hgo (fun h => hX h.2))
          replace h61 := Lib.hid h61
          clear hstop
          go_wp2
          go_roundw
          case rel => exact ⟨pos + k, rfl, hwe, hgo.out⟩
          case measure => simp; omega
      · have h61' : ((r : Int) == 61) = false := by simp; omega
        replace hgo := Lib.hid (hgo (fun h => h61 h.1))
        clear hstop
        go_wp2
        go_roundw
        case rel => exact ⟨pos + k, rfl, hwe, hgo.out⟩
        case measure => simp; omega
    · have hnx : ∀ ty, (Instr.next (.pointer (some ⟨w.heap.size, 0, none⟩)) true ty).run Tryd.prog (w.iter s pos) = _ := fun ty => run_next_end w s pos ty hp
      have hres : afterL K L = none := by
        unfold afterL
        rw [if_neg (fun h => by have := hkey h; have := (hasKey_at h).2.1; omega)]
      go_wp2
      go_ret2
      exact ⟨by rw [hres]; rfl, below_iter _ _ _⟩
theorem field_step (K : List UInt8) (ws : List (List UInt8)) (k : Nat) (h : k < ws.length) : fieldL K (ws.drop k) = (match afterL K ws[k] with | some v => some v | none => fieldL K (ws.drop (k + 1))) := by
  rw [List.drop_eq_getElem_cons h, fieldL]
  unfold afterL
  split <;> rfl
theorem words_get (ws : List (List UInt8)) (k : Nat) (h : k < ws.length) : (ws.map bs).getD k ⟨#[]⟩ = bs ws[k] := by
  simp [List.getD_eq_getElem?_getD, h]
theorem word_size (s : ByteArray) (k : Nat) (h : k < (wordsL s.data.toList).length) : (wordsL s.data.toList)[k].length ≤ s.size := by
  have := word_short s.data.toList [] _ (List.getElem_mem h)
  rw [size_data]; simpa [wordsL] using this

set_option maxHeartbeats 1600000 in
set_option maxRecDepth 1000000 in
theorem field_any (s key : ByteArray) (w : World) (hs : s.size ≤ 1000000) : Calls Tryd.prog 11 #[.string s, .string key] w (RetB (optT (fieldL key.data.toList (wordsL s.data.toList))) w) := by
  have CW := words_any s w hs
  have hwl := words_len s.data.toList
  have hws := word_size s
  rw [← size_data] at hwl
  unfold wordsB at CW
  obtain ⟨K, hK⟩ : ∃ K, key.data.toList = K := ⟨_, rfl⟩
  rw [hK]
  generalize wordsL s.data.toList = ws at *
  obtain ⟨o, ho⟩ : ∃ o, fieldL K ws = o := ⟨_, rfl⟩
  rw [ho]
  have hlm : (ws.map bs).length = ws.length := by simp
  have CW2 : Calls Tryd.prog 14 #[.string s] w fun e w' => ∃ A c, e = .returned (.slice A ws.length c) ∧ ReadsS w' A (ws.map bs) ∧ Below w.heap.size w w' := CW.mono fun e w' ⟨A, c, h1, h2⟩ => ⟨A, c, by rw [h1, hlm], h2⟩
  clear CW
  have C := fun (x : List UInt8) (hx : x.length ≤ 1000000) w => after_any (bs x) key w (by rw [bs_size]; exact hx)
  rw [hK] at C
  simp only [bs_data] at C
  replace C := Lib.hid C
  replace CW2 := Lib.hid CW2
  clear hK
  go_enter Tryd.func11, Tryd.ntmps11
  go_wp2_with fail
  refine CW2.out.mono ?_; rintro e lw ⟨A, c, rfl, hrd, l⟩
  replace hrd := Lib.hid hrd
  replace hws := Lib.hid hws
  replace hs := Lib.hid hs
  have hwl2 : (ws.length : Int) ≤ 1000000 := by have := hs.out; omega
  go_wp2
  go_loopw [13] (fun i wr => ∃ k : Nat, i = .int .i64 (k : Nat) ∧ Below lw.heap.size lw wr ∧ k ≤ ws.length ∧ fieldL K (ws.drop k) = o) (fun i _ => ws.length - (intOf i).toNat)
  case atStart => exact ⟨0, rfl, Below.refl _ _, by omega, ho⟩
  case round =>
    obtain ⟨k, rfl, hbw, hk, hgo⟩ := hrel
    clear ho
    by_cases hp : k < ws.length
    · obtain ⟨b, off, rfl, hc⟩ := hrd.out k (by rw [hlm]; exact hp)
      have hcw : wr.cell? ⟨b, off + k, none⟩ = some (.string (bs ws[k])) := by rw [← words_get ws k hp]; exact (hbw.cell (World.block_lt_of_cell? lw _ hc)).trans hc
      have hx := hws.out k hp
      have cA := C.out ws[k] (by have := hs.out; omega)
      rw [field_step K ws k hp] at hgo
      generalize ws[k] = x at *
      clear hc hx hlm C
      replace hbw := Lib.hid hbw
      cases ha : afterL K x with
      | none =>
        rw [ha] at hgo cA
        replace cA := Lib.hid (fun w => (show Calls Tryd.prog 24 #[.string (bs x), .string key] w (RetB (.tuple #[.string (bs []), .bool false]) w) from cA w))
        clear ha
        replace hgo := Lib.hid hgo
        go_wp2_with fail
        refine (cA.out _).mono ?_; rintro e gw ⟨rfl, g⟩
        go_wp2
        go_roundw
        case rel => exact ⟨k + 1, by simp, below_on hbw.out g, by omega, hgo.out⟩
        case measure => simp [intOf]; omega
      | some v =>
        rw [ha] at hgo cA
        replace cA := Lib.hid (fun w => (show Calls Tryd.prog 24 #[.string (bs x), .string key] w (RetB (.tuple #[.string (bs v), .bool true]) w) from cA w))
        clear ha
        simp only at hgo
        subst hgo
        go_wp2_with fail
        refine (cA.out _).mono ?_; rintro e gw ⟨rfl, g⟩
        go_wp2
        go_ret2
        exact ⟨rfl, below_on l (below_on hbw.out g)⟩
    · obtain rfl : k = ws.length := by omega
      rw [List.drop_length, fieldL] at hgo
      subst hgo
      go_wp2
      go_ret2
      exact ⟨rfl, below_on l hbw⟩

theorem hasKey_len {K x : List UInt8} : hasKey K x = (decide (K.length + 1 ≤ x.length) && (x.take (K.length + 1) == K ++ [61])) := by
  rw [Bool.eq_iff_iff, hasKey_iff]
  simp only [Bool.and_eq_true, decide_eq_true_eq, beq_iff_eq]
  refine ⟨fun h => ⟨?_, h⟩, fun h => h.2⟩
  have := congrArg List.length h
  simp at this; omega

set_option maxHeartbeats 1600000 in
set_option maxRecDepth 1000000 in
theorem rfield_any (s key : ByteArray) (w : World) (hs : s.size ≤ 1000000) (hkz : key.size ≤ 1000000) : Calls Tryd.prog 16 #[.string s, .string key] w (RetB (optT (fieldL key.data.toList (wordsL s.data.toList))) w) := by
  have CW := rwords_any s w hs
  have hwl := words_len s.data.toList
  have hws := word_size s
  rw [← size_data] at hwl
  unfold wordsB at CW
  have hadd : key ++ (⟨#[61]⟩ : ByteArray) = bs (key.data.toList ++ [61]) := by rw [← bs_add, bs_of]; rfl
  have hkz2 : (key.size : Int) ≤ 1000000 := by omega
  have hkl : key.size = key.data.toList.length := size_data key
  generalize key.data.toList = K at *
  generalize wordsL s.data.toList = ws at *
  obtain ⟨o, ho⟩ : ∃ o, fieldL K ws = o := ⟨_, rfl⟩
  rw [ho]
  have hlm : (ws.map bs).length = ws.length := by simp
  have CW2 : Calls Tryd.prog 20 #[.string s] w fun e w' => ∃ A c, e = .returned (.slice A ws.length c) ∧ ReadsS w' A (ws.map bs) ∧ Below w.heap.size w w' := CW.mono fun e w' ⟨A, c, h1, h2⟩ => ⟨A, c, by rw [h1, hlm], h2⟩
  clear CW
  replace CW2 := Lib.hid CW2
  have h61 : (⟨#[61]⟩ : ByteArray).size = 1 := rfl
  have hkK : (bs (K ++ [61])).size = K.length + 1 := by rw [bs_size]; simp
  have hkT : (bs (K ++ [61])).toList = K ++ [61] := bs_list _
  go_enter Tryd.func16, Tryd.ntmps16
  go_wp2_with fail
  refine CW2.out.mono ?_; rintro e lw ⟨A, c, rfl, hrd, l⟩
  replace hrd := Lib.hid hrd
  replace hws := Lib.hid hws
  replace hs := Lib.hid hs
  clear hkz
  have hwl2 : (ws.length : Int) ≤ 1000000 := by have := hs.out; omega
  have hKl2 : (K.length : Int) ≤ 1000000 := by omega
  go_wp2
  go_loopw [8] (fun i wr => ∃ k : Nat, i = .int .i64 (k : Nat) ∧ wr = lw ∧ k ≤ ws.length ∧ fieldL K (ws.drop k) = o) (fun i _ => ws.length - (intOf i).toNat)
  case atStart => exact ⟨0, rfl, rfl, by omega, ho⟩
  case round =>
    obtain ⟨k, rfl, rfl, hk, hgo⟩ := hrel
    clear ho
    by_cases hp : k < ws.length
    · obtain ⟨b, off, rfl, hc⟩ := hrd.out k (by rw [hlm]; exact hp)
      rw [words_get ws k hp] at hc
      have hx := hws.out k hp
      have hx2 : (ws[k].length : Int) ≤ 1000000 := by have := hs.out; omega
      rw [field_step K ws k hp] at hgo
      generalize ws[k] = x at *
      have hxz : (bs x).size = x.length := bs_size x
      have hke := @hasKey_len K x
      clear hx hlm
      unfold afterL at hgo
      by_cases hl : K.length + 1 ≤ x.length
      · have hsl : ∀ w', (Instr.slice 9 (.string (bs x)) none (some (.int .i64 ((K.length : Nat) + 1))) none).run Tryd.prog w' = .ok (.string (bs (x.take (K.length + 1)))) w' := fun w' => by
          rw [run_slice_string_to_if w' 9 (bs x) .i64 ((K.length : Nat) + 1) Tryd.underlying9, if_pos (by omega), show ((K.length : Int) + 1).toNat = K.length + 1 by omega, ext_sub, sub_all, bs_data]
        have hsl2 : ∀ w', (Instr.slice 9 (.string (bs x)) (some (.int .i64 ((K.length : Nat) + 1))) none none).run Tryd.prog w' = .ok (.string (bs (x.drop (K.length + 1)))) w' := fun w' => by
          rw [run_slice_string_from_if w' 9 (bs x) .i64 ((K.length : Nat) + 1) Tryd.underlying9, if_pos (by omega), show ((K.length : Int) + 1).toNat = K.length + 1 by omega, ext_sub, sub_end, bs_data]
        have hT := bs_list (x.take (K.length + 1))
        rw [decide_eq_true hl, Bool.true_and] at hke
        cases hy : hasKey K x with
        | true =>
          rw [hy] at hke
          rw [if_pos hy] at hgo
          simp only at hgo
          replace hke := hke.symm
          clear hy
          subst hgo
          go_wp2
          go_ret2
          exact ⟨rfl, l⟩
        | false =>
          rw [hy] at hke
          rw [if_neg (by simp [hy])] at hgo
          simp only at hgo
          replace hke := hke.symm
          clear hy
          replace hgo := Lib.hid hgo
          go_wp2
          go_roundw
          case rel => exact ⟨k + 1, by simp, by first | trivial | rfl, by omega, hgo.out⟩
          case measure => simp [intOf]; omega
      · rw [decide_eq_false hl, Bool.false_and] at hke
        rw [if_neg (by simp [hke])] at hgo
        simp only at hgo
        clear hke
        replace hgo := Lib.hid hgo
        go_wp2
        go_roundw
        case rel => exact ⟨k + 1, by simp, by first | trivial | rfl, by omega, hgo.out⟩
        case measure => simp [intOf]; omega
    · obtain rfl : k = ws.length := by omega
      rw [List.drop_length, fieldL] at hgo
      subst hgo
      go_wp2
      go_ret2
      exact ⟨rfl, l⟩
end Go.Proofs.YtkblddnnegkbfaaDoor
