/- The laws NameRunes, NameParts, NameWords. -/
import Derived.Test.YtkblddnnegkbfaaDoorNameAwake
namespace Go.Proofs.YtkblddnnegkbfaaDoor
open Go.RowKit Go.Lib Go.PlainAid
set_option linter.unusedVariables false
set_option linter.unusedSimpArgs false

set_option maxHeartbeats 1600000 in
set_option maxRecDepth 1000000 in
theorem NameRunes_ret (s : ByteArray) (w : World) (hL : Ltr w) : Calls Tryd.prog 6 #[.string s] w (RetB (.bool true) w) := by
  have AW := Lib.hid (awake_any w hL)
  by_cases h1 : s.size > 200
  · go_enter Tryd.func6, Tryd.ntmps6
    go_wp2_with fail
    refine AW.out.mono ?_; rintro e aw ⟨rfl, a⟩
    go_wp2
    go_ret
    exact ⟨rfl, a⟩
  have hs : (s.size : Int) ≤ 200 := by omega
  have C1 : ∀ w', Ltr w' → _ := fun w' h => good_any s w' (by omega) h
  cases hg : goodB s with
  | false =>
    rw [hg] at C1
    replace C1 := Lib.hid C1
    go_enter Tryd.func6, Tryd.ntmps6
    go_wp2_with fail
    refine AW.out.mono ?_; rintro e aw ⟨rfl, a⟩
    go_wp2_with fail
    refine (C1.out _ (hL.below a)).mono ?_; rintro e gw ⟨rfl, g⟩
    go_wp2
    go_ret
    exact ⟨rfl, below_on a g⟩
  | true =>
    rw [hg] at C1
    have C2 : ∀ w', _ := fun w' => len_any s w' (by omega)
    have hdat : (s ++ (⟨#[55]⟩ : ByteArray)).data.toList = s.data.toList ++ [55] := by rw [ByteArray.data_append]; simp
    have hsz7 : (s ++ (⟨#[55]⟩ : ByteArray)).size = s.size + 1 := by rw [ByteArray.size_append]; rfl
    have C3 : ∀ w', Ltr w' → _ := fun w' h => good_any (s ++ ⟨#[55]⟩) w' (by omega) h
    rw [good_more s _ hdat hg] at C3
    have C4 : ∀ pos, 0 < pos → pos ≤ s.size → (∃ a, rsAt s 0 = a ++ rsAt s pos) → ∀ w', Ltr w' → Calls Tryd.prog 12 #[.string (s.extract 0 pos)] w' (RetB (.bool true) w') := fun pos p1 p2 p3 w' h =>
      (good_any (s.extract 0 pos) w' (by rw [ByteArray.size_extract]; omega) h).mono fun e w2 hr => retB_val hr (by rw [good_cut s pos p1 p2 p3 hg])
    clear hdat hsz7
    obtain ⟨t, hadd⟩ : ∃ t, s ++ (⟨#[55]⟩ : ByteArray) = t := ⟨_, rfl⟩
    rw [hadd] at C3
    have h7 : (⟨#[55]⟩ : ByteArray).size = 1 := rfl
    obtain ⟨N, hN⟩ : ∃ N, (rsAt s 0).length = N := ⟨_, rfl⟩
    rw [hN] at C2 C3
    replace C1 := Lib.hid C1
    replace C2 := Lib.hid C2
    replace C3 := Lib.hid C3
    replace C4 := Lib.hid C4
    have hNle : N ≤ s.size := by have := rsAt_len s s.size 0 (by omega) (by omega); omega
    clear hg
    go_enter Tryd.func6, Tryd.ntmps6
    go_wp2_with fail
    refine AW.out.mono ?_; rintro e aw ⟨rfl, a⟩
    go_wp2_with fail
    refine (C1.out _ (hL.below a)).mono ?_; rintro e gw ⟨rfl, g⟩
    have hL1 := Lib.hid (hL.below (below_on a g))
    have B1 := Lib.hid (below_on a g)
    clear a g hL
    go_wp2
    go_loopw [3] (fun x wr => ∃ pos c : Nat, wr.heap[gw.heap.size]? = some (.stringIter s pos) ∧ Below gw.heap.size gw wr ∧ x = .int .i64 (c : Nat) ∧ c + (rsAt s pos).length = N ∧ pos ≤ s.size ∧ ∃ a, rsAt s 0 = a ++ rsAt s pos) (fun _ wr => s.size - wr.iterPos gw.heap.size)
    case atStart => exact ⟨0, 0, World.iter_heap gw s 0, below_iter gw s 0, rfl, by omega, by omega, [], rfl⟩
    case round =>
      obtain ⟨pos, c, hit, hbw, rfl, hc, hps, hpre⟩ := hrel
      have hszr : gw.heap.size < wr.heap.size := (Array.getElem?_eq_some_iff.1 hit).1
      by_cases hp : pos < s.size
      · have hnx : ∀ ty, (Instr.next (.pointer (some ⟨gw.heap.size, 0, none⟩)) true ty).run Tryd.prog wr = _ := fun ty => Lib.run_next_any_at wr gw.heap.size s pos ty hit hp
        have hwd := dec_pos s pos
        have hwe := dec_end s pos hp
        have hnx2 : ∀ ty, (Instr.next (.pointer (some ⟨gw.heap.size, 0, none⟩)) true ty).run Tryd.prog wr = .ok (.tuple #[.bool true, .int .i64 (pos : Nat), .int .i32 ((Utf8.decode s pos).1 : Nat)]) (wr.iterAt gw.heap.size s (pos + (Utf8.decode s pos).2)) := hnx
        clear hnx
        have hpre2 : ∃ a, rsAt s 0 = a ++ rsAt s (pos + (Utf8.decode s pos).2) := by
          obtain ⟨a, ha⟩ := hpre
          rw [rsAt_step s pos hp] at ha
          exact ⟨a ++ [(pos, (Utf8.decode s pos).1)], by rw [ha]; simp⟩
        rw [rsAt_step s pos hp, List.length_cons] at hc
        generalize (Utf8.decode s pos).1 = r at *
        generalize (Utf8.decode s pos).2 = k at *
        have hit2 := Lib.iterAt_heap wr gw.heap.size s pos (pos + k) hit
        have hbw2 := Lib.below_iterAt hbw (k := gw.heap.size) (Nat.le_refl _) s (pos + k)
        have hposr : wr.iterPos gw.heap.size = pos := by simp only [World.iterPos, hit]
        clear hit hbw
        generalize wr.iterAt gw.heap.size s (pos + k) = w2 at *
        have hsz2 : gw.heap.size < w2.heap.size := (Array.getElem?_eq_some_iff.1 hit2).1
        have hcb : (c : Int) ≤ 200 := by omega
        have F := Lib.hid (And.intro hit2 (And.intro hbw2 (And.intro hsz2 (And.intro hc hpre2))))
        clear hit2 hbw2 hsz2 hc hpre2
        rcases Nat.eq_zero_or_pos pos with h0 | h0
        · subst h0
          clear hpre
          go_wp2
          go_roundw
          case rel =>
            obtain ⟨hit2, hbw2, hsz2, hc, hpre2⟩ := F.out
            exact ⟨0 + k, c + 1, hit2, hbw2, by simp, by omega, hwe, hpre2⟩
          case measure =>
            obtain ⟨hit2, hbw2, hsz2, hc, hpre2⟩ := F.out
            rw [hposr]; simp only [World.iterPos, hit2]; omega
        · have cG := Lib.hid (C4.out pos h0 hps hpre w2 (hL1.out.below F.out.2.1))
          have hsl : ∀ w', (Instr.slice 9 (.string s) none (some (.int .i64 (pos : Nat))) none).run Tryd.prog w' = .ok (.string (s.extract 0 pos)) w' := fun w' => by
            rw [run_slice_string_to_if w' 9 s .i64 (pos : Nat) Tryd.underlying9, if_pos (by omega), show ((pos : Int)).toNat = pos by omega]
          generalize s.extract 0 pos = x at *
          clear hpre
          go_wp2_with fail
          refine cG.out.mono ?_; rintro e xw ⟨rfl, xb⟩
          go_wp2
          go_roundw
          case rel =>
            obtain ⟨hit2, hbw2, hsz2, hc, hpre2⟩ := F.out
            exact ⟨pos + k, c + 1, (xb.block _ hsz2).trans hit2, below_on hbw2 xb, by simp, by omega, hwe, hpre2⟩
          case measure =>
            obtain ⟨hit2, hbw2, hsz2, hc, hpre2⟩ := F.out
            rw [hposr]; simp only [World.iterPos, (xb.block _ hsz2).trans hit2]; omega
      · have hnx : ∀ ty, (Instr.next (.pointer (some ⟨gw.heap.size, 0, none⟩)) true ty).run Tryd.prog wr = _ := fun ty => Lib.run_next_end_at wr gw.heap.size s pos ty hit hp
        rw [rsAt_end s pos hp] at hc
        simp only [List.length_nil, Nat.add_zero] at hc
        subst hc
        have hcb : (c : Int) ≤ 200 := by omega
        clear hpre hN hp
        replace hbw := Lib.hid hbw
        go_wp2_with fail
        refine (C2.out _).mono ?_; rintro e lw ⟨rfl, l⟩
        go_wp2_with fail
        refine (C3.out _ (hL1.out.below (below_on hbw.out l))).mono ?_; rintro e yw ⟨rfl, y⟩
        have hfin : ((decide (c < 20)) == (decide ((c : Int) < 20))) = true := by
          simp only [Int.ofNat_lt, beq_iff_eq]
          rw [Bool.eq_iff_iff]; simp only [decide_eq_true_eq]; omega
        go_wp2
        go_ret
        exact ⟨ret_b (by first | exact hfin | simp [hfin] | (simp; omega)), below_on (below_on B1.out hbw.out) (below_on l y)⟩
theorem take_next {α : Type} (l : List α) (k : Nat) (h : k < l.length) : l.take (k + 1) = l.take k ++ [l[k]] := by
  rw [List.take_add_one, List.getElem?_eq_getElem h]; rfl
theorem flat_take (ws : List (List UInt8)) (k : Nat) : (ws.take k).flatten.length ≤ ws.flatten.length := by
  have : ws.flatten = (ws.take k).flatten ++ (ws.drop k).flatten := by rw [← List.flatten_append, List.take_append_drop]
  rw [this]; simp
theorem flat_len (l : List UInt8) : (wordsL l).flatten.length ≤ l.length := by
  unfold wordsL
  rw [wgo_flat, List.nil_append]
  exact List.length_filter_le _ _
def solid (b : UInt8) : Bool := !blank b

set_option maxHeartbeats 1600000 in
set_option maxRecDepth 1000000 in
theorem NameParts_ret (s : ByteArray) (w : World) (hL : Ltr w) : Calls Tryd.prog 8 #[.string s] w (RetB (.bool true) w) := by
  have AW := Lib.hid (awake_any w hL)
  by_cases h1 : s.size > 300
  · go_enter Tryd.func8, Tryd.ntmps8
    go_wp2_with fail
    refine AW.out.mono ?_; rintro e aw ⟨rfl, a⟩
    go_wp2
    go_ret
    exact ⟨rfl, a⟩
  have hs : (s.size : Int) ≤ 300 := by omega
  have CW := fun w' => words_any s w' (by omega)
  have hwl := words_len s.data.toList
  have hfl := flat_len s.data.toList
  have hne := wgo_ne s.data.toList []
  have hflat := wgo_flat s.data.toList []
  rw [← size_data] at hwl hfl
  unfold wordsB at CW
  change ∀ x ∈ wordsL s.data.toList, x ≠ [] at hne
  change (wordsL s.data.toList).flatten = _ at hflat
  rw [List.nil_append] at hflat
  have hW := word_size s
  generalize wordsL s.data.toList = ws at *
  have hlm : (ws.map bs).length = ws.length := by simp
  have CW2 : ∀ w', Calls Tryd.prog 14 #[.string s] w' fun e w2 => ∃ A c, e = .returned (.slice A ws.length c) ∧ ReadsS w2 A (ws.map bs) ∧ Below w'.heap.size w' w2 := fun w' => (CW w').mono fun e w2 ⟨A, c, h1, h2⟩ => ⟨A, c, by rw [h1, hlm], h2⟩
  clear CW hL
  replace CW2 := Lib.hid CW2
  go_enter Tryd.func8, Tryd.ntmps8
  go_wp2_with fail
  refine AW.out.mono ?_; rintro e aw ⟨rfl, a⟩
  go_wp2_with fail
  refine (CW2.out _).mono ?_; rintro e lw ⟨A, c, rfl, hrd, l⟩
  replace hrd := Lib.hid hrd
  replace hflat := Lib.hid hflat
  replace hne := Lib.hid hne
  replace hW := Lib.hid hW
  have hwl2 : (ws.length : Int) ≤ 300 := by omega
  have B1 := Lib.hid (below_on a l)
  clear a l AW CW2
  have hgb := get_bt s
  go_wp2
  go_loopw [4, 6] (fun x i wr => ∃ k : Nat, wr = lw ∧ x = .string (bs (ws.take k).flatten) ∧ i = .int .i64 (k : Nat) ∧ k ≤ ws.length) (fun _ i _ => ws.length - (intOf i).toNat)
  case atStart => exact ⟨0, rfl, rfl, rfl, by omega⟩
  case round =>
    obtain ⟨k, rfl, rfl, rfl, hk⟩ := hrel
    by_cases hp : k < ws.length
    · obtain ⟨b, off, rfl, hc⟩ := hrd.out k (by rw [hlm]; exact hp)
      rw [words_get ws k hp] at hc
      have hx0 := hne.out ws[k] (List.getElem_mem hp)
      have hxl := hW.out k hp
      have hft := flat_take ws k
      have hnext : (ws.take (k + 1)).flatten = (ws.take k).flatten ++ ws[k] := by rw [take_next ws k hp, List.flatten_append, List.flatten_cons, List.flatten_nil, List.append_nil]
      generalize ws[k] = x at *
      generalize hT : (ws.take k).flatten = T at *
      have hxe : (x == []) = false := by simp [hx0]
      have hxt : (bs x).toList = x := bs_list x
      have hxz : (bs x).size = x.length := bs_size x
      have hTz : (bs T).size = T.length := bs_size T
      have hadd := bs_add T x
      have hxb : (x.length : Int) ≤ 300 := by omega
      have hTb : (T.length : Int) ≤ 300 := by omega
      replace hnext := Lib.hid hnext
      clear hT hxl hft
      go_wp2
      go_roundw
      case rel => exact ⟨k + 1, by first | trivial | rfl, by rw [hnext.out], by simp, by omega⟩
      case measure => simp [intOf]; omega
    · obtain rfl : k = ws.length := by omega
      rw [List.take_length]
      go_wp2
      go_loopw [5, 7] (fun x i wz => ∃ k : Nat, wz = wr ∧ x = .string (bs ((s.data.toList.take k).filter solid)) ∧ i = .int .i64 (k : Nat) ∧ k ≤ s.size) (fun _ i _ => s.size - (intOf i).toNat)
      case atStart => exact ⟨0, rfl, rfl, rfl, by omega⟩
      case round =>
        obtain ⟨k, rfl, rfl, rfl, hk⟩ := hrel
        by_cases hp : k < s.size
        · have hbt := bt_get s k hp
          have hlt : k < s.data.toList.length := by rw [← size_data]; exact hp
          have hge : s.data.toList[k] = s.get! k := by rw [get_data, List.getD_eq_getElem?_getD, List.getElem?_eq_getElem hlt]; rfl
          have hnext : (s.data.toList.take (k + 1)).filter solid = (s.data.toList.take k).filter solid ++ [s.get! k].filter solid := by rw [take_next _ k hlt, List.filter_append, hge]
          have hTl : ((s.data.toList.take k).filter solid).length ≤ k := Nat.le_trans (List.length_filter_le _ _) (by rw [List.length_take]; omega)
          have hsl := slice_one s k hp
          clear hge hlt
          generalize (s.data.toList.take k).filter solid = T at *
          have hTz : (bs T).size = T.length := bs_size T
          have hTb : (T.length : Int) ≤ 300 := by omega
          by_cases hb : blank (s.get! k) = true
          · have hr : bt s k = 32 ∨ bt s k = 9 := by
              rw [hbt]; unfold blank at hb; simp at hb; omega
            have hn2 : [s.get! k].filter solid = [] := by simp [solid, hb]
            rw [hn2, List.append_nil] at hnext
            replace hnext := Lib.hid hnext
            clear hbt hn2
            rcases hr with hr | hr
            all_goals
              go_wp2
              go_roundw
              case rel => exact ⟨k + 1, by first | trivial | rfl, by rw [hnext.out], by simp, by omega⟩
              case measure => simp [intOf]; omega
          · have hn : ¬ (bt s k = 32) ∧ ¬ (bt s k = 9) := by
              rw [hbt]; unfold blank at hb; simp at hb; omega
            obtain ⟨hn1, hn2⟩ := hn
            have h32 : (bt s k != 32) = true := by simp [hn1]
            have h9 : (bt s k != 9) = true := by simp [hn2]
            have hn2 : [s.get! k].filter solid = [s.get! k] := by simp [solid, hb]
            rw [hn2] at hnext
            clear hbt hn2 hb
            generalize s.get! k = b at *
            have hadd := bs_add T [b]
            have hb1 : (bs [b]).size = 1 := bs_size [b]
            replace hnext := Lib.hid hnext
            go_wp2
            go_roundw
            case rel => exact ⟨k + 1, by first | trivial | rfl, by rw [hnext.out], by simp, by omega⟩
            case measure => simp [intOf]; omega
        · obtain rfl : k = s.size := by omega
          have hfin : ((bs ws.flatten).toList == (bs ((s.data.toList.take s.size).filter solid)).toList) = true := by
            rw [bs_list, bs_list, hflat.out, size_data, List.take_length]
            simp only [beq_iff_eq]
            rfl
          go_wp2
          go_ret
          exact ⟨rfl, B1.out⟩
theorem bs_addr (a : List UInt8) (x : ByteArray) : bs a ++ x = bs (a ++ x.data.toList) := by
  have := bs_add a x.data.toList
  rwa [bs_of] at this
theorem join_len (ws : List (List UInt8)) : (joinL ws).length = 2 * ws.length + ws.flatten.length := by
  induction ws with
  | nil => rfl
  | cons x ws ih =>
    have e : joinL (x :: ws) = 32 :: 32 :: (x ++ joinL ws) := by simp [joinL]
    rw [e]
    simp only [List.length_cons, List.length_append, ih, List.flatten_cons]
    omega
theorem join_take (ws : List (List UInt8)) (k : Nat) (h : k < ws.length) : joinL (ws.take (k + 1)) = joinL (ws.take k) ++ ([32, 32] ++ ws[k]) := by
  rw [take_next ws k h, joinL_snoc]

set_option maxHeartbeats 3200000 in
set_option maxRecDepth 1000000 in
theorem NameWords_ret (s key v : ByteArray) (w : World) (hL : Ltr w) : Calls Tryd.prog 5 #[.string s, .string key, .string v] w (RetB (.bool true) w) := by
  have AW := Lib.hid (awake_any w hL)
  clear hL
  by_cases h1 : s.size > 200
  · go_enter Tryd.func5, Tryd.ntmps5
    go_wp2_with fail
    refine AW.out.mono ?_; rintro e aw ⟨rfl, a⟩
    go_wp2
    go_ret
    exact ⟨rfl, a⟩
  by_cases h2 : key.size > 50
  · go_enter Tryd.func5, Tryd.ntmps5
    go_wp2_with fail
    refine AW.out.mono ?_; rintro e aw ⟨rfl, a⟩
    go_wp2
    go_ret
    exact ⟨rfl, a⟩
  by_cases h3 : v.size > 50
  · go_enter Tryd.func5, Tryd.ntmps5
    go_wp2_with fail
    refine AW.out.mono ?_; rintro e aw ⟨rfl, a⟩
    go_wp2
    go_ret
    exact ⟨rfl, a⟩
  have hs : (s.size : Int) ≤ 200 := by omega
  have hkz : (key.size : Int) ≤ 50 := by omega
  have hvz : (v.size : Int) ≤ 50 := by omega
  have CW := fun w' => words_any s w' (by omega)
  have hwl := words_len s.data.toList
  have hfl := flat_len s.data.toList
  have hW := word_size s
  have hjoin := words_join s.data.toList
  rw [← size_data] at hwl hfl
  unfold wordsB at CW
  generalize wordsL s.data.toList = ws at *
  have hlm : (ws.map bs).length = ws.length := by simp
  have CW2 : ∀ w', Calls Tryd.prog 14 #[.string s] w' fun e w2 => ∃ A c, e = .returned (.slice A ws.length c) ∧ ReadsS w2 A (ws.map bs) ∧ Below w'.heap.size w' w2 := fun w' => (CW w').mono fun e w2 ⟨A, c, h1, h2⟩ => ⟨A, c, by rw [h1, hlm], h2⟩
  have hjl := join_len ws
  have CX : ∀ w', Calls Tryd.prog 14 #[.string (bs (joinL ws))] w' fun e w2 => ∃ A c, e = .returned (.slice A ws.length c) ∧ ReadsS w2 A (ws.map bs) ∧ Below w'.heap.size w' w2 := fun w' => (words_any (bs (joinL ws)) w' (by rw [bs_size]; omega)).mono fun e w2 ⟨A, c, h1, h2⟩ => ⟨A, c, by rw [h1]; unfold wordsB; rw [bs_data, hjoin, hlm], by unfold wordsB at h2; rw [bs_data, hjoin] at h2; exact h2⟩
  have CT : ∀ (A B : Option Addr) (c d : Nat) (w' : World), ReadsS w' A (ws.map bs) → ReadsS w' B (ws.map bs) → Calls Tryd.prog 19 #[.slice A ws.length c, .slice B ws.length d] w' (Ret (.bool true) w') := fun A B c d w' h1 h2 => by
    have := texts_same A B c d (ws.map bs) w' (by rw [hlm]; omega) h1 h2
    rw [hlm] at this
    exact this
  -- the written field
  have hcat : ∀ x : ByteArray, x = bs x.data.toList := fun x => (bs_of x).symm
  have e1 : key ++ (⟨#[61]⟩ : ByteArray) = bs (key.data.toList ++ [61]) := by rw [← bs_add, bs_of]; rfl
  have e2 : bs (key.data.toList ++ [61]) ++ v = bs (key.data.toList ++ [61] ++ v.data.toList) := bs_addr _ _
  have e3 : bs (key.data.toList ++ [61] ++ v.data.toList) ++ (⟨#[32]⟩ : ByteArray) = bs (key.data.toList ++ [61] ++ v.data.toList ++ [32]) := bs_add _ [32]
  have e4 : bs (key.data.toList ++ [61] ++ v.data.toList ++ [32]) ++ s = bs (key.data.toList ++ [61] ++ v.data.toList ++ [32] ++ s.data.toList) := bs_addr _ _
  have z0 : key.data.toList.length = key.size := (size_data key).symm
  have z0' : v.data.toList.length = v.size := (size_data v).symm
  have z0'' : s.data.toList.length = s.size := (size_data s).symm
  have z1 : (bs (key.data.toList ++ [61])).size = key.size + 1 := by rw [bs_size]; simp
  have z2 : (bs (key.data.toList ++ [61] ++ v.data.toList)).size = key.size + 1 + v.size := by rw [bs_size]; simp; omega
  have z3 : (bs (key.data.toList ++ [61] ++ v.data.toList ++ [32])).size = key.size + 1 + v.size + 1 := by rw [bs_size]; simp; omega
  have CF : (∀ b ∈ key.data.toList, blank b = false) → (∀ b ∈ v.data.toList, blank b = false) → ∀ w', Calls Tryd.prog 11 #[.string (bs (key.data.toList ++ [61] ++ v.data.toList ++ [32] ++ s.data.toList)), .string key] w' (RetB (.tuple #[.string v, .bool true]) w') := fun b1 b2 w' =>
    (field_any (bs (key.data.toList ++ [61] ++ v.data.toList ++ [32] ++ s.data.toList)) key w' (by rw [bs_size]; simp; omega)).mono fun e w2 h => retB_val h (by rw [bs_data, field_first _ _ _ b1 b2]; show Value.tuple #[.string (bs v.data.toList), .bool true] = _; rw [bs_of])
  have hkv : (key ++ v).data.toList = key.data.toList ++ v.data.toList := by rw [ByteArray.data_append]; simp
  have hkvz : (key ++ v).size = key.size + v.size := ByteArray.size_append
  generalize bs (key.data.toList ++ [61] ++ v.data.toList ++ [32] ++ s.data.toList) = x4 at *
  generalize bs (key.data.toList ++ [61] ++ v.data.toList ++ [32]) = x3 at *
  generalize bs (key.data.toList ++ [61] ++ v.data.toList) = x2 at *
  generalize bs (key.data.toList ++ [61]) = x1 at *
  obtain ⟨y, hy⟩ : ∃ y, key ++ v = y := ⟨_, rfl⟩
  rw [hy] at hkv hkvz
  have y61 : (⟨#[61]⟩ : ByteArray).size = 1 := rfl
  have y32 : (⟨#[32]⟩ : ByteArray).size = 1 := rfl
  have y32' : (⟨#[32, 32]⟩ : ByteArray).size = 2 := rfl
  replace CW2 := Lib.hid CW2
  replace CX := Lib.hid CX
  replace CT := Lib.hid CT
  replace CF := Lib.hid CF
  have E := Lib.hid (And.intro e1 (And.intro e2 (And.intro e3 (And.intro e4 (And.intro z1 (And.intro z2 z3))))))
  clear CW hcat e1 e2 e3 e4 z0 z0' z0'' z1 z2 z3
  replace hjoin := Lib.hid hjoin
  replace hkv := Lib.hid hkv
  replace hW := Lib.hid hW
  have hwl2 : (ws.length : Int) ≤ 200 := by omega
  go_enter Tryd.func5, Tryd.ntmps5
  go_wp2_with fail
  refine AW.out.mono ?_; rintro e aw ⟨rfl, a⟩
  go_wp2_with fail
  refine (CW2.out _).mono ?_; rintro e lw ⟨A, c, rfl, hrd, l⟩
  replace hrd := Lib.hid hrd
  have B1 := Lib.hid (below_on a l)
  clear a l AW CW2
  go_wp2
  go_loopw [8, 9] (fun x i wr => ∃ k : Nat, wr = lw ∧ x = .string (bs (joinL (ws.take k))) ∧ i = .int .i64 (k : Nat) ∧ k ≤ ws.length) (fun _ i _ => ws.length - (intOf i).toNat)
  case atStart => exact ⟨0, rfl, rfl, rfl, by omega⟩
  case round =>
    obtain ⟨k, rfl, rfl, rfl, hk⟩ := hrel
    by_cases hp : k < ws.length
    · obtain ⟨b, off, rfl, hc⟩ := hrd.out k (by rw [hlm]; exact hp)
      rw [words_get ws k hp] at hc
      have hxl := hW.out k hp
      have hft := flat_take ws k
      have hjt := join_len (ws.take k)
      have htl : (ws.take k).length = k := by rw [List.length_take]; omega
      have hnext := join_take ws k hp
      generalize ws[k] = x at *
      have hTl : ((joinL (ws.take k)).length : Int) ≤ 600 := by omega
      generalize joinL (ws.take k) = T at *
      have a1 : bs T ++ (⟨#[32, 32]⟩ : ByteArray) = bs (T ++ [32, 32]) := bs_add T [32, 32]
      have a2 := bs_add (T ++ [32, 32]) x
      have hTz : (bs T).size = T.length := bs_size T
      have hTz2 : (bs (T ++ [32, 32])).size = T.length + 2 := by rw [bs_size]; simp
      have hxz : (bs x).size = x.length := bs_size x
      have hxb : (x.length : Int) ≤ 200 := by omega
      rw [← List.append_assoc] at hnext
      replace hnext := Lib.hid hnext
      clear hxl hft hjt htl
      go_wp2
      go_roundw
      case rel => exact ⟨k + 1, by first | trivial | rfl, by rw [hnext.out]; simp, by simp, by omega⟩
      case measure => simp [intOf]; omega
    · obtain rfl : k = ws.length := by omega
      rw [List.take_length]
      go_wp2_with fail
      refine (CX.out _).mono ?_; rintro e xw ⟨B, d, rfl, hrx, xb⟩
      go_wp2_with fail
      refine (CT.out _ _ _ _ _ hrx (hrd.out.below xb)).mono ?_; rintro e w' ⟨rfl, q, rfl⟩
      have B2 := Lib.hid (below_dN (below_on B1.out xb) q)
      clear xb hrx
      generalize xw.drewN q = zw at *
      have hgb := get_bt y
      go_wp2
      go_loopw [10] (fun i wz => ∃ k : Nat, wz = zw ∧ i = .int .i64 (k : Nat) ∧ k ≤ y.size ∧ ∀ b ∈ y.data.toList.take k, blank b = false) (fun i _ => y.size - (intOf i).toNat)
      case atStart => exact ⟨0, rfl, rfl, by omega, by simp⟩
      case round =>
        obtain ⟨k, rfl, rfl, hk, hall⟩ := hrel
        by_cases hp : k < y.size
        · have hbt := bt_get y k hp
          have hb0 := bt_nonneg y k
          have hlt : k < y.data.toList.length := by rw [← size_data]; exact hp
          by_cases hb : blank (y.get! k) = true
          · have hr : bt y k = 32 ∨ bt y k = 9 := by
              rw [hbt]; unfold blank at hb; simp at hb; omega
            clear hbt hb hall
            rcases hr with hr | hr
            all_goals
              go_wp2
              go_ret
              exact ⟨rfl, B2.out⟩
          · have hn : ¬ (bt y k = 32) ∧ ¬ (bt y k = 9) := by
              rw [hbt]; unfold blank at hb; simp at hb; omega
            obtain ⟨hn1, hn2⟩ := hn
            have h32 : (bt y k == 32) = false := by simp [hn1]
            have h9 : (bt y k == 9) = false := by simp [hn2]
            have hge : y.data.toList[k] = y.get! k := by rw [get_data, List.getD_eq_getElem?_getD, List.getElem?_eq_getElem hlt]; rfl
            have hall2 : ∀ b ∈ y.data.toList.take (k + 1), blank b = false := by
              rw [take_next _ k hlt, hge]
              intro b hbm
              rcases List.mem_append.1 hbm with h | h
              · exact hall b h
              · simp at h; subst h; simpa using hb
            replace hall2 := Lib.hid hall2
            clear hbt hb hall hge hlt
            go_wp2
            go_roundw
            case rel => exact ⟨k + 1, by first | trivial | rfl, by simp, by omega, hall2.out⟩
            case measure => simp [intOf]; omega
        · obtain rfl : k = y.size := by omega
          rw [size_data, List.take_length, hkv.out] at hall
          have cF := Lib.hid (CF.out (fun b hb => hall b (by simp [hb])) (fun b hb => hall b (by simp [hb])))
          clear hall CF
          obtain ⟨e1, e2, e3, e4, z1, z2, z3⟩ := E.out
          have hvv : (v.toList == v.toList) = true := by simp
          go_wp2_with fail
          refine (cF.out _).mono ?_; rintro e fw ⟨rfl, f⟩
          go_wp2
          go_ret
          exact ⟨rfl, below_on B2.out f⟩
end Go.Proofs.YtkblddnnegkbfaaDoor
