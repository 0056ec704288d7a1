/- The document's own words; two rows of texts compared; what follows a key. -/
import Derived.Test.YtkblddnnegkbfaaDoorName3
import Derived.Lib.SmallJoins
namespace Go.Proofs.YtkblddnnegkbfaaDoor
open Go.RowKit Go.Lib Go.PlainAid
set_option linter.unusedVariables false
set_option linter.unusedSimpArgs false

theorem bt_get (s : ByteArray) (k : Nat) (h : k < s.size) : bt s k = ((s.get! k).toNat : Int) := by
  unfold bt
  rw [dif_pos h, get_idx s k h]
theorem ext_one (s : ByteArray) (k : Nat) (h : k < s.size) : s.extract k (k + 1) = bs [s.get! k] := by
  rw [ext_sub, sub_snoc s k k (Nat.le_refl _) h, sub_self]; rfl

theorem slice_one (s : ByteArray) (k : Nat) (h : k < s.size) (w : World) : (Instr.slice 9 (.string s) (some (.int .i64 (k : Nat))) (some (.int .i64 ((k : Nat) + 1))) none).run Tryd.prog w = .ok (.string (bs [s.get! k])) w := by
  rw [run_slice_string w 9 s .i64 .i64 (k : Nat) ((k : Nat) + 1) Tryd.underlying9 (by omega) (by omega) (by omega), show ((k : Int)).toNat = k by omega, show ((k : Int) + 1).toNat = k + 1 by omega, ext_one s k h]

theorem pushed0 {w wr w3 : World} {v v' : Value} {o : Obj} {acc : List (List UInt8)} {x : List UInt8} {e : TypeId}
    (hown : wr.ownsRow w.heap.size e 1 v acc.length (acc.map fun l => Value.string (bs l))) (hbw : Below w.heap.size w wr)
    (hown' : w3.ownsRow w.heap.size e 1 v' (acc.length + 1) ((acc.map fun l => Value.string (bs l)) ++ [.string (bs x)])) (hgrow : (wr.alloc o).grownBy w3 v.ownBlock) :
    w3.ownsRow w.heap.size e 1 v' (acc ++ [x]).length ((acc ++ [x]).map fun l => Value.string (bs l)) ∧ Below w.heap.size w w3 := by
  have := hbw.size
  exact ⟨by simpa using hown', (hbw.alloc (by omega) _).grown hgrow (by simp; omega) (fun j hj => (hown.lt _ hj).1)⟩

set_option maxHeartbeats 1600000 in
set_option maxRecDepth 1000000 in
theorem rwords_any (s : ByteArray) (w : World) (hs : s.size ≤ 1000000) : Calls Tryd.prog 20 #[.string s] w (RetS (wordsB s) w) := by
  obtain ⟨i0, hi, hz0, hz1, hz2⟩ := info_parts Tryd.info9
  unfold wordsB
  obtain ⟨W, hW⟩ : ∃ W, wordsL s.data.toList = W := ⟨_, rfl⟩
  rw [hW]
  replace hs : (s.size : Int) ≤ 1000000 := by omega
  have hW0 : [] ++ wgo [] (s.data.toList.drop 0) = W := by rw [← hW]; rfl
  clear hW
  have hgb := get_bt s
  go_enter Tryd.func20, Tryd.ntmps20
  go_wp2
  go_loopw [3, 4, 5] (fun v x i wr => ∃ (k : Nat) (acc : List (List UInt8)) (cur : List UInt8), x = .string (bs cur) ∧ i = .int .i64 (k : Nat) ∧ wr.ownsRow w.heap.size 9 1 v acc.length (acc.map fun l => Value.string (bs l)) ∧ Below w.heap.size w wr ∧ k ≤ s.size ∧ acc.length ≤ k ∧ cur.length ≤ k ∧ acc ++ wgo cur (s.data.toList.drop k) = W) (fun _ _ i _ => s.size - (intOf i).toNat)
  case atStart => exact ⟨0, [], [], rfl, rfl, World.ownsRow_nil _ _ _ _, Below.refl _ _, by omega, by simp, by simp, hW0⟩
  case round =>
    obtain ⟨k, acc, cur, rfl, rfl, hown, hbw, hks, hal, hcl, hgo⟩ := hrel
    clear hW0
    have hwz := hbw.size
    have hbl : (bs cur).toList = cur := bs_list cur
    have hbz : (bs cur).size = cur.length := bs_size cur
    replace hown := Lib.hid hown
    replace hbw := Lib.hid hbw
    by_cases hp : k < s.size
    · have hbt := bt_get s k hp
      by_cases hb : blank (s.get! k) = true
      · have hr : bt s k = 32 ∨ bt s k = 9 := by
          rw [hbt]; unfold blank at hb; simp at hb; omega
        have hgo2 : acc ++ ((if cur = [] then [] else [cur]) ++ wgo [] (s.data.toList.drop (k + 1))) = W := by rw [← hgo, wgo_blank _ s k hp hb]
        clear hgo hbt
        by_cases hc : cur = []
        · have hc' : (cur == []) = true := by simp [hc]
          rw [if_pos hc] at hgo2
          replace hc := Lib.hid hc
          replace hgo2 := Lib.hid hgo2
          rcases hr with hr | hr
          all_goals
            go_wp2
            go_roundw
            case rel => exact ⟨k + 1, acc, [], rfl, by simp, hown.out, hbw.out, by omega, by omega, by simp, hgo2.out⟩
            case measure => simp [intOf]; omega
        · have hc' : (cur == []) = false := by simp [hc]
          rw [if_neg hc] at hgo2
          replace hgo2 := Lib.hid hgo2
          rcases hr with hr | hr
          all_goals
            go_wp2_with (at_builtin; refine wpList_append_own _ rfl (.tmp 24) (.tmp 26) 29 rfl w.heap.size 9 i0 (.string ⟨#[]⟩) 1 16 Tryd.underlying29 hi hz0 hz1 hz2 rfl (by decide) _ _ _ rfl (hown.out.alloc _) ⟨wr.heap.size, 0, none⟩ 1 1 [.string (bs cur)] rfl rfl (news_one _ _ _) (one_str _) (by unfold maxLen; omega) (by omega) (by simp; omega) ?_)
            intro v' w3 hown' hgrow' _
            obtain ⟨hown3, hbw3⟩ := pushed0 (hown.out) hbw.out hown' hgrow'
            clear hown' hgrow'
            go_wp2
            go_roundw
            case rel => exact ⟨k + 1, acc ++ [cur], [], rfl, by simp, hown3, hbw3, by omega, by simp; omega, by simp, by rw [← hgo2.out]; simp⟩
            case measure => simp [intOf]; omega
      · have hn : ¬ (bt s k = 32) ∧ ¬ (bt s k = 9) := by
          rw [hbt]; unfold blank at hb; simp at hb; omega
        obtain ⟨hn1, hn2⟩ := hn
        have h32 : (bt s k == 32) = false := by simp [hn1]
        have h9 : (bt s k == 9) = false := by simp [hn2]
        have hgo2 := Lib.hid ((show acc ++ wgo (cur ++ [s.get! k]) (s.data.toList.drop (k + 1)) = W by rw [← hgo, wgo_more _ s k hp (by simpa using hb)]))
        have hsl := slice_one s k hp
        clear hgo hbt hb
        generalize s.get! k = b at *
        have hadd := bs_add cur [b]
        have hb1 : (bs [b]).size = 1 := bs_size [b]
        go_wp2
        go_roundw
        case rel => exact ⟨k + 1, acc, cur ++ [b], rfl, by simp, hown.out, hbw.out, by omega, by omega, by simp; omega, hgo2.out⟩
        case measure => simp [intOf]; omega
    · obtain rfl : k = s.size := by omega
      have hgo2 : acc ++ (if cur = [] then [] else [cur]) = W := by
        rw [← hgo, show s.data.toList.drop s.size = [] by rw [List.drop_eq_nil_iff, size_data]; exact Nat.le_refl _, wgo]
      clear hgo
      by_cases hc : cur = []
      · have hc' : (cur == []) = true := by simp [hc]
        rw [if_pos hc, List.append_nil] at hgo2
        replace hc := Lib.hid hc
        subst hgo2
        obtain ⟨A, c, rfl, hrd⟩ := own_reads hown.out
        go_wp2
        go_ret
        exact ⟨A, c, rfl, hrd, hbw.out⟩
      · have hc' : (cur == []) = false := by simp [hc]
        rw [if_neg hc] at hgo2
        subst hgo2
        go_wp2_with (at_builtin; refine wpList_append_own _ rfl (.tmp 37) (.tmp 39) 29 rfl w.heap.size 9 i0 (.string ⟨#[]⟩) 1 16 Tryd.underlying29 hi hz0 hz1 hz2 rfl (by decide) _ _ _ rfl (hown.out.alloc _) ⟨wr.heap.size, 0, none⟩ 1 1 [.string (bs cur)] rfl rfl (news_one _ _ _) (one_str _) (by unfold maxLen; omega) (by omega) (by simp; omega) ?_)
        intro v' w3 hown' hgrow' _
        obtain ⟨hown3, hbw3⟩ := pushed0 (hown.out) hbw.out hown' hgrow'
        clear hown' hgrow'
        obtain ⟨A, c, rfl, hrd⟩ := own_reads hown3
        go_wp2
        go_ret
        exact ⟨A, c, rfl, hrd, hbw3⟩

set_option maxHeartbeats 1600000 in
set_option maxRecDepth 1000000 in
theorem texts_same (A B : Option Addr) (c d : Nat) (ss : List ByteArray) (w : World) (hl : ss.length ≤ 1000000) (hA : ReadsS w A ss) (hB : ReadsS w B ss) :
    Calls Tryd.prog 19 #[.slice A ss.length c, .slice B ss.length d] w (Ret (.bool true) w) := by
  replace hl : (ss.length : Int) ≤ 1000000 := by omega
  generalize hn : ss.length = n at *
  go_enter Tryd.func19, Tryd.ntmps19
  go_wp2
  go_loopw [5] (fun i wr => ∃ (k q : Nat), i = .int .i64 (k : Nat) ∧ wr = w.drewN q ∧ k ≤ n) (fun i _ => n - (intOf i).toNat)
  case atStart => exact ⟨0, 0, rfl, rfl, by omega⟩
  case round =>
    obtain ⟨k, q, rfl, rfl, hk⟩ := hrel
    by_cases hp : k < n
    · obtain ⟨b, off, rfl, hc1⟩ := hA k (by omega)
      obtain ⟨b', off', rfl, hc2⟩ := hB k (by omega)
      generalize ss.getD k ⟨#[]⟩ = x at *
      have hx : (x.toList == x.toList) = true := by simp
      clear hA hB hn
      have hd1 : (w.drewN q).cell? ⟨b, off + k, none⟩ = some (.string x) := hc1
      have hd2 : (w.drewN q).cell? ⟨b', off' + k, none⟩ = some (.string x) := hc2
      go_wp2
      go_quiet (fail)
      go_wp2
      go_roundw
      case rel => exact ⟨k + 1, _, by simp, rfl, by omega⟩
      case measure => simp [intOf]; omega
    · obtain rfl : k = n := by omega
      go_wp2
      go_ret
      exact ⟨rfl, _, rfl⟩
end Go.Proofs.YtkblddnnegkbfaaDoor
