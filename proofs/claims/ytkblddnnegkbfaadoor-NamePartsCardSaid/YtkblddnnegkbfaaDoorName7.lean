/- The document's own numbers; a mark; a number's digits. -/
import Derived.Test.YtkblddnnegkbfaaDoorName6
namespace Go.Proofs.YtkblddnnegkbfaaDoor
open Go.RowKit Go.Lib Go.PlainAid
set_option linter.unusedVariables false
set_option linter.unusedSimpArgs false

theorem numGo_long : ∀ (l : List UInt8) (d : Nat) (v : Int), d ≤ 12 → 12 < d + l.length → numGo d v l = none
  | [], d, v, h, h2 => by simp at h2; omega
  | b :: l, d, v, h, h2 => by
    unfold numGo
    split
    · rename_i hc
      exact numGo_long l (d + 1) _ (by omega) (by simp at h2; omega)
    · rfl

theorem nodig (b : UInt8) (h : ¬ dig b = true) : b.toNat < 48 ∨ 57 < b.toNat := by rw [dig_iff] at h; omega

set_option maxHeartbeats 3200000 in
set_option maxRecDepth 1000000 in
theorem rnum_any (s : ByteArray) (w : World) (hs : s.size ≤ 1000000) : Calls Tryd.prog 15 #[.string s] w (RetW (numT (numL s.data.toList)) w) := by
  replace hs : (s.size : Int) ≤ 1000000 := by omega
  have hL := numL_eq s
  have hgs := get_bt s
  have hn0 : neg s = true ↔ (0 < s.size ∧ bt s 0 = 45) := by
    unfold neg
    by_cases h : 0 < s.size
    · rw [bt_get s 0 h, decide_eq_true h, Bool.true_and, beq_iff_eq]; omega
    · rw [decide_eq_false h]; simp; omega
  by_cases hneg : neg s = true
  · rw [if_pos hneg] at hL
    obtain ⟨h0, h45⟩ := hn0.1 hneg
    have hsl : ∀ w', (Instr.slice 9 (.string s) (some (.int .i64 1)) none none).run Tryd.prog w' = .ok (.string (bs (s.data.toList.drop 1))) w' := fun w' => by
      rw [run_slice_string_from_if w' 9 s .i64 1 Tryd.underlying9, if_pos (by omega), show (1 : Int).toNat = 1 from rfl, ext_sub, sub_end]
    have hb45 : (bt s 0 == 45) = true := by rw [h45]; rfl
    rw [hL]
    clear hn0 hneg hL
    have htz : (bs (s.data.toList.drop 1)).size = s.size - 1 := by rw [bs_size, List.length_drop, ← size_data]
    have htd : (bs (s.data.toList.drop 1)).data.toList = s.data.toList.drop 1 := bs_data _
    generalize bs (s.data.toList.drop 1) = t at *
    have htz2 : t.size + 1 = s.size := by omega
    clear htz
    rw [← htd]
    clear htd
    have hgb := get_bt t
    obtain ⟨o, ho⟩ : ∃ o, numGo 0 0 t.data.toList = o := ⟨_, rfl⟩
    rw [ho]
    by_cases h1 : t.size < 1
    · have hno : o = none := by
        rw [← ho, show t.data.toList = [] by rw [← List.length_eq_zero_iff, ← size_data]; omega]; rfl
      subst hno
      clear ho
      go_enter Tryd.func15, Tryd.ntmps15
      go_wp2
      go_ret2
      exact ⟨rfl, rfl⟩
    by_cases h2 : t.size > 12
    · have hno : o = none := by rw [← ho, numGo_long _ 0 0 (by omega) (by rw [← size_data]; omega)]
      subst hno
      clear ho
      go_enter Tryd.func15, Tryd.ntmps15
      go_wp2
      go_ret2
      exact ⟨rfl, rfl⟩
    have ho' : numGo 0 0 (t.data.toList.drop 0) = o := by rw [List.drop_zero]; exact ho
    clear ho
    go_enter Tryd.func15, Tryd.ntmps15
    go_wp2
    go_loopw [5, 6] (fun v i wr => ∃ (k : Nat) (val : Int), wr = w ∧ v = .int .i64 val ∧ i = .int .i64 (k : Nat) ∧ k ≤ t.size ∧ 0 ≤ val ∧ val < p10 k ∧ numGo k val (t.data.toList.drop k) = o) (fun _ i _ => t.size - (intOf i).toNat)
    case atStart => exact ⟨0, 0, rfl, rfl, rfl, by omega, by omega, by decide, ho'⟩
    case round =>
      obtain ⟨k, val, rfl, rfl, rfl, hks, hv0, hv1, hgo⟩ := hrel
      clear ho'
      have hp12 := p10_12 k (by omega)
      by_cases hp : k < t.size
      · have hbt := bt_get t k hp
        have hdg := dig_iff (t.get! k)
        by_cases hd : dig (t.get! k) = true
        · obtain ⟨hd1, hd2⟩ := hdg.1 hd
          have e1 : (48 : Int) ≤ bt t k := by omega
          have e2 : bt t k ≤ 57 := by omega
          have hp13 := p10_12 (k + 1) (by omega)
          have hpe : p10 (k + 1) = 10 * p10 k := rfl
          have hvb : val ≤ 100000000000 := by omega
          rw [numGo_step k val t k hp hd (by omega), ← hbt] at hgo
          have hvn : 10 * val + (bt t k - 48) < p10 (k + 1) := by omega
          have hgo2 : numGo (k + 1) (10 * val + (bt t k - 48)) (t.data.toList.drop (k + 1)) = o := by rw [← hgo]; congr 1; omega
          replace hgo2 := Lib.hid hgo2
          replace hvn := Lib.hid hvn
          clear hgo hbt hdg hd hd1 hd2 hp13 hpe hp12 hv1
          go_wp2
          go_roundw
          case rel => exact ⟨k + 1, 10 * val + (bt t k - 48), by first | trivial | rfl, by simp, by simp, by omega, by omega, hvn.out, hgo2.out⟩
          case measure => simp [intOf]; omega
        · rw [numGo_bad k val t k hp (fun h => hd h.1)] at hgo
          subst hgo
          have hb := bt_nonneg t k
          have hb2 := bt_le t k
          rcases (show bt t k < 48 ∨ 57 < bt t k by rw [hbt]; rcases nodig _ hd with h | h <;> omega) with hlo | hhi
          · clear hbt hdg hd hp12 hv1
            go_wp2
            go_ret2
            exact ⟨rfl, rfl⟩
          · clear hbt hdg hd hp12 hv1
            go_wp2
            go_ret2
            exact ⟨rfl, rfl⟩
      · obtain rfl : k = t.size := by omega
        rw [numGo_end, if_neg (by omega)] at hgo
        subst hgo
        have hvb : val ≤ 1000000000000 := by omega
        clear hp12 hv1
        go_wp2
        go_ret2
        exact ⟨ret_ib (by simp) rfl, rfl⟩
  · rw [if_neg hneg, List.drop_zero] at hL
    rw [hL]
    have hns : ¬ (0 < s.size ∧ bt s 0 = 45) := fun h => hneg (hn0.2 h)
    clear hn0 hneg hL
    obtain ⟨o, ho⟩ : ∃ o, numGo 0 0 s.data.toList = o := ⟨_, rfl⟩
    rw [ho]
    by_cases h1 : s.size < 1
    · have hno : o = none := by
        rw [← ho, show s.data.toList = [] by rw [← List.length_eq_zero_iff, ← size_data]; omega]; rfl
      subst hno
      clear ho
      have hz0 : ¬ (0 : Int) < (s.size : Nat) := by omega
      go_enter Tryd.func15, Tryd.ntmps15
      go_wp2
      go_ret2
      exact ⟨rfl, rfl⟩
    have hb45 : (bt s 0 == 45) = false := by
      rw [Bool.eq_false_iff]; intro h; exact hns ⟨by omega, by simpa using h⟩
    have hz0 : (0 : Int) < (s.size : Nat) := by omega
    clear hns
    by_cases h2 : s.size > 12
    · have hno : o = none := by rw [← ho, numGo_long _ 0 0 (by omega) (by rw [← size_data]; omega)]
      subst hno
      clear ho
      go_enter Tryd.func15, Tryd.ntmps15
      go_wp2
      go_ret2
      exact ⟨rfl, rfl⟩
    have ho' : numGo 0 0 (s.data.toList.drop 0) = o := by rw [List.drop_zero]; exact ho
    clear ho
    go_enter Tryd.func15, Tryd.ntmps15
    go_wp2
    go_loopw [5, 6] (fun v i wr => ∃ (k : Nat) (val : Int), wr = w ∧ v = .int .i64 val ∧ i = .int .i64 (k : Nat) ∧ k ≤ s.size ∧ 0 ≤ val ∧ val < p10 k ∧ numGo k val (s.data.toList.drop k) = o) (fun _ i _ => s.size - (intOf i).toNat)
    case atStart => exact ⟨0, 0, rfl, rfl, rfl, by omega, by omega, by decide, ho'⟩
    case round =>
      obtain ⟨k, val, rfl, rfl, rfl, hks, hv0, hv1, hgo⟩ := hrel
      clear ho'
      have hp12 := p10_12 k (by omega)
      by_cases hp : k < s.size
      · have hbt := bt_get s k hp
        have hdg := dig_iff (s.get! k)
        by_cases hd : dig (s.get! k) = true
        · obtain ⟨hd1, hd2⟩ := hdg.1 hd
          have e1 : (48 : Int) ≤ bt s k := by omega
          have e2 : bt s k ≤ 57 := by omega
          have hp13 := p10_12 (k + 1) (by omega)
          have hpe : p10 (k + 1) = 10 * p10 k := rfl
          have hvb : val ≤ 100000000000 := by omega
          rw [numGo_step k val s k hp hd (by omega), ← hbt] at hgo
          have hvn : 10 * val + (bt s k - 48) < p10 (k + 1) := by omega
          have hgo2 : numGo (k + 1) (10 * val + (bt s k - 48)) (s.data.toList.drop (k + 1)) = o := by rw [← hgo]; congr 1; omega
          replace hgo2 := Lib.hid hgo2
          replace hvn := Lib.hid hvn
          clear hgo hbt hdg hd hd1 hd2 hp13 hpe hp12 hv1
          go_wp2
          go_roundw
          case rel => exact ⟨k + 1, 10 * val + (bt s k - 48), by first | trivial | rfl, by simp, by simp, by omega, by omega, hvn.out, hgo2.out⟩
          case measure => simp [intOf]; omega
        · rw [numGo_bad k val s k hp (fun h => hd h.1)] at hgo
          subst hgo
          have hb := bt_nonneg s k
          have hb2 := bt_le s k
          rcases (show bt s k < 48 ∨ 57 < bt s k by rw [hbt]; rcases nodig _ hd with h | h <;> omega) with hlo | hhi
          · clear hbt hdg hd hp12 hv1
            go_wp2
            go_ret2
            exact ⟨rfl, rfl⟩
          · clear hbt hdg hd hp12 hv1
            go_wp2
            go_ret2
            exact ⟨rfl, rfl⟩
      · obtain rfl : k = s.size := by omega
        rw [numGo_end, if_neg (by omega)] at hgo
        subst hgo
        have hvb : val ≤ 1000000000000 := by omega
        clear hp12 hv1
        go_wp2
        go_ret2
        exact ⟨rfl, rfl⟩

end Go.Proofs.YtkblddnnegkbfaaDoor
