/- Numbers: package name's answer and the document's own. -/
import Derived.Test.YtkblddnnegkbfaaDoorName5
namespace Go.Proofs.YtkblddnnegkbfaaDoor
open Go.RowKit Go.Lib Go.PlainAid
set_option linter.unusedVariables false
set_option linter.unusedSimpArgs false

def numT (o : Option Int) : Value := .tuple #[.int .i64 (o.getD 0), .bool o.isSome]

theorem numGo_end (d : Nat) (v : Int) (s : ByteArray) : numGo d v (s.data.toList.drop s.size) = if d = 0 then none else some v := by
  rw [show s.data.toList.drop s.size = [] by rw [List.drop_eq_nil_iff, size_data]; exact Nat.le_refl _]; rfl
theorem numGo_bad (d : Nat) (v : Int) (s : ByteArray) (k : Nat) (h : k < s.size) (hb : ¬ (dig (s.get! k) = true ∧ d ≠ 12)) : numGo d v (s.data.toList.drop k) = none := by
  rw [drop_at s k h, numGo, if_neg hb]
theorem numGo_step (d : Nat) (v : Int) (s : ByteArray) (k : Nat) (h : k < s.size) (hb : dig (s.get! k) = true) (hd : d ≠ 12) : numGo d v (s.data.toList.drop k) = numGo (d + 1) (v * 10 + (((s.get! k).toNat : Int) - 48)) (s.data.toList.drop (k + 1)) := by
  rw [drop_at s k h, numGo, if_pos ⟨hb, hd⟩]
theorem dig_iff (b : UInt8) : dig b = true ↔ 48 ≤ b.toNat ∧ b.toNat ≤ 57 := by unfold dig; simp

/-- 10 to the d. -/
def p10 : Nat → Int
  | 0 => 1
  | d + 1 => 10 * p10 d
theorem p10_12 (d : Nat) (h : d ≤ 12) : p10 d ≤ 1000000000000 := by
  have : ∀ n, d + n = 12 → p10 d ≤ 1000000000000 := by
    intro n hn
    match d, h with
    | 0, _ | 1, _ | 2, _ | 3, _ | 4, _ | 5, _ | 6, _ | 7, _ | 8, _ | 9, _ | 10, _ | 11, _ | 12, _ => decide
  exact this (12 - d) (by omega)

/-- The sign, and where the digits begin. -/
def neg (s : ByteArray) : Bool := decide (0 < s.size) && (s.get! 0).toNat == 45
theorem numL_eq (s : ByteArray) : numL s.data.toList = if neg s = true then (numGo 0 0 (s.data.toList.drop 1)).map (fun v => -v) else numGo 0 0 (s.data.toList.drop 0) := by
  unfold neg
  by_cases h : 0 < s.size
  · rw [decide_eq_true h, Bool.true_and]
    have := drop_at s 0 h
    simp only [List.drop_zero] at this
    rw [this, numL]
    simp only [List.drop_zero, List.drop_succ_cons, beq_iff_eq]
  · have : s.data.toList = [] := by rw [← List.length_eq_zero_iff, ← size_data]; omega
    rw [this]
    simp [numL, numGo, h]

set_option maxHeartbeats 3200000 in
set_option maxRecDepth 1000000 in
theorem num_any (s : ByteArray) (w : World) (hs : s.size ≤ 1000000) : Calls Tryd.prog 10 #[.string s] w (RetB (numT (numL s.data.toList)) w) := by
  replace hs : (s.size : Int) ≤ 1000000 := by omega
  obtain ⟨o, ho⟩ : ∃ o, numL s.data.toList = o := ⟨_, rfl⟩
  rw [ho, ]
  rw [numL_eq] at ho
  go_enter Tryd.func10, Tryd.ntmps10
  go_wp2
  go_loopw [4, 5, 6] (fun v g d wr => ∃ (pos dn : Nat) (val sg : Int), wr = w.iter s pos ∧ v = .int .i64 val ∧ g = .int .i64 sg ∧ d = .int .i64 (dn : Nat) ∧ pos ≤ s.size ∧ dn ≤ 12 ∧ 0 ≤ val ∧ val < p10 dn ∧
      ((pos = 0 ∧ dn = 0 ∧ val = 0 ∧ sg = 1) ∨ (0 < pos ∧ (sg = 1 ∨ sg = -1) ∧ (numGo dn val (s.data.toList.drop pos)).map (fun v => sg * v) = o))) (fun _ _ _ wr => s.size - wr.iterPos w.heap.size)
  case atStart => exact ⟨0, 0, 0, 1, rfl, rfl, rfl, rfl, by omega, by omega, by omega, by decide, Or.inl ⟨rfl, rfl, rfl, rfl⟩⟩
  case round =>
    obtain ⟨pos, dn, val, sg, rfl, rfl, rfl, rfl, hps, hdn, hv0, hv1, hor⟩ := hrel
    by_cases hp : pos < s.size
    · have hnx : ∀ ty, (Instr.next (.pointer (some ⟨w.heap.size, 0, none⟩)) true ty).run Tryd.prog (w.iter s pos) = _ := fun ty => run_next_any w s pos ty hp
      have hnx2 : ∀ ty, (Instr.next (.pointer (some ⟨w.heap.size, 0, none⟩)) true ty).run Tryd.prog (w.iter s pos) = .ok (.tuple #[.bool true, .int .i64 (pos : Nat), .int .i32 ((Utf8.decode s pos).1 : Nat)]) (w.iter s (pos + (Utf8.decode s pos).2)) := hnx
      clear hnx
      have hwd := dec_pos s pos
      have hwe := dec_end s pos hp
      have hlow : (s.get! pos).toNat < 128 → (Utf8.decode s pos).1 = (s.get! pos).toNat ∧ (Utf8.decode s pos).2 = 1 := fun h => by rw [dec_low s pos h]; exact ⟨rfl, rfl⟩
      have hhigh : 128 ≤ (s.get! pos).toNat → 128 ≤ (Utf8.decode s pos).1 := fun h => dec_high s pos h
      have hrle := dec_le s pos
      have hrle2 : ((Utf8.decode s pos).1 : Int) ≤ 1114111 := by omega
      clear hrle
      generalize (Utf8.decode s pos).1 = r at *
      generalize (Utf8.decode s pos).2 = k at *
      -- a byte below 128 is the rune
      have hrb : r < 128 → r = (s.get! pos).toNat ∧ k = 1 := fun h => by
        rcases Nat.lt_or_ge (s.get! pos).toNat 128 with h1 | h1
        · exact hlow h1
        · have := hhigh h1; omega
      have hbr : (s.get! pos).toNat < 128 → r = (s.get! pos).toNat := fun h => (hlow h).1
      clear hlow hhigh
      -- what the rest of it says, whatever the road
      have hdig : dig (s.get! pos) = (decide (48 ≤ r) && decide (r ≤ 57)) := by
        rw [Bool.eq_iff_iff, dig_iff]
        simp only [Bool.and_eq_true, decide_eq_true_eq]
        constructor
        · intro h; have := hbr (by omega); omega
        · intro h; have := hrb (by omega); omega
      have hneg0 : pos = 0 → neg s = decide (r = 45) := fun h => by
        subst h
        unfold neg
        rw [decide_eq_true hp, Bool.true_and, Bool.eq_iff_iff, decide_eq_true_eq, beq_iff_eq]
        constructor
        · intro h; have := hbr (by omega); omega
        · intro h; have := hrb (by omega); omega
      have cD := fun w => isDigit_ret (r : Nat) w
      by_cases hm : pos = 0 ∧ r = 45
      · obtain ⟨hm1, hm2⟩ := hm
        obtain rfl : k = 1 := (hrb (by omega)).2
        have ho2 : (numGo 0 0 (s.data.toList.drop 1)).map (fun v => -1 * v) = o := by
          rw [← ho, hneg0 hm1, decide_eq_true hm2, if_pos rfl]
          congr 1
          funext v; omega
        rcases hor with ⟨_, rfl, rfl, rfl⟩ | ⟨h, _⟩
        · subst hm1
          have e45 : ((r : Int) == 45) = true := by simp; omega
          replace hm2 := Lib.hid hm2
          replace ho2 := Lib.hid ho2
          clear hrb hbr hdig hneg0 cD ho
          go_wp2
          go_roundw
          case rel => exact ⟨0 + 1, 0, 0, -1, rfl, rfl, rfl, rfl, hwe, by omega, by omega, by decide, Or.inr ⟨by omega, Or.inr rfl, ho2.out⟩⟩
          case measure => simp; omega
        · omega
      · have hgo : (numGo dn val (s.data.toList.drop pos)).map (fun v => sg * v) = o := by
          rcases hor with ⟨rfl, rfl, rfl, rfl⟩ | h
          · rw [← ho, hneg0 rfl, decide_eq_false (fun h => hm ⟨rfl, h⟩)]
            simp
          · exact h.2.2
        have hsg : sg = 1 ∨ sg = -1 := by
          rcases hor with h | h
          · exact Or.inl h.2.2.2
          · exact h.2.1
        clear hor hneg0 ho
        by_cases hpz : pos = 0
        · subst hpz
          have e45 : ((r : Int) == 45) = false := by simp; intro h; exact hm ⟨rfl, by omega⟩
          clear hm
          have hp12 := p10_12 dn hdn
          cases hd : (decide (48 ≤ (r : Int)) && decide ((r : Int) ≤ 57)) with
          | false =>
            rw [hd] at cD
            have hno : o = none := by
              rw [← hgo, numGo_bad _ _ s 0 hp (by rw [hdig]; intro h; have h1 := h.1; simp at h1; simp at hd; omega)]; rfl
            subst hno
            replace cD := Lib.hid cD
            clear hgo hrb hbr hdig hd
            go_wp2_with fail
            refine (cD.out _).mono ?_; rintro e w' ⟨rfl, rfl⟩
            go_wp2
            go_ret2
            exact ⟨rfl, below_iter _ _ _⟩
          | true =>
            rw [hd] at cD
            have hd2 : 48 ≤ r ∧ r ≤ 57 := by simp at hd; omega
            obtain ⟨hr1, hr2⟩ := hd2
            by_cases h12 : dn = 12
            · have hno : o = none := by rw [← hgo, numGo_bad _ _ s 0 hp (fun h => h.2 h12)]; rfl
              subst hno
              subst h12
              replace cD := Lib.hid cD
              clear hgo hrb hbr hdig hd
              go_wp2_with fail
              refine (cD.out _).mono ?_; rintro e w' ⟨rfl, rfl⟩
              go_wp2
              go_ret2
              exact ⟨rfl, below_iter _ _ _⟩
            · have hp13 := p10_12 (dn + 1) (by omega)
              have hpe : p10 (dn + 1) = 10 * p10 dn := rfl
              have hvb : val ≤ 100000000000 := by omega
              obtain ⟨hb1, hb2⟩ := hrb (by omega)
              subst hb2
              have hgo2 : (numGo (dn + 1) (val * 10 + ((r : Int) - 48)) (s.data.toList.drop (0 + 1))).map (fun v => sg * v) = o := by
                rw [← hgo, numGo_step dn val s 0 hp (by rw [hdig]; simp; omega) h12, hb1]
              have hvn : val * 10 + ((r : Int) - 48) < p10 (dn + 1) := by omega
              replace hgo2 := Lib.hid hgo2
              replace hvn := Lib.hid hvn
              replace cD := Lib.hid cD
              clear hgo hbr hrb hdig hd hb1 hp12 hp13 hpe hv1
              go_wp2_with fail
              refine (cD.out _).mono ?_; rintro e w' ⟨rfl, rfl⟩
              go_wp2
              go_roundw
              case rel => exact ⟨0 + 1, dn + 1, val * 10 + ((r : Int) - 48), sg, rfl, by simp, rfl, by simp, hwe, by omega, by omega, hvn.out, Or.inr ⟨by omega, hsg, hgo2.out⟩⟩
              case measure => simp; omega
        · have e0 : ((pos : Int) == 0) = false := by simp; omega
          clear hm
          have hp12 := p10_12 dn hdn
          cases hd : (decide (48 ≤ (r : Int)) && decide ((r : Int) ≤ 57)) with
          | false =>
            rw [hd] at cD
            have hno : o = none := by
              rw [← hgo, numGo_bad _ _ s pos hp (by rw [hdig]; intro h; have h1 := h.1; simp at h1; simp at hd; omega)]; rfl
            subst hno
            replace cD := Lib.hid cD
            clear hgo hrb hbr hdig hd
            go_wp2_with fail
            refine (cD.out _).mono ?_; rintro e w' ⟨rfl, rfl⟩
            go_wp2
            go_ret2
            exact ⟨rfl, below_iter _ _ _⟩
          | true =>
            rw [hd] at cD
            have hd2 : 48 ≤ r ∧ r ≤ 57 := by simp at hd; omega
            obtain ⟨hr1, hr2⟩ := hd2
            by_cases h12 : dn = 12
            · have hno : o = none := by rw [← hgo, numGo_bad _ _ s pos hp (fun h => h.2 h12)]; rfl
              subst hno
              subst h12
              replace cD := Lib.hid cD
              clear hgo hrb hbr hdig hd
              go_wp2_with fail
              refine (cD.out _).mono ?_; rintro e w' ⟨rfl, rfl⟩
              go_wp2
              go_ret2
              exact ⟨rfl, below_iter _ _ _⟩
            · have hp13 := p10_12 (dn + 1) (by omega)
              have hpe : p10 (dn + 1) = 10 * p10 dn := rfl
              have hvb : val ≤ 100000000000 := by omega
              obtain ⟨hb1, hb2⟩ := hrb (by omega)
              subst hb2
              have hgo2 : (numGo (dn + 1) (val * 10 + ((r : Int) - 48)) (s.data.toList.drop (pos + 1))).map (fun v => sg * v) = o := by
                rw [← hgo, numGo_step dn val s pos hp (by rw [hdig]; simp; omega) h12, hb1]
              have hvn : val * 10 + ((r : Int) - 48) < p10 (dn + 1) := by omega
              replace hgo2 := Lib.hid hgo2
              replace hvn := Lib.hid hvn
              replace cD := Lib.hid cD
              clear hgo hbr hrb hdig hd hb1 hp12 hp13 hpe hv1
              go_wp2_with fail
              refine (cD.out _).mono ?_; rintro e w' ⟨rfl, rfl⟩
              go_wp2
              go_roundw
              case rel => exact ⟨pos + 1, dn + 1, val * 10 + ((r : Int) - 48), sg, rfl, by simp, rfl, by simp, hwe, by omega, by omega, hvn.out, Or.inr ⟨by omega, hsg, hgo2.out⟩⟩
              case measure => simp; omega
    · have hnx : ∀ ty, (Instr.next (.pointer (some ⟨w.heap.size, 0, none⟩)) true ty).run Tryd.prog (w.iter s pos) = _ := fun ty => run_next_end w s pos ty hp
      obtain rfl : pos = s.size := by omega
      have hp12 := p10_12 dn hdn
      rcases hor with ⟨h0, rfl, rfl, rfl⟩ | ⟨h0, hsg, hgo⟩
      · have hno : o = none := by
          rw [← ho]
          have : neg s = false := by unfold neg; rw [decide_eq_false (by omega)]; rfl
          rw [this, if_neg (by simp), ← h0, numGo_end, if_pos h0]
        subst hno
        replace h0 := Lib.hid h0
        clear ho hv1 hp12
        go_wp2
        go_ret2
        exact ⟨rfl, below_iter _ _ _⟩
      · rw [numGo_end] at hgo
        by_cases hd : dn = 0
        · rw [if_pos hd] at hgo
          subst hgo
          subst hd
          clear ho hv1 hp12
          go_wp2
          go_ret2
          exact ⟨rfl, below_iter _ _ _⟩
        · rw [if_neg hd] at hgo
          subst hgo
          have hvb : val ≤ 1000000000000 := by omega
          clear ho hv1 hp12
          rcases hsg with rfl | rfl
          · go_wp2
            go_ret2
            exact ⟨ret_ib (by simp) rfl, below_iter _ _ _⟩
          · have hmul : wrap64 (-1 * val) = -1 * val := by simp only [wrap64]; omega
            go_wp2
            go_ret2
            exact ⟨ret_ib (by simp) rfl, below_iter _ _ _⟩
end Go.Proofs.YtkblddnnegkbfaaDoor
