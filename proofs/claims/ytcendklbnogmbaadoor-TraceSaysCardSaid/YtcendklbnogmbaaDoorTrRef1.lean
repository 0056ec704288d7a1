/- The document's own traces: Ran, Busy, Switches. -/
import Derived.Test.YtcendklbnogmbaaDoorTr1
namespace Go.Proofs.YtcendklbnogmbaaDoor
open Go.RowKit Go.Lib
set_option linter.unusedVariables false
set_option linter.unusedSimpArgs false

set_option maxHeartbeats 800000 in
theorem rran_any (A : Option Addr) (cap : Nat) (t : List Int) (i z : Int) (w : World) (hn : t.length ≤ 1000000) (hcap : cap ≤ 9223372036854775807) (hlc : t.length ≤ cap) (hR : RdT w A t) (hz : (t.count i : Int) = z) :
    Calls Tryd.prog 20 #[.slice A t.length cap, .int .i64 i] w (Ret (.int .i64 z) w) := by
  obtain ⟨n, hl⟩ : ∃ n, t.length = n := ⟨_, rfl⟩
  rw [hl] at hlc hn ⊢
  have H := Lib.hid (And.intro hl (And.intro hR hz))
  clear hl hR hz
  go_enter Tryd.func20, Tryd.ntmps20
  go_wp2
  go_loopw [5, 6] (fun s0 st wr => ∃ (k : Nat) (c : Nat), s0 = .int .i64 (c : Int) ∧ st = .int .i64 (k : Int) ∧ k ≤ n ∧ c ≤ k ∧ wr = w ∧ Hid ((t.take k).count i = c)) (fun _ st _ => n - (intOf st).toNat)
  case atStart => exact ⟨0, 0, rfl, rfl, by omega, by omega, rfl, Lib.hid (by simp)⟩
  case round =>
    obtain ⟨k, c, rfl, rfl, hkn, hck, rfl, K⟩ := hrel
    rcases Nat.lt_or_ge k n with hlt | hge
    · have d1 : decide ((k : Int) < (n : Int)) = true := decide_eq_true (by omega)
      have b1 : (k : Int) < (n : Int) := by omega
      have e1 : IntKind.i64.wrap ((k : Int) + 1) = ((k + 1 : Nat) : Int) := by rw [IntKind.wrap_i64]; omega
      have e2 : IntKind.i64.wrap ((c : Int) + 1) = ((c + 1 : Nat) : Int) := by rw [IntKind.wrap_i64]; omega
      obtain ⟨x, hx⟩ : ∃ x, t[k]? = some x := ⟨_, List.getElem?_eq_getElem (by rw [H.out.1]; exact hlt)⟩
      obtain ⟨B, off, rfl, c0⟩ := H.out.2.1 k x hx
      have K2 : Hid ((t.take (k + 1)).count i = c + (if x = i then 1 else 0)) := by have := count_next i hx; rw [K.out] at this; exact this
      clear hx K
      by_cases hxi : x = i
      · have d2 : (x == i) = true := by simp [hxi]
        have K3 : Hid ((t.take (k + 1)).count i = c + 1) := by have := K2.out; rw [if_pos hxi] at this; exact this
        clear K2 hxi
        go_wp2
        go_roundw
        case rel => exact ⟨k + 1, c + 1, by first | rfl | simp, by first | rfl | simp, by omega, by omega, by first | rfl | trivial, K3⟩
        case measure => simp [intOf]; omega
      · have d2 : (x == i) = false := by simp [hxi]
        have K3 : Hid ((t.take (k + 1)).count i = c) := by have := K2.out; rw [if_neg hxi] at this; exact this
        clear K2 hxi
        go_wp2
        go_roundw
        case rel => exact ⟨k + 1, c, rfl, by first | rfl | simp, by omega, by omega, by first | rfl | trivial, K3⟩
        case measure => simp [intOf]; omega
    · have d1 : decide ((k : Int) < (n : Int)) = false := decide_eq_false (by omega)
      have hf : (c : Int) = z := by
        rw [← H.out.2.2, ← K.out, List.take_of_length_le (by rw [H.out.1]; exact hge)]
      go_wp2
      go_ret
      exact ⟨ret_i hf, 0, rfl⟩
theorem rbusy_any (A : Option Addr) (cap : Nat) (t : List Int) (z : Int) (w : World) (hn : t.length ≤ 1000000) (hcap : cap ≤ 9223372036854775807) (hlc : t.length ≤ cap) (hR : RdT w A t) (hz : busyZ t = z) :
    Calls Tryd.prog 25 #[.slice A t.length cap] w (Ret (.int .i64 z) w) := by
  have C := Lib.hid (fun w' (h : ∃ k, w' = w.drewN k) => rran_any A cap t (-1) _ w' hn hcap hlc (by obtain ⟨k, rfl⟩ := h; exact hR) rfl)
  have hc : t.count (-1) ≤ t.length := List.count_le_length
  unfold busyZ at hz
  generalize t.count (-1) = c at *
  generalize t.length = n at *
  have e1 : wrap64 ((n : Int) - (c : Int)) = z := by unfold wrap64; omega
  have e0 := Lib.hid hz
  clear hz hR hc
  go_enter Tryd.func25, Tryd.ntmps25
  go_wp2_with fail
  refine (C.out _ ⟨0, rfl⟩).mono ?_; rintro e gw ⟨rfl, q, rfl⟩
  clear C
  go_wp2
  go_ret
  exact ⟨by first | exact ret_i e1 | exact ret_i e0.out, _, rfl⟩
set_option maxHeartbeats 3200000 in
theorem rswitches_any (A : Option Addr) (cap : Nat) (t : List Int) (z : Int) (w : World) (hn : t.length ≤ 1000000) (hcap : cap ≤ 9223372036854775807) (hlc : t.length ≤ cap) (hR : RdT w A t) (hz : (swGo (-1) t : Int) = z) :
    Calls Tryd.prog 26 #[.slice A t.length cap] w (Ret (.int .i64 z) w) := by
  obtain ⟨n, hl⟩ : ∃ n, t.length = n := ⟨_, rfl⟩
  rw [hl] at hlc hn ⊢
  have H := Lib.hid (And.intro hl (And.intro hR hz))
  clear hl hR hz
  go_enter Tryd.func26, Tryd.ntmps26
  go_wp2
  go_loopw [3, 4] (fun s0 st wr => ∃ (j : Nat) (c : Nat) (q : Nat), s0 = .int .i64 (c : Int) ∧ st = .int .i64 ((j + 1 : Nat) : Int) ∧ (j + 1 ≤ n ∨ j = 0) ∧ c ≤ j ∧ wr = w.drewN q ∧ Hid (∀ b, t[j]? = some b → c + swGo b (t.drop (j + 1)) = swGo (-1) t)) (fun _ st _ => n + 1 - (intOf st).toNat)
  case atStart =>
    refine ⟨0, 0, 0, rfl, rfl, by omega, by omega, rfl, Lib.hid (fun b hb => ?_)⟩
    have := dropT_at hb
    rw [List.drop_zero] at this
    rw [this]
    simp [swGo, swB]
  case round =>
    obtain ⟨j, c, q, rfl, rfl, hjn, hcj, rfl, K⟩ := hrel
    rcases Nat.lt_or_ge (j + 1) n with hlt | hge
    · obtain ⟨k, hk⟩ : ∃ k, j + 1 = k := ⟨_, rfl⟩
      obtain ⟨b, hb⟩ : ∃ x, t[j]? = some x := ⟨_, List.getElem?_eq_getElem (by rw [H.out.1]; omega)⟩
      obtain ⟨x, hx⟩ : ∃ x, t[j + 1]? = some x := ⟨_, List.getElem?_eq_getElem (by rw [H.out.1]; exact hlt)⟩
      obtain ⟨B, off, rfl, c0⟩ := H.out.2.1 (j + 1) x hx
      obtain ⟨B', off', hA, c1⟩ := H.out.2.1 j b hb
      simp only [Option.some.injEq, Addr.mk.injEq, and_true] at hA
      obtain ⟨rfl, rfl⟩ := hA
      have K2 : Hid (c + ((if swB b x then 1 else 0) + swGo x (t.drop (k + 1))) = swGo (-1) t) := by have := K.out b hb; rw [dropT_at hx, hk] at this; exact this
      have hs : swB b x = ((x != b) && ((x != -1) && (b != -1))) := rfl
      rw [hk] at c0 hx ⊢
      have d1 : decide ((k : Int) < (n : Int)) = true := decide_eq_true (by omega)
      have b1 : (k : Int) < (n : Int) := by omega
      have b2 : (j : Int) < (n : Int) := by omega
      have b3 : (0 : Int) ≤ (k : Int) := by omega
      have b4 : (0 : Int) ≤ (j : Int) := by omega
      have e0 : IntKind.i64.wrap ((k : Int) - 1) = (j : Int) := by rw [IntKind.wrap_i64]; omega
      have e4 : wrap64 ((k : Int) - 1) = (j : Int) := by unfold wrap64; omega
      have e1 : IntKind.i64.wrap ((k : Int) + 1) = ((k + 1 : Nat) : Int) := by rw [IntKind.wrap_i64]; omega
      have e2 : IntKind.i64.wrap ((c : Int) + 1) = ((c + 1 : Nat) : Int) := by rw [IntKind.wrap_i64]; omega
      have hkc : Hid (c ≤ k ∧ c + 1 ≤ k) := by show _ ∧ _; omega
      have KX : Hid (∀ c' b', b' = x → c' + swGo x (t.drop (k + 1)) = swGo (-1) t → ∀ b, t[k]? = some b → c' + swGo b (t.drop (k + 1)) = swGo (-1) t) := by
        intro c' b' _ h b hb
        rw [hx] at hb
        injection hb with hb
        subst hb
        exact h
      replace hk := Lib.hid hk
      clear hx hb K hjn hcj hlt
      obtain ⟨q1, h1⟩ : ∃ q, (x != b) = q := ⟨_, rfl⟩
      obtain ⟨q2, h2⟩ : ∃ q, (x != -1) = q := ⟨_, rfl⟩
      obtain ⟨q3, h3⟩ : ∃ q, (b != -1) = q := ⟨_, rfl⟩
      rw [h1, h2, h3] at hs
      by_cases hsw : swB b x = true
      · have K3 : Hid (∀ b, t[k]? = some b → c + 1 + swGo b (t.drop (k + 1)) = swGo (-1) t) := KX.out _ x rfl (by have := K2.out; rw [if_pos hsw] at this; omega)
        rw [hsw] at hs
        have hs2 := hs.symm
        simp only [Bool.and_eq_true] at hs2
        obtain ⟨rfl, rfl, rfl⟩ := hs2
        clear hs hsw K2 KX
        go_wp2
        go_quiet (fail)
        go_wp2
        go_roundw
        case rel => exact ⟨k, c + 1, _, by first | rfl | simp, by first | rfl | simp, by omega, hkc.out.2, by first | rfl | trivial, K3⟩
        case measure => simp [intOf]; omega
      · have K3 : Hid (∀ b, t[k]? = some b → c + swGo b (t.drop (k + 1)) = swGo (-1) t) := KX.out _ x rfl (by have := K2.out; rw [if_neg hsw] at this; omega)
        have hsw2 : swB b x = false := by simpa using hsw
        rw [hsw2] at hs
        clear hsw hsw2 K2 KX
        cases q1
        · clear hs
          go_wp2
          go_quiet (fail)
          go_wp2
          go_roundw
          case rel => exact ⟨k, c, _, rfl, by first | rfl | simp, by omega, hkc.out.1, by first | rfl | trivial, K3⟩
          case measure => simp [intOf]; omega
        · cases q2
          · clear hs
            go_wp2
            go_quiet (fail)
            go_wp2
            go_roundw
            case rel => exact ⟨k, c, _, rfl, by first | rfl | simp, by omega, hkc.out.1, by first | rfl | trivial, K3⟩
            case measure => simp [intOf]; omega
          · cases q3
            · clear hs
              go_wp2
              go_quiet (fail)
              go_wp2
              go_roundw
              case rel => exact ⟨k, c, _, rfl, by first | rfl | simp, by omega, hkc.out.1, by first | rfl | trivial, K3⟩
              case measure => simp [intOf]; omega
            · simp at hs
    · have d1 : decide (((j + 1 : Nat) : Int) < (n : Int)) = false := decide_eq_false (by omega)
      have hf : (c : Int) = z := by
        rw [← H.out.2.2]
        rcases Nat.eq_zero_or_pos n with h0 | h0
        · have : t = [] := List.eq_nil_of_length_eq_zero (by rw [H.out.1]; exact h0)
          rw [this]; simp [swGo]; omega
        · obtain ⟨b, hb⟩ : ∃ x, t[j]? = some x := ⟨_, List.getElem?_eq_getElem (by rw [H.out.1]; omega)⟩
          have := K.out b hb
          rw [List.drop_eq_nil_of_le (by rw [H.out.1]; exact hge)] at this
          rw [← this]; simp [swGo]
      have d2 : decide ((j : Int) + 1 < (n : Int)) = false := decide_eq_false (by omega)
      clear K hjn
      go_wp2
      go_ret
      exact ⟨ret_i hf, _, rfl⟩
end Go.Proofs.YtcendklbnogmbaaDoor
