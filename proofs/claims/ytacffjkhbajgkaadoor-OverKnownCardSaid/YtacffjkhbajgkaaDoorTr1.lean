/- The contracts of package trace: Ran, Busy, Switches, has, within, done, met, DoneAt, MetBy, Value. -/
import Derived.Test.YtacffjkhbajgkaaDoorTrMath
namespace Go.Proofs.YtacffjkhbajgkaaDoor
open Go.RowKit Go.Lib
set_option linter.unusedVariables false
set_option linter.unusedSimpArgs false

set_option maxHeartbeats 800000 in
theorem ran_any (A : Option Addr) (cap : Nat) (t : List Int) (i z : Int) (w : World) (hcap : cap ≤ 9223372036854775807) (hlc : t.length ≤ cap) (hR : RdT w A t) (hz : (t.count i : Int) = z) :
    Calls Tryd.prog 31 #[.slice A t.length cap, .int .i64 i] w (Ret (.int .i64 z) w) := by
  obtain ⟨n, hl⟩ : ∃ n, t.length = n := ⟨_, rfl⟩
  rw [hl] at hlc ⊢
  have H := Lib.hid (And.intro hl (And.intro hR hz))
  clear hl hR hz
  go_enter Tryd.func31, Tryd.ntmps31
  go_wp2
  go_loopw [5, 10] (fun s0 st wr => ∃ (k : Nat) (c : Nat), s0 = .int .i64 (c : Int) ∧ st = .int .i64 (k : Int) ∧ k ≤ n ∧ c ≤ k ∧ wr = w ∧ Hid ((t.take k).count i = c)) (fun _ st _ => n - (intOf st).toNat)
  case atStart => exact ⟨0, 0, rfl, rfl, by omega, by omega, rfl, Lib.hid (by simp)⟩
  case round =>
    obtain ⟨k, c, rfl, rfl, hkn, hck, rfl, K⟩ := hrel
    rcases Nat.lt_or_ge k n with hlt | hge
    · have d1 : decide ((k : Int) < (n : Int)) = true := decide_eq_true (by omega)
      have e1 : IntKind.i64.wrap ((k : Int) + 1) = ((k + 1 : Nat) : Int) := by rw [IntKind.wrap_i64]; omega
      have e2 : IntKind.i64.wrap ((c : Int) + 1) = ((c + 1 : Nat) : Int) := by rw [IntKind.wrap_i64]; omega
      obtain ⟨x, hx⟩ : ∃ x, t[k]? = some x := ⟨_, List.getElem?_eq_getElem (by rw [H.out.1]; exact hlt)⟩
      obtain ⟨B, off, rfl, c0⟩ := H.out.2.1 k x hx
      have K2 : Hid ((t.take (k + 1)).count i = c + (if x = i then 1 else 0)) := by have := count_next i hx; rw [K.out] at this; exact this
      clear hx K
      by_cases hxi : x = i
      · have d2 : (x == i) = true := by simp [hxi]
        have K3 : Hid ((t.take (k + 1)).count i = c + 1) := by have := K2.out; rw [if_pos hxi] at this; exact this
        clear K2 hxi
        go_wp2
        go_roundw
        case rel => exact ⟨k + 1, c + 1, by first | rfl | simp, by first | rfl | simp, by omega, by omega, by first | rfl | trivial, K3⟩
        case measure => simp [intOf]; omega
      · have d2 : (x == i) = false := by simp [hxi]
        have K3 : Hid ((t.take (k + 1)).count i = c) := by have := K2.out; rw [if_neg hxi] at this; exact this
        clear K2 hxi
        go_wp2
        go_roundw
        case rel => exact ⟨k + 1, c, rfl, by first | rfl | simp, by omega, by omega, by first | rfl | trivial, K3⟩
        case measure => simp [intOf]; omega
    · have d1 : decide ((k : Int) < (n : Int)) = false := decide_eq_false (by omega)
      have hf : (c : Int) = z := by
        rw [← H.out.2.2, ← K.out, List.take_of_length_le (by rw [H.out.1]; exact hge)]
      go_wp2
      go_ret
      exact ⟨ret_i hf, 0, rfl⟩
theorem busy_any (A : Option Addr) (cap : Nat) (t : List Int) (z : Int) (w : World) (hcap : cap ≤ 9223372036854775807) (hlc : t.length ≤ cap) (hR : RdT w A t) (hz : busyZ t = z) :
    Calls Tryd.prog 22 #[.slice A t.length cap] w (Ret (.int .i64 z) w) := by
  have C := Lib.hid (fun w' (h : ∃ k, w' = w.drewN k) => ran_any A cap t (-1) _ w' hcap hlc (by obtain ⟨k, rfl⟩ := h; exact hR) rfl)
  have hc : t.count (-1) ≤ t.length := List.count_le_length
  unfold busyZ at hz
  generalize t.count (-1) = c at *
  generalize t.length = n at *
  have e1 : wrap64 ((n : Int) - (c : Int)) = z := by unfold wrap64; omega
  have e0 := Lib.hid hz
  clear hz hR hc
  go_enter Tryd.func22, Tryd.ntmps22
  go_wp2_with fail
  refine (C.out _ ⟨0, rfl⟩).mono ?_; rintro e gw ⟨rfl, q, rfl⟩
  clear C
  go_wp2
  go_ret
  exact ⟨by first | exact ret_i e1 | exact ret_i e0.out, _, rfl⟩
end Go.Proofs.YtacffjkhbajgkaaDoor
