/- Package util: Of, Period, Sum. -/
import Derived.Test.YtkjgpidiompmlaaUtRef
import Derived.Test.YtkjgpidiompmlaaNum4
import Derived.Test.YtkjgpidiompmlaaNum3
namespace Go.Proofs.Ytkjgpidiompmlaa
open Go.RowKit
open Go.Lib hiding intOf
set_option linter.unusedVariables false
set_option linter.unusedSimpArgs false

set_option maxHeartbeats 1600000 in
set_option maxRecDepth 100000 in
theorem usum_any (A : Option Addr) (c : Nat) (l : List Int) (v : Int) (o : Bool) (w : World) (hl : l.length ≤ 9223372036854775807) (hf : ∀ x ∈ l, fitB x = true) (hr : ReadsI w A l) (hv : totV l = v) (ho : totOk l = o) :
    Calls Try.prog 30 #[.slice A l.length c] w (Ret (.tuple #[.int .i64 v, .bool o]) w) := by
  obtain ⟨n, hn⟩ : ∃ n, l.length = n := ⟨_, rfl⟩
  have H := Lib.hid (And.intro hn (And.intro hf (And.intro hr (And.intro hv ho))))
  rw [hn] at hl ⊢
  clear hn hf hr hv ho
  go_enter Try.func30, Try.ntmps30
  go_wp2
  go_loopw [4, 11] (fun sv st wx => ∃ (i : Nat) (u : Int) (d : Nat), sv = .int .i64 u ∧ st = .int .i64 (i : Int) ∧ i ≤ n ∧ wx = w.drewN d ∧ Hid ((∀ x ∈ l.take i, 0 ≤ x) ∧ (l.take i).sum = u ∧ fitB u = true ∧ 0 ≤ u)) (fun _ st _ => n - (intOf st).toNat)
  case atStart => exact ⟨0, 0, 0, rfl, rfl, by omega, rfl, Lib.hid ⟨by simp, by simp, by decide, by omega⟩⟩
  case round =>
    obtain ⟨i, u, d, rfl, rfl, hin, rfl, K⟩ := hrel
    rcases Nat.lt_or_ge i n with hlt | hge
    · have d1 : decide ((i : Int) < (n : Int)) = true := decide_eq_true (by omega)
      have e1 : IntKind.i64.wrap ((i : Int) + 1) = ((i + 1 : Nat) : Int) := by rw [IntKind.wrap_i64]; omega
      have b1 : (i : Int) < (n : Int) := by omega
      have hil : i < l.length := by rw [H.out.1]; exact hlt
      obtain ⟨B, off, rfl, c0⟩ := H.out.2.2.1 i hil
      obtain ⟨x, hx⟩ : ∃ x, l.getD i 0 = x := ⟨_, rfl⟩
      have hfx : fitB x = true := by rw [← hx]; refine H.out.2.1 _ ?_; rw [List.getD, List.getElem?_eq_getElem hil]; exact List.getElem_mem _
      have hs := sum_next hil
      rw [hx] at c0 hs
      rw [K.out.2.1] at hs
      obtain ⟨f, hfo⟩ : ∃ f, fitB (u + x) = f := ⟨_, rfl⟩
      have C := fun v' => Lib.hid (add_named u x v' f · K.out.2.2.1 hfx · hfo)
      have N : Hid (x < 0 ∨ f = false → v = 0 ∧ o = false) := fun h => by
        obtain ⟨z1, z2⟩ := tot_no hil (by rw [hx, hs, hfo]; exact h) (by rw [K.out.2.1]; exact K.out.2.2.2) (by rw [hx]; exact hfx)
        exact ⟨by rw [← H.out.2.2.2.1, z2], by rw [← H.out.2.2.2.2, z1]⟩
      have Y : Hid (0 ≤ x → f = true → (∀ y ∈ l.take (i + 1), 0 ≤ y) ∧ (l.take (i + 1)).sum = u + x ∧ fitB (u + x) = true ∧ 0 ≤ u + x) := fun h1 h2 => ⟨nn_next hil K.out.1 (by rw [hx]; exact h1), hs, hfo.trans h2, by have := K.out.2.2.2; omega⟩
      have hcut : f = true → cutZ (u + x) = u + x := fun h => cutZ_true (hfo.trans h)
      obtain ⟨z, hz⟩ : ∃ z, cutZ (u + x) = z := ⟨_, rfl⟩
      have C' := Lib.hid fun w' => (C z).out w' hz
      have Z : Hid (f = true → z = u + x) := fun h => by rw [← hz]; exact hcut h
      clear C hs hx hfo hfx hil K hcut hz
      by_cases h0 : x < 0
      · have d2 : decide (x < 0) = true := decide_eq_true h0
        obtain ⟨rfl, rfl⟩ := N.out (.inl h0)
        clear N Y Z h0 C'
        go_wp2
        go_ret2
        exact ⟨rfl, _, rfl⟩
      · have d2 : decide (x < 0) = false := decide_eq_false h0
        cases f
        · obtain ⟨rfl, rfl⟩ := N.out (.inr rfl)
          clear N Y Z h0
          go_wp2_with fail
          refine (C'.out _).mono ?_; rintro e w' ⟨rfl, n1, rfl⟩
          go_wp2
          go_ret2
          exact ⟨rfl, _, rfl⟩
        · have Q := Lib.hid (Y.out (by omega) rfl)
          obtain rfl : z = u + x := Z.out rfl
          generalize u + x = z at *
          clear N Y Z h0
          go_wp2_with fail
          refine (C'.out _).mono ?_; rintro e w' ⟨rfl, n2, rfl⟩
          go_wp2
          go_roundw
          case rel => exact ⟨i + 1, z, _, rfl, by first | rfl | simp, by omega, rfl, Q⟩
          case measure => simp [intOf]; omega
    · have d1 : decide ((i : Int) < (n : Int)) = false := decide_eq_false (by omega)
      have hy : totOk l = true ∧ totV l = u := by
        have k := K.out
        rw [List.take_of_length_le (by rw [H.out.1]; exact hge)] at k
        obtain ⟨z1, z2⟩ := tot_yes k.1 (by rw [k.2.1]; exact k.2.2.1)
        exact ⟨z1, by rw [z2, k.2.1]⟩
      obtain rfl : v = u := by rw [← H.out.2.2.2.1, hy.2]
      obtain rfl : o = true := by rw [← H.out.2.2.2.2, hy.1]
      clear hy K
      go_wp2
      go_ret2
      exact ⟨rfl, _, rfl⟩
end Go.Proofs.Ytkjgpidiompmlaa
