/- The contracts of the document's own reckoning of layer 1, the second part: orders, sums, products. -/
import Derived.Test.YtmokbmhobglhfaaRef1
namespace Go.Proofs.Ytmokbmhobglhfaa
open Go.RowKit
set_option linter.unusedVariables false
set_option linter.unusedSimpArgs false

theorem abs_split (a b : Int) (ng : Bool) (hi lo : Nat) (h : WideOf (a * b) ng hi lo) :
    ((decide (a < 0) != decide (b < 0)) && (((hi : Int) != 0) || ((lo : Int) != 0))) = ng := by
  have ha := h.abs
  have hn := h.1
  by_cases z : a * b = 0
  · have h1 : hi = 0 := by rw [← h.2.1, z]; rfl
    have h2 : lo = 0 := by rw [← h.2.2, z]; rfl
    rw [← hn, z, h1, h2]; simp
  · have hz : (((hi : Int) != 0) || ((lo : Int) != 0)) = true := by
      by_cases k : hi = 0
      · have : lo ≠ 0 := by intro k2; rw [k, k2] at ha; omega
        simp [this]
      · simp [k]
    rw [hz, Bool.and_true, ← hn]
    by_cases hs : (decide (a < 0) != decide (b < 0)) = true
    · rw [hs]; have := signs_ne hs; symm; exact decide_eq_true (by omega)
    · have := signs_eq hs
      rw [show (decide (a < 0) != decide (b < 0)) = false by simpa using hs]; symm; exact decide_eq_false (by omega)

theorem times_any (a b : Int) (ng : Bool) (hi lo : Nat) (w : World) (ha : fitB a = true) (hb : fitB b = true) (h : WideOf (a * b) ng hi lo) :
    Calls Try.prog 29 #[.int .i64 a, .int .i64 b] w (RetB (.agg #[.bool ng, .int .u64 (hi : Int), .int .u64 (lo : Int)]) w) := by
  obtain ⟨a0, a1⟩ := fitB_iff.1 ha
  obtain ⟨b0, b1⟩ := fitB_iff.1 hb
  refine times_core a b _ _ _ _ ng a.natAbs b.natAbs hi lo w rfl rfl rfl rfl (abs_split a b ng hi lo h) (Lib.hid fun w => rsize_any a _ w ha rfl) (Lib.hid fun w => rsize_any b _ w hb rfl)
    (Lib.hid fun w => rmul_any _ _ hi lo w (by omega) (by omega) (by rw [abs_mul]; exact h.2.1) (by rw [abs_mul]; exact h.2.2))

set_option maxHeartbeats 1000000 in
theorem rmulTwo_any (a b v : Int) (o : Bool) (w : World) (ha : fitB a = true) (hb : fitB b = true) (hv : cutZ (a * b) = v) (ho : fitB (a * b) = o) :
    Calls Try.prog 26 #[.int .i64 a, .int .i64 b] w (RetB (.tuple #[.int .i64 v, .bool o]) w) := by
  obtain ⟨ng, hi, lo, h⟩ := WideOf.ex (a * b)
  have C := Lib.hid (times_any a b ng hi lo · ha hb h)
  have habs := h.abs
  have hlo := h.lo_lt
  have hn := h.1
  clear h ha hb
  generalize a * b = z at *
  by_cases k1 : hi = 0
  · subst k1
    rw [Nat.zero_mul, Nat.zero_add] at habs
    by_cases k2 : (9223372036854775808 : Int) < lo
    · obtain rfl : o = false := by rw [← ho]; exact fitB_false (by omega)
      obtain rfl : v = 0 := by rw [← hv]; exact cutZ_false ho
      clear habs hlo hv ho hn
      go_enter Try.func26, Try.ntmps26
      go_wp2_with fail
      refine (C.out _).mono ?_; rintro e hbw ⟨rfl, hb⟩
      go_wp2
      go_ret2
      exact ⟨rfl, by have s0 := hb.size; (try simp only [World.heap_drewN, World.size_alloc] at s0); repeat (first | exact Below.refl _ _ | exact hb | refine Below.trans ?_ (Below.mono hb (by first | omega | (simp; done) | (simp; omega))) | refine Below.setCell ?_ (by first | omega | (simp; done) | (simp; omega)) _ | refine below_dN ?_ _ | refine Below.drew ?_ | refine Below.alloc ?_ (by first | omega | (simp; done) | (simp; omega)) _)⟩
    · by_cases k3 : (lo : Int) = 9223372036854775808
      · have e3 : ((lo : Int) == 9223372036854775808) = true := beq_iff_eq.2 k3
        have d2 : decide ((9223372036854775808 : Int) < lo) = false := decide_eq_false k2
        cases ng
        · obtain rfl : o = false := by rw [← ho]; refine fitB_false ?_; have := of_decide_eq_false hn; omega
          obtain rfl : v = 0 := by rw [← hv]; exact cutZ_false ho
          clear habs hlo hv ho hn k3
          go_enter Try.func26, Try.ntmps26
          go_wp2_with fail
          refine (C.out _).mono ?_; rintro e hbw ⟨rfl, hb⟩
          go_wp2
          go_ret2
          exact ⟨rfl, by have s0 := hb.size; (try simp only [World.heap_drewN, World.size_alloc] at s0); repeat (first | exact Below.refl _ _ | exact hb | refine Below.trans ?_ (Below.mono hb (by first | omega | (simp; done) | (simp; omega))) | refine Below.setCell ?_ (by first | omega | (simp; done) | (simp; omega)) _ | refine below_dN ?_ _ | refine Below.drew ?_ | refine Below.alloc ?_ (by first | omega | (simp; done) | (simp; omega)) _)⟩
        · have hz := of_decide_eq_true hn
          obtain rfl : o = true := by rw [← ho]; refine fitB_true ?_; omega
          rw [cutZ_true ho] at hv
          have HV := Lib.hid (show wrap64 (IntKind.u64.wrap (-(lo : Int))) = v by rw [IntKind.wrap_u64, ← hv]; unfold wrap64; omega)
          clear habs hlo hv ho hn k3 hz
          go_enter Try.func26, Try.ntmps26
          go_wp2_with fail
          refine (C.out _).mono ?_; rintro e hbw ⟨rfl, hb⟩
          go_wp2
          go_ret2
          exact ⟨ret_ib HV.out rfl, by have s0 := hb.size; (try simp only [World.heap_drewN, World.size_alloc] at s0); repeat (first | exact Below.refl _ _ | exact hb | refine Below.trans ?_ (Below.mono hb (by first | omega | (simp; done) | (simp; omega))) | refine Below.setCell ?_ (by first | omega | (simp; done) | (simp; omega)) _ | refine below_dN ?_ _ | refine Below.drew ?_ | refine Below.alloc ?_ (by first | omega | (simp; done) | (simp; omega)) _)⟩
      · have e3 : ((lo : Int) == 9223372036854775808) = false := beq_eq_false_iff_ne.2 k3
        have d2 : decide ((9223372036854775808 : Int) < lo) = false := decide_eq_false k2
        cases ng
        · have hz := of_decide_eq_false hn
          obtain rfl : o = true := by rw [← ho]; refine fitB_true ?_; omega
          rw [cutZ_true ho] at hv
          have hl : (lo : Int) ≤ 9223372036854775807 := by omega
          have HV := Lib.hid (show (lo : Int) = v by rw [← hv]; omega)
          clear habs hlo hv ho hn hz k3
          go_enter Try.func26, Try.ntmps26
          go_wp2_with fail
          refine (C.out _).mono ?_; rintro e hbw ⟨rfl, hb⟩
          go_wp2
          go_ret2
          exact ⟨ret_ib HV.out rfl, by have s0 := hb.size; (try simp only [World.heap_drewN, World.size_alloc] at s0); repeat (first | exact Below.refl _ _ | exact hb | refine Below.trans ?_ (Below.mono hb (by first | omega | (simp; done) | (simp; omega))) | refine Below.setCell ?_ (by first | omega | (simp; done) | (simp; omega)) _ | refine below_dN ?_ _ | refine Below.drew ?_ | refine Below.alloc ?_ (by first | omega | (simp; done) | (simp; omega)) _)⟩
        · have hz := of_decide_eq_true hn
          obtain rfl : o = true := by rw [← ho]; refine fitB_true ?_; omega
          rw [cutZ_true ho] at hv
          have HV := Lib.hid (show wrap64 (IntKind.u64.wrap (-(lo : Int))) = v by rw [IntKind.wrap_u64, ← hv]; unfold wrap64; omega)
          clear habs hlo hv ho hn hz k3
          go_enter Try.func26, Try.ntmps26
          go_wp2_with fail
          refine (C.out _).mono ?_; rintro e hbw ⟨rfl, hb⟩
          go_wp2
          go_ret2
          exact ⟨ret_ib HV.out rfl, by have s0 := hb.size; (try simp only [World.heap_drewN, World.size_alloc] at s0); repeat (first | exact Below.refl _ _ | exact hb | refine Below.trans ?_ (Below.mono hb (by first | omega | (simp; done) | (simp; omega))) | refine Below.setCell ?_ (by first | omega | (simp; done) | (simp; omega)) _ | refine below_dN ?_ _ | refine Below.drew ?_ | refine Below.alloc ?_ (by first | omega | (simp; done) | (simp; omega)) _)⟩
  · have e1 : ((hi : Int) != 0) = true := by rw [bne, beq_eq_false_iff_ne.2 (show (hi : Int) ≠ 0 by omega)]; rfl
    obtain rfl : o = false := by rw [← ho]; exact fitB_false (by omega)
    obtain rfl : v = 0 := by rw [← hv]; exact cutZ_false ho
    clear habs hlo hv ho hn k1
    go_enter Try.func26, Try.ntmps26
    go_wp2_with fail
    refine (C.out _).mono ?_; rintro e hbw ⟨rfl, hb⟩
    go_wp2
    go_ret2
    exact ⟨rfl, by have s0 := hb.size; (try simp only [World.heap_drewN, World.size_alloc] at s0); repeat (first | exact Below.refl _ _ | exact hb | refine Below.trans ?_ (Below.mono hb (by first | omega | (simp; done) | (simp; omega))) | refine Below.setCell ?_ (by first | omega | (simp; done) | (simp; omega)) _ | refine below_dN ?_ _ | refine Below.drew ?_ | refine Below.alloc ?_ (by first | omega | (simp; done) | (simp; omega)) _)⟩
end Go.Proofs.Ytmokbmhobglhfaa
