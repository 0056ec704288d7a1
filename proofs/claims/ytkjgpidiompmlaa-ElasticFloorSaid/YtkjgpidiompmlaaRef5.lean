/- The contracts of the document's own reckoning of layer 1, the fifth part: shares, down and up. -/
import Derived.Test.YtkjgpidiompmlaaRef4
namespace Go.Proofs.Ytkjgpidiompmlaa
open Go.RowKit
set_option linter.unusedVariables false
set_option linter.unusedSimpArgs false

theorem rsigned_any (neg : Bool) (n : Nat) (z v : Int) (f : Bool) (w : World) (hn : (n : Int) < 18446744073709551616) (hz : z = if neg = true then -(n : Int) else (n : Int)) (hv : cutZ z = v) (hf : fitB z = f) :
    Calls Try.prog 44 #[.int .u64 n, .bool neg] w (Ret (.tuple #[.int .i64 v, .bool f]) w) := by
  subst hv hf
  cases neg
  · obtain rfl : z = (n : Int) := by simpa using hz
    clear hz
    by_cases h : (9223372036854775807 : Int) < n
    · have hf := fitB_false (x := (n : Int)) (by omega)
      rw [hf, cutZ_false hf]
      clear hf
      go_enter Try.func44, Try.ntmps44
      go_wp2
      go_ret2
      exact ⟨rfl, 0, rfl⟩
    · have hf := fitB_true (x := (n : Int)) (by omega)
      rw [hf, cutZ_true hf]
      clear hf
      go_enter Try.func44, Try.ntmps44
      go_wp2
      go_ret2
      exact ⟨rfl, 0, rfl⟩
  · obtain rfl : z = -(n : Int) := by simpa using hz
    clear hz
    by_cases h : (9223372036854775808 : Int) < n
    · have hf := fitB_false (x := -(n : Int)) (by omega)
      rw [hf, cutZ_false hf]
      clear hf
      go_enter Try.func44, Try.ntmps44
      go_wp2
      go_ret2
      exact ⟨rfl, 0, rfl⟩
    · have hf := fitB_true (x := -(n : Int)) (by omega)
      rw [hf, cutZ_true hf]
      clear hf
      go_enter Try.func44, Try.ntmps44
      go_wp2
      go_ret2
      exact ⟨ret_ib (by simp only [wrap64, IntKind.wrap_u64]; omega) rfl, 0, rfl⟩

/-- part: c is too small. -/
theorem part_small (a b c : Int) (up : Bool) (w : World) (h : c < 1) : Calls Try.prog 37 #[.int .i64 a, .int .i64 b, .int .i64 c, .bool up] w (RetB (.tuple #[.int .i64 0, .bool false]) w) := by
  go_enter Try.func37, Try.ntmps37
  go_wp2
  go_ret2
  exact ⟨rfl, by repeat (first | exact Below.refl _ _ | refine Below.setCell ?_ (by first | omega | (simp; done) | (simp; omega)) _ | refine below_dN ?_ _ | refine Below.drew ?_ | refine Below.alloc ?_ (by first | omega | (simp; done) | (simp; omega)) _)⟩

set_option maxHeartbeats 1000000 in
/-- part: the quotient has no 64 bits. -/
theorem part_wide (a b : Int) (c : Nat) (up ng : Bool) (hi lo : Nat) (w : World) (h : (1 : Int) ≤ c) (hc : (c : Int) ≤ 9223372036854775807)
    (C1 : Hid (∀ w, Calls Try.prog 36 #[.int .i64 a, .int .i64 b] w (RetB (.agg #[.bool ng, .int .u64 (hi : Int), .int .u64 (lo : Int)]) w)))
    (C2 : Hid (∀ w, Calls Try.prog 43 #[.agg #[.bool ng, .int .u64 (hi : Int), .int .u64 (lo : Int)], .int .u64 (c : Int)] w (RetB (.tuple #[.int .u64 0, .bool false, .bool false]) w))) :
    Calls Try.prog 37 #[.int .i64 a, .int .i64 b, .int .i64 (c : Int), .bool up] w (RetB (.tuple #[.int .i64 0, .bool false]) w) := by
  go_enter Try.func37, Try.ntmps37
  go_wp2_with fail
  refine (C1.out _).mono ?_; rintro e b1w ⟨rfl, b1⟩
  go_wp2_with fail
  refine (C2.out _).mono ?_; rintro e b2w ⟨rfl, b2⟩
  go_wp2
  go_ret2
  exact ⟨rfl, by have s0 := b1.size; (try simp only [World.heap_drewN, World.size_alloc] at s0); have s1 := b2.size; (try simp only [World.heap_drewN, World.size_alloc] at s1); repeat (first | exact Below.refl _ _ | exact b1 | exact b2 | refine Below.trans ?_ (Below.mono b1 (by first | omega | (simp; done) | (simp; omega))) | refine Below.trans ?_ (Below.mono b2 (by first | omega | (simp; done) | (simp; omega))) | refine Below.setCell ?_ (by first | omega | (simp; done) | (simp; omega)) _ | refine below_dN ?_ _ | refine Below.drew ?_ | refine Below.alloc ?_ (by first | omega | (simp; done) | (simp; omega)) _)⟩

set_option maxHeartbeats 1000000 in
/-- part: told as it is. -/
theorem part_bare (a b v : Int) (o : Bool) (c : Nat) (up ng left : Bool) (hi lo q : Nat) (w : World) (h : (1 : Int) ≤ c) (hc : (c : Int) ≤ 9223372036854775807) (hk : (left && (up != ng)) = false)
    (C1 : Hid (∀ w, Calls Try.prog 36 #[.int .i64 a, .int .i64 b] w (RetB (.agg #[.bool ng, .int .u64 (hi : Int), .int .u64 (lo : Int)]) w)))
    (C2 : Hid (∀ w, Calls Try.prog 43 #[.agg #[.bool ng, .int .u64 (hi : Int), .int .u64 (lo : Int)], .int .u64 (c : Int)] w (RetB (.tuple #[.int .u64 (q : Int), .bool left, .bool true]) w)))
    (C3 : Hid (∀ w, Calls Try.prog 44 #[.int .u64 (q : Int), .bool ng] w (Ret (.tuple #[.int .i64 v, .bool o]) w))) :
    Calls Try.prog 37 #[.int .i64 a, .int .i64 b, .int .i64 (c : Int), .bool up] w (RetB (.tuple #[.int .i64 v, .bool o]) w) := by
  cases left <;> cases up <;> cases ng <;> first | (exact absurd hk (by decide)) | clear hk
  all_goals
    go_enter Try.func37, Try.ntmps37
    go_wp2_with fail
    refine (C1.out _).mono ?_; rintro e b1w ⟨rfl, b1⟩
    go_wp2_with fail
    refine (C2.out _).mono ?_; rintro e b2w ⟨rfl, b2⟩
    have s1 := b1.size
    have s2 := b2.size
    rw [World.size_alloc] at s2
    have f0 := b2.cell (p := ⟨b1w.heap.size, 0, none⟩) (by simp)
    rw [World.cell?_alloc_new] at f0
    replace f0 := f0.trans (show _ = some _ from rfl)
    go_wp2_with fail
    refine (C3.out _).mono ?_; rintro e w' ⟨rfl, n1, rfl⟩
    go_wp2
    go_ret2
    exact ⟨rfl, by have s0 := b1.size; (try simp only [World.heap_drewN, World.size_alloc] at s0); have s1 := b2.size; (try simp only [World.heap_drewN, World.size_alloc] at s1); repeat (first | exact Below.refl _ _ | exact b1 | exact b2 | refine Below.trans ?_ (Below.mono b1 (by first | omega | (simp; done) | (simp; omega))) | refine Below.trans ?_ (Below.mono b2 (by first | omega | (simp; done) | (simp; omega))) | refine Below.setCell ?_ (by first | omega | (simp; done) | (simp; omega)) _ | refine below_dN ?_ _ | refine Below.drew ?_ | refine Below.alloc ?_ (by first | omega | (simp; done) | (simp; omega)) _)⟩

set_option maxHeartbeats 1000000 in
/-- part: one more would have no 64 bits. -/
theorem part_over (a b : Int) (c : Nat) (up ng : Bool) (hi lo q : Nat) (w : World) (h : (1 : Int) ≤ c) (hc : (c : Int) ≤ 9223372036854775807) (hk : (up != ng) = true) (hq : ((q : Int) == 18446744073709551615) = true)
    (C1 : Hid (∀ w, Calls Try.prog 36 #[.int .i64 a, .int .i64 b] w (RetB (.agg #[.bool ng, .int .u64 (hi : Int), .int .u64 (lo : Int)]) w)))
    (C2 : Hid (∀ w, Calls Try.prog 43 #[.agg #[.bool ng, .int .u64 (hi : Int), .int .u64 (lo : Int)], .int .u64 (c : Int)] w (RetB (.tuple #[.int .u64 (q : Int), .bool true, .bool true]) w))) :
    Calls Try.prog 37 #[.int .i64 a, .int .i64 b, .int .i64 (c : Int), .bool up] w (RetB (.tuple #[.int .i64 0, .bool false]) w) := by
  cases up <;> cases ng <;> first | (exact absurd hk (by decide)) | clear hk
  all_goals
    go_enter Try.func37, Try.ntmps37
    go_wp2_with fail
    refine (C1.out _).mono ?_; rintro e b1w ⟨rfl, b1⟩
    go_wp2_with fail
    refine (C2.out _).mono ?_; rintro e b2w ⟨rfl, b2⟩
    have s1 := b1.size
    have s2 := b2.size
    rw [World.size_alloc] at s2
    have f0 := b2.cell (p := ⟨b1w.heap.size, 0, none⟩) (by simp)
    rw [World.cell?_alloc_new] at f0
    replace f0 := f0.trans (show _ = some _ from rfl)
    go_wp2
    go_ret2
    exact ⟨rfl, by have s0 := b1.size; (try simp only [World.heap_drewN, World.size_alloc] at s0); have s1 := b2.size; (try simp only [World.heap_drewN, World.size_alloc] at s1); repeat (first | exact Below.refl _ _ | exact b1 | exact b2 | refine Below.trans ?_ (Below.mono b1 (by first | omega | (simp; done) | (simp; omega))) | refine Below.trans ?_ (Below.mono b2 (by first | omega | (simp; done) | (simp; omega))) | refine Below.setCell ?_ (by first | omega | (simp; done) | (simp; omega)) _ | refine below_dN ?_ _ | refine Below.drew ?_ | refine Below.alloc ?_ (by first | omega | (simp; done) | (simp; omega)) _)⟩

set_option maxHeartbeats 1000000 in
/-- part: one more. -/
theorem part_plus (a b v : Int) (o : Bool) (c : Nat) (up ng : Bool) (hi lo q : Nat) (w : World) (h : (1 : Int) ≤ c) (hc : (c : Int) ≤ 9223372036854775807) (hk : (up != ng) = true) (hq : ((q : Int) == 18446744073709551615) = false) (hq2 : (q : Int) ≤ 18446744073709551614)
    (C1 : Hid (∀ w, Calls Try.prog 36 #[.int .i64 a, .int .i64 b] w (RetB (.agg #[.bool ng, .int .u64 (hi : Int), .int .u64 (lo : Int)]) w)))
    (C2 : Hid (∀ w, Calls Try.prog 43 #[.agg #[.bool ng, .int .u64 (hi : Int), .int .u64 (lo : Int)], .int .u64 (c : Int)] w (RetB (.tuple #[.int .u64 (q : Int), .bool true, .bool true]) w)))
    (C3 : Hid (∀ w, Calls Try.prog 44 #[.int .u64 ((q : Int) + 1), .bool ng] w (Ret (.tuple #[.int .i64 v, .bool o]) w))) :
    Calls Try.prog 37 #[.int .i64 a, .int .i64 b, .int .i64 (c : Int), .bool up] w (RetB (.tuple #[.int .i64 v, .bool o]) w) := by
  cases up <;> cases ng <;> first | (exact absurd hk (by decide)) | clear hk
  all_goals
    go_enter Try.func37, Try.ntmps37
    go_wp2_with fail
    refine (C1.out _).mono ?_; rintro e b1w ⟨rfl, b1⟩
    go_wp2_with fail
    refine (C2.out _).mono ?_; rintro e b2w ⟨rfl, b2⟩
    have s1 := b1.size
    have s2 := b2.size
    rw [World.size_alloc] at s2
    have f0 := b2.cell (p := ⟨b1w.heap.size, 0, none⟩) (by simp)
    rw [World.cell?_alloc_new] at f0
    replace f0 := f0.trans (show _ = some _ from rfl)
    go_wp2_with fail
    refine (C3.out _).mono ?_; rintro e w' ⟨rfl, n2, rfl⟩
    go_wp2
    go_ret2
    exact ⟨rfl, by have s0 := b1.size; (try simp only [World.heap_drewN, World.size_alloc] at s0); have s1 := b2.size; (try simp only [World.heap_drewN, World.size_alloc] at s1); repeat (first | exact Below.refl _ _ | exact b1 | exact b2 | refine Below.trans ?_ (Below.mono b1 (by first | omega | (simp; done) | (simp; omega))) | refine Below.trans ?_ (Below.mono b2 (by first | omega | (simp; done) | (simp; omega))) | refine Below.setCell ?_ (by first | omega | (simp; done) | (simp; omega)) _ | refine below_dN ?_ _ | refine Below.drew ?_ | refine Below.alloc ?_ (by first | omega | (simp; done) | (simp; omega)) _)⟩

/-- The value of a part: down or up. -/
def partV (up : Bool) (z c : Int) : Int := if up = true then upV z c else shareV z c
def partOk (up : Bool) (z c : Int) : Bool := if up = true then upOk z c else shareOk z c
def partZ (up : Bool) (z c : Int) : Int := if up = true then upZ z c else z / c
theorem part_cut (up : Bool) {z c : Int} (h : 1 ≤ c) : partV up z c = cutZ (partZ up z c) ∧ partOk up z c = fitB (partZ up z c) := by
  cases up
  · exact share_cut h
  · exact up_cut h
theorem part_refused (up : Bool) {z c : Int} (h : ¬ 1 ≤ c) : partV up z c = 0 ∧ partOk up z c = false := by
  cases up
  · have e : shareOk z c = false := by rw [shareOk, decide_eq_false h, Bool.false_and]
    exact ⟨by simp only [partV, Bool.false_eq_true, if_false]; rw [shareV, e]; rfl, e⟩
  · have e : upOk z c = false := by rw [upOk, decide_eq_false h, Bool.false_and]
    exact ⟨by simp only [partV, if_true]; rw [upV, e]; rfl, e⟩
theorem part_signed {up ng left : Bool} {z c : Int} {q : Nat} (h : 1 ≤ c) (hn : decide (z < 0) = ng) (hq : z.natAbs / c.toNat = q) (hl : decide (z.natAbs % c.toNat ≠ 0) = left) :
    ((left && (up != ng)) = false → partZ up z c = if ng = true then -(q : Int) else (q : Int)) ∧ (left = true → (up != ng) = true → partZ up z c = if ng = true then -((q + 1 : Nat) : Int) else ((q + 1 : Nat) : Int)) := by
  have hx : decide (z.natAbs % c.toNat = 0) = !left := by rw [← hl]; simp
  obtain ⟨d1, d2, d3⟩ := down_signed h hq hx
  obtain ⟨u1, u2, u3⟩ := up_signed h hq hx
  cases ng
  · have hz : 0 ≤ z := by have := of_decide_eq_false hn; omega
    cases up <;> cases left <;> simp [partZ]
    · exact d1 hz
    · exact d1 hz
    · exact u2 hz rfl
    · exact u3 hz rfl
  · have hz : z ≤ 0 := by have := of_decide_eq_true hn; omega
    cases up <;> cases left <;> simp [partZ]
    · exact d2 hz rfl
    · exact d3 hz rfl
    · exact u1 hz
    · exact u1 hz
theorem part_any (a b c v : Int) (o up : Bool) (w : World) (ha : fitB a = true) (hb : fitB b = true) (hc : fitB c = true) (hv : partV up (a * b) c = v) (ho : partOk up (a * b) c = o) :
    Calls Try.prog 37 #[.int .i64 a, .int .i64 b, .int .i64 c, .bool up] w (RetB (.tuple #[.int .i64 v, .bool o]) w) := by
  by_cases c1 : 1 ≤ c
  · obtain ⟨d, rfl⟩ : ∃ d : Nat, c = (d : Int) := ⟨c.toNat, by omega⟩
    obtain ⟨c0, c2⟩ := fitB_iff.1 hc
    rw [(part_cut up c1).1] at hv
    rw [(part_cut up c1).2] at ho
    obtain ⟨ng, hi, lo, h⟩ := WideOf.ex (a * b)
    have C1 := Lib.hid (times_any a b ng hi lo · ha hb h)
    have habs := h.abs
    by_cases k : d ≤ hi
    · have hno : fitB (partZ up (a * b) d) = false := by
        have hq : quoOk (a * b).natAbs (d : Int) = false := by
          simp only [quoOk, decide_eq_false_iff_not, Int.toNat_natCast]
          have : 18446744073709551616 ≤ (a * b).natAbs / d := by
            rw [Nat.le_div_iff_mul_le (by omega), ← habs]
            have := Nat.mul_le_mul_left 18446744073709551616 k
            omega
          omega
        cases up
        · have := quo_no_down hq; rw [(share_cut c1).2] at this; exact this
        · have := quo_no_up hq; rw [(up_cut c1).2] at this; exact this
      obtain rfl : v = 0 := by rw [← hv]; exact cutZ_false hno
      obtain rfl : o = false := by rw [← ho]; exact hno
      exact part_wide a b d up ng hi lo w c1 c2 C1 (Lib.hid fun w => divide_no ng hi lo d w k)
    · obtain ⟨q, hq⟩ : ∃ q, (a * b).natAbs / d = q := ⟨_, rfl⟩
      obtain ⟨left, hl⟩ : ∃ left, decide ((a * b).natAbs % d ≠ 0) = left := ⟨_, rfl⟩
      have hqlt : q < 18446744073709551616 := by
        rw [← hq, Nat.div_lt_iff_lt_mul (by omega), ← habs]
        have := Nat.mul_le_mul_left 18446744073709551616 (show hi + 1 ≤ d by omega)
        have := h.lo_lt
        omega
      have C2 := Lib.hid (divide_yes ng hi lo d q 0 left · (by omega) (by omega) h.lo_lt (by rw [habs, hq]) (by rw [habs, hl]))
      obtain ⟨s1, s2⟩ := part_signed (up := up) (q := q) (left := left) c1 h.1 hq hl
      cases hk : (left && (up != ng))
      · exact part_bare a b v o d up ng left hi lo q w c1 c2 hk C1 C2 (Lib.hid fun w => rsigned_any ng q _ v o w (by omega) (s1 hk) hv ho)
      · obtain ⟨rfl, hk⟩ : left = true ∧ (up != ng) = true := by simpa using hk
        by_cases m : (q : Int) = 18446744073709551615
        · have e := s2 rfl hk
          have hno : fitB (partZ up (a * b) d) = false := by
            rw [e]; cases ng
            · refine fitB_false ?_; rw [if_neg (by decide)]; omega
            · refine fitB_false ?_; rw [if_pos rfl]; omega
          obtain rfl : v = 0 := by rw [← hv]; exact cutZ_false hno
          obtain rfl : o = false := by rw [← ho]; exact hno
          exact part_over a b d up ng hi lo q w c1 c2 hk (beq_iff_eq.2 m) C1 C2
        · exact part_plus a b v o d up ng hi lo q w c1 c2 hk (beq_eq_false_iff_ne.2 m) (by omega) C1 C2 (Lib.hid fun w => rsigned_any ng (q + 1) _ v o w (by omega) (s2 rfl hk) hv ho)
  · obtain ⟨e1, e2⟩ := part_refused up (z := a * b) c1
    obtain rfl : v = 0 := by rw [← hv, e1]
    obtain rfl : o = false := by rw [← ho, e2]
    exact part_small a b c up w (by omega)

theorem rup_any (a b c v : Int) (o : Bool) (w : World) (ha : fitB a = true) (hb : fitB b = true) (hc : fitB c = true) (hv : upV (a * b) c = v) (ho : upOk (a * b) c = o) :
    Calls Try.prog 27 #[.int .i64 a, .int .i64 b, .int .i64 c] w (RetB (.tuple #[.int .i64 v, .bool o]) w) := by
  have C := Lib.hid (part_any a b c v o true · ha hb hc hv ho)
  clear ha hb hc hv ho
  go_enter Try.func27, Try.ntmps27
  go_wp2_with fail
  refine (C.out _).mono ?_; rintro e b1w ⟨rfl, b1⟩
  go_wp2
  go_ret2
  exact ⟨rfl, b1⟩
end Go.Proofs.Ytkjgpidiompmlaa
