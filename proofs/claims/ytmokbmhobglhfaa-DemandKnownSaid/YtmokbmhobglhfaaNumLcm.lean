/- Lcm's contract, over a list of numbers in memory, nil let in; and what all numbers of a list divide. -/
import Derived.Test.YtmokbmhobglhfaaNum4
import Derived.Test.YtmokbmhobglhfaaReads
import Derived.LoopTactic
namespace Go.Proofs.Ytmokbmhobglhfaa
open Go.RowKit
set_option linter.unusedVariables false
set_option linter.unusedSimpArgs false

theorem gcdZ_pos {n x : Int} (hn : 1 ≤ n) (hx : 1 ≤ x) : 1 ≤ gcdZ n x ∧ gcdZ n x ≤ n ∧ gcdZ n x ∣ n ∧ gcdZ n x ∣ x := by
  have e : gcdZ n x = (Nat.gcd n.natAbs x.natAbs : Nat) := by rw [gcdZ, if_neg (by omega)]
  have p : 0 < Nat.gcd n.natAbs x.natAbs := Nat.gcd_pos_iff.2 (by omega)
  have l : Nat.gcd n.natAbs x.natAbs ≤ n.natAbs := Nat.le_of_dvd (by omega) (Nat.gcd_dvd_left _ _)
  rw [e]
  exact ⟨by omega, by omega, Int.ofNat_dvd_left.2 (Nat.gcd_dvd_left _ _), Int.ofNat_dvd_left.2 (Nat.gcd_dvd_right _ _)⟩

theorem lcm_next {n x : Int} (hn : 1 ≤ n) (hx : 1 ≤ x) : 1 ≤ n / gcdZ n x * x ∧ n ∣ n / gcdZ n x * x ∧ x ∣ n / gcdZ n x * x := by
  obtain ⟨g1, g2, g3, g4⟩ := gcdZ_pos hn hx
  have h1 : 1 ≤ n / gcdZ n x := Int.le_ediv_of_mul_le (by omega) (by omega)
  refine ⟨?_, ?_, Int.dvd_mul_left _ _⟩
  · have := Int.mul_le_mul h1 hx (by omega) (by omega); omega
  · obtain ⟨y, hy⟩ := g4
    have e : n / gcdZ n x * x = n * y := by
      conv => lhs; rhs; rw [hy]
      rw [← Int.mul_assoc, Int.ediv_mul_cancel g3]
    rw [e]; exact Int.dvd_mul_right _ _

theorem lcmGo_drop {n x : Int} {zs : List Int} {k : Nat} (h : k < zs.length) (hx : zs.getD k 0 = x) :
    lcmGo n (zs.drop k) = match lcmStep n x with | none => none | some m => lcmGo m (zs.drop (k + 1)) := by
  rw [List.drop_eq_getElem_cons h, lcmGo]
  have : zs[k] = x := by rw [← hx]; simp [List.getD, List.getElem?_eq_getElem h]
  rw [this]
  cases lcmStep n x <;> rfl

/-- What Lcm's loop keeps after k numbers. -/
def LRel (zs : List Int) (k : Nat) (n : Int) : Prop := k ≤ zs.length ∧ 1 ≤ n ∧ n ≤ 9223372036854775807 ∧ lcmGo n (zs.drop k) = lcmGo 1 zs
theorem LRel.start (zs : List Int) : LRel zs 0 1 := ⟨Nat.zero_le _, by omega, by omega, by rw [List.drop_zero]⟩
theorem LRel.small {zs : List Int} {k : Nat} {n x : Int} (h : LRel zs k n) (hk : k < zs.length) (hx : zs.getD k 0 = x) (h1 : x < 1) (most : Int) : lcmV most zs = 0 ∧ lcmOk most zs = false := by
  have e : lcmGo 1 zs = none := by rw [← h.2.2.2, lcmGo_drop hk hx, lcmStep, if_pos h1]
  exact ⟨by rw [lcmV, e], by rw [lcmOk, e]⟩
theorem LRel.wide {zs : List Int} {k : Nat} {n x : Int} (h : LRel zs k n) (hk : k < zs.length) (hx : zs.getD k 0 = x) (h1 : ¬ x < 1) (hf : fitB (n / gcdZ n x * x) = false) (most : Int) : lcmV most zs = 0 ∧ lcmOk most zs = false := by
  have e : lcmGo 1 zs = none := by rw [← h.2.2.2, lcmGo_drop hk hx, lcmStep, if_neg h1, if_neg (by rw [hf]; decide)]
  exact ⟨by rw [lcmV, e], by rw [lcmOk, e]⟩
theorem LRel.step {zs : List Int} {k : Nat} {n x : Int} (h : LRel zs k n) (hk : k < zs.length) (hx : zs.getD k 0 = x) (h1 : ¬ x < 1) (hf : fitB (n / gcdZ n x * x) = true) : LRel zs (k + 1) (n / gcdZ n x * x) := by
  refine ⟨hk, (lcm_next h.2.1 (by omega)).1, (fitB_iff.1 hf).2, ?_⟩
  rw [← h.2.2.2, lcmGo_drop hk hx, lcmStep, if_neg h1, if_pos hf]
theorem LRel.over {zs : List Int} {k : Nat} {n most : Int} (h : LRel zs k n) (hk : ¬ k < zs.length) (h1 : most < n) : lcmV most zs = 0 ∧ lcmOk most zs = false := by
  have e : lcmGo 1 zs = some n := by rw [← h.2.2.2, List.drop_of_length_le (by omega), lcmGo]
  exact ⟨by simp only [lcmV, e]; rw [if_neg (by omega)], by simp only [lcmOk, e]; exact decide_eq_false (by omega)⟩
theorem LRel.done {zs : List Int} {k : Nat} {n most : Int} (h : LRel zs k n) (hk : ¬ k < zs.length) (h1 : ¬ most < n) : lcmV most zs = n ∧ lcmOk most zs = true := by
  have e : lcmGo 1 zs = some n := by rw [← h.2.2.2, List.drop_of_length_le (by omega), lcmGo]
  exact ⟨by simp only [lcmV, e]; rw [if_pos (by omega)], by simp only [lcmOk, e]; exact decide_eq_true (by omega)⟩

set_option maxHeartbeats 1000000 in
theorem lcm_any (most v : Int) (o : Bool) (A : Option Addr) (c : Nat) (zs : List Int) (w : World) (hl : zs.length ≤ 9223372036854775807) (hf : ∀ x ∈ zs, fitB x = true) (hr : ReadsI w A zs)
    (hv : lcmV most zs = v) (ho : lcmOk most zs = o) :
    Calls Try.prog 21 #[.int .i64 most, .slice A zs.length c] w (Ret (.tuple #[.int .i64 v, .bool o]) w) := by
  have HR := Lib.hid hr; have HF := Lib.hid hf; have HV := Lib.hid (And.intro hv ho)
  clear hr hf hv ho
  obtain ⟨len, hlen⟩ : ∃ len, zs.length = len := ⟨_, rfl⟩
  rw [hlen] at hl ⊢
  have HL := Lib.hid hlen; clear hlen
  go_enter Try.func21, Try.ntmps21
  go_wp2
  go_loopw [6, 13] (fun s t wx => ∃ (k : Nat) (n : Int) (d : Nat), LRel zs k n ∧ s = .int .i64 n ∧ t = .int .i64 (k : Int) ∧ wx = w.drewN d) (fun _ t _ => len - (intOf t).toNat)
  case atStart => exact ⟨0, 1, 0, LRel.start zs, rfl, rfl, rfl⟩
  case round =>
    obtain ⟨k, n, d, hrel, rfl, rfl, rfl⟩ := hrel
    have n1 := hrel.2.1
    have n2 := hrel.2.2.1
    by_cases hk : k < len
    · have hk' : k < zs.length := by rw [HL.out]; exact hk
      obtain ⟨b, off, rfl, hc⟩ := HR.out k hk'
      obtain ⟨x, hx⟩ : ∃ x, zs.getD k 0 = x := ⟨_, rfl⟩
      have hfx : fitB x = true := by rw [← hx]; refine HF.out _ ?_; rw [List.getD, List.getElem?_eq_getElem hk']; exact List.getElem_mem _
      rw [hx] at hc
      by_cases x1 : x < 1
      · obtain ⟨e1, e2⟩ := hrel.small hk' hx x1 most
        have HE := Lib.hid (And.intro e1 e2)
        clear e1 e2 hrel hfx hx hk'
        go_wp2
        go_ret2
        exact ⟨ret_ib (by rw [← HV.out.1, HE.out.1]) (by rw [← HV.out.2, HE.out.2]), _, rfl⟩
      · have C1 := Lib.hid (gcd_any n x (gcdZ n x) · (fitB_true ⟨by omega, by omega⟩) hfx rfl)
        obtain ⟨g1, g2, g3, g4⟩ := gcdZ_pos n1 (show 1 ≤ x by omega)
        have hq : 0 ≤ n / gcdZ n x ∧ n / gcdZ n x ≤ n := ⟨Int.ediv_nonneg (by omega) (by omega), Int.ediv_le_self _ (by omega)⟩
        have C2 := fun v o => Lib.hid (mul_named (n / gcdZ n x) x v o · (fitB_true ⟨by omega, by omega⟩) hfx)
        have S1 := hrel.wide hk' hx x1
        have S2 := hrel.step hk' hx x1
        obtain ⟨g, hg⟩ : ∃ g, gcdZ n x = g := ⟨_, rfl⟩
        rw [hg] at C1 C2 S1 S2 g1 g2 hq
        obtain ⟨q, hqq⟩ : ∃ q, n / g = q := ⟨_, rfl⟩
        rw [hqq] at C2 S1 S2 hq
        have gz : ¬ g = 0 := by omega
        have gz' : (g == 0) = false := beq_eq_false_iff_ne.2 gz
        cases hb : fitB (q * x)
        · have C2' := Lib.hid fun w => (C2 0 false).out w (cutZ_false hb) hb
          have HE := Lib.hid (S1 hb most)
          clear S1 S2 C2 hb g3 g4 hg hrel hx hk' hfx
          go_wp2_with fail
          refine (C1.out _).mono ?_; rintro e w' ⟨rfl, m1, rfl⟩
          go_wp2_with fail
          refine (C2'.out _).mono ?_; rintro e w' ⟨rfl, m2, rfl⟩
          go_wp2
          go_ret2
          exact ⟨ret_ib (by rw [← HV.out.1, HE.out.1]) (by rw [← HV.out.2, HE.out.2]), _, rfl⟩
        · have C2' := Lib.hid fun w => (C2 (q * x) true).out w (cutZ_true hb) hb
          have HE := S2 hb
          obtain ⟨y, hy⟩ : ∃ y, q * x = y := ⟨_, rfl⟩
          rw [hy] at C2' HE
          clear S1 S2 C2 hb g3 g4 hg hrel hx hk' hfx hy
          go_wp2_with fail
          refine (C1.out _).mono ?_; rintro e w' ⟨rfl, m1, rfl⟩
          go_wp2_with fail
          refine (C2'.out _).mono ?_; rintro e w' ⟨rfl, m2, rfl⟩
          go_wp2
          go_roundw
          case rel => exact ⟨k + 1, y, d + m1 + m2, HE, rfl, by go_num, by simp [World.drewN_drewN, Nat.add_assoc]⟩
          case measure => simp [intOf]; omega
    · have hk' : ¬ k < zs.length := by rw [HL.out]; exact hk
      by_cases hm : most < n
      · have HE := Lib.hid (hrel.over hk' hm)
        clear hrel hk'
        go_wp2
        go_ret2
        exact ⟨ret_ib (by rw [← HV.out.1, HE.out.1]) (by rw [← HV.out.2, HE.out.2]), _, rfl⟩
      · have HE := Lib.hid (hrel.done hk' hm)
        clear hrel hk'
        go_wp2
        go_ret2
        exact ⟨ret_ib (by rw [← HV.out.1, HE.out.1]) (by rw [← HV.out.2, HE.out.2]), _, rfl⟩
end Go.Proofs.Ytmokbmhobglhfaa
