/- The contracts of package num's functions, the fourth part: Gcd; and the example at the head of each law of layer 1. -/
import Derived.Test.YtmokbmhobglhfaaNum3
import Derived.LoopTactic
namespace Go.Proofs.Ytmokbmhobglhfaa
open Go.RowKit
set_option linter.unusedVariables false
set_option linter.unusedSimpArgs false

/-- What Gcd's loop keeps. -/
def GRel (g : Nat) (x y : Int) : Prop := Nat.gcd x.natAbs y.natAbs = g
theorem GRel.step {g : Nat} {x y : Int} (h : GRel g x y) (hy : y ≠ 0) : GRel g y (x.tmod y) := by
  unfold GRel at *
  rw [Int.natAbs_tmod, Nat.gcd_comm, ← Nat.gcd_rec, Nat.gcd_comm]; exact h
theorem tmod_in {x y : Int} (hy : y ≠ 0) : (x.tmod y).natAbs < y.natAbs := by
  rw [Int.natAbs_tmod]; exact Nat.mod_lt _ (by omega)

set_option maxHeartbeats 400000 in
theorem gcd_any (a b g : Int) (w : World) (ha : fitB a = true) (hb : fitB b = true) (hg : gcdZ a b = g) :
    Calls Try.prog 25 #[.int .i64 a, .int .i64 b] w (Ret (.int .i64 g) w) := by
  obtain ⟨a0, a1⟩ := fitB_iff.1 ha
  obtain ⟨b0, b1⟩ := fitB_iff.1 hb
  clear ha hb
  by_cases ma : a = -9223372036854775808
  · have hg1 : g = 1 := by rw [← hg, gcdZ, if_pos (.inl ma)]
    subst hg1
    have ka : (a == -9223372036854775808) = true := beq_iff_eq.2 ma
    clear hg ma
    go_enter Try.func25, Try.ntmps25
    go_wp2
    go_ret
    exact ⟨rfl, 0, rfl⟩
  · have ka : (a == -9223372036854775808) = false := beq_eq_false_iff_ne.2 ma
    by_cases mb : b = -9223372036854775808
    · have hg1 : g = 1 := by rw [← hg, gcdZ, if_pos (.inr mb)]
      subst hg1
      have kb : (b == -9223372036854775808) = true := beq_iff_eq.2 mb
      clear hg ma mb
      go_enter Try.func25, Try.ntmps25
      go_wp2
      go_ret
      exact ⟨rfl, 0, rfl⟩
    · have kb : (b == -9223372036854775808) = false := beq_eq_false_iff_ne.2 mb
      obtain ⟨n, hn⟩ : ∃ n, n = Nat.gcd a.natAbs b.natAbs := ⟨_, rfl⟩
      have hgn : g = (n : Int) := by rw [← hg, gcdZ, if_neg (by simp [ma, mb]), hn]
      have hr : GRel n a b := hn.symm
      subst hgn
      have a2 : -9223372036854775807 ≤ a := by omega
      have b2 : -9223372036854775807 ≤ b := by omega
      clear hg ma mb hn a0 b0
      go_enter Try.func25, Try.ntmps25
      go_wp2
      go_loopw [0, 1] (fun s t wx => ∃ (x y : Int) (k : Nat), GRel n x y ∧ (-9223372036854775807 ≤ x ∧ x ≤ 9223372036854775807) ∧ (-9223372036854775807 ≤ y ∧ y ≤ 9223372036854775807) ∧ s = .int .i64 x ∧ t = .int .i64 y ∧ wx = w.drewN k) (fun _ t _ => (intOf t).natAbs)
      case atStart => exact ⟨a, b, 0, hr, ⟨a2, a1⟩, ⟨b2, b1⟩, rfl, rfl, rfl⟩
      case round =>
        clear hr a1 a2 b1 b2 ka kb
        obtain ⟨x, y, k, hr, ⟨x0, x1⟩, ⟨y0, y1⟩, rfl, rfl, rfl⟩ := hrel
        by_cases hy : y = 0
        · subst hy
          have hx : x.natAbs = n := by unfold GRel at hr; simpa using hr
          have HX := Lib.hid hx; clear hx hr
          by_cases sx : x < 0
          · go_wp2
            go_ret
            exact ⟨ret_i (by have := HX.out; omega), _, rfl⟩
          · go_wp2
            go_ret
            exact ⟨ret_i (by have := HX.out; omega), _, rfl⟩
        · have k1 : (y != 0) = true := by rw [bne, beq_eq_false_iff_ne.2 hy]; rfl
          have k2 : (y == 0) = false := beq_eq_false_iff_ne.2 hy
          have hm := tmod_in (x := x) hy
          have hs := hr.step hy
          obtain ⟨z, hz⟩ : ∃ z, x.tmod y = z := ⟨_, rfl⟩
          rw [hz] at hm hs
          have m0 : -9223372036854775807 ≤ z := by omega
          have m1 : z ≤ 9223372036854775807 := by omega
          have HM := Lib.hid hm
          clear hy hr hm
          have k3 : ¬ y = 0 := by simpa using k2
          go_wp2
          go_quiet (fail)
          go_wp2
          exact ⟨⟨y, z, k + nq, hs, ⟨y0, y1⟩, ⟨m0, m1⟩, rfl, rfl, World.drewN_drewN _ _ _⟩, HM.out⟩

theorem mul_named (a b v : Int) (o : Bool) (w : World) (ha : fitB a = true) (hb : fitB b = true) (hv : cutZ (a * b) = v) (ho : fitB (a * b) = o) :
    Calls Try.prog 24 #[.int .i64 a, .int .i64 b] w (Ret (.tuple #[.int .i64 v, .bool o]) w) := by subst hv ho; exact mul_any a b w ha hb

end Go.Proofs.Ytmokbmhobglhfaa
