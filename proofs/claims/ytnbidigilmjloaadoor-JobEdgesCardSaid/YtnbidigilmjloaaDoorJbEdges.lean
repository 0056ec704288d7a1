/- JobEdges: each number of a job has its bounds. -/
import Derived.Test.YtnbidigilmjloaaDoorJb2
namespace Go.Proofs.YtnbidigilmjloaaDoor
open Go.RowKit Go.Lib
set_option linter.unusedVariables false
set_option linter.unusedSimpArgs false

set_option maxHeartbeats 16000000 in
set_option maxRecDepth 100000 in
theorem JobEdges_ret (which : Int) (up : Bool) (w : World) (hL : Ltr w) (hw : fitB which = true) : Calls Tryd.prog 6 #[.int .i64 which, .bool up] w (RetB (.bool true) w) := by
  have hwf := fit_iff hw
  have A0 := Lib.hid (awake_any w hL)
  replace hL := Lib.hid hL
  clear hw
  by_cases h0 : which < 0 ∨ which > 4
  · by_cases h1 : which < 0
    · have d1 : decide (which < 0) = true := decide_eq_true h1
      go_enter Tryd.func6, Tryd.ntmps6
      go_wp2_with fail
      refine A0.out.mono ?_; rintro e b0w ⟨rfl, b0⟩
      go_wp2
      go_ret
      exact ⟨rfl, by have s0 := b0.size; (try simp only [World.heap_drewN, World.size_alloc] at s0); repeat (first | exact Below.refl _ _ | exact b0 | refine Below.trans ?_ (Below.mono b0 (by first | omega | (simp; done) | (simp; omega))) | refine Below.setCell ?_ (by first | omega | (simp; done) | (simp; omega)) _ | refine below_dN ?_ _ | refine Below.drew ?_ | refine Below.alloc ?_ (by first | omega | (simp; done) | (simp; omega)) _)⟩
    · have d1 : decide (which < 0) = false := decide_eq_false h1
      have d2 : decide (which > 4) = true := decide_eq_true (by omega)
      go_enter Tryd.func6, Tryd.ntmps6
      go_wp2_with fail
      refine A0.out.mono ?_; rintro e b0w ⟨rfl, b0⟩
      go_wp2
      go_ret
      exact ⟨rfl, by have s0 := b0.size; (try simp only [World.heap_drewN, World.size_alloc] at s0); repeat (first | exact Below.refl _ _ | exact b0 | refine Below.trans ?_ (Below.mono b0 (by first | omega | (simp; done) | (simp; omega))) | refine Below.setCell ?_ (by first | omega | (simp; done) | (simp; omega)) _ | refine below_dN ?_ _ | refine Below.drew ?_ | refine Below.alloc ?_ (by first | omega | (simp; done) | (simp; omega)) _)⟩
  · have C : Hid (∀ (r d b a v c : Int) (g : Bool) (w' : World), (goodB ⟨#[97]⟩ && jnum r d b a v c) = g → Below w.heap.size w w' → Calls Tryd.prog 8 #[.agg #[.string ⟨#[97]⟩, .int .i64 r, .int .i64 d, .int .i64 b, .int .i64 a, .int .i64 v, .int .i64 c, .bool false]] w' (RetB (.bool g) w')) := fun r d b a v c g w' hg hb => jgood_raw _ r d b a v c false g w' (by decide) (hL.out.below hb) hg
    obtain hwh | hwh | hwh | hwh | hwh : which = 0 ∨ which = 1 ∨ which = 2 ∨ which = 3 ∨ which = 4 := by omega
    all_goals
      clear hwf h0
      subst hwh
      cases up
    all_goals
      go_enter Tryd.func6, Tryd.ntmps6
      go_wp2_with fail
      refine A0.out.mono ?_; rintro e b0w ⟨rfl, b0⟩
      replace b0 := Lib.hid b0
      go_wp2
      obtain ⟨w1, hw1⟩ : ∃ w1, (b0w.alloc (.cells #[.int .i64 1000, .int .i64 1000, .int .i64 1000000, .int .i64 100, .int .i64 10000] 3)).alloc (.cells #[.int .i64 1, .int .i64 1, .int .i64 0, .int .i64 0, .int .i64 1] 3) = w1 := ⟨_, rfl⟩
      have K : Hid (Below w.heap.size w w1 ∧ b0w.heap.size + 1 < w1.heap.size ∧ (∀ k v, #[(1000 : Int), 1000, 1000000, 100, 10000][k]? = some v → w1.cell? ⟨b0w.heap.size, k, none⟩ = some (.int .i64 v)) ∧ (∀ k v, #[(1 : Int), 1, 0, 0, 1][k]? = some v → w1.cell? ⟨b0w.heap.size + 1, k, none⟩ = some (.int .i64 v))) := by
        refine ⟨?_, ?_, ?_, ?_⟩
        · rw [← hw1]; exact (b0.out.alloc b0.out.size _).alloc (by have := b0.out.size; simp; omega) _
        · rw [← hw1]; simp
        · intro k v hk
          rw [← hw1]
          rcases k with _ | _ | _ | _ | _ | k
          all_goals simp at hk ⊢
          all_goals omega
        · intro k v hk
          rw [← hw1]
          rcases k with _ | _ | _ | _ | _ | k
          all_goals simp at hk ⊢
          all_goals omega
      rw [hw1]
      clear hw1
      generalize b0w.heap.size = M at *
      clear A0 b0
      go_loopw [7] (fun st wr => ∃ (d : Nat), st = .int .i64 (d : Int) ∧ d ≤ 2 ∧ Hid (Below w1.heap.size w1 wr)) (fun st _ => 2 - (intOf st).toNat)
      case atStart => exact ⟨0, rfl, by omega, Lib.hid (Below.refl _ _)⟩
      case round =>
        obtain ⟨d, rfl, hd2, J⟩ := hrel
        have kb : Hid (Below w.heap.size w wr) := K.out.1.trans (J.out.mono K.out.1.size)
        have km := Lib.hid (fun k v h => (J.out.cell (p := ⟨M, k, none⟩) (by have := K.out.2.1; show M < _; omega)).trans (K.out.2.2.1 k v h))
        have kl := Lib.hid (fun k v h => (J.out.cell (p := ⟨M + 1, k, none⟩) (by have := K.out.2.1; show M + 1 < _; omega)).trans (K.out.2.2.2 k v h))
        have m0 := km.out 0 _ rfl
        have m1 := km.out 1 _ rfl
        have m2 := km.out 2 _ rfl
        have m3 := km.out 3 _ rfl
        have m4 := km.out 4 _ rfl
        have l0 := kl.out 0 _ rfl
        have l1 := kl.out 1 _ rfl
        have l2 := kl.out 2 _ rfl
        have l3 := kl.out 3 _ rfl
        have l4 := kl.out 4 _ rfl
        obtain hd | hd | hd : d = 0 ∨ d = 1 ∨ d = 2 := by omega
        · subst hd
          go_wp2_with fail
          refine (C.out _ _ _ _ _ _ true _ (by kernel_rfl) (by have s0 := kb.out.size; (try simp only [World.heap_drewN, World.size_alloc] at s0); repeat (first | exact Below.refl _ _ | exact kb.out | refine Below.trans ?_ (Below.mono kb.out (by first | omega | (simp; done) | (simp; omega))) | refine Below.setCell ?_ (by first | omega | (simp; done) | (simp; omega)) _ | refine below_dN ?_ _ | refine Below.drew ?_ | refine Below.alloc ?_ (by first | omega | (simp; done) | (simp; omega)) _))).mono ?_; rintro e gw ⟨rfl, gb⟩
          replace gb : Hid (Below wr.heap.size wr gw) := by refine below_on ?_ gb; exact by repeat (first | exact Below.refl _ _ | refine Below.setCell ?_ (by first | omega | (simp; done) | (simp; omega)) _ | refine below_dN ?_ _ | refine Below.drew ?_ | refine Below.alloc ?_ (by first | omega | (simp; done) | (simp; omega)) _)
          go_wp2
          go_roundw
          case rel => exact ⟨1, by first | rfl | simp, by omega, Lib.hid (below_on J.out gb.out)⟩
          case measure => simp [intOf]
        · subst hd
          go_wp2_with fail
          refine (C.out _ _ _ _ _ _ false _ (by kernel_rfl) (by have s0 := kb.out.size; (try simp only [World.heap_drewN, World.size_alloc] at s0); repeat (first | exact Below.refl _ _ | exact kb.out | refine Below.trans ?_ (Below.mono kb.out (by first | omega | (simp; done) | (simp; omega))) | refine Below.setCell ?_ (by first | omega | (simp; done) | (simp; omega)) _ | refine below_dN ?_ _ | refine Below.drew ?_ | refine Below.alloc ?_ (by first | omega | (simp; done) | (simp; omega)) _))).mono ?_; rintro e gw ⟨rfl, gb⟩
          replace gb : Hid (Below wr.heap.size wr gw) := by refine below_on ?_ gb; exact by repeat (first | exact Below.refl _ _ | refine Below.setCell ?_ (by first | omega | (simp; done) | (simp; omega)) _ | refine below_dN ?_ _ | refine Below.drew ?_ | refine Below.alloc ?_ (by first | omega | (simp; done) | (simp; omega)) _)
          go_wp2
          go_roundw
          case rel => exact ⟨2, by first | rfl | simp, by omega, Lib.hid (below_on J.out gb.out)⟩
          case measure => simp [intOf]
        · subst hd
          go_wp2
          go_ret
          exact ⟨rfl, kb.out⟩
end Go.Proofs.YtnbidigilmjloaaDoor
