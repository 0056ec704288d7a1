/- DemandOne: a task alone is held just if its need goes into its period. -/
import Derived.Test.YtmokbmhobglhfaaDmAwake
namespace Go.Proofs.Ytmokbmhobglhfaa
open Go.RowKit Go.Lib
set_option linter.unusedVariables false
set_option linter.unusedSimpArgs false

set_option maxHeartbeats 3200000 in
set_option maxRecDepth 100000 in
theorem DemandOne_ret (p n s : Int) (w : World) (hp : fitB p = true) (hn : fitB n = true) (hs : fitB s = true) :
    Calls Try.prog 6 #[.agg #[.int .i64 p, .int .i64 n, .int .i64 s]] w (RetB (.bool true) w) := by
  have C1 := Lib.hid awake11_any
  obtain ⟨q, hq⟩ : ∃ q, Tk.good ⟨p, n, s⟩ = q := ⟨_, rfl⟩
  have C2 := Lib.hid (dgood_any ⟨p, n, s⟩ q · hq)
  have X0 := Lib.hid (BxK.new w 27 ⟨p, n, s⟩)
  have G0 := Lib.hid (Below.alloc (Below.refl w.heap.size w) (Nat.le_refl _) (.cells #[.int .i64 p, .int .i64 n, .int .i64 s] 27))
  have T : Hid (q = true → (1 ≤ p ∧ p ≤ 10000) ∧ (s = 0 ∨ (2 ≤ s ∧ s ≤ 1000))) := fun h => by
    have := tk_iff.1 (hq.trans h)
    exact ⟨this.1, this.2.2⟩
  have U : Hid (q = true → p ≤ 2000 → ¬ (0 < s ∧ p * s > 2000) → ∃ g, decide (n ≤ p) = g ∧ ∀ (w' : World) (B : Nat), w'.heap.size = B → Calls Try.prog 9 #[.slice (some ⟨B, 0, none⟩) 1 1] (w'.alloc (.cells #[.int .i64 p, .int .i64 n, .int .i64 s] 27)) (RetB (.tuple #[.bool g, .int .i64 0]) (w'.alloc (.cells #[.int .i64 p, .int .i64 n, .int .i64 s] 27)))) := fun h h1 h2 => by
    have hg : Tk.good ⟨p, n, s⟩ = true := hq.trans h
    have h3 := (T.out h).2
    have hu : Tk.unit ⟨p, n, s⟩ ≤ 100000 := by
      rw [unit_if]
      simp only
      split
      · omega
      · omega
    obtain ⟨e1, e2⟩ := holds_one hg hu
    exact ⟨_, rfl, fun w' B hB => holds_new [⟨p, n, s⟩] 1 _ 0 _ rfl (by decide) rfl e2 e1 w' B hB⟩
  obtain ⟨B, hB⟩ : ∃ B, w.heap.size = B := ⟨_, rfl⟩
  rw [hB] at X0
  clear hp hn hs hq
  go_enter Try.func6, Try.ntmps6
  go_wp2_with fail
  refine (C1.out _).mono ?_; rintro e w1 ⟨rfl, b1⟩
  have X1 := Lib.hid (X0.out.on b1)
  have G1 : Hid (Below w.heap.size w w1) := below_on G0.out b1
  clear C1 b1 X0 G0
  obtain ⟨c0, c1, c2⟩ := X1.out
  go_wp2_with fail
  refine (C2.out _).mono ?_; rintro e w2 ⟨rfl, b2⟩
  have X2 := Lib.hid (X1.out.on b2)
  have G2 : Hid (Below w.heap.size w w2) := below_on G1.out b2
  clear C2 b2 X1 G1 c0 c1 c2
  obtain ⟨c0, c1, c2⟩ := X2.out
  simp only at c0 c1 c2
  cases q
  · go_wp2
    go_ret
    exact ⟨rfl, by have s0 := G2.out.size; (try simp only [World.heap_drewN, World.size_alloc] at s0); repeat (first | exact Below.refl _ _ | exact G2.out | refine Below.trans ?_ (Below.mono G2.out (by first | omega | (simp; done) | (simp; omega))) | refine Below.setCell ?_ (by first | omega | (simp; done) | (simp; omega)) _ | refine below_dN ?_ _ | refine Below.drew ?_ | refine Below.alloc ?_ (by first | omega | (simp; done) | (simp; omega)) _)⟩
  · obtain ⟨⟨p1, p2⟩, s1⟩ := T.out rfl
    by_cases k1 : p > 2000
    · have d1 : decide (p > 2000) = true := decide_eq_true k1
      clear U T s1 k1
      go_wp2
      go_ret
      exact ⟨rfl, by have s0 := G2.out.size; (try simp only [World.heap_drewN, World.size_alloc] at s0); repeat (first | exact Below.refl _ _ | exact G2.out | refine Below.trans ?_ (Below.mono G2.out (by first | omega | (simp; done) | (simp; omega))) | refine Below.setCell ?_ (by first | omega | (simp; done) | (simp; omega)) _ | refine below_dN ?_ _ | refine Below.drew ?_ | refine Below.alloc ?_ (by first | omega | (simp; done) | (simp; omega)) _)⟩
    · have d1 : decide (p > 2000) = false := decide_eq_false k1
      by_cases k2 : 0 < s ∧ p * s > 2000
      · have d2 : decide (s > 0) = true := decide_eq_true k2.1
        have d3 : decide (p * s > 2000) = true := decide_eq_true k2.2
        have h1 : p * s ≤ 2000 * 1000 := Int.mul_le_mul (by omega) (by omega) (by omega) (by omega)
        obtain ⟨z, hz⟩ : ∃ z, p * s = z := ⟨_, rfl⟩
        rw [hz] at d3 h1 k2
        have e1 : wrap64 (p * s) = z := by rw [hz]; unfold wrap64; omega
        have e2 : IntKind.i64.wrap (p * s) = z := by rw [hz, IntKind.wrap_i64]; omega
        clear U T s1 k1 k2 h1 hz
        go_wp2
        go_ret
        exact ⟨rfl, by have s0 := G2.out.size; (try simp only [World.heap_drewN, World.size_alloc] at s0); repeat (first | exact Below.refl _ _ | exact G2.out | refine Below.trans ?_ (Below.mono G2.out (by first | omega | (simp; done) | (simp; omega))) | refine Below.setCell ?_ (by first | omega | (simp; done) | (simp; omega)) _ | refine below_dN ?_ _ | refine Below.drew ?_ | refine Below.alloc ?_ (by first | omega | (simp; done) | (simp; omega)) _)⟩
      · obtain ⟨g, hg, C⟩ := U.out rfl (by omega) k2
        have hgg : (g == g) = true := by simp
        replace C := Lib.hid C
        have hd : decide (s > 0) = false ∨ decide (s > 0) = true ∧ decide (wrap64 (p * s) > 2000) = false := by
          by_cases k3 : 0 < s
          · refine .inr ⟨decide_eq_true k3, decide_eq_false ?_⟩
            have h2 : 0 ≤ p * s := Int.mul_nonneg (by omega) (by omega)
            have h1 : p * s ≤ 2000 := by omega
            unfold wrap64; omega
          · exact .inl (decide_eq_false k3)
        clear U T s1 k1 k2 p1 p2
        rcases hd with d2 | ⟨d2, d3⟩
        all_goals
          go_wp2_with fail
          refine (C.out w2 _ rfl).mono ?_; rintro e w3 ⟨rfl, b3⟩
          have bm : Below w2.heap.size w2 w3 := by refine below_on ?_ b3; exact (Below.refl _ _).alloc (Nat.le_refl _) _
          obtain ⟨c0', c1', c2'⟩ := X2.out.on bm
          simp only at c0' c1' c2'
          have G3 : Hid (Below w.heap.size w w3) := below_on G2.out bm
          clear C b3 bm X2 G2 c0 c1 c2
          go_wp2
          go_ret
          exact ⟨rfl, by have s0 := G3.out.size; (try simp only [World.heap_drewN, World.size_alloc] at s0); repeat (first | exact Below.refl _ _ | exact G3.out | refine Below.trans ?_ (Below.mono G3.out (by first | omega | (simp; done) | (simp; omega))) | refine Below.setCell ?_ (by first | omega | (simp; done) | (simp; omega)) _ | refine below_dN ?_ _ | refine Below.drew ?_ | refine Below.alloc ?_ (by first | omega | (simp; done) | (simp; omega)) _)⟩
end Go.Proofs.Ytmokbmhobglhfaa
