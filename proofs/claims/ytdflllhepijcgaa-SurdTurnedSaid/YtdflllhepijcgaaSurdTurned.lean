/- The law SurdTurned of layer 2: it returns true at every argument. -/
import Derived.Test.YtdflllhepijcgaaSurdLaws
namespace Go.Proofs.Ytdflllhepijcgaa
open Go.RowKit
set_option linter.unusedVariables false
set_option linter.unusedSimpArgs false

set_option maxHeartbeats 1000000 in
theorem SurdTurned_ret (A B P Q n : Int) (w : World) (hA : fitB A = true) (hB : fitB B = true) (hP : fitB P = true) (hQ : fitB Q = true) (hn : fitB n = true) :
    Calls Try.prog 5 #[.agg #[.int .i64 A, .int .i64 B, .int .i64 P, .int .i64 Q], .int .i64 n] w (RetB (.bool true) w) := by
  have AW := Lib.hid awake2
  cases hg : goodB A B P Q
  · have G := Lib.hid (good_any A B P Q false · hg)
    clear hA hB hP hQ hn hg
    go_enter Try.func5, Try.ntmps5
    go_wp2_with fail
    refine (AW.out _).mono ?_; rintro e g0w ⟨rfl, g0⟩
    have c0 : g0w.cell? ⟨w.heap.size, 0, none⟩ = some (.int .i64 A) := by rw [g0.cell (p := ⟨w.heap.size, 0, none⟩) (by simp)]; simp
    have c1 : g0w.cell? ⟨w.heap.size, 1, none⟩ = some (.int .i64 B) := by rw [g0.cell (p := ⟨w.heap.size, 1, none⟩) (by simp)]; simp
    have c2 : g0w.cell? ⟨w.heap.size, 2, none⟩ = some (.int .i64 P) := by rw [g0.cell (p := ⟨w.heap.size, 2, none⟩) (by simp)]; simp
    have c3 : g0w.cell? ⟨w.heap.size, 3, none⟩ = some (.int .i64 Q) := by rw [g0.cell (p := ⟨w.heap.size, 3, none⟩) (by simp)]; simp
    go_wp2_with fail
    refine (G.out _).mono ?_; rintro e gw ⟨rfl, g⟩
    go_wp2
    go_ret
    exact ⟨rfl, by have s0 := g0.size; (try simp only [World.heap_drewN, World.size_alloc] at s0); have s1 := g.size; (try simp only [World.heap_drewN, World.size_alloc] at s1); repeat (first | exact Below.refl _ _ | exact g0 | exact g | refine Below.trans ?_ (Below.mono g0 (by first | omega | (simp; done) | (simp; omega))) | refine Below.trans ?_ (Below.mono g (by first | omega | (simp; done) | (simp; omega))) | refine Below.setCell ?_ (by first | omega | (simp; done) | (simp; omega)) _ | refine below_dN ?_ _ | refine Below.drew ?_ | refine Below.alloc ?_ (by first | omega | (simp; done) | (simp; omega)) _)⟩
  · by_cases n0 : n < 1
    · have G := Lib.hid (good_any A B P Q true · hg)
      clear hA hB hP hQ hn hg
      go_enter Try.func5, Try.ntmps5
      go_wp2_with fail
      refine (AW.out _).mono ?_; rintro e g0w ⟨rfl, g0⟩
      have c0 : g0w.cell? ⟨w.heap.size, 0, none⟩ = some (.int .i64 A) := by rw [g0.cell (p := ⟨w.heap.size, 0, none⟩) (by simp)]; simp
      have c1 : g0w.cell? ⟨w.heap.size, 1, none⟩ = some (.int .i64 B) := by rw [g0.cell (p := ⟨w.heap.size, 1, none⟩) (by simp)]; simp
      have c2 : g0w.cell? ⟨w.heap.size, 2, none⟩ = some (.int .i64 P) := by rw [g0.cell (p := ⟨w.heap.size, 2, none⟩) (by simp)]; simp
      have c3 : g0w.cell? ⟨w.heap.size, 3, none⟩ = some (.int .i64 Q) := by rw [g0.cell (p := ⟨w.heap.size, 3, none⟩) (by simp)]; simp
      go_wp2_with fail
      refine (G.out _).mono ?_; rintro e gw ⟨rfl, g⟩
      go_wp2
      go_ret
      exact ⟨rfl, by have s0 := g0.size; (try simp only [World.heap_drewN, World.size_alloc] at s0); have s1 := g.size; (try simp only [World.heap_drewN, World.size_alloc] at s1); repeat (first | exact Below.refl _ _ | exact g0 | exact g | refine Below.trans ?_ (Below.mono g0 (by first | omega | (simp; done) | (simp; omega))) | refine Below.trans ?_ (Below.mono g (by first | omega | (simp; done) | (simp; omega))) | refine Below.setCell ?_ (by first | omega | (simp; done) | (simp; omega)) _ | refine below_dN ?_ _ | refine Below.drew ?_ | refine Below.alloc ?_ (by first | omega | (simp; done) | (simp; omega)) _)⟩
    by_cases n1 : 1000 < n
    · have G := Lib.hid (good_any A B P Q true · hg)
      have n0' : decide (n < 1) = false := decide_eq_false n0
      clear hA hB hP hQ hn hg
      go_enter Try.func5, Try.ntmps5
      go_wp2_with fail
      refine (AW.out _).mono ?_; rintro e g0w ⟨rfl, g0⟩
      have c0 : g0w.cell? ⟨w.heap.size, 0, none⟩ = some (.int .i64 A) := by rw [g0.cell (p := ⟨w.heap.size, 0, none⟩) (by simp)]; simp
      have c1 : g0w.cell? ⟨w.heap.size, 1, none⟩ = some (.int .i64 B) := by rw [g0.cell (p := ⟨w.heap.size, 1, none⟩) (by simp)]; simp
      have c2 : g0w.cell? ⟨w.heap.size, 2, none⟩ = some (.int .i64 P) := by rw [g0.cell (p := ⟨w.heap.size, 2, none⟩) (by simp)]; simp
      have c3 : g0w.cell? ⟨w.heap.size, 3, none⟩ = some (.int .i64 Q) := by rw [g0.cell (p := ⟨w.heap.size, 3, none⟩) (by simp)]; simp
      go_wp2_with fail
      refine (G.out _).mono ?_; rintro e gw ⟨rfl, g⟩
      go_wp2
      go_ret
      exact ⟨rfl, by have s0 := g0.size; (try simp only [World.heap_drewN, World.size_alloc] at s0); have s1 := g.size; (try simp only [World.heap_drewN, World.size_alloc] at s1); repeat (first | exact Below.refl _ _ | exact g0 | exact g | refine Below.trans ?_ (Below.mono g0 (by first | omega | (simp; done) | (simp; omega))) | refine Below.trans ?_ (Below.mono g (by first | omega | (simp; done) | (simp; omega))) | refine Below.setCell ?_ (by first | omega | (simp; done) | (simp; omega)) _ | refine below_dN ?_ _ | refine Below.drew ?_ | refine Below.alloc ?_ (by first | omega | (simp; done) | (simp; omega)) _)⟩
    have n0' : decide (n < 1) = false := decide_eq_false n0
    have n1' : decide (1000 < n) = false := decide_eq_false n1
    have G := Lib.hid (good_any A B P Q true · hg)
    obtain ⟨A0, A1, B0, B1, P0, P1, Q0, Q1⟩ := goodB_iff.1 hg
    have mA := mul_bound' (x := A) (y := n) (m := 1000000000) (n := 1000) A0 A1 (by omega) (by omega) (by omega)
    have mB := mul_bound' (x := B) (y := n) (m := 1000000000) (n := 1000) B0 B1 (by omega) (by omega) (by omega)
    have e1 : wrap64 (-A) = -A := wrap64_of (by omega) (by omega)
    have e2 : wrap64 (-B) = -B := wrap64_of (by omega) (by omega)
    have e3 : wrap64 (A * n) = A * n := wrap64_of (by omega) (by omega)
    have e4 : wrap64 (B * n) = B * n := wrap64_of (by omega) (by omega)
    have T := signZ_turn A B P Q
    have U := signZ_times (n := n) (by omega) hg
    obtain ⟨z, hz⟩ : ∃ z, signZ A B P Q = z := ⟨_, rfl⟩
    have uz : -1 ≤ z ∧ z ≤ 1 := by rw [← hz, signZ_good hg]; exact unit3 rfl
    have e5 : wrap64 (-z) = -z := wrap64_of (by omega) (by omega)
    rw [hz] at T U
    obtain ⟨nA, hnA⟩ : ∃ x, -A = x := ⟨_, rfl⟩
    obtain ⟨nB, hnB⟩ : ∃ x, -B = x := ⟨_, rfl⟩
    obtain ⟨tA, htA⟩ : ∃ x, A * n = x := ⟨_, rfl⟩
    obtain ⟨tB, htB⟩ : ∃ x, B * n = x := ⟨_, rfl⟩
    obtain ⟨nz, hnz⟩ : ∃ x, -z = x := ⟨_, rfl⟩
    replace e1 := e1.trans hnA; replace e2 := e2.trans hnB; replace e3 := e3.trans htA; replace e4 := e4.trans htB; replace e5 := e5.trans hnz
    have e6 : IntKind.i64.wrap (-z) = nz := by rw [IntWalk.i64_left]; exact e5
    rw [hnA, hnB, hnz] at T; rw [htA, htB] at U
    have S1 := Lib.hid (sign_any nA nB P Q nz · T)
    have S2 := Lib.hid (sign_any A B P Q z · hz)
    cases hu : goodB tA tB P Q
    · have G2 := Lib.hid (good_any tA tB P Q false · hu)
      clear U T hu hz uz mA mB A0 A1 B0 B1 P0 P1 Q0 Q1 hA hB hP hQ hn hg hnA hnB htA htB hnz n0 n1
      go_enter Try.func5, Try.ntmps5
      go_wp2_with fail
      refine (AW.out _).mono ?_; rintro e g0w ⟨rfl, g0⟩
      have c0 : g0w.cell? ⟨w.heap.size, 0, none⟩ = some (.int .i64 A) := by rw [g0.cell (p := ⟨w.heap.size, 0, none⟩) (by simp)]; simp
      have c1 : g0w.cell? ⟨w.heap.size, 1, none⟩ = some (.int .i64 B) := by rw [g0.cell (p := ⟨w.heap.size, 1, none⟩) (by simp)]; simp
      have c2 : g0w.cell? ⟨w.heap.size, 2, none⟩ = some (.int .i64 P) := by rw [g0.cell (p := ⟨w.heap.size, 2, none⟩) (by simp)]; simp
      have c3 : g0w.cell? ⟨w.heap.size, 3, none⟩ = some (.int .i64 Q) := by rw [g0.cell (p := ⟨w.heap.size, 3, none⟩) (by simp)]; simp
      go_wp2_with fail
      refine (G.out _).mono ?_; rintro e gw ⟨rfl, g⟩
      have hs : w.heap.size < gw.heap.size := by have := g0.size; have := g.size; simp at *; omega
      have d0 : gw.cell? ⟨w.heap.size, 0, none⟩ = some (.int .i64 A) := by rw [g.cell (p := ⟨w.heap.size, 0, none⟩) (by have := g0.size; simp at this; simp; omega)]; exact c0
      have d1 : gw.cell? ⟨w.heap.size, 1, none⟩ = some (.int .i64 B) := by rw [g.cell (p := ⟨w.heap.size, 1, none⟩) (by have := g0.size; simp at this; simp; omega)]; exact c1
      have d2 : gw.cell? ⟨w.heap.size, 2, none⟩ = some (.int .i64 P) := by rw [g.cell (p := ⟨w.heap.size, 2, none⟩) (by have := g0.size; simp at this; simp; omega)]; exact c2
      have d3 : gw.cell? ⟨w.heap.size, 3, none⟩ = some (.int .i64 Q) := by rw [g.cell (p := ⟨w.heap.size, 3, none⟩) (by have := g0.size; simp at this; simp; omega)]; exact c3
      go_wp2_with fail
      have hsz : w.heap.size ≤ gw.heap.size := Nat.le_of_lt hs
      have B0 : Below w.heap.size w gw := by
        have s0 := g0.size; (try simp only [World.heap_drewN, World.size_alloc] at s0)
        exact (Below.alloc (Below.refl _ _) (Nat.le_refl _) _).trans ((g0.mono (by simp)).trans (g.mono (by omega)))
      generalize hx : (gw.alloc (Obj.cells #[Value.int IntKind.i64 nA, Value.int IntKind.i64 nB, Value.int IntKind.i64 P, Value.int IntKind.i64 Q] 25)).alloc (Obj.cells #[Value.int IntKind.i64 tA, Value.int IntKind.i64 tB, Value.int IntKind.i64 P, Value.int IntKind.i64 Q] 25) = wx
      have r1 : Four wx w.heap.size A B P Q := by subst hx; exact ⟨by go_simp, by go_simp, by go_simp, by go_simp⟩
      have r2 : Four wx gw.heap.size nA nB P Q := by subst hx; exact ⟨by go_simp, by go_simp, by go_simp, by go_simp⟩
      have r3 : Four wx (gw.heap.size + 1) tA tB P Q := by subst hx; exact ⟨by go_simp, by go_simp, by go_simp, by go_simp⟩
      have Bx : Below w.heap.size w wx := by subst hx; exact Below.alloc (Below.alloc B0 hsz _) (by simp; omega) _
      have l1 : gw.heap.size + 1 < wx.heap.size := by subst hx; simp
      have l2 : gw.heap.size < wx.heap.size := by omega
      have l3 : w.heap.size < wx.heap.size := by omega
      clear hx d0 d1 d2 d3 c0 c1 c2 c3 B0 hsz hs g g0
      have Bx' : ∀ wf, Below wx.heap.size wx wf → Below w.heap.size w wf := fun wf h => Bx.trans (Below.mono h (by omega))
      have BX := Lib.hid Bx'
      generalize w.heap.size = b1 at r1 l3 ⊢
      generalize gw.heap.size + 1 = b3 at r3 l1 ⊢
      generalize gw.heap.size = b2 at r2 l2 ⊢
      have H : Held3 wx wx.drew b1 A B P Q b2 nA nB P Q b3 tA tB P Q := ⟨Below.drew (Below.refl _ _), r1, r2, r3⟩
      obtain ⟨x0, x1, x2, x3⟩ := r1
      obtain ⟨y0, y1, y2, y3⟩ := r2
      obtain ⟨u0, u1, u2, u3⟩ := r3
      clear Bx Bx'
      go_region_with (first
          | (go_at_call_of 11 nA; refine (S1.out _).mono ?_; rintro e w2 ⟨rfl, hb⟩; replace hb := held3_on (by assumption) hb l3 l2 l1; obtain ⟨_, ⟨x0, x1, x2, x3⟩, ⟨y0, y1, y2, y3⟩, ⟨u0, u1, u2, u3⟩⟩ := id hb)
          | (go_at_call_of 11 A; refine (S2.out _).mono ?_; rintro e w2 ⟨rfl, hb⟩; replace hb := held3_on (by assumption) hb l3 l2 l1; obtain ⟨_, ⟨x0, x1, x2, x3⟩, ⟨y0, y1, y2, y3⟩, ⟨u0, u1, u2, u3⟩⟩ := id hb)
          | (go_at_call_of 15 tA; refine (G2.out _).mono ?_; rintro e w2 ⟨rfl, hb⟩; replace hb := held3_on (by assumption) hb l3 l2 l1; obtain ⟨_, ⟨x0, x1, x2, x3⟩, ⟨y0, y1, y2, y3⟩, ⟨u0, u1, u2, u3⟩⟩ := id hb))
      all_goals (go_wp2; go_ret; exact ⟨rfl, BX.out _ (And.left (by assumption))⟩)
    · have G2 := Lib.hid (good_any tA tB P Q true · hu)
      have S3 := Lib.hid (sign_any tA tB P Q z · (U hu))
      clear U T hu hz uz mA mB A0 A1 B0 B1 P0 P1 Q0 Q1 hA hB hP hQ hn hg hnA hnB htA htB hnz n0 n1
      go_enter Try.func5, Try.ntmps5
      go_wp2_with fail
      refine (AW.out _).mono ?_; rintro e g0w ⟨rfl, g0⟩
      have c0 : g0w.cell? ⟨w.heap.size, 0, none⟩ = some (.int .i64 A) := by rw [g0.cell (p := ⟨w.heap.size, 0, none⟩) (by simp)]; simp
      have c1 : g0w.cell? ⟨w.heap.size, 1, none⟩ = some (.int .i64 B) := by rw [g0.cell (p := ⟨w.heap.size, 1, none⟩) (by simp)]; simp
      have c2 : g0w.cell? ⟨w.heap.size, 2, none⟩ = some (.int .i64 P) := by rw [g0.cell (p := ⟨w.heap.size, 2, none⟩) (by simp)]; simp
      have c3 : g0w.cell? ⟨w.heap.size, 3, none⟩ = some (.int .i64 Q) := by rw [g0.cell (p := ⟨w.heap.size, 3, none⟩) (by simp)]; simp
      go_wp2_with fail
      refine (G.out _).mono ?_; rintro e gw ⟨rfl, g⟩
      have hs : w.heap.size < gw.heap.size := by have := g0.size; have := g.size; simp at *; omega
      have d0 : gw.cell? ⟨w.heap.size, 0, none⟩ = some (.int .i64 A) := by rw [g.cell (p := ⟨w.heap.size, 0, none⟩) (by have := g0.size; simp at this; simp; omega)]; exact c0
      have d1 : gw.cell? ⟨w.heap.size, 1, none⟩ = some (.int .i64 B) := by rw [g.cell (p := ⟨w.heap.size, 1, none⟩) (by have := g0.size; simp at this; simp; omega)]; exact c1
      have d2 : gw.cell? ⟨w.heap.size, 2, none⟩ = some (.int .i64 P) := by rw [g.cell (p := ⟨w.heap.size, 2, none⟩) (by have := g0.size; simp at this; simp; omega)]; exact c2
      have d3 : gw.cell? ⟨w.heap.size, 3, none⟩ = some (.int .i64 Q) := by rw [g.cell (p := ⟨w.heap.size, 3, none⟩) (by have := g0.size; simp at this; simp; omega)]; exact c3
      go_wp2_with fail
      have hsz : w.heap.size ≤ gw.heap.size := Nat.le_of_lt hs
      have B0 : Below w.heap.size w gw := by
        have s0 := g0.size; (try simp only [World.heap_drewN, World.size_alloc] at s0)
        exact (Below.alloc (Below.refl _ _) (Nat.le_refl _) _).trans ((g0.mono (by simp)).trans (g.mono (by omega)))
      generalize hx : (gw.alloc (Obj.cells #[Value.int IntKind.i64 nA, Value.int IntKind.i64 nB, Value.int IntKind.i64 P, Value.int IntKind.i64 Q] 25)).alloc (Obj.cells #[Value.int IntKind.i64 tA, Value.int IntKind.i64 tB, Value.int IntKind.i64 P, Value.int IntKind.i64 Q] 25) = wx
      have r1 : Four wx w.heap.size A B P Q := by subst hx; exact ⟨by go_simp, by go_simp, by go_simp, by go_simp⟩
      have r2 : Four wx gw.heap.size nA nB P Q := by subst hx; exact ⟨by go_simp, by go_simp, by go_simp, by go_simp⟩
      have r3 : Four wx (gw.heap.size + 1) tA tB P Q := by subst hx; exact ⟨by go_simp, by go_simp, by go_simp, by go_simp⟩
      have Bx : Below w.heap.size w wx := by subst hx; exact Below.alloc (Below.alloc B0 hsz _) (by simp; omega) _
      have l1 : gw.heap.size + 1 < wx.heap.size := by subst hx; simp
      have l2 : gw.heap.size < wx.heap.size := by omega
      have l3 : w.heap.size < wx.heap.size := by omega
      clear hx d0 d1 d2 d3 c0 c1 c2 c3 B0 hsz hs g g0
      have Bx' : ∀ wf, Below wx.heap.size wx wf → Below w.heap.size w wf := fun wf h => Bx.trans (Below.mono h (by omega))
      have BX := Lib.hid Bx'
      generalize w.heap.size = b1 at r1 l3 ⊢
      generalize gw.heap.size + 1 = b3 at r3 l1 ⊢
      generalize gw.heap.size = b2 at r2 l2 ⊢
      clear Bx Bx'
      go_region_held3 (fun W => Below wx.heap.size wx W ∧ (W.cell? ⟨b1, 0, none⟩ = some (.int .i64 A) ∧ W.cell? ⟨b1, 1, none⟩ = some (.int .i64 B) ∧ W.cell? ⟨b1, 2, none⟩ = some (.int .i64 P) ∧ W.cell? ⟨b1, 3, none⟩ = some (.int .i64 Q)) ∧ (W.cell? ⟨b2, 0, none⟩ = some (.int .i64 nA) ∧ W.cell? ⟨b2, 1, none⟩ = some (.int .i64 nB) ∧ W.cell? ⟨b2, 2, none⟩ = some (.int .i64 P) ∧ W.cell? ⟨b2, 3, none⟩ = some (.int .i64 Q)) ∧ (W.cell? ⟨b3, 0, none⟩ = some (.int .i64 tA) ∧ W.cell? ⟨b3, 1, none⟩ = some (.int .i64 tB) ∧ W.cell? ⟨b3, 2, none⟩ = some (.int .i64 P) ∧ W.cell? ⟨b3, 3, none⟩ = some (.int .i64 Q)))
        (first | assumption | exact ⟨Below.drew (Below.refl _ _), r1, r2, r3⟩ | (refine held3_on ?_ hb l3 l2 l1; assumption))
        (first
          | (go_at_call_of 11 nA; refine (S1.out _).mono ?_; rintro e w2 ⟨rfl, hb⟩)
          | (go_at_call_of 11 A; refine (S2.out _).mono ?_; rintro e w2 ⟨rfl, hb⟩)
          | (go_at_call_of 11 tA; refine (S3.out _).mono ?_; rintro e w2 ⟨rfl, hb⟩)
          | (go_at_call_of 15 tA; refine (G2.out _).mono ?_; rintro e w2 ⟨rfl, hb⟩))
      all_goals (go_wp2; go_ret; exact ⟨rfl, BX.out _ (And.left (by assumption))⟩)
end Go.Proofs.Ytdflllhepijcgaa
