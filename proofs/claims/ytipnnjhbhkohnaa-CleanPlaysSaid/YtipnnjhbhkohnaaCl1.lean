/- Package clean: within, New, Stage, Run, Abort, Left, Charge, Used. -/
import Derived.Test.YtipnnjhbhkohnaaClAt
import Derived.Test.YtipnnjhbhkohnaaRegT
import Derived.BigQuiet
import Derived.StillTailTactics
namespace Go.Proofs.Ytipnnjhbhkohnaa
open Go.RowKit Go.Lib
set_option linter.unusedVariables false
set_option linter.unusedSimpArgs false

/-- Five numbers and an answer in a box. -/
def sixB (b a c r k : Int) (s : Bool) : Array Value := #[.int .i64 b, .int .i64 a, .int .i64 c, .int .i64 r, .int .i64 k, .bool s]
/-- It was aborted. -/
def Lf.abB (x : Lf) : Bool := x.st == 1 || x.st == 3
/-- Block p is the program's life x. -/
def CfAt (T : TypeId) (o : Nat → Nat) (σ : Nat) (w : World) (p : Nat) (x : Lf) : Prop := Blk o σ w p (sixB x.b x.a x.c x.ran x.cl x.abB) T ∧ x.Ok
section
variable {T : TypeId} {o o' : Nat → Nat} {σ τ : Nat} {w w' : World} {p : Nat} {x : Lf}
theorem CfAt.below (h : CfAt T o σ w p x) (hb : Below w.heap.size w w') : CfAt T o σ w' p x := ⟨h.1.below hb, h.2⟩
theorem CfAt.step (h : CfAt T o σ w p x) (st : Step o o' τ w w') (hne : σ ≠ τ) : CfAt T o' σ w' p x := ⟨h.1.step st hne, h.2⟩
theorem CfAt.alloc (h : CfAt T o σ w p x) (y : Obj) (τ' : Nat) : CfAt T (tag o w.heap.size τ') σ (w.alloc y) p x := ⟨h.1.alloc y τ', h.2⟩
theorem CfAt.drewN (h : CfAt T o σ w p x) (n : Nat) : CfAt T o σ (w.drewN n) p x := ⟨h.1.drewN n, h.2⟩
variable {B A C R K : Int} {S : Bool}
theorem sixB_cells (h : Blk o σ w p (sixB B A C R K S) T) : w.cell? ⟨p, 0, none⟩ = some (.int .i64 B) ∧ w.cell? ⟨p, 1, none⟩ = some (.int .i64 A) ∧ w.cell? ⟨p, 2, none⟩ = some (.int .i64 C) ∧ w.cell? ⟨p, 3, none⟩ = some (.int .i64 R) ∧ w.cell? ⟨p, 4, none⟩ = some (.int .i64 K) ∧ w.cell? ⟨p, 5, none⟩ = some (.bool S) :=
  ⟨by rw [h.cell]; rfl, by rw [h.cell]; rfl, by rw [h.cell]; rfl, by rw [h.cell]; rfl, by rw [h.cell]; rfl, by rw [h.cell]; rfl⟩
theorem sixB_set3 (h : Blk o σ w p (sixB B A C R K S) T) (v : Int) : Blk o σ (w.setCell ⟨p, 3, none⟩ (.int .i64 v)) p (sixB B A C v K S) T := h.set 3 (.int .i64 v)
theorem sixB_set4 (h : Blk o σ w p (sixB B A C R K S) T) (v : Int) : Blk o σ (w.setCell ⟨p, 4, none⟩ (.int .i64 v)) p (sixB B A C R v S) T := h.set 4 (.int .i64 v)
theorem sixB_set5 (h : Blk o σ w p (sixB B A C R K S) T) (v : Bool) : Blk o σ (w.setCell ⟨p, 5, none⟩ (.bool v)) p (sixB B A C R K v) T := h.set 5 (.bool v)
end

theorem cwithin_any (n a b : Int) (g : Bool) (w : World) (h : (decide (a ≤ n) && decide (n ≤ b)) = g) : Calls Try.prog 19 #[.int .i64 n, .int .i64 a, .int .i64 b] w fun e w' => e = .returned (.bool g) ∧ w' = w := by
  by_cases h1 : a ≤ n
  · have d1 : decide (a ≤ n) = true := decide_eq_true h1
    rw [d1, Bool.true_and] at h
    go_enter Try.func19, Try.ntmps19
    go_wp2
    go_ret
    exact ⟨by first | rfl | exact ret_b h, rfl⟩
  · have d1 : decide (a ≤ n) = false := decide_eq_false h1
    rw [d1, Bool.false_and] at h
    subst h
    go_enter Try.func19, Try.ntmps19
    go_wp2
    go_ret
    exact ⟨rfl, rfl⟩
set_option maxHeartbeats 1600000 in
theorem cnew_bad (w : World) (b a c : Int) (h : b < 1 ∨ 1000 < b ∨ a < 1 ∨ 1000 < a ∨ c < 0 ∨ 100 < c) : Calls Try.prog 8 #[.int .i64 b, .int .i64 a, .int .i64 c] w fun e w' => e = .returned (.tuple #[.pointer none, .int .i64 1]) ∧ w' = w := by
  obtain ⟨q1, h1⟩ : ∃ q, (decide (1 ≤ b) && decide (b ≤ 1000)) = q := ⟨_, rfl⟩
  obtain ⟨q2, h2⟩ : ∃ q, (decide (1 ≤ a) && decide (a ≤ 1000)) = q := ⟨_, rfl⟩
  obtain ⟨q3, h3⟩ : ∃ q, (decide (0 ≤ c) && decide (c ≤ 100)) = q := ⟨_, rfl⟩
  have hq : (q1 && q2 && q3) = false := by
    rw [← h1, ← h2, ← h3, Bool.eq_false_iff]
    intro hh
    simp only [Bool.and_eq_true, decide_eq_true_eq] at hh
    omega
  have C1 := Lib.hid (fun W => cwithin_any b 1 1000 q1 W h1)
  have C2 := Lib.hid (fun W => cwithin_any a 1 1000 q2 W h2)
  have C3 := Lib.hid (fun W => cwithin_any c 0 100 q3 W h3)
  clear h1 h2 h3 h
  cases q1
  · go_enter Try.func8, Try.ntmps8
    go_wp2_with fail
    refine (C1.out _).mono ?_; rintro e w' ⟨rfl, rfl⟩
    go_wp2
    go_ret2
    exact ⟨rfl, rfl⟩
  · cases q2
    · go_enter Try.func8, Try.ntmps8
      go_wp2_with fail
      refine (C1.out _).mono ?_; rintro e w' ⟨rfl, rfl⟩
      go_wp2_with fail
      refine (C2.out _).mono ?_; rintro e w' ⟨rfl, rfl⟩
      go_wp2
      go_ret2
      exact ⟨rfl, rfl⟩
    · obtain rfl : q3 = false := by simpa using hq
      go_enter Try.func8, Try.ntmps8
      go_wp2_with fail
      refine (C1.out _).mono ?_; rintro e w' ⟨rfl, rfl⟩
      go_wp2_with fail
      refine (C2.out _).mono ?_; rintro e w' ⟨rfl, rfl⟩
      go_wp2_with fail
      refine (C3.out _).mono ?_; rintro e w' ⟨rfl, rfl⟩
      go_wp2
      go_ret2
      exact ⟨rfl, rfl⟩
set_option maxHeartbeats 1600000 in
theorem cnew (o : Nat → Nat) (σ : Nat) (w : World) (b a c : Nat) (h1 : 1 ≤ b) (h2 : b ≤ 1000) (h3 : 1 ≤ a) (h4 : a ≤ 1000) (h5 : c ≤ 100) : Calls Try.prog 8 #[.int .i64 (b : Int), .int .i64 (a : Int), .int .i64 (c : Int)] w fun e w' => ∃ p, e = .returned (.tuple #[.pointer (some ⟨p, 0, none⟩), .int .i64 0]) ∧
    ∃ o', Step o o' σ w w' ∧ CfAt 39 o' σ w' p (Lf.new b a c) := by
  have C1 := Lib.hid (fun W => cwithin_any (b : Int) 1 1000 true W (by rw [decide_eq_true (by omega), decide_eq_true (by omega)]; rfl))
  have C2 := Lib.hid (fun W => cwithin_any (a : Int) 1 1000 true W (by rw [decide_eq_true (by omega), decide_eq_true (by omega)]; rfl))
  have C3 := Lib.hid (fun W => cwithin_any (c : Int) 0 100 true W (by rw [decide_eq_true (by omega), decide_eq_true (by omega)]; rfl))
  have hok := Lib.hid (Lf.new_ok h1 h2 h3 h4 h5)
  clear h1 h2 h3 h4 h5
  go_enter Try.func8, Try.ntmps8
  go_wp2_with fail
  refine (C1.out _).mono ?_; rintro e w' ⟨rfl, rfl⟩
  go_wp2_with fail
  refine (C2.out _).mono ?_; rintro e w' ⟨rfl, rfl⟩
  go_wp2_with fail
  refine (C3.out _).mono ?_; rintro e w' ⟨rfl, rfl⟩
  go_wp2
  go_ret2
  exact ⟨_, rfl, _, (Step.refl o σ _).alloc σ _, Blk.made o σ _ _ _, hok.out⟩

section
variable {o : Nat → Nat} {σ : Nat} {w : World} {p : Nat} {x : Lf}
theorem abB_0 (h : x.st = 0) : x.abB = false := by unfold Lf.abB; rw [h]; rfl
theorem abB_1 (h : x.st = 1) : x.abB = true := by unfold Lf.abB; rw [h]; rfl
theorem abB_2 (h : x.st = 2) : x.abB = false := by unfold Lf.abB; rw [h]; rfl
theorem abB_3 (h : x.st = 3) : x.abB = true := by unfold Lf.abB; rw [h]; rfl
set_option maxHeartbeats 1600000 in
theorem cstage (h : CfAt 39 o σ w p x) : Calls Try.prog 14 #[.pointer (some ⟨p, 0, none⟩)] w (Ret (.int .i64 (x.st : Int)) w) := by
  obtain ⟨h, hx⟩ := h
  have h4 := hx.st
  obtain ⟨A, hA⟩ : ∃ A : Int, (x.a : Int) = A := ⟨_, rfl⟩
  obtain ⟨C, hC⟩ : ∃ C : Int, (x.c : Int) = C := ⟨_, rfl⟩
  obtain ⟨R, hR⟩ : ∃ R : Int, (x.ran : Int) = R := ⟨_, rfl⟩
  obtain ⟨K, hK⟩ : ∃ K : Int, (x.cl : Int) = K := ⟨_, rfl⟩
  rw [hA, hC, hR, hK] at h
  obtain ⟨_, c1, c2, c3, c4, c5⟩ := sixB_cells h
  rcases (by omega : x.st = 0 ∨ x.st = 1 ∨ x.st = 2 ∨ x.st = 3) with e | e | e | e
  · obtain ⟨r1, r2, r3⟩ := hx.run e
    rw [abB_0 e] at c5
    rw [e]
    have k1 : (R == A) = false := by simp; omega
    clear h hx h4 e r1 r2 r3 hA hC hR hK c2 c4
    go_enter Try.func14, Try.ntmps14
    go_wp2
    go_quiet (fail)
    go_wp2
    go_ret
    exact ⟨rfl, _, rfl⟩
  · obtain ⟨r1, r2, r3, r4⟩ := hx.cln e
    rw [abB_1 e] at c5
    rw [e]
    have k1 : (R == A) = false := by simp; omega
    have k2 : decide (K < C) = true := decide_eq_true (by omega)
    clear h hx h4 e r1 r2 r3 r4 hA hC hR hK
    go_enter Try.func14, Try.ntmps14
    go_wp2
    go_quiet (fail)
    go_wp2
    go_quiet (fail)
    go_wp2
    go_ret
    first | exact ⟨rfl, _, rfl⟩ | exact ⟨rfl, _, drewN_two _ _ _⟩
  · obtain ⟨r1, r2, r3⟩ := hx.don e
    rw [e]
    have k1 : (R == A) = true := by simp; omega
    clear h hx h4 e r1 r2 r3 hA hC hR hK c2 c4 c5
    go_enter Try.func14, Try.ntmps14
    go_wp2
    go_quiet (fail)
    go_wp2
    go_ret
    exact ⟨rfl, _, rfl⟩
  · obtain ⟨r1, r2, r3, r4⟩ := hx.gon e
    rw [abB_3 e] at c5
    rw [e]
    have k1 : (R == A) = false := by simp; omega
    have k2 : decide (K < C) = false := decide_eq_false (by omega)
    clear h hx h4 e r1 r2 r3 r4 hA hC hR hK
    go_enter Try.func14, Try.ntmps14
    go_wp2
    go_quiet (fail)
    go_wp2
    go_quiet (fail)
    go_wp2
    go_ret
    first | exact ⟨rfl, _, rfl⟩ | exact ⟨rfl, _, drewN_two _ _ _⟩
set_option maxHeartbeats 3200000 in
theorem cabort (c : Int) (y : Lf) (h : CfAt 39 o σ w p x) (hc : x.aboE = c) (hy : x.abo = y) :
    Calls Try.prog 11 #[.pointer (some ⟨p, 0, none⟩)] w fun e w' => e = .returned (.int .i64 c) ∧ Step o o σ w w' ∧ CfAt 39 o σ w' p y := by
  have H := Lib.hid h
  have C1 := Lib.hid (cstage h)
  have hyk : y.Ok := hy ▸ Lf.ok_abo h.2
  have hm := h.1.mine
  replace h := h.1
  unfold Lf.aboE at hc
  by_cases h0 : x.st = 0
  · rw [if_pos h0] at hc
    subst hc
    have hyc : sixB x.b x.a x.c x.ran x.cl true = sixB y.b y.a y.c y.ran y.cl y.abB := by
      obtain ⟨s1, s2, s3, s4, s5⟩ := Lf.same_abo x
      rw [← hy, s1, s2, s3, s4, s5]
      unfold Lf.abo Lf.abB
      rw [if_pos h0]
      by_cases hz : x.c = 0 <;> simp [hz]
    rw [h0] at C1
    have G := Lib.hid (fun n : Nat => (And.intro (((Step.refl o σ w).drewN n).setCell (p := ⟨p, 5, none⟩) (.inr hm) (.bool true)) (sixB_set5 (h.drewN n) true)))
    have c5 := Lib.hid (fun n : Nat => (sixB_cells (h.drewN n)).2.2.2.2.2)
    have f5 := Lib.hid (fun n : Nat => (h.drewN n).frozen 5)
    clear h hm
    go_enter Try.func11, Try.ntmps11
    go_wp2_with fail
    refine C1.out.mono ?_
    rintro e w1 ⟨rfl, n, rfl⟩
    have d5 := c5.out n
    have g5 := f5.out n
    have G1 := Lib.hid (G.out n)
    clear c5 f5 G C1
    generalize w.drewN n = w1 at *
    go_wp2
    go_ret
    exact ⟨rfl, G1.out.1, hyc ▸ G1.out.2, hyk⟩
  · rw [if_neg h0] at hc
    unfold Lf.abo at hy
    rw [if_neg h0] at hy
    subst hc hy
    obtain ⟨S, hS⟩ : ∃ S : Int, (x.st : Int) = S := ⟨_, rfl⟩
    rw [hS] at C1
    have k : (S != 0) = true := by simp; omega
    clear h hm hyk
    go_enter Try.func11, Try.ntmps11
    go_wp2_with fail
    refine C1.out.mono ?_
    rintro e w1 ⟨rfl, n, rfl⟩
    go_wp2
    go_ret
    exact ⟨rfl, (Step.refl o σ w).drewN n, H.out.drewN n⟩
theorem Ret.quietC {P : Program} {f : FuncId} {args : Array Value} {w : World} {n : Nat} {v : Value} (h : Calls P f args (w.drewN n) (Ret v (w.drewN n))) :
    Calls P f args (w.drewN n) fun e w'' => e = .returned v ∧ ∃ m, w'' = w.drewN m := Calls.quiet_of h
set_option maxHeartbeats 1600000 in
theorem ccharge (c : Nat) (h : CfAt 39 o σ w p x) (hx : x.Ok) (hc : x.charge = c) :
    Calls Try.prog 9 #[.pointer (some ⟨p, 0, none⟩)] w (Ret (.int .i64 (c : Int)) w) := by
  have C1 := Lib.hid (cstage h)
  replace h := h.1
  have b1 := hx.b2
  have b2 := hx.a2
  have b3 := hx.c2
  unfold Lf.charge at hc
  obtain ⟨B, hB⟩ : ∃ B : Int, (x.b : Int) = B := ⟨_, rfl⟩
  obtain ⟨C, hC⟩ : ∃ C : Int, (x.c : Int) = C := ⟨_, rfl⟩
  obtain ⟨R, hR⟩ : ∃ R : Int, (x.ran : Int) = R := ⟨_, rfl⟩
  obtain ⟨K, hK⟩ : ∃ K : Int, (x.cl : Int) = K := ⟨_, rfl⟩
  obtain ⟨Z, hZ⟩ : ∃ Z : Int, (c : Int) = Z := ⟨_, rfl⟩
  rw [hB, hC, hR, hK] at h
  rw [hZ]
  have c0 := Lib.hid (fun n : Nat => (sixB_cells (h.drewN n)))
  by_cases h0 : x.st = 0
  · obtain ⟨r1, r2, r3⟩ := hx.run h0
    rw [if_pos h0] at hc
    rw [h0] at C1
    obtain ⟨D, hD⟩ : ∃ D : Int, B - R = D := ⟨_, rfl⟩
    have e1 : IntKind.i64.wrap (B - R) = D := by rw [IntKind.wrap_i64]; omega
    have e2 : IntKind.i64.wrap (D + C) = Z := by rw [IntKind.wrap_i64]; omega
    clear h hx h0 hc r1 r2 r3 b1 b2 b3 hD hB hC hR hK hZ
    go_enter Try.func9, Try.ntmps9
    go_wp2_with fail
    refine C1.out.mono ?_
    rintro e w1 ⟨rfl, n, rfl⟩
    obtain ⟨d0, _, d2, d3, d4, _⟩ := c0.out n
    clear c0 C1
    generalize hw1 : w.drewN n = w1 at *
    replace hw1 := Lib.hid hw1
    go_wp2
    go_quiet (fail)
    go_wp2
    go_ret
    exact ⟨rfl, _, by rw [← hw1.out, drewN_two]⟩
  · rw [if_neg h0] at hc
    by_cases h1s : x.st = 1
    · obtain ⟨r1, _⟩ := hx.cln h1s
      rw [if_pos h1s] at hc
      rw [h1s] at C1
      have e1 : IntKind.i64.wrap (C - K) = Z := by rw [IntKind.wrap_i64]; omega
      clear h hx h0 hc r1 b1 b2 b3 hB hC hR hK hZ
      go_enter Try.func9, Try.ntmps9
      go_wp2_with fail
      refine C1.out.mono ?_
      rintro e w1 ⟨rfl, n, rfl⟩
      obtain ⟨d0, _, d2, d3, d4, _⟩ := c0.out n
      clear c0 C1
      generalize hw1 : w.drewN n = w1 at *
      replace hw1 := Lib.hid hw1
      go_wp2
      go_quiet (fail)
      go_wp2
      go_ret
      exact ⟨rfl, _, by rw [← hw1.out, drewN_two]⟩
    · rw [if_neg h1s] at hc
      obtain rfl : (0 : Int) = Z := by omega
      obtain ⟨S, hS⟩ : ∃ S : Int, (x.st : Int) = S := ⟨_, rfl⟩
      rw [hS] at C1
      have k1 : (S == 0) = false := by simp; omega
      have k2 : (S == 1) = false := by simp; omega
      clear h hx h0 h1s hc b1 b2 b3 hB hC hR hK hZ hS c0
      go_enter Try.func9, Try.ntmps9
      go_wp2_with fail
      refine C1.out.mono ?_
      rintro e w1 ⟨rfl, n, rfl⟩
      go_wp2
      go_ret
      exact ⟨rfl, _, rfl⟩
set_option maxHeartbeats 800000 in
theorem cused (h : CfAt 39 o σ w p x) : Calls Try.prog 12 #[.pointer (some ⟨p, 0, none⟩)] w (Ret (.tuple #[.int .i64 (x.ran : Int), .int .i64 (x.cl : Int)]) w) := by
  obtain ⟨_, _, _, c3, c4, _⟩ := sixB_cells h.1
  clear h
  go_enter Try.func12, Try.ntmps12
  go_wp2
  go_quiet (fail)
  go_wp2
  go_ret2
  exact ⟨rfl, _, rfl⟩
set_option maxHeartbeats 3200000 in
theorem cleft (c : Nat) (h : CfAt 39 o σ w p x) (hx : x.Ok) (hc : x.left = c) :
    Calls Try.prog 13 #[.pointer (some ⟨p, 0, none⟩)] w (Ret (.int .i64 (c : Int)) w) := by
  have b1 := hx.b2
  have b2 := hx.a2
  have b3 := hx.c2
  have CC := Lib.hid (fun (n : Nat) => ccharge x.charge (h.drewN n) hx rfl)
  have C1 := Lib.hid (fun (n : Nat) => cstage (h.drewN n))
  replace h := h.1
  unfold Lf.left at hc
  obtain ⟨B, hB⟩ : ∃ B : Int, (x.b : Int) = B := ⟨_, rfl⟩
  obtain ⟨A, hA⟩ : ∃ A : Int, (x.a : Int) = A := ⟨_, rfl⟩
  obtain ⟨C, hC⟩ : ∃ C : Int, (x.c : Int) = C := ⟨_, rfl⟩
  obtain ⟨R, hR⟩ : ∃ R : Int, (x.ran : Int) = R := ⟨_, rfl⟩
  obtain ⟨K, hK⟩ : ∃ K : Int, (x.cl : Int) = K := ⟨_, rfl⟩
  obtain ⟨Z, hZ⟩ : ∃ Z : Int, (c : Int) = Z := ⟨_, rfl⟩
  rw [hB, hA, hC, hR, hK] at h
  rw [hZ]
  by_cases h0 : x.st = 0
  · obtain ⟨r1, r2, r3⟩ := hx.run h0
    rw [if_pos h0] at hc
    rw [h0] at C1
    obtain ⟨c0, c1, c2, c3, c4, c5⟩ := sixB_cells h
    by_cases hab : x.a ≤ x.b
    · rw [if_pos hab] at hc
      have k0 : decide (A ≤ B) = true := decide_eq_true (by omega)
      have e1 : IntKind.i64.wrap (A - R) = Z := by rw [IntKind.wrap_i64]; omega
      clear h hx h0 hc r1 r2 r3 b1 b2 b3 hB hA hC hR hK hZ CC hab
      go_enter Try.func13, Try.ntmps13
      go_wp2
      go_quiet (first | (go_at_call 14; refine Ret.quietC (C1.out _)))
      go_wp2
      go_quiet (fail)
      go_wp2
      go_ret
      first | exact ⟨rfl, _, rfl⟩ | exact ⟨rfl, _, drewN_two _ _ _⟩
    · rw [if_neg hab] at hc
      have k0 : decide (A ≤ B) = false := decide_eq_false (by omega)
      have hch : x.charge = c := by unfold Lf.charge; rw [if_pos h0]; exact hc
      rw [hch, hZ] at CC
      clear h hx h0 hc r1 r2 r3 b1 b2 b3 hB hA hC hR hK hZ hab hch
      go_enter Try.func13, Try.ntmps13
      go_wp2
      go_quiet (first | (go_at_call 14; refine Ret.quietC (C1.out _)))
      go_wp2_with fail
      refine (CC.out _).mono ?_
      rintro e w5 ⟨rfl, n5, rfl⟩
      go_wp2
      go_ret
      first | exact ⟨rfl, _, rfl⟩ | exact ⟨rfl, _, drewN_two _ _ _⟩
  · rw [if_neg h0] at hc
    have hch : x.charge = c := by unfold Lf.charge; rw [if_neg h0]; exact hc
    rw [hch, hZ] at CC
    obtain ⟨S, hS⟩ : ∃ S : Int, (x.st : Int) = S := ⟨_, rfl⟩
    rw [hS] at C1
    have k1 : (S == 0) = false := by simp; omega
    clear h hx h0 hc b1 b2 b3 hB hA hC hR hK hZ hS hch
    go_enter Try.func13, Try.ntmps13
    go_wp2
    go_quiet (first | (go_at_call 14; refine Ret.quietC (C1.out _)))
    go_wp2_with fail
    refine (CC.out _).mono ?_
    rintro e w5 ⟨rfl, n5, rfl⟩
    go_wp2
    go_ret
    first | exact ⟨rfl, _, rfl⟩ | exact ⟨rfl, _, drewN_two _ _ _⟩
theorem run_abB0 (h0 : x.st = 0) (hb : x.ran + 1 ≠ x.b) : x.run.abB = false := by
  unfold Lf.run Lf.abB
  rw [if_pos h0]
  by_cases ha : x.ran + 1 = x.a
  · simp [ha]
  · simp [ha, hb, h0]
theorem run_abB1 (h0 : x.st = 0) (hb : x.ran + 1 = x.b) : x.run.abB = !decide (x.ran + 1 = x.a) := by
  unfold Lf.run Lf.abB
  rw [if_pos h0]
  by_cases ha : x.ran + 1 = x.a
  · simp [ha]
  · rw [if_neg ha, if_pos hb, decide_eq_false ha]
    by_cases hc : x.c = 0 <;> simp [hc]
set_option maxHeartbeats 6400000 in
set_option maxRecDepth 100000 in
theorem crun (r : Bool) (y : Lf) (h : CfAt 39 o σ w p x) (hx : x.Ok) (hr : x.runB = r) (hy : x.run = y) :
    Calls Try.prog 10 #[.pointer (some ⟨p, 0, none⟩)] w fun e w' => e = .returned (.bool r) ∧ Step o o σ w w' ∧ CfAt 39 o σ w' p y := by
  have H := Lib.hid h
  have C1 := Lib.hid (cstage h)
  have hyk : y.Ok := hy ▸ Lf.ok_run hx
  replace h := h.1
  have hm := h.mine
  have b1 := hx.b2
  have b2 := hx.a2
  have b3 := hx.c2
  have b4 := hx.st
  unfold Lf.runB at hr
  obtain ⟨B, hB⟩ : ∃ B : Int, (x.b : Int) = B := ⟨_, rfl⟩
  obtain ⟨A, hA⟩ : ∃ A : Int, (x.a : Int) = A := ⟨_, rfl⟩
  obtain ⟨C, hC⟩ : ∃ C : Int, (x.c : Int) = C := ⟨_, rfl⟩
  obtain ⟨R, hR⟩ : ∃ R : Int, (x.ran : Int) = R := ⟨_, rfl⟩
  obtain ⟨K, hK⟩ : ∃ K : Int, (x.cl : Int) = K := ⟨_, rfl⟩
  rw [hB, hA, hC, hR, hK] at h
  by_cases h0 : x.st = 0
  · obtain ⟨r1, r2, r3⟩ := hx.run h0
    obtain rfl : true = r := by rw [← hr, h0]; rfl
    rw [abB_0 h0] at h
    rw [h0] at C1
    obtain ⟨R1, hR1⟩ : ∃ R1 : Int, R + 1 = R1 := ⟨_, rfl⟩
    have e1 : wrap64 (R + 1) = R1 := by unfold wrap64; omega
    have hyc : sixB B A C R1 K y.abB = sixB y.b y.a y.c y.ran y.cl y.abB := by
      have hs : y.b = x.b ∧ y.a = x.a ∧ y.c = x.c ∧ y.ran = x.ran + 1 ∧ y.cl = x.cl := by
        rw [← hy]; unfold Lf.run; rw [if_pos h0]
        repeat' split
        all_goals simp
      obtain ⟨s1, s2, s3, s4, s5⟩ := hs
      have : ((x.ran + 1 : Nat) : Int) = R1 := by omega
      rw [s1, s2, s3, s4, s5, hB, hA, hC, hK, this]
    have Y0 := Lib.hid (And.intro hyc hyk)
    have G := Lib.hid (fun n : Nat => And.intro (((Step.refl o σ w).drewN n).setCell (p := ⟨p, 3, none⟩) (.inr hm) (.int .i64 R1)) (And.intro (sixB_set3 (h.drewN n) R1) (And.intro (sixB_cells (h.drewN n)).2.2.2.1 ((h.drewN n).frozen 3))))
    by_cases hb : x.ran + 1 = x.b
    · have k1 : (R1 == B) = true := by simp; omega
      obtain ⟨q, hq⟩ : ∃ q, decide (R1 < A) = q := ⟨_, rfl⟩
      have hyq : y.abB = q := by
        rw [← hy, run_abB1 h0 hb, ← hq]
        by_cases ha : x.ran + 1 = x.a
        · rw [decide_eq_true ha, decide_eq_false (by omega)]; rfl
        · rw [decide_eq_false ha, decide_eq_true (by omega)]; rfl
      have Y := Lib.hid (And.intro (show sixB B A C R1 K q = sixB y.b y.a y.c y.ran y.cl y.abB from by rw [← hyq]; exact Y0.out.1) hyk)
      clear Y0
      clear h hx h0 r1 r2 r3 b1 b2 b3 b4 hB hA hC hR hK hR1 hb hy hyk hyc H hr hyq
      go_enter Try.func10, Try.ntmps10
      go_wp2_with fail
      refine C1.out.mono ?_
      rintro e w1 ⟨rfl, n, rfl⟩
      have G1 := Lib.hid (G.out n)
      obtain ⟨c3, f3⟩ := G1.out.2.2
      clear G C1
      generalize w.drewN n = w1 at *
      go_wp2
      generalize w1.setCell ⟨p, 3, none⟩ (.int .i64 R1) = W at *
      obtain ⟨st1, h1, _⟩ := G1.out
      clear c3 f3 G1
      have J2 := Lib.hid (And.intro (st1.drew.setCell (p := ⟨p, 5, none⟩) (.inr hm) (.bool q)) (sixB_set5 (show Blk o σ W.drew p (sixB B A C R1 K false) 39 from ⟨h1.at_, h1.mine⟩) q))
      obtain ⟨d0, d1, _, d3, _, d5⟩ := sixB_cells h1
      have m2 : W.drew.cell? ⟨p, 5, none⟩ = some (.bool false) := d5
      have m3 : W.drew.frozen? ⟨p, 5, none⟩ = false := h1.frozen 5
      clear st1 h1 hm
      go_still_tail 23, (by kernel_rfl)
      change wpList _ _ _ _ _ W.drew
      clear d0 d1 d3 d5
      generalize W.drew = wq at *
      go_wp2
      go_ret
      first | exact ⟨rfl, J2.out.1, Y.out.1 ▸ J2.out.2, Y.out.2⟩ | (rw [hq]; exact ⟨rfl, J2.out.1, Y.out.1 ▸ J2.out.2, Y.out.2⟩) | (subst hq; exact ⟨rfl, J2.out.1, Y.out.1 ▸ J2.out.2, Y.out.2⟩)
    · have k1 : (R1 == B) = false := by simp; omega
      have hyq : y.abB = false := by rw [← hy, run_abB0 h0 hb]
      have Y := Lib.hid (And.intro (show sixB B A C R1 K false = sixB y.b y.a y.c y.ran y.cl y.abB from by rw [← hyq]; exact Y0.out.1) hyk)
      clear Y0
      clear h hx h0 r1 r2 r3 b1 b2 b3 b4 hB hA hC hR hK hR1 hb hy hyk hyc H hr hyq
      go_enter Try.func10, Try.ntmps10
      go_wp2_with fail
      refine C1.out.mono ?_
      rintro e w1 ⟨rfl, n, rfl⟩
      have G1 := Lib.hid (G.out n)
      obtain ⟨c3, f3⟩ := G1.out.2.2
      clear G C1
      generalize w.drewN n = w1 at *
      go_wp2
      generalize w1.setCell ⟨p, 3, none⟩ (.int .i64 R1) = W at *
      obtain ⟨st1, h1, _⟩ := G1.out
      clear c3 f3 G1
      have J2 := Lib.hid (And.intro (st1.drew.setCell (p := ⟨p, 5, none⟩) (.inr hm) (.bool false)) (sixB_set5 (show Blk o σ W.drew p (sixB B A C R1 K false) 39 from ⟨h1.at_, h1.mine⟩) false))
      obtain ⟨d0, d1, _, d3, _, d5⟩ := sixB_cells h1
      have m2 : W.drew.cell? ⟨p, 5, none⟩ = some (.bool false) := d5
      have m3 : W.drew.frozen? ⟨p, 5, none⟩ = false := h1.frozen 5
      have cz : W.drew.cell? ⟨p, 3, none⟩ = some (.int .i64 R1) ∧ W.drew.cell? ⟨p, 0, none⟩ = some (.int .i64 B) := ⟨d3, d0⟩
      clear st1 h1 hm d0 d1 d3 d5
      refine wp_region_T (fun W' => W'.cell? ⟨p, 3, none⟩ = some (.int .i64 R1) ∧ W'.cell? ⟨p, 0, none⟩ = some (.int .i64 B)) 23 (by kernel_rfl) ?_
      generalize W.drew = wq at *
      refine wpAnyT_free (i := 0) (v := (.pointer (some ⟨p, 0, none⟩))) rfl (by kernel_rfl) (fun _ _ _ h => h) (Or.inl ⟨by rfl, ?_⟩) (fun _ => cz) ?_
      · intro w _; go_simp
      try simp only [List.getElem_toArray, List.getElem_cons_zero, List.getElem_cons_succ, Act.put, List.setIfInBounds_toArray, List.set_cons_zero, List.set_cons_succ]
      refine wpAnyT_free (i := 1) (v := (.pointer (some ⟨p, 0, none⟩))) rfl (by kernel_rfl) (fun _ _ _ h => h) (Or.inl ⟨by rfl, ?_⟩) (fun _ => cz) ?_
      · intro w _; go_simp
      try simp only [List.getElem_toArray, List.getElem_cons_zero, List.getElem_cons_succ, Act.put, List.setIfInBounds_toArray, List.set_cons_zero, List.set_cons_succ]
      refine wpAnyT_free (i := 2) (v := (.pointer (some ⟨p, 0, none⟩))) rfl (by kernel_rfl) (fun _ _ _ h => h) (Or.inl ⟨by rfl, ?_⟩) (fun _ => cz) ?_
      · intro w _; go_simp
      try simp only [List.getElem_toArray, List.getElem_cons_zero, List.getElem_cons_succ, Act.put, List.setIfInBounds_toArray, List.set_cons_zero, List.set_cons_succ]
      refine wpAnyT_free (i := 3) (v := (.pointer (some ⟨p, 3, none⟩))) rfl (by kernel_rfl) (fun _ _ _ h => h) (Or.inl ⟨by rfl, ?_⟩) (fun _ => cz) ?_
      · intro w _; go_simp
      try simp only [List.getElem_toArray, List.getElem_cons_zero, List.getElem_cons_succ, Act.put, List.setIfInBounds_toArray, List.set_cons_zero, List.set_cons_succ]
      refine wpAnyT_take (i := 4) (v := (.int .i64 R1)) rfl (by kernel_rfl) (fun _ _ _ h => h) (Or.inl ⟨by rfl, ?_⟩) cz ?_
      · intro w hSw; obtain ⟨s0, s1⟩ := hSw; go_simp
      try simp only [List.getElem_toArray, List.getElem_cons_zero, List.getElem_cons_succ, Act.put, List.setIfInBounds_toArray, List.set_cons_zero, List.set_cons_succ]
      refine wpAnyT_free (i := 5) (v := (.pointer (some ⟨p, 0, none⟩))) rfl (by kernel_rfl) (fun _ _ _ h => h) (Or.inl ⟨by rfl, ?_⟩) (fun _ => cz) ?_
      · intro w _; go_simp
      try simp only [List.getElem_toArray, List.getElem_cons_zero, List.getElem_cons_succ, Act.put, List.setIfInBounds_toArray, List.set_cons_zero, List.set_cons_succ]
      refine wpAnyT_free (i := 6) (v := (.pointer (some ⟨p, 0, none⟩))) rfl (by kernel_rfl) (fun _ _ _ h => h) (Or.inl ⟨by rfl, ?_⟩) (fun _ => cz) ?_
      · intro w _; go_simp
      try simp only [List.getElem_toArray, List.getElem_cons_zero, List.getElem_cons_succ, Act.put, List.setIfInBounds_toArray, List.set_cons_zero, List.set_cons_succ]
      refine wpAnyT_free (i := 7) (v := (.pointer (some ⟨p, 0, none⟩))) rfl (by kernel_rfl) (fun _ _ _ h => h) (Or.inl ⟨by rfl, ?_⟩) (fun _ => cz) ?_
      · intro w _; go_simp
      try simp only [List.getElem_toArray, List.getElem_cons_zero, List.getElem_cons_succ, Act.put, List.setIfInBounds_toArray, List.set_cons_zero, List.set_cons_succ]
      refine wpAnyT_take (i := 8) (v := (.int .i64 B)) rfl (by kernel_rfl) (fun _ _ _ h => h) (Or.inl ⟨by rfl, ?_⟩) cz ?_
      · intro w hSw; obtain ⟨s0, s1⟩ := hSw; go_simp
      try simp only [List.getElem_toArray, List.getElem_cons_zero, List.getElem_cons_succ, Act.put, List.setIfInBounds_toArray, List.set_cons_zero, List.set_cons_succ]
      refine wpAnyT_free (i := 9) (v := (.bool false)) rfl (by kernel_rfl) (fun _ _ _ h => h) (Or.inl ⟨by rfl, ?_⟩) (fun _ => cz) ?_
      · intro w _; go_simp
      try simp only [List.getElem_toArray, List.getElem_cons_zero, List.getElem_cons_succ, Act.put, List.setIfInBounds_toArray, List.set_cons_zero, List.set_cons_succ]
      refine wpAnyT_free (i := 10) (v := (.bool false)) rfl (by kernel_rfl) (fun _ _ _ h => h) (Or.inl ⟨by rfl, ?_⟩) (fun _ => cz) ?_
      · intro w _; go_simp
      try simp only [List.getElem_toArray, List.getElem_cons_zero, List.getElem_cons_succ, Act.put, List.setIfInBounds_toArray, List.set_cons_zero, List.set_cons_succ]
      refine wpAnyT_free (i := 11) (v := undef) rfl (by kernel_rfl) (fun _ _ _ h => h) (Or.inr ⟨by rfl, rfl⟩) (fun _ => cz) ?_
      try simp only [List.getElem_toArray, List.getElem_cons_zero, List.getElem_cons_succ, Act.put, List.setIfInBounds_toArray, List.set_cons_zero, List.set_cons_succ]
      refine wpAnyT_free (i := 12) (v := undef) rfl (by kernel_rfl) (fun _ _ _ h => h) (Or.inr ⟨by rfl, rfl⟩) (fun _ => cz) ?_
      try simp only [List.getElem_toArray, List.getElem_cons_zero, List.getElem_cons_succ, Act.put, List.setIfInBounds_toArray, List.set_cons_zero, List.set_cons_succ]
      refine wpAnyT_free (i := 13) (v := undef) rfl (by kernel_rfl) (fun _ _ _ h => h) (Or.inr ⟨by rfl, rfl⟩) (fun _ => cz) ?_
      try simp only [List.getElem_toArray, List.getElem_cons_zero, List.getElem_cons_succ, Act.put, List.setIfInBounds_toArray, List.set_cons_zero, List.set_cons_succ]
      refine wpAnyT_free (i := 14) (v := undef) rfl (by kernel_rfl) (fun _ _ _ h => h) (Or.inr ⟨by rfl, rfl⟩) (fun _ => cz) ?_
      try simp only [List.getElem_toArray, List.getElem_cons_zero, List.getElem_cons_succ, Act.put, List.setIfInBounds_toArray, List.set_cons_zero, List.set_cons_succ]
      refine wpAnyT_free (i := 15) (v := undef) rfl (by kernel_rfl) (fun _ _ _ h => h) (Or.inr ⟨by rfl, rfl⟩) (fun _ => cz) ?_
      try simp only [List.getElem_toArray, List.getElem_cons_zero, List.getElem_cons_succ, Act.put, List.setIfInBounds_toArray, List.set_cons_zero, List.set_cons_succ]
      refine wpAnyT_free (i := 16) (v := undef) rfl (by kernel_rfl) (fun _ _ _ h => h) (Or.inr ⟨by rfl, rfl⟩) (fun _ => cz) ?_
      try simp only [List.getElem_toArray, List.getElem_cons_zero, List.getElem_cons_succ, Act.put, List.setIfInBounds_toArray, List.set_cons_zero, List.set_cons_succ]
      refine wpAnyT_free (i := 17) (v := undef) rfl (by kernel_rfl) (fun _ _ _ h => h) (Or.inr ⟨by rfl, rfl⟩) (fun _ => cz) ?_
      try simp only [List.getElem_toArray, List.getElem_cons_zero, List.getElem_cons_succ, Act.put, List.setIfInBounds_toArray, List.set_cons_zero, List.set_cons_succ]
      refine wpAnyT_free (i := 18) (v := undef) rfl (by kernel_rfl) (fun _ _ _ h => h) (Or.inr ⟨by rfl, rfl⟩) (fun _ => cz) ?_
      try simp only [List.getElem_toArray, List.getElem_cons_zero, List.getElem_cons_succ, Act.put, List.setIfInBounds_toArray, List.set_cons_zero, List.set_cons_succ]
      refine wpAnyT_free (i := 19) (v := undef) rfl (by kernel_rfl) (fun _ _ _ h => h) (Or.inr ⟨by rfl, rfl⟩) (fun _ => cz) ?_
      try simp only [List.getElem_toArray, List.getElem_cons_zero, List.getElem_cons_succ, Act.put, List.setIfInBounds_toArray, List.set_cons_zero, List.set_cons_succ]
      refine wpAnyT_free (i := 20) (v := (.bool false)) rfl (by kernel_rfl) (fun _ _ _ h => h) (Or.inl ⟨by rfl, ?_⟩) (fun _ => cz) ?_
      · intro w _; go_simp
      try simp only [List.getElem_toArray, List.getElem_cons_zero, List.getElem_cons_succ, Act.put, List.setIfInBounds_toArray, List.set_cons_zero, List.set_cons_succ]
      refine wpAnyT_free (i := 21) (v := (.pointer (some ⟨p, 0, none⟩))) rfl (by kernel_rfl) (fun _ _ _ h => h) (Or.inl ⟨by rfl, ?_⟩) (fun _ => cz) ?_
      · intro w _; go_simp
      try simp only [List.getElem_toArray, List.getElem_cons_zero, List.getElem_cons_succ, Act.put, List.setIfInBounds_toArray, List.set_cons_zero, List.set_cons_succ]
      refine wpAnyT_free (i := 22) (v := (.pointer (some ⟨p, 5, none⟩))) rfl (by kernel_rfl) (fun _ _ _ h => h) (Or.inl ⟨by rfl, ?_⟩) (fun _ => cz) ?_
      · intro w _; go_simp
      try simp only [List.getElem_toArray, List.getElem_cons_zero, List.getElem_cons_succ, Act.put, List.setIfInBounds_toArray, List.set_cons_zero, List.set_cons_succ]
      refine wpAnyT_ready (rs := [23]) (by kernel_rfl) (by simp) ?_
      refine AllT.cons rfl (fun K hK => ?_) AllT.nil
      go_simp
      refine hK _ _ (fun h => absurd (h.symm.trans (by kernel_rfl)) Bool.false_ne_true) ?_
      clear hK K
      try simp only [List.getElem_toArray, List.getElem_cons_zero, List.getElem_cons_succ, Act.put, List.setIfInBounds_toArray, List.set_cons_zero, List.set_cons_succ]
      refine wpAnyT_done (by kernel_rfl) ?_ _
      go_wp2
      go_ret
      exact ⟨rfl, J2.out.1, Y.out.1 ▸ J2.out.2, Y.out.2⟩
  · by_cases h1s : x.st = 1
    · obtain ⟨r1, _⟩ := hx.cln h1s
      obtain rfl : true = r := by rw [← hr, h1s]; rfl
      rw [abB_1 h1s] at h
      rw [h1s] at C1
      obtain ⟨K1, hK1⟩ : ∃ K1 : Int, K + 1 = K1 := ⟨_, rfl⟩
      have e1 : wrap64 (K + 1) = K1 := by unfold wrap64; omega
      have hyc : sixB B A C R K1 true = sixB y.b y.a y.c y.ran y.cl y.abB := by
        have hs : y.b = x.b ∧ y.a = x.a ∧ y.c = x.c ∧ y.ran = x.ran ∧ y.cl = x.cl + 1 ∧ y.abB = true := by
          rw [← hy]; unfold Lf.run Lf.abB; rw [if_neg h0, if_pos h1s]
          split
          · simp
          · simp [h1s]
        obtain ⟨s1, s2, s3, s4, s5, s6⟩ := hs
        have : ((x.cl + 1 : Nat) : Int) = K1 := by omega
        rw [s1, s2, s3, s4, s5, s6, hB, hA, hC, hR, this]
      have Y := Lib.hid (And.intro hyc hyk)
      have G := Lib.hid (fun n : Nat => And.intro (((Step.refl o σ w).drewN n).setCell (p := ⟨p, 4, none⟩) (.inr hm) (.int .i64 K1)) (And.intro (sixB_set4 (h.drewN n) K1) (And.intro (sixB_cells (h.drewN n)).2.2.2.2.1 ((h.drewN n).frozen 4))))
      clear h hx h0 r1 b1 b2 b3 b4 hB hA hC hR hK hK1 hy hyk hyc H hr h1s hm
      go_enter Try.func10, Try.ntmps10
      go_wp2_with fail
      refine C1.out.mono ?_
      rintro e w1 ⟨rfl, n, rfl⟩
      have G1 := Lib.hid (G.out n)
      obtain ⟨c3, f3⟩ := G1.out.2.2
      clear G C1
      generalize w.drewN n = w1 at *
      go_wp2
      go_ret
      exact ⟨rfl, G1.out.1, Y.out.1 ▸ G1.out.2.1, Y.out.2⟩
    · obtain rfl : x = y := by rw [← hy]; unfold Lf.run; rw [if_neg h0, if_neg h1s]
      obtain rfl : false = r := by rw [← hr]; exact (decide_eq_false (by omega)).symm
      obtain ⟨S, hS⟩ : ∃ S : Int, (x.st : Int) = S := ⟨_, rfl⟩
      rw [hS] at C1
      have k1 : (S == 0) = false := by simp; omega
      have k2 : (S == 1) = false := by simp; omega
      clear h hm hB hA hC hR hK hr h0 h1s hx b1 b2 b3 b4 hS hyk hy
      go_enter Try.func10, Try.ntmps10
      go_wp2_with fail
      refine C1.out.mono ?_
      rintro e w1 ⟨rfl, n, rfl⟩
      go_wp2
      go_ret
      exact ⟨rfl, (Step.refl o σ w).drewN n, H.out.drewN n⟩
end
end Go.Proofs.Ytipnnjhbhkohnaa
