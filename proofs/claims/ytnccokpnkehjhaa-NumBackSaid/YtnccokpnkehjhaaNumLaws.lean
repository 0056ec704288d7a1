/- The walks of layer 1's laws over integers: each returns true at every argument. -/
import Derived.Test.YtnccokpnkehjhaaNum4
import Derived.Test.YtnccokpnkehjhaaRows
import Derived.RowKit3
namespace Go.Proofs.Ytnccokpnkehjhaa
open Go.RowKit
set_option linter.unusedVariables false
set_option linter.unusedSimpArgs false

theorem down_self {a b : Int} (hb : 1 ≤ b) : a * b / b = a := Int.mul_ediv_cancel _ (by omega)
theorem up_self {a b : Int} (hb : 1 ≤ b) : upZ (a * b) b = a := by
  unfold upZ; rw [← Int.neg_mul, Int.mul_ediv_cancel _ (by omega), Int.neg_neg]

set_option maxHeartbeats 1000000 in
set_option maxRecDepth 100000 in
theorem NumZero_ret (a b : Int) (ha : fitB a = true) (hb : fitB b = true) (w : World) :
    Calls Try.prog 8 #[.int .i64 a, .int .i64 b] w (Ret (.bool true) w) := by
  have C1 := Lib.hid (add_named a 0 a true · ha (by decide) (by rw [Int.add_zero, cutZ_true ha]) (by rw [Int.add_zero, ha]))
  have C2 := Lib.hid (sub_named a 0 a true · ha (by decide) (by rw [Int.sub_zero, cutZ_true ha]) (by rw [Int.sub_zero, ha]))
  have C3 := Lib.hid (mul_named a 1 a true · ha (by decide) (by rw [Int.mul_one, cutZ_true ha]) (by rw [Int.mul_one, ha]))
  have C4 := Lib.hid (mul_named 0 a 0 true · (by decide) ha (by rw [Int.zero_mul]; rfl) (by rw [Int.zero_mul]; rfl))
  by_cases h : b < 1
  · have k : ¬ 1 ≤ b := by omega
    have k1 : shareOk (a * b) b = false := by rw [shareOk, decide_eq_false k, Bool.false_and]
    have k2 : upOk (a * b) b = false := by rw [upOk, decide_eq_false k, Bool.false_and]
    have C5 := Lib.hid (share_any a b b 0 false · ha hb hb (by rw [shareV, k1]; rfl) k1)
    have C6 := Lib.hid (up_any a b b 0 false · ha hb hb (by rw [upV, k2]; rfl) k2)
    clear k1 k2 k ha hb
    go_enter Try.func8, Try.ntmps8
    go_wp2_with fail
    refine (awake1 _).mono ?_; rintro e w' ⟨rfl, n0, rfl⟩
    go_wp2_with fail
    refine (C1.out _).mono ?_; rintro e w' ⟨rfl, n1, rfl⟩
    go_wp2_with fail
    refine (C2.out _).mono ?_; rintro e w' ⟨rfl, n2, rfl⟩
    go_wp2_with fail
    refine (C3.out _).mono ?_; rintro e w' ⟨rfl, n3, rfl⟩
    go_wp2_with fail
    refine (C4.out _).mono ?_; rintro e w' ⟨rfl, n4, rfl⟩
    go_wp2_with fail
    refine (C5.out _).mono ?_; rintro e w' ⟨rfl, n5, rfl⟩
    go_wp2_with fail
    refine (C6.out _).mono ?_; rintro e w' ⟨rfl, n6, rfl⟩
    go_wp2
    go_ret
    exact ⟨rfl, _, rfl⟩
  · have k : 1 ≤ b := by omega
    have k1 := share_cut (x := a * b) k
    have k2 := up_cut (x := a * b) k
    rw [down_self k] at k1
    rw [up_self k] at k2
    have C5 := Lib.hid (share_any a b b a true · ha hb hb (by rw [k1.1, cutZ_true ha]) (by rw [k1.2, ha]))
    have C6 := Lib.hid (up_any a b b a true · ha hb hb (by rw [k2.1, cutZ_true ha]) (by rw [k2.2, ha]))
    clear k1 k2 ha hb
    go_enter Try.func8, Try.ntmps8
    go_wp2_with fail
    refine (awake1 _).mono ?_; rintro e w' ⟨rfl, n0, rfl⟩
    go_wp2_with fail
    refine (C1.out _).mono ?_; rintro e w' ⟨rfl, n1, rfl⟩
    go_wp2_with fail
    refine (C2.out _).mono ?_; rintro e w' ⟨rfl, n2, rfl⟩
    go_wp2_with fail
    refine (C3.out _).mono ?_; rintro e w' ⟨rfl, n3, rfl⟩
    go_wp2_with fail
    refine (C4.out _).mono ?_; rintro e w' ⟨rfl, n4, rfl⟩
    go_wp2_with fail
    refine (C5.out _).mono ?_; rintro e w' ⟨rfl, n5, rfl⟩
    go_wp2_with fail
    refine (C6.out _).mono ?_; rintro e w' ⟨rfl, n6, rfl⟩
    go_wp2
    go_ret
    exact ⟨rfl, _, rfl⟩

set_option maxHeartbeats 1000000 in
set_option maxRecDepth 100000 in
theorem NumTurned_ret (a b c : Int) (ha : fitB a = true) (hb : fitB b = true) (hc : fitB c = true) (w : World) :
    Calls Try.prog 9 #[.int .i64 a, .int .i64 b, .int .i64 c] w (Ret (.bool true) w) := by
  obtain ⟨v1, hv1⟩ : ∃ v, cutZ (a + b) = v := ⟨_, rfl⟩
  obtain ⟨o1, ho1⟩ : ∃ v, fitB (a + b) = v := ⟨_, rfl⟩
  obtain ⟨v2, hv2⟩ : ∃ v, cutZ (a * b) = v := ⟨_, rfl⟩
  obtain ⟨o2, ho2⟩ : ∃ v, fitB (a * b) = v := ⟨_, rfl⟩
  obtain ⟨v3, hv3⟩ : ∃ v, shareV (a * b) c = v := ⟨_, rfl⟩
  obtain ⟨o3, ho3⟩ : ∃ v, shareOk (a * b) c = v := ⟨_, rfl⟩
  obtain ⟨g, hg⟩ : ∃ v, gcdZ a b = v := ⟨_, rfl⟩
  have C1 := Lib.hid (add_named a b v1 o1 · ha hb hv1 ho1)
  have C2 := Lib.hid (add_named b a v1 o1 · hb ha (Int.add_comm a b ▸ hv1) (Int.add_comm a b ▸ ho1))
  have C3 := Lib.hid (mul_named a b v2 o2 · ha hb hv2 ho2)
  have C4 := Lib.hid (mul_named b a v2 o2 · hb ha (Int.mul_comm a b ▸ hv2) (Int.mul_comm a b ▸ ho2))
  have C5 := Lib.hid (share_any a b c v3 o3 · ha hb hc hv3 ho3)
  have C6 := Lib.hid (share_any b a c v3 o3 · hb ha hc (Int.mul_comm a b ▸ hv3) (Int.mul_comm a b ▸ ho3))
  have C7 := Lib.hid (gcd_any a b g · ha hb hg)
  have C8 := Lib.hid (gcd_any b a g · hb ha (gcdZ_comm a b ▸ hg))
  clear hv1 ho1 hv2 ho2 hv3 ho3 hg ha hb hc
  go_enter Try.func9, Try.ntmps9
  go_wp2_with fail
  refine (awake1 _).mono ?_; rintro e w' ⟨rfl, n1, rfl⟩
  go_wp2_with fail
  refine (C1.out _).mono ?_; rintro e w' ⟨rfl, n2, rfl⟩
  go_wp2_with fail
  refine (C2.out _).mono ?_; rintro e w' ⟨rfl, n3, rfl⟩
  go_wp2_with fail
  refine (C3.out _).mono ?_; rintro e w' ⟨rfl, n4, rfl⟩
  go_wp2_with fail
  refine (C4.out _).mono ?_; rintro e w' ⟨rfl, n5, rfl⟩
  go_wp2_with fail
  refine (C5.out _).mono ?_; rintro e w' ⟨rfl, n6, rfl⟩
  go_wp2_with fail
  refine (C6.out _).mono ?_; rintro e w' ⟨rfl, n7, rfl⟩
  go_wp2_with fail
  refine (C7.out _).mono ?_; rintro e w' ⟨rfl, n8, rfl⟩
  go_wp2_with fail
  refine (C8.out _).mono ?_; rintro e w' ⟨rfl, n9, rfl⟩
  go_wp2
  go_ret
  exact ⟨rfl, _, rfl⟩

set_option maxHeartbeats 1000000 in
set_option maxRecDepth 100000 in
theorem NumOrder_ret (a b c d : Int) (ha : fitB a = true) (hb : fitB b = true) (hc : fitB c = true) (hd : fitB d = true) (w : World) :
    Calls Try.prog 7 #[.int .i64 a, .int .i64 b, .int .i64 c, .int .i64 d] w (Ret (.bool true) w) := by
  obtain ⟨x, hx⟩ : ∃ v, cmpZ (a * b) (c * d) = v := ⟨_, rfl⟩
  obtain ⟨y, hy⟩ : ∃ v, cmpZ a c = v := ⟨_, rfl⟩
  have x1 : -1 ≤ x ∧ x ≤ 1 := by rcases cmpZ_cases (a * b) (c * d) with ⟨_, e⟩ | ⟨_, e⟩ | ⟨_, e⟩ <;> omega
  have C1 := Lib.hid (cmpMul_any a b c d x · ha hb hc hd hx)
  have C2 := Lib.hid (cmpMul_any c d a b (-x) · hc hd ha hb (by rw [cmpZ_swap, hx]))
  have C3 := Lib.hid (cmpMul_any b a d c x · hb ha hd hc (by rw [Int.mul_comm b a, Int.mul_comm d c, hx]))
  have C4 := Lib.hid (cmpMul_any a b a b 0 · ha hb ha hb (cmpZ_eq rfl))
  have C5 := Lib.hid (cmpMul_any a 1 c 1 y · ha (by decide) hc (by decide) (by rw [Int.mul_one, Int.mul_one, hy]))
  have C6 : Hid (∀ w, Calls Try.prog 28 #[.int .i64 a, .int .i64 c] w (Ret (.int .i64 y) w)) := by
    refine Lib.hid fun w => ?_
    rcases cmpZ_cases a c with ⟨h, e⟩ | ⟨h, e⟩ | ⟨h, e⟩ <;> rw [hy] at e <;> subst e <;> clear hy C1 C2 C3 C4 C5
    · go_enter Try.func28, Try.ntmps28
      go_wp2
      go_ret
      exact ⟨rfl, 0, rfl⟩
    · have h' : ¬ a < c := by omega
      go_enter Try.func28, Try.ntmps28
      go_wp2
      go_ret
      exact ⟨rfl, 0, rfl⟩
    · subst h
      go_enter Try.func28, Try.ntmps28
      go_wp2
      go_ret
      exact ⟨rfl, 0, rfl⟩
  clear hx hy ha hb hc hd
  obtain ⟨x0, x1⟩ := x1
  go_enter Try.func7, Try.ntmps7
  go_wp2_with fail
  refine (awake1 _).mono ?_; rintro e w' ⟨rfl, n10, rfl⟩
  go_wp2_with fail
  refine (C1.out _).mono ?_; rintro e w' ⟨rfl, n11, rfl⟩
  go_wp2_with fail
  refine (C2.out _).mono ?_; rintro e w' ⟨rfl, n12, rfl⟩
  go_wp2_with fail
  refine (C3.out _).mono ?_; rintro e w' ⟨rfl, n13, rfl⟩
  go_wp2_with fail
  refine (C4.out _).mono ?_; rintro e w' ⟨rfl, n14, rfl⟩
  go_wp2_with fail
  refine (C5.out _).mono ?_; rintro e w' ⟨rfl, n15, rfl⟩
  go_wp2_with fail
  refine (C6.out _).mono ?_; rintro e w' ⟨rfl, n16, rfl⟩
  go_wp2
  go_ret
  exact ⟨rfl, _, rfl⟩

theorem down_mul_le {x c : Int} (h : 1 ≤ c) : x / c * c ≤ x := Int.ediv_mul_le x (by omega)
theorem le_up_mul {x c : Int} (h : 1 ≤ c) : x ≤ upZ x c * c := by
  unfold upZ; have := Int.ediv_mul_le (-x) (b := c) (by omega); rw [Int.neg_mul]; omega
theorem down_up {x c : Int} (h : 1 ≤ c) : x / c ≤ upZ x c ∧ upZ x c ≤ x / c + 1 := by
  have h1 := down_mul_le (x := x) h
  have h2 := le_up_mul (x := x) h
  constructor
  · exact Int.le_of_mul_le_mul_right (Int.le_trans h1 h2) (by omega)
  · have h3 : x < (x / c + 1) * c := Int.lt_ediv_add_one_mul_self x (by omega)
    have h4 : (-x) / c = -((-x) / c * -1) := by omega
    have h5 : -x < ((-x) / c + 1) * c := Int.lt_ediv_add_one_mul_self (-x) (by omega)
    have h6 : (upZ x c - 1) * c < x := by unfold upZ; rw [Int.sub_mul, Int.neg_mul, Int.one_mul]; rw [Int.add_mul, Int.one_mul] at h5; omega
    have h7 : (upZ x c - 1) * c < (x / c + 1) * c := by omega
    have := Int.lt_of_mul_lt_mul_right h7 (by omega)
    omega

set_option maxHeartbeats 2000000 in
set_option maxRecDepth 100000 in
theorem NumBack_ret (a b c : Int) (ha : fitB a = true) (hb : fitB b = true) (hc : fitB c = true) (w : World) :
    Calls Try.prog 6 #[.int .i64 a, .int .i64 b, .int .i64 c] w (Ret (.bool true) w) := by
  obtain ⟨s, hs⟩ : ∃ v, cutZ (a + b) = v := ⟨_, rfl⟩
  obtain ⟨o, ho⟩ : ∃ v, fitB (a + b) = v := ⟨_, rfl⟩
  obtain ⟨x, hx⟩ : ∃ v, shareV (a * b) c = v := ⟨_, rfl⟩
  obtain ⟨p, hp⟩ : ∃ v, shareOk (a * b) c = v := ⟨_, rfl⟩
  obtain ⟨y, hy⟩ : ∃ v, upV (a * b) c = v := ⟨_, rfl⟩
  obtain ⟨q, hq⟩ : ∃ v, upOk (a * b) c = v := ⟨_, rfl⟩
  have C1 := Lib.hid (add_named a b s o · ha hb hs ho)
  have C3 := Lib.hid (share_any a b c x p · ha hb hc hx hp)
  have C4 := Lib.hid (up_any a b c y q · ha hb hc hy hq)
  have C2 : o = true → Hid (∀ w, Calls Try.prog 13 #[.int .i64 s, .int .i64 b] w (Ret (.tuple #[.int .i64 a, .bool true]) w)) := by
    rintro rfl
    obtain rfl : s = a + b := by rw [← hs, cutZ_true ho]
    have e : a + b - b = a := by omega
    exact Lib.hid (sub_named (a + b) b a true · ho hb (by rw [e, cutZ_true ha]) (by rw [e, ha]))
  have F : p = true → q = true → ∃ r1 r2 : Int, 0 ≤ r1 ∧ r2 ≤ 0 ∧ x ≤ y ∧ y - x ≤ 1 ∧ (-9223372036854775808 ≤ x ∧ y ≤ 9223372036854775807) ∧
      Hid (∀ w, Calls Try.prog 18 #[.int .i64 a, .int .i64 b, .int .i64 x, .int .i64 c] w (Ret (.int .i64 r1) w)) ∧
      Hid (∀ w, Calls Try.prog 18 #[.int .i64 a, .int .i64 b, .int .i64 y, .int .i64 c] w (Ret (.int .i64 r2) w)) := by
    rintro rfl rfl
    have c1 : 1 ≤ c := by
      by_cases k : 1 ≤ c
      · exact k
      · rw [shareOk, decide_eq_false k, Bool.false_and] at hp; cases hp
    rw [(share_cut c1).1] at hx
    rw [(share_cut c1).2] at hp
    rw [(up_cut c1).1] at hy
    rw [(up_cut c1).2] at hq
    rw [cutZ_true hp] at hx
    rw [cutZ_true hq] at hy
    have h1 := down_mul_le (x := a * b) c1
    have h2 := le_up_mul (x := a * b) c1
    have h3 := down_up (x := a * b) c1
    rw [hx] at h1 h3 hp
    rw [hy] at h2 h3 hq
    refine ⟨cmpZ (a * b) (x * c), cmpZ (a * b) (y * c), ?_, ?_, h3.1, by omega, ⟨(fit_iff hp).1, (fit_iff hq).2⟩, Lib.hid (cmpMul_any a b x c _ · ha hb hp hc rfl), Lib.hid (cmpMul_any a b y c _ · ha hb hq hc rfl)⟩
    · rcases cmpZ_cases (a * b) (x * c) with ⟨k, e⟩ | ⟨k, e⟩ | ⟨k, e⟩ <;> omega
    · rcases cmpZ_cases (a * b) (y * c) with ⟨k, e⟩ | ⟨k, e⟩ | ⟨k, e⟩ <;> omega
  clear hs ho hx hp hy hq ha hb hc
  cases p
  · clear F
    cases o
    · clear C2
      go_enter Try.func6, Try.ntmps6
      go_wp2_with fail
      refine (awake1 _).mono ?_; rintro e w' ⟨rfl, n17, rfl⟩
      go_wp2_with fail
      refine (C1.out _).mono ?_; rintro e w' ⟨rfl, n18, rfl⟩
      go_wp2_with fail
      refine (C3.out _).mono ?_; rintro e w' ⟨rfl, n19, rfl⟩
      go_wp2_with fail
      refine (C4.out _).mono ?_; rintro e w' ⟨rfl, n20, rfl⟩
      go_wp2
      go_ret
      exact ⟨rfl, _, rfl⟩
    · replace C2 := C2 rfl
      go_enter Try.func6, Try.ntmps6
      go_wp2_with fail
      refine (awake1 _).mono ?_; rintro e w' ⟨rfl, n21, rfl⟩
      go_wp2_with fail
      refine (C1.out _).mono ?_; rintro e w' ⟨rfl, n22, rfl⟩
      go_wp2_with fail
      refine (C2.out _).mono ?_; rintro e w' ⟨rfl, n23, rfl⟩
      go_wp2_with fail
      refine (C3.out _).mono ?_; rintro e w' ⟨rfl, n24, rfl⟩
      go_wp2_with fail
      refine (C4.out _).mono ?_; rintro e w' ⟨rfl, n25, rfl⟩
      go_wp2
      go_ret
      exact ⟨rfl, _, rfl⟩
  · cases q
    · clear F
      cases o
      · clear C2
        go_enter Try.func6, Try.ntmps6
        go_wp2_with fail
        refine (awake1 _).mono ?_; rintro e w' ⟨rfl, n26, rfl⟩
        go_wp2_with fail
        refine (C1.out _).mono ?_; rintro e w' ⟨rfl, n27, rfl⟩
        go_wp2_with fail
        refine (C3.out _).mono ?_; rintro e w' ⟨rfl, n28, rfl⟩
        go_wp2_with fail
        refine (C4.out _).mono ?_; rintro e w' ⟨rfl, n29, rfl⟩
        go_wp2
        go_ret
        exact ⟨rfl, _, rfl⟩
      · replace C2 := C2 rfl
        go_enter Try.func6, Try.ntmps6
        go_wp2_with fail
        refine (awake1 _).mono ?_; rintro e w' ⟨rfl, n30, rfl⟩
        go_wp2_with fail
        refine (C1.out _).mono ?_; rintro e w' ⟨rfl, n31, rfl⟩
        go_wp2_with fail
        refine (C2.out _).mono ?_; rintro e w' ⟨rfl, n32, rfl⟩
        go_wp2_with fail
        refine (C3.out _).mono ?_; rintro e w' ⟨rfl, n33, rfl⟩
        go_wp2_with fail
        refine (C4.out _).mono ?_; rintro e w' ⟨rfl, n34, rfl⟩
        go_wp2
        go_ret
        exact ⟨rfl, _, rfl⟩
    · obtain ⟨r1, r2, k1, k2, k3, k4, ⟨k5, k6⟩, C5, C6⟩ := F rfl rfl
      have j1 : decide (x ≤ y) = true := decide_eq_true k3
      have j2 : decide (y - x ≤ 1) = true := decide_eq_true k4
      have j3 : decide (0 ≤ r1) = true := decide_eq_true k1
      have j4 : decide (r2 ≤ 0) = true := decide_eq_true k2
      cases o
      · clear C2
        go_enter Try.func6, Try.ntmps6
        go_wp2_with fail
        refine (awake1 _).mono ?_; rintro e w' ⟨rfl, n35, rfl⟩
        go_wp2_with fail
        refine (C1.out _).mono ?_; rintro e w' ⟨rfl, n36, rfl⟩
        go_wp2_with fail
        refine (C3.out _).mono ?_; rintro e w' ⟨rfl, n37, rfl⟩
        go_wp2_with fail
        refine (C4.out _).mono ?_; rintro e w' ⟨rfl, n38, rfl⟩
        go_wp2_with fail
        refine (C5.out _).mono ?_; rintro e w' ⟨rfl, n39, rfl⟩
        go_wp2_with fail
        refine (C6.out _).mono ?_; rintro e w' ⟨rfl, n40, rfl⟩
        go_wp2
        go_ret
        exact ⟨rfl, _, rfl⟩
      · replace C2 := C2 rfl
        go_enter Try.func6, Try.ntmps6
        go_wp2_with fail
        refine (awake1 _).mono ?_; rintro e w' ⟨rfl, n41, rfl⟩
        go_wp2_with fail
        refine (C1.out _).mono ?_; rintro e w' ⟨rfl, n42, rfl⟩
        go_wp2_with fail
        refine (C2.out _).mono ?_; rintro e w' ⟨rfl, n43, rfl⟩
        go_wp2_with fail
        refine (C3.out _).mono ?_; rintro e w' ⟨rfl, n44, rfl⟩
        go_wp2_with fail
        refine (C4.out _).mono ?_; rintro e w' ⟨rfl, n45, rfl⟩
        go_wp2_with fail
        refine (C5.out _).mono ?_; rintro e w' ⟨rfl, n46, rfl⟩
        go_wp2_with fail
        refine (C6.out _).mono ?_; rintro e w' ⟨rfl, n47, rfl⟩
        go_wp2
        go_ret
        exact ⟨rfl, _, rfl⟩

/-- What a walk needs of a remainder that is nought, or is not. -/
theorem rem_zero {a d : Int} (h : d ∣ a) : a.tmod d = 0 ∧ a % d = 0 := ⟨Int.tmod_eq_zero_of_dvd h, Int.emod_eq_zero_of_dvd h⟩
theorem rem_not {a d : Int} (h : ¬ d ∣ a) : (a.tmod d == 0) = false ∧ (a % d == 0) = false ∧ (a.tmod d != 0) = true ∧ (a % d != 0) = true := by
  have h1 : ¬ a.tmod d = 0 := fun k => h (Int.dvd_of_tmod_eq_zero k)
  have h2 : ¬ a % d = 0 := fun k => h (Int.dvd_of_emod_eq_zero k)
  refine ⟨beq_eq_false_iff_ne.2 h1, beq_eq_false_iff_ne.2 h2, bne_iff_ne.2 h1, bne_iff_ne.2 h2⟩

set_option maxHeartbeats 2000000 in
set_option maxRecDepth 100000 in
theorem NumDivides_ret (a b d : Int) (ha : fitB a = true) (hb : fitB b = true) (hd : fitB d = true) (w : World) :
    Calls Try.prog 10 #[.int .i64 a, .int .i64 b, .int .i64 d] w (Ret (.bool true) w) := by
  obtain ⟨d0, d1⟩ := fit_iff hd
  obtain ⟨a0, a1⟩ := fit_iff ha
  obtain ⟨b0, b1⟩ := fit_iff hb
  by_cases l1 : a < -1000000000
  · clear ha hb hd
    go_enter Try.func10, Try.ntmps10
    go_wp2_with fail
    refine (awake1 _).mono ?_; rintro e w' ⟨rfl, n48, rfl⟩
    go_wp2
    go_ret
    exact ⟨rfl, _, rfl⟩
  by_cases l2 : 1000000000 < a
  · clear ha hb hd
    have l1' : decide (a < -1000000000) = false := decide_eq_false l1
    go_enter Try.func10, Try.ntmps10
    go_wp2_with fail
    refine (awake1 _).mono ?_; rintro e w' ⟨rfl, n49, rfl⟩
    go_wp2
    go_ret
    exact ⟨rfl, _, rfl⟩
  have l1' : decide (a < -1000000000) = false := decide_eq_false l1
  have l2' : decide (1000000000 < a) = false := decide_eq_false l2
  by_cases l3 : b < -1000000000
  · clear ha hb hd
    go_enter Try.func10, Try.ntmps10
    go_wp2_with fail
    refine (awake1 _).mono ?_; rintro e w' ⟨rfl, n50, rfl⟩
    go_wp2
    go_ret
    exact ⟨rfl, _, rfl⟩
  have l3' : decide (b < -1000000000) = false := decide_eq_false l3
  by_cases l4 : 1000000000 < b
  · clear ha hb hd
    go_enter Try.func10, Try.ntmps10
    go_wp2_with fail
    refine (awake1 _).mono ?_; rintro e w' ⟨rfl, n51, rfl⟩
    go_wp2
    go_ret
    exact ⟨rfl, _, rfl⟩
  have l4' : decide (1000000000 < b) = false := decide_eq_false l4
  obtain ⟨g, hg⟩ : ∃ v, gcdZ a b = v := ⟨_, rfl⟩
  have C := Lib.hid (gcd_any a b g · ha hb hg)
  have hg2 : g = (Nat.gcd a.natAbs b.natAbs : Nat) := by rw [← hg, gcdZ, if_neg (by omega)]
  clear ha hb hd hg
  by_cases z : a = 0 ∧ b = 0
  · obtain ⟨rfl, rfl⟩ := z
    obtain rfl : g = 0 := by rw [hg2]; rfl
    clear hg2
    go_enter Try.func10, Try.ntmps10
    go_wp2_with fail
    refine (awake1 _).mono ?_; rintro e w' ⟨rfl, n52, rfl⟩
    go_wp2_with fail
    refine (C.out _).mono ?_; rintro e w' ⟨rfl, n53, rfl⟩
    go_wp2
    go_ret
    exact ⟨rfl, _, rfl⟩
  · have g1 : 1 ≤ g := by
      have : 0 < Nat.gcd a.natAbs b.natAbs := Nat.gcd_pos_iff.2 (by omega)
      omega
    have ga : g ∣ a := by rw [hg2]; exact Int.ofNat_dvd_left.2 (Nat.gcd_dvd_left _ _)
    have gb : g ∣ b := by rw [hg2]; exact Int.ofNat_dvd_left.2 (Nat.gcd_dvd_right _ _)
    have gl : g ≤ 1000000000 := by
      by_cases za : a = 0
      · have : Nat.gcd a.natAbs b.natAbs ≤ b.natAbs := Nat.le_of_dvd (by omega) (Nat.gcd_dvd_right _ _)
        omega
      · have : Nat.gcd a.natAbs b.natAbs ≤ a.natAbs := Nat.le_of_dvd (by omega) (Nat.gcd_dvd_left _ _)
        omega
    have gd : d ∣ a → d ∣ b → d ∣ g := by
      intro h1 h2
      have := Nat.dvd_gcd (Int.natAbs_dvd_natAbs.2 h1) (Int.natAbs_dvd_natAbs.2 h2)
      rw [hg2]; exact Int.natAbs_dvd.1 (Int.ofNat_dvd.2 this)
    clear hg2
    obtain ⟨ra1, ra2⟩ := rem_zero ga
    obtain ⟨rb1, rb2⟩ := rem_zero gb
    have gz : ¬ g = 0 := by omega
    have gz' : (g == 0) = false := beq_eq_false_iff_ne.2 gz
    have zz : (a == 0) = false ∨ (a == 0) = true ∧ (b == 0) = false := by
      by_cases k : a = 0
      · exact .inr ⟨beq_iff_eq.2 k, beq_eq_false_iff_ne.2 (fun k2 => z ⟨k, k2⟩)⟩
      · exact .inl (beq_eq_false_iff_ne.2 k)
    clear ga gb z
    have dc : d < 1 ∨ (1 ≤ d ∧ ¬ d ∣ a) ∨ (1 ≤ d ∧ d ∣ a ∧ ¬ d ∣ b) ∨ (1 ≤ d ∧ d ∣ a ∧ d ∣ b ∧ d ∣ g) := by
      by_cases k1 : d < 1
      · exact .inl k1
      · by_cases k2 : d ∣ a
        · by_cases k3 : d ∣ b
          · exact .inr (.inr (.inr ⟨by omega, k2, k3, gd k2 k3⟩))
          · exact .inr (.inr (.inl ⟨by omega, k2, k3⟩))
        · exact .inr (.inl ⟨by omega, k2⟩)
    clear gd
    rcases dc with k | ⟨k, n1⟩ | ⟨k, n1, n2⟩ | ⟨k, n1, n2, n3⟩
    · have kd : decide (d < 1) = true := decide_eq_true k
      rcases zz with zz | ⟨z1, z2⟩
      · go_enter Try.func10, Try.ntmps10
        go_wp2_with fail
        refine (awake1 _).mono ?_; rintro e w' ⟨rfl, n54, rfl⟩
        go_wp2_with fail
        refine (C.out _).mono ?_; rintro e w' ⟨rfl, n55, rfl⟩
        go_wp2
        go_ret
        exact ⟨rfl, _, rfl⟩
      · go_enter Try.func10, Try.ntmps10
        go_wp2_with fail
        refine (awake1 _).mono ?_; rintro e w' ⟨rfl, n56, rfl⟩
        go_wp2_with fail
        refine (C.out _).mono ?_; rintro e w' ⟨rfl, n57, rfl⟩
        go_wp2
        go_ret
        exact ⟨rfl, _, rfl⟩
    · have kd : decide (d < 1) = false := decide_eq_false (by omega)
      have dz : ¬ d = 0 := by omega
      have dz' : (d == 0) = false := beq_eq_false_iff_ne.2 dz
      obtain ⟨q1, q2, q3, q4⟩ := rem_not n1
      clear n1
      rcases zz with zz | ⟨z1, z2⟩
      · go_enter Try.func10, Try.ntmps10
        go_wp2_with fail
        refine (awake1 _).mono ?_; rintro e w' ⟨rfl, n58, rfl⟩
        go_wp2_with fail
        refine (C.out _).mono ?_; rintro e w' ⟨rfl, n59, rfl⟩
        go_wp2
        go_ret
        exact ⟨rfl, _, rfl⟩
      · go_enter Try.func10, Try.ntmps10
        go_wp2_with fail
        refine (awake1 _).mono ?_; rintro e w' ⟨rfl, n60, rfl⟩
        go_wp2_with fail
        refine (C.out _).mono ?_; rintro e w' ⟨rfl, n61, rfl⟩
        go_wp2
        go_ret
        exact ⟨rfl, _, rfl⟩
    · have kd : decide (d < 1) = false := decide_eq_false (by omega)
      have dz : ¬ d = 0 := by omega
      have dz' : (d == 0) = false := beq_eq_false_iff_ne.2 dz
      obtain ⟨q1, q2⟩ := rem_zero n1
      obtain ⟨q5, q6, q3, q4⟩ := rem_not n2
      clear n1 n2
      rcases zz with zz | ⟨z1, z2⟩
      · go_enter Try.func10, Try.ntmps10
        go_wp2_with fail
        refine (awake1 _).mono ?_; rintro e w' ⟨rfl, n62, rfl⟩
        go_wp2_with fail
        refine (C.out _).mono ?_; rintro e w' ⟨rfl, n63, rfl⟩
        go_wp2
        go_ret
        exact ⟨rfl, _, rfl⟩
      · go_enter Try.func10, Try.ntmps10
        go_wp2_with fail
        refine (awake1 _).mono ?_; rintro e w' ⟨rfl, n64, rfl⟩
        go_wp2_with fail
        refine (C.out _).mono ?_; rintro e w' ⟨rfl, n65, rfl⟩
        go_wp2
        go_ret
        exact ⟨rfl, _, rfl⟩
    · have kd : decide (d < 1) = false := decide_eq_false (by omega)
      have dz : ¬ d = 0 := by omega
      have dz' : (d == 0) = false := beq_eq_false_iff_ne.2 dz
      obtain ⟨q1, q2⟩ := rem_zero n1
      obtain ⟨q3, q4⟩ := rem_zero n2
      obtain ⟨q5, q6⟩ := rem_zero n3
      clear n1 n2 n3
      rcases zz with zz | ⟨z1, z2⟩
      · go_enter Try.func10, Try.ntmps10
        go_wp2_with fail
        refine (awake1 _).mono ?_; rintro e w' ⟨rfl, n66, rfl⟩
        go_wp2_with fail
        refine (C.out _).mono ?_; rintro e w' ⟨rfl, n67, rfl⟩
        go_wp2
        go_ret
        exact ⟨rfl, _, rfl⟩
      · go_enter Try.func10, Try.ntmps10
        go_wp2_with fail
        refine (awake1 _).mono ?_; rintro e w' ⟨rfl, n68, rfl⟩
        go_wp2_with fail
        refine (C.out _).mono ?_; rintro e w' ⟨rfl, n69, rfl⟩
        go_wp2
        go_ret
        exact ⟨rfl, _, rfl⟩
end Go.Proofs.Ytnccokpnkehjhaa
