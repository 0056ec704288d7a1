/- The library's merge of two sorted runs of indices, in place: it calls itself. -/
import Derived.Test.YtacffjkhbajgkaaDoorJbSort
namespace Go.Proofs.YtacffjkhbajgkaaDoor
open Go.RowKit
set_option linter.unusedVariables false
set_option linter.unusedSimpArgs false

/-- What the merge promises. -/
def SymP (dl : Int → Int) (w0 : World) (B o n cap X a m b : Nat) (f : Nat → Int) (w : World) : Prop :=
  Calls Tryd.prog 50 #[.slice (some ⟨B, o, none⟩) n cap, .int .i64 (a : Int), .int .i64 (m : Int), .int .i64 (b : Int), .func (.func 36) #[] #[.pointer (some ⟨X, 0, none⟩)]] w (fun e w' => e = .returned (.tuple #[]) ∧ ∃ g, Same f g a b ∧ Srt dl g a b ∧ At w0 B o n g w')

set_option maxHeartbeats 4000000 in
set_option maxRecDepth 100000 in
/-- One element before a run. -/
theorem sym_first (dl : Int → Int) (w0 : World) (B o n cap X a m b : Nat) (f : Nat → Int) (w : World) (hn : n ≤ 1000000) (hcap : cap ≤ 9223372036854775807) (hC : Cmp dl w0 B n X) (h : At w0 B o n f w) (ham : a + 1 = m) (hmb : m < b) (hb : b ≤ n)
    (hB : Srt dl f m b) (hidx : ∀ q, m ≤ q → q < b → f a < f q) : SymP dl w0 B o n cap X a m b f w := by
  unfold SymP
  have HC := Lib.hid hC
  have H := Lib.hid h
  have HB := Lib.hid hB
  have HI := Lib.hid hidx
  clear hC h hB hidx
  have e1 : IntKind.i64.wrap ((m : Int) - (a : Int)) = 1 := by rw [IntKind.wrap_i64]; omega
  go_enter Tryd.func50, Tryd.ntmps50
  go_wp2
  go_loopw [10, 11] (fun s1 s2 wr => ∃ (i j : Nat), s1 = .int .i64 (i : Int) ∧ s2 = .int .i64 (j : Int) ∧ m ≤ i ∧ i ≤ j ∧ j ≤ b ∧ Hid ((i = m ∨ TT dl (f (i - 1)) (f a)) ∧ (j = b ∨ TT dl (f a) (f j)) ∧ At w0 B o n f wr)) (fun s1 s2 _ => (intOf s2).toNat - (intOf s1).toNat)
  case atStart => exact ⟨m, b, rfl, rfl, Nat.le_refl _, by omega, Nat.le_refl _, Lib.hid ⟨.inl rfl, .inl rfl, H.out⟩⟩
  case round =>
    clear H
    obtain ⟨i, j, rfl, rfl, hmi, hij, hjb, K⟩ := hrel
    rcases Nat.lt_or_ge i j with hlt | hge
    · have d1 : decide ((i : Int) < (j : Int)) = true := decide_eq_true (by omega)
      have q1 : IntKind.i64.wrap ((i : Int) + (j : Int)) = (i : Int) + (j : Int) := by rw [IntKind.wrap_i64]; omega
      have q2 : IntKind.u64.wrap ((i : Int) + (j : Int)) = (i : Int) + (j : Int) := by rw [IntKind.wrap_u64]; omega
      obtain ⟨h, q3, hh1, hh2⟩ : ∃ h : Nat, ((i : Int) + (j : Int)) / 2 = (h : Int) ∧ i ≤ h ∧ h < j := ⟨(i + j) / 2, by omega, by omega, by omega⟩
      have q4 : IntKind.u64.wrap (h : Int) = (h : Int) := by rw [IntKind.wrap_u64]; omega
      have q5 : IntKind.i64.wrap (h : Int) = (h : Int) := by rw [IntKind.wrap_i64]; omega
      have q6 : IntKind.i64.wrap ((h : Int) + 1) = (h : Int) + 1 := by rw [IntKind.wrap_i64]; omega
      have b1 : (h : Int) < (n : Int) := by omega
      have b2 : (a : Int) < (n : Int) := by omega
      obtain ⟨x, y, c, hx, hy, hc, cx, cy, C⟩ := K.out.2.2.cmp HC.out (i := h) (j := a) (by omega) (by omega)
      by_cases hneg : c < 0
      · have d3 : decide (c < 0) = true := decide_eq_true hneg
        have hl := hc.1 hneg
        rw [← hx, ← hy] at hl
        have K4 := Lib.hid (And.intro (TT.of_lt hl) K.out)
        clear hc hl hx hy K hneg
        go_wp2
        go_quiet (first | (go_at_call 36; refine Ret.quiet (C.out _)))
        clear C cx cy
        have K5 := Lib.hid (And.intro K4.out.1 (And.intro K4.out.2.2.1 (K4.out.2.2.2.drewN nq)))
        clear K4
        generalize World.drewN _ _ = W at K5 ⊢
        go_wp2
        go_roundw
        case rel => exact ⟨h + 1, j, by first | rfl | simp, rfl, by omega, by omega, hjb, Lib.hid ⟨.inr K5.out.1, K5.out.2⟩⟩
        case measure => simp [intOf]; omega
      · have d3 : decide (c < 0) = false := decide_eq_false hneg
        have hl : ¬ dl x < dl y := fun h => hneg (hc.2 h)
        rw [← hx, ← hy] at hl
        have K4 := Lib.hid (And.intro (TT.of_ge hl (HI.out h (by omega) (by omega))) K.out)
        clear hc hl hx hy K hneg
        go_wp2
        go_quiet (first | (go_at_call 36; refine Ret.quiet (C.out _)))
        clear C cx cy
        have K5 := Lib.hid (And.intro K4.out.1 (And.intro K4.out.2.1 (K4.out.2.2.2.drewN nq)))
        clear K4
        generalize World.drewN _ _ = W at K5 ⊢
        go_wp2
        go_roundw
        case rel => exact ⟨i, h, rfl, by first | rfl | simp, hmi, by omega, by omega, Lib.hid ⟨K5.out.2.1, .inr K5.out.1, K5.out.2.2⟩⟩
        case measure => simp [intOf]; omega
    · have d1 : decide ((i : Int) < (j : Int)) = false := decide_eq_false (by omega)
      obtain rfl : i = j := by omega
      have M : Hid (Same f (mvUp f a (i - 1)) a b ∧ Srt dl (mvUp f a (i - 1)) a b) := by
        subst ham
        exact ⟨mvUp_same f a (i - 1) b (by omega) (by omega), mvUp_srt HB.out hmi hjb K.out.1 K.out.2.1⟩
      have K2 := Lib.hid K.out.2.2
      clear K HB HI HC
      have q7 : IntKind.i64.wrap ((i : Int) - 1) = ((i - 1 : Nat) : Int) := by rw [IntKind.wrap_i64]; omega
      obtain ⟨t, ht⟩ : ∃ t, i - 1 = t := ⟨_, rfl⟩
      rw [ht] at q7 M
      go_wp2
      go_loopw [13] (fun st wr => ∃ (k : Nat), st = .int .i64 (k : Int) ∧ a ≤ k ∧ k ≤ t ∧ Hid (At w0 B o n (mvUp f a k) wr)) (fun st _ => t - (intOf st).toNat)
      case atStart => exact ⟨a, rfl, Nat.le_refl _, by omega, by rw [mvUp_zero]; exact K2⟩
      case round =>
        clear K2
        obtain ⟨k, rfl, hak, hkt, K⟩ := hrel
        rcases Nat.lt_or_ge k t with hlt | hge
        · have d2 : decide ((k : Int) < (t : Int)) = true := decide_eq_true (by omega)
          have e3 : IntKind.i64.wrap ((k : Int) + 1) = (k : Int) + 1 := by rw [IntKind.wrap_i64]; omega
          have b1 : (k : Int) + 1 < (n : Int) := by omega
          have b2 : (k : Int) < (n : Int) := by omega
          have b3 : (0 : Int) ≤ (k : Int) + 1 := by omega
          have b5 : ((k : Int) + 1).toNat = k + 1 := by omega
          have e4 : IntKind.i64.wrap (k : Int) = (k : Int) := by rw [IntKind.wrap_i64]; omega
          obtain ⟨cx, cy, f1, f2, c2, K6⟩ := K.out.ready (i := k) (j := k + 1) (by omega) (by omega) (by omega) rfl rfl
          rw [mvUp_next f a k hak] at K6
          generalize mvUp f a k k = x at *
          generalize mvUp f a k (k + 1) = y at *
          clear K
          go_wp2_with fail
          go_region
          have K7 := Lib.hid K6.out
          clear K6 cx cy f1 f2 c2
          generalize World.drew _ = W2 at K7 ⊢
          go_wp2
          go_roundw
          case rel => exact ⟨k + 1, by first | rfl | simp, by omega, by omega, K7⟩
          case measure => simp [intOf]; omega
        · have d2 : decide ((k : Int) < (t : Int)) = false := decide_eq_false (by omega)
          obtain rfl : k = t := by omega
          go_wp2
          (try simp only [Exit.inBlock, Exit.then]); refine bodyPost_ret (results_none rfl _ _ _) rfl ?_
          exact ⟨rfl, _, M.out.1, M.out.2, K.out⟩
set_option maxHeartbeats 4000000 in
set_option maxRecDepth 100000 in
/-- One element behind a run. -/
theorem sym_last (dl : Int → Int) (w0 : World) (B o n cap X a m b : Nat) (f : Nat → Int) (w : World) (hn : n ≤ 1000000) (hcap : cap ≤ 9223372036854775807) (hC : Cmp dl w0 B n X) (h : At w0 B o n f w) (ham : a + 1 < m) (hmb : m + 1 = b) (hb : b ≤ n)
    (hB : Srt dl f a m) (hidx : ∀ q, a ≤ q → q < m → f q < f m) : SymP dl w0 B o n cap X a m b f w := by
  unfold SymP
  have HC := Lib.hid hC
  have H := Lib.hid h
  have HB := Lib.hid hB
  have HI := Lib.hid hidx
  clear hC h hB hidx
  obtain ⟨ma, e1, hma⟩ : ∃ t : Int, IntKind.i64.wrap ((m : Int) - (a : Int)) = t ∧ t ≠ 1 := ⟨(m : Int) - a, by rw [IntKind.wrap_i64]; omega, by omega⟩
  have e1b : (ma == 1) = false := by simp [hma]
  have e0 : IntKind.i64.wrap ((b : Int) - (m : Int)) = 1 := by rw [IntKind.wrap_i64]; omega
  go_enter Tryd.func50, Tryd.ntmps50
  go_wp2
  go_loopw [14, 15] (fun s1 s2 wr => ∃ (i j : Nat), s1 = .int .i64 (i : Int) ∧ s2 = .int .i64 (j : Int) ∧ a ≤ i ∧ i ≤ j ∧ j ≤ m ∧ Hid ((i = a ∨ TT dl (f (i - 1)) (f m)) ∧ (j = m ∨ TT dl (f m) (f j)) ∧ At w0 B o n f wr)) (fun s1 s2 _ => (intOf s2).toNat - (intOf s1).toNat)
  case atStart => exact ⟨a, m, rfl, rfl, Nat.le_refl _, by omega, Nat.le_refl _, Lib.hid ⟨.inl rfl, .inl rfl, H.out⟩⟩
  case round =>
    clear H
    obtain ⟨i, j, rfl, rfl, hmi, hij, hjb, K⟩ := hrel
    rcases Nat.lt_or_ge i j with hlt | hge
    · have d1 : decide ((i : Int) < (j : Int)) = true := decide_eq_true (by omega)
      have q1 : IntKind.i64.wrap ((i : Int) + (j : Int)) = (i : Int) + (j : Int) := by rw [IntKind.wrap_i64]; omega
      have q2 : IntKind.u64.wrap ((i : Int) + (j : Int)) = (i : Int) + (j : Int) := by rw [IntKind.wrap_u64]; omega
      obtain ⟨h, q3, hh1, hh2⟩ : ∃ h : Nat, ((i : Int) + (j : Int)) / 2 = (h : Int) ∧ i ≤ h ∧ h < j := ⟨(i + j) / 2, by omega, by omega, by omega⟩
      have q4 : IntKind.u64.wrap (h : Int) = (h : Int) := by rw [IntKind.wrap_u64]; omega
      have q5 : IntKind.i64.wrap (h : Int) = (h : Int) := by rw [IntKind.wrap_i64]; omega
      have q6 : IntKind.i64.wrap ((h : Int) + 1) = (h : Int) + 1 := by rw [IntKind.wrap_i64]; omega
      have b1 : (h : Int) < (n : Int) := by omega
      have b2 : (m : Int) < (n : Int) := by omega
      obtain ⟨x, y, c, hx, hy, hc, cx, cy, C⟩ := K.out.2.2.cmp HC.out (i := m) (j := h) (by omega) (by omega)
      by_cases hneg : c < 0
      · have d3 : decide (c < 0) = true := decide_eq_true hneg
        have hl := hc.1 hneg
        rw [← hx, ← hy] at hl
        have K4 := Lib.hid (And.intro (TT.of_lt hl) K.out)
        clear hc hl hx hy K hneg
        go_wp2
        go_quiet (first | (go_at_call 36; refine Ret.quiet (C.out _)))
        clear C cx cy
        have K5 := Lib.hid (And.intro K4.out.1 (And.intro K4.out.2.1 (K4.out.2.2.2.drewN nq)))
        clear K4
        generalize World.drewN _ _ = W at K5 ⊢
        go_wp2
        go_roundw
        case rel => exact ⟨i, h, rfl, by first | rfl | simp, hmi, by omega, by omega, Lib.hid ⟨K5.out.2.1, .inr K5.out.1, K5.out.2.2⟩⟩
        case measure => simp [intOf]; omega
      · have d3 : decide (c < 0) = false := decide_eq_false hneg
        have hl : ¬ dl x < dl y := fun h => hneg (hc.2 h)
        rw [← hx, ← hy] at hl
        have K4 := Lib.hid (And.intro (TT.of_ge hl (HI.out h (by omega) (by omega))) K.out)
        clear hc hl hx hy K hneg
        go_wp2
        go_quiet (first | (go_at_call 36; refine Ret.quiet (C.out _)))
        clear C cx cy
        have K5 := Lib.hid (And.intro K4.out.1 (And.intro K4.out.2.2.1 (K4.out.2.2.2.drewN nq)))
        clear K4
        generalize World.drewN _ _ = W at K5 ⊢
        go_wp2
        go_roundw
        case rel => exact ⟨h + 1, j, by first | rfl | simp, rfl, by omega, by omega, hjb, Lib.hid ⟨.inr K5.out.1, K5.out.2⟩⟩
        case measure => simp [intOf]; omega
    · have d1 : decide ((i : Int) < (j : Int)) = false := decide_eq_false (by omega)
      obtain rfl : i = j := by omega
      have M : Hid (Same f (mvDn f m i) a b ∧ Srt dl (mvDn f m i) a b) := by
        subst hmb
        exact ⟨mvDn_same f a m (m + 1) (m - i) i (by omega) (by omega) (by omega), mvDn_srt HB.out hmi hjb K.out.1 K.out.2.1⟩
      have K2 := Lib.hid K.out.2.2
      clear K HB HI HC
      go_wp2
      go_loopw [17] (fun st wr => ∃ (k : Nat), st = .int .i64 (k : Int) ∧ i ≤ k ∧ k ≤ m ∧ Hid (At w0 B o n (mvDn f m k) wr)) (fun st _ => (intOf st).toNat)
      case atStart => exact ⟨m, rfl, hjb, Nat.le_refl _, by rw [mvDn_zero]; exact K2⟩
      case round =>
        clear K2
        obtain ⟨k, rfl, hak, hkt, K⟩ := hrel
        rcases Nat.lt_or_ge i k with hlt | hge
        · obtain ⟨kp, rfl⟩ : ∃ q, q + 1 = k := ⟨k - 1, by omega⟩
          have d2 : decide ((kp : Int) + 1 > (i : Int)) = true := decide_eq_true (by omega)
          have e3 : IntKind.i64.wrap ((kp : Int) + 1 - 1) = (kp : Int) := by rw [IntKind.wrap_i64]; omega
          have b1 : (kp : Int) + 1 < (n : Int) := by omega
          have b2 : (kp : Int) < (n : Int) := by omega
          have b3 : (0 : Int) ≤ (kp : Int) + 1 := by omega
          have b5 : ((kp : Int) + 1).toNat = kp + 1 := by omega
          have e4 : IntKind.i64.wrap (kp : Int) = (kp : Int) := by rw [IntKind.wrap_i64]; omega
          obtain ⟨cx, cy, f1, f2, c2, K6⟩ := K.out.ready (i := kp + 1) (j := kp) (by omega) (by omega) (by omega) rfl rfl
          rw [mvDn_next f m kp (by omega)] at K6
          generalize mvDn f m (kp + 1) (kp + 1) = x at *
          generalize mvDn f m (kp + 1) kp = y at *
          clear K
          go_wp2_with fail
          go_region
          have K7 := Lib.hid K6.out
          clear K6 cx cy f1 f2 c2
          generalize World.drew _ = W2 at K7 ⊢
          go_wp2
          go_roundw
          case rel => exact ⟨kp, by first | rfl | simp, by omega, by omega, K7⟩
          case measure => simp [intOf]
        · have d2 : decide ((k : Int) > (i : Int)) = false := decide_eq_false (by omega)
          obtain rfl : k = i := by omega
          go_wp2
          (try simp only [Exit.inBlock, Exit.then]); refine bodyPost_ret (results_none rfl _ _ _) rfl ?_
          exact ⟨rfl, _, M.out.1, M.out.2, K.out⟩

set_option maxHeartbeats 8000000 in
set_option maxRecDepth 100000 in
/-- The merge: two runs of any length. -/
theorem sym_any (dl : Int → Int) (w0 : World) (B o n cap X : Nat) (hn : n ≤ 1000000) (hcap : cap ≤ 9223372036854775807) (hC : Cmp dl w0 B n X) (d : Nat) :
    ∀ (a m b : Nat) (f : Nat → Int) (w : World), b - a ≤ d → At w0 B o n f w → a < m → m < b → b ≤ n → Srt dl f a m → Srt dl f m b → (∀ p q, a ≤ p → p < m → m ≤ q → q < b → f p < f q) → SymP dl w0 B o n cap X a m b f w := by
  induction d with
  | zero => intro a m b f w h1 h2 h3 h4; omega
  | succ d IH =>
    intro a m b f w hd h ham hmb hb hA hB hidx
    by_cases c1 : a + 1 = m
    · exact sym_first dl w0 B o n cap X a m b f w hn hcap hC h c1 hmb hb hB (fun q q1 q2 => hidx a q (Nat.le_refl _) ham q1 q2)
    by_cases c2 : m + 1 = b
    · exact sym_last dl w0 B o n cap X a m b f w hn hcap hC h (by omega) c2 hb hA (fun q q1 q2 => hidx q m q1 q2 (Nat.le_refl _) hmb)
    unfold SymP at *
    have HC := Lib.hid hC
    have H := Lib.hid h
    have HA := Lib.hid (And.intro hA (And.intro hB hidx))
    replace IH := Lib.hid IH
    clear hC h hA hB hidx
    obtain ⟨ma, e1, hma⟩ : ∃ t : Int, IntKind.i64.wrap ((m : Int) - (a : Int)) = t ∧ t ≠ 1 := ⟨(m : Int) - a, by rw [IntKind.wrap_i64]; omega, by omega⟩
    have e1b : (ma == 1) = false := by simp [hma]
    obtain ⟨mb, e2, hmb2⟩ : ∃ t : Int, IntKind.i64.wrap ((b : Int) - (m : Int)) = t ∧ t ≠ 1 := ⟨(b : Int) - m, by rw [IntKind.wrap_i64]; omega, by omega⟩
    have e2b : (mb == 1) = false := by simp [hmb2]
    have q1 : IntKind.i64.wrap ((a : Int) + (b : Int)) = (a : Int) + (b : Int) := by rw [IntKind.wrap_i64]; omega
    have q2 : IntKind.u64.wrap ((a : Int) + (b : Int)) = (a : Int) + (b : Int) := by rw [IntKind.wrap_u64]; omega
    obtain ⟨mid, q3, hm1, hm2, hm3⟩ : ∃ h : Nat, ((a : Int) + (b : Int)) / 2 = (h : Int) ∧ a < h ∧ h < b ∧ (2 * h = a + b ∨ 2 * h + 1 = a + b) := ⟨(a + b) / 2, by omega, by omega, by omega, by omega⟩
    have q4 : IntKind.u64.wrap (mid : Int) = (mid : Int) := by rw [IntKind.wrap_u64]; omega
    have q5 : IntKind.i64.wrap (mid : Int) = (mid : Int) := by rw [IntKind.wrap_i64]; omega
    obtain ⟨nn, q6, hnn⟩ : ∃ t : Nat, IntKind.i64.wrap ((mid : Int) + (m : Int)) = (t : Int) ∧ mid + m = t := ⟨mid + m, by rw [IntKind.wrap_i64]; omega, rfl⟩
    obtain ⟨pp, q7, hpp⟩ : ∃ t : Nat, IntKind.i64.wrap ((nn : Int) - 1) = (t : Int) ∧ t + 1 = nn := ⟨nn - 1, by rw [IntKind.wrap_i64]; omega, by omega⟩
    replace hnn := Lib.hid hnn
    replace hpp := Lib.hid hpp
    replace hm3 := Lib.hid hm3
    obtain ⟨s0, r0, F, D⟩ : ∃ s0 r0 : Nat, Hid (a ≤ s0 ∧ s0 ≤ r0 ∧ r0 ≤ m ∧ r0 ≤ mid ∧ mid + m - s0 ≤ b ∧ (s0 = a ∨ mid + m - s0 = b) ∧ (r0 = m ∨ r0 = mid)) ∧ Hid ((mid < m ∧ IntKind.i64.wrap ((nn : Int) - (b : Int)) = (s0 : Int) ∧ r0 = mid) ∨ (¬ mid < m ∧ s0 = a ∧ r0 = m)) := by
      have h1 := hnn.out
      have h2 := hm3.out
      by_cases c : mid < m
      · exact ⟨nn - b, mid, ⟨by omega, by omega, by omega, by omega, by omega, by omega, by omega⟩, .inl ⟨c, by rw [IntKind.wrap_i64]; omega, rfl⟩⟩
      · exact ⟨a, m, ⟨by omega, by omega, by omega, by omega, by omega, by omega, by omega⟩, .inr ⟨c, rfl, rfl⟩⟩
    go_enter Tryd.func50, Tryd.ntmps50
    rcases D.out with ⟨dd, q8, hr0⟩ | ⟨dd, hs0, hr0⟩
    · have d0 : decide ((m : Int) > (mid : Int)) = true := decide_eq_true (by omega)
      replace hr0 := Lib.hid (And.intro (rfl : s0 = s0) hr0)
      go_wp2
      go_loopw [20, 21] (fun s1 s2 wr => ∃ (i j : Nat), s1 = .int .i64 (i : Int) ∧ s2 = .int .i64 (j : Int) ∧ s0 ≤ i ∧ i ≤ j ∧ j ≤ r0 ∧ Hid ((i = s0 ∨ TT dl (f (i - 1)) (f (mid + m - i))) ∧ (j = r0 ∨ TT dl (f (mid + m - j - 1)) (f j)) ∧ At w0 B o n f wr)) (fun s1 s2 _ => (intOf s2).toNat - (intOf s1).toNat)
      case atStart => exact ⟨s0, r0, by first | rw [hr0.out.1] | rfl | simp, by first | rw [hr0.out.2] | rfl, Nat.le_refl _, F.out.2.1, Nat.le_refl _, Lib.hid ⟨.inl rfl, .inl rfl, H.out⟩⟩
      case round =>
        clear H hr0 D
        obtain ⟨i, j, rfl, rfl, hmi, hij, hjb, K⟩ := hrel
        rcases Nat.lt_or_ge i j with hlt | hge
        · have d1 : decide ((i : Int) < (j : Int)) = true := decide_eq_true (by omega)
          have g1 := F.out.2.2.1
          have g2 := F.out.2.2.2.1
          have g3 := F.out.2.2.2.2.1
          have g0 := F.out.1
          have u1 : IntKind.i64.wrap ((i : Int) + (j : Int)) = (i : Int) + (j : Int) := by rw [IntKind.wrap_i64]; omega
          have u2 : IntKind.u64.wrap ((i : Int) + (j : Int)) = (i : Int) + (j : Int) := by rw [IntKind.wrap_u64]; omega
          obtain ⟨h, u3, hh1, hh2⟩ : ∃ h : Nat, ((i : Int) + (j : Int)) / 2 = (h : Int) ∧ i ≤ h ∧ h < j := ⟨(i + j) / 2, by omega, by omega, by omega⟩
          have u4 : IntKind.u64.wrap (h : Int) = (h : Int) := by rw [IntKind.wrap_u64]; omega
          have u5 : IntKind.i64.wrap (h : Int) = (h : Int) := by rw [IntKind.wrap_i64]; omega
          have u6 : IntKind.i64.wrap ((h : Int) + 1) = (h : Int) + 1 := by rw [IntKind.wrap_i64]; omega
          obtain ⟨z, u7, hz⟩ : ∃ z : Nat, IntKind.i64.wrap ((pp : Int) - (h : Int)) = (z : Int) ∧ Hid (z = mid + m - h - 1) := ⟨mid + m - h - 1, by have := hpp.out; have := hnn.out; rw [IntKind.wrap_i64]; omega, rfl⟩
          have z1 : m ≤ z := by rw [hz.out]; omega
          have z2 : z < b := by rw [hz.out]; omega
          have b1 : (h : Int) < (n : Int) := by omega
          have b2 : (z : Int) < (n : Int) := by omega
          obtain ⟨x, y, c, hx, hy, hc, cx, cy, C⟩ := K.out.2.2.cmp HC.out (i := z) (j := h) (by omega) (by omega)
          by_cases hneg : c < 0
          · have d3 : decide (c < 0) = true := decide_eq_true hneg
            have hl := hc.1 hneg
            rw [← hx, ← hy] at hl
            have hl := TT.of_lt hl
            rw [hz.out] at hl
            have K4 := Lib.hid (And.intro hl K.out)
            clear hc hl hx hy K hneg
            go_wp2
            go_quiet (first | (go_at_call 36; refine Ret.quiet (C.out _)))
            clear C cx cy
            have K5 := Lib.hid (And.intro K4.out.1 (And.intro K4.out.2.1 (K4.out.2.2.2.drewN nq)))
            clear K4
            generalize World.drewN _ _ = W at K5 ⊢
            go_wp2
            go_roundw
            case rel => exact ⟨i, h, rfl, by first | rfl | simp, hmi, by omega, by omega, Lib.hid ⟨K5.out.2.1, .inr K5.out.1, K5.out.2.2⟩⟩
            case measure => simp [intOf]; omega
          · have d3 : decide (c < 0) = false := decide_eq_false hneg
            have hl : ¬ dl x < dl y := fun h => hneg (hc.2 h)
            rw [← hx, ← hy] at hl
            have hl := TT.of_ge hl (HA.out.2.2 h z (by omega) (by omega) z1 z2)
            rw [show z = mid + m - (h + 1) by rw [hz.out]; omega] at hl
            have K4 := Lib.hid (And.intro hl K.out)
            clear hc hl hx hy K hneg
            go_wp2
            go_quiet (first | (go_at_call 36; refine Ret.quiet (C.out _)))
            clear C cx cy
            have K5 := Lib.hid (And.intro K4.out.1 (And.intro K4.out.2.2.1 (K4.out.2.2.2.drewN nq)))
            clear K4
            generalize World.drewN _ _ = W at K5 ⊢
            go_wp2
            go_roundw
            case rel => exact ⟨h + 1, j, by first | rfl | simp, rfl, by omega, by omega, hjb, Lib.hid ⟨.inr K5.out.1, K5.out.2⟩⟩
            case measure => simp [intOf]; omega
        · have d1 : decide ((i : Int) < (j : Int)) = false := decide_eq_false (by omega)
          obtain rfl : i = j := by omega
          have CT : Hid (Cut dl f a m b mid i) := by
            have g := F.out
            refine Cut.of (by omega) (by omega) (by omega) (by omega) (by omega) (by omega) HA.out.1 HA.out.2.1 HA.out.2.2 ?_ ?_
            · rcases K.out.1 with k | k
              · rcases g.2.2.2.2.2.1 with k2 | k2
                · exact .inl (by omega)
                · exact .inr (.inl (by omega))
              · exact .inr (.inr k)
            · rcases K.out.2.1 with k | k
              · rcases g.2.2.2.2.2.2 with k2 | k2
                · exact .inl (by omega)
                · exact .inr (.inl (by omega))
              · exact .inr (.inr k)
          have K2 := Lib.hid K.out.2.2
          clear K HA F
          have g1 := CT.out.a1
          have g2 := CT.out.a2
          have g3 := CT.out.a3
          have g4 := CT.out.a4
          obtain ⟨e, v1, he⟩ : ∃ e : Nat, IntKind.i64.wrap ((nn : Int) - (i : Int)) = (e : Int) ∧ mid + m - i = e := ⟨mid + m - i, by have := hnn.out; rw [IntKind.wrap_i64]; omega, rfl⟩
          have R0 := Lib.hid (fun h1 h2 => rotate_any w0 B o n cap i m e f wr (.func (.func 36) #[] #[.pointer (some ⟨X, 0, none⟩)]) hn hcap K2.out h1 h2 (by omega))
          clear HC hmi hij hjb hge
          replace he := Lib.hid he
          by_cases c4 : i < m ∧ m < e
          · have d4 : decide ((i : Int) < (m : Int)) = true := decide_eq_true (by omega)
            have d5 : decide ((m : Int) < (e : Int)) = true := decide_eq_true (by omega)
            clear K2
            go_wp2_with fail
            refine (R0.out c4.1 c4.2).mono ?_
            rintro _ W ⟨rfl, hA⟩
            have KR := Lib.hid hA
            clear hA R0 d4 d5
            by_cases c6 : a < i ∧ i < mid
            · have d6 : decide ((a : Int) < (i : Int)) = true := decide_eq_true (by omega)
              have d7 : decide ((i : Int) < (mid : Int)) = true := decide_eq_true (by omega)
              have L1 := Lib.hid (IH.out a i mid _ _ (by omega) KR.out (by omega) (by omega) (by omega) (he.out ▸ CT.out.l1) (he.out ▸ CT.out.l2) (he.out ▸ CT.out.il))
              clear KR
              go_wp2_with fail
              refine L1.out.mono ?_
              rintro _ W1 ⟨rfl, g1f, hS1, hO1, hA1⟩
              have KS := Lib.hid (And.intro hS1 (And.intro hO1 hA1))
              clear hS1 hO1 hA1 L1 d6 d7
              by_cases c8 : mid < e ∧ e < b
              · have d8 : decide ((mid : Int) < (e : Int)) = true := decide_eq_true (by omega)
                have d9 : decide ((e : Int) < (b : Int)) = true := decide_eq_true (by omega)
                obtain ⟨t1, t2, t3⟩ := CT.out.right1 (by rw [he.out]; exact KS.out.1)
                rw [he.out] at t1 t2 t3
                have L2 := Lib.hid (IH.out mid e b _ _ (by omega) KS.out.2.2 (by omega) (by omega) hb t1 t2 t3)
                clear t1 t2 t3
                have KT := Lib.hid (And.intro KS.out.1 KS.out.2.1)
                clear KS
                go_wp2_with fail
                all_goals
                  refine L2.out.mono ?_
                  rintro _ W2 ⟨rfl, g2f, hS2, hO2, hA2⟩
                  have KU := Lib.hid (And.intro (CT.out.done (by rw [he.out]; exact KT.out.1) KT.out.2 hS2 hO2) hA2)
                  clear hS2 hO2 hA2 L2 KT
                  go_wp2
                  all_goals (go_end0; exact ⟨rfl, _, KU.out.1.1, KU.out.1.2, KU.out.2⟩)
              · have KU := Lib.hid (And.intro (CT.out.done (by rw [he.out]; exact KS.out.1) KS.out.2.1 (Same.refl _ _ _) (CT.out.right0 (by rw [he.out]; exact c8) (by rw [he.out]; exact KS.out.1))) KS.out.2.2)
                clear KS
                by_cases c8b : mid < e
                · have d8 : decide ((mid : Int) < (e : Int)) = true := decide_eq_true (by omega)
                  have d9 : decide ((e : Int) < (b : Int)) = false := decide_eq_false (by omega)
                  go_wp2
                  all_goals (go_end0; exact ⟨rfl, _, KU.out.1.1, KU.out.1.2, KU.out.2⟩)
                · have d8 : decide ((mid : Int) < (e : Int)) = false := decide_eq_false (by omega)
                  go_wp2
                  all_goals (go_end0; exact ⟨rfl, _, KU.out.1.1, KU.out.1.2, KU.out.2⟩)
            · have KS := Lib.hid (And.intro (Same.refl (rot f i m e) a mid) (And.intro (he.out ▸ CT.out.left0 c6 : Srt dl (rot f i m e) a mid) KR.out))
              clear KR
              by_cases c6b : a < i
              · have d6 : decide ((a : Int) < (i : Int)) = true := decide_eq_true (by omega)
                have d7 : decide ((i : Int) < (mid : Int)) = false := decide_eq_false (by omega)
                by_cases c8 : mid < e ∧ e < b
                · have d8 : decide ((mid : Int) < (e : Int)) = true := decide_eq_true (by omega)
                  have d9 : decide ((e : Int) < (b : Int)) = true := decide_eq_true (by omega)
                  obtain ⟨t1, t2, t3⟩ := CT.out.right1 (by rw [he.out]; exact KS.out.1)
                  rw [he.out] at t1 t2 t3
                  have L2 := Lib.hid (IH.out mid e b _ _ (by omega) KS.out.2.2 (by omega) (by omega) hb t1 t2 t3)
                  clear t1 t2 t3
                  have KT := Lib.hid (And.intro KS.out.1 KS.out.2.1)
                  clear KS
                  go_wp2_with fail
                  all_goals
                    refine L2.out.mono ?_
                    rintro _ W2 ⟨rfl, g2f, hS2, hO2, hA2⟩
                    have KU := Lib.hid (And.intro (CT.out.done (by rw [he.out]; exact KT.out.1) KT.out.2 hS2 hO2) hA2)
                    clear hS2 hO2 hA2 L2 KT
                    go_wp2
                    all_goals (go_end0; exact ⟨rfl, _, KU.out.1.1, KU.out.1.2, KU.out.2⟩)
                · have KU := Lib.hid (And.intro (CT.out.done (by rw [he.out]; exact KS.out.1) KS.out.2.1 (Same.refl _ _ _) (CT.out.right0 (by rw [he.out]; exact c8) (by rw [he.out]; exact KS.out.1))) KS.out.2.2)
                  clear KS
                  by_cases c8b : mid < e
                  · have d8 : decide ((mid : Int) < (e : Int)) = true := decide_eq_true (by omega)
                    have d9 : decide ((e : Int) < (b : Int)) = false := decide_eq_false (by omega)
                    go_wp2
                    all_goals (go_end0; exact ⟨rfl, _, KU.out.1.1, KU.out.1.2, KU.out.2⟩)
                  · have d8 : decide ((mid : Int) < (e : Int)) = false := decide_eq_false (by omega)
                    go_wp2
                    all_goals (go_end0; exact ⟨rfl, _, KU.out.1.1, KU.out.1.2, KU.out.2⟩)
              · have d6 : decide ((a : Int) < (i : Int)) = false := decide_eq_false (by omega)
                by_cases c8 : mid < e ∧ e < b
                · have d8 : decide ((mid : Int) < (e : Int)) = true := decide_eq_true (by omega)
                  have d9 : decide ((e : Int) < (b : Int)) = true := decide_eq_true (by omega)
                  obtain ⟨t1, t2, t3⟩ := CT.out.right1 (by rw [he.out]; exact KS.out.1)
                  rw [he.out] at t1 t2 t3
                  have L2 := Lib.hid (IH.out mid e b _ _ (by omega) KS.out.2.2 (by omega) (by omega) hb t1 t2 t3)
                  clear t1 t2 t3
                  have KT := Lib.hid (And.intro KS.out.1 KS.out.2.1)
                  clear KS
                  go_wp2_with fail
                  all_goals
                    refine L2.out.mono ?_
                    rintro _ W2 ⟨rfl, g2f, hS2, hO2, hA2⟩
                    have KU := Lib.hid (And.intro (CT.out.done (by rw [he.out]; exact KT.out.1) KT.out.2 hS2 hO2) hA2)
                    clear hS2 hO2 hA2 L2 KT
                    go_wp2
                    all_goals (go_end0; exact ⟨rfl, _, KU.out.1.1, KU.out.1.2, KU.out.2⟩)
                · have KU := Lib.hid (And.intro (CT.out.done (by rw [he.out]; exact KS.out.1) KS.out.2.1 (Same.refl _ _ _) (CT.out.right0 (by rw [he.out]; exact c8) (by rw [he.out]; exact KS.out.1))) KS.out.2.2)
                  clear KS
                  by_cases c8b : mid < e
                  · have d8 : decide ((mid : Int) < (e : Int)) = true := decide_eq_true (by omega)
                    have d9 : decide ((e : Int) < (b : Int)) = false := decide_eq_false (by omega)
                    go_wp2
                    all_goals (go_end0; exact ⟨rfl, _, KU.out.1.1, KU.out.1.2, KU.out.2⟩)
                  · have d8 : decide ((mid : Int) < (e : Int)) = false := decide_eq_false (by omega)
                    go_wp2
                    all_goals (go_end0; exact ⟨rfl, _, KU.out.1.1, KU.out.1.2, KU.out.2⟩)
          · have KR : Hid (At w0 B o n (rot f i m e) wr) := by rw [rot_none f i m e g2 (by have := he.out; omega) (by have := he.out; omega)]; exact K2.out
            clear K2 R0
            by_cases c4b : i < m
            · have d4 : decide ((i : Int) < (m : Int)) = true := decide_eq_true (by omega)
              have d5 : decide ((m : Int) < (e : Int)) = false := decide_eq_false (by omega)
              by_cases c6 : a < i ∧ i < mid
              · have d6 : decide ((a : Int) < (i : Int)) = true := decide_eq_true (by omega)
                have d7 : decide ((i : Int) < (mid : Int)) = true := decide_eq_true (by omega)
                have L1 := Lib.hid (IH.out a i mid _ _ (by omega) KR.out (by omega) (by omega) (by omega) (he.out ▸ CT.out.l1) (he.out ▸ CT.out.l2) (he.out ▸ CT.out.il))
                clear KR
                go_wp2_with fail
                refine L1.out.mono ?_
                rintro _ W1 ⟨rfl, g1f, hS1, hO1, hA1⟩
                have KS := Lib.hid (And.intro hS1 (And.intro hO1 hA1))
                clear hS1 hO1 hA1 L1 d6 d7
                by_cases c8 : mid < e ∧ e < b
                · have d8 : decide ((mid : Int) < (e : Int)) = true := decide_eq_true (by omega)
                  have d9 : decide ((e : Int) < (b : Int)) = true := decide_eq_true (by omega)
                  obtain ⟨t1, t2, t3⟩ := CT.out.right1 (by rw [he.out]; exact KS.out.1)
                  rw [he.out] at t1 t2 t3
                  have L2 := Lib.hid (IH.out mid e b _ _ (by omega) KS.out.2.2 (by omega) (by omega) hb t1 t2 t3)
                  clear t1 t2 t3
                  have KT := Lib.hid (And.intro KS.out.1 KS.out.2.1)
                  clear KS
                  go_wp2_with fail
                  all_goals
                    refine L2.out.mono ?_
                    rintro _ W2 ⟨rfl, g2f, hS2, hO2, hA2⟩
                    have KU := Lib.hid (And.intro (CT.out.done (by rw [he.out]; exact KT.out.1) KT.out.2 hS2 hO2) hA2)
                    clear hS2 hO2 hA2 L2 KT
                    go_wp2
                    all_goals (go_end0; exact ⟨rfl, _, KU.out.1.1, KU.out.1.2, KU.out.2⟩)
                · have KU := Lib.hid (And.intro (CT.out.done (by rw [he.out]; exact KS.out.1) KS.out.2.1 (Same.refl _ _ _) (CT.out.right0 (by rw [he.out]; exact c8) (by rw [he.out]; exact KS.out.1))) KS.out.2.2)
                  clear KS
                  by_cases c8b : mid < e
                  · have d8 : decide ((mid : Int) < (e : Int)) = true := decide_eq_true (by omega)
                    have d9 : decide ((e : Int) < (b : Int)) = false := decide_eq_false (by omega)
                    go_wp2
                    all_goals (go_end0; exact ⟨rfl, _, KU.out.1.1, KU.out.1.2, KU.out.2⟩)
                  · have d8 : decide ((mid : Int) < (e : Int)) = false := decide_eq_false (by omega)
                    go_wp2
                    all_goals (go_end0; exact ⟨rfl, _, KU.out.1.1, KU.out.1.2, KU.out.2⟩)
              · have KS := Lib.hid (And.intro (Same.refl (rot f i m e) a mid) (And.intro (he.out ▸ CT.out.left0 c6 : Srt dl (rot f i m e) a mid) KR.out))
                clear KR
                by_cases c6b : a < i
                · have d6 : decide ((a : Int) < (i : Int)) = true := decide_eq_true (by omega)
                  have d7 : decide ((i : Int) < (mid : Int)) = false := decide_eq_false (by omega)
                  by_cases c8 : mid < e ∧ e < b
                  · have d8 : decide ((mid : Int) < (e : Int)) = true := decide_eq_true (by omega)
                    have d9 : decide ((e : Int) < (b : Int)) = true := decide_eq_true (by omega)
                    obtain ⟨t1, t2, t3⟩ := CT.out.right1 (by rw [he.out]; exact KS.out.1)
                    rw [he.out] at t1 t2 t3
                    have L2 := Lib.hid (IH.out mid e b _ _ (by omega) KS.out.2.2 (by omega) (by omega) hb t1 t2 t3)
                    clear t1 t2 t3
                    have KT := Lib.hid (And.intro KS.out.1 KS.out.2.1)
                    clear KS
                    go_wp2_with fail
                    all_goals
                      refine L2.out.mono ?_
                      rintro _ W2 ⟨rfl, g2f, hS2, hO2, hA2⟩
                      have KU := Lib.hid (And.intro (CT.out.done (by rw [he.out]; exact KT.out.1) KT.out.2 hS2 hO2) hA2)
                      clear hS2 hO2 hA2 L2 KT
                      go_wp2
                      all_goals (go_end0; exact ⟨rfl, _, KU.out.1.1, KU.out.1.2, KU.out.2⟩)
                  · have KU := Lib.hid (And.intro (CT.out.done (by rw [he.out]; exact KS.out.1) KS.out.2.1 (Same.refl _ _ _) (CT.out.right0 (by rw [he.out]; exact c8) (by rw [he.out]; exact KS.out.1))) KS.out.2.2)
                    clear KS
                    by_cases c8b : mid < e
                    · have d8 : decide ((mid : Int) < (e : Int)) = true := decide_eq_true (by omega)
                      have d9 : decide ((e : Int) < (b : Int)) = false := decide_eq_false (by omega)
                      go_wp2
                      all_goals (go_end0; exact ⟨rfl, _, KU.out.1.1, KU.out.1.2, KU.out.2⟩)
                    · have d8 : decide ((mid : Int) < (e : Int)) = false := decide_eq_false (by omega)
                      go_wp2
                      all_goals (go_end0; exact ⟨rfl, _, KU.out.1.1, KU.out.1.2, KU.out.2⟩)
                · have d6 : decide ((a : Int) < (i : Int)) = false := decide_eq_false (by omega)
                  by_cases c8 : mid < e ∧ e < b
                  · have d8 : decide ((mid : Int) < (e : Int)) = true := decide_eq_true (by omega)
                    have d9 : decide ((e : Int) < (b : Int)) = true := decide_eq_true (by omega)
                    obtain ⟨t1, t2, t3⟩ := CT.out.right1 (by rw [he.out]; exact KS.out.1)
                    rw [he.out] at t1 t2 t3
                    have L2 := Lib.hid (IH.out mid e b _ _ (by omega) KS.out.2.2 (by omega) (by omega) hb t1 t2 t3)
                    clear t1 t2 t3
                    have KT := Lib.hid (And.intro KS.out.1 KS.out.2.1)
                    clear KS
                    go_wp2_with fail
                    all_goals
                      refine L2.out.mono ?_
                      rintro _ W2 ⟨rfl, g2f, hS2, hO2, hA2⟩
                      have KU := Lib.hid (And.intro (CT.out.done (by rw [he.out]; exact KT.out.1) KT.out.2 hS2 hO2) hA2)
                      clear hS2 hO2 hA2 L2 KT
                      go_wp2
                      all_goals (go_end0; exact ⟨rfl, _, KU.out.1.1, KU.out.1.2, KU.out.2⟩)
                  · have KU := Lib.hid (And.intro (CT.out.done (by rw [he.out]; exact KS.out.1) KS.out.2.1 (Same.refl _ _ _) (CT.out.right0 (by rw [he.out]; exact c8) (by rw [he.out]; exact KS.out.1))) KS.out.2.2)
                    clear KS
                    by_cases c8b : mid < e
                    · have d8 : decide ((mid : Int) < (e : Int)) = true := decide_eq_true (by omega)
                      have d9 : decide ((e : Int) < (b : Int)) = false := decide_eq_false (by omega)
                      go_wp2
                      all_goals (go_end0; exact ⟨rfl, _, KU.out.1.1, KU.out.1.2, KU.out.2⟩)
                    · have d8 : decide ((mid : Int) < (e : Int)) = false := decide_eq_false (by omega)
                      go_wp2
                      all_goals (go_end0; exact ⟨rfl, _, KU.out.1.1, KU.out.1.2, KU.out.2⟩)
            · have d4 : decide ((i : Int) < (m : Int)) = false := decide_eq_false (by omega)
              by_cases c6 : a < i ∧ i < mid
              · have d6 : decide ((a : Int) < (i : Int)) = true := decide_eq_true (by omega)
                have d7 : decide ((i : Int) < (mid : Int)) = true := decide_eq_true (by omega)
                have L1 := Lib.hid (IH.out a i mid _ _ (by omega) KR.out (by omega) (by omega) (by omega) (he.out ▸ CT.out.l1) (he.out ▸ CT.out.l2) (he.out ▸ CT.out.il))
                clear KR
                go_wp2_with fail
                refine L1.out.mono ?_
                rintro _ W1 ⟨rfl, g1f, hS1, hO1, hA1⟩
                have KS := Lib.hid (And.intro hS1 (And.intro hO1 hA1))
                clear hS1 hO1 hA1 L1 d6 d7
                by_cases c8 : mid < e ∧ e < b
                · have d8 : decide ((mid : Int) < (e : Int)) = true := decide_eq_true (by omega)
                  have d9 : decide ((e : Int) < (b : Int)) = true := decide_eq_true (by omega)
                  obtain ⟨t1, t2, t3⟩ := CT.out.right1 (by rw [he.out]; exact KS.out.1)
                  rw [he.out] at t1 t2 t3
                  have L2 := Lib.hid (IH.out mid e b _ _ (by omega) KS.out.2.2 (by omega) (by omega) hb t1 t2 t3)
                  clear t1 t2 t3
                  have KT := Lib.hid (And.intro KS.out.1 KS.out.2.1)
                  clear KS
                  go_wp2_with fail
                  all_goals
                    refine L2.out.mono ?_
                    rintro _ W2 ⟨rfl, g2f, hS2, hO2, hA2⟩
                    have KU := Lib.hid (And.intro (CT.out.done (by rw [he.out]; exact KT.out.1) KT.out.2 hS2 hO2) hA2)
                    clear hS2 hO2 hA2 L2 KT
                    go_wp2
                    all_goals (go_end0; exact ⟨rfl, _, KU.out.1.1, KU.out.1.2, KU.out.2⟩)
                · have KU := Lib.hid (And.intro (CT.out.done (by rw [he.out]; exact KS.out.1) KS.out.2.1 (Same.refl _ _ _) (CT.out.right0 (by rw [he.out]; exact c8) (by rw [he.out]; exact KS.out.1))) KS.out.2.2)
                  clear KS
                  by_cases c8b : mid < e
                  · have d8 : decide ((mid : Int) < (e : Int)) = true := decide_eq_true (by omega)
                    have d9 : decide ((e : Int) < (b : Int)) = false := decide_eq_false (by omega)
                    go_wp2
                    all_goals (go_end0; exact ⟨rfl, _, KU.out.1.1, KU.out.1.2, KU.out.2⟩)
                  · have d8 : decide ((mid : Int) < (e : Int)) = false := decide_eq_false (by omega)
                    go_wp2
                    all_goals (go_end0; exact ⟨rfl, _, KU.out.1.1, KU.out.1.2, KU.out.2⟩)
              · have KS := Lib.hid (And.intro (Same.refl (rot f i m e) a mid) (And.intro (he.out ▸ CT.out.left0 c6 : Srt dl (rot f i m e) a mid) KR.out))
                clear KR
                by_cases c6b : a < i
                · have d6 : decide ((a : Int) < (i : Int)) = true := decide_eq_true (by omega)
                  have d7 : decide ((i : Int) < (mid : Int)) = false := decide_eq_false (by omega)
                  by_cases c8 : mid < e ∧ e < b
                  · have d8 : decide ((mid : Int) < (e : Int)) = true := decide_eq_true (by omega)
                    have d9 : decide ((e : Int) < (b : Int)) = true := decide_eq_true (by omega)
                    obtain ⟨t1, t2, t3⟩ := CT.out.right1 (by rw [he.out]; exact KS.out.1)
                    rw [he.out] at t1 t2 t3
                    have L2 := Lib.hid (IH.out mid e b _ _ (by omega) KS.out.2.2 (by omega) (by omega) hb t1 t2 t3)
                    clear t1 t2 t3
                    have KT := Lib.hid (And.intro KS.out.1 KS.out.2.1)
                    clear KS
                    go_wp2_with fail
                    all_goals
                      refine L2.out.mono ?_
                      rintro _ W2 ⟨rfl, g2f, hS2, hO2, hA2⟩
                      have KU := Lib.hid (And.intro (CT.out.done (by rw [he.out]; exact KT.out.1) KT.out.2 hS2 hO2) hA2)
                      clear hS2 hO2 hA2 L2 KT
                      go_wp2
                      all_goals (go_end0; exact ⟨rfl, _, KU.out.1.1, KU.out.1.2, KU.out.2⟩)
                  · have KU := Lib.hid (And.intro (CT.out.done (by rw [he.out]; exact KS.out.1) KS.out.2.1 (Same.refl _ _ _) (CT.out.right0 (by rw [he.out]; exact c8) (by rw [he.out]; exact KS.out.1))) KS.out.2.2)
                    clear KS
                    by_cases c8b : mid < e
                    · have d8 : decide ((mid : Int) < (e : Int)) = true := decide_eq_true (by omega)
                      have d9 : decide ((e : Int) < (b : Int)) = false := decide_eq_false (by omega)
                      go_wp2
                      all_goals (go_end0; exact ⟨rfl, _, KU.out.1.1, KU.out.1.2, KU.out.2⟩)
                    · have d8 : decide ((mid : Int) < (e : Int)) = false := decide_eq_false (by omega)
                      go_wp2
                      all_goals (go_end0; exact ⟨rfl, _, KU.out.1.1, KU.out.1.2, KU.out.2⟩)
                · have d6 : decide ((a : Int) < (i : Int)) = false := decide_eq_false (by omega)
                  by_cases c8 : mid < e ∧ e < b
                  · have d8 : decide ((mid : Int) < (e : Int)) = true := decide_eq_true (by omega)
                    have d9 : decide ((e : Int) < (b : Int)) = true := decide_eq_true (by omega)
                    obtain ⟨t1, t2, t3⟩ := CT.out.right1 (by rw [he.out]; exact KS.out.1)
                    rw [he.out] at t1 t2 t3
                    have L2 := Lib.hid (IH.out mid e b _ _ (by omega) KS.out.2.2 (by omega) (by omega) hb t1 t2 t3)
                    clear t1 t2 t3
                    have KT := Lib.hid (And.intro KS.out.1 KS.out.2.1)
                    clear KS
                    go_wp2_with fail
                    all_goals
                      refine L2.out.mono ?_
                      rintro _ W2 ⟨rfl, g2f, hS2, hO2, hA2⟩
                      have KU := Lib.hid (And.intro (CT.out.done (by rw [he.out]; exact KT.out.1) KT.out.2 hS2 hO2) hA2)
                      clear hS2 hO2 hA2 L2 KT
                      go_wp2
                      all_goals (go_end0; exact ⟨rfl, _, KU.out.1.1, KU.out.1.2, KU.out.2⟩)
                  · have KU := Lib.hid (And.intro (CT.out.done (by rw [he.out]; exact KS.out.1) KS.out.2.1 (Same.refl _ _ _) (CT.out.right0 (by rw [he.out]; exact c8) (by rw [he.out]; exact KS.out.1))) KS.out.2.2)
                    clear KS
                    by_cases c8b : mid < e
                    · have d8 : decide ((mid : Int) < (e : Int)) = true := decide_eq_true (by omega)
                      have d9 : decide ((e : Int) < (b : Int)) = false := decide_eq_false (by omega)
                      go_wp2
                      all_goals (go_end0; exact ⟨rfl, _, KU.out.1.1, KU.out.1.2, KU.out.2⟩)
                    · have d8 : decide ((mid : Int) < (e : Int)) = false := decide_eq_false (by omega)
                      go_wp2
                      all_goals (go_end0; exact ⟨rfl, _, KU.out.1.1, KU.out.1.2, KU.out.2⟩)
    · have d0 : decide ((m : Int) > (mid : Int)) = false := decide_eq_false (by omega)
      replace hr0 := Lib.hid (And.intro hs0 hr0)
      clear hs0
      go_wp2
      go_loopw [20, 21] (fun s1 s2 wr => ∃ (i j : Nat), s1 = .int .i64 (i : Int) ∧ s2 = .int .i64 (j : Int) ∧ s0 ≤ i ∧ i ≤ j ∧ j ≤ r0 ∧ Hid ((i = s0 ∨ TT dl (f (i - 1)) (f (mid + m - i))) ∧ (j = r0 ∨ TT dl (f (mid + m - j - 1)) (f j)) ∧ At w0 B o n f wr)) (fun s1 s2 _ => (intOf s2).toNat - (intOf s1).toNat)
      case atStart => exact ⟨s0, r0, by first | rw [hr0.out.1] | rfl | simp, by first | rw [hr0.out.2] | rfl, Nat.le_refl _, F.out.2.1, Nat.le_refl _, Lib.hid ⟨.inl rfl, .inl rfl, H.out⟩⟩
      case round =>
        clear H hr0 D
        obtain ⟨i, j, rfl, rfl, hmi, hij, hjb, K⟩ := hrel
        rcases Nat.lt_or_ge i j with hlt | hge
        · have d1 : decide ((i : Int) < (j : Int)) = true := decide_eq_true (by omega)
          have g1 := F.out.2.2.1
          have g2 := F.out.2.2.2.1
          have g3 := F.out.2.2.2.2.1
          have g0 := F.out.1
          have u1 : IntKind.i64.wrap ((i : Int) + (j : Int)) = (i : Int) + (j : Int) := by rw [IntKind.wrap_i64]; omega
          have u2 : IntKind.u64.wrap ((i : Int) + (j : Int)) = (i : Int) + (j : Int) := by rw [IntKind.wrap_u64]; omega
          obtain ⟨h, u3, hh1, hh2⟩ : ∃ h : Nat, ((i : Int) + (j : Int)) / 2 = (h : Int) ∧ i ≤ h ∧ h < j := ⟨(i + j) / 2, by omega, by omega, by omega⟩
          have u4 : IntKind.u64.wrap (h : Int) = (h : Int) := by rw [IntKind.wrap_u64]; omega
          have u5 : IntKind.i64.wrap (h : Int) = (h : Int) := by rw [IntKind.wrap_i64]; omega
          have u6 : IntKind.i64.wrap ((h : Int) + 1) = (h : Int) + 1 := by rw [IntKind.wrap_i64]; omega
          obtain ⟨z, u7, hz⟩ : ∃ z : Nat, IntKind.i64.wrap ((pp : Int) - (h : Int)) = (z : Int) ∧ Hid (z = mid + m - h - 1) := ⟨mid + m - h - 1, by have := hpp.out; have := hnn.out; rw [IntKind.wrap_i64]; omega, rfl⟩
          have z1 : m ≤ z := by rw [hz.out]; omega
          have z2 : z < b := by rw [hz.out]; omega
          have b1 : (h : Int) < (n : Int) := by omega
          have b2 : (z : Int) < (n : Int) := by omega
          obtain ⟨x, y, c, hx, hy, hc, cx, cy, C⟩ := K.out.2.2.cmp HC.out (i := z) (j := h) (by omega) (by omega)
          by_cases hneg : c < 0
          · have d3 : decide (c < 0) = true := decide_eq_true hneg
            have hl := hc.1 hneg
            rw [← hx, ← hy] at hl
            have hl := TT.of_lt hl
            rw [hz.out] at hl
            have K4 := Lib.hid (And.intro hl K.out)
            clear hc hl hx hy K hneg
            go_wp2
            go_quiet (first | (go_at_call 36; refine Ret.quiet (C.out _)))
            clear C cx cy
            have K5 := Lib.hid (And.intro K4.out.1 (And.intro K4.out.2.1 (K4.out.2.2.2.drewN nq)))
            clear K4
            generalize World.drewN _ _ = W at K5 ⊢
            go_wp2
            go_roundw
            case rel => exact ⟨i, h, rfl, by first | rfl | simp, hmi, by omega, by omega, Lib.hid ⟨K5.out.2.1, .inr K5.out.1, K5.out.2.2⟩⟩
            case measure => simp [intOf]; omega
          · have d3 : decide (c < 0) = false := decide_eq_false hneg
            have hl : ¬ dl x < dl y := fun h => hneg (hc.2 h)
            rw [← hx, ← hy] at hl
            have hl := TT.of_ge hl (HA.out.2.2 h z (by omega) (by omega) z1 z2)
            rw [show z = mid + m - (h + 1) by rw [hz.out]; omega] at hl
            have K4 := Lib.hid (And.intro hl K.out)
            clear hc hl hx hy K hneg
            go_wp2
            go_quiet (first | (go_at_call 36; refine Ret.quiet (C.out _)))
            clear C cx cy
            have K5 := Lib.hid (And.intro K4.out.1 (And.intro K4.out.2.2.1 (K4.out.2.2.2.drewN nq)))
            clear K4
            generalize World.drewN _ _ = W at K5 ⊢
            go_wp2
            go_roundw
            case rel => exact ⟨h + 1, j, by first | rfl | simp, rfl, by omega, by omega, hjb, Lib.hid ⟨.inr K5.out.1, K5.out.2⟩⟩
            case measure => simp [intOf]; omega
        · have d1 : decide ((i : Int) < (j : Int)) = false := decide_eq_false (by omega)
          obtain rfl : i = j := by omega
          have CT : Hid (Cut dl f a m b mid i) := by
            have g := F.out
            refine Cut.of (by omega) (by omega) (by omega) (by omega) (by omega) (by omega) HA.out.1 HA.out.2.1 HA.out.2.2 ?_ ?_
            · rcases K.out.1 with k | k
              · rcases g.2.2.2.2.2.1 with k2 | k2
                · exact .inl (by omega)
                · exact .inr (.inl (by omega))
              · exact .inr (.inr k)
            · rcases K.out.2.1 with k | k
              · rcases g.2.2.2.2.2.2 with k2 | k2
                · exact .inl (by omega)
                · exact .inr (.inl (by omega))
              · exact .inr (.inr k)
          have K2 := Lib.hid K.out.2.2
          clear K HA F
          have g1 := CT.out.a1
          have g2 := CT.out.a2
          have g3 := CT.out.a3
          have g4 := CT.out.a4
          obtain ⟨e, v1, he⟩ : ∃ e : Nat, IntKind.i64.wrap ((nn : Int) - (i : Int)) = (e : Int) ∧ mid + m - i = e := ⟨mid + m - i, by have := hnn.out; rw [IntKind.wrap_i64]; omega, rfl⟩
          have R0 := Lib.hid (fun h1 h2 => rotate_any w0 B o n cap i m e f wr (.func (.func 36) #[] #[.pointer (some ⟨X, 0, none⟩)]) hn hcap K2.out h1 h2 (by omega))
          clear HC hmi hij hjb hge
          replace he := Lib.hid he
          by_cases c4 : i < m ∧ m < e
          · have d4 : decide ((i : Int) < (m : Int)) = true := decide_eq_true (by omega)
            have d5 : decide ((m : Int) < (e : Int)) = true := decide_eq_true (by omega)
            clear K2
            go_wp2_with fail
            refine (R0.out c4.1 c4.2).mono ?_
            rintro _ W ⟨rfl, hA⟩
            have KR := Lib.hid hA
            clear hA R0 d4 d5
            by_cases c6 : a < i ∧ i < mid
            · have d6 : decide ((a : Int) < (i : Int)) = true := decide_eq_true (by omega)
              have d7 : decide ((i : Int) < (mid : Int)) = true := decide_eq_true (by omega)
              have L1 := Lib.hid (IH.out a i mid _ _ (by omega) KR.out (by omega) (by omega) (by omega) (he.out ▸ CT.out.l1) (he.out ▸ CT.out.l2) (he.out ▸ CT.out.il))
              clear KR
              go_wp2_with fail
              refine L1.out.mono ?_
              rintro _ W1 ⟨rfl, g1f, hS1, hO1, hA1⟩
              have KS := Lib.hid (And.intro hS1 (And.intro hO1 hA1))
              clear hS1 hO1 hA1 L1 d6 d7
              by_cases c8 : mid < e ∧ e < b
              · have d8 : decide ((mid : Int) < (e : Int)) = true := decide_eq_true (by omega)
                have d9 : decide ((e : Int) < (b : Int)) = true := decide_eq_true (by omega)
                obtain ⟨t1, t2, t3⟩ := CT.out.right1 (by rw [he.out]; exact KS.out.1)
                rw [he.out] at t1 t2 t3
                have L2 := Lib.hid (IH.out mid e b _ _ (by omega) KS.out.2.2 (by omega) (by omega) hb t1 t2 t3)
                clear t1 t2 t3
                have KT := Lib.hid (And.intro KS.out.1 KS.out.2.1)
                clear KS
                go_wp2_with fail
                all_goals
                  refine L2.out.mono ?_
                  rintro _ W2 ⟨rfl, g2f, hS2, hO2, hA2⟩
                  have KU := Lib.hid (And.intro (CT.out.done (by rw [he.out]; exact KT.out.1) KT.out.2 hS2 hO2) hA2)
                  clear hS2 hO2 hA2 L2 KT
                  go_wp2
                  all_goals (go_end0; exact ⟨rfl, _, KU.out.1.1, KU.out.1.2, KU.out.2⟩)
              · have KU := Lib.hid (And.intro (CT.out.done (by rw [he.out]; exact KS.out.1) KS.out.2.1 (Same.refl _ _ _) (CT.out.right0 (by rw [he.out]; exact c8) (by rw [he.out]; exact KS.out.1))) KS.out.2.2)
                clear KS
                by_cases c8b : mid < e
                · have d8 : decide ((mid : Int) < (e : Int)) = true := decide_eq_true (by omega)
                  have d9 : decide ((e : Int) < (b : Int)) = false := decide_eq_false (by omega)
                  go_wp2
                  all_goals (go_end0; exact ⟨rfl, _, KU.out.1.1, KU.out.1.2, KU.out.2⟩)
                · have d8 : decide ((mid : Int) < (e : Int)) = false := decide_eq_false (by omega)
                  go_wp2
                  all_goals (go_end0; exact ⟨rfl, _, KU.out.1.1, KU.out.1.2, KU.out.2⟩)
            · have KS := Lib.hid (And.intro (Same.refl (rot f i m e) a mid) (And.intro (he.out ▸ CT.out.left0 c6 : Srt dl (rot f i m e) a mid) KR.out))
              clear KR
              by_cases c6b : a < i
              · have d6 : decide ((a : Int) < (i : Int)) = true := decide_eq_true (by omega)
                have d7 : decide ((i : Int) < (mid : Int)) = false := decide_eq_false (by omega)
                by_cases c8 : mid < e ∧ e < b
                · have d8 : decide ((mid : Int) < (e : Int)) = true := decide_eq_true (by omega)
                  have d9 : decide ((e : Int) < (b : Int)) = true := decide_eq_true (by omega)
                  obtain ⟨t1, t2, t3⟩ := CT.out.right1 (by rw [he.out]; exact KS.out.1)
                  rw [he.out] at t1 t2 t3
                  have L2 := Lib.hid (IH.out mid e b _ _ (by omega) KS.out.2.2 (by omega) (by omega) hb t1 t2 t3)
                  clear t1 t2 t3
                  have KT := Lib.hid (And.intro KS.out.1 KS.out.2.1)
                  clear KS
                  go_wp2_with fail
                  all_goals
                    refine L2.out.mono ?_
                    rintro _ W2 ⟨rfl, g2f, hS2, hO2, hA2⟩
                    have KU := Lib.hid (And.intro (CT.out.done (by rw [he.out]; exact KT.out.1) KT.out.2 hS2 hO2) hA2)
                    clear hS2 hO2 hA2 L2 KT
                    go_wp2
                    all_goals (go_end0; exact ⟨rfl, _, KU.out.1.1, KU.out.1.2, KU.out.2⟩)
                · have KU := Lib.hid (And.intro (CT.out.done (by rw [he.out]; exact KS.out.1) KS.out.2.1 (Same.refl _ _ _) (CT.out.right0 (by rw [he.out]; exact c8) (by rw [he.out]; exact KS.out.1))) KS.out.2.2)
                  clear KS
                  by_cases c8b : mid < e
                  · have d8 : decide ((mid : Int) < (e : Int)) = true := decide_eq_true (by omega)
                    have d9 : decide ((e : Int) < (b : Int)) = false := decide_eq_false (by omega)
                    go_wp2
                    all_goals (go_end0; exact ⟨rfl, _, KU.out.1.1, KU.out.1.2, KU.out.2⟩)
                  · have d8 : decide ((mid : Int) < (e : Int)) = false := decide_eq_false (by omega)
                    go_wp2
                    all_goals (go_end0; exact ⟨rfl, _, KU.out.1.1, KU.out.1.2, KU.out.2⟩)
              · have d6 : decide ((a : Int) < (i : Int)) = false := decide_eq_false (by omega)
                by_cases c8 : mid < e ∧ e < b
                · have d8 : decide ((mid : Int) < (e : Int)) = true := decide_eq_true (by omega)
                  have d9 : decide ((e : Int) < (b : Int)) = true := decide_eq_true (by omega)
                  obtain ⟨t1, t2, t3⟩ := CT.out.right1 (by rw [he.out]; exact KS.out.1)
                  rw [he.out] at t1 t2 t3
                  have L2 := Lib.hid (IH.out mid e b _ _ (by omega) KS.out.2.2 (by omega) (by omega) hb t1 t2 t3)
                  clear t1 t2 t3
                  have KT := Lib.hid (And.intro KS.out.1 KS.out.2.1)
                  clear KS
                  go_wp2_with fail
                  all_goals
                    refine L2.out.mono ?_
                    rintro _ W2 ⟨rfl, g2f, hS2, hO2, hA2⟩
                    have KU := Lib.hid (And.intro (CT.out.done (by rw [he.out]; exact KT.out.1) KT.out.2 hS2 hO2) hA2)
                    clear hS2 hO2 hA2 L2 KT
                    go_wp2
                    all_goals (go_end0; exact ⟨rfl, _, KU.out.1.1, KU.out.1.2, KU.out.2⟩)
                · have KU := Lib.hid (And.intro (CT.out.done (by rw [he.out]; exact KS.out.1) KS.out.2.1 (Same.refl _ _ _) (CT.out.right0 (by rw [he.out]; exact c8) (by rw [he.out]; exact KS.out.1))) KS.out.2.2)
                  clear KS
                  by_cases c8b : mid < e
                  · have d8 : decide ((mid : Int) < (e : Int)) = true := decide_eq_true (by omega)
                    have d9 : decide ((e : Int) < (b : Int)) = false := decide_eq_false (by omega)
                    go_wp2
                    all_goals (go_end0; exact ⟨rfl, _, KU.out.1.1, KU.out.1.2, KU.out.2⟩)
                  · have d8 : decide ((mid : Int) < (e : Int)) = false := decide_eq_false (by omega)
                    go_wp2
                    all_goals (go_end0; exact ⟨rfl, _, KU.out.1.1, KU.out.1.2, KU.out.2⟩)
          · have KR : Hid (At w0 B o n (rot f i m e) wr) := by rw [rot_none f i m e g2 (by have := he.out; omega) (by have := he.out; omega)]; exact K2.out
            clear K2 R0
            by_cases c4b : i < m
            · have d4 : decide ((i : Int) < (m : Int)) = true := decide_eq_true (by omega)
              have d5 : decide ((m : Int) < (e : Int)) = false := decide_eq_false (by omega)
              by_cases c6 : a < i ∧ i < mid
              · have d6 : decide ((a : Int) < (i : Int)) = true := decide_eq_true (by omega)
                have d7 : decide ((i : Int) < (mid : Int)) = true := decide_eq_true (by omega)
                have L1 := Lib.hid (IH.out a i mid _ _ (by omega) KR.out (by omega) (by omega) (by omega) (he.out ▸ CT.out.l1) (he.out ▸ CT.out.l2) (he.out ▸ CT.out.il))
                clear KR
                go_wp2_with fail
                refine L1.out.mono ?_
                rintro _ W1 ⟨rfl, g1f, hS1, hO1, hA1⟩
                have KS := Lib.hid (And.intro hS1 (And.intro hO1 hA1))
                clear hS1 hO1 hA1 L1 d6 d7
                by_cases c8 : mid < e ∧ e < b
                · have d8 : decide ((mid : Int) < (e : Int)) = true := decide_eq_true (by omega)
                  have d9 : decide ((e : Int) < (b : Int)) = true := decide_eq_true (by omega)
                  obtain ⟨t1, t2, t3⟩ := CT.out.right1 (by rw [he.out]; exact KS.out.1)
                  rw [he.out] at t1 t2 t3
                  have L2 := Lib.hid (IH.out mid e b _ _ (by omega) KS.out.2.2 (by omega) (by omega) hb t1 t2 t3)
                  clear t1 t2 t3
                  have KT := Lib.hid (And.intro KS.out.1 KS.out.2.1)
                  clear KS
                  go_wp2_with fail
                  all_goals
                    refine L2.out.mono ?_
                    rintro _ W2 ⟨rfl, g2f, hS2, hO2, hA2⟩
                    have KU := Lib.hid (And.intro (CT.out.done (by rw [he.out]; exact KT.out.1) KT.out.2 hS2 hO2) hA2)
                    clear hS2 hO2 hA2 L2 KT
                    go_wp2
                    all_goals (go_end0; exact ⟨rfl, _, KU.out.1.1, KU.out.1.2, KU.out.2⟩)
                · have KU := Lib.hid (And.intro (CT.out.done (by rw [he.out]; exact KS.out.1) KS.out.2.1 (Same.refl _ _ _) (CT.out.right0 (by rw [he.out]; exact c8) (by rw [he.out]; exact KS.out.1))) KS.out.2.2)
                  clear KS
                  by_cases c8b : mid < e
                  · have d8 : decide ((mid : Int) < (e : Int)) = true := decide_eq_true (by omega)
                    have d9 : decide ((e : Int) < (b : Int)) = false := decide_eq_false (by omega)
                    go_wp2
                    all_goals (go_end0; exact ⟨rfl, _, KU.out.1.1, KU.out.1.2, KU.out.2⟩)
                  · have d8 : decide ((mid : Int) < (e : Int)) = false := decide_eq_false (by omega)
                    go_wp2
                    all_goals (go_end0; exact ⟨rfl, _, KU.out.1.1, KU.out.1.2, KU.out.2⟩)
              · have KS := Lib.hid (And.intro (Same.refl (rot f i m e) a mid) (And.intro (he.out ▸ CT.out.left0 c6 : Srt dl (rot f i m e) a mid) KR.out))
                clear KR
                by_cases c6b : a < i
                · have d6 : decide ((a : Int) < (i : Int)) = true := decide_eq_true (by omega)
                  have d7 : decide ((i : Int) < (mid : Int)) = false := decide_eq_false (by omega)
                  by_cases c8 : mid < e ∧ e < b
                  · have d8 : decide ((mid : Int) < (e : Int)) = true := decide_eq_true (by omega)
                    have d9 : decide ((e : Int) < (b : Int)) = true := decide_eq_true (by omega)
                    obtain ⟨t1, t2, t3⟩ := CT.out.right1 (by rw [he.out]; exact KS.out.1)
                    rw [he.out] at t1 t2 t3
                    have L2 := Lib.hid (IH.out mid e b _ _ (by omega) KS.out.2.2 (by omega) (by omega) hb t1 t2 t3)
                    clear t1 t2 t3
                    have KT := Lib.hid (And.intro KS.out.1 KS.out.2.1)
                    clear KS
                    go_wp2_with fail
                    all_goals
                      refine L2.out.mono ?_
                      rintro _ W2 ⟨rfl, g2f, hS2, hO2, hA2⟩
                      have KU := Lib.hid (And.intro (CT.out.done (by rw [he.out]; exact KT.out.1) KT.out.2 hS2 hO2) hA2)
                      clear hS2 hO2 hA2 L2 KT
                      go_wp2
                      all_goals (go_end0; exact ⟨rfl, _, KU.out.1.1, KU.out.1.2, KU.out.2⟩)
                  · have KU := Lib.hid (And.intro (CT.out.done (by rw [he.out]; exact KS.out.1) KS.out.2.1 (Same.refl _ _ _) (CT.out.right0 (by rw [he.out]; exact c8) (by rw [he.out]; exact KS.out.1))) KS.out.2.2)
                    clear KS
                    by_cases c8b : mid < e
                    · have d8 : decide ((mid : Int) < (e : Int)) = true := decide_eq_true (by omega)
                      have d9 : decide ((e : Int) < (b : Int)) = false := decide_eq_false (by omega)
                      go_wp2
                      all_goals (go_end0; exact ⟨rfl, _, KU.out.1.1, KU.out.1.2, KU.out.2⟩)
                    · have d8 : decide ((mid : Int) < (e : Int)) = false := decide_eq_false (by omega)
                      go_wp2
                      all_goals (go_end0; exact ⟨rfl, _, KU.out.1.1, KU.out.1.2, KU.out.2⟩)
                · have d6 : decide ((a : Int) < (i : Int)) = false := decide_eq_false (by omega)
                  by_cases c8 : mid < e ∧ e < b
                  · have d8 : decide ((mid : Int) < (e : Int)) = true := decide_eq_true (by omega)
                    have d9 : decide ((e : Int) < (b : Int)) = true := decide_eq_true (by omega)
                    obtain ⟨t1, t2, t3⟩ := CT.out.right1 (by rw [he.out]; exact KS.out.1)
                    rw [he.out] at t1 t2 t3
                    have L2 := Lib.hid (IH.out mid e b _ _ (by omega) KS.out.2.2 (by omega) (by omega) hb t1 t2 t3)
                    clear t1 t2 t3
                    have KT := Lib.hid (And.intro KS.out.1 KS.out.2.1)
                    clear KS
                    go_wp2_with fail
                    all_goals
                      refine L2.out.mono ?_
                      rintro _ W2 ⟨rfl, g2f, hS2, hO2, hA2⟩
                      have KU := Lib.hid (And.intro (CT.out.done (by rw [he.out]; exact KT.out.1) KT.out.2 hS2 hO2) hA2)
                      clear hS2 hO2 hA2 L2 KT
                      go_wp2
                      all_goals (go_end0; exact ⟨rfl, _, KU.out.1.1, KU.out.1.2, KU.out.2⟩)
                  · have KU := Lib.hid (And.intro (CT.out.done (by rw [he.out]; exact KS.out.1) KS.out.2.1 (Same.refl _ _ _) (CT.out.right0 (by rw [he.out]; exact c8) (by rw [he.out]; exact KS.out.1))) KS.out.2.2)
                    clear KS
                    by_cases c8b : mid < e
                    · have d8 : decide ((mid : Int) < (e : Int)) = true := decide_eq_true (by omega)
                      have d9 : decide ((e : Int) < (b : Int)) = false := decide_eq_false (by omega)
                      go_wp2
                      all_goals (go_end0; exact ⟨rfl, _, KU.out.1.1, KU.out.1.2, KU.out.2⟩)
                    · have d8 : decide ((mid : Int) < (e : Int)) = false := decide_eq_false (by omega)
                      go_wp2
                      all_goals (go_end0; exact ⟨rfl, _, KU.out.1.1, KU.out.1.2, KU.out.2⟩)
            · have d4 : decide ((i : Int) < (m : Int)) = false := decide_eq_false (by omega)
              by_cases c6 : a < i ∧ i < mid
              · have d6 : decide ((a : Int) < (i : Int)) = true := decide_eq_true (by omega)
                have d7 : decide ((i : Int) < (mid : Int)) = true := decide_eq_true (by omega)
                have L1 := Lib.hid (IH.out a i mid _ _ (by omega) KR.out (by omega) (by omega) (by omega) (he.out ▸ CT.out.l1) (he.out ▸ CT.out.l2) (he.out ▸ CT.out.il))
                clear KR
                go_wp2_with fail
                refine L1.out.mono ?_
                rintro _ W1 ⟨rfl, g1f, hS1, hO1, hA1⟩
                have KS := Lib.hid (And.intro hS1 (And.intro hO1 hA1))
                clear hS1 hO1 hA1 L1 d6 d7
                by_cases c8 : mid < e ∧ e < b
                · have d8 : decide ((mid : Int) < (e : Int)) = true := decide_eq_true (by omega)
                  have d9 : decide ((e : Int) < (b : Int)) = true := decide_eq_true (by omega)
                  obtain ⟨t1, t2, t3⟩ := CT.out.right1 (by rw [he.out]; exact KS.out.1)
                  rw [he.out] at t1 t2 t3
                  have L2 := Lib.hid (IH.out mid e b _ _ (by omega) KS.out.2.2 (by omega) (by omega) hb t1 t2 t3)
                  clear t1 t2 t3
                  have KT := Lib.hid (And.intro KS.out.1 KS.out.2.1)
                  clear KS
                  go_wp2_with fail
                  all_goals
                    refine L2.out.mono ?_
                    rintro _ W2 ⟨rfl, g2f, hS2, hO2, hA2⟩
                    have KU := Lib.hid (And.intro (CT.out.done (by rw [he.out]; exact KT.out.1) KT.out.2 hS2 hO2) hA2)
                    clear hS2 hO2 hA2 L2 KT
                    go_wp2
                    all_goals (go_end0; exact ⟨rfl, _, KU.out.1.1, KU.out.1.2, KU.out.2⟩)
                · have KU := Lib.hid (And.intro (CT.out.done (by rw [he.out]; exact KS.out.1) KS.out.2.1 (Same.refl _ _ _) (CT.out.right0 (by rw [he.out]; exact c8) (by rw [he.out]; exact KS.out.1))) KS.out.2.2)
                  clear KS
                  by_cases c8b : mid < e
                  · have d8 : decide ((mid : Int) < (e : Int)) = true := decide_eq_true (by omega)
                    have d9 : decide ((e : Int) < (b : Int)) = false := decide_eq_false (by omega)
                    go_wp2
                    all_goals (go_end0; exact ⟨rfl, _, KU.out.1.1, KU.out.1.2, KU.out.2⟩)
                  · have d8 : decide ((mid : Int) < (e : Int)) = false := decide_eq_false (by omega)
                    go_wp2
                    all_goals (go_end0; exact ⟨rfl, _, KU.out.1.1, KU.out.1.2, KU.out.2⟩)
              · have KS := Lib.hid (And.intro (Same.refl (rot f i m e) a mid) (And.intro (he.out ▸ CT.out.left0 c6 : Srt dl (rot f i m e) a mid) KR.out))
                clear KR
                by_cases c6b : a < i
                · have d6 : decide ((a : Int) < (i : Int)) = true := decide_eq_true (by omega)
                  have d7 : decide ((i : Int) < (mid : Int)) = false := decide_eq_false (by omega)
                  by_cases c8 : mid < e ∧ e < b
                  · have d8 : decide ((mid : Int) < (e : Int)) = true := decide_eq_true (by omega)
                    have d9 : decide ((e : Int) < (b : Int)) = true := decide_eq_true (by omega)
                    obtain ⟨t1, t2, t3⟩ := CT.out.right1 (by rw [he.out]; exact KS.out.1)
                    rw [he.out] at t1 t2 t3
                    have L2 := Lib.hid (IH.out mid e b _ _ (by omega) KS.out.2.2 (by omega) (by omega) hb t1 t2 t3)
                    clear t1 t2 t3
                    have KT := Lib.hid (And.intro KS.out.1 KS.out.2.1)
                    clear KS
                    go_wp2_with fail
                    all_goals
                      refine L2.out.mono ?_
                      rintro _ W2 ⟨rfl, g2f, hS2, hO2, hA2⟩
                      have KU := Lib.hid (And.intro (CT.out.done (by rw [he.out]; exact KT.out.1) KT.out.2 hS2 hO2) hA2)
                      clear hS2 hO2 hA2 L2 KT
                      go_wp2
                      all_goals (go_end0; exact ⟨rfl, _, KU.out.1.1, KU.out.1.2, KU.out.2⟩)
                  · have KU := Lib.hid (And.intro (CT.out.done (by rw [he.out]; exact KS.out.1) KS.out.2.1 (Same.refl _ _ _) (CT.out.right0 (by rw [he.out]; exact c8) (by rw [he.out]; exact KS.out.1))) KS.out.2.2)
                    clear KS
                    by_cases c8b : mid < e
                    · have d8 : decide ((mid : Int) < (e : Int)) = true := decide_eq_true (by omega)
                      have d9 : decide ((e : Int) < (b : Int)) = false := decide_eq_false (by omega)
                      go_wp2
                      all_goals (go_end0; exact ⟨rfl, _, KU.out.1.1, KU.out.1.2, KU.out.2⟩)
                    · have d8 : decide ((mid : Int) < (e : Int)) = false := decide_eq_false (by omega)
                      go_wp2
                      all_goals (go_end0; exact ⟨rfl, _, KU.out.1.1, KU.out.1.2, KU.out.2⟩)
                · have d6 : decide ((a : Int) < (i : Int)) = false := decide_eq_false (by omega)
                  by_cases c8 : mid < e ∧ e < b
                  · have d8 : decide ((mid : Int) < (e : Int)) = true := decide_eq_true (by omega)
                    have d9 : decide ((e : Int) < (b : Int)) = true := decide_eq_true (by omega)
                    obtain ⟨t1, t2, t3⟩ := CT.out.right1 (by rw [he.out]; exact KS.out.1)
                    rw [he.out] at t1 t2 t3
                    have L2 := Lib.hid (IH.out mid e b _ _ (by omega) KS.out.2.2 (by omega) (by omega) hb t1 t2 t3)
                    clear t1 t2 t3
                    have KT := Lib.hid (And.intro KS.out.1 KS.out.2.1)
                    clear KS
                    go_wp2_with fail
                    all_goals
                      refine L2.out.mono ?_
                      rintro _ W2 ⟨rfl, g2f, hS2, hO2, hA2⟩
                      have KU := Lib.hid (And.intro (CT.out.done (by rw [he.out]; exact KT.out.1) KT.out.2 hS2 hO2) hA2)
                      clear hS2 hO2 hA2 L2 KT
                      go_wp2
                      all_goals (go_end0; exact ⟨rfl, _, KU.out.1.1, KU.out.1.2, KU.out.2⟩)
                  · have KU := Lib.hid (And.intro (CT.out.done (by rw [he.out]; exact KS.out.1) KS.out.2.1 (Same.refl _ _ _) (CT.out.right0 (by rw [he.out]; exact c8) (by rw [he.out]; exact KS.out.1))) KS.out.2.2)
                    clear KS
                    by_cases c8b : mid < e
                    · have d8 : decide ((mid : Int) < (e : Int)) = true := decide_eq_true (by omega)
                      have d9 : decide ((e : Int) < (b : Int)) = false := decide_eq_false (by omega)
                      go_wp2
                      all_goals (go_end0; exact ⟨rfl, _, KU.out.1.1, KU.out.1.2, KU.out.2⟩)
                    · have d8 : decide ((mid : Int) < (e : Int)) = false := decide_eq_false (by omega)
                      go_wp2
                      all_goals (go_end0; exact ⟨rfl, _, KU.out.1.1, KU.out.1.2, KU.out.2⟩)
end Go.Proofs.YtacffjkhbajgkaaDoor
