/- The library's stable sort of a row of indices, by a comparison of deadlines: insertion, exchange of ranges, rotation. -/
import Derived.Test.YtacffjkhbajgkaaDoorJbSortM
import Derived.Test.YtacffjkhbajgkaaDoorRegT
import Derived.BigRegion
namespace Go.Proofs.YtacffjkhbajgkaaDoor
open Go.RowKit
set_option linter.unusedVariables false
set_option linter.unusedSimpArgs false

/-- Block B is one of ints. -/
def TyI (w : World) (B : Nat) : Prop := ∃ cs fr, w.heap[B]? = some (.cells cs 3 fr)
theorem TyI.set {w : World} {B : Nat} (h : TyI w B) (k : Nat) (v : Value) : TyI (w.setCell ⟨B, k, none⟩ v) B := by
  obtain ⟨cs, fr, h⟩ := h
  obtain ⟨hlt, hk⟩ := Array.getElem?_eq_some_iff.1 h
  refine ⟨cs.setIfInBounds k v, fr, ?_⟩
  show (w.heap.modify B _)[B]? = _
  rw [Array.getElem?_eq_getElem (by rw [Array.size_modify]; exact hlt), Array.getElem_modify_self, hk]
  rfl
/-- The row of a sort in memory: all below it as before. -/
structure At (w0 : World) (B o n : Nat) (f : Nat → Int) (w : World) : Prop where
  below : Below B w0 w
  size : B < w.heap.size
  cell : ∀ k, k < n → w.cell? ⟨B, o + k, none⟩ = some (.int .i64 (f k))
  frz : ∀ k, k < n → w.frozen? ⟨B, o + k, none⟩ = false
  val : ∀ k, k < n → 0 ≤ f k ∧ f k < (n : Int)
  ty : TyI w B
section
variable {w0 w : World} {B o n : Nat} {f : Nat → Int}
theorem At.drewN (h : At w0 B o n f w) (k : Nat) : At w0 B o n f (w.drewN k) := ⟨below_dN h.below k, h.size, h.cell, h.frz, h.val, h.ty⟩
theorem At.drew (h : At w0 B o n f w) : At w0 B o n f w.drew := ⟨h.below.drew, h.size, h.cell, h.frz, h.val, h.ty⟩
theorem At.swap (h : At w0 B o n f w) {i j : Nat} (hi : i < n) (hj : j < n) (e : i ≠ j) : At w0 B o n (swp f i j) ((w.setCell ⟨B, o + i, none⟩ (.int .i64 (f j))).setCell ⟨B, o + j, none⟩ (.int .i64 (f i))).drew := by
  refine ⟨((h.below.setCell (Nat.le_refl B) _).setCell (Nat.le_refl B) _).drew, by simpa [World.setCell, World.drew] using h.size, fun k hk => ?_, fun k hk => ?_, fun k hk => ?_, (h.ty.set _ _).set _ _⟩
  · show ((w.setCell ⟨B, o + i, none⟩ (.int .i64 (f j))).setCell ⟨B, o + j, none⟩ (.int .i64 (f i))).cell? ⟨B, o + k, none⟩ = _
    unfold swp
    by_cases c2 : k = j
    · subst c2
      rw [if_neg (by omega), if_pos rfl]
      exact World.cell?_setCell_same _ _ _ ((World.cell?_setCell_other _ _ _ _ (by intro e'; simp only [Addr.mk.injEq] at e'; omega)).trans (h.cell k hk))
    · rw [World.cell?_setCell_other _ _ _ _ (by intro e'; simp only [Addr.mk.injEq] at e'; omega)]
      by_cases c1 : k = i
      · subst c1
        rw [if_pos rfl]
        exact World.cell?_setCell_same _ _ _ (h.cell k hk)
      · rw [World.cell?_setCell_other _ _ _ _ (by intro e'; simp only [Addr.mk.injEq] at e'; omega), if_neg c1, if_neg c2]
        exact h.cell k hk
  · show ((w.setCell ⟨B, o + i, none⟩ (.int .i64 (f j))).setCell ⟨B, o + j, none⟩ (.int .i64 (f i))).frozen? ⟨B, o + k, none⟩ = _
    rw [World.frozen?_setCell, World.frozen?_setCell]; exact h.frz k hk
  · unfold swp
    by_cases c1 : k = i
    · rw [if_pos c1]; exact h.val j hj
    · rw [if_neg c1]
      by_cases c2 : k = j
      · rw [if_pos c2]; exact h.val i hi
      · rw [if_neg c2]; exact h.val k hk
theorem At.second (h : At w0 B o n f w) {i j : Nat} (hj : j < n) (e : i ≠ j) (v : Value) : (w.setCell ⟨B, o + i, none⟩ v).cell? ⟨B, o + j, none⟩ = some (.int .i64 (f j)) :=
  (World.cell?_setCell_other _ _ _ _ (by intro e'; simp only [Addr.mk.injEq] at e'; omega)).trans (h.cell j hj)
end
/-- What an exchange of two places wants, and what it leaves. -/
theorem At.ready {w0 w : World} {B o n : Nat} {f : Nat → Int} (h : At w0 B o n f w) {i j : Nat} (hi : i < n) (hj : j < n) (e : i ≠ j) {x y : Int} (ex : f i = x) (ey : f j = y) :
    w.cell? ⟨B, o + i, none⟩ = some (.int .i64 x) ∧ w.cell? ⟨B, o + j, none⟩ = some (.int .i64 y) ∧ w.frozen? ⟨B, o + i, none⟩ = false ∧ w.frozen? ⟨B, o + j, none⟩ = false ∧
    (w.setCell ⟨B, o + i, none⟩ (.int .i64 y)).cell? ⟨B, o + j, none⟩ = some (.int .i64 y) ∧ Hid (At w0 B o n (swp f i j) ((w.setCell ⟨B, o + i, none⟩ (.int .i64 y)).setCell ⟨B, o + j, none⟩ (.int .i64 x)).drew) := by
  subst ex; subst ey
  exact ⟨h.cell i hi, h.cell j hj, h.frz i hi, h.frz j hj, h.second hj e _, h.swap hi hj e⟩
/-- What the comparison answers. -/
def cmpD (dl : Int → Int) (x y : Int) : Int := if dl x < dl y then -1 else if dl y < dl x then 1 else 0
theorem cmpD_lt {dl : Int → Int} {x y : Int} : cmpD dl x y < 0 ↔ dl x < dl y := by unfold cmpD; split <;> (try split) <;> omega
def Cmp (dl : Int → Int) (w0 : World) (B n X : Nat) : Prop := ∀ (x y : Int) (w : World), Below B w0 w → 0 ≤ x → x < (n : Int) → 0 ≤ y → y < (n : Int) →
  Calls Tryd.prog 36 #[.int .i64 x, .int .i64 y, .pointer (some ⟨X, 0, none⟩)] w (Ret (.int .i64 (cmpD dl x y)) w)
/-- A comparison of two places of the row. -/
theorem At.cmp {dl : Int → Int} {w0 w : World} {B o n X : Nat} {f : Nat → Int} (h : At w0 B o n f w) (hC : Cmp dl w0 B n X) {i j : Nat} (hi : i < n) (hj : j < n) :
    ∃ x y c : Int, f i = x ∧ f j = y ∧ (c < 0 ↔ dl x < dl y) ∧ w.cell? ⟨B, o + i, none⟩ = some (.int .i64 x) ∧ w.cell? ⟨B, o + j, none⟩ = some (.int .i64 y) ∧
      Hid (∀ k, Calls Tryd.prog 36 #[.int .i64 x, .int .i64 y, .pointer (some ⟨X, 0, none⟩)] (w.drewN k) (Ret (.int .i64 c) (w.drewN k))) :=
  ⟨_, _, _, rfl, rfl, cmpD_lt, h.cell i hi, h.cell j hj, fun k => hC _ _ _ (h.drewN k).below (h.val i hi).1 (h.val i hi).2 (h.val j hj).1 (h.val j hj).2⟩
theorem Ret.quiet {P : Program} {f : FuncId} {args : Array Value} {w : World} {n : Nat} {v : Value} (h : Calls P f args (w.drewN n) (Ret v (w.drewN n))) :
    Calls P f args (w.drewN n) fun e w'' => e = .returned v ∧ ∃ m, w'' = w.drewN m := Calls.quiet_of h
set_option maxHeartbeats 4000000 in
theorem insertion_any (dl : Int → Int) (w0 : World) (B o n cap X a b : Nat) (f : Nat → Int) (w : World) (hn : n ≤ 1000000) (hcap : cap ≤ 9223372036854775807) (hC : Cmp dl w0 B n X) (h : At w0 B o n f w) (hab : a ≤ b) (hb : b ≤ n)
    (hinc : ∀ p q, a ≤ p → p < q → q < b → f p < f q) :
    Calls Tryd.prog 49 #[.slice (some ⟨B, o, none⟩) n cap, .int .i64 (a : Int), .int .i64 (b : Int), .func (.func 36) #[] #[.pointer (some ⟨X, 0, none⟩)]] w (fun e w' => e = .returned (.tuple #[]) ∧ ∃ g, Same f g a b ∧ Srt dl g a b ∧ At w0 B o n g w') := by
  have HC := Lib.hid hC
  have H := Lib.hid h
  have HI := Lib.hid hinc
  clear hC h hinc
  have e1 : IntKind.i64.wrap ((a : Int) + 1) = ((a + 1 : Nat) : Int) := by rw [IntKind.wrap_i64]; omega
  go_enter Tryd.func49, Tryd.ntmps49
  go_wp2
  go_loopw [8] (fun st wr => ∃ (i : Nat) (g : Nat → Int), st = .int .i64 (i : Int) ∧ a < i ∧ (i ≤ b ∨ (i = a + 1 ∧ g = f)) ∧ Hid (Same f g a i ∧ Srt dl g a i ∧ At w0 B o n g wr)) (fun st _ => b + 1 - (intOf st).toNat)
  case atStart => exact ⟨a + 1, f, by first | rfl | simp, by omega, .inr ⟨rfl, rfl⟩, Lib.hid ⟨Same.refl _ _ _, fun p q p1 p2 p3 => by omega, H.out⟩⟩
  case round =>
    obtain ⟨i, g, rfl, hai, hib, K⟩ := hrel
    rcases Nat.lt_or_ge i b with hlt | hge
    · have e2 : IntKind.i64.wrap ((i : Int) + 1) = ((i + 1 : Nat) : Int) := by rw [IntKind.wrap_i64]; omega
      have d1 : decide ((i : Int) < (b : Int)) = true := decide_eq_true (by omega)
      clear hib
      have K2 : Hid (Ins dl f g a i i ∧ At w0 B o n g wr) := Lib.hid ⟨Ins.start K.out.1 K.out.2.1 (fun p q p1 p2 p3 => HI.out p q p1 p2 (by omega)), K.out.2.2⟩
      clear K
      go_wp2
      go_loopw [9] (fun st wr => ∃ (j : Nat) (g : Nat → Int), st = .int .i64 (j : Int) ∧ a ≤ j ∧ j ≤ i ∧ Hid (Ins dl f g a i j ∧ At w0 B o n g wr)) (fun st _ => (intOf st).toNat)
      case atStart => exact ⟨i, g, rfl, by omega, Nat.le_refl _, K2⟩
      case round =>
        clear K2
        obtain ⟨j, g2, rfl, haj, hji, K3⟩ := hrel
        rcases Nat.lt_or_ge a j with hja | hja
        · obtain ⟨jp, rfl⟩ : ∃ q, q + 1 = j := ⟨j - 1, by omega⟩
          have d2 : decide ((jp : Int) + 1 > (a : Int)) = true := decide_eq_true (by omega)
          have e3 : IntKind.i64.wrap ((jp : Int) + 1 - 1) = (jp : Int) := by rw [IntKind.wrap_i64]; omega
          obtain ⟨x, y, c, hx, hy, hc, cx, cy, C⟩ := K3.out.2.cmp HC.out (i := jp + 1) (j := jp) (by omega) (by omega)
          have b1 : (jp : Int) + 1 < (n : Int) := by omega
          have b2 : (jp : Int) < (n : Int) := by omega
          have b3 : (0 : Int) ≤ (jp : Int) + 1 := by omega
          have b4 : (0 : Int) ≤ (jp : Int) := by omega
          have b5 : ((jp : Int) + 1).toNat = jp + 1 := by omega
          by_cases hneg : c < 0
          · have d3 : decide (c < 0) = true := decide_eq_true hneg
            have hl := hc.1 hneg
            rw [← hx, ← hy] at hl
            have K4 := Lib.hid (And.intro hl (And.intro K3.out (And.intro hx hy)))
            clear hc hl hx hy K3 hneg
            go_wp2_with fail
            go_quiet (first | (go_at_call 36; refine Ret.quiet (C.out _)))
            clear C cx cy
            have K5 := Lib.hid (And.intro K4.out.1 (And.intro K4.out.2.1.1 (And.intro (K4.out.2.1.2.drewN nq) K4.out.2.2)))
            clear K4
            generalize World.drewN _ _ = W at K5 ⊢
            obtain ⟨cx, cy, f1, f2, c2, K6⟩ := K5.out.2.2.1.ready (i := jp + 1) (j := jp) (by omega) (by omega) (by omega) K5.out.2.2.2.1 K5.out.2.2.2.2
            have e4 : IntKind.i64.wrap (jp : Int) = (jp : Int) := by rw [IntKind.wrap_i64]; omega
            go_wp2_with fail
            go_region
            have K7 := Lib.hid (And.intro (K5.out.2.1.go (by omega) (by omega) K5.out.1) K6.out)
            clear K5 K6 cx cy f1 f2 c2
            generalize World.drew _ = W2 at K7 ⊢
            go_wp2
            go_roundw
            case rel => exact ⟨jp, swp g2 (jp + 1) jp, by first | rfl | simp, by omega, by omega, K7⟩
            case measure => simp [intOf]
          · have d3 : decide (c < 0) = false := decide_eq_false hneg
            have hl : ¬ dl x < dl y := fun h => hneg (hc.2 h)
            rw [← hx, ← hy] at hl
            have K4 := Lib.hid (And.intro (K3.out.1.stop (.inr ⟨hja, hl⟩)) K3.out.2)
            clear hc hl hx hy K3 hneg
            go_wp2_with fail
            go_quiet (first | (go_at_call 36; refine Ret.quiet (C.out _)))
            clear C cx cy
            have K5 := Lib.hid (And.intro K4.out.1.1 (And.intro K4.out.1.2 (K4.out.2.drewN nq)))
            clear K4
            generalize World.drewN _ _ = W at K5 ⊢
            go_wp2
            go_roundw
            case rel => exact ⟨i + 1, g2, by first | rfl | simp, by omega, .inl (by omega), K5⟩
            case measure => simp [intOf]; omega
        · have d2 : decide (a < j) = false := decide_eq_false (by omega)
          have K4 := Lib.hid (And.intro (K3.out.1.stop (.inl hja)) K3.out.2)
          clear K3
          go_wp2_with fail
          go_quiet (fail)
          have K5 := Lib.hid (And.intro K4.out.1.1 (And.intro K4.out.1.2 (K4.out.2.drewN nq)))
          clear K4
          generalize World.drewN _ _ = W at K5 ⊢
          go_wp2
          go_roundw
          case rel => exact ⟨i + 1, g2, by first | rfl | simp, by omega, .inl (by omega), K5⟩
          case measure => simp [intOf]; omega
    · have d1 : decide ((i : Int) < (b : Int)) = false := decide_eq_false (by omega)
      have K2 : Hid (∃ g, Same f g a b ∧ Srt dl g a b ∧ At w0 B o n g wr) := by
        rcases hib with h1 | ⟨h1, rfl⟩
        · obtain rfl : i = b := by omega
          exact ⟨g, K.out⟩
        · exact ⟨g, Same.refl _ _ _, fun p q p1 p2 p3 => by omega, K.out.2.2⟩
      clear K hib
      go_wp2
      go_end0
      exact ⟨rfl, K2.out⟩

set_option maxHeartbeats 4000000 in
theorem swapRange_any (w0 : World) (B o n cap a b k : Nat) (f : Nat → Int) (w : World) (cv : Value) (hn : n ≤ 1000000) (hcap : cap ≤ 9223372036854775807) (h : At w0 B o n f w) (hab : a + k ≤ b) (hb : b + k ≤ n) :
    Calls Tryd.prog 70 #[.slice (some ⟨B, o, none⟩) n cap, .int .i64 (a : Int), .int .i64 (b : Int), .int .i64 (k : Int), cv] w (fun e w' => e = .returned (.tuple #[]) ∧ At w0 B o n (swR f a b k) w') := by
  have H := Lib.hid h
  clear h
  go_enter Tryd.func70, Tryd.ntmps70
  go_wp2
  go_loopw [10] (fun st wr => ∃ (i : Nat), st = .int .i64 (i : Int) ∧ i ≤ k ∧ Hid (At w0 B o n (swR f a b i) wr)) (fun st _ => k - (intOf st).toNat)
  case atStart => exact ⟨0, by first | rfl | simp, by omega, by rw [swR_zero]; exact H⟩
  case round =>
    obtain ⟨i, rfl, hik, K⟩ := hrel
    rcases Nat.lt_or_ge i k with hlt | hge
    · have d1 : decide ((i : Int) < (k : Int)) = true := decide_eq_true (by omega)
      have e1 : IntKind.i64.wrap ((i : Int) + 1) = (i : Int) + 1 := by rw [IntKind.wrap_i64]; omega
      have e2 : IntKind.i64.wrap ((a : Int) + (i : Int)) = ((a + i : Nat) : Int) := by rw [IntKind.wrap_i64]; omega
      have e3 : IntKind.i64.wrap ((b : Int) + (i : Int)) = ((b + i : Nat) : Int) := by rw [IntKind.wrap_i64]; omega
      obtain ⟨p, hp⟩ : ∃ p, a + i = p := ⟨_, rfl⟩
      obtain ⟨q, hq⟩ : ∃ q, b + i = q := ⟨_, rfl⟩
      rw [hp] at e2
      rw [hq] at e3
      have b1 : (p : Int) < (n : Int) := by omega
      have b2 : (q : Int) < (n : Int) := by omega
      have K1 : Hid (swp (swR f a b i) p q = swR f a b (i + 1)) := by rw [← hp, ← hq]; exact swR_next f a b k i hab hlt
      obtain ⟨x, hx⟩ : ∃ x, swR f a b i p = x := ⟨_, rfl⟩
      obtain ⟨y, hy⟩ : ∃ x, swR f a b i q = x := ⟨_, rfl⟩
      obtain ⟨cx, cy, f1, f2, c2, K6⟩ := K.out.ready (i := p) (j := q) (by omega) (by omega) (by omega) hx hy
      rw [K1.out] at K6
      clear hx hy K K1
      go_wp2_with fail
      go_region
      have K7 := Lib.hid K6.out
      clear K6 cx cy f1 f2 c2
      generalize World.drew _ = W2 at K7 ⊢
      go_wp2
      go_roundw
      case rel => exact ⟨i + 1, by first | rfl | simp, by omega, K7⟩
      case measure => simp [intOf]; omega
    · have d1 : decide ((i : Int) < (k : Int)) = false := decide_eq_false (by omega)
      obtain rfl : i = k := by omega
      go_wp2
      go_end0
      exact ⟨rfl, K.out⟩

set_option maxHeartbeats 4000000 in
theorem rotate_any (w0 : World) (B o n cap a m b : Nat) (f : Nat → Int) (w : World) (cv : Value) (hn : n ≤ 1000000) (hcap : cap ≤ 9223372036854775807) (h : At w0 B o n f w) (ham : a < m) (hmb : m < b) (hb : b ≤ n) :
    Calls Tryd.prog 64 #[.slice (some ⟨B, o, none⟩) n cap, .int .i64 (a : Int), .int .i64 (m : Int), .int .i64 (b : Int), cv] w (fun e w' => e = .returned (.tuple #[]) ∧ At w0 B o n (rot f a m b) w') := by
  have H := Lib.hid h
  clear h
  have e1 : IntKind.i64.wrap ((m : Int) - (a : Int)) = ((m - a : Nat) : Int) := by rw [IntKind.wrap_i64]; omega
  have e2 : IntKind.i64.wrap ((b : Int) - (m : Int)) = ((b - m : Nat) : Int) := by rw [IntKind.wrap_i64]; omega
  obtain ⟨i0, hi0⟩ : ∃ p, m - a = p := ⟨_, rfl⟩
  obtain ⟨j0, hj0⟩ : ∃ p, b - m = p := ⟨_, rfl⟩
  rw [hi0] at e1
  rw [hj0] at e2
  go_enter Tryd.func64, Tryd.ntmps64
  go_wp2
  go_loopw [10, 11] (fun s1 s2 wr => ∃ (i j : Nat) (g : Nat → Int), s1 = .int .i64 (i : Int) ∧ s2 = .int .i64 (j : Int) ∧ 0 < i ∧ 0 < j ∧ i ≤ m ∧ m + j ≤ n ∧ Hid (rot g (m - i) m (m + j) = rot f a m b ∧ At w0 B o n g wr)) (fun s1 s2 _ => (intOf s1).toNat + (intOf s2).toNat)
  case atStart =>
    refine ⟨i0, j0, f, by first | rfl | simp, by first | rfl | simp, by omega, by omega, by omega, by omega, ?_, H.out⟩
    obtain rfl : m - i0 = a := by omega
    obtain rfl : m + j0 = b := by omega
    rfl
  case round =>
    obtain ⟨i, j, g, rfl, rfl, hi, hj, him, hjn, K⟩ := hrel
    have u1 : IntKind.i64.wrap ((m : Int) - (i : Int)) = ((m - i : Nat) : Int) := by rw [IntKind.wrap_i64]; omega
    obtain ⟨p, hp⟩ : ∃ p, m - i = p := ⟨_, rfl⟩
    rw [hp] at u1
    by_cases hij : i = j
    · have d1 : ((i : Int) != (j : Int)) = false := by simp [hij]
      have C := Lib.hid (swapRange_any w0 B o n cap p m i g wr cv hn hcap K.out.2 (by omega) (by omega))
      have K2 : Hid (swR g p m i = rot f a m b) := by rw [← K.out.1, ← hp, ← hij]; exact rot_eq g m i him
      clear K
      subst hij
      go_wp2_with fail
      refine C.out.mono ?_
      rintro e w2 ⟨rfl, hA⟩
      rw [K2.out] at hA
      replace hA := Lib.hid hA
      clear C K2
      go_wp2
      go_end0
      exact ⟨rfl, hA.out⟩
    · have d1 : ((i : Int) != (j : Int)) = true := by simp; omega
      rcases Nat.lt_or_ge j i with hlt | hge
      · have d2 : decide ((i : Int) > (j : Int)) = true := decide_eq_true (by omega)
        have u2 : IntKind.i64.wrap ((i : Int) - (j : Int)) = ((i - j : Nat) : Int) := by rw [IntKind.wrap_i64]; omega
        obtain ⟨i2, hi2⟩ : ∃ p, i - j = p := ⟨_, rfl⟩
        rw [hi2] at u2
        have C := Lib.hid (swapRange_any w0 B o n cap p m j g wr cv hn hcap K.out.2 (by omega) (by omega))
        have K2 : Hid (rot (swR g p m j) (m - i2) m (m + j) = rot f a m b) := by rw [← K.out.1, ← hp, ← hi2]; exact rot_gt g m i j him hlt
        clear K
        go_wp2_with fail
        refine C.out.mono ?_
        rintro e w2 ⟨rfl, hA⟩
        replace hA := Lib.hid (And.intro K2.out hA)
        clear C K2
        go_wp2
        go_roundw
        case rel => exact ⟨i2, j, _, rfl, rfl, by omega, hj, by omega, hjn, hA⟩
        case measure => simp [intOf]; omega
      · have d2 : decide ((i : Int) > (j : Int)) = false := decide_eq_false (by omega)
        have u2 : IntKind.i64.wrap ((j : Int) - (i : Int)) = ((j - i : Nat) : Int) := by rw [IntKind.wrap_i64]; omega
        have u3 : IntKind.i64.wrap ((m : Int) + (j : Int)) = ((m + j : Nat) : Int) := by rw [IntKind.wrap_i64]; omega
        have u4 : IntKind.i64.wrap (((m + j : Nat) : Int) - (i : Int)) = ((m + j - i : Nat) : Int) := by rw [IntKind.wrap_i64]; omega
        obtain ⟨j2, hj2⟩ : ∃ p, j - i = p := ⟨_, rfl⟩
        obtain ⟨q, hq⟩ : ∃ p, m + j = p := ⟨_, rfl⟩
        obtain ⟨q2, hq2⟩ : ∃ p, m + j - i = p := ⟨_, rfl⟩
        rw [hj2] at u2
        rw [hq2, hq] at u4
        rw [hq] at u3
        have C := Lib.hid (swapRange_any w0 B o n cap p q2 i g wr cv hn hcap K.out.2 (by omega) (by omega))
        have K2 : Hid (rot (swR g p q2 i) (m - i) m (m + j2) = rot f a m b) := by rw [← K.out.1, ← hp, ← hj2, ← hq2]; exact rot_lt g m i j him (by omega)
        clear K
        go_wp2_with fail
        refine C.out.mono ?_
        rintro e w2 ⟨rfl, hA⟩
        replace hA := Lib.hid (And.intro K2.out hA)
        clear C K2
        go_wp2
        go_roundw
        case rel => exact ⟨i, j2, _, rfl, rfl, hi, by omega, him, by omega, hA⟩
        case measure => simp [intOf]; omega
end Go.Proofs.YtacffjkhbajgkaaDoor
