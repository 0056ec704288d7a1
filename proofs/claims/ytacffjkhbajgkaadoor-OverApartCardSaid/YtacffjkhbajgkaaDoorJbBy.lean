/- ByDeadline: all indices, ordered by deadline and then by index. -/
import Derived.Test.YtacffjkhbajgkaaDoorJbStable
import Derived.Test.YtacffjkhbajgkaaDoorJb1
import Derived.Test.YtacffjkhbajgkaaDoorOwn
import Derived.Deep.OwnRows
namespace Go.Proofs.YtacffjkhbajgkaaDoor
open Go.RowKit Go.Lib
set_option linter.unusedVariables false
set_option linter.unusedSimpArgs false

/-- The deadlines behind indices. -/
def dlOf (l : List Jb) (x : Int) : Int := ((l[x.toNat]?).map Jb.dl).getD 0
theorem dlOf_at {l : List Jb} {i : Nat} {x : Jb} (h : l[i]? = some x) : dlOf l (i : Int) = x.dl := by unfold dlOf; simp [h]

theorem nan_any (x : Int) (w : World) : Calls Tryd.prog 44 #[.int .i64 x] w (Ret (.bool false) w) := by
  have h : (x != x) = false := by simp
  go_enter Tryd.func44, Tryd.ntmps44
  go_wp2
  go_ret
  first | exact ⟨rfl, 0, rfl⟩ | exact ⟨rfl, _, rfl⟩
theorem compare_any (x y c : Int) (w : World) (h : (if x < y then -1 else if y < x then 1 else 0) = c) : Calls Tryd.prog 37 #[.int .i64 x, .int .i64 y] w (Ret (.int .i64 c) w) := by
  have C1 := Lib.hid (nan_any x)
  have C2 := Lib.hid (nan_any y)
  by_cases h1 : x < y
  · rw [if_pos h1] at h; subst h
    have d1 : decide (x < y) = true := decide_eq_true h1
    go_enter Tryd.func37, Tryd.ntmps37
    go_wp2_with fail
    refine (C1.out _).mono ?_; rintro e w' ⟨rfl, n1, rfl⟩
    go_wp2_with fail
    refine (C2.out _).mono ?_; rintro e w' ⟨rfl, n2, rfl⟩
    go_wp2
    go_ret
    first | exact ⟨rfl, 0, rfl⟩ | exact ⟨rfl, _, rfl⟩
  · rw [if_neg h1] at h
    have d1 : decide (x < y) = false := decide_eq_false h1
    by_cases h2 : y < x
    · rw [if_pos h2] at h; subst h
      have d2 : decide (x > y) = true := decide_eq_true h2
      go_enter Tryd.func37, Tryd.ntmps37
      go_wp2_with fail
      refine (C1.out _).mono ?_; rintro e w' ⟨rfl, n3, rfl⟩
      go_wp2_with fail
      refine (C2.out _).mono ?_; rintro e w' ⟨rfl, n4, rfl⟩
      go_wp2
      go_ret
      first | exact ⟨rfl, 0, rfl⟩ | exact ⟨rfl, _, rfl⟩
    · rw [if_neg h2] at h; subst h
      have d2 : decide (x > y) = false := decide_eq_false h2
      go_enter Tryd.func37, Tryd.ntmps37
      go_wp2_with fail
      refine (C1.out _).mono ?_; rintro e w' ⟨rfl, n5, rfl⟩
      go_wp2_with fail
      refine (C2.out _).mono ?_; rintro e w' ⟨rfl, n6, rfl⟩
      go_wp2
      go_ret
      first | exact ⟨rfl, 0, rfl⟩ | exact ⟨rfl, _, rfl⟩
set_option maxHeartbeats 1600000 in
theorem by1_any (A : Option Addr) (cap X : Nat) (l : List Jb) (x y c : Int) (w : World) (hn : l.length ≤ 1000) (hcap : cap ≤ 9223372036854775807) (hlc : l.length ≤ cap) (hX : w.cell? ⟨X, 0, none⟩ = some (.slice A l.length cap)) (hR : RdJ w A l)
    (hx0 : 0 ≤ x) (hx1 : x < (l.length : Int)) (hy0 : 0 ≤ y) (hy1 : y < (l.length : Int)) (hc : cmpD (dlOf l) x y = c) :
    Calls Tryd.prog 36 #[.int .i64 x, .int .i64 y, .pointer (some ⟨X, 0, none⟩)] w (Ret (.int .i64 c) w) := by
  obtain ⟨i, rfl⟩ := Int.eq_ofNat_of_zero_le hx0
  obtain ⟨j, rfl⟩ := Int.eq_ofNat_of_zero_le hy0
  obtain ⟨u, hu⟩ : ∃ u, l[i]? = some u := ⟨_, List.getElem?_eq_getElem (by omega)⟩
  obtain ⟨v, hv⟩ : ∃ u, l[j]? = some u := ⟨_, List.getElem?_eq_getElem (by omega)⟩
  obtain ⟨b, off, rfl, hJ⟩ := hR i u hu
  obtain ⟨b', off', hA, hJ'⟩ := hR j v hv
  simp only [Option.some.injEq, Addr.mk.injEq, and_true] at hA
  obtain ⟨rfl, rfl⟩ := hA
  unfold cmpD at hc
  rw [dlOf_at hu, dlOf_at hv] at hc
  have c1 := hJ.2.2.1
  have c2 := hJ'.2.2.1
  clear hJ hJ' hR hu hv
  generalize u.dl = p at *
  generalize v.dl = q at *
  obtain ⟨n, hl⟩ : ∃ n, l.length = n := ⟨_, rfl⟩
  rw [hl] at *
  have C := Lib.hid (compare_any p q c · hc)
  clear hc hl
  go_enter Tryd.func36, Tryd.ntmps36
  go_wp2_with fail
  go_quiet (first | (go_at_call 37; refine Ret.quiet (C.out _)))
  go_wp2
  go_ret
  exact ⟨rfl, _, rfl⟩

theorem At.store {w0 w : World} {B o n : Nat} {f : Nat → Int} (h : At w0 B o n f w) {k : Nat} (hk : k < n) {v : Int} (h0 : 0 ≤ v) (h1 : v < (n : Int)) : At w0 B o n (fun q => if q = k then v else f q) (w.setCell ⟨B, o + k, none⟩ (.int .i64 v)) := by
  refine ⟨h.below.setCell (Nat.le_refl B) _, by simpa [World.setCell] using h.size, fun q hq => ?_, fun q hq => ?_, fun q hq => ?_, h.ty.set _ _⟩
  · by_cases c : q = k
    · subst c; rw [if_pos rfl]; exact World.cell?_setCell_same _ _ _ (h.cell q hq)
    · rw [if_neg c, World.cell?_setCell_other _ _ _ _ (by intro e'; simp only [Addr.mk.injEq] at e'; omega)]; exact h.cell q hq
  · rw [World.frozen?_setCell]; exact h.frz q hq
  · by_cases c : q = k
    · rw [if_pos c]; exact ⟨h0, h1⟩
    · rw [if_neg c]; exact h.val q hq
/-- The first i indices laid. -/
def laidI (i : Nat) : Nat → Int := fun k => if k < i then (k : Int) else 0
theorem laidI_next (i : Nat) : (fun q => if q = i then (i : Int) else laidI i q) = laidI (i + 1) := by
  funext q; unfold laidI
  by_cases c : q = i
  · subst c; rw [if_pos rfl, if_pos (by omega)]
  · rw [if_neg c]
    by_cases c2 : q < i
    · rw [if_pos c2, if_pos (by omega)]
    · rw [if_neg c2, if_neg (by omega)]
theorem At.fresh (w0 : World) (n : Nat) : At w0 w0.heap.size 0 n (laidI 0) (w0.alloc (.cells (madeCells #[.int .i64 0] n) 3)) := by
  refine ⟨(Below.refl _ _).alloc (Nat.le_refl _) _, by simp, fun k hk => ?_, fun k hk => ?_, fun k hk => ?_, ⟨_, _, heap_alloc_new w0 _⟩⟩
  · have hs : k < (madeCells #[Value.int .i64 0] n).size := by rw [size_madeCells]; exact hk
    have e1 : (madeCells #[Value.int .i64 0] n)[k]? = some (.int .i64 0) := by
      unfold madeCells
      simp [hk, Nat.mod_one]
    simp only [Nat.zero_add]
    simp [laidI, e1]
  · unfold World.frozen?
    rw [heap_alloc_new]
    simp
  · unfold laidI; simp; omega

theorem laidI_id (n : Nat) : IdF (laidI n) 0 n := fun k _ k2 => by unfold laidI; rw [if_pos k2]
theorem sortStable_any (dl : Int → Int) (w0 : World) (B o n cap X : Nat) (f : Nat → Int) (w : World) (hn : n ≤ 40) (hcap : cap ≤ 9223372036854775807) (hC : Cmp dl w0 B n X) (h : At w0 B o n f w) (hf : IdF f 0 n) :
    Calls Tryd.prog 35 #[.slice (some ⟨B, o, none⟩) n cap, .func (.func 36) #[] #[.pointer (some ⟨X, 0, none⟩)]] w (fun e w' => e = .returned (.tuple #[]) ∧ ∃ g, Run dl g 0 n ∧ At w0 B o n g w') := by
  have C := Lib.hid (stable_any dl w0 B o n cap X f w hn hcap hC h hf)
  clear hC h hf
  go_enter Tryd.func35, Tryd.ntmps35
  go_wp2_with fail
  refine C.out.mono ?_
  rintro _ W ⟨rfl, g, hS, hA⟩
  have T := Lib.hid (And.intro hS hA)
  clear C hS hA
  go_wp2
  go_end0
  exact ⟨rfl, _, T.out.1, T.out.2⟩
theorem Tryd.infoI : (Tryd.prog.info? 3).map (fun i => (i.zero, i.size, i.bytes)) = some (some (.int .i64 0), 1, 8) := by kernel_rfl
set_option maxHeartbeats 1600000 in
set_option maxRecDepth 100000 in
theorem by_ty (A : Option Addr) (cap : Nat) (l : List Jb) (w : World) (hn : l.length ≤ 40) (hcap : cap ≤ 9223372036854775807) (hlc : l.length ≤ cap) (hR : RdJ w A l) :
    Calls Tryd.prog 29 #[.slice A l.length cap] w (fun e w' => ∃ (B : Nat) (g : Nat → Int), e = .returned (.slice (some ⟨B, 0, none⟩) l.length l.length) ∧ w.heap.size ≤ B ∧ B < w'.heap.size ∧ Below w.heap.size w w' ∧ Run (dlOf l) g 0 l.length ∧ TyI w' B ∧ ∀ k, k < l.length → w'.cell? ⟨B, k, none⟩ = some (.int .i64 (g k))) := by
  obtain ⟨n, hl⟩ : ∃ n, l.length = n := ⟨_, rfl⟩
  obtain ⟨dl, hdl⟩ : ∃ d, dlOf l = d := ⟨_, rfl⟩
  obtain ⟨w1, hw1⟩ : ∃ w1, w.alloc (.cells #[.slice A n cap] 25) = w1 := ⟨_, rfl⟩
  have hs1 : w1.heap.size = w.heap.size + 1 := by rw [← hw1]; simp
  have hb1 : Below w.heap.size w w1 := by rw [← hw1]; exact (Below.refl _ _).alloc (Nat.le_refl _) _
  have hx1 : w1.cell? ⟨w.heap.size, 0, none⟩ = some (.slice A n cap) := by rw [← hw1]; simp
  have HC : Hid (Cmp dl w1 w1.heap.size n w.heap.size) := by
    intro x y W hB hx0 hx2 hy0 hy2
    have hR2 := hR.below (hb1.trans (hB.mono (by omega)))
    rw [← hdl]
    refine by1_any A cap w.heap.size l x y _ W (by omega) hcap hlc ?_ hR2 hx0 (by rw [hl]; exact hx2) hy0 (by rw [hl]; exact hy2) rfl
    rw [hB.cell (p := ⟨w.heap.size, 0, none⟩) (by show w.heap.size < w1.heap.size; omega), hl]; exact hx1
  have hmk : ∀ w', (Instr.makeSlice 30 (.int .i64 (n : Int)) (.int .i64 (n : Int))).run Tryd.prog w' = .ok (.slice (some ⟨w'.heap.size, 0, none⟩) n n) (w'.alloc (.cells (madeCells #[.int .i64 0] n) 3)) := fun w' => run_make_row' _ _ _ 8 Tryd.underlying30 Tryd.infoI (by kernel_rfl) .i64 .i64 n (by omega) (by omega) w'
  have K0 := Lib.hid (At.fresh w1 n)
  rw [hdl, hl]
  replace hn : n ≤ 40 := by omega
  replace hlc : n ≤ cap := by omega
  replace hb1 := Lib.hid hb1
  clear hR hl hdl
  go_enter Tryd.func29, Tryd.ntmps29
  go_wp2
  clear hx1 hmk hlc hcap
  have hb0 : Hid (w.heap.size + 1 = w1.heap.size) := hs1.symm
  rw [← hs1]
  generalize w1.alloc _ = w2 at K0 ⊢
  clear hw1
  generalize w1.heap.size = B at *
  clear hs1
  go_loopw [10] (fun st wr => ∃ (i : Nat), st = .int .i64 (i : Int) ∧ i ≤ n ∧ Hid (At w1 B 0 n (laidI i) wr)) (fun st _ => n - (intOf st).toNat)
  case atStart => exact ⟨0, rfl, by omega, K0⟩
  case round =>
    clear K0
    obtain ⟨i, rfl, hin, K⟩ := hrel
    rcases Nat.lt_or_ge i n with hlt | hge
    · have d1 : decide ((i : Int) < (n : Int)) = true := decide_eq_true (by omega)
      have e1 : IntKind.i64.wrap ((i : Int) + 1) = ((i + 1 : Nat) : Int) := by rw [IntKind.wrap_i64]; omega
      have c1 : wr.cell? ⟨B, i, none⟩ = some (.int .i64 (laidI i i)) := by simpa using K.out.cell i hlt
      have f1 : wr.frozen? ⟨B, i, none⟩ = false := by simpa using K.out.frz i hlt
      have b1 : (i : Int) < (n : Int) := by omega
      have K2 : Hid (At w1 B 0 n (laidI (i + 1)) (wr.setCell ⟨B, i, none⟩ (.int .i64 (i : Int)))) := by
        have := K.out.store hlt (v := (i : Int)) (by omega) (by omega)
        rw [laidI_next, Nat.zero_add] at this
        exact this
      clear K
      go_wp2
      go_roundw
      case rel => exact ⟨i + 1, by first | rfl | simp, by omega, K2⟩
      case measure => simp [intOf]; omega
    · have d1 : decide ((i : Int) < (n : Int)) = false := decide_eq_false (by omega)
      obtain rfl : i = n := by omega
      have C := Lib.hid (sortStable_any dl w1 B 0 i i w.heap.size (laidI i) wr (by omega) (by omega) HC.out K.out (laidI_id i))
      clear K
      go_wp2_with fail
      refine C.out.mono ?_
      rintro _ W ⟨rfl, g, hS, hA⟩
      have T := Lib.hid (And.intro hS hA)
      clear C hS hA
      go_wp2
      go_ret
      have hA := T.out.2
      refine ⟨B, g, rfl, by have := hb0.out; omega, hA.size, hb1.out.trans (hA.below.mono (by have := hb0.out; omega)), T.out.1, hA.ty, fun k hk => by simpa using hA.cell k hk⟩
theorem by_any (A : Option Addr) (cap : Nat) (l : List Jb) (w : World) (hn : l.length ≤ 40) (hcap : cap ≤ 9223372036854775807) (hlc : l.length ≤ cap) (hR : RdJ w A l) :
    Calls Tryd.prog 29 #[.slice A l.length cap] w (fun e w' => ∃ (B : Nat) (g : Nat → Int), e = .returned (.slice (some ⟨B, 0, none⟩) l.length l.length) ∧ w.heap.size ≤ B ∧ B < w'.heap.size ∧ Below w.heap.size w w' ∧ Run (dlOf l) g 0 l.length ∧ ∀ k, k < l.length → w'.cell? ⟨B, k, none⟩ = some (.int .i64 (g k))) :=
  Calls.mono (by_ty A cap l w hn hcap hlc hR) fun e w' ⟨B, g, h1, h2, h3, h4, h5, _, h6⟩ => ⟨B, g, h1, h2, h3, h4, h5, h6⟩
end Go.Proofs.YtacffjkhbajgkaaDoor
