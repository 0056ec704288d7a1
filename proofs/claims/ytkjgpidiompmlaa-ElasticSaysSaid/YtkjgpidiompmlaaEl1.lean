/- Package elastic: within, Good, legal, lowest, wants, sum. -/
import Derived.Test.YtkjgpidiompmlaaElRef1
import Derived.Test.YtkjgpidiompmlaaCelZ
import Derived.Test.YtkjgpidiompmlaaUt1
import Derived.Test.YtkjgpidiompmlaaRegT
namespace Go.Proofs.Ytkjgpidiompmlaa
open Go.RowKit
open Go.Lib hiding intOf
set_option linter.unusedVariables false
set_option linter.unusedSimpArgs false

theorem ewithin_any (n a b : Int) (g : Bool) (w : World) (h : (decide (a ≤ n) && decide (n ≤ b)) = g) : Calls Try.prog 18 #[.int .i64 n, .int .i64 a, .int .i64 b] w (Ret (.bool g) w) := by
  by_cases h1 : a ≤ n
  · have d1 : decide (a ≤ n) = true := decide_eq_true h1
    rw [d1, Bool.true_and] at h
    go_enter Try.func18, Try.ntmps18
    go_wp2
    go_ret
    exact ⟨by first | rfl | exact ret_b h, 0, rfl⟩
  · have d1 : decide (a ≤ n) = false := decide_eq_false h1
    rw [d1, Bool.false_and] at h
    subst h
    go_enter Try.func18, Try.ntmps18
    go_wp2
    go_ret
    first | exact ⟨rfl, 0, rfl⟩ | exact ⟨rfl, _, rfl⟩
theorem sp_good (p n s : Int) : (⟨p, n, s⟩ : Sp).good = ((decide (0 ≤ p) && decide (p ≤ 67108864)) && ((decide (0 ≤ n) && decide (n ≤ p)) && (decide (0 ≤ s) && decide (s ≤ 1000)))) := by
  rw [Bool.eq_iff_iff, sp_iff]
  simp only [Bool.and_eq_true, decide_eq_true_eq]
  omega
set_option maxHeartbeats 1600000 in
theorem egood_any (x : Sp) (g : Bool) (w : World) (hg : x.good = g) : Calls Try.prog 33 #[.agg #[.int .i64 x.want, .int .i64 x.least, .int .i64 x.soft]] w (RetB (.bool g) w) := by
  obtain ⟨p, n, s⟩ := x
  rw [sp_good] at hg
  simp only
  obtain ⟨q1, h1⟩ : ∃ q, (decide (0 ≤ p) && decide (p ≤ 67108864)) = q := ⟨_, rfl⟩
  obtain ⟨q2, h2⟩ : ∃ q, (decide (0 ≤ n) && decide (n ≤ p)) = q := ⟨_, rfl⟩
  obtain ⟨q3, h3⟩ : ∃ q, (decide (0 ≤ s) && decide (s ≤ 1000)) = q := ⟨_, rfl⟩
  rw [h1, h2, h3] at hg
  have C1 := Lib.hid (ewithin_any p 0 67108864 q1 · h1)
  have C2 := Lib.hid (ewithin_any n 0 p q2 · h2)
  have C3 := Lib.hid (ewithin_any s 0 1000 q3 · h3)
  clear h1 h2 h3
  cases q1
  · obtain rfl : false = g := hg
    go_enter Try.func33, Try.ntmps33
    go_wp2_with fail
    refine (C1.out _).mono ?_; rintro e w' ⟨rfl, n1, rfl⟩
    go_wp2
    go_ret
    exact ⟨rfl, by repeat (first | exact Below.refl _ _ | refine Below.setCell ?_ (by first | omega | (simp; done) | (simp; omega)) _ | refine below_dN ?_ _ | refine Below.drew ?_ | refine Below.alloc ?_ (by first | omega | (simp; done) | (simp; omega)) _)⟩
  · cases q2
    · obtain rfl : false = g := hg
      go_enter Try.func33, Try.ntmps33
      go_wp2_with fail
      refine (C1.out _).mono ?_; rintro e w' ⟨rfl, n2, rfl⟩
      go_wp2_with fail
      refine (C2.out _).mono ?_; rintro e w' ⟨rfl, n3, rfl⟩
      go_wp2
      go_ret
      exact ⟨rfl, by repeat (first | exact Below.refl _ _ | refine Below.setCell ?_ (by first | omega | (simp; done) | (simp; omega)) _ | refine below_dN ?_ _ | refine Below.drew ?_ | refine Below.alloc ?_ (by first | omega | (simp; done) | (simp; omega)) _)⟩
    · rw [Bool.true_and, Bool.true_and] at hg
      subst hg
      go_enter Try.func33, Try.ntmps33
      go_wp2_with fail
      refine (C1.out _).mono ?_; rintro e w' ⟨rfl, n4, rfl⟩
      go_wp2_with fail
      refine (C2.out _).mono ?_; rintro e w' ⟨rfl, n5, rfl⟩
      go_wp2_with fail
      refine (C3.out _).mono ?_; rintro e w' ⟨rfl, n6, rfl⟩
      go_wp2
      go_ret
      exact ⟨rfl, by repeat (first | exact Below.refl _ _ | refine Below.setCell ?_ (by first | omega | (simp; done) | (simp; omega)) _ | refine below_dN ?_ _ | refine Below.drew ?_ | refine Below.alloc ?_ (by first | omega | (simp; done) | (simp; omega)) _)⟩
theorem springsB_eq (l : List Sp) : springsB l = (decide (l.length ≤ 20) && l.all Sp.good) := rfl
theorem sp_false2 {l : List Sp} {i : Nat} {x : Sp} (h : l[i]? = some x) (hx : x.good = false) : l.all Sp.good = false := by
  rw [List.all_eq_false]
  exact ⟨x, List.mem_of_getElem? h, by simp [hx]⟩
set_option maxHeartbeats 1600000 in
set_option maxRecDepth 100000 in
theorem elegal_any (A : Option Addr) (cap : Nat) (l : List Sp) (g : Bool) (w : World) (hcap : cap ≤ 9223372036854775807) (hlc : l.length ≤ cap) (hR : RdSp w A l) (hg : springsB l = g) :
    Calls Try.prog 22 #[.slice A l.length cap] w (RetB (.bool g) w) := by
  rw [springsB_eq] at hg
  obtain ⟨n, hl⟩ : ∃ n, l.length = n := ⟨_, rfl⟩
  rw [hl] at hg hlc ⊢
  have H := Lib.hid (And.intro hl hR)
  clear hl hR
  by_cases h20 : n ≤ 20
  · rw [decide_eq_true h20, Bool.true_and] at hg
    have d1 : decide ((n : Int) > 20) = false := decide_eq_false (by omega)
    replace hg := Lib.hid hg
    go_enter Try.func22, Try.ntmps22
    go_wp2
    clear d1
    go_loopw [10] (fun st wr => ∃ (i : Nat), st = .int .i64 (i : Int) ∧ i ≤ n ∧ Hid ((l.take i).all Sp.good = true ∧ Below w.heap.size w wr)) (fun st _ => n - (intOf st).toNat)
    case atStart => exact ⟨0, rfl, by omega, Lib.hid ⟨by simp, Below.refl _ _⟩⟩
    case round =>
      obtain ⟨i, rfl, hin, K⟩ := hrel
      rcases Nat.lt_or_ge i n with hlt | hge
      · have d1 : decide ((i : Int) < (n : Int)) = true := decide_eq_true (by omega)
        have e1 : IntKind.i64.wrap ((i : Int) + 1) = ((i + 1 : Nat) : Int) := by rw [IntKind.wrap_i64]; omega
        obtain ⟨x, hx⟩ : ∃ x, l[i]? = some x := ⟨_, List.getElem?_eq_getElem (by rw [H.out.1]; exact hlt)⟩
        obtain ⟨B, off, rfl, c0, c1, c2⟩ := (H.out.2.below K.out.2) i x hx
        obtain ⟨q, hq⟩ : ∃ q, x.good = q := ⟨_, rfl⟩
        have C := Lib.hid (egood_any x q · hq)
        have K2 : Hid (l[i]? = some x ∧ (l.take i).all Sp.good = true ∧ Below w.heap.size w wr ∧ x.good = q) := ⟨hx, K.out.1, K.out.2, hq⟩
        clear hx K hq
        obtain ⟨p, nd, s⟩ := x
        simp only at c0 c1 c2 C
        cases q
        · obtain rfl : false = g := by rw [← hg.out]; exact (sp_false2 K2.out.1 K2.out.2.2.2).symm
          go_wp2_with fail
          refine (C.out _).mono ?_; rintro e hw ⟨rfl, h⟩
          go_wp2
          go_ret
          exact ⟨rfl, below_on K2.out.2.2.1 (by have s0 := h.size; (try simp only [World.heap_drewN, World.size_alloc] at s0); repeat (first | exact Below.refl _ _ | exact h | refine Below.trans ?_ (Below.mono h (by first | omega | (simp; done) | (simp; omega))) | refine Below.setCell ?_ (by first | omega | (simp; done) | (simp; omega)) _ | refine below_dN ?_ _ | refine Below.drew ?_ | refine Below.alloc ?_ (by first | omega | (simp; done) | (simp; omega)) _))⟩
        · go_wp2_with fail
          refine (C.out _).mono ?_; rintro e hw ⟨rfl, h⟩
          go_wp2
          go_roundw
          case rel => exact ⟨i + 1, by first | rfl | simp, by omega, Lib.hid ⟨by rw [sp_next K2.out.1, K2.out.2.1, K2.out.2.2.2]; rfl, below_on K2.out.2.2.1 (by have s0 := h.size; (try simp only [World.heap_drewN, World.size_alloc] at s0); repeat (first | exact Below.refl _ _ | exact h | refine Below.trans ?_ (Below.mono h (by first | omega | (simp; done) | (simp; omega))) | refine Below.setCell ?_ (by first | omega | (simp; done) | (simp; omega)) _ | refine below_dN ?_ _ | refine Below.drew ?_ | refine Below.alloc ?_ (by first | omega | (simp; done) | (simp; omega)) _))⟩⟩
          case measure => simp [intOf]; omega
      · have d1 : decide ((i : Int) < (n : Int)) = false := decide_eq_false (by omega)
        obtain rfl : true = g := by rw [← hg.out, ← K.out.1, List.take_of_length_le (by rw [H.out.1]; exact hge)]
        go_wp2
        go_ret
        exact ⟨rfl, K.out.2⟩
  · rw [decide_eq_false h20, Bool.false_and] at hg
    subst hg
    have d1 : decide ((n : Int) > 20) = true := decide_eq_true (by omega)
    go_enter Try.func22, Try.ntmps22
    go_wp2
    go_ret
    exact ⟨rfl, by repeat (first | exact Below.refl _ _ | refine Below.setCell ?_ (by first | omega | (simp; done) | (simp; omega)) _ | refine below_dN ?_ _ | refine Below.drew ?_ | refine Below.alloc ?_ (by first | omega | (simp; done) | (simp; omega)) _)⟩
set_option maxHeartbeats 1600000 in
theorem elow_any (x : Sp) (v : Int) (w : World) (hv : fixS x = v) : Calls Try.prog 24 #[.agg #[.int .i64 x.want, .int .i64 x.least, .int .i64 x.soft]] w (RetB (.int .i64 v) w) := by
  obtain ⟨p, n, s⟩ := x
  have hf : fixS ⟨p, n, s⟩ = if s = 0 then p else n := rfl
  rw [hv] at hf
  clear hv
  simp only
  by_cases h0 : s = 0
  · have k : (s == 0) = true := beq_iff_eq.2 h0
    rw [if_pos h0] at hf
    subst hf
    clear h0
    go_enter Try.func24, Try.ntmps24
    go_wp2
    go_ret
    exact ⟨rfl, by repeat (first | exact Below.refl _ _ | refine Below.setCell ?_ (by first | omega | (simp; done) | (simp; omega)) _ | refine below_dN ?_ _ | refine Below.drew ?_ | refine Below.alloc ?_ (by first | omega | (simp; done) | (simp; omega)) _)⟩
  · have k : (s == 0) = false := beq_eq_false_iff_ne.2 h0
    rw [if_neg h0] at hf
    subst hf
    clear h0
    go_enter Try.func24, Try.ntmps24
    go_wp2
    go_ret
    exact ⟨rfl, by repeat (first | exact Below.refl _ _ | refine Below.setCell ?_ (by first | omega | (simp; done) | (simp; omega)) _ | refine below_dN ?_ _ | refine Below.drew ?_ | refine Below.alloc ?_ (by first | omega | (simp; done) | (simp; omega)) _)⟩
/-! ## New blocks of numbers -/
def mapF (f : Sp → Int) (l : List Sp) (k : Nat) : Int := ((l[k]?).map f).getD 0
theorem mapF_of {f : Sp → Int} {l : List Sp} {k : Nat} {s : Sp} (h : l[k]? = some s) : mapF f l k = f s := by unfold mapF; rw [h]; rfl
theorem mapF_getD (f : Sp → Int) (l : List Sp) (k : Nat) : (l.map f).getD k 0 = mapF f l k := by unfold mapF; rw [List.getD, List.getElem?_map]
/-- The first i laid. -/
def laidF (f : Nat → Int) (i k : Nat) : Int := if k < i then f k else 0
theorem laidF_next (f : Nat → Int) (i : Nat) {v : Int} (h : f i = v) (q : Nat) : (if q = i then v else laidF f i q) = laidF f (i + 1) q := by
  unfold laidF
  by_cases c : q = i
  · subst c; rw [if_pos rfl, if_pos (by omega), h]
  · rw [if_neg c]
    by_cases c2 : q < i
    · rw [if_pos c2, if_pos (by omega)]
    · rw [if_neg c2, if_neg (by omega)]
/-- It returns a new block of n numbers f. -/
def NewA (n : Nat) (f : Nat → Int) (w : World) (en : Ending) (w' : World) : Prop := ∃ B, en = .returned (.slice (some ⟨B, 0, none⟩) n n) ∧ w.heap.size ≤ B ∧ CelZ B n f w' ∧ Below w.heap.size w w'
/-- A block of numbers beyond w. -/
structure NBl (w : World) (X n : Nat) (f : Nat → Int) (W : World) : Prop where
  x : CelZ X n f W
  wx : w.heap.size ≤ X
  below : Below w.heap.size w W
theorem NBl.on {w W W' : World} {X n : Nat} {f : Nat → Int} (p : NBl w X n f W) (hb : Below W.heap.size W W') : NBl w X n f W' := ⟨p.x.on hb, p.wx, below_on p.below hb⟩
theorem NBl.set {w W : World} {X n : Nat} {f g : Nat → Int} (p : NBl w X n f W) {k : Nat} (hk : k < n) {v : Int} (e : ∀ q, (if q = k then v else f q) = g q) : NBl w X n g (W.setCell ⟨X, k, none⟩ (.int .i64 v)) :=
  ⟨(p.x.store hk v).to fun q _ => e q, p.wx, p.below.setCell p.wx _⟩
theorem NBl.to {w W : World} {X n : Nat} {f g : Nat → Int} (p : NBl w X n f W) (e : ∀ q, q < n → f q = g q) : NBl w X n g W := ⟨p.x.to e, p.wx, p.below⟩
theorem NBl.fresh (w g : World) (e : TypeId) (n : Nat) (h : Below w.heap.size w g) : NBl w g.heap.size n (fun _ => 0) (g.alloc (.cells (madeCells #[.int .i64 0] n) e)) :=
  ⟨CelZ.fresh g e n, h.size, h.alloc h.size _⟩
theorem NBl.laid (f : Nat → Int) (w g : World) (e : TypeId) (n : Nat) (h : Below w.heap.size w g) : NBl w g.heap.size n (laidF f 0) (g.alloc (.cells (madeCells #[.int .i64 0] n) e)) :=
  (NBl.fresh w g e n h).to fun q _ => by unfold laidF; rw [if_neg (by omega)]
theorem NBl.done {w W : World} {X n : Nat} {f : Nat → Int} (p : NBl w X n (laidF f n) W) : NBl w X n f W := p.to fun q hq => by unfold laidF; rw [if_pos hq]
/-- The springs' cells in a world later on. -/
def AtSp (A : Option Addr) (l : List Sp) (w : World) : Prop := ∀ (i : Nat) (x : Sp), l[i]? = some x → ∃ B off, A = some ⟨B, off, none⟩ ∧ B < w.heap.size ∧ ∀ W, Below w.heap.size w W → W.cell? ⟨B, off + i * 3, none⟩ = some (.int .i64 x.want) ∧ W.cell? ⟨B, off + i * 3 + 1, none⟩ = some (.int .i64 x.least) ∧ W.cell? ⟨B, off + i * 3 + 2, none⟩ = some (.int .i64 x.soft)
theorem RdSp.ats {A : Option Addr} {l : List Sp} {w : World} (h : RdSp w A l) : AtSp A l w := fun i x hx => by
  obtain ⟨B, off, rfl, a0, _⟩ := h i x hx
  refine ⟨B, off, rfl, cell_lt a0, fun W hb => ?_⟩
  obtain ⟨B', off', he, b⟩ := (h.below hb) i x hx
  cases he
  exact b
theorem Try.infoN64 : (Try.prog.info? 2).map (fun i => (i.zero, i.size, i.bytes)) = some (some (.int .i64 0), 1, 8) := by kernel_rfl
set_option maxHeartbeats 3200000 in
set_option maxRecDepth 100000 in
theorem ewants_any (A : Option Addr) (cap : Nat) (l : List Sp) (w : World) (hcap : cap ≤ 9223372036854775807) (hlc : l.length ≤ cap) (h20 : l.length ≤ 20) (hR : RdSp w A l) :
    Calls Try.prog 19 #[.slice A l.length cap] w (NewA l.length (mapF Sp.want l) w) := by
  obtain ⟨n, hl⟩ : ∃ n, l.length = n := ⟨_, rfl⟩
  have At := Lib.hid hR.ats
  have H := Lib.hid hl
  rw [hl] at hlc h20 ⊢
  clear hl hR
  have hmk : ∀ w', (Instr.makeSlice 23 (.int .i64 (n : Int)) (.int .i64 (n : Int))).run Try.prog w' = .ok (.slice (some ⟨w'.heap.size, 0, none⟩) n n) (w'.alloc (.cells (madeCells #[.int .i64 0] n) 2)) := fun w' => run_make_row' _ _ _ 8 Try.underlying23 Try.infoN64 (by kernel_rfl) .i64 .i64 n (by omega) (by omega) w'
  have K0 : Hid (NBl w w.heap.size n (laidF (mapF Sp.want l) 0) (w.alloc (.cells (madeCells #[.int .i64 0] n) 2))) := NBl.laid _ w w _ n (Below.refl _ _)
  go_enter Try.func19, Try.ntmps19
  go_wp2
  clear hmk
  generalize w.alloc _ = w2 at K0 ⊢
  generalize hX : w.heap.size = X at K0 ⊢
  clear hX
  go_loopw [11] (fun st wr => ∃ (i : Nat), st = .int .i64 (i : Int) ∧ i ≤ n ∧ Hid (NBl w X n (laidF (mapF Sp.want l) i) wr)) (fun st _ => n - (intOf st).toNat)
  case atStart => exact ⟨0, rfl, by omega, K0⟩
  case round =>
    clear K0
    obtain ⟨i, rfl, hin, K⟩ := hrel
    rcases Nat.lt_or_ge i n with hlt | hge
    · have d1 : decide ((i : Int) < (n : Int)) = true := decide_eq_true (by omega)
      have e1 : IntKind.i64.wrap ((i : Int) + 1) = ((i + 1 : Nat) : Int) := by rw [IntKind.wrap_i64]; omega
      have b1 : (i : Int) < (n : Int) := by omega
      obtain ⟨x, hx⟩ : ∃ x, l[i]? = some x := ⟨_, List.getElem?_eq_getElem (by rw [H.out]; exact hlt)⟩
      obtain ⟨B, off, rfl, hBw, hat⟩ := At.out i x hx
      obtain ⟨c0, c1, c2⟩ := hat _ K.out.below
      have bm : ∀ cs, Below wr.heap.size wr (wr.alloc cs) := fun cs => (Below.refl _ _).alloc (Nat.le_refl _) _
      have f2 : ∀ cs, (wr.alloc cs).frozen? ⟨X, i, none⟩ = false := fun cs => (K.out.on (bm cs)).x.frz i hlt
      have f1 : ∀ cs, (wr.alloc cs).cell? ⟨X, i, none⟩ = some (.int .i64 (laidF (mapF Sp.want l) i i)) := fun cs => (K.out.on (bm cs)).x.cell i hlt
      have K2 : Hid (∀ cs, NBl w X n (laidF (mapF Sp.want l) (i + 1)) ((wr.alloc cs).setCell ⟨X, i, none⟩ (.int .i64 x.want))) := fun cs => (K.out.on (bm cs)).set hlt (laidF_next _ _ (mapF_of hx))
      clear hx hat K bm
      obtain ⟨p, nd, s⟩ := x
      simp only at c0 c1 c2 K2
      go_wp2
      go_roundw
      case rel => exact ⟨i + 1, by first | rfl | simp, by omega, K2.out _⟩
      case measure => simp [intOf]; omega
    · have d1 : decide ((i : Int) < (n : Int)) = false := decide_eq_false (by omega)
      obtain rfl : i = n := by omega
      go_wp2
      go_ret
      exact ⟨X, rfl, K.out.done.wx, K.out.done.x, K.out.done.below⟩
theorem sum_small : ∀ {l : List Int}, (∀ x ∈ l, 0 ≤ x ∧ x ≤ 67108864) → 0 ≤ l.sum ∧ l.sum ≤ 67108864 * (l.length : Int)
  | [], _ => by simp
  | x :: l, h => by
    have h1 := h x (by simp)
    have h2 := sum_small (l := l) (fun y hy => h y (by simp [hy]))
    rw [List.sum_cons, List.length_cons, Int.natCast_add, Int.mul_add]; omega
set_option maxHeartbeats 1600000 in
theorem esum_any (A : Option Addr) (c : Nat) (l : List Int) (v : Int) (w : World) (hl : l.length ≤ 20) (hb : ∀ x ∈ l, 0 ≤ x ∧ x ≤ 67108864) (hr : ReadsI w A l) (hv : l.sum = v) :
    Calls Try.prog 20 #[.slice A l.length c] w (Ret (.int .i64 v) w) := by
  have hs := sum_small hb
  obtain ⟨t1, t2⟩ := tot_yes (l := l) (fun x hx => (hb x hx).1) (fitB_true ⟨by omega, by omega⟩)
  have C := Lib.hid (usum_any A c l v true w (by omega) (fun x hx => by have := hb x hx; exact fitB_true ⟨by omega, by omega⟩) hr (by rw [t2, hv]) t1)
  generalize l.length = n at *
  clear hb hr hv t1 t2 hs hl
  go_enter Try.func20, Try.ntmps20
  go_wp2_with fail
  refine C.out.mono ?_; rintro e w' ⟨rfl, q, rfl⟩
  go_wp2
  go_ret
  first | exact ⟨rfl, 0, rfl⟩ | exact ⟨rfl, _, rfl⟩
end Go.Proofs.Ytkjgpidiompmlaa
