/- Package over: Spans, Worst: loops over the iterator of intervals. -/
import Derived.Test.YtacffjkhbajgkaaDoorOvP4
import Derived.Maps.AppendAt
import Derived.Test.YtacffjkhbajgkaaDoorOvRef3
namespace Go.Proofs.YtacffjkhbajgkaaDoor
open Go.RowKit Go.Lib
set_option linter.unusedVariables false
set_option linter.unusedSimpArgs false
attribute [local go_sem] Oper.semAt_some

/-- A box of one span. -/
def Box2 (W : World) (B : Nat) (a b : Int) : Prop := W.heap[B]? = some (.cells #[.int .i64 a, .int .i64 b] 32 (0, 0))
section
variable {W W' : World} {B : Nat} {a b : Int}
theorem Box2.lt (h : Box2 W B a b) : B < W.heap.size := (Array.getElem?_eq_some_iff.1 h).1
theorem Box2.c0 (h : Box2 W B a b) : W.cell? ⟨B, 0, none⟩ = some (.int .i64 a) := by simp [World.cell?, show W.heap[B]? = _ from h]
theorem Box2.c1 (h : Box2 W B a b) : W.cell? ⟨B, 1, none⟩ = some (.int .i64 b) := by simp [World.cell?, show W.heap[B]? = _ from h]
theorem Box2.fr (h : Box2 W B a b) (k : Nat) : W.frozen? ⟨B, k, none⟩ = false := by simp [World.frozen?, show W.heap[B]? = _ from h]
theorem Box2.new (W : World) (a b : Int) : Box2 (W.alloc (.cells #[.int .i64 a, .int .i64 b] 32)) W.heap.size a b := heap_alloc_new W _
theorem Box2.kept {row : Option Nat} (h : Box2 W B a b) (hg : W.grownBy W' row) (hne : some B ≠ row) : Box2 W' B a b := (hg.block B h.lt hne).trans h
theorem Box2.own : Own (fun (_ : Unit) W => Box2 W B a b) := fun s X Y row hs hg hrow =>
  hs.kept hg (fun e' => by obtain ⟨o, ho, hc⟩ := hrow B e'.symm; rw [show X.heap[B]? = _ from hs] at ho; cases ho; cases hc)
end
theorem Box2.set0 {W : World} {B : Nat} {a b : Int} (h : Box2 W B a b) (x : Int) : Box2 (W.setCell ⟨B, 0, none⟩ (.int .i64 x)) B x b := by
  obtain ⟨hlt, hk⟩ := Array.getElem?_eq_some_iff.1 h
  show (W.heap.modify B _)[B]? = _
  rw [Array.getElem?_eq_getElem (by rw [Array.size_modify]; exact hlt), Array.getElem_modify_self, hk]
  rfl
theorem Box2.set1 {W : World} {B : Nat} {a b : Int} (h : Box2 W B a b) (x : Int) : Box2 (W.setCell ⟨B, 1, none⟩ (.int .i64 x)) B a x := by
  obtain ⟨hlt, hk⟩ := Array.getElem?_eq_some_iff.1 h
  show (W.heap.modify B _)[B]? = _
  rw [Array.getElem?_eq_getElem (by rw [Array.size_modify]; exact hlt), Array.getElem_modify_self, hk]
  rfl
theorem Box2.other {W : World} {B C k : Nat} {a b : Int} (h : Box2 W B a b) (hne : B ≠ C) (v : Value) : Box2 (W.setCell ⟨C, k, none⟩ v) B a b := h.kept (grown_set W C k v) (fun e => hne (by cases e; rfl))
theorem boxed_other {W : World} {B C k : Nat} {t : TypeId} {u : Value} (h : Boxed W B t u) (hne : B ≠ C) (v : Value) : Boxed (W.setCell ⟨C, k, none⟩ v) B t u := h.kept (grown_set W C k v) (fun e => hne (by cases e; rfl))
/-- A store into a block of one's own that holds no jobs. -/
theorem kp_set {n₀ n₁ B k : Nat} {W : World} {cs : Array Value} {t : TypeId} {fr : Nat × Nat} (hB0 : n₀ ≤ B) (hB1 : B < n₁) (h : W.heap[B]? = some (.cells cs t fr)) (ht : t ≠ 25) (v : Value) : KpT n₀ n₁ W (W.setCell ⟨B, k, none⟩ v) :=
  ⟨(Below.refl n₀ W).setCell (p := ⟨B, k, none⟩) hB0 v, fun j hj _ => Below.heap_setCell _ _ _ j (by intro e; have : j = B := e; omega), fun j u hu => boxed_other hu (fun e => by
    subst e
    unfold Boxed at hu
    rw [h] at hu
    cases hu
    exact ht rfl) v⟩
/-- A row of one kind is no block of another. -/
theorem row_ne {W : World} {base size n k : Nat} {e t : TypeId} {v : Value} {xs : List Value} {cs : Array Value} {fr : Nat × Nat} (h : W.ownsRow base e size v n xs) (hk : W.heap[k]? = some (.cells cs t fr)) (hte : t ≠ e) : some k ≠ v.ownBlock := by
  rcases h.2 with ⟨rfl, _⟩ | ⟨g, cap, cur, rfl, _, hgb, _⟩
  · simp [Value.ownBlock]
  · intro e'
    obtain rfl : k = g := by simpa [Value.ownBlock] using e'
    rw [hgb] at hk
    cases hk
    exact hte rfl
/-- What a round keeps that writes its row of spans and the box B of it. -/
theorem kp_row {n₀ n₁ B base : Nat} {W W1 : World} {v v' : Value} {n : Nat} {xs : List Value} (hn0 : n₀ ≤ W.heap.size) (hv : Boxed W B 26 v) (hB0 : n₀ ≤ B) (hB1 : B < n₁) (hrow : W.ownsRow n₀ 32 2 v n xs) (hg : W.grownBy W1 v.ownBlock) :
    KeepsOthers W (W1.setCell ⟨B, 0, none⟩ v') ∧ KpT n₀ n₁ W (W1.setCell ⟨B, 0, none⟩ v') := by
  refine ⟨(KeepsOthers.of_grownBy hg fun j o ej hj => ?_).trans (KeepsOthers.setCell _ _ _), ((Below.refl n₀ W).grown hg hn0 fun j ej => (hrow.lt j ej).1).setCell (p := ⟨B, 0, none⟩) hB0 v', ?_, ?_⟩
  · rcases hrow.2 with ⟨rfl, _⟩ | ⟨g, cap, cur, rfl, _, hgb, _⟩
    · simp [Value.ownBlock] at ej
    · obtain rfl : g = j := by simpa [Value.ownBlock] using ej
      rw [hgb] at hj; cases hj; rfl
  · intro k hk ht
    obtain ⟨cs, fr, q⟩ := ht
    have h1 := hg.block k (Array.getElem?_eq_some_iff.1 q).1 (row_ne hrow q (by decide))
    exact (Below.heap_setCell _ _ _ k (by intro e; have : k = B := e; omega)).trans h1
  · intro k u hu
    have h1 : Boxed W1 k 25 u := hu.kept hg (row_ne hrow hu (by decide))
    refine h1.other (fun e => ?_) v'
    subst e
    unfold Boxed at hv hu
    rw [hv] at hu
    cases hu

set_option maxHeartbeats 6400000 in
set_option maxRecDepth 100000 in
theorem spans_any (A : Option Addr) (cap : Nat) (l : List Jb) (w : World) (hn : l.length ≤ 40) (hcap : cap ≤ 9223372036854775807) (hlc : l.length ≤ cap) (hs : ∀ x ∈ l, x.name.size ≤ 1000000) (hL : Ltr w) (hR : RdJ w A l) :
    Calls Tryd.prog 8 #[.slice A l.length cap] w (fun e w' => ∃ v, e = .returned v ∧ w'.ownsRow w.heap.size 32 2 v (spansB l).length (cellsT (spansB l)) ∧ Below w.heap.size w w') := by
  obtain ⟨g, hg⟩ : ∃ g, allB l = g := ⟨_, rfl⟩
  have C1 := Lib.hid (all_any A cap l g w hcap hlc hs hL hR hg)
  cases g
  · rw [spansB_none hg]
    generalize l.length = n at *
    clear hs hL hR hg
    go_enter Tryd.func8, Tryd.ntmps8
    go_wp2_with fail
    refine C1.out.mono ?_; rintro e gw ⟨rfl, gb⟩
    replace gb := Lib.hid gb
    clear C1
    go_wp2
    go_ret
    exact ⟨_, rfl, World.ownsRow_nil _ _ _ _, gb.out⟩
  · have hsp : ∀ ys, (∀ E : Nat, (∀ v ∈ wds l, v.d ≤ (E : Int)) → spansI ys = (segs (hotW (wds l)) E).reverse) → spansI ys = spansB l := fun ys h => by
      unfold spansB
      rw [if_pos hg, h ((endZ l).toNat + 1) (fun v hv => by have := (endZ_all hg).2.2 v hv; have := (endZ_all hg).1; omega)]
      rfl
    refine (callsIn_wide (n := 6)).1 ?_
    refine callsIn_of_wp_marks Tryd.func8 rfl trivial ?_ rfl
    simp only [Tryd.ntmps8, List.size_toArray, List.length_cons, List.length_nil, Nat.reduceAdd, Nat.reduceSub, Array.replicate_succ, Array.replicate_zero, List.push_toArray, List.append_toArray, List.nil_append, List.cons_append]
    gi_wp2_with fail
    refine ⟨trivial, (callsIn_wide.2 C1.out).mono ?_⟩
    rintro _ gw ⟨rfl, gb⟩
    clear C1
    gi_wp2_with fail
    refine ⟨trivial, (callsIn_wide.2 (intervals_any _ _ _ _)).mono ?_⟩
    rintro _ _ ⟨rfl, rfl⟩
    gi_wp2_with fail
    have bS := (Boxed.new gw 26 (.slice none 0 0)).alloc (.cells #[.slice A l.length cap] 25)
    have bJ := Boxed.new (gw.alloc (.cells #[.slice none 0 0] 26)) 25 (.slice A l.length cap)
    simp only [World.size_alloc] at bJ
    have hB0 : Below w.heap.size w ((gw.alloc (.cells #[.slice none 0 0] 26)).alloc (.cells #[.slice A l.length cap] 25)) := (gb.alloc gb.size _).alloc (by have := gb.size; simp; omega) _
    have hsz : ((gw.alloc (.cells #[.slice none 0 0] 26)).alloc (.cells #[.slice A l.length cap] 25)).heap.size = gw.heap.size + 2 := by simp
    have hgw := gb.size
    clear gb
    try simp only [World.size_alloc]
    generalize (gw.alloc (.cells #[.slice none 0 0] 26)).alloc (.cells #[.slice A l.length cap] 25) = W0 at *
    generalize gw.heap.size = M at *
    have hn0 : w.heap.size ≤ W0.heap.size := hB0.size
    refine wpIn_rangeFunc_ownH rfl (by omega) (gf := 28) (lb := #[.pointer (some ⟨M + 1, 0, none⟩)]) rfl trivial (enters_of Tryd.func28 (by kernel_rfl) rfl)
      (ival_stops _ (by omega) w W0 (M + 1) A cap l hn hcap hlc hs hg hL hR hB0 bJ) KpT.tr (KpT.bk hn0) (Below.refl _ _) (fun _ => rfl)
      (fun pre W => (∃ v, Boxed W M 26 v ∧ W.ownsRow w.heap.size 32 2 v (spansI pre).length (cellsT (spansI pre)) ∧ True) ∧ Below w.heap.size w W)
      (fun _ _ _ => False)
      (OwnFrom.and (Own.from (holdsRow_own w.heap.size M 26 32 2 (fun pre => (spansI pre).length) (fun pre => cellsT (spansI pre)) (fun _ _ => True)) _) (ownFrom_below (Nat.le_refl _) hn0))
      (fun _ _ _ _ _ hs _ _ => hs)
      ⟨⟨_, bS, World.ownsRow_nil _ _ _ _, trivial⟩, hB0⟩
      (fun x a' W => ∃ Bx, M < Bx ∧ Box2 W Bx x.1.1 x.1.2 ∧ a' = { tmps := #[.slice A l.length cap, undef, .slice none 0 0, .pointer (some ⟨M, 0, none⟩), .pointer (some ⟨Bx, 0, none⟩), .int .i64 x.2, .slice A l.length cap, .bool true, .bool false, .slice A l.length cap, .func (.func 28) #[] #[.pointer (some ⟨M + 1, 0, none⟩)], .agg #[.int .i64 x.1.1, .int .i64 x.1.2], .int .i64 x.2, undef, undef, undef, undef, undef, undef], defers := [] })
      (fun x a' _ X Y row hs hg hr => by obtain ⟨Bx, h1, h2, h3⟩ := hs; exact ⟨Bx, h1, Box2.own () X Y row h2 hg (fun r e => (hr r e).2), h3⟩)
      ?assign ?body ?done ?stop
    case assign =>
      rintro lid pre x W K ⟨⟨v, hv, hrow, _⟩, hB⟩ hK
      obtain ⟨⟨xa, xb⟩, xd⟩ := x
      simp only [encIv]
      gi_wp2
      have gA : W.grownBy (W.alloc (.cells #[.int .i64 xa, .int .i64 xb] 32)) none := World.grownBy_alloc W _ none
      refine hK _ _ ((KeepsOthers.alloc _ _).from _) ⟨(Below.refl _ W).alloc hB.size _, fun k _ ht => gA.block k ht.lt (by simp), fun k u hu => hu.alloc _⟩ ⟨⟨v, hv.alloc _, hrow.alloc _, trivial⟩, hB.alloc hB.size _⟩ ⟨W.heap.size, hv.lt, Box2.new W _ _, rfl⟩
    case body =>
      rintro lid pre x a' W hl ⟨r, hr⟩ ⟨⟨v, hv, hrow, _⟩, hB⟩ ⟨Bx, hBx, bX, rfl⟩ hlt
      have hc := hv.cell
      have x0 := bX.c0
      have x1 := bX.c1
      have hlen := spansI_len pre
      have CJ := Lib.hid (join_any w.heap.size (spansI pre) v x.1.1 x.1.2 W (by omega) hB.size hrow)
      have HS : Hid (Boxed W M 26 v ∧ W.ownsRow w.heap.size 32 2 v (spansI pre).length (cellsT (spansI pre)) ∧ Below w.heap.size w W) := ⟨hv, hrow, hB⟩
      have HX := Lib.hid (spansI_snoc pre x)
      obtain ⟨⟨xa, xb⟩, xd⟩ := x
      simp only at x0 x1 CJ
      clear hlen bX
      by_cases hx : xd > 0
      · have d1 : decide (xd > 0) = true := decide_eq_true hx
        have HX2 : Hid (spansI (pre ++ [((xa, xb), xd)]) = joinA (spansI pre) (xa, xb)) := by show _ = _; rw [HX.out]; unfold sstepI; rw [if_pos hx]
        clear hv hrow hB hx
        gi_wp2_with fail
        refine ⟨trivial, (CallsIn.inRound lid (callsIn_wide.2 CJ.out)).mono ?_⟩
        rintro _ W1 ⟨v', rfl, hrow', hgr⟩
        obtain ⟨A', c', rfl, _, _, _⟩ := own_rdS hrow'
        have hv1 : Boxed W1 M 26 v := HS.out.1.kept hgr (HS.out.1.not_row (by decide) HS.out.2.1)
        have hc1 := hv1.cell
        have hf1 := hv1.frozen
        obtain ⟨k1, k2⟩ := kp_row (n₁ := W0.heap.size) (v' := .slice A' (joinA (spansI pre) (xa, xb)).length c') (base := 0) HS.out.2.2.size HS.out.1 hgw (by omega) HS.out.2.1 hgr
        have hr2 : (W1.setCell ⟨M, 0, none⟩ (.slice A' (joinA (spansI pre) (xa, xb)).length c')).ownsRow w.heap.size 32 2 (.slice A' (joinA (spansI pre) (xa, xb)).length c') (joinA (spansI pre) (xa, xb)).length (cellsT (joinA (spansI pre) (xa, xb))) := hrow'.kept (grownBy_setCell' W1 M _) (.inr (hv1.not_row (by decide) hrow').symm)
        have hv2 := hv1.set (.slice A' (joinA (spansI pre) (xa, xb)).length c')
        have K9 := Lib.hid (And.intro k1 (And.intro k2 (And.intro hr2 hv2)))
        clear hrow' hgr hv1 k1 k2 hr2 hv2 CJ
        gi_wp2
        exact ⟨K9.out.1.from _, K9.out.2.1, ⟨_, K9.out.2.2.2, by rw [HX2.out]; exact K9.out.2.2.1, trivial⟩, HS.out.2.2.trans K9.out.2.1.below⟩
      · have d1 : decide (xd > 0) = false := decide_eq_false hx
        have HX2 : Hid (spansI (pre ++ [((xa, xb), xd)]) = spansI pre) := by show _ = _; rw [HX.out]; unfold sstepI; rw [if_neg hx]
        clear hv hrow hB hx CJ
        gi_wp2
        exact ⟨KeepsFrom.refl _ _, ⟨Below.refl _ _, fun _ _ _ => rfl, fun _ _ h => h⟩, ⟨v, HS.out.1, by rw [HX2.out]; exact HS.out.2.1, trivial⟩, HS.out.2.2⟩
    case done =>
      rintro D ys W hD ⟨_, hS⟩ ⟨⟨v, hv, hrow, _⟩, hB⟩ hK
      have hy := hsp ys hS
      have hc := hv.cell
      gi_wp2
      refine ⟨by simp, .inl ⟨_, _, rfl, run_takeDeferred hK, ?_⟩⟩
      rw [hy] at hrow
      exact ⟨_, results_tmp rfl _ _ _, v, rfl, ownsRow_putObj hrow _ hK rfl, hB.trans (belowK_b (w := w) (Nat.le_refl _) W D _ _ (by omega) hK rfl rfl)⟩
    case stop =>
      rintro D c pre W _ _ h _
      exact h.elim
/-- What the loop of Worst keeps: the result's box, the best one's, its excess, is there one. -/
structure WsK (w : World) (R P Q T : Nat) (b : Bw) (W : World) : Prop where
  res : Box2 W R 0 0
  best : Box2 W P b.1.1 b.1.2
  most : Boxed W Q 3 (.int .i64 b.2.1)
  ok : Boxed W T 4 (.bool b.2.2)
  below : Below w.heap.size w W
theorem WsK.own (w : World) (R P Q T n : Nat) (hn : w.heap.size ≤ n) : OwnFrom n (fun (pre : List Iv) W => WsK w R P Q T (worstI pre) W) := fun s X Y row hs hg hr =>
  ⟨Box2.own () X Y row hs.res hg (fun r e => (hr r e).2), Box2.own () X Y row hs.best hg (fun r e => (hr r e).2), boxed_own _ _ (fun (_ : Unit) => _) () X Y row hs.most hg (fun r e => (hr r e).2), boxed_own _ _ (fun (_ : Unit) => _) () X Y row hs.ok hg (fun r e => (hr r e).2),
    ownFrom_below (β := Unit) (Nat.le_refl _) hn () X Y row hs.below hg hr⟩
theorem WsK.alloc {w W : World} {R P Q T : Nat} {b : Bw} (h : WsK w R P Q T b W) (o : Obj) : WsK w R P Q T b (W.alloc o) :=
  ⟨(World.grownBy_alloc W o none).block R h.res.lt (by simp) |>.trans h.res, (World.grownBy_alloc W o none).block P h.best.lt (by simp) |>.trans h.best, h.most.alloc o, h.ok.alloc o, h.below.alloc h.below.size o⟩
/-- A better one. -/
def setW (P Q T : Nat) (x y z : Int) (W : World) : World := (((W.setCell ⟨P, 0, none⟩ (.int .i64 x)).setCell ⟨P, 1, none⟩ (.int .i64 y)).setCell ⟨Q, 0, none⟩ (.int .i64 z)).setCell ⟨T, 0, none⟩ (.bool true)
theorem WsK.set {w W : World} {R P Q T n₁ : Nat} {b : Bw} (h : WsK w R P Q T b W) (o1 : R < P) (o2 : P < Q) (o3 : Q < T) (o4 : T < n₁) (o5 : w.heap.size ≤ R) (x y z : Int) :
    WsK w R P Q T ((x, y), z, true) (setW P Q T x y z W) ∧ KeepsOthers W (setW P Q T x y z W) ∧ KpT w.heap.size n₁ W (setW P Q T x y z W) := by
  have a1 := h.best.set0 x
  have a2 := a1.set1 y
  have m2 := boxed_other (C := P) (k := 1) (boxed_other (C := P) (k := 0) h.most (by omega) (.int .i64 x)) (by omega) (.int .i64 y)
  have m3 := m2.set (.int .i64 z)
  have k3 := boxed_other (C := Q) (k := 0) (boxed_other (C := P) (k := 1) (boxed_other (C := P) (k := 0) h.ok (by omega) (.int .i64 x)) (by omega) (.int .i64 y)) (by omega) (.int .i64 z)
  have k4 := k3.set (.bool true)
  have p1 := kp_set (n₀ := w.heap.size) (n₁ := n₁) (k := 0) (by omega) (by omega) h.best (by decide) (.int .i64 x)
  have p2 := kp_set (n₀ := w.heap.size) (n₁ := n₁) (k := 1) (by omega) (by omega) a1 (by decide) (.int .i64 y)
  have p3 := kp_set (n₀ := w.heap.size) (n₁ := n₁) (k := 0) (by omega) (by omega) m2 (by decide) (.int .i64 z)
  have p4 := kp_set (n₀ := w.heap.size) (n₁ := n₁) (k := 0) (by omega) (by omega) k3 (by decide) (.bool true)
  have pp := ((p1.tr p2).tr p3).tr p4
  exact ⟨⟨(((h.res.other (by omega) _).other (by omega) _).other (by omega) _).other (by omega) _, (a2.other (by omega) _).other (by omega) _, boxed_other m3 (by omega) _, k4, h.below.trans pp.below⟩,
    (((KeepsOthers.setCell _ _ _).trans (KeepsOthers.setCell _ _ _)).trans (KeepsOthers.setCell _ _ _)).trans (KeepsOthers.setCell _ _ _), pp⟩

set_option maxHeartbeats 6400000 in
set_option maxRecDepth 100000 in
theorem worst_any (A : Option Addr) (cap : Nat) (l : List Jb) (a b d : Int) (q : Bool) (w : World) (hn : l.length ≤ 40) (hcap : cap ≤ 9223372036854775807) (hlc : l.length ≤ cap) (hs : ∀ x ∈ l, x.name.size ≤ 1000000) (hL : Ltr w) (hR : RdJ w A l) (hz : worstB l = ((a, b), d, q)) :
    Calls Tryd.prog 10 #[.slice A l.length cap] w (RetB (.tuple #[.agg #[.int .i64 a, .int .i64 b], .int .i64 d, .bool q]) w) := by
  obtain ⟨g, hg⟩ : ∃ g, allB l = g := ⟨_, rfl⟩
  have hm0 : Below w.heap.size w (w.alloc (.cells #[.int .i64 0, .int .i64 0] 32)) := (Below.refl _ _).alloc (Nat.le_refl _) _
  have C1 : Hid (∀ w', Below w.heap.size w w' → Calls Tryd.prog 17 #[.slice A l.length cap] w' (RetB (.bool g) w')) := fun w' hb => all_any A cap l g w' hcap hlc hs (hL.below hb) (hR.below hb) hg
  cases g
  · rw [worstB_none hg] at hz
    simp only [Prod.mk.injEq] at hz
    obtain ⟨⟨rfl, rfl⟩, rfl, rfl⟩ := hz
    generalize l.length = n at *
    clear hs hL hR hg
    go_enter Tryd.func10, Tryd.ntmps10
    go_wp2_with fail
    refine (C1.out _ hm0).mono ?_; rintro e gw ⟨rfl, gb⟩
    have B0 : Box2 gw w.heap.size 0 0 := (gb.block w.heap.size (by simp)).trans (Box2.new w 0 0)
    have B9 : Hid (Box2 ((gw.setCell ⟨w.heap.size, 0, none⟩ (.int .i64 0)).setCell ⟨w.heap.size, 1, none⟩ (.int .i64 0)) w.heap.size 0 0) := (B0.set0 0).set1 0
    have hb9 : Hid (Below w.heap.size w ((gw.setCell ⟨w.heap.size, 0, none⟩ (.int .i64 0)).setCell ⟨w.heap.size, 1, none⟩ (.int .i64 0))) := ((hm0.trans (gb.mono hm0.size)).setCell (p := ⟨w.heap.size, 0, none⟩) (Nat.le_refl _) _).setCell (p := ⟨w.heap.size, 1, none⟩) (Nat.le_refl _) _
    have c0 := B0.c0
    have c1 := B0.c1
    have f0 := B0.fr 0
    have f1 := B0.fr 1
    have c1' := (B0.set0 0).c1
    have f1' := (B0.set0 0).fr 1
    clear gb C1 B0
    go_wp2
    (try simp only [Exit.inBlock, Exit.then])
    have r0 := B9.out.c0
    have r1 := B9.out.c1
    refine bodyPost_ret (v := .tuple #[.agg #[.int .i64 0, .int .i64 0], .int .i64 0, .bool false]) ?_ rfl ⟨rfl, hb9.out⟩
    rw [results_cell3 rfl]; go_simp
  · rw [worstB_all hg] at hz
    refine (callsIn_wide (n := 6)).1 ?_
    refine callsIn_of_wp_marks Tryd.func10 rfl trivial ?_ rfl
    simp only [Tryd.ntmps10, List.size_toArray, List.length_cons, List.length_nil, Nat.reduceAdd, Nat.reduceSub, Array.replicate_succ, Array.replicate_zero, List.push_toArray, List.append_toArray, List.nil_append, List.cons_append]
    gi_wp2_with fail
    refine ⟨trivial, (callsIn_wide.2 (C1.out _ hm0)).mono ?_⟩
    rintro _ gw ⟨rfl, gb⟩
    clear C1
    have B0 : Box2 gw w.heap.size 0 0 := (gb.block w.heap.size (by simp)).trans (Box2.new w 0 0)
    have hbg : Below w.heap.size w gw := hm0.trans (gb.mono hm0.size)
    clear gb hm0
    gi_wp2_with fail
    refine ⟨trivial, (callsIn_wide.2 (intervals_any _ _ _ _)).mono ?_⟩
    rintro _ _ ⟨rfl, rfl⟩
    gi_wp2_with fail
    have bP := Box2.new gw 0 0
    have bQ := Boxed.new (gw.alloc (.cells #[.int .i64 0, .int .i64 0] 32)) 3 (.int .i64 0)
    have bT := Boxed.new ((gw.alloc (.cells #[.int .i64 0, .int .i64 0] 32)).alloc (.cells #[.int .i64 0] 3)) 4 (.bool false)
    have bJ := Boxed.new (((gw.alloc (.cells #[.int .i64 0, .int .i64 0] 32)).alloc (.cells #[.int .i64 0] 3)).alloc (.cells #[.bool false] 4)) 25 (.slice A l.length cap)
    have g1 : ∀ (W : World) o, W.grownBy (W.alloc o) none := fun W o => World.grownBy_alloc W o none
    have hRM := B0.lt
    have hgw := hbg.size
    have hW9 : WsK w w.heap.size gw.heap.size (gw.heap.size + 1) (gw.heap.size + 1 + 1) (worstI []) ((((gw.alloc (.cells #[.int .i64 0, .int .i64 0] 32)).alloc (.cells #[.int .i64 0] 3)).alloc (.cells #[.bool false] 4)).alloc (.cells #[.slice A l.length cap] 25)) := by
      simp only [World.size_alloc] at bQ bT
      exact ⟨(((B0.kept (g1 _ _) (by simp)).kept (g1 _ _) (by simp)).kept (g1 _ _) (by simp)).kept (g1 _ _) (by simp), ((bP.kept (g1 _ _) (by simp)).kept (g1 _ _) (by simp)).kept (g1 _ _) (by simp), (bQ.alloc _).alloc _, bT.alloc _,
        (((hbg.alloc hgw _).alloc (by simp; omega) _).alloc (by simp; omega) _).alloc (by simp; omega) _⟩
    simp only [World.size_alloc] at bJ
    have hsz : ((((gw.alloc (.cells #[.int .i64 0, .int .i64 0] 32)).alloc (.cells #[.int .i64 0] 3)).alloc (.cells #[.bool false] 4)).alloc (.cells #[.slice A l.length cap] 25)).heap.size = gw.heap.size + 1 + 1 + 1 + 1 := by simp
    clear B0 hbg bP bQ bT g1
    try simp only [World.size_alloc]
    generalize (((gw.alloc (.cells #[.int .i64 0, .int .i64 0] 32)).alloc (.cells #[.int .i64 0] 3)).alloc (.cells #[.bool false] 4)).alloc (.cells #[.slice A l.length cap] 25) = W0 at *
    generalize gw.heap.size = P at *
    obtain ⟨Q, hQ⟩ : ∃ Q, P + 1 = Q := ⟨_, rfl⟩
    rw [hQ] at hW9 bJ hsz ⊢
    obtain ⟨T, hT⟩ : ∃ T, Q + 1 = T := ⟨_, rfl⟩
    rw [hT] at hW9 bJ hsz ⊢
    obtain ⟨J9, hJ9⟩ : ∃ J, T + 1 = J := ⟨_, rfl⟩
    rw [hJ9] at bJ hsz ⊢
    obtain ⟨R, hRR⟩ : ∃ R, w.heap.size = R := ⟨_, rfl⟩
    have hRw : w.heap.size ≤ R := by omega
    have hRP : R < P := by omega
    have hn0 : w.heap.size ≤ W0.heap.size := hW9.below.size
    rw [hRR] at hW9 ⊢
    clear gw
    refine wpIn_rangeFunc_ownH rfl (by omega) (gf := 28) (lb := #[.pointer (some ⟨J9, 0, none⟩)]) rfl trivial (enters_of Tryd.func28 (by kernel_rfl) rfl)
      (ival_stops _ (by omega) w W0 J9 A cap l hn hcap hlc hs hg hL hR hW9.below bJ) KpT.tr (KpT.bk hn0) (Below.refl _ _) (fun _ => rfl)
      (fun pre W => WsK w R P Q T (worstI pre) W)
      (fun _ _ _ => False)
      (WsK.own w R P Q T _ hn0)
      (fun _ _ _ _ _ hs _ _ => hs)
      hW9
      (fun x a' W => ∃ Bx, T < Bx ∧ Box2 W Bx x.1.1 x.1.2 ∧ a' = { tmps := #[.slice A l.length cap, undef, .pointer (some ⟨R, 0, none⟩), .int .i64 0, .bool false, .pointer (some ⟨P, 0, none⟩), .pointer (some ⟨Q, 0, none⟩), .pointer (some ⟨T, 0, none⟩), .pointer (some ⟨Bx, 0, none⟩), .int .i64 x.2, .slice A l.length cap, .bool true, .bool false, undef, .agg #[.int .i64 0, .int .i64 0], .slice A l.length cap, .func (.func 28) #[] #[.pointer (some ⟨J9, 0, none⟩)], .agg #[.int .i64 x.1.1, .int .i64 x.1.2], .int .i64 x.2, undef, undef, undef, undef, undef, undef, undef, undef, undef, undef, undef, undef], defers := [] })
      (fun x a' _ X Y row hs hg hr => by obtain ⟨Bx, h1, h2, h3⟩ := hs; exact ⟨Bx, h1, Box2.own () X Y row h2 hg (fun r e => (hr r e).2), h3⟩)
      ?assign ?body ?done ?stop
    case assign =>
      rintro lid pre x W K hW hK
      obtain ⟨⟨xa, xb⟩, xd⟩ := x
      simp only [encIv]
      gi_wp2
      have gA : W.grownBy (W.alloc (.cells #[.int .i64 xa, .int .i64 xb] 32)) none := World.grownBy_alloc W _ none
      refine hK _ _ ((KeepsOthers.alloc _ _).from _) ⟨(Below.refl _ W).alloc hW.below.size _, fun k _ ht => gA.block k ht.lt (by simp), fun k u hu => hu.alloc _⟩ (hW.alloc _) ⟨W.heap.size, hW.ok.lt, Box2.new W _ _, rfl⟩
    case body =>
      rintro lid pre x a' W hl ⟨r, hr⟩ hW ⟨Bx, hBx, bX, rfl⟩ hlt
      have x0 := bX.c0
      have x1 := bX.c1
      obtain ⟨⟨xa, xb⟩, xd⟩ := x
      simp only at x0 x1
      have HX := Lib.hid (worstI_snoc pre ((xa, xb), xd))
      have hst := hW.set (n₁ := W0.heap.size) hRP (by omega) (by omega) (by omega) hRw xa xb xd
      have p0 := hW.best.c0
      have p1 := hW.best.c1
      have pf0 := hW.best.fr 0
      have pf1 := hW.best.fr 1
      have m0 := hW.most.cell
      have mf := hW.most.frozen
      have k0 := hW.ok.cell
      have kf := hW.ok.frozen
      have HW := Lib.hid (And.intro hW hst)
      generalize hB : worstI pre = B at *
      obtain ⟨⟨ya, yb⟩, yd, yq⟩ := B
      simp only at p0 p1 m0 k0
      have ne : ∀ (U : World) (B C k : Nat) (u : Value), B ≠ C → (U.setCell ⟨C, k, none⟩ u).cell? ⟨B, 0, none⟩ = U.cell? ⟨B, 0, none⟩ := fun U B C k u h => World.cell?_setCell_other _ _ _ _ (by intro e; simp only [Addr.mk.injEq] at e; omega)
      have p1' : (W.setCell ⟨P, 0, none⟩ (.int .i64 xa)).cell? ⟨P, 1, none⟩ = some (.int .i64 yb) := by rw [World.cell?_setCell_other _ _ _ _ (by intro e; simp only [Addr.mk.injEq] at e; omega)]; exact p1
      have m0' : ((W.setCell ⟨P, 0, none⟩ (.int .i64 xa)).setCell ⟨P, 1, none⟩ (.int .i64 xb)).cell? ⟨Q, 0, none⟩ = some (.int .i64 yd) := by rw [ne _ _ _ _ _ (by omega), ne _ _ _ _ _ (by omega)]; exact m0
      have k0' : (((W.setCell ⟨P, 0, none⟩ (.int .i64 xa)).setCell ⟨P, 1, none⟩ (.int .i64 xb)).setCell ⟨Q, 0, none⟩ (.int .i64 xd)).cell? ⟨T, 0, none⟩ = some (.bool yq) := by rw [ne _ _ _ _ _ (by omega), ne _ _ _ _ _ (by omega), ne _ _ _ _ _ (by omega)]; exact k0
      clear hW hst bX ne hW9 hs hL hR bJ
      cases yq
      · have HX2 : Hid (worstI (pre ++ [((xa, xb), xd)]) = ((xa, xb), xd, true)) := by show _ = _; rw [HX.out]; rfl
        gi_wp2
        exact ⟨HW.out.2.2.1.from _, HW.out.2.2.2, by show WsK w R P Q T (worstI (pre ++ [((xa, xb), xd)])) _; rw [HX2.out]; exact HW.out.2.1⟩
      · by_cases hx : xd > yd
        · have d1 : decide (xd > yd) = true := decide_eq_true hx
          have d1' : decide (yd < xd) = true := decide_eq_true hx
          have HX2 : Hid (worstI (pre ++ [((xa, xb), xd)]) = ((xa, xb), xd, true)) := by show _ = _; rw [HX.out]; unfold wstepI; rw [if_pos (by simp; omega)]
          clear hx
          gi_wp2
          exact ⟨HW.out.2.2.1.from _, HW.out.2.2.2, by show WsK w R P Q T (worstI (pre ++ [((xa, xb), xd)])) _; rw [HX2.out]; exact HW.out.2.1⟩
        · have d1 : decide (xd > yd) = false := decide_eq_false hx
          have d1' : decide (yd < xd) = false := decide_eq_false hx
          have HX2 : Hid (worstI (pre ++ [((xa, xb), xd)]) = ((ya, yb), yd, true)) := by show _ = _; rw [HX.out]; unfold wstepI; rw [if_neg (by simp; omega)]
          clear hx
          gi_wp2
          exact ⟨KeepsFrom.refl _ _, ⟨Below.refl _ _, fun _ _ _ => rfl, fun _ _ h => h⟩, by show WsK w R P Q T (worstI (pre ++ [((xa, xb), xd)])) _; rw [HX2.out]; exact HW.out.1⟩
    case done =>
      rintro D ys W hD ⟨hS, _⟩ hW hK
      rw [hS, hz] at hW
      have p0 := hW.best.c0
      have p1 := hW.best.c1
      have m0 := hW.most.cell
      have k0 := hW.ok.cell
      have r0 := hW.res.c0
      have r1 := hW.res.c1
      have rf0 := hW.res.fr 0
      have rf1 := hW.res.fr 1
      simp only at p0 p1 m0 k0
      have HW := Lib.hid hW
      clear hW hW9 hs hL hR bJ hS hz
      have r1' := (HW.out.res.set0 a).c1
      have rf1' := (HW.out.res.set0 a).fr 1
      have HK := Lib.hid hK
      have HD : Hid (w.heap.size ≤ D) := Nat.le_trans hn0 hD
      clear hK
      gi_wp2
      refine wpIn_wide.2 ?_
      go_region
      have BR : Hid (Box2 ((W.setCell ⟨R, 0, none⟩ (.int .i64 a)).setCell ⟨R, 1, none⟩ (.int .i64 b)).drew R a b) := (HW.out.res.set0 a).set1 b
      have HK2 : Hid (((W.setCell ⟨R, 0, none⟩ (.int .i64 a)).setCell ⟨R, 1, none⟩ (.int .i64 b)).drew.heap[D]? = some (.deferred (some []))) := (((KeepsOthers.setCell W ⟨R, 0, none⟩ (.int .i64 a)).trans (KeepsOthers.setCell _ ⟨R, 1, none⟩ (.int .i64 b))).trans (KeepsOthers.drew _)).same D _ HK.out rfl
      have HB2 : Hid (Below w.heap.size w ((W.setCell ⟨R, 0, none⟩ (.int .i64 a)).setCell ⟨R, 1, none⟩ (.int .i64 b)).drew) := ((HW.out.below.setCell (p := ⟨R, 0, none⟩) hRw _).setCell (p := ⟨R, 1, none⟩) hRw _).drew
      clear HW HK p0 p1 m0 k0 r0 r1 rf0 rf1 r1' rf1'
      generalize ((W.setCell ⟨R, 0, none⟩ (.int .i64 a)).setCell ⟨R, 1, none⟩ (.int .i64 b)).drew = W2 at *
      gi_wp2
      refine ⟨by simp, .inl ⟨_, _, rfl, run_takeDeferred HK2.out, ?_⟩⟩
      have B3 : Box2 (W2.putObj D (.deferred none)) R a b := Box2.own () W2 _ (some D) BR.out (grownBy_putObj' _ D (.deferred none)) (fun r e => by cases e; exact ⟨_, HK2.out, rfl⟩)
      have b0 := B3.c0
      have b1 := B3.c1
      refine ⟨.tuple #[.agg #[.int .i64 a, .int .i64 b], .int .i64 d, .bool q], ?_, rfl, HB2.out.trans (belowK_b (w := w) (Nat.le_refl _) W2 D _ _ HD.out HK2.out rfl rfl)⟩
      rw [results_cell3 rfl]; go_simp
    case stop =>
      rintro D c pre W _ _ h _
      exact h.elim
end Go.Proofs.YtacffjkhbajgkaaDoor
