/- The document's ByDeadline; rows of numbers; two orders are one. (Written by genjby.py from XJbRefBy.base.) -/
import Derived.Test.YtnbidigilmjloaaDoorJbRef2
import Derived.Test.YtnbidigilmjloaaDoorJbBy
import Derived.Test.YtnbidigilmjloaaDoorOwn
import Derived.Test.YtnbidigilmjloaaDoorRegT
import Derived.Laws.OwnMore
import Derived.Maps.AppendAt
import Derived.Lib.AppendZeros
namespace Go.Proofs.YtnbidigilmjloaaDoor
open Go.RowKit Go.Lib
set_option linter.unusedVariables false
set_option linter.unusedSimpArgs false

def cellsN (l : List Int) : List Value := l.map fun x => .int .i64 x
theorem cellsN_get {l : List Int} {j : Nat} {u : Value} (h : (cellsN l)[j]? = some u) : ∃ x, l[j]? = some x ∧ u = .int .i64 x := by
  unfold cellsN at h
  rw [List.getElem?_map] at h
  obtain ⟨x, hx, rfl⟩ := Option.map_eq_some_iff.1 h
  exact ⟨x, hx, rfl⟩
theorem cellsN_ones (l : List Int) : ∀ u ∈ cellsN l, u.oneCell' = true := by
  intro u hu
  unfold cellsN at hu
  obtain ⟨x, _, rfl⟩ := List.mem_map.1 hu
  rfl
/-- The cells at A hold the numbers l. -/
def RdN (w : World) (A : Option Addr) (l : List Int) : Prop :=
  ∀ (i : Nat) (x : Int), l[i]? = some x → ∃ g, A = some ⟨g, 0, none⟩ ∧ g < w.heap.size ∧ w.cell? ⟨g, i, none⟩ = some (.int .i64 x)
theorem RdN.below {w w' : World} {A : Option Addr} {l : List Int} (h : RdN w A l) (hb : Below w.heap.size w w') : RdN w' A l := by
  intro i x hx
  obtain ⟨g, rfl, hg, h0⟩ := h i x hx
  exact ⟨g, rfl, Nat.lt_of_lt_of_le hg hb.size, by rw [hb.cell (p := ⟨g, i, none⟩) hg]; exact h0⟩
theorem own_rdN {w : World} {base n : Nat} {e : TypeId} {v : Value} {l : List Int} (h : w.ownsRow base e 1 v n (cellsN l)) :
    ∃ A c, v = .slice A l.length c ∧ l.length ≤ c ∧ c ≤ 9223372036854775807 ∧ RdN w A l ∧ ((A = none ∧ l.length = 0 ∧ c = 0) ∨ ∃ g, A = some ⟨g, 0, none⟩) := by
  have hn : n = l.length := by have := h.1; simp [cellsN] at this; omega
  subst hn
  rcases h.2 with ⟨rfl, h0⟩ | ⟨g, cap, cur, rfl, hb, hh, h1, h2, _⟩
  · refine ⟨none, 0, by simp [h0], by omega, by decide, fun k x hx => ?_, .inl ⟨rfl, h0, rfl⟩⟩
    rw [List.eq_nil_of_length_eq_zero h0] at hx; simp at hx
  · refine ⟨some ⟨g, 0, none⟩, cap, rfl, h1, by unfold maxLen at h2; omega, fun k x hx => ⟨g, rfl, (Array.getElem?_eq_some_iff.1 hh).1, ?_⟩, .inr ⟨g, rfl⟩⟩
    have hk := (List.getElem?_eq_some_iff.1 hx).1
    rw [h.cellAt _ (by omega)]
    simp [cellsN, hx]
/-- What a source of m numbers holds. -/
def SrcN (w : World) (src : Value) (m : Nat) (news : List Value) : Prop :=
  (src = .slice none 0 0 ∧ m = 0 ∧ news = []) ∨ ∃ ad c, src = .slice (some ad) m c ∧ ∀ j u, news[j]? = some u → w.cell? (ad.add j) = some u
theorem run_append_srcN {base : Nat} {w : World} {v src : Value} {n m : Nat} {xs : List Value} {l : List Int} (ty : TypeId) (hown : w.ownsRow base 3 1 v n xs) (hs : SrcN w src m (cellsN l)) (hm : l.length = m)
    (hb : base ≤ w.heap.size) (hn : n + m ≤ 2000) :
    ∃ v' w', (Builtin.append_ #[31, 31] ty #[v, src]).run Tryd.prog w = .ok v' w' ∧ w'.ownsRow base 3 1 v' (n + m) (xs ++ cellsN l) ∧ w.grownBy w' v.ownBlock ∧ (v'.ownBlock = v.ownBlock ∨ v'.ownBlock = some w.heap.size) := by
  obtain ⟨i0, hi0, hz0, hz1, hz2⟩ := info_parts Tryd.infoI
  rcases hs with ⟨rfl, rfl, hnil⟩ | ⟨ad, c, rfl, hc⟩
  · rw [hnil]
    exact ⟨v, w, run_append_owned_none (P := Tryd.prog) w base _ ty _ i0 1 Tryd.underlying31 hi0 v n xs hown, by simpa using hown, ⟨rfl, rfl, rfl, Nat.le_refl _, fun _ _ _ => rfl⟩, .inl rfl⟩
  · obtain ⟨v', w', h1, h2, h3, _, h5⟩ := run_append_own_at (P := Tryd.prog) w base 31 ty 3 i0 _ 1 8 Tryd.underlying31 hi0 hz0 hz1 hz2 rfl (by decide) v n xs hown ad m c (cellsN l) (by simp [cellsN, hm]) hc (cellsN_ones l) (by unfold maxLen; omega) (by omega) hb
    exact ⟨v', w', h1, h2, h3, h5⟩
theorem src_one {w : World} {B : Nat} {x : Int} {e : TypeId} (h : w.heap[B]? = some (.cells #[.int .i64 x] e (0, 0))) : SrcN w (.slice (some ⟨B, 0, none⟩) 1 1) 1 (cellsN [x]) := by
  refine .inr ⟨⟨B, 0, none⟩, 1, rfl, fun j u hj => ?_⟩
  match j, hj with
  | 0, hj => simp [cellsN] at hj; subst hj; simp [World.cell?, h, Addr.add]
section
variable {w : World} {A : Option Addr} {n cap k : Nat} {l : List Int}
theorem cut_lowN (hA : (A = none ∧ n = 0 ∧ cap = 0) ∨ ∃ g, A = some ⟨g, 0, none⟩) (hl : l.length = n) (hk : k ≤ n) (hc : n ≤ cap) (hm : cap ≤ 9223372036854775807) :
    ∃ src, (∀ w', (Instr.slice 31 (.slice A n cap) none (some (.int .i64 (k : Int))) none).run Tryd.prog w' = .ok src w') ∧ (∀ w', RdN w' A l → SrcN w' src k (cellsN (l.take k))) := by
  rcases hA with ⟨rfl, rfl, rfl⟩ | ⟨g, rfl⟩
  · obtain rfl : k = 0 := by omega
    refine ⟨.slice none 0 0, fun w' => by go_simp, fun w' _ => .inl ⟨rfl, rfl, by simp [cellsN]⟩⟩
  · have h1 : (k : Int) ≤ (cap : Int) := by omega
    have h2 : k ≤ cap := by omega
    refine ⟨.slice (some ⟨g, 0, none⟩) k cap, fun w' => by go_simp, fun w' hR => .inr ⟨⟨g, 0, none⟩, cap, rfl, fun j u hj => ?_⟩⟩
    rw [Addr.add_lit, Nat.zero_add]
    obtain ⟨x, hx, rfl⟩ := cellsN_get hj
    rw [List.getElem?_take] at hx
    split at hx
    · obtain ⟨g', hg, _, h0⟩ := hR j x hx
      cases hg
      exact h0
    · cases hx
theorem cut_highN (hA : (A = none ∧ n = 0 ∧ cap = 0) ∨ ∃ g, A = some ⟨g, 0, none⟩) (hl : l.length = n) (hk : k ≤ n) (hc : n ≤ cap) (hm : cap ≤ 9223372036854775807) :
    ∃ src, (∀ w', (Instr.slice 31 (.slice A n cap) (some (.int .i64 (k : Int))) none none).run Tryd.prog w' = .ok src w') ∧ (∀ w', RdN w' A l → SrcN w' src (n - k) (cellsN (l.drop k))) := by
  rcases hA with ⟨rfl, rfl, rfl⟩ | ⟨g, rfl⟩
  · obtain rfl : k = 0 := by omega
    obtain rfl : l = [] := List.eq_nil_of_length_eq_zero hl
    refine ⟨.slice none 0 0, fun w' => by go_simp, fun w' _ => .inl ⟨rfl, rfl, by simp [cellsN]⟩⟩
  · have h1 : (k : Int) ≤ (n : Int) := by omega
    by_cases hck : cap = k
    · refine ⟨.slice (some ⟨g, 0, none⟩) (n - k) (cap - k), fun w' => by go_simp, fun w' hR => .inr ⟨⟨g, 0, none⟩, cap - k, rfl, fun j u hj => ?_⟩⟩
      have h0 : l.drop k = [] := List.drop_eq_nil_of_le (by omega)
      rw [h0] at hj
      simp [cellsN] at hj
    · refine ⟨.slice (some ⟨g, k, none⟩) (n - k) (cap - k), fun w' => by go_simp, fun w' hR => .inr ⟨⟨g, k, none⟩, cap - k, rfl, fun j u hj => ?_⟩⟩
      rw [Addr.add_lit]
      obtain ⟨x, hx, rfl⟩ := cellsN_get hj
      rw [List.getElem?_drop] at hx
      obtain ⟨g', hg, _, h0⟩ := hR _ x hx
      cases hg
      exact h0
end
theorem made_onN {N : Nat} {w0 w w' : World} {e : TypeId} {size n : Nat} {v : Value} {xs : List Value} (hb : Below N w0 w) (hown : w.ownsRow N e size v n xs) (hg : w.grownBy w' v.ownBlock) (hN : N ≤ w.heap.size) : Below N w0 w' :=
  hb.grown hg hN (fun k hk => (hown.lt k hk).1)
theorem own_fromN {N M : Nat} {w : World} {e : TypeId} {size n : Nat} {v : Value} {xs : List Value} (h : w.ownsRow N e size v n xs) (hM : M ≤ N) : w.ownsRow M e size v n xs :=
  ⟨h.1, h.2.imp id fun ⟨g, cap, cur, a, q, c⟩ => ⟨g, cap, cur, a, Nat.le_trans hM q, c⟩⟩
theorem step_append_ofN {P : Program} {ops : Array Oper} {o : Oper} {a : Act} {w : World} {K : Act → World → Prop} {Q : Exit → Act → World → Prop} {E : Prop}
    (hg : o.guard = none) (d x : Operand) (dT sT : TypeId) (hop : o.op = Op.call { callee := Callee.builtin Builtin.append, args := #[d, x], argTypes := #[dT, sT] })
    (v u : Value) (hd : a.eval d = v) (hx : a.eval x = u) {v' : Value} {w' : World} (hr : (Builtin.append_ #[dT, sT] o.type #[v, u]).run P w = .ok v' w') (hK : K (a.put o.dst v') w') :
    if Region.wanted o (yielded ops a.tmps) = true then Oper.wp P o a w K Q else E := by
  have hw : Region.wanted o (yielded ops a.tmps) = true := by simp [Region.wanted, hg]
  rw [if_pos hw]
  exact Lib.wp_append_run w d x dT sT hop v u hd hx v' w' hr hK

/-! ## one order -/
/-- The indices below i, in order. -/
structure Ord (dl : Int → Int) (R : List Int) (i : Nat) : Prop where
  srt : R.Pairwise (TT dl)
  to : ∀ x ∈ R, 0 ≤ x ∧ x < (i : Int)
  fro : ∀ v : Nat, v < i → (v : Int) ∈ R
theorem Ord.zero (dl : Int → Int) : Ord dl [] 0 := ⟨List.Pairwise.nil, by simp, fun v h => by omega⟩
theorem Ord.ins {dl : Int → Int} {R : List Int} {i p : Nat} (h : Ord dl R i) (hlo : ∀ (j : Nat) (x : Int), j < p → R[j]? = some x → dl x ≤ dl i) (hhi : ∀ x, R[p]? = some x → dl i < dl x) : Ord dl (R.take p ++ (i : Int) :: R.drop p) (i + 1) := by
  refine ⟨?_, ?_, ?_⟩
  · have hs := h.srt
    rw [← List.take_append_drop p R, List.pairwise_append] at hs
    obtain ⟨h1, h2, h3⟩ := hs
    have lo : ∀ x ∈ R.take p, TT dl x i := by
      intro x hx
      obtain ⟨j, hj, e⟩ := List.mem_iff_getElem.1 hx
      rw [List.length_take] at hj
      rw [List.getElem_take] at e
      have hd := hlo j x (by omega) (by rw [List.getElem?_eq_getElem (by omega), e])
      have := (h.to x (List.mem_of_mem_take hx)).2
      unfold TT; omega
    have hi : ∀ x ∈ R.drop p, TT dl i x := by
      cases hdr : R.drop p with
      | nil => intro x hx; cases hx
      | cons y t =>
        have hy : R[p]? = some y := by
          have : (R.drop p)[0]? = some y := by rw [hdr]; rfl
          rw [List.getElem?_drop] at this; simpa using this
        have ty : TT dl i y := TT.of_lt (hhi y hy)
        intro x hx
        rcases List.mem_cons.1 hx with rfl | hx
        · exact ty
        · rw [hdr] at h2
          exact ty.trans ((List.pairwise_cons.1 h2).1 x hx)
    rw [List.pairwise_append]
    refine ⟨h1, List.pairwise_cons.2 ⟨hi, h2⟩, fun x hx y hy => ?_⟩
    rcases List.mem_cons.1 hy with rfl | hy
    · exact lo x hx
    · exact h3 x hx y hy
  · intro x hx
    rcases List.mem_append.1 hx with hx | hx
    · have := h.to x (List.mem_of_mem_take hx); omega
    · rcases List.mem_cons.1 hx with rfl | hx
      · omega
      · have := h.to x (List.mem_of_mem_drop hx); omega
  · intro v hv
    by_cases e : v = i
    · subst e; simp
    · have := h.fro v (by omega)
      rw [← List.take_append_drop p R] at this
      rcases List.mem_append.1 this with h1 | h1
      · exact List.mem_append.2 (.inl h1)
      · exact List.mem_append.2 (.inr (List.mem_cons.2 (.inr h1)))
theorem ord_one {dl : Int → Int} : ∀ {L M : List Int}, L.Pairwise (TT dl) → M.Pairwise (TT dl) → (∀ x, x ∈ L ↔ x ∈ M) → L = M
  | [], [], _, _, _ => rfl
  | [], y :: M, _, _, h => by have := (h y).2 (by simp); cases this
  | x :: L, [], _, _, h => by have := (h x).1 (by simp); cases this
  | x :: L, y :: M, h1, h2, h => by
    obtain ⟨a1, a2⟩ := List.pairwise_cons.1 h1
    obtain ⟨b1, b2⟩ := List.pairwise_cons.1 h2
    have exy : x = y := by
      rcases List.mem_cons.1 ((h x).1 (by simp)) with e | e
      · exact e
      · rcases List.mem_cons.1 ((h y).2 (by simp)) with e2 | e2
        · exact e2.symm
        · exact absurd ((a1 y e2).trans (b1 x e)) (fun t => TT.irr t)
    subst exy
    rw [ord_one a2 b2 (fun z => ?_)]
    constructor
    · intro hz
      rcases List.mem_cons.1 ((h z).1 (by simp [hz])) with rfl | e
      · exact absurd (a1 z hz) (fun t => TT.irr t)
      · exact e
    · intro hz
      rcases List.mem_cons.1 ((h z).2 (by simp [hz])) with rfl | e
      · exact absurd (b1 z hz) (fun t => TT.irr t)
      · exact e
theorem run_ord {dl : Int → Int} {g : Nat → Int} {n : Nat} (h : Run dl g 0 n) : Ord dl ((List.range n).map g) n := by
  refine ⟨?_, ?_, ?_⟩
  · rw [List.pairwise_map]
    refine List.pairwise_iff_getElem.2 fun i j hi hj hij => ?_
    simp only [List.getElem_range]
    exact h.srt i j (Nat.zero_le _) hij (by simpa using hj)
  · intro x hx
    obtain ⟨k, hk, rfl⟩ := List.mem_map.1 hx
    have := h.to k (Nat.zero_le _) (List.mem_range.1 hk)
    omega
  · intro v hv
    obtain ⟨k, _, hk, e⟩ := h.fro v (Nat.zero_le _) hv
    exact List.mem_map.2 ⟨k, List.mem_range.2 hk, e⟩
theorem ord_uniq {dl : Int → Int} {L M : List Int} {n : Nat} (h1 : Ord dl L n) (h2 : Ord dl M n) : L = M := by
  refine ord_one h1.srt h2.srt fun x => ⟨fun hx => ?_, fun hx => ?_⟩
  · have := h1.to x hx
    have hv := h2.fro x.toNat (by omega)
    rwa [show ((x.toNat : Nat) : Int) = x by omega] at hv
  · have := h2.to x hx
    have hv := h1.fro x.toNat (by omega)
    rwa [show ((x.toNat : Nat) : Int) = x by omega] at hv

set_option maxHeartbeats 12800000 in
set_option maxRecDepth 100000 in
theorem rjby_any (A0 : Option Addr) (cap : Nat) (l : List Jb) (w : World) (hn : l.length ≤ 1000) (hcap : cap ≤ 9223372036854775807) (hlc : l.length ≤ cap) (hR : RdJ w A0 l) :
    Calls Tryd.prog 23 #[.slice A0 l.length cap] w (fun e w' => ∃ A c R, e = .returned (.slice A l.length c) ∧ R.length = l.length ∧ l.length ≤ c ∧ c ≤ 9223372036854775807 ∧ Ord (dlOf l) R l.length ∧ RdN w' A R ∧ Below w.heap.size w w') := by
  obtain ⟨n, hl⟩ : ∃ n, l.length = n := ⟨_, rfl⟩
  obtain ⟨dl, hdl⟩ : ∃ d, dlOf l = d := ⟨_, rfl⟩
  rw [hl] at hn hlc ⊢
  rw [hdl]
  have H := Lib.hid (And.intro hl (And.intro hdl hR))
  clear hl hdl hR
  go_enter Tryd.func23, Tryd.ntmps23
  go_wp2
  go_loopw [3, 4] (fun v st wr => ∃ (i : Nat) (R : List Int), st = .int .i64 (i : Int) ∧ i ≤ n ∧ Hid (R.length = i ∧ Ord dl R i ∧ wr.ownsRow w.heap.size 3 1 v i (cellsN R) ∧ Below w.heap.size w wr)) (fun _ st _ => n - (intOf st).toNat)
  case atStart => exact ⟨0, [], rfl, by omega, Lib.hid ⟨rfl, Ord.zero _, World.ownsRow_nil _ _ _ _, Below.refl _ _⟩⟩
  case round =>
    obtain ⟨i, R, rfl, hin, K⟩ := hrel
    rcases Nat.lt_or_ge i n with hlt | hge
    · have d1 : decide ((i : Int) < (n : Int)) = true := decide_eq_true (by omega)
      have e1 : IntKind.i64.wrap ((i : Int) + 1) = ((i + 1 : Nat) : Int) := by rw [IntKind.wrap_i64]; omega
      have b1 : (i : Int) < (n : Int) := by omega
      obtain ⟨A, cap', hv, hc1, hc2, hrd, hshape⟩ := own_rdN K.out.2.2.1
      rw [K.out.1] at hv hc1 hshape
      subst hv
      replace hrd := Lib.hid hrd
      obtain ⟨wo, rfl⟩ : ∃ wo : World, wo = wr := ⟨_, rfl⟩
      go_wp2
      go_loopw [5] (fun st wr => ∃ (k : Nat), st = .int .i64 (k : Int) ∧ k ≤ i ∧ Hid ((∀ (j : Nat) (x : Int), j < k → R[j]? = some x → dl x ≤ dl i) ∧ Below wo.heap.size wo wr)) (fun st _ => i - (intOf st).toNat)
      case atStart => exact ⟨0, rfl, by omega, Lib.hid ⟨fun j x hj => by omega, Below.refl _ _⟩⟩
      case round =>
        obtain ⟨p, rfl, hpi, J0⟩ := hrel
        have J := Lib.hid J0.out.1
        have Bx := Lib.hid J0.out.2
        clear J0
        obtain ⟨y, hy⟩ : ∃ x, l[i]? = some x := ⟨_, List.getElem?_eq_getElem (by rw [H.out.1]; exact hlt)⟩
        have hdy : Hid (dl i = y.dl) := by show _ = _; rw [← H.out.2.1]; exact dlOf_at hy
        obtain ⟨B, off, rfl, hJ⟩ := (H.out.2.2.below (below_on K.out.2.2.2 Bx.out)) i y hy
        have c1 := hJ.2.2.1
        clear hJ hy
        rcases Nat.lt_or_ge p i with hip | hip
        · obtain ⟨x, hx⟩ : ∃ x, R[p]? = some x := ⟨_, List.getElem?_eq_getElem (by rw [K.out.1]; exact hip)⟩
          obtain ⟨m, rfl⟩ := Int.eq_ofNat_of_zero_le (K.out.2.1.to x (List.mem_of_getElem? hx)).1
          have hmi : m < i := by have := (K.out.2.1.to m (List.mem_of_getElem? hx)).2; omega
          obtain ⟨z, hz⟩ : ∃ x, l[m]? = some x := ⟨_, List.getElem?_eq_getElem (by rw [H.out.1]; omega)⟩
          have hdz : Hid (dl m = z.dl) := by show _ = _; rw [← H.out.2.1]; exact dlOf_at hz
          obtain ⟨B2, off2, hA2, hJ2⟩ := (H.out.2.2.below (below_on K.out.2.2.2 Bx.out)) m z hz
          simp only [Option.some.injEq, Addr.mk.injEq, and_true] at hA2
          obtain ⟨rfl, rfl⟩ := hA2
          have c2 := hJ2.2.2.1
          obtain ⟨g, rfl, hg, c3⟩ := (hrd.out.below Bx.out) p m hx
          have hxx := Lib.hid hx
          clear hJ2 hz hx
          have p1 : decide ((p : Int) < (i : Int)) = true := decide_eq_true (by omega)
          have p1' : decide (p < i) = true := decide_eq_true (by omega)
          have p2 : (m : Int) < (n : Int) := by omega
          have p3 : (p : Int) < (i : Int) := by omega
          have e2 : IntKind.i64.wrap ((p : Int) + 1) = ((p + 1 : Nat) : Int) := by rw [IntKind.wrap_i64]; omega
          by_cases hle : z.dl ≤ y.dl
          · have p4 : decide (z.dl ≤ y.dl) = true := decide_eq_true hle
            have J2 : Hid (∀ (j : Nat) (x : Int), j < p + 1 → R[j]? = some x → dl x ≤ dl i) := by
              intro j x hj hx
              by_cases e : j = p
              · subst e; rw [hxx.out] at hx; injection hx with hx; subst hx; rw [hdz.out, hdy.out]; exact hle
              · exact J.out j x (by omega) hx
            clear J hle
            generalize z.dl = zd at *
            generalize y.dl = yd at *
            go_wp2_with fail
            go_quiet (fail)
            go_wp2
            go_roundw
            case rel => exact ⟨p + 1, by first | rfl | simp, by omega, Lib.hid ⟨J2.out, below_dN Bx.out nq⟩⟩
            case measure => simp [intOf]; omega
          · have p4 : decide (z.dl ≤ y.dl) = false := decide_eq_false hle
            have hhi : Hid (∀ x, R[p]? = some x → dl i < dl x) := by
              intro x hx
              rw [hxx.out] at hx; injection hx with hx; subst hx; rw [hdz.out, hdy.out]; omega
            clear hle
            generalize z.dl = zd at *
            generalize y.dl = yd at *
            have hlo := J
            clear J
            obtain ⟨src1, hs1, k1⟩ := cut_lowN (l := R) hshape K.out.1 hpi hc1 hc2
            obtain ⟨src2, hs2, k2⟩ := cut_highN (l := R) hshape K.out.1 hpi hc1 hc2
            have RB : Hid (∀ W, Below wo.heap.size wo W → RdN W (some ⟨g, 0, none⟩) R) := fun W hb => hrd.out.below hb
            go_wp2_with fail
            go_quiet (fail)
            go_wp2
            have q0 : Hid (Below wo.heap.size wo (wr.drewN nq)) := below_dN Bx.out nq
            generalize wr.drewN nq = w2 at q0 ⊢
            clear Bx c1 c2 c3
            refine wp_region_T (fun _ => True) 12 (by kernel_rfl) ?_
            have q1 : Hid (Below wo.heap.size wo w2.drew) := q0.out.drew
            generalize w2.drew = wB at q1 ⊢
            clear q0
            have bB := Below.refl wB.heap.size wB
            have nB := Nat.le_refl wB.heap.size
            have HS1 : Hid (∀ W, Below wB.heap.size wB W → SrcN W src1 p (cellsN (R.take p))) := fun W hb => k1 W (RB.out _ (below_on q1.out hb))
            have HS2 : Hid (∀ W, Below wB.heap.size wB W → SrcN W src2 (i - p) (cellsN (R.drop p))) := fun W hb => k2 W (RB.out _ (below_on q1.out hb))
            have hRl := K.out.1
            have FIN : Hid (∀ v W, Below wB.heap.size wB W → W.ownsRow wB.heap.size 3 1 v (0 + p + 1 + (i - p)) ([] ++ cellsN (R.take p) ++ cellsN [(i : Int)] ++ cellsN (R.drop p)) → Hid ((R.take p ++ (i : Int) :: R.drop p).length = i + 1 ∧ Ord dl (R.take p ++ (i : Int) :: R.drop p) (i + 1) ∧ W.ownsRow w.heap.size 3 1 v (i + 1) (cellsN (R.take p ++ (i : Int) :: R.drop p)) ∧ Below w.heap.size w W)) := by
              intro v W hb ho
              have hs := K.out.2.2.2.size
              have hs2 := q1.out.size
              refine ⟨by simp; omega, K.out.2.1.ins hlo.out hhi.out, ?_, below_on K.out.2.2.2 (below_on q1.out hb)⟩
              rw [show 0 + p + 1 + (i - p) = i + 1 by omega, show [] ++ cellsN (R.take p) ++ cellsN [(i : Int)] ++ cellsN (R.drop p) = cellsN (R.take p ++ (i : Int) :: R.drop p) by simp [cellsN]] at ho
              exact own_fromN ho (by omega)
            clear k1 k2 RB hlo hhi K hrd hshape
            refine wpAnyT_free (i := 1) (v := (.slice (some ⟨g, 0, none⟩) i cap')) rfl (by kernel_rfl) (fun _ _ _ h => h) (Or.inl ⟨by rfl, ?_⟩) (fun _ => trivial) ?_
            · intro w _; go_simp
            simp only [List.getElem_toArray, List.getElem_cons_zero, List.getElem_cons_succ, Act.put, List.setIfInBounds_toArray, List.set_cons_zero, List.set_cons_succ]
            refine wpAnyT_free (i := 2) (v := (.int .i64 (p : Int))) rfl (by kernel_rfl) (fun _ _ _ h => h) (Or.inl ⟨by rfl, ?_⟩) (fun _ => trivial) ?_
            · intro w _; go_simp
            simp only [List.getElem_toArray, List.getElem_cons_zero, List.getElem_cons_succ, Act.put, List.setIfInBounds_toArray, List.set_cons_zero, List.set_cons_succ]
            refine wpAnyT_free (i := 3) (v := src1) rfl (by kernel_rfl) (fun _ _ _ h => h) (Or.inl ⟨by rfl, ?_⟩) (fun _ => trivial) ?_
            · intro w _; go_simp
            simp only [List.getElem_toArray, List.getElem_cons_zero, List.getElem_cons_succ, Act.put, List.setIfInBounds_toArray, List.set_cons_zero, List.set_cons_succ]
            refine wpAnyT_free (i := 5) (v := (.int .i64 (i : Int))) rfl (by kernel_rfl) (fun _ _ _ h => h) (Or.inl ⟨by rfl, ?_⟩) (fun _ => trivial) ?_
            · intro w _; go_simp
            simp only [List.getElem_toArray, List.getElem_cons_zero, List.getElem_cons_succ, Act.put, List.setIfInBounds_toArray, List.set_cons_zero, List.set_cons_succ]
            refine wpAnyT_free (i := 8) (v := (.slice (some ⟨g, 0, none⟩) i cap')) rfl (by kernel_rfl) (fun _ _ _ h => h) (Or.inl ⟨by rfl, ?_⟩) (fun _ => trivial) ?_
            · intro w _; go_simp
            simp only [List.getElem_toArray, List.getElem_cons_zero, List.getElem_cons_succ, Act.put, List.setIfInBounds_toArray, List.set_cons_zero, List.set_cons_succ]
            refine wpAnyT_free (i := 9) (v := (.int .i64 (p : Int))) rfl (by kernel_rfl) (fun _ _ _ h => h) (Or.inl ⟨by rfl, ?_⟩) (fun _ => trivial) ?_
            · intro w _; go_simp
            simp only [List.getElem_toArray, List.getElem_cons_zero, List.getElem_cons_succ, Act.put, List.setIfInBounds_toArray, List.set_cons_zero, List.set_cons_succ]
            refine wpAnyT_free (i := 10) (v := src2) rfl (by kernel_rfl) (fun _ _ _ h => h) (Or.inl ⟨by rfl, ?_⟩) (fun _ => trivial) ?_
            · intro w _; go_simp
            simp only [List.getElem_toArray, List.getElem_cons_zero, List.getElem_cons_succ, Act.put, List.setIfInBounds_toArray, List.set_cons_zero, List.set_cons_succ]
            refine wpAnyT_ready (rs := [0, 6]) (by kernel_rfl) (by simp) ?_
            refine AllT.cons rfl (fun K hK => ?_) (AllT.cons rfl (fun K hK => ?_) (AllT.nil))
            · skip
              go_simp
              have b1 := bB.alloc nB (.cells #[] 3)
              have E1 := World.ownsRow_made (base := wB.heap.size) (e := 3) (size := 1) wB #[] 0 nB (by decide) rfl
              have n1 := b1.size
              generalize wB.alloc (.cells #[] 3) = W1 at *
              generalize Value.slice (some ⟨wB.heap.size, 0, none⟩) 0 0 = v1 at *
              refine hK _ _ (fun _ => trivial) ?_
              clear hK K
              try simp only [List.getElem_toArray, List.getElem_cons_zero, List.getElem_cons_succ, Act.put, List.setIfInBounds_toArray, List.set_cons_zero, List.set_cons_succ]
              refine wpAnyT_ready (rs := [4, 6]) (by kernel_rfl) (by simp) ?_
              refine AllT.cons rfl (fun K hK => ?_) (AllT.cons rfl (fun K hK => ?_) (AllT.nil))
              · skip
                obtain ⟨v2, W2, r2, E2, g2, q2⟩ := run_append_srcN (l := R.take p) 31 E1 (HS1.out _ b1) (by rw [List.length_take]; omega) n1 (by omega)
                have b2 := made_onN b1 E1 g2 n1
                have n2 := b2.size
                refine step_append_ofN rfl (.tmp 34) (.tmp 37) 31 31 rfl v1 src1 (by rfl) (by rfl) r2 ?_
                refine hK _ _ (fun _ => trivial) ?_
                clear hK K
                try simp only [List.getElem_toArray, List.getElem_cons_zero, List.getElem_cons_succ, Act.put, List.setIfInBounds_toArray, List.set_cons_zero, List.set_cons_succ]
                refine wpAnyT_ready (rs := [6]) (by kernel_rfl) (by simp) ?_
                refine AllT.cons rfl (fun K hK => ?_) (AllT.nil)
                go_simp
                have b3 := b2.alloc n2 (.cells #[.int .i64 (i : Int)] 3)
                have T3 := heap_alloc_new W2 (.cells #[.int .i64 (i : Int)] 3)
                have lt3 : W2.heap.size < (W2.alloc (.cells #[.int .i64 (i : Int)] 3)).heap.size := by simp
                have ne3 : v2.ownBlock ≠ some W2.heap.size := fun e => by have := (E2.lt _ e).2; omega
                have E3 := E2.alloc (.cells #[.int .i64 (i : Int)] 3)
                have n3 := b3.size
                obtain ⟨B3, hB3⟩ : ∃ B, W2.heap.size = B := ⟨_, rfl⟩
                rw [hB3] at T3 lt3 ne3 ⊢
                generalize W2.alloc (.cells #[.int .i64 (i : Int)] 3) = W3 at *
                refine hK _ _ (fun _ => trivial) ?_
                clear hK K
                try simp only [List.getElem_toArray, List.getElem_cons_zero, List.getElem_cons_succ, Act.put, List.setIfInBounds_toArray, List.set_cons_zero, List.set_cons_succ]
                refine wpAnyT_ready (rs := [7]) (by kernel_rfl) (by simp) ?_
                refine AllT.cons rfl (fun K hK => ?_) (AllT.nil)
                obtain ⟨v4, W4, r4, E4, g4, q4⟩ := run_append_srcN (l := [(i : Int)]) (src := .slice (some ⟨B3, 0, none⟩) 1 1) (m := 1) 31 E3 (src_one T3) rfl n3 (by omega)
                have b4 := made_onN b3 E3 g4 n3
                have n4 := b4.size
                refine step_append_ofN rfl (.tmp 38) (.tmp 40) 31 31 rfl v2 (.slice (some ⟨B3, 0, none⟩) 1 1) (by rfl) (by rfl) r4 ?_
                refine hK _ _ (fun _ => trivial) ?_
                clear hK K
                try simp only [List.getElem_toArray, List.getElem_cons_zero, List.getElem_cons_succ, Act.put, List.setIfInBounds_toArray, List.set_cons_zero, List.set_cons_succ]
                refine wpAnyT_ready (rs := [11]) (by kernel_rfl) (by simp) ?_
                refine AllT.cons rfl (fun K hK => ?_) (AllT.nil)
                obtain ⟨v5, W5, r5, E5, g5, q5⟩ := run_append_srcN (l := R.drop p) 31 E4 (HS2.out _ b4) (by rw [List.length_drop]; omega) n4 (by omega)
                have b5 := made_onN b4 E4 g5 n4
                refine step_append_ofN rfl (.tmp 41) (.tmp 44) 31 31 rfl v4 src2 (by rfl) (by rfl) r5 ?_
                refine hK _ _ (fun _ => trivial) ?_
                clear hK K
                try simp only [List.getElem_toArray, List.getElem_cons_zero, List.getElem_cons_succ, Act.put, List.setIfInBounds_toArray, List.set_cons_zero, List.set_cons_succ]
                have KK := Lib.hid (And.intro b5 E5)
                clear b1 E1 n1 r2 E2 g2 q2 b2 n2 b3 T3 lt3 ne3 E3 n3 hB3 r4 E4 g4 q4 b4 n4 r5 g5 q5 E5 b5
                refine wpAnyT_ready (rs := [12]) (by kernel_rfl) (by simp) ?_
                refine AllT.cons rfl (fun K hK => ?_) (AllT.nil)
                go_simp
                refine hK _ _ (fun h => absurd (h.symm.trans (by kernel_rfl)) Bool.false_ne_true) ?_
                clear hK K
                try simp only [List.getElem_toArray, List.getElem_cons_zero, List.getElem_cons_succ, Act.put, List.setIfInBounds_toArray, List.set_cons_zero, List.set_cons_succ]
                refine wpAnyT_done (by kernel_rfl) ?_ _
                go_wp2
                go_roundw
                case rel => exact ⟨i + 1, _, by first | rfl | simp, by omega, FIN.out _ _ KK.out.1 KK.out.2⟩
                case measure => simp [intOf]; omega
              · skip
                go_simp
                have b6 := b1.alloc n1 (.cells #[.int .i64 (i : Int)] 3)
                have T6 := heap_alloc_new W1 (.cells #[.int .i64 (i : Int)] 3)
                have lt6 : W1.heap.size < (W1.alloc (.cells #[.int .i64 (i : Int)] 3)).heap.size := by simp
                have ne6 : v1.ownBlock ≠ some W1.heap.size := fun e => by have := (E1.lt _ e).2; omega
                have E6 := E1.alloc (.cells #[.int .i64 (i : Int)] 3)
                have n6 := b6.size
                obtain ⟨B6, hB6⟩ : ∃ B, W1.heap.size = B := ⟨_, rfl⟩
                rw [hB6] at T6 lt6 ne6 ⊢
                generalize W1.alloc (.cells #[.int .i64 (i : Int)] 3) = W6 at *
                refine hK _ _ (fun _ => trivial) ?_
                clear hK K
                try simp only [List.getElem_toArray, List.getElem_cons_zero, List.getElem_cons_succ, Act.put, List.setIfInBounds_toArray, List.set_cons_zero, List.set_cons_succ]
                refine wpAnyT_ready (rs := [4]) (by kernel_rfl) (by simp) ?_
                refine AllT.cons rfl (fun K hK => ?_) (AllT.nil)
                obtain ⟨v7, W7, r7, E7, g7, q7⟩ := run_append_srcN (l := R.take p) 31 E6 (HS1.out _ b6) (by rw [List.length_take]; omega) n6 (by omega)
                have b7 := made_onN b6 E6 g7 n6
                have n7 := b7.size
                have T7 := (g7.block B6 lt6 (fun e => ne6 e.symm)).trans T6
                have lt7 : B6 < W7.heap.size := Nat.lt_of_lt_of_le lt6 g7.size
                refine step_append_ofN rfl (.tmp 34) (.tmp 37) 31 31 rfl v1 src1 (by rfl) (by rfl) r7 ?_
                refine hK _ _ (fun _ => trivial) ?_
                clear hK K
                try simp only [List.getElem_toArray, List.getElem_cons_zero, List.getElem_cons_succ, Act.put, List.setIfInBounds_toArray, List.set_cons_zero, List.set_cons_succ]
                refine wpAnyT_ready (rs := [7]) (by kernel_rfl) (by simp) ?_
                refine AllT.cons rfl (fun K hK => ?_) (AllT.nil)
                obtain ⟨v8, W8, r8, E8, g8, q8⟩ := run_append_srcN (l := [(i : Int)]) (src := .slice (some ⟨B6, 0, none⟩) 1 1) (m := 1) 31 E7 (src_one T7) rfl n7 (by omega)
                have b8 := made_onN b7 E7 g8 n7
                have n8 := b8.size
                refine step_append_ofN rfl (.tmp 38) (.tmp 40) 31 31 rfl v7 (.slice (some ⟨B6, 0, none⟩) 1 1) (by rfl) (by rfl) r8 ?_
                refine hK _ _ (fun _ => trivial) ?_
                clear hK K
                try simp only [List.getElem_toArray, List.getElem_cons_zero, List.getElem_cons_succ, Act.put, List.setIfInBounds_toArray, List.set_cons_zero, List.set_cons_succ]
                refine wpAnyT_ready (rs := [11]) (by kernel_rfl) (by simp) ?_
                refine AllT.cons rfl (fun K hK => ?_) (AllT.nil)
                obtain ⟨v9, W9, r9, E9, g9, q9⟩ := run_append_srcN (l := R.drop p) 31 E8 (HS2.out _ b8) (by rw [List.length_drop]; omega) n8 (by omega)
                have b9 := made_onN b8 E8 g9 n8
                refine step_append_ofN rfl (.tmp 41) (.tmp 44) 31 31 rfl v8 src2 (by rfl) (by rfl) r9 ?_
                refine hK _ _ (fun _ => trivial) ?_
                clear hK K
                try simp only [List.getElem_toArray, List.getElem_cons_zero, List.getElem_cons_succ, Act.put, List.setIfInBounds_toArray, List.set_cons_zero, List.set_cons_succ]
                have KK := Lib.hid (And.intro b9 E9)
                clear b1 E1 n1 b6 T6 lt6 ne6 E6 n6 hB6 r7 E7 g7 q7 b7 n7 T7 lt7 r8 E8 g8 q8 b8 n8 r9 g9 q9 E9 b9
                refine wpAnyT_ready (rs := [12]) (by kernel_rfl) (by simp) ?_
                refine AllT.cons rfl (fun K hK => ?_) (AllT.nil)
                go_simp
                refine hK _ _ (fun h => absurd (h.symm.trans (by kernel_rfl)) Bool.false_ne_true) ?_
                clear hK K
                try simp only [List.getElem_toArray, List.getElem_cons_zero, List.getElem_cons_succ, Act.put, List.setIfInBounds_toArray, List.set_cons_zero, List.set_cons_succ]
                refine wpAnyT_done (by kernel_rfl) ?_ _
                go_wp2
                go_roundw
                case rel => exact ⟨i + 1, _, by first | rfl | simp, by omega, FIN.out _ _ KK.out.1 KK.out.2⟩
                case measure => simp [intOf]; omega
            · skip
              go_simp
              have b10 := bB.alloc nB (.cells #[.int .i64 (i : Int)] 3)
              have T10 := heap_alloc_new wB (.cells #[.int .i64 (i : Int)] 3)
              have lt10 : wB.heap.size < (wB.alloc (.cells #[.int .i64 (i : Int)] 3)).heap.size := by simp
              have n10 := b10.size
              obtain ⟨B10, hB10⟩ : ∃ B, wB.heap.size = B := ⟨_, rfl⟩
              rw [hB10] at T10 lt10 ⊢
              generalize wB.alloc (.cells #[.int .i64 (i : Int)] 3) = W10 at *
              refine hK _ _ (fun _ => trivial) ?_
              clear hK K
              try simp only [List.getElem_toArray, List.getElem_cons_zero, List.getElem_cons_succ, Act.put, List.setIfInBounds_toArray, List.set_cons_zero, List.set_cons_succ]
              refine wpAnyT_ready (rs := [0]) (by kernel_rfl) (by simp) ?_
              refine AllT.cons rfl (fun K hK => ?_) (AllT.nil)
              go_simp
              have b11 := b10.alloc n10 (.cells #[] 3)
              have E11 := World.ownsRow_made (base := wB.heap.size) (e := 3) (size := 1) W10 #[] 0 n10 (by decide) rfl
              have T11 := (Below.heap_alloc W10 (.cells #[] 3) B10 lt10).trans T10
              have ne11 : (Value.slice (some ⟨W10.heap.size, 0, none⟩) 0 0).ownBlock ≠ some (B10) := fun e => by simp [Value.ownBlock] at e; omega
              have lt11 : B10 < (W10.alloc (.cells #[] 3)).heap.size := by simp; omega
              have n11 := b11.size
              generalize W10.alloc (.cells #[] 3) = W11 at *
              generalize Value.slice (some ⟨W10.heap.size, 0, none⟩) 0 0 = v11 at *
              refine hK _ _ (fun _ => trivial) ?_
              clear hK K
              try simp only [List.getElem_toArray, List.getElem_cons_zero, List.getElem_cons_succ, Act.put, List.setIfInBounds_toArray, List.set_cons_zero, List.set_cons_succ]
              refine wpAnyT_ready (rs := [4]) (by kernel_rfl) (by simp) ?_
              refine AllT.cons rfl (fun K hK => ?_) (AllT.nil)
              obtain ⟨v12, W12, r12, E12, g12, q12⟩ := run_append_srcN (l := R.take p) 31 E11 (HS1.out _ b11) (by rw [List.length_take]; omega) n11 (by omega)
              have b12 := made_onN b11 E11 g12 n11
              have n12 := b12.size
              have T12 := (g12.block B10 lt11 (fun e => ne11 e.symm)).trans T11
              have lt12 : B10 < W12.heap.size := Nat.lt_of_lt_of_le lt11 g12.size
              refine step_append_ofN rfl (.tmp 34) (.tmp 37) 31 31 rfl v11 src1 (by rfl) (by rfl) r12 ?_
              refine hK _ _ (fun _ => trivial) ?_
              clear hK K
              try simp only [List.getElem_toArray, List.getElem_cons_zero, List.getElem_cons_succ, Act.put, List.setIfInBounds_toArray, List.set_cons_zero, List.set_cons_succ]
              refine wpAnyT_ready (rs := [7]) (by kernel_rfl) (by simp) ?_
              refine AllT.cons rfl (fun K hK => ?_) (AllT.nil)
              obtain ⟨v13, W13, r13, E13, g13, q13⟩ := run_append_srcN (l := [(i : Int)]) (src := .slice (some ⟨B10, 0, none⟩) 1 1) (m := 1) 31 E12 (src_one T12) rfl n12 (by omega)
              have b13 := made_onN b12 E12 g13 n12
              have n13 := b13.size
              refine step_append_ofN rfl (.tmp 38) (.tmp 40) 31 31 rfl v12 (.slice (some ⟨B10, 0, none⟩) 1 1) (by rfl) (by rfl) r13 ?_
              refine hK _ _ (fun _ => trivial) ?_
              clear hK K
              try simp only [List.getElem_toArray, List.getElem_cons_zero, List.getElem_cons_succ, Act.put, List.setIfInBounds_toArray, List.set_cons_zero, List.set_cons_succ]
              refine wpAnyT_ready (rs := [11]) (by kernel_rfl) (by simp) ?_
              refine AllT.cons rfl (fun K hK => ?_) (AllT.nil)
              obtain ⟨v14, W14, r14, E14, g14, q14⟩ := run_append_srcN (l := R.drop p) 31 E13 (HS2.out _ b13) (by rw [List.length_drop]; omega) n13 (by omega)
              have b14 := made_onN b13 E13 g14 n13
              refine step_append_ofN rfl (.tmp 41) (.tmp 44) 31 31 rfl v13 src2 (by rfl) (by rfl) r14 ?_
              refine hK _ _ (fun _ => trivial) ?_
              clear hK K
              try simp only [List.getElem_toArray, List.getElem_cons_zero, List.getElem_cons_succ, Act.put, List.setIfInBounds_toArray, List.set_cons_zero, List.set_cons_succ]
              have KK := Lib.hid (And.intro b14 E14)
              clear b10 T10 lt10 n10 hB10 b11 E11 T11 ne11 lt11 n11 r12 E12 g12 q12 b12 n12 T12 lt12 r13 E13 g13 q13 b13 n13 r14 g14 q14 E14 b14
              refine wpAnyT_ready (rs := [12]) (by kernel_rfl) (by simp) ?_
              refine AllT.cons rfl (fun K hK => ?_) (AllT.nil)
              go_simp
              refine hK _ _ (fun h => absurd (h.symm.trans (by kernel_rfl)) Bool.false_ne_true) ?_
              clear hK K
              try simp only [List.getElem_toArray, List.getElem_cons_zero, List.getElem_cons_succ, Act.put, List.setIfInBounds_toArray, List.set_cons_zero, List.set_cons_succ]
              refine wpAnyT_done (by kernel_rfl) ?_ _
              go_wp2
              go_roundw
              case rel => exact ⟨i + 1, _, by first | rfl | simp, by omega, FIN.out _ _ KK.out.1 KK.out.2⟩
              case measure => simp [intOf]; omega
        · have p1 : decide ((p : Int) < (i : Int)) = false := decide_eq_false (by omega)
          have p1' : decide (p < i) = false := decide_eq_false (by omega)
          have hhi : Hid (∀ x, R[p]? = some x → dl i < dl x) := by
            intro x hx
            have := (List.getElem?_eq_some_iff.1 hx).1
            have := K.out.1
            omega
          have hlo := J
          clear J
          obtain ⟨src1, hs1, k1⟩ := cut_lowN (l := R) hshape K.out.1 hpi hc1 hc2
          obtain ⟨src2, hs2, k2⟩ := cut_highN (l := R) hshape K.out.1 hpi hc1 hc2
          have RB : Hid (∀ W, Below wo.heap.size wo W → RdN W A R) := fun W hb => hrd.out.below hb
          go_wp2_with fail
          go_quiet (fail)
          go_wp2
          have q0 : Hid (Below wo.heap.size wo (wr.drewN nq)) := below_dN Bx.out nq
          generalize wr.drewN nq = w2 at q0 ⊢
          clear Bx c1
          refine wp_region_T (fun _ => True) 12 (by kernel_rfl) ?_
          have q1 : Hid (Below wo.heap.size wo w2.drew) := q0.out.drew
          generalize w2.drew = wB at q1 ⊢
          clear q0
          have bB := Below.refl wB.heap.size wB
          have nB := Nat.le_refl wB.heap.size
          have HS1 : Hid (∀ W, Below wB.heap.size wB W → SrcN W src1 p (cellsN (R.take p))) := fun W hb => k1 W (RB.out _ (below_on q1.out hb))
          have HS2 : Hid (∀ W, Below wB.heap.size wB W → SrcN W src2 (i - p) (cellsN (R.drop p))) := fun W hb => k2 W (RB.out _ (below_on q1.out hb))
          have hRl := K.out.1
          have FIN : Hid (∀ v W, Below wB.heap.size wB W → W.ownsRow wB.heap.size 3 1 v (0 + p + 1 + (i - p)) ([] ++ cellsN (R.take p) ++ cellsN [(i : Int)] ++ cellsN (R.drop p)) → Hid ((R.take p ++ (i : Int) :: R.drop p).length = i + 1 ∧ Ord dl (R.take p ++ (i : Int) :: R.drop p) (i + 1) ∧ W.ownsRow w.heap.size 3 1 v (i + 1) (cellsN (R.take p ++ (i : Int) :: R.drop p)) ∧ Below w.heap.size w W)) := by
            intro v W hb ho
            have hs := K.out.2.2.2.size
            have hs2 := q1.out.size
            refine ⟨by simp; omega, K.out.2.1.ins hlo.out hhi.out, ?_, below_on K.out.2.2.2 (below_on q1.out hb)⟩
            rw [show 0 + p + 1 + (i - p) = i + 1 by omega, show [] ++ cellsN (R.take p) ++ cellsN [(i : Int)] ++ cellsN (R.drop p) = cellsN (R.take p ++ (i : Int) :: R.drop p) by simp [cellsN]] at ho
            exact own_fromN ho (by omega)
          clear k1 k2 RB hlo hhi K hrd hshape
          refine wpAnyT_free (i := 1) (v := (.slice A i cap')) rfl (by kernel_rfl) (fun _ _ _ h => h) (Or.inl ⟨by rfl, ?_⟩) (fun _ => trivial) ?_
          · intro w _; go_simp
          simp only [List.getElem_toArray, List.getElem_cons_zero, List.getElem_cons_succ, Act.put, List.setIfInBounds_toArray, List.set_cons_zero, List.set_cons_succ]
          refine wpAnyT_free (i := 2) (v := (.int .i64 (p : Int))) rfl (by kernel_rfl) (fun _ _ _ h => h) (Or.inl ⟨by rfl, ?_⟩) (fun _ => trivial) ?_
          · intro w _; go_simp
          simp only [List.getElem_toArray, List.getElem_cons_zero, List.getElem_cons_succ, Act.put, List.setIfInBounds_toArray, List.set_cons_zero, List.set_cons_succ]
          refine wpAnyT_free (i := 3) (v := src1) rfl (by kernel_rfl) (fun _ _ _ h => h) (Or.inl ⟨by rfl, ?_⟩) (fun _ => trivial) ?_
          · intro w _; go_simp
          simp only [List.getElem_toArray, List.getElem_cons_zero, List.getElem_cons_succ, Act.put, List.setIfInBounds_toArray, List.set_cons_zero, List.set_cons_succ]
          refine wpAnyT_free (i := 5) (v := (.int .i64 (i : Int))) rfl (by kernel_rfl) (fun _ _ _ h => h) (Or.inl ⟨by rfl, ?_⟩) (fun _ => trivial) ?_
          · intro w _; go_simp
          simp only [List.getElem_toArray, List.getElem_cons_zero, List.getElem_cons_succ, Act.put, List.setIfInBounds_toArray, List.set_cons_zero, List.set_cons_succ]
          refine wpAnyT_free (i := 8) (v := (.slice A i cap')) rfl (by kernel_rfl) (fun _ _ _ h => h) (Or.inl ⟨by rfl, ?_⟩) (fun _ => trivial) ?_
          · intro w _; go_simp
          simp only [List.getElem_toArray, List.getElem_cons_zero, List.getElem_cons_succ, Act.put, List.setIfInBounds_toArray, List.set_cons_zero, List.set_cons_succ]
          refine wpAnyT_free (i := 9) (v := (.int .i64 (p : Int))) rfl (by kernel_rfl) (fun _ _ _ h => h) (Or.inl ⟨by rfl, ?_⟩) (fun _ => trivial) ?_
          · intro w _; go_simp
          simp only [List.getElem_toArray, List.getElem_cons_zero, List.getElem_cons_succ, Act.put, List.setIfInBounds_toArray, List.set_cons_zero, List.set_cons_succ]
          refine wpAnyT_free (i := 10) (v := src2) rfl (by kernel_rfl) (fun _ _ _ h => h) (Or.inl ⟨by rfl, ?_⟩) (fun _ => trivial) ?_
          · intro w _; go_simp
          simp only [List.getElem_toArray, List.getElem_cons_zero, List.getElem_cons_succ, Act.put, List.setIfInBounds_toArray, List.set_cons_zero, List.set_cons_succ]
          refine wpAnyT_ready (rs := [0, 6]) (by kernel_rfl) (by simp) ?_
          refine AllT.cons rfl (fun K hK => ?_) (AllT.cons rfl (fun K hK => ?_) (AllT.nil))
          · skip
            go_simp
            have b1 := bB.alloc nB (.cells #[] 3)
            have E1 := World.ownsRow_made (base := wB.heap.size) (e := 3) (size := 1) wB #[] 0 nB (by decide) rfl
            have n1 := b1.size
            generalize wB.alloc (.cells #[] 3) = W1 at *
            generalize Value.slice (some ⟨wB.heap.size, 0, none⟩) 0 0 = v1 at *
            refine hK _ _ (fun _ => trivial) ?_
            clear hK K
            try simp only [List.getElem_toArray, List.getElem_cons_zero, List.getElem_cons_succ, Act.put, List.setIfInBounds_toArray, List.set_cons_zero, List.set_cons_succ]
            refine wpAnyT_ready (rs := [4, 6]) (by kernel_rfl) (by simp) ?_
            refine AllT.cons rfl (fun K hK => ?_) (AllT.cons rfl (fun K hK => ?_) (AllT.nil))
            · skip
              obtain ⟨v2, W2, r2, E2, g2, q2⟩ := run_append_srcN (l := R.take p) 31 E1 (HS1.out _ b1) (by rw [List.length_take]; omega) n1 (by omega)
              have b2 := made_onN b1 E1 g2 n1
              have n2 := b2.size
              refine step_append_ofN rfl (.tmp 34) (.tmp 37) 31 31 rfl v1 src1 (by rfl) (by rfl) r2 ?_
              refine hK _ _ (fun _ => trivial) ?_
              clear hK K
              try simp only [List.getElem_toArray, List.getElem_cons_zero, List.getElem_cons_succ, Act.put, List.setIfInBounds_toArray, List.set_cons_zero, List.set_cons_succ]
              refine wpAnyT_ready (rs := [6]) (by kernel_rfl) (by simp) ?_
              refine AllT.cons rfl (fun K hK => ?_) (AllT.nil)
              go_simp
              have b3 := b2.alloc n2 (.cells #[.int .i64 (i : Int)] 3)
              have T3 := heap_alloc_new W2 (.cells #[.int .i64 (i : Int)] 3)
              have lt3 : W2.heap.size < (W2.alloc (.cells #[.int .i64 (i : Int)] 3)).heap.size := by simp
              have ne3 : v2.ownBlock ≠ some W2.heap.size := fun e => by have := (E2.lt _ e).2; omega
              have E3 := E2.alloc (.cells #[.int .i64 (i : Int)] 3)
              have n3 := b3.size
              obtain ⟨B3, hB3⟩ : ∃ B, W2.heap.size = B := ⟨_, rfl⟩
              rw [hB3] at T3 lt3 ne3 ⊢
              generalize W2.alloc (.cells #[.int .i64 (i : Int)] 3) = W3 at *
              refine hK _ _ (fun _ => trivial) ?_
              clear hK K
              try simp only [List.getElem_toArray, List.getElem_cons_zero, List.getElem_cons_succ, Act.put, List.setIfInBounds_toArray, List.set_cons_zero, List.set_cons_succ]
              refine wpAnyT_ready (rs := [7]) (by kernel_rfl) (by simp) ?_
              refine AllT.cons rfl (fun K hK => ?_) (AllT.nil)
              obtain ⟨v4, W4, r4, E4, g4, q4⟩ := run_append_srcN (l := [(i : Int)]) (src := .slice (some ⟨B3, 0, none⟩) 1 1) (m := 1) 31 E3 (src_one T3) rfl n3 (by omega)
              have b4 := made_onN b3 E3 g4 n3
              have n4 := b4.size
              refine step_append_ofN rfl (.tmp 38) (.tmp 40) 31 31 rfl v2 (.slice (some ⟨B3, 0, none⟩) 1 1) (by rfl) (by rfl) r4 ?_
              refine hK _ _ (fun _ => trivial) ?_
              clear hK K
              try simp only [List.getElem_toArray, List.getElem_cons_zero, List.getElem_cons_succ, Act.put, List.setIfInBounds_toArray, List.set_cons_zero, List.set_cons_succ]
              refine wpAnyT_ready (rs := [11]) (by kernel_rfl) (by simp) ?_
              refine AllT.cons rfl (fun K hK => ?_) (AllT.nil)
              obtain ⟨v5, W5, r5, E5, g5, q5⟩ := run_append_srcN (l := R.drop p) 31 E4 (HS2.out _ b4) (by rw [List.length_drop]; omega) n4 (by omega)
              have b5 := made_onN b4 E4 g5 n4
              refine step_append_ofN rfl (.tmp 41) (.tmp 44) 31 31 rfl v4 src2 (by rfl) (by rfl) r5 ?_
              refine hK _ _ (fun _ => trivial) ?_
              clear hK K
              try simp only [List.getElem_toArray, List.getElem_cons_zero, List.getElem_cons_succ, Act.put, List.setIfInBounds_toArray, List.set_cons_zero, List.set_cons_succ]
              have KK := Lib.hid (And.intro b5 E5)
              clear b1 E1 n1 r2 E2 g2 q2 b2 n2 b3 T3 lt3 ne3 E3 n3 hB3 r4 E4 g4 q4 b4 n4 r5 g5 q5 E5 b5
              refine wpAnyT_ready (rs := [12]) (by kernel_rfl) (by simp) ?_
              refine AllT.cons rfl (fun K hK => ?_) (AllT.nil)
              go_simp
              refine hK _ _ (fun h => absurd (h.symm.trans (by kernel_rfl)) Bool.false_ne_true) ?_
              clear hK K
              try simp only [List.getElem_toArray, List.getElem_cons_zero, List.getElem_cons_succ, Act.put, List.setIfInBounds_toArray, List.set_cons_zero, List.set_cons_succ]
              refine wpAnyT_done (by kernel_rfl) ?_ _
              go_wp2
              go_roundw
              case rel => exact ⟨i + 1, _, by first | rfl | simp, by omega, FIN.out _ _ KK.out.1 KK.out.2⟩
              case measure => simp [intOf]; omega
            · skip
              go_simp
              have b6 := b1.alloc n1 (.cells #[.int .i64 (i : Int)] 3)
              have T6 := heap_alloc_new W1 (.cells #[.int .i64 (i : Int)] 3)
              have lt6 : W1.heap.size < (W1.alloc (.cells #[.int .i64 (i : Int)] 3)).heap.size := by simp
              have ne6 : v1.ownBlock ≠ some W1.heap.size := fun e => by have := (E1.lt _ e).2; omega
              have E6 := E1.alloc (.cells #[.int .i64 (i : Int)] 3)
              have n6 := b6.size
              obtain ⟨B6, hB6⟩ : ∃ B, W1.heap.size = B := ⟨_, rfl⟩
              rw [hB6] at T6 lt6 ne6 ⊢
              generalize W1.alloc (.cells #[.int .i64 (i : Int)] 3) = W6 at *
              refine hK _ _ (fun _ => trivial) ?_
              clear hK K
              try simp only [List.getElem_toArray, List.getElem_cons_zero, List.getElem_cons_succ, Act.put, List.setIfInBounds_toArray, List.set_cons_zero, List.set_cons_succ]
              refine wpAnyT_ready (rs := [4]) (by kernel_rfl) (by simp) ?_
              refine AllT.cons rfl (fun K hK => ?_) (AllT.nil)
              obtain ⟨v7, W7, r7, E7, g7, q7⟩ := run_append_srcN (l := R.take p) 31 E6 (HS1.out _ b6) (by rw [List.length_take]; omega) n6 (by omega)
              have b7 := made_onN b6 E6 g7 n6
              have n7 := b7.size
              have T7 := (g7.block B6 lt6 (fun e => ne6 e.symm)).trans T6
              have lt7 : B6 < W7.heap.size := Nat.lt_of_lt_of_le lt6 g7.size
              refine step_append_ofN rfl (.tmp 34) (.tmp 37) 31 31 rfl v1 src1 (by rfl) (by rfl) r7 ?_
              refine hK _ _ (fun _ => trivial) ?_
              clear hK K
              try simp only [List.getElem_toArray, List.getElem_cons_zero, List.getElem_cons_succ, Act.put, List.setIfInBounds_toArray, List.set_cons_zero, List.set_cons_succ]
              refine wpAnyT_ready (rs := [7]) (by kernel_rfl) (by simp) ?_
              refine AllT.cons rfl (fun K hK => ?_) (AllT.nil)
              obtain ⟨v8, W8, r8, E8, g8, q8⟩ := run_append_srcN (l := [(i : Int)]) (src := .slice (some ⟨B6, 0, none⟩) 1 1) (m := 1) 31 E7 (src_one T7) rfl n7 (by omega)
              have b8 := made_onN b7 E7 g8 n7
              have n8 := b8.size
              refine step_append_ofN rfl (.tmp 38) (.tmp 40) 31 31 rfl v7 (.slice (some ⟨B6, 0, none⟩) 1 1) (by rfl) (by rfl) r8 ?_
              refine hK _ _ (fun _ => trivial) ?_
              clear hK K
              try simp only [List.getElem_toArray, List.getElem_cons_zero, List.getElem_cons_succ, Act.put, List.setIfInBounds_toArray, List.set_cons_zero, List.set_cons_succ]
              refine wpAnyT_ready (rs := [11]) (by kernel_rfl) (by simp) ?_
              refine AllT.cons rfl (fun K hK => ?_) (AllT.nil)
              obtain ⟨v9, W9, r9, E9, g9, q9⟩ := run_append_srcN (l := R.drop p) 31 E8 (HS2.out _ b8) (by rw [List.length_drop]; omega) n8 (by omega)
              have b9 := made_onN b8 E8 g9 n8
              refine step_append_ofN rfl (.tmp 41) (.tmp 44) 31 31 rfl v8 src2 (by rfl) (by rfl) r9 ?_
              refine hK _ _ (fun _ => trivial) ?_
              clear hK K
              try simp only [List.getElem_toArray, List.getElem_cons_zero, List.getElem_cons_succ, Act.put, List.setIfInBounds_toArray, List.set_cons_zero, List.set_cons_succ]
              have KK := Lib.hid (And.intro b9 E9)
              clear b1 E1 n1 b6 T6 lt6 ne6 E6 n6 hB6 r7 E7 g7 q7 b7 n7 T7 lt7 r8 E8 g8 q8 b8 n8 r9 g9 q9 E9 b9
              refine wpAnyT_ready (rs := [12]) (by kernel_rfl) (by simp) ?_
              refine AllT.cons rfl (fun K hK => ?_) (AllT.nil)
              go_simp
              refine hK _ _ (fun h => absurd (h.symm.trans (by kernel_rfl)) Bool.false_ne_true) ?_
              clear hK K
              try simp only [List.getElem_toArray, List.getElem_cons_zero, List.getElem_cons_succ, Act.put, List.setIfInBounds_toArray, List.set_cons_zero, List.set_cons_succ]
              refine wpAnyT_done (by kernel_rfl) ?_ _
              go_wp2
              go_roundw
              case rel => exact ⟨i + 1, _, by first | rfl | simp, by omega, FIN.out _ _ KK.out.1 KK.out.2⟩
              case measure => simp [intOf]; omega
          · skip
            go_simp
            have b10 := bB.alloc nB (.cells #[.int .i64 (i : Int)] 3)
            have T10 := heap_alloc_new wB (.cells #[.int .i64 (i : Int)] 3)
            have lt10 : wB.heap.size < (wB.alloc (.cells #[.int .i64 (i : Int)] 3)).heap.size := by simp
            have n10 := b10.size
            obtain ⟨B10, hB10⟩ : ∃ B, wB.heap.size = B := ⟨_, rfl⟩
            rw [hB10] at T10 lt10 ⊢
            generalize wB.alloc (.cells #[.int .i64 (i : Int)] 3) = W10 at *
            refine hK _ _ (fun _ => trivial) ?_
            clear hK K
            try simp only [List.getElem_toArray, List.getElem_cons_zero, List.getElem_cons_succ, Act.put, List.setIfInBounds_toArray, List.set_cons_zero, List.set_cons_succ]
            refine wpAnyT_ready (rs := [0]) (by kernel_rfl) (by simp) ?_
            refine AllT.cons rfl (fun K hK => ?_) (AllT.nil)
            go_simp
            have b11 := b10.alloc n10 (.cells #[] 3)
            have E11 := World.ownsRow_made (base := wB.heap.size) (e := 3) (size := 1) W10 #[] 0 n10 (by decide) rfl
            have T11 := (Below.heap_alloc W10 (.cells #[] 3) B10 lt10).trans T10
            have ne11 : (Value.slice (some ⟨W10.heap.size, 0, none⟩) 0 0).ownBlock ≠ some (B10) := fun e => by simp [Value.ownBlock] at e; omega
            have lt11 : B10 < (W10.alloc (.cells #[] 3)).heap.size := by simp; omega
            have n11 := b11.size
            generalize W10.alloc (.cells #[] 3) = W11 at *
            generalize Value.slice (some ⟨W10.heap.size, 0, none⟩) 0 0 = v11 at *
            refine hK _ _ (fun _ => trivial) ?_
            clear hK K
            try simp only [List.getElem_toArray, List.getElem_cons_zero, List.getElem_cons_succ, Act.put, List.setIfInBounds_toArray, List.set_cons_zero, List.set_cons_succ]
            refine wpAnyT_ready (rs := [4]) (by kernel_rfl) (by simp) ?_
            refine AllT.cons rfl (fun K hK => ?_) (AllT.nil)
            obtain ⟨v12, W12, r12, E12, g12, q12⟩ := run_append_srcN (l := R.take p) 31 E11 (HS1.out _ b11) (by rw [List.length_take]; omega) n11 (by omega)
            have b12 := made_onN b11 E11 g12 n11
            have n12 := b12.size
            have T12 := (g12.block B10 lt11 (fun e => ne11 e.symm)).trans T11
            have lt12 : B10 < W12.heap.size := Nat.lt_of_lt_of_le lt11 g12.size
            refine step_append_ofN rfl (.tmp 34) (.tmp 37) 31 31 rfl v11 src1 (by rfl) (by rfl) r12 ?_
            refine hK _ _ (fun _ => trivial) ?_
            clear hK K
            try simp only [List.getElem_toArray, List.getElem_cons_zero, List.getElem_cons_succ, Act.put, List.setIfInBounds_toArray, List.set_cons_zero, List.set_cons_succ]
            refine wpAnyT_ready (rs := [7]) (by kernel_rfl) (by simp) ?_
            refine AllT.cons rfl (fun K hK => ?_) (AllT.nil)
            obtain ⟨v13, W13, r13, E13, g13, q13⟩ := run_append_srcN (l := [(i : Int)]) (src := .slice (some ⟨B10, 0, none⟩) 1 1) (m := 1) 31 E12 (src_one T12) rfl n12 (by omega)
            have b13 := made_onN b12 E12 g13 n12
            have n13 := b13.size
            refine step_append_ofN rfl (.tmp 38) (.tmp 40) 31 31 rfl v12 (.slice (some ⟨B10, 0, none⟩) 1 1) (by rfl) (by rfl) r13 ?_
            refine hK _ _ (fun _ => trivial) ?_
            clear hK K
            try simp only [List.getElem_toArray, List.getElem_cons_zero, List.getElem_cons_succ, Act.put, List.setIfInBounds_toArray, List.set_cons_zero, List.set_cons_succ]
            refine wpAnyT_ready (rs := [11]) (by kernel_rfl) (by simp) ?_
            refine AllT.cons rfl (fun K hK => ?_) (AllT.nil)
            obtain ⟨v14, W14, r14, E14, g14, q14⟩ := run_append_srcN (l := R.drop p) 31 E13 (HS2.out _ b13) (by rw [List.length_drop]; omega) n13 (by omega)
            have b14 := made_onN b13 E13 g14 n13
            refine step_append_ofN rfl (.tmp 41) (.tmp 44) 31 31 rfl v13 src2 (by rfl) (by rfl) r14 ?_
            refine hK _ _ (fun _ => trivial) ?_
            clear hK K
            try simp only [List.getElem_toArray, List.getElem_cons_zero, List.getElem_cons_succ, Act.put, List.setIfInBounds_toArray, List.set_cons_zero, List.set_cons_succ]
            have KK := Lib.hid (And.intro b14 E14)
            clear b10 T10 lt10 n10 hB10 b11 E11 T11 ne11 lt11 n11 r12 E12 g12 q12 b12 n12 T12 lt12 r13 E13 g13 q13 b13 n13 r14 g14 q14 E14 b14
            refine wpAnyT_ready (rs := [12]) (by kernel_rfl) (by simp) ?_
            refine AllT.cons rfl (fun K hK => ?_) (AllT.nil)
            go_simp
            refine hK _ _ (fun h => absurd (h.symm.trans (by kernel_rfl)) Bool.false_ne_true) ?_
            clear hK K
            try simp only [List.getElem_toArray, List.getElem_cons_zero, List.getElem_cons_succ, Act.put, List.setIfInBounds_toArray, List.set_cons_zero, List.set_cons_succ]
            refine wpAnyT_done (by kernel_rfl) ?_ _
            go_wp2
            go_roundw
            case rel => exact ⟨i + 1, _, by first | rfl | simp, by omega, FIN.out _ _ KK.out.1 KK.out.2⟩
            case measure => simp [intOf]; omega
    · have d1 : decide ((i : Int) < (n : Int)) = false := decide_eq_false (by omega)
      obtain rfl : i = n := by omega
      have T : Hid (∃ A c R, u3 = .slice A i c ∧ R.length = i ∧ i ≤ c ∧ c ≤ 9223372036854775807 ∧ Ord dl R i ∧ RdN wr A R ∧ Below w.heap.size w wr) := by
        obtain ⟨h1, h2, h3, h4⟩ := K.out
        obtain ⟨A, c, rfl, k1, k2, k3, _⟩ := own_rdN h3
        rw [h1] at k1 ⊢
        exact ⟨A, c, R, rfl, h1, k1, k2, h2, k3, h4⟩
      clear K
      go_wp2
      go_ret
      obtain ⟨A, c, R', rfl, k0, k1, k2, k3, k4, k5⟩ := T.out
      exact ⟨A, c, R', rfl, k0, k1, k2, k3, k4, k5⟩
end Go.Proofs.YtnbidigilmjloaaDoor
