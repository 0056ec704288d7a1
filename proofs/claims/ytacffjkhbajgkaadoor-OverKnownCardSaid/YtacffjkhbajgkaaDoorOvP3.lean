/- Package over: intervals: what its iterator hands to each round. -/
import Derived.Test.YtacffjkhbajgkaaDoorOvP2
import Derived.RangeFuncNested
import Derived.RangeFuncBound
import Derived.RangeFuncCalls
import Derived.RangeFuncLeaves
import Derived.Shelf.Abstract
import Derived.Shelf.RegionOpen
import Derived.WalkKit
import Derived.OwnWalkIn
import Derived.TacticsInMore
import Derived.LoopNIn
import Derived.LoopIn
import Derived.Sort.QuietIn
import Derived.Sort.CutIn
namespace Go.Proofs.YtacffjkhbajgkaaDoor
open Go.RowKit Go.Lib
set_option linter.unusedVariables false
set_option linter.unusedSimpArgs false

/-- What a round that goes on keeps: what lay below n₀; rows of ints from n₁ on; boxes that hold jobs. -/
structure KpT (n₀ n₁ : Nat) (W W' : World) : Prop where
  below : Below n₀ W W'
  ints : ∀ k, n₁ ≤ k → TyI W k → W'.heap[k]? = W.heap[k]?
  jobs : ∀ k v, Boxed W k 25 v → Boxed W' k 25 v
theorem KpT.tr {n₀ n₁ : Nat} {A B C : World} (h : KpT n₀ n₁ A B) (k : KpT n₀ n₁ B C) : KpT n₀ n₁ A C :=
  ⟨h.below.trans k.below, fun j hj ht => by
    have e := h.ints j hj ht
    have ht2 : TyI B j := by obtain ⟨cs, fr, q⟩ := ht; exact ⟨cs, fr, e.trans q⟩
    exact (k.ints j hj ht2).trans e, fun j v hv => k.jobs j v (h.jobs j v hv)⟩
theorem KpT.bk {n₀ n₁ : Nat} {w : World} (hn : n₀ ≤ w.heap.size) (W : World) (l : Nat) (o o' : Obj) (hl : w.heap.size ≤ l) (h : W.heap[l]? = some o) (hc : o.isCells = false) (hw : o.isWalk = false) : KpT n₀ n₁ W (W.putObj l o') := by
  have hb := belowK_b hn W l o o' hl h hc hw
  have hp : ∀ k, k ≠ l → (W.putObj l o').heap[k]? = W.heap[k]? := fun k hk => World.putObj_heap_other hk
  refine ⟨hb, fun k _ ht => hp k (fun e => ?_), fun k v hv => ?_⟩
  · obtain ⟨cs, fr, q⟩ := ht
    rw [e, h] at q
    cases q; cases hc
  · have hk : k ≠ l := fun e => by
      unfold Boxed at hv
      rw [e, h] at hv
      cases hv; cases hc
    exact (hp k hk).trans hv
theorem grown_of_below {w w' : World} (h : Below w.heap.size w w') : w.grownBy w' none := ⟨h.os, h.tape, h.output, h.size, fun k hk _ => h.block k hk⟩

def encIv (x : Iv) : Array Value := #[.agg #[.int .i64 x.1.1, .int .i64 x.1.2], .int .i64 x.2]

/-- What the iterator keeps between its steps. -/
structure IvK (we Wa : World) (Bs Bo Br : Nat) (v : Value) (wr : World) : Prop where
  below : Below we.heap.size we wr
  box : Boxed wr Bs 25 v
  tyO : TyI Wa Bo
  tyR : TyI Wa Br
  ord : wr.heap[Bo]? = Wa.heap[Bo]?
  rel : wr.heap[Br]? = Wa.heap[Br]?
section
variable {we Wa wr w' : World} {Bs Bo Br n₁ : Nat} {v : Value}
theorem TyI.lt {w : World} {B : Nat} (h : TyI w B) : B < w.heap.size := by obtain ⟨cs, fr, q⟩ := h; exact (Array.getElem?_eq_some_iff.1 q).1
theorem TyI.to {w u : World} {B : Nat} (h : TyI w B) (e : u.heap[B]? = w.heap[B]?) : TyI u B := by obtain ⟨cs, fr, q⟩ := h; exact ⟨cs, fr, e.trans q⟩
theorem IvK.on (h : IvK we Wa Bs Bo Br v wr) (hb : Below wr.heap.size wr w') : IvK we Wa Bs Bo Br v w' :=
  ⟨below_on h.below hb, (hb.block Bs h.box.lt).trans h.box, h.tyO, h.tyR, (hb.block Bo (h.tyO.to h.ord).lt).trans h.ord, (hb.block Br (h.tyR.to h.rel).lt).trans h.rel⟩
theorem IvK.round (h : IvK we Wa Bs Bo Br v wr) (hk : KpT we.heap.size n₁ wr w') (h1 : n₁ ≤ Bo) (h2 : n₁ ≤ Br) : IvK we Wa Bs Bo Br v w' :=
  ⟨h.below.trans hk.below, hk.jobs _ _ h.box, h.tyO, h.tyR, (hk.ints Bo h1 (h.tyO.to h.ord)).trans h.ord, (hk.ints Br h2 (h.tyR.to h.rel)).trans h.rel⟩
theorem IvK.oc (h : IvK we Wa Bs Bo Br v wr) {k : Nat} {u : Value} (c : Wa.cell? ⟨Bo, k, none⟩ = some u) : wr.cell? ⟨Bo, k, none⟩ = some u := (World.cell?_of_block (a := ⟨Bo, k, none⟩) h.ord).trans c
theorem IvK.rc (h : IvK we Wa Bs Bo Br v wr) {k : Nat} {u : Value} (c : Wa.cell? ⟨Br, k, none⟩ = some u) : wr.cell? ⟨Br, k, none⟩ = some u := (World.cell?_of_block (a := ⟨Br, k, none⟩) h.rel).trans c
end

/-- The jobs by deadline, as they count. -/
def ordS (l : List Jb) (g : Nat → Int) (k : Nat) : Wd := ((l[(g k).toNat]?).map Jb.wd).getD ⟨0, 0, 0⟩
theorem ordS_at {l : List Jb} {g : Nat → Int} {k v : Nat} {x : Jb} (hv : g k = (v : Int)) (hx : l[v]? = some x) : ordS l g k = x.wd := by
  unfold ordS; rw [hv, Int.toNat_natCast, hx]; rfl
theorem ovW_of {l : List Jb} {g : Nat → Int} {R : Nat → Int} {m : Nat} (h : Run (dlOf l) g 0 l.length) (h1 : ∀ i j, i < j → j < m → R i < R j) (h2 : ∀ i, i < m → ∃ x ∈ l, R i = x.rel) (h3 : ∀ x ∈ l, ∃ i, i < m ∧ R i = x.rel) :
    OvW (wds l) (ordS l g) l.length R m := by
  have hg : ∀ k, k < l.length → ∃ (v : Nat) (x : Jb), g k = (v : Int) ∧ l[v]? = some x := by
    intro k hk
    have := h.to k (Nat.zero_le _) hk
    obtain ⟨v, hv⟩ := Int.eq_ofNat_of_zero_le (by simpa using this.1)
    exact ⟨v, l[v]'(by omega), hv, List.getElem?_eq_getElem (by omega)⟩
  refine ⟨?_, ?_, h1, ?_, ?_⟩
  · intro i j hij hj
    by_cases e : i = j
    · subst e; exact Int.le_refl _
    · obtain ⟨vi, xi, ei, hi⟩ := hg i (by omega)
      obtain ⟨vj, xj, ej, hj'⟩ := hg j hj
      have ht := h.srt i j (Nat.zero_le _) (by omega) hj
      rw [ordS_at ei hi, ordS_at ej hj']
      unfold TT at ht
      rw [ei, ej, dlOf_at hi, dlOf_at hj'] at ht
      show xi.dl ≤ xj.dl
      omega
  · have hp : ((List.range l.length).map fun k => (g k).toNat).Perm (List.range l.length) := by
      refine (List.perm_ext_iff_of_nodup ?_ List.nodup_range).2 ?_
      · unfold List.Nodup
        rw [List.pairwise_map]
        refine (List.pairwise_iff_getElem.2 fun i j hi hj hij => ?_)
        simp only [List.getElem_range]
        have hj' : j < l.length := by simpa using hj
        intro e
        obtain ⟨vi, xi, ei, _⟩ := hg i (by omega)
        obtain ⟨vj, xj, ej, _⟩ := hg j hj'
        have ht := h.srt i j (Nat.zero_le _) hij hj'
        rw [ei, ej] at ht e
        simp only [Int.toNat_natCast] at e
        subst e
        exact ht.irr
      · intro v
        simp only [List.mem_map, List.mem_range]
        constructor
        · rintro ⟨k, hk, rfl⟩
          have := h.to k (Nat.zero_le _) hk
          omega
        · intro hv
          obtain ⟨k, _, hk, e⟩ := h.fro v (Nat.zero_le _) hv
          exact ⟨k, hk, by rw [e]; rfl⟩
    have h2 := hp.map (fun v => ((l[v]?).map Jb.wd).getD ⟨0, 0, 0⟩)
    rw [List.map_map] at h2
    have e1 : listS (ordS l g) l.length = (List.range l.length).map ((fun v => ((l[v]?).map Jb.wd).getD ⟨0, 0, 0⟩) ∘ fun k => (g k).toNat) := rfl
    have e2 : (List.range l.length).map (fun v => ((l[v]?).map Jb.wd).getD ⟨0, 0, 0⟩) = wds l := by
      apply List.ext_getElem
      · simp [wds]
      · intro i i1 i2
        have : i < l.length := by simpa using i1
        simp [wds, this]
    rw [e1, ← e2]
    exact h2
  · intro i hi
    obtain ⟨x, hx, e⟩ := h2 i hi
    exact ⟨x.wd, List.mem_map.2 ⟨x, hx, rfl⟩, e⟩
  · intro v hv
    obtain ⟨x, hx, rfl⟩ := List.mem_map.1 hv
    exact h3 x hx

theorem intervals_any (A : Option Addr) (n cap : Nat) (w : World) :
    Calls Tryd.prog 19 #[.slice A n cap] w (fun e w' => e = .returned (.func (.func 28) #[] #[.pointer (some ⟨w.heap.size, 0, none⟩)]) ∧ w' = w.alloc (.cells #[.slice A n cap] 25)) := by
  go_enter Tryd.func19, Tryd.ntmps19
  go_wp2
  go_ret
  exact ⟨rfl, rfl⟩
end Go.Proofs.YtacffjkhbajgkaaDoor
