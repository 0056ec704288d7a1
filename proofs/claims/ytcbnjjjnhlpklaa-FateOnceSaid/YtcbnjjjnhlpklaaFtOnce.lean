/- FateOnce: of several words of one job the first one stays. -/
import Derived.Test.YtcbnjjjnhlpklaaFtAwake
import Derived.Maps.OwnOps
import Derived.Maps.OwnSet
import Derived.Maps.Views
import Derived.MapViews
import Derived.Deep.RegionHeld3
namespace Go.Proofs.Ytcbnjjjnhlpklaa
open Go.RowKit Go.Maps
set_option linter.unusedVariables false
set_option linter.unusedSimpArgs false

theorem cntF_set {l : List Ft} : ∀ {n : Nat} {x y : Ft}, l[n]? = some x → x.1 = 0 → y.1 ≠ 0 → cntF (l.set n y) 0 + 1 = cntF l 0 := by
  induction l with
  | nil => intro n x y h; simp at h
  | cons z l ih =>
    intro n x y h hx hy
    match n, h with
    | 0, h =>
      simp at h
      subst h
      simp [cntF, hx, hy]
    | n + 1, h =>
      have := ih (by simpa using h) hx hy
      unfold cntF at *
      rw [List.set_cons_succ]
      by_cases hz : z.1 = 0
      · simp [hz]; omega
      · simp [hz]; omega
theorem cntF_say {l : List Ft} {i k t : Int} (h : sayE l i k t = 0) : cntF (sayL l i k t) 0 + 1 = cntF l 0 := by
  obtain ⟨h1, h2, _, _, h5⟩ := sayE_zero h
  obtain ⟨n, rfl, hn, hx⟩ := inB_get h1
  unfold sayL
  rw [if_pos h]
  simp only [Int.toNat_natCast]
  exact cntF_set hx h5 (by show k ≠ 0; omega)
/-- Who waits has no time yet. -/
def FZero (l : List Ft) : Prop := ∀ i : Int, (ofV l i).1 = 0 → ofV l i = (0, 0)
theorem FZero.made (n : Nat) : FZero (List.replicate n (0, 0)) := by
  intro i h
  unfold ofV
  split
  · rw [List.getD, List.getElem?_replicate]; split <;> rfl
  · rfl
theorem FZero.say {l : List Ft} (h : FZero l) (i k t : Int) : FZero (sayL l i k t) := by
  intro j hj
  by_cases hz : sayE l i k t = 0
  · by_cases e : j = i
    · subst e
      rw [say_at hz] at hj ⊢
      obtain ⟨_, h2, _⟩ := sayE_zero hz
      exact absurd hj (by show k ≠ 0; omega)
    · rw [say_other e] at hj ⊢
      exact h j hj
  · have : sayL l i k t = l := by unfold sayL; rw [if_neg hz]
    rw [this] at hj ⊢
    exact h j hj
def intV : Value → Option Int
  | .int .i64 a => some a
  | _ => none
theorem intV_inv {v : Value} {a : Int} (h : intV v = some a) : v = .int .i64 a := by
  unfold intV at h
  split at h
  · simp at h; subst h; rfl
  · cases h
def actL : List Value → Option (Int × Int × Int)
  | [x, y, z] => (intV x).bind fun a => (intV y).bind fun b => (intV z).map fun c => (a, b, c)
  | _ => none
theorem actL_inv {l : List Value} {a b c : Int} (h : actL l = some (a, b, c)) : l = [.int .i64 a, .int .i64 b, .int .i64 c] := by
  unfold actL at h
  split at h
  · rename_i x y z
    cases hx : intV x with
    | none => rw [hx] at h; cases h
    | some a' =>
      cases hy : intV y with
      | none => rw [hx, hy] at h; cases h
      | some b' =>
        cases hz : intV z with
        | none => rw [hx, hy, hz] at h; cases h
        | some c' =>
          rw [hx, hy, hz] at h
          simp at h
          obtain ⟨rfl, rfl, rfl⟩ := h
          rw [intV_inv hx, intV_inv hy, intV_inv hz]
  · cases h
/-- How an Act reads in the map. -/
def actR : Value → Option (DataW Unit × List MemPlace)
  | .agg cs => (actL cs.toList).map fun p => (.agg [.lit (.int .i64 p.1), .lit (.int .i64 p.2.1), .lit (.int .i64 p.2.2)], [])
  | _ => none
theorem actR_mk (a b c : Int) : actR (.agg #[.int .i64 a, .int .i64 b, .int .i64 c]) = some (.agg [.lit (.int .i64 a), .lit (.int .i64 b), .lit (.int .i64 c)], []) := rfl
theorem actR_inv {v : Value} {a b c : Int} {ps : List MemPlace} (h : actR v = some (.agg [.lit (.int .i64 a), .lit (.int .i64 b), .lit (.int .i64 c)], ps)) : v = .agg #[.int .i64 a, .int .i64 b, .int .i64 c] := by
  unfold actR at h
  split at h
  · rename_i cs
    cases hl : actL cs.toList with
    | none => rw [hl] at h; cases h
    | some p =>
      obtain ⟨a', b', c'⟩ := p
      rw [hl] at h
      simp at h
      obtain ⟨⟨rfl, rfl, rfl⟩, _⟩ := h
      have := actL_inv hl
      congr 1
      exact Array.ext' this
  · cases h
def actD (i : Int) (x : Ft) : DataW Unit := if x.1 = 0 then .agg [.lit (.int .i64 0), .lit (.int .i64 0), .lit (.int .i64 0)] else .agg [.lit (.int .i64 i), .lit (.int .i64 x.1), .lit (.int .i64 x.2)]
def zD : DataW Unit := .agg [.lit (.int .i64 0), .lit (.int .i64 0), .lit (.int .i64 0)]
theorem Try.lawIntF : Keyed Try.prog 3 := int_keyed Try.underlying3
theorem Try.zeroActF (w : World) : (zeroValue 40).run Try.prog w = .ok (.agg #[.int .i64 0, .int .i64 0, .int .i64 0]) w := by kernel_rfl
/-- Block b is the map of the first words, for the fates L. -/
structure MapA (o : Nat → Nat) (w : World) (b : Nat) (L : List Ft) : Prop where
  own : ∃ (D : DataW Unit) (n : Nat), n + cntF L 0 = L.length ∧ w.ownsMap Try.prog 3 actR b n D ∧ Maps.size D = n ∧
    (∀ i : Int, D.atKey (.int .i64 i) zD = actD i (ofV L i)) ∧ (∀ i : Int, Maps.has D (.int .i64 i) = decide ((ofV L i).1 ≠ 0))
  mine : o b = 3
section
variable {o o' : Nat → Nat} {σ : Nat} {w w' : World} {b : Nat} {L : List Ft}
theorem MapA.lt (h : MapA o w b L) : b < w.heap.size := by
  obtain ⟨D, n, _, hD, _⟩ := h.own
  exact hD.lt
theorem MapA.same (h : MapA o w b L) (hs : w'.heap[b]? = w.heap[b]?) (hm : o' b = 3) : MapA o' w' b L := by
  obtain ⟨⟨D, n, h1, ⟨es, clock, hb, r⟩, h2⟩, _⟩ := h
  exact ⟨⟨D, n, h1, ⟨es, clock, hs.trans hb, r⟩, h2⟩, hm⟩
theorem MapA.step (h : MapA o w b L) (st : Step o o' σ w w') (hne : σ ≠ 3) : MapA o' w' b L :=
  h.same (st.block b h.lt (by rw [h.mine]; exact fun e => hne e.symm)) (by rw [st.old b h.lt]; exact h.mine)
theorem MapA.below (h : MapA o w b L) (hb : Below w.heap.size w w') : MapA o w' b L := h.step (Step.of_below o 4 hb) (by decide)
theorem cntF_made (n : Nat) : cntF (List.replicate n ((0, 0) : Ft)) 0 = n := by simp [cntF]
theorem ofV_made (n : Nat) (i : Int) : ofV (List.replicate n ((0, 0) : Ft)) i = (0, 0) := FZero.made n i (by
  unfold ofV
  split
  · rw [List.getD, List.getElem?_replicate]; split <;> rfl
  · rfl)
theorem MapA.made (o : Nat → Nat) (w : World) (n : Nat) : MapA (tag o w.heap.size 3) (w.alloc (.map #[] 0)) w.heap.size (List.replicate n (0, 0)) :=
  ⟨⟨.map [], 0, by rw [cntF_made]; simp, World.ownsMap_made _ _ _ _, rfl, fun i => by rw [ofV_made]; rfl, fun i => by rw [ofV_made]; rfl⟩, tag_new (Nat.le_refl _)⟩
theorem keyF {i : Int} (h : fitB i = true) : keyOf Try.prog 3 (.int .i64 i) = some (.int .i64 i) := by
  obtain ⟨a0, a1⟩ := fitB_iff.1 h
  have : IntKind.i64.min ≤ i ∧ i ≤ 9223372036854775807 := ⟨a0, a1⟩
  exact keyOf_int_mk Try.underlying3 (by simpa [Lit.wf] using this)
theorem MapA.look (h : MapA o w b L) {i : Int} (hi : fitB i = true) {x : Ft} (hx : ofV L i = x) (hz : x.1 = 0 → x = (0, 0)) :
    (Instr.lookup 45 (.map (some b)) (.int .i64 i) false).run Try.prog w = .ok (.agg #[.int .i64 (if x.1 = 0 then 0 else i), .int .i64 x.1, .int .i64 x.2]) w := by
  obtain ⟨D, n, _, hD, _, h1, _⟩ := h.own
  obtain ⟨v, ps, hrun, hv⟩ := hD.lookup Try.lawIntF Try.underlying45 (Try.zeroActF w) (zd := zD) (zp := []) (actR_mk 0 0 0) (keyF hi)
  rw [h1 i, hx] at hv
  unfold actD at hv
  by_cases hk : x.1 = 0
  · rw [if_pos hk] at hv
    rw [hrun, actR_inv hv, if_pos hk]
    rw [hz hk]
  · rw [if_neg hk] at hv
    rw [hrun, actR_inv hv, if_neg hk]
theorem MapA.none (h : MapA o w b L) {i : Int} (hi : fitB i = true) (hx : (ofV L i).1 = 0) :
    (Instr.lookup 45 (.map (some b)) (.int .i64 i) true).run Try.prog w = .ok (.tuple #[.agg #[.int .i64 0, .int .i64 0, .int .i64 0], .bool false]) w := by
  obtain ⟨D, n, _, hD, _, h1, h2⟩ := h.own
  obtain ⟨v, ps, hrun, hv⟩ := hD.look_ok Try.lawIntF Try.underlying45 (Try.zeroActF w) (zd := zD) (zp := []) (actR_mk 0 0 0) (keyF hi)
  rw [h1 i] at hv
  unfold actD at hv
  rw [if_pos hx] at hv
  rw [hrun, actR_inv hv, h2 i]
  simp [hx]
theorem MapA.put (h : MapA o w b L) {i k t : Int} (hi : fitB i = true) (hl : L.length ≤ 1000) (hz : sayE L i k t = 0) :
    ∃ w', (Instr.mapUpdate 45 (.map (some b)) (.int .i64 i) (.agg #[.int .i64 i, .int .i64 k, .int .i64 t])).run Try.prog w = .ok () w' ∧ MapA (tag o w.heap.size 3) w' b (sayL L i k t) ∧ Step o (tag o w.heap.size 3) 3 w w' := by
  have hb := h.lt
  obtain ⟨D, n, hn, hD, hs, h1, h2⟩ := h.own
  have hlen := cntF_le L 0
  obtain ⟨w', hrun, hD', hg⟩ := hD.update Try.lawIntF Try.underlying45 (by unfold maxLen; omega) (keyF hi) (actR_mk i k t)
  have im := hD.isMap
  have ti := hD.tidy Try.lawIntF
  obtain ⟨z1, z2, _, _, z5⟩ := sayE_zero hz
  have hc := cntF_say hz
  refine ⟨w', hrun, ⟨⟨_, n + 1, by rw [sayL_len]; omega, hD', ?_, fun j => ?_, fun j => ?_⟩, by rw [tag_old hb]; exact h.mine⟩, (Step.refl o 3 w).grown hg (fun q hq => by injection hq with hq; subst hq; exact .inr h.mine) 3⟩
  · rw [Maps.size_put ti, h2 i]
    simp [z5, hs]
  · by_cases e : j = i
    · subst e
      rw [Maps.atKey_put_same im (by simp [WideAt.IsKeyLit]), say_at hz]
      unfold actD
      rw [if_neg (by show k ≠ 0; omega)]
    · rw [Maps.atKey_put_other (by intro q; injection q with _ q; exact e q), h1 j, say_other e]
  · by_cases e : j = i
    · subst e
      rw [Maps.has_put_same im (by simp [WideAt.IsKeyLit]), say_at hz]
      exact (decide_eq_true (by show k ≠ 0; omega)).symm
    · rw [Maps.has_put_other (by intro q; injection q with _ q; exact e q), h2 j, say_other e]
theorem MapA.len (h : MapA o w b L) (ty : TypeId) : (Builtin.len_ #[45] ty #[.map (some b)]).run Try.prog w = .ok (.int .i64 ((L.length - cntF L 0 : Nat) : Int)) w := by
  obtain ⟨D, n, hn, hD, hs, _⟩ := h.own
  have := hD.len Try.underlying45 ty
  rw [hs] at this
  rw [this]
  have : n = L.length - cntF L 0 := by omega
  rw [this]
end
end Go.Proofs.Ytcbnjjjnhlpklaa
