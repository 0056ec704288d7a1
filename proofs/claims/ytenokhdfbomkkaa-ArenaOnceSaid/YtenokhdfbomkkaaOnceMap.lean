/- ArenaOnce: the map of all handles that were told. -/
import Derived.Test.YtenokhdfbomkkaaOnceMath
import Derived.Maps.OwnOps
import Derived.Maps.OwnSet
import Derived.Maps.Views
import Derived.DeepKeys4
import Derived.MapViews
namespace Go.Proofs.Ytenokhdfbomkkaa
open Go.RowKit Go.Maps
set_option linter.unusedVariables false

theorem Try.laidOutH : laidOutB Try.prog = true := by kernel_rfl
theorem Try.rowH : (28 : TypeId) < Try.prog.types.size := of_decide_eq_true (by kernel_rfl)
theorem Try.wideH : (match Try.prog.underlying 28 with | some (.array _ _) | some (.struct _) => true | _ => false) = true := by kernel_rfl
theorem Try.lawH : Keyed Try.prog 28 := Keyed.of_law (deep_law_laid Try.laidOutH (m := 2) (by omega) Try.rowH (by kernel_rfl) Try.wideH)
theorem Try.zeroBool (w : World) : (zeroValue 4).run Try.prog w = .ok (.bool false) w := by kernel_rfl
theorem Try.cellsH : Try.prog.cellsOf 28 = 2 := by kernel_rfl
theorem Try.formedH (c0 c1 : Value) : (Value.agg #[c0, c1]).formed Try.prog 28 = true := by simp [Value.formed, Try.underlying28, Try.cellsH]
theorem Try.keyH : Try.prog.keyType 28 = true := by kernel_rfl
theorem Try.cellsInt : Try.prog.cellsOf 3 = 1 := by kernel_rfl
theorem Try.cellsInt64 : Try.prog.cellsOf 2 = 1 := by kernel_rfl
theorem key_int (d : Nat) (s : Int) (hs : (Lit.int .i64 s).wf = true) : Try.prog.keyLits (d + 1) 3 [.int .i64 s] = some [.int .i64 s] := by
  unfold Program.keyLits; rw [Try.underlying3]; simp only [true_and, hs, if_true]
theorem key_int64 (d : Nat) (s : Int) (hs : (Lit.int .i64 s).wf = true) : Try.prog.keyLits (d + 1) 2 [.int .i64 s] = some [.int .i64 s] := by
  unfold Program.keyLits; rw [Try.underlying2]; simp only [true_and, hs, if_true]
theorem key_handle (d : Nat) (s g : Int) (hs : (Lit.int .i64 s).wf = true) (hg : (Lit.int .i64 g).wf = true) : Try.prog.keyLits (d + 1 + 1) 28 [.int .i64 s, .int .i64 g] = some [.int .i64 s, .int .i64 g] := by
  unfold Program.keyLits
  rw [Try.underlying28]
  simp only [Try.cellsH]
  rw [if_pos ⟨rfl, by kernel_rfl⟩]
  simp only [List.mapM_cons, List.mapM_nil, Try.cellsInt, Try.cellsInt64, List.drop_zero, List.drop_succ_cons, List.take_succ_cons, List.take_zero, key_int d s hs, key_int64 d g hg]
  rfl
/-- Every handle is a key. -/
theorem handle_key (s g : Int) (hs : (Lit.int .i64 s).wf = true) (hg : (Lit.int .i64 g).wf = true) : ∃ kl, keyOf Try.prog 28 (.agg #[.int .i64 s, .int .i64 g]) = some kl := by
  obtain ⟨m, hm⟩ : ∃ m, Try.prog.types.size = m + 1 := ⟨Try.prog.types.size - 1, (Nat.succ_pred_eq_of_pos (Nat.lt_of_le_of_lt (Nat.zero_le _) Try.rowH)).symm⟩
  unfold keyOf
  rw [Try.underlying28]
  simp only [Try.keyH, Try.formedH, Bool.and_self, if_true]
  rw [hm]
  exact ⟨_, by rw [show (Value.agg #[.int .i64 s, .int .i64 g]).cells.toList = [.int .i64 s, .int .i64 g] from rfl, key_handle m s g hs hg]; rfl⟩

/-- Block b is a map whose keys are all among T. -/
structure SeenM (o : Nat → Nat) (τ : Nat) (w : World) (b n : Nat) (T : List (Nat × Int)) : Prop where
  own : ∃ D : DataW Unit, w.ownsMap Try.prog 28 (plainElem Try.prog 4) b n D ∧ ∀ kl, Maps.has D kl = true → ∃ q ∈ T, keyOf Try.prog 28 (.agg #[.int .i64 (q.1 : Int), .int .i64 q.2]) = some kl
  mine : o b = τ
theorem own_map_same {D : DataW Unit} {w w' : World} {k b n : Nat} {R : Value → Option (DataW Unit × List MemPlace)} (h : w.ownsMap Try.prog k R b n D) (hs : w'.heap[b]? = w.heap[b]?) : w'.ownsMap Try.prog k R b n D := by
  obtain ⟨es, clock, hb, r⟩ := h
  exact ⟨es, clock, hs.trans hb, r⟩
theorem SeenM.lt {o : Nat → Nat} {τ : Nat} {w : World} {b n : Nat} {T : List (Nat × Int)} (h : SeenM o τ w b n T) : b < w.heap.size := by
  obtain ⟨D, hD, _⟩ := h.own
  exact hD.lt
theorem SeenM.step {o o' : Nat → Nat} {τ σ : Nat} {w w' : World} {b n : Nat} {T : List (Nat × Int)} (h : SeenM o τ w b n T) (st : Step o o' σ w w') (hne : τ ≠ σ) : SeenM o' τ w' b n T := by
  have hl := h.lt
  obtain ⟨⟨D, hD, hh⟩, hm⟩ := h
  exact ⟨⟨D, own_map_same hD (st.block b hl (by rw [hm]; exact hne)), hh⟩, by rw [st.old b hl]; exact hm⟩
theorem SeenM.made (o : Nat → Nat) (τ : Nat) (w : World) : SeenM (tag o w.heap.size τ) τ (w.alloc (.map #[] 0)) w.heap.size 0 [] :=
  ⟨⟨.map [], World.ownsMap_made _ _ _ _, fun kl h => by simp [Maps.has] at h⟩, tag_new (Nat.le_refl _)⟩
theorem plainElem_bool_inv {v : Value} {x : Bool} {ps : List MemPlace} (h : plainElem (H := Unit) Try.prog 4 v = some (.lit (.bool x), ps)) : v = .bool x := by
  unfold plainElem at h
  rw [Try.underlying4] at h
  cases v <;> simp at h
  rw [h.1]
theorem SeenM.mono {o : Nat → Nat} {τ : Nat} {w : World} {b n m : Nat} {T : List (Nat × Int)} (h : SeenM o τ w b n T) (hm : n ≤ m) : SeenM o τ w b m T := by
  obtain ⟨⟨D, hD, hh⟩, h1⟩ := h
  exact ⟨⟨D, hD.mono hm, hh⟩, h1⟩
theorem SeenM.alloc {o : Nat → Nat} {τ : Nat} {w : World} {b n : Nat} {T : List (Nat × Int)} (h : SeenM o τ w b n T) (x : Obj) (τ' : Nat) : SeenM (tag o w.heap.size τ') τ (w.alloc x) b n T := h.step ((Step.refl o (τ + 1) w).alloc τ' x) (by omega)
theorem SeenM.below {o : Nat → Nat} {τ : Nat} {w w' : World} {b n : Nat} {T : List (Nat × Int)} (h : SeenM o τ w b n T) (hb : Below w.heap.size w w') : SeenM o τ w' b n T := h.step (Step.of_below o (τ + 1) hb) (by omega)
/-- A handle that was never told is not there. -/
theorem SeenM.look {o : Nat → Nat} {τ : Nat} {w : World} {b n : Nat} {T : List (Nat × Int)} (h : SeenM o τ w b n T) {s : Nat} {g : Int} (hw : (Lit.int .i64 (s : Int)).wf = true) (hg : (Lit.int .i64 g).wf = true) (hn : (s, g) ∉ T) :
    (Instr.lookup 63 (.map (some b)) (.agg #[.int .i64 (s : Int), .int .i64 g]) false).run Try.prog w = .ok (.bool false) w := by
  obtain ⟨kl, hkl⟩ := handle_key s g hw hg
  obtain ⟨D, hD, hh⟩ := h.own
  have hno : Maps.has D kl = false := by
    cases hc : Maps.has D kl with
    | false => rfl
    | true =>
      obtain ⟨q, hq, hk⟩ := hh kl hc
      have := Try.lawH.inj hkl hk
      simp only [Value.agg.injEq, Array.mk.injEq, List.cons.injEq, Value.int.injEq, true_and, and_true] at this
      have e1 : s = q.1 := by omega
      exact absurd (by rw [e1, this.2]; exact hq) hn
  obtain ⟨v, ps, hrun, hv⟩ := hD.lookup Try.lawH Try.underlying63 (Try.zeroBool w) (plainElem_bool Try.underlying4 false) hkl
  rw [Maps.atKey_of_not_has hno] at hv
  rw [plainElem_bool_inv hv] at hrun
  exact hrun
/-- It is told now. -/
theorem SeenM.told {o : Nat → Nat} {τ : Nat} {w : World} {b n : Nat} {T : List (Nat × Int)} (h : SeenM o τ w b n T) {s : Nat} {g : Int} (hw : (Lit.int .i64 (s : Int)).wf = true) (hg : (Lit.int .i64 g).wf = true) (hn : n < maxLen) :
    ∃ w', (Instr.mapUpdate 63 (.map (some b)) (.agg #[.int .i64 (s : Int), .int .i64 g]) (.bool true)).run Try.prog w = .ok () w' ∧ SeenM (tag o w.heap.size τ) τ w' b (n + 1) (T ++ [(s, g)]) ∧ w.grownBy w' (some b) := by
  obtain ⟨kl, hkl⟩ := handle_key s g hw hg
  have hlt := h.lt
  obtain ⟨⟨D, hD, hh⟩, hm⟩ := h
  obtain ⟨w', hrun, hD', hg'⟩ := hD.update Try.lawH Try.underlying63 hn hkl (plainElem_bool Try.underlying4 true)
  refine ⟨w', hrun, ⟨⟨_, hD', fun k' hk' => ?_⟩, by rw [tag_old hlt]; exact hm⟩, hg'⟩
  by_cases e : k' = kl
  · subst e; exact ⟨(s, g), by simp, hkl⟩
  · rw [Maps.has_put_other e] at hk'
    obtain ⟨q, hq, hk⟩ := hh k' hk'
    exact ⟨q, by simp [hq], hk⟩
end Go.Proofs.Ytenokhdfbomkkaa
