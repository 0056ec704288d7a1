/- PileSorts: the map of the IDs that have come out. -/
import Derived.Test.YtgbmpnoknmpmcaaPlLawM
import Derived.Test.YtgbmpnoknmpmcaaReads
import Derived.Maps.OwnOps
import Derived.Maps.OwnSet
import Derived.Maps.Views
import Derived.MapViews
namespace Go.Proofs.Ytgbmpnoknmpmcaa
open Go.RowKit Go.Maps
set_option linter.unusedVariables false

theorem Try.lawInt : Keyed Try.prog 3 := int_keyed Try.underlying3
theorem Try.zeroBool (w : World) : (zeroValue 4).run Try.prog w = .ok (.bool false) w := by kernel_rfl
/-- Block b is a map whose keys are all among T. -/
structure SeenI (o : Nat → Nat) (τ : Nat) (w : World) (b n : Nat) (T : List Int) : Prop where
  own : ∃ D : DataW Unit, w.ownsMap Try.prog 3 (plainElem Try.prog 4) b n D ∧ ∀ kl, Maps.has D kl = true → ∃ q ∈ T, kl = .int .i64 q
  mine : o b = τ
theorem own_map_same {D : DataW Unit} {w w' : World} {k b n : Nat} {R : Value → Option (DataW Unit × List MemPlace)} (h : w.ownsMap Try.prog k R b n D) (hs : w'.heap[b]? = w.heap[b]?) : w'.ownsMap Try.prog k R b n D := by
  obtain ⟨es, clock, hb, r⟩ := h
  exact ⟨es, clock, hs.trans hb, r⟩
section
variable {o o' : Nat → Nat} {τ σ : Nat} {w w' : World} {b n : Nat} {T : List Int}
theorem SeenI.lt (h : SeenI o τ w b n T) : b < w.heap.size := by
  obtain ⟨D, hD, _⟩ := h.own
  exact hD.lt
theorem SeenI.step (h : SeenI o τ w b n T) (st : Step o o' σ w w') (hne : τ ≠ σ) : SeenI o' τ w' b n T := by
  have hl := h.lt
  obtain ⟨⟨D, hD, hh⟩, hm⟩ := h
  exact ⟨⟨D, own_map_same hD (st.block b hl (by rw [hm]; exact hne)), hh⟩, by rw [st.old b hl]; exact hm⟩
theorem SeenI.made (o : Nat → Nat) (τ : Nat) (w : World) : SeenI (tag o w.heap.size τ) τ (w.alloc (.map #[] 0)) w.heap.size 0 [] :=
  ⟨⟨.map [], World.ownsMap_made _ _ _ _, fun kl h => by simp [Maps.has] at h⟩, tag_new (Nat.le_refl _)⟩
theorem plainElem_bool_inv {v : Value} {x : Bool} {ps : List MemPlace} (h : plainElem (H := Unit) Try.prog 4 v = some (.lit (.bool x), ps)) : v = .bool x := by
  unfold plainElem at h
  rw [Try.underlying4] at h
  cases v <;> simp at h
  rw [h.1]
theorem SeenI.alloc (h : SeenI o τ w b n T) (x : Obj) (τ' : Nat) : SeenI (tag o w.heap.size τ') τ (w.alloc x) b n T := h.step ((Step.refl o (τ + 1) w).alloc τ' x) (by omega)
theorem SeenI.drewN (h : SeenI o τ w b n T) (k : Nat) : SeenI o τ (w.drewN k) b n T := h.step ((Step.refl o (τ + 1) w).drewN k) (by omega)
theorem SeenI.look (h : SeenI o τ w b n T) {s : Int} (hw : (Lit.int .i64 s).wf = true) (hn : s ∉ T) :
    (Instr.lookup 52 (.map (some b)) (.int .i64 s) false).run Try.prog w = .ok (.bool false) w := by
  have hkl := keyOf_int_mk Try.underlying3 hw
  obtain ⟨D, hD, hh⟩ := h.own
  have hno : Maps.has D (.int .i64 s) = false := by
    cases hc : Maps.has D (.int .i64 s) with
    | false => rfl
    | true =>
      obtain ⟨q, hq, hk⟩ := hh _ hc
      injection hk with _ hk
      exact absurd (hk ▸ hq) hn
  obtain ⟨v, ps, hrun, hv⟩ := hD.lookup Try.lawInt Try.underlying52 (Try.zeroBool w) (plainElem_bool Try.underlying4 false) hkl
  rw [Maps.atKey_of_not_has hno] at hv
  rw [plainElem_bool_inv hv] at hrun
  exact hrun
theorem SeenI.told (h : SeenI o τ w b n T) {s : Int} (hw : (Lit.int .i64 s).wf = true) (hn : n < maxLen) :
    ∃ w', (Instr.mapUpdate 52 (.map (some b)) (.int .i64 s) (.bool true)).run Try.prog w = .ok () w' ∧ SeenI (tag o w.heap.size τ) τ w' b (n + 1) (T ++ [s]) ∧ w.grownBy w' (some b) := by
  have hkl := keyOf_int_mk Try.underlying3 hw
  have hlt := h.lt
  obtain ⟨⟨D, hD, hh⟩, hm⟩ := h
  obtain ⟨w', hrun, hD', hg'⟩ := hD.update Try.lawInt Try.underlying52 hn hkl (plainElem_bool Try.underlying4 true)
  refine ⟨w', hrun, ⟨⟨_, hD', fun k' hk' => ?_⟩, by rw [tag_old hlt]; exact hm⟩, hg'⟩
  by_cases e : k' = .int .i64 s
  · subst e; exact ⟨s, by simp, rfl⟩
  · rw [Maps.has_put_other e] at hk'
    obtain ⟨q, hq, hk⟩ := hh k' hk'
    exact ⟨q, by simp [hq], hk⟩
end
/-- What has come out before place j. -/
def lastI (l : List It) (j : Nat) : It := if j = 0 then (0, 0, 0) else l.getD (j - 1) (0, 0, 0)
theorem lastI_next {l : List It} {j : Nat} {x : It} (hx : l[j]? = some x) : lastI l (j + 1) = x := by
  unfold lastI; rw [if_neg (by omega)]; simp [List.getD, hx]
theorem last_lt {l : List It} (hs : SortedI l) {j : Nat} {x : It} (hx : l[j]? = some x) (hj : 0 < j) : ltI (lastI l j) x = true := by
  obtain ⟨hl, he⟩ := List.getElem?_eq_some_iff.1 hx
  have := List.pairwise_iff_getElem.1 hs (j - 1) j (by omega) hl (by omega)
  unfold lastI
  rw [if_neg (by omega), List.getD, List.getElem?_eq_getElem (by omega), ← he]
  exact this
theorem last_mem {l : List It} {j : Nat} (hj : 0 < j) (hl : j ≤ l.length) : lastI l j ∈ l := by
  unfold lastI
  rw [if_neg (by omega), List.getD, List.getElem?_eq_getElem (by omega)]
  exact List.getElem_mem _
/-- It has not come out before. -/
theorem not_seen {l : List It} (h : (l.map (·.1)).Nodup) {j : Nat} {x : It} (hx : l[j]? = some x) : x.1 ∉ (l.take j).map (·.1) := by
  intro hm
  obtain ⟨z, hz, he⟩ := List.mem_map.1 hm
  obtain ⟨i, hi, hzi⟩ := List.mem_iff_getElem.1 hz
  rw [List.getElem_take] at hzi
  rw [List.length_take] at hi
  obtain ⟨hl, hxe⟩ := List.getElem?_eq_some_iff.1 hx
  have := List.pairwise_iff_getElem.1 h i j (by simp; omega) (by simpa using hl) (by omega)
  rw [List.getElem_map, List.getElem_map, hzi, hxe] at this
  exact this he
theorem seen_next {l : List It} {j : Nat} {x : It} (hx : l[j]? = some x) : (l.take j).map (·.1) ++ [x.1] = (l.take (j + 1)).map (·.1) := by
  rw [List.take_add_one, hx]; simp
theorem drop_next {l : List It} {j : Nat} {x : It} (hx : l[j]? = some x) : l.drop j = x :: l.drop (j + 1) := by
  obtain ⟨hl, he⟩ := List.getElem?_eq_some_iff.1 hx
  rw [List.drop_eq_getElem_cons hl, he]
end Go.Proofs.Ytgbmpnoknmpmcaa
