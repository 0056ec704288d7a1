/- The map of the sums of names: what it holds for rows. -/
import Derived.Test.YtbmofcggdpjcbaaLgRow
import Derived.Maps.OwnOps
import Derived.Maps.OwnSet
import Derived.Maps.Views
import Derived.MapViews
import Derived.StringKeys
import Derived.Sort.KeysCollected
namespace Go.Proofs.Ytbmofcggdpjcbaa
open Go.RowKit Go.Maps
set_option linter.unusedVariables false
set_option linter.unusedSimpArgs false

theorem Try.lawStr : Keyed Try.prog 9 := string_keyed Try.underlying9
theorem Try.zeroI64 (w : World) : (zeroValue 2).run Try.prog w = .ok (.int .i64 0) w := by kernel_rfl
/-- Block b is a map that holds, for each name under which something was earned in the rows l, its sum. -/
def MapE (w : World) (b : Nat) (l : List Rw) : Prop :=
  ∃ D : DataW Unit, w.ownsMap Try.prog 9 (plainElem Try.prog 2) b l.length D ∧ (∀ n, D.atKey (.string n) (.lit (.int .i64 0)) = .lit (.int .i64 (sumN l n))) ∧ (∀ n, Maps.has D (.string n) = true ↔ ∃ x ∈ l, x.name = n ∧ 0 < x.val)
section
variable {w w' : World} {b : Nat} {l : List Rw} {n : List UInt8}
theorem MapE.lt (h : MapE w b l) : b < w.heap.size := by
  obtain ⟨D, hD, _⟩ := h
  exact hD.lt
theorem MapE.same (h : MapE w b l) (hs : w'.heap[b]? = w.heap[b]?) : MapE w' b l := by
  obtain ⟨D, ⟨es, clock, hb, r⟩, h1, h2⟩ := h
  exact ⟨D, ⟨es, clock, hs.trans hb, r⟩, h1, h2⟩
theorem MapE.below (h : MapE w b l) (hb : Below w.heap.size w w') : MapE w' b l := h.same (hb.block b h.lt)
theorem MapE.made (w : World) : MapE (w.alloc (.map #[] 0)) w.heap.size [] :=
  ⟨.map [], World.ownsMap_made _ _ _ _, fun n => by simp [sumN, sumF, DataW.atKey], fun n => by simp [Maps.has]⟩
theorem sumN_snoc (l : List Rw) (x : Rw) (n : List UInt8) : sumN (l ++ [x]) n = sumN l n + eF (nameR n) x := sumF_snoc _ _
theorem key_bs (hn : n.length ≤ maxLen) : keyOf Try.prog 9 (.string (bs n)) = some (.string n) := by
  have := Go.WideMaps.keyOf_string_mk Try.underlying9 (s := bs n) (by rw [bs_size]; exact hn)
  rw [bs_data] at this
  exact this
theorem MapE.look (h : MapE w b l) (hn : n.length ≤ maxLen) {s : Int} (hs : sumN l n = s) : (Instr.lookup 51 (.map (some b)) (.string (bs n)) false).run Try.prog w = .ok (.int .i64 s) w := by
  obtain ⟨D, hD, h1, _⟩ := h
  obtain ⟨c, hrun, hat, _⟩ := hD.lookup_int Try.lawStr Try.underlying51 Try.underlying2 (Try.zeroI64 w) (key_bs hn)
  rw [h1 n] at hat
  injection hat with hat
  injection hat with _ hat
  rw [← hs, hat]; exact hrun
/-- A row under which nothing was earned changes nothing. -/
theorem MapE.skip (h : MapE w b l) (x : Rw) (hx : ¬ 0 < x.val) : MapE w b (l ++ [x]) := by
  obtain ⟨D, hD, h1, h2⟩ := h
  refine ⟨D, hD.mono (by simp), fun n => ?_, fun n => ?_⟩
  · rw [h1 n, sumN_snoc, show eF (nameR n) x = 0 from if_neg fun q => hx q.2, Int.add_zero]
  · rw [h2 n]
    constructor
    · rintro ⟨y, hy, r⟩; exact ⟨y, by simp [hy], r⟩
    · rintro ⟨y, hy, r⟩
      rcases List.mem_append.1 hy with hy | hy
      · exact ⟨y, hy, r⟩
      · simp at hy; subst hy; exact absurd r.2 hx
theorem MapE.add (h : MapE w b l) (x : Rw) (hx : 0 < x.val) (hn : x.name.length ≤ maxLen) (hl : l.length ≤ 1000) {s : Int} (hs : sumN l x.name + x.val = s) (hf : fitB s = true) :
    ∃ w', (Instr.mapUpdate 51 (.map (some b)) (.string (bs x.name)) (.int .i64 s)).run Try.prog w = .ok () w' ∧ MapE w' b (l ++ [x]) ∧ w.grownBy w' (some b) := by
  have hb := h.lt
  obtain ⟨D, hD, h1, h2⟩ := h
  have hw : (Lit.int .i64 s).wf = true := by
    obtain ⟨a0, a1⟩ := fitB_iff.1 hf
    have : IntKind.i64.min ≤ s ∧ s ≤ 9223372036854775807 := ⟨a0, a1⟩
    simpa [Lit.wf] using this
  have im := hD.isMap
  obtain ⟨w', hrun, hD', hg⟩ := hD.update Try.lawStr Try.underlying51 (by unfold maxLen; omega) (key_bs hn) (plainElem_int Try.underlying2 hw)
  refine ⟨w', hrun, ⟨_, by rw [List.length_append]; exact hD', fun n => ?_, fun n => ?_⟩, hg⟩
  · rw [sumN_snoc]
    by_cases e : n = x.name
    · subst e
      rw [Maps.atKey_put_same im (by simp [WideAt.IsKeyLit]), ← hs, show eF (nameR x.name) x = x.val from if_pos ⟨by simp [nameR], hx⟩]
    · rw [Maps.atKey_put_other (by intro q; injection q with q; exact e q), h1 n, show eF (nameR n) x = 0 from if_neg fun q => e (of_decide_eq_true q.1).symm, Int.add_zero]
  · by_cases e : n = x.name
    · subst e
      rw [Maps.has_put_same im (by simp [WideAt.IsKeyLit])]
      exact ⟨fun _ => ⟨x, by simp, rfl, hx⟩, fun _ => rfl⟩
    · rw [Maps.has_put_other (by intro q; injection q with q; exact e q), h2 n]
      constructor
      · rintro ⟨y, hy, r⟩; exact ⟨y, by simp [hy], r⟩
      · rintro ⟨y, hy, r⟩
        rcases List.mem_append.1 hy with hy | hy
        · exact ⟨y, hy, r⟩
        · simp at hy; subst hy; exact absurd r.1.symm e
end
end Go.Proofs.Ytbmofcggdpjcbaa
