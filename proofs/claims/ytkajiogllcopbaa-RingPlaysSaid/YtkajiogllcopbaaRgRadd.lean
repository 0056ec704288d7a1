/- The document's ring: Add. -/
import Derived.Test.YtkajiogllcopbaaRgRef
namespace Go.Proofs.Ytkajiogllcopbaa
open Go.RowKit
set_option linter.unusedVariables false
set_option linter.unusedSimpArgs false

def cellsB (l : List Bool) : List Value := l.map Value.bool
theorem cellsB_len (l : List Bool) : (cellsB l).length = l.length := by simp [cellsB]
theorem cellsB_get {l : List Bool} {k : Nat} {x : Bool} (h : l[k]? = some x) : (cellsB l)[k]? = some (.bool x) := by simp [cellsB, h]
theorem cellsB_ones (l : List Bool) : ∀ u ∈ cellsB l, u.oneCell' = true := by
  intro u hu
  obtain ⟨x, _, rfl⟩ := List.mem_map.1 hu
  rfl
theorem one_bool (x : Bool) : ∀ u ∈ [Value.bool x], u.oneCell' = true := cellsB_ones [x]
theorem news_one (w : World) (x : Value) (e : TypeId) : ∀ j u, ([x] : List Value)[j]? = some u → (w.alloc (.cells #[x] e)).cell? ((⟨w.heap.size, 0, none⟩ : Addr).add j) = some u := cell_one_new w x e
section
variable {o : Nat → Nat} {σ : Nat} {w : World} {b size : Nat} {A : Option Addr} {cap : Nat} {L : List Bool}
theorem rfadd_shut {w2 : World} {g n c2 : Nat} {L2 : List Bool} (h : Rf o σ w b size A cap L) (hb : Below w.heap.size w w2) (ho : w2.ownsRow w.heap.size 4 1 (.slice (some ⟨g, 0, none⟩) n c2) n (cellsB L2)) (hn : L2.length = n) (k : Nat) (hk : k ≤ n) :
    Step o (tag o w.heap.size σ) σ w (w2.setCell ⟨b, 1, none⟩ (.slice (some ⟨g, k, none⟩) (n - k) (c2 - k))) ∧ Rf (tag o w.heap.size σ) σ (w2.setCell ⟨b, 1, none⟩ (.slice (some ⟨g, k, none⟩) (n - k) (c2 - k))) b size (some ⟨g, k, none⟩) (c2 - k) (L2.drop k) := by
  have hbl := h.box.lt
  have st : Step o (tag o w.heap.size σ) σ w w2 := ⟨hb.os, hb.tape, hb.output, hb.size, fun i hi => tag_old hi, fun i hi _ => hb.block i hi⟩
  have X : Blk (tag o w.heap.size σ) σ w2 b #[.int .i64 (size : Int), .slice A L.length cap] 36 := ⟨(hb.block b hbl).trans h.box.at_, by rw [tag_old hbl]; exact h.box.mine⟩
  have hg := ho.lt g rfl
  have hcaps : n ≤ c2 ∧ c2 ≤ 9223372036854775807 := by
    rcases ho.2 with ⟨hv, _⟩ | ⟨g', cap', cur, hv, _, _, h1, h2, _⟩
    · cases hv
    · injection hv with h4 h5 h6; unfold maxLen at h2; omega
  have hne : g ≠ b := by omega
  refine ⟨st.setCell (.inr X.mine) _, ?_, by rw [List.length_drop]; omega, by omega, .inr ⟨g, k, rfl, by simpa using hg.2, tag_new hg.1, fun j x hx => ?_⟩⟩
  · have := X.set 1 (.slice (some ⟨g, k, none⟩) (n - k) (c2 - k))
    rw [List.length_drop, hn]
    simpa using this
  · rw [List.getElem?_drop] at hx
    have hjl := (List.getElem?_eq_some_iff.1 hx).1
    rw [cell_same (w := w2) (heap_setCell_other _ _ _ _ hne), ho.cellAt (k + j) (by omega)]
    exact cellsB_get hx
set_option maxHeartbeats 6400000 in
theorem rfadd (x : Bool) (L' : List Bool) (h : Rf o σ w b size A cap L) (hl : L.length ≤ size) (h0 : 1 ≤ size) (hs : size ≤ 64) (hL : (L ++ [x]).drop (L.length + 1 - size) = L') :
    Calls Try.prog 14 #[.pointer (some ⟨b, 0, none⟩), .bool x] w fun e w' => e = .returned (.tuple #[]) ∧ ∃ o' A' c', Step o o' σ w w' ∧ Rf o' σ w' b size A' c' L' := by
  obtain ⟨i0, hi0, hz0, hz1, hz2⟩ := info_parts Try.infoBool
  have hlc := h.lc
  have hcm := h.cm
  have hbl := h.box.lt
  have hne : b ≠ w.heap.size := by omega
  have ho0 : (w.alloc (.cells #[] 4)).ownsRow w.heap.size 4 1 (.slice (some ⟨w.heap.size, 0, none⟩) 0 0) 0 [] := World.ownsRow_lit w #[] 0 (Nat.le_refl _) (by unfold maxLen; omega) rfl
  have hb0 : Below w.heap.size w (w.alloc (.cells #[] 4)) := (Below.refl _ _).alloc (Nat.le_refl _) _
  have h1 := h.below hb0
  have c1 : (w.alloc (.cells #[] 4)).cell? ⟨b, 1, none⟩ = some (.slice A L.length cap) := h1.c1
  have c1' : w.cell? ⟨b, 1, none⟩ = some (.slice A L.length cap) := h.c1
  obtain ⟨n, hn⟩ : ∃ n : Nat, L.length = n := ⟨_, rfl⟩
  have hcl := cellsB_len L
  rw [hn] at hlc hl c1 c1' hL hcl
  have H := Lib.hid (And.intro h (And.intro h1 (And.intro hn (And.intro hcl hL))))
  have B0 := Lib.hid (And.intro ho0 hb0)
  clear h ho0 hb0 hn hcl hL
  go_enter Try.func14, Try.ntmps14
  rcases h1.sl with ⟨hA, hnil, hcap⟩ | ⟨g, off, hA, hg, hm, hc⟩
  · subst hA hcap
    obtain rfl : n = 0 := by have := H.out.2.2.1; rw [hnil] at this; exact this.symm
    clear h1
    have nw := news_one (w.alloc (.cells #[] 4)) (.bool x) 4
    rw [World.size_alloc] at nw
    go_wp2_with (at_builtin; first
      | refine wpList_append_own_none rfl (.tmp 5) (.tmp 9) 33 rfl w.heap.size 4 i0 1 Try.underlying33 hi0 _ 0 [] rfl B0.out.1 rfl ?_
      | refine wpList_append_own_at _ rfl (.tmp 10) (.tmp 12) 33 rfl w.heap.size 4 i0 (.bool false) 1 1 Try.underlying33 hi0 hz0 hz1 hz2 rfl (by decide) _ 0 [] rfl (B0.out.1.alloc _) ⟨w.heap.size + 1, 0, none⟩ 1 1 [.bool x] rfl rfl nw (one_bool x) (by unfold maxLen; omega) (by omega) (by simp; omega) ?_)
    intro v2 w2 hown2 hgrow2 _ _
    have hb2 : Below w.heap.size w w2 := (B0.out.2.alloc (by simp) _).grown hgrow2 (by simp; omega) (fun k hk => by cases hk; exact Nat.le_refl _)
    have hown2' : w2.ownsRow w.heap.size 4 1 v2 (0 + 1) (cellsB (L ++ [x])) := by rw [hnil]; simpa [cellsB] using hown2
    clear hown2 hgrow2 nw hnil
    obtain ⟨g2, c2, rfl, hc2, hc3, hg2⟩ : ∃ g2 c2, v2 = .slice (some ⟨g2, 0, none⟩) (0 + 1) c2 ∧ 0 + 1 ≤ c2 ∧ c2 ≤ 9223372036854775807 ∧ w.heap.size ≤ g2 := by
      rcases hown2'.2 with ⟨_, h0⟩ | ⟨g', cap', cur, hv, hg', _, h1, h2, _⟩
      · omega
      · exact ⟨g', cap', hv, h1, by unfold maxLen at h2; omega, hg'⟩
    have hln : (L ++ [x]).length = 0 + 1 := by rw [List.length_append, H.out.2.2.1]; rfl
    have Z0 := Lib.hid (rfadd_shut H.out.1 hb2 hown2' hln 0 (by omega))
    have Z1 := Lib.hid (rfadd_shut H.out.1 hb2 hown2' hln 1 (by omega))
    have X2 := H.out.1.below hb2
    have d0 : w2.cell? ⟨b, 0, none⟩ = some (.int .i64 (size : Int)) := X2.c0
    have d1 : w2.cell? ⟨b, 1, none⟩ = some (.slice _ _ _) := X2.c1
    have f1 : w2.frozen? ⟨b, 1, none⟩ = false := X2.box.frozen 1
    clear hb2 hown2' hln X2
    by_cases hbig : ((0 + 1 : Nat) : Int) > (size : Int)
    · exfalso; omega
    · have hbig' : decide (((0 + 1 : Nat) : Int) > (size : Int)) = false := decide_eq_false hbig
      have hk : 0 + 1 - size = 0 := by omega
      replace hk := Lib.hid hk
      go_wp2
      go_end0
      obtain ⟨s, r⟩ := Z0.out
      have hL := H.out.2.2.2.2
      rw [hk.out] at hL
      rw [hL] at r
      simp only [Nat.sub_zero, Nat.add_sub_cancel, Nat.zero_add] at s r
      first | exact ⟨rfl, _, _, _, s, r⟩ | exact ⟨rfl, _, s, _, _, r⟩
  · subst hA
    have hnw : ∀ j u, (cellsB L)[j]? = some u → (w.alloc (.cells #[] 4)).cell? ((⟨g, off, none⟩ : Addr).add j) = some u := fun j u hj => by
      rw [addr_add_plain]
      simp only [cellsB, List.getElem?_map] at hj
      cases hq : L[j]? with
      | none => rw [hq] at hj; cases hj
      | some y => rw [hq] at hj; cases hj; exact hc j y hq
    replace hnw := Lib.hid hnw
    clear h1 hc
    go_wp2_with (at_builtin; refine wpList_append_own_at _ rfl (.tmp 5) (.tmp 9) 33 rfl w.heap.size 4 i0 (.bool false) 1 1 Try.underlying33 hi0 hz0 hz1 hz2 rfl (by decide) _ 0 [] rfl B0.out.1 ⟨g, off, none⟩ n cap (cellsB L) rfl (by rw [H.out.2.2.2.1]; omega) hnw.out (cellsB_ones L) (by unfold maxLen; omega) (by omega) (by simp) ?_)
    intro v1 w1 hown1 hgrow1 _ _
    have hb1 : Below w.heap.size w w1 := B0.out.2.grown hgrow1 (by simp) (fun k hk => by cases hk; exact Nat.le_refl _)
    have hown1' : w1.ownsRow w.heap.size 4 1 v1 n (cellsB L) := by simpa using hown1
    have K1 := Lib.hid (And.intro hb1 hown1')
    have hsz := hb1.size
    clear hb1 hown1 hown1' hgrow1 c1 c1' hg hm hnw
    go_wp2_with (at_builtin; refine wpList_append_own_at _ rfl (.tmp 10) (.tmp 12) 33 rfl w.heap.size 4 i0 (.bool false) 1 1 Try.underlying33 hi0 hz0 hz1 hz2 rfl (by decide) _ n (cellsB L) rfl (K1.out.2.alloc _) ⟨w1.heap.size, 0, none⟩ 1 1 [.bool x] rfl rfl (news_one _ _ _) (one_bool x) (by unfold maxLen; omega) (by omega) (by simp; omega) ?_)
    intro v2 w2 hown2 hgrow2 _ _
    have hb2 : Below w.heap.size w w2 := (K1.out.1.alloc hsz _).grown hgrow2 (by simp; omega) (fun k hk => (K1.out.2.lt k hk).1)
    have hown2' : w2.ownsRow w.heap.size 4 1 v2 (n + 1) (cellsB (L ++ [x])) := by simpa [cellsB] using hown2
    clear hown2 hgrow2 K1
    obtain ⟨g2, c2, rfl, hc2, hc3, hg2⟩ : ∃ g2 c2, v2 = .slice (some ⟨g2, 0, none⟩) (n + 1) c2 ∧ n + 1 ≤ c2 ∧ c2 ≤ 9223372036854775807 ∧ w.heap.size ≤ g2 := by
      rcases hown2'.2 with ⟨_, h0⟩ | ⟨g', cap', cur, hv, hg', _, h1, h2, _⟩
      · omega
      · exact ⟨g', cap', hv, h1, by unfold maxLen at h2; omega, hg'⟩
    have hln : (L ++ [x]).length = n + 1 := by rw [List.length_append, H.out.2.2.1]; rfl
    have Z0 := Lib.hid (rfadd_shut H.out.1 hb2 hown2' hln 0 (by omega))
    have Z1 := Lib.hid (rfadd_shut H.out.1 hb2 hown2' hln 1 (by omega))
    have X2 := H.out.1.below hb2
    have d0 : w2.cell? ⟨b, 0, none⟩ = some (.int .i64 (size : Int)) := X2.c0
    have d1 : w2.cell? ⟨b, 1, none⟩ = some (.slice _ _ _) := X2.c1
    have f1 : w2.frozen? ⟨b, 1, none⟩ = false := X2.box.frozen 1
    clear hb2 hown2' hln X2
    by_cases hbig : ((n + 1 : Nat) : Int) > (size : Int)
    · skip
      have y1 : 2 ≤ c2 := by omega
      have y2 : (1 : Int) ≤ ((n + 1 : Nat) : Int) := by omega
      have y3 : ¬ c2 = 1 := by omega
      have hk : n + 1 - size = 1 := by omega
      replace hk := Lib.hid hk
      go_wp2
      go_end0
      obtain ⟨s, r⟩ := Z1.out
      have hL := H.out.2.2.2.2
      rw [hk.out] at hL
      rw [hL] at r
      simp only [Nat.sub_zero, Nat.add_sub_cancel, Nat.zero_add] at s r
      first | exact ⟨rfl, _, _, _, s, r⟩ | exact ⟨rfl, _, s, _, _, r⟩
    · have hbig' : decide (((n + 1 : Nat) : Int) > (size : Int)) = false := decide_eq_false hbig
      have hk : n + 1 - size = 0 := by omega
      replace hk := Lib.hid hk
      go_wp2
      go_end0
      obtain ⟨s, r⟩ := Z0.out
      have hL := H.out.2.2.2.2
      rw [hk.out] at hL
      rw [hL] at r
      simp only [Nat.sub_zero, Nat.add_sub_cancel, Nat.zero_add] at s r
      first | exact ⟨rfl, _, _, _, s, r⟩ | exact ⟨rfl, _, s, _, _, r⟩
end
end Go.Proofs.Ytkajiogllcopbaa
