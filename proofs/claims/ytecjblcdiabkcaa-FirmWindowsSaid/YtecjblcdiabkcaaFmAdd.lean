/- The document's monitor: Add. -/
import Derived.Test.YtecjblcdiabkcaaFmRow
namespace Go.Proofs.Ytecjblcdiabkcaa
open Go.RowKit
set_option linter.unusedVariables false
set_option linter.unusedSimpArgs false

theorem newsB (w : World) (x : Bool) (e : TypeId) (B : Nat) (hB : w.heap.size = B) : ∀ j u, ([Value.bool x] : List Value)[j]? = some u → (w.alloc (.cells #[.bool x] e)).cell? ((⟨B, 0, none⟩ : Addr).add j) = some u := by
  intro j u hj
  subst hB
  rw [Addr.add_lit]
  match j, hj with
  | 0, hj => simp at hj; subst hj; simp
section
variable {o : Nat → Nat} {σ : Nat} {w : World} {b m k : Nat} {L : List Bool} {v : Value}
theorem rmadd_shut {w2 : World} {v2 : Value} {n : Nat} {L2 : List Bool} (h : Rm o σ w b m k v L) (hb : Below w.heap.size w w2) (ho : w2.ownsRow w.heap.size 4 1 v2 n (cellsL L2)) (hn : n = L2.length) :
    Step o (tag o w.heap.size σ) σ w (w2.setCell ⟨b, 2, none⟩ v2) ∧ Rm (tag o w.heap.size σ) σ (w2.setCell ⟨b, 2, none⟩ v2) b m k v2 L2 := by
  subst hn
  have hbl := h.box.lt
  have st : Step o (tag o w.heap.size σ) σ w w2 := ⟨hb.os, hb.tape, hb.output, hb.size, fun i hi => tag_old hi, fun i hi _ => hb.block i hi⟩
  have X : Blk (tag o w.heap.size σ) σ w2 b #[.int .i64 (m : Int), .int .i64 (k : Int), v] 34 := ⟨(hb.block b hbl).trans h.box.at_, by rw [tag_old hbl]; exact h.box.mine⟩
  have R : Row (tag o w.heap.size σ) σ w2 4 1 v2 L2.length (cellsL L2) := Row.fresh σ ho o
  refine ⟨st.setCell (.inr X.mine) _, ?_, R.other (R.ne_blk X.at_ (by decide)) _⟩
  have := X.set 2 v2
  simpa using this
set_option maxHeartbeats 6400000 in
theorem rmadd (x r : Bool) (L' : List Bool) (h : Rm o σ w b m k v L) (hl : L.length ≤ 900) (hm : m ≤ 64) (hk1 : 1 ≤ k) (hk : k ≤ 64) (hL : L ++ [x] = L') (hr : addB m k L' = r) :
    Calls Try.prog 12 #[.pointer (some ⟨b, 0, none⟩), .bool x] w fun e w' => e = .returned (.bool r) ∧ ∃ o' v', Step o o' σ w w' ∧ Rm o' σ w' b m k v' L' := by
  obtain ⟨i0, hi0, hz0, hz1, hz2⟩ := info_parts Try.infoBoolM
  obtain ⟨A, cap, rfl⟩ := h.row.any
  obtain ⟨hlc, hcap⟩ := h.row.capsM
  have hbl := h.box.lt
  have ho0 : (w.alloc (.cells #[] 4)).ownsRow w.heap.size 4 1 (.slice (some ⟨w.heap.size, 0, none⟩) 0 0) 0 [] := World.ownsRow_lit w #[] 0 (Nat.le_refl _) (by unfold maxLen; omega) rfl
  have hb0 : Below w.heap.size w (w.alloc (.cells #[] 4)) := (Below.refl _ _).alloc (Nat.le_refl _) _
  have c2 : (w.alloc (.cells #[] 4)).cell? ⟨b, 2, none⟩ = some (.slice A L.length cap) := (h.below hb0).c2
  obtain ⟨n, hn⟩ : ∃ n : Nat, L.length = n := ⟨_, rfl⟩
  have hln : L'.length = n + 1 := by rw [← hL, List.length_append, hn]; rfl
  have hcl := cellsL_len L
  have hcr : cellsL L' = cellsL L ++ [.bool x] := by rw [← hL, cellsL_app]; rfl
  have hrow := h.row
  rw [hn] at c2 hlc hl hcl hrow
  have H := Lib.hid (And.intro h (And.intro hn (And.intro hcl (And.intro hcr (And.intro hln hr)))))
  have B0 := Lib.hid (And.intro ho0 hb0)
  clear h ho0 hb0 hn hcl hcr hln hL hr
  go_enter Try.func12, Try.ntmps12
  rcases hrow.own.2 with ⟨hv, hnil⟩ | ⟨g, cap', cur, hv, _, _, _, _, _⟩
  · obtain ⟨rfl, rfl, rfl⟩ : A = none ∧ n = 0 ∧ cap = 0 := by injection hv with a1 a2 a3; exact ⟨a1, a2, a3⟩
    obtain rfl : L = [] := List.eq_nil_of_length_eq_zero H.out.2.1
    clear hrow hv
    go_wp2_with (at_builtin; first
      | refine wpList_append_own_none rfl (.tmp 6) (.tmp 10) 31 rfl w.heap.size 4 i0 1 Try.underlying31 hi0 _ 0 [] rfl B0.out.1 rfl ?_
      | refine wpList_append_own_at _ rfl (.tmp 11) (.tmp 13) 31 rfl w.heap.size 4 i0 (.bool false) 1 1 Try.underlying31 hi0 hz0 hz1 hz2 rfl (by decide) _ 0 [] rfl (B0.out.1.alloc _) ⟨w.heap.size + 1, 0, none⟩ 1 1 [.bool x] rfl rfl (newsB _ _ _ _ (by simp)) (cellsL_ones [x]) (by unfold maxLen; omega) (by omega) (by simp; omega) ?_)
    intro v2 w2 hown2 hgrow2 _ _
    have hb2 : Below w.heap.size w w2 := (B0.out.2.alloc (by simp) _).grown hgrow2 (by simp; omega) (fun k hk => by cases hk; exact Nat.le_refl _)
    have hown2' : w2.ownsRow w.heap.size 4 1 v2 (0 + 1) (cellsL L') := by rw [H.out.2.2.2.1]; simpa [cellsL] using hown2
    clear hown2 hgrow2
    obtain ⟨N, hN⟩ : ∃ N : Nat, 0 + 1 = N := ⟨_, rfl⟩
    rw [hN] at hown2'
    obtain ⟨g2, c3, rfl, hc3, hc4⟩ : ∃ g2 c3, v2 = .slice (some ⟨g2, 0, none⟩) N c3 ∧ N ≤ c3 ∧ c3 ≤ 9223372036854775807 := by
      rcases hown2'.2 with ⟨_, h0⟩ | ⟨g', cap', cur, hv, hg', _, h1, h2, _⟩
      · omega
      · exact ⟨g', cap', hv, h1, by unfold maxLen at h2; omega⟩
    have hLN : L'.length = N := by rw [H.out.2.2.2.2.1, hN]
    have SH := rmadd_shut H.out.1 hb2 hown2' hLN.symm
    have X2 := H.out.1.below hb2
    have f2 : w2.frozen? ⟨b, 2, none⟩ = false := X2.box.frozen 2
    have d2 := X2.c2
    obtain ⟨E, hE⟩ : ∃ E : Nat, E + 1 = N := ⟨N - 1, by omega⟩
    have hN9 : N ≤ 901 := by omega
    have hr := H.out.2.2.2.2.2
    obtain ⟨q, hq⟩ : ∃ q, mc k N L' = q := ⟨_, rfl⟩
    rw [addB, hLN, hq] at hr
    have hq9 : q ≤ k := by rw [← hq]; exact mc_le _ _ _
    clear hb2 hown2' X2 H
    replace SH := Lib.hid (And.intro SH (And.intro hLN (And.intro hq hN)))
    clear hLN hq hN
    go_wp2
    obtain ⟨⟨st, h3⟩, hLN, hq, hN⟩ := SH.out
    clear SH d2 f2
    generalize w2.setCell ⟨b, 2, none⟩ (.slice (some ⟨g2, 0, none⟩) N c3) = w3 at *
    have e0 := h3.c0
    have e1 := h3.c1
    have e2 := h3.c2
    have K := Lib.hid (And.intro st h3)
    by_cases hs : N < k
    · have z1 : (N : Int) < (k : Int) := by omega
      obtain rfl : true = r := by rw [← hr]; exact (decide_eq_true (.inl hs)).symm
      clear st h3 hr hq hLN hN hs
      go_quiet (fail)
      go_wp2
      go_ret
      first | exact ⟨rfl, _, _, K.out.1.drewN _, K.out.2.drewN _⟩ | exact ⟨rfl, _, K.out.1.drewN _, _, K.out.2.drewN _⟩
    · have z1 : decide ((N : Int) < (k : Int)) = false := decide_eq_false (by omega)
      have z2 : IntKind.i64.wrap ((N : Int) - 1) = (E : Int) := by rw [IntKind.wrap_i64]; omega
      have C := Lib.hid (fun j => rmet E q (h3.drewN j) (by omega) (by omega) (by omega) (by rw [hE]; exact hq))
      have z3 : decide ((q : Int) ≥ (m : Int)) = r := by rw [← hr]; exact decide_eq_decide.2 (by omega)
      have z4 : decide (N < k) = false := decide_eq_false hs
      have z5 : decide (m ≤ q) = r := by rw [← hr]; exact decide_eq_decide.2 (by omega)
      clear st h3 hr hq hLN hN hs
      go_quiet (first | (go_at_call 24; refine Calls.quiet_of_same (C.out _)))
      go_wp2
      go_ret
      first | exact ⟨rfl, _, _, K.out.1.drewN _, K.out.2.drewN _⟩ | exact ⟨rfl, _, K.out.1.drewN _, _, K.out.2.drewN _⟩
  · obtain ⟨rfl, rfl⟩ : A = some ⟨g, 0, none⟩ ∧ cap = cap' := by injection hv with a1 a2 a3; exact ⟨a1, a3⟩
    have hnw : ∀ j u, (cellsL L)[j]? = some u → (w.alloc (.cells #[] 4)).cell? ((⟨g, 0, none⟩ : Addr).add j) = some u := fun j u hj => by
      rw [Addr.add_lit, Nat.zero_add]
      have hjl := (List.getElem?_eq_some_iff.1 hj).1
      rw [H.out.2.2.1] at hjl
      exact Lib.cell?_alloc_some _ (by rw [hrow.cellAt j (by omega)]; exact hj)
    replace hnw := Lib.hid hnw
    clear hrow hv
    go_wp2_with (at_builtin; refine wpList_append_own_at _ rfl (.tmp 6) (.tmp 10) 31 rfl w.heap.size 4 i0 (.bool false) 1 1 Try.underlying31 hi0 hz0 hz1 hz2 rfl (by decide) _ 0 [] rfl B0.out.1 ⟨g, 0, none⟩ n cap (cellsL L) rfl (by rw [H.out.2.2.1]; omega) hnw.out (cellsL_ones L) (by unfold maxLen; omega) (by omega) (by simp) ?_)
    intro v1 w1 hown1 hgrow1 _ _
    have hb1 : Below w.heap.size w w1 := B0.out.2.grown hgrow1 (by simp) (fun k hk => by cases hk; exact Nat.le_refl _)
    have hown1' : w1.ownsRow w.heap.size 4 1 v1 n (cellsL L) := by simpa using hown1
    have K1 := Lib.hid (And.intro hb1 hown1')
    have hsz := hb1.size
    clear hb1 hown1 hown1' hgrow1 c2 hnw
    go_wp2_with (at_builtin; refine wpList_append_own_at _ rfl (.tmp 11) (.tmp 13) 31 rfl w.heap.size 4 i0 (.bool false) 1 1 Try.underlying31 hi0 hz0 hz1 hz2 rfl (by decide) _ n (cellsL L) rfl (K1.out.2.alloc _) ⟨w1.heap.size, 0, none⟩ 1 1 [.bool x] rfl rfl (newsB _ _ _ _ rfl) (cellsL_ones [x]) (by unfold maxLen; omega) (by omega) (by simp; omega) ?_)
    intro v2 w2 hown2 hgrow2 _ _
    have hb2 : Below w.heap.size w w2 := (K1.out.1.alloc hsz _).grown hgrow2 (by simp; omega) (fun k hk => (K1.out.2.lt k hk).1)
    have hown2' : w2.ownsRow w.heap.size 4 1 v2 (n + 1) (cellsL L') := by rw [H.out.2.2.2.1]; simpa using hown2
    clear hown2 hgrow2 K1
    obtain ⟨N, hN⟩ : ∃ N : Nat, n + 1 = N := ⟨_, rfl⟩
    rw [hN] at hown2'
    obtain ⟨g2, c3, rfl, hc3, hc4⟩ : ∃ g2 c3, v2 = .slice (some ⟨g2, 0, none⟩) N c3 ∧ N ≤ c3 ∧ c3 ≤ 9223372036854775807 := by
      rcases hown2'.2 with ⟨_, h0⟩ | ⟨g', cap', cur, hv, hg', _, h1, h2, _⟩
      · omega
      · exact ⟨g', cap', hv, h1, by unfold maxLen at h2; omega⟩
    have hLN : L'.length = N := by rw [H.out.2.2.2.2.1, hN]
    have SH := rmadd_shut H.out.1 hb2 hown2' hLN.symm
    have X2 := H.out.1.below hb2
    have f2 : w2.frozen? ⟨b, 2, none⟩ = false := X2.box.frozen 2
    have d2 := X2.c2
    obtain ⟨E, hE⟩ : ∃ E : Nat, E + 1 = N := ⟨N - 1, by omega⟩
    have hN9 : N ≤ 901 := by omega
    have hr := H.out.2.2.2.2.2
    obtain ⟨q, hq⟩ : ∃ q, mc k N L' = q := ⟨_, rfl⟩
    rw [addB, hLN, hq] at hr
    have hq9 : q ≤ k := by rw [← hq]; exact mc_le _ _ _
    clear hb2 hown2' X2 H
    replace SH := Lib.hid (And.intro SH (And.intro hLN (And.intro hq hN)))
    clear hLN hq hN
    go_wp2
    obtain ⟨⟨st, h3⟩, hLN, hq, hN⟩ := SH.out
    clear SH d2 f2
    generalize w2.setCell ⟨b, 2, none⟩ (.slice (some ⟨g2, 0, none⟩) N c3) = w3 at *
    have e0 := h3.c0
    have e1 := h3.c1
    have e2 := h3.c2
    have K := Lib.hid (And.intro st h3)
    by_cases hs : N < k
    · have z1 : (N : Int) < (k : Int) := by omega
      obtain rfl : true = r := by rw [← hr]; exact (decide_eq_true (.inl hs)).symm
      clear st h3 hr hq hLN hN hs
      go_quiet (fail)
      go_wp2
      go_ret
      first | exact ⟨rfl, _, _, K.out.1.drewN _, K.out.2.drewN _⟩ | exact ⟨rfl, _, K.out.1.drewN _, _, K.out.2.drewN _⟩
    · have z1 : decide ((N : Int) < (k : Int)) = false := decide_eq_false (by omega)
      have z2 : IntKind.i64.wrap ((N : Int) - 1) = (E : Int) := by rw [IntKind.wrap_i64]; omega
      have C := Lib.hid (fun j => rmet E q (h3.drewN j) (by omega) (by omega) (by omega) (by rw [hE]; exact hq))
      have z3 : decide ((q : Int) ≥ (m : Int)) = r := by rw [← hr]; exact decide_eq_decide.2 (by omega)
      have z4 : decide (N < k) = false := decide_eq_false hs
      have z5 : decide (m ≤ q) = r := by rw [← hr]; exact decide_eq_decide.2 (by omega)
      clear st h3 hr hq hLN hN hs
      go_quiet (first | (go_at_call 24; refine Calls.quiet_of_same (C.out _)))
      go_wp2
      go_ret
      first | exact ⟨rfl, _, _, K.out.1.drewN _, K.out.2.drewN _⟩ | exact ⟨rfl, _, K.out.1.drewN _, _, K.out.2.drewN _⟩
end
end Go.Proofs.Ytecjblcdiabkcaa
