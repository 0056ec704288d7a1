/- The document's own book: Say, Count, Open. -/
import Derived.Test.YtcbnjjjnhlpklaaFt2
namespace Go.Proofs.Ytcbnjjjnhlpklaa
open Go.RowKit
set_option linter.unusedVariables false
set_option linter.unusedSimpArgs false

section
variable {o : Nat → Nat} {σ : Nat} {w : World} {a : Nat} {v : Value} {l : List Ft}
/-- Behind the copy: the fates lie in a block that the call has made. -/
theorem rsay_shut {w2 : World} {v2 : Value} {n : Nat} {l2 : List Ft} (h : Bk 38 o σ w a v l) (hb : Below w.heap.size w w2) (ho : w2.ownsRow w.heap.size 29 2 v2 n (cellsT l2)) (hn : n = l2.length) :
    Step o (tag o w.heap.size σ) σ w (w2.setCell ⟨a, 0, none⟩ v2) ∧ Bk 38 (tag o w.heap.size σ) σ (w2.setCell ⟨a, 0, none⟩ v2) a v2 l2 := by
  subst hn
  have hbl := h.box.lt
  have st : Step o (tag o w.heap.size σ) σ w w2 := ⟨hb.os, hb.tape, hb.output, hb.size, fun i hi => tag_old hi, fun i hi _ => hb.block i hi⟩
  have X : Blk (tag o w.heap.size σ) σ w2 a #[v] 38 := ⟨(hb.block a hbl).trans h.box.at_, by rw [tag_old hbl]; exact h.box.mine⟩
  have R : Row (tag o w.heap.size σ) σ w2 29 2 v2 l2.length (cellsT l2) := Row.fresh σ ho o
  refine ⟨st.setCell (.inr X.mine) _, ?_, R.other (R.ne_blk X.at_ (by decide)) _⟩
  have := X.set 0 v2
  simpa using this
set_option maxHeartbeats 6400000 in
theorem rsay (i k t c : Int) (L : List Ft) (h : Bk 38 o σ w a v l) (hl : l.length ≤ 1000) (hc : sayE l i k t = c) (hL : sayL l i k t = L) :
    Calls Try.prog 12 #[.pointer (some ⟨a, 0, none⟩), .int .i64 i, .int .i64 k, .int .i64 t] w fun e w' => e = .returned (.int .i64 c) ∧ ∃ o' v', Step o o' σ w w' ∧ Bk 38 o' σ w' a v' L := by
  obtain ⟨A, cap, rfl⟩ := h.row.any
  obtain ⟨hlc, hcap⟩ := h.row.capsF
  have c0 := h.cell0
  have H := Lib.hid h
  by_cases h1 : inB l i = false ∨ k < 1 ∨ 5 < k ∨ t < 0
  · obtain rfl : 1 = c := by rw [← hc]; unfold sayE; rw [if_pos h1]
    obtain rfl : l = L := by rw [← hL]; unfold sayL sayE; rw [if_pos h1]; rfl
    have hin : inB l i = decide (0 ≤ i ∧ i < (l.length : Int)) := rfl
    generalize inB l i = ib at *
    obtain ⟨N, hN⟩ : ∃ N, l.length = N := ⟨_, rfl⟩
    rw [hN] at c0 hl hlc hin H
    clear h hc hL hN
    go_enter Try.func12, Try.ntmps12
    by_cases k1 : i < 0
    · go_wp2
      go_ret
      first | exact ⟨rfl, o, _, Step.refl o σ w, H.out⟩ | exact ⟨rfl, o, Step.refl o σ w, _, H.out⟩
    have k1' : decide (i < 0) = false := decide_eq_false k1
    by_cases k2 : i ≥ (N : Int)
    · go_wp2
      go_ret
      first | exact ⟨rfl, o, _, Step.refl o σ w, H.out⟩ | exact ⟨rfl, o, Step.refl o σ w, _, H.out⟩
    have k2' : decide (i ≥ (N : Int)) = false := decide_eq_false k2
    by_cases k3 : k < 1
    · go_wp2
      go_ret
      first | exact ⟨rfl, o, _, Step.refl o σ w, H.out⟩ | exact ⟨rfl, o, Step.refl o σ w, _, H.out⟩
    have k3' : decide (k < 1) = false := decide_eq_false k3
    by_cases k4 : k > 5
    · go_wp2
      go_ret
      first | exact ⟨rfl, o, _, Step.refl o σ w, H.out⟩ | exact ⟨rfl, o, Step.refl o σ w, _, H.out⟩
    have k4' : decide (k > 5) = false := decide_eq_false k4
    by_cases k5 : t < 0
    · go_wp2
      go_ret
      first | exact ⟨rfl, o, _, Step.refl o σ w, H.out⟩ | exact ⟨rfl, o, Step.refl o σ w, _, H.out⟩
    have k5' : decide (t < 0) = false := decide_eq_false k5
    exfalso
    rcases h1 with h1 | h1
    · rw [h1] at hin
      have := (decide_eq_false_iff_not.1 hin.symm)
      omega
    · omega
  · have hin : inB l i = true := by
      cases hb : inB l i with
      | true => rfl
      | false => exact absurd (.inl hb) h1
    obtain ⟨n, rfl, hn, hx⟩ := inB_get hin
    have k1 : decide ((n : Int) < 0) = false := decide_eq_false (by omega)
    have k2 : decide ((n : Int) ≥ (l.length : Int)) = false := decide_eq_false (by omega)
    have k3 : decide (k < 1) = false := decide_eq_false (by omega)
    have k4 : decide (k > 5) = false := decide_eq_false (by omega)
    have k5 : decide (t < 0) = false := decide_eq_false (by omega)
    obtain ⟨⟨xk, xt⟩, hxo⟩ : ∃ x, ofV l (n : Int) = x := ⟨_, rfl⟩
    rw [hxo] at hx
    obtain ⟨g, cap', hv, _, hc2, hog, hgl⟩ := h.row.form (by omega)
    injection hv with hv1 hv2 hv3
    subst hv1 hv3
    have q := cellsT_get l n _ hx
    simp only at q
    have d0 : w.cell? ⟨g, n * 2, none⟩ = some (.int .i64 xk) := by rw [h.row.cellAt _ (by omega)]; exact q.1
    obtain ⟨N, hN⟩ : ∃ N, l.length = N := ⟨_, rfl⟩
    rw [hN] at c0 hl hlc hn k2
    have z1 : (n : Int) < (N : Int) := by omega
    have z2 : (0 : Int) ≤ (n : Int) := by omega
    have z3 : decide (n ≥ N) = false := decide_eq_false (by omega)
    have z4 : decide (N ≤ n) = false := decide_eq_false (by omega)
    by_cases hk : xk = 0
    · subst hk
      obtain rfl : 0 = c := by rw [← hc]; unfold sayE; rw [if_neg h1, hxo]; rfl
      obtain rfl : l.set n (k, t) = L := by rw [← hL]; unfold sayL; rw [hc]; simp
      obtain ⟨i0, hi0, hz0, hz1, hz2⟩ := info_parts Try.infoFate
      have hrow := Lib.hid (show (w.alloc (.cells #[] 29)).ownsRow w.heap.size 29 2 (.slice (some ⟨w.heap.size, 0, none⟩) 0 0) 0 [] from World.ownsRow_lit w #[] 0 (Nat.le_refl _) (by unfold maxLen; omega) rfl)
      have hsrc : Hid (∀ j u, (cellsT l)[j]? = some u → (w.alloc (.cells #[] 29)).cell? ((⟨g, 0, none⟩ : Addr).add j) = some u) := fun j u hj => by
        rw [Addr.add_lit, Nat.zero_add]
        exact Lib.cell?_alloc_some _ (by rw [h.row.cellAt j (by have := (List.getElem?_eq_some_iff.1 hj).1; rwa [cellsT_length] at this)]; exact hj)
      have c0x : (w.alloc (.cells #[] 29)).cell? ⟨a, 0, none⟩ = some (.slice (some ⟨g, 0, none⟩) N cap) := by rw [(h.alloc _ 0).box.cell, ← hN]; simp
      have Z := Lib.hid hN
      have HX := Lib.hid hx
      clear h hc hL h1 hx hxo q hin hN
      go_enter Try.func12, Try.ntmps12
      go_wp2_with (at_builtin; refine wpList_append_own_at _ rfl (.tmp 42) (.tmp 46) 33 rfl w.heap.size 29 i0 (.agg #[.int .i64 0, .int .i64 0]) 2 16 Try.underlying33 hi0 hz0 hz1 hz2 rfl (by decide) _ 0 [] rfl hrow.out ⟨g, 0, none⟩ N cap (cellsT l) rfl (by rw [cellsT_length, Z.out]) hsrc.out (cellsT_ones l) (by unfold maxLen; omega) (by omega) (by simp) ?_)
      intro v1 w2 hown1 hgrow1 hnil1 hloc1
      have hb2 : Below w.heap.size w w2 := ((Below.refl _ w).alloc (Nat.le_refl _) _).grown hgrow1 (by simp) (fun k hk => by cases hk; exact Nat.le_refl _)
      have hown2 : w2.ownsRow w.heap.size 29 2 v1 N (cellsT l) := by simpa using hown1
      obtain ⟨g1, cp1, rfl, hc5, hc6, hg1⟩ : ∃ g1 cp1, v1 = .slice (some ⟨g1, 0, none⟩) N cp1 ∧ N ≤ cp1 ∧ cp1 ≤ 9223372036854775807 ∧ w.heap.size ≤ g1 := by
        rcases hown2.2 with ⟨_, h0⟩ | ⟨g', cap', cur, hv, hg', _, h1, h2, _⟩
        · omega
        · exact ⟨g', cap', hv, h1, by unfold maxLen at h2; omega, hg'⟩
      have r1 := (hown2.stored (n * 2) (.int .i64 k)).1
      have r2 := (r1.stored (n * 2 + 1) (.int .i64 t)).1
      rw [cellsT_set l n (k, t)] at r2
      have hl2 : (cellsT l).length = N * 2 := by rw [cellsT_length, Z.out]
      have q := cellsT_get l n _ HX.out
      simp only at q
      have e0 : w2.cell? ⟨g1, n * 2, none⟩ = some (.int .i64 0) := by rw [hown2.cellAt _ (by omega)]; exact q.1
      have e1 : w2.cell? ⟨g1, n * 2 + 1, none⟩ = some (.int .i64 xt) := by rw [hown2.cellAt _ (by omega)]; exact q.2
      have f1 : ∀ j, w2.frozen? ⟨g1, j, none⟩ = false := fun j => hown2.frozenAt j
      have hb4 : Below w.heap.size w ((w2.setCell ⟨g1, n * 2, none⟩ (.int .i64 k)).setCell ⟨g1, n * 2 + 1, none⟩ (.int .i64 t)) := (hb2.setCell hg1 _).setCell hg1 _
      have hbx := (H.out.below hb4).box
      rw [Z.out] at hbx
      have a0 : ((w2.setCell ⟨g1, n * 2, none⟩ (.int .i64 k)).setCell ⟨g1, n * 2 + 1, none⟩ (.int .i64 t)).cell? ⟨a, 0, none⟩ = some (.slice (some ⟨g, 0, none⟩) N cap) := by rw [hbx.cell]; simp
      have a1 : ((w2.setCell ⟨g1, n * 2, none⟩ (.int .i64 k)).setCell ⟨g1, n * 2 + 1, none⟩ (.int .i64 t)).frozen? ⟨a, 0, none⟩ = false := hbx.frozen 0
      have hag : a ≠ g1 := by have := H.out.box.lt; omega
      have SH := Lib.hid (rsay_shut H.out hb4 r2 (by rw [List.length_set, Z.out]))
      clear hown1 hgrow1 hnil1 hloc1 r1 r2 q hb4 hbx hown2 hl2 hb2
      go_wp2
      go_ret
      obtain ⟨st, r⟩ := SH.out
      first | exact ⟨rfl, _, _, st, r⟩ | exact ⟨rfl, _, st, _, r⟩
    · obtain rfl : 5 = c := by rw [← hc]; unfold sayE; rw [if_neg h1, hxo, if_pos hk]
      obtain rfl : l = L := by rw [← hL]; unfold sayL; rw [hc]; rfl
      have hk' : (xk != 0) = true := by simp [hk]
      clear h hc hL h1 hx hxo q hin hk
      go_enter Try.func12, Try.ntmps12
      go_wp2
      go_ret
      first | exact ⟨rfl, o, _, Step.refl o σ w, H.out⟩ | exact ⟨rfl, o, Step.refl o σ w, _, H.out⟩
set_option maxHeartbeats 1600000 in
theorem rcount (k : Int) (c : Nat) (h : Bk 38 o σ w a v l) (hl : l.length ≤ 1000) (hc : cntF l k = c) :
    Calls Try.prog 13 #[.pointer (some ⟨a, 0, none⟩), .int .i64 k] w fun e w' => e = .returned (.int .i64 (c : Int)) ∧ w' = w := by
  obtain ⟨A, cap, rfl⟩ := h.row.any
  obtain ⟨hlc, hcap⟩ := h.row.capsF
  have c0 := h.cell0
  have RD := Lib.hid h.row.rdF
  obtain ⟨N, hN⟩ : ∃ N, l.length = N := ⟨_, rfl⟩
  rw [hN] at c0 hl hlc
  have Z := Lib.hid (And.intro hN hc)
  clear h hN hc
  go_enter Try.func13, Try.ntmps13
  go_wp2
  go_loopw [5, 6] (fun s5 s6 wr => ∃ (i q : Nat), s5 = .int .i64 (q : Int) ∧ s6 = .int .i64 (i : Int) ∧ i ≤ N ∧ q ≤ i ∧ Hid (cntF (l.take i) k = q) ∧ wr = w) (fun _ st _ => N - (intOf st).toNat)
  case atStart => exact ⟨0, 0, rfl, rfl, by omega, by omega, Lib.hid rfl, rfl⟩
  case round =>
    obtain ⟨i, q, rfl, rfl, hi2, hq, HQ, rfl⟩ := hrel
    rcases Nat.lt_or_ge i N with hlt | hge
    · obtain ⟨⟨xk, xt⟩, hx⟩ : ∃ x, l[i]? = some x := ⟨_, List.getElem?_eq_getElem (by rw [Z.out.1]; exact hlt)⟩
      obtain ⟨g, rfl, hg, d0, d1⟩ := RD.out i _ hx
      simp only at d0 d1
      have q1 : (i : Int) < (N : Int) := by omega
      have q2 : (0 : Int) ≤ (i : Int) := by omega
      have hn := cntF_next hx k
      rw [HQ.out] at hn
      by_cases hk : xk = k
      · have hk' : (xk == k) = true := by simp [hk]
        rw [if_pos hk] at hn
        have HN := Lib.hid hn
        clear hx hg HQ hn hk
        go_wp2
        go_roundw
        case rel => exact ⟨i + 1, q + 1, by simp, by simp, by omega, by omega, HN, by first | rfl | trivial⟩
        case measure => simp [intOf]; omega
      · have hk' : (xk == k) = false := by simpa using hk
        rw [if_neg hk, Nat.add_zero] at hn
        have HN := Lib.hid hn
        clear hx hg HQ hn hk
        go_wp2
        go_roundw
        case rel => exact ⟨i + 1, q, rfl, by simp, by omega, by omega, HN, by first | rfl | trivial⟩
        case measure => simp [intOf]; omega
    · obtain rfl : i = N := by omega
      obtain rfl : q = c := by rw [← HQ.out, ← Z.out.2, List.take_of_length_le (by rw [Z.out.1]; exact Nat.le_refl _)]
      clear HQ
      go_wp2
      go_ret
      exact ⟨rfl, rfl⟩
set_option maxHeartbeats 3200000 in
theorem ropen (h : Bk 38 o σ w a v l) (hl : l.length ≤ 1000) :
    Calls Try.prog 16 #[.pointer (some ⟨a, 0, none⟩)] w fun e w' => ∃ v', e = .returned v' ∧ w'.ownsRow w.heap.size 3 1 v' (openI l).length (cellsN (openI l)) ∧ Below w.heap.size w w' := by
  obtain ⟨A, cap, rfl⟩ := h.row.any
  obtain ⟨hlc, hcap⟩ := h.row.capsF
  obtain ⟨i0, hi0, hz0, hz1, hz2⟩ := info_parts Try.infoIntF
  obtain ⟨N, hN⟩ : ∃ N, l.length = N := ⟨_, rfl⟩
  have OL := Lib.hid (fun i => (show (openI (l.take i)).length ≤ N from hN ▸ openI_le l i))
  have C0 : ∀ w', Below w.heap.size w w' → w'.cell? ⟨a, 0, none⟩ = some (.slice A N cap) := fun w' hb => by rw [(h.box.below hb).cell, ← hN]; simp
  have RD := Lib.hid h.row.rdF
  have c0 := C0 w (Below.refl _ _)
  replace C0 := Lib.hid C0
  rw [hN] at hl hlc
  have Z := Lib.hid hN
  clear h hN
  go_enter Try.func16, Try.ntmps16
  go_wp2
  go_loopw [3, 4] (fun s3 s4 wr => ∃ (i : Nat), s4 = .int .i64 (i : Int) ∧ i ≤ N ∧ Hid (wr.ownsRow w.heap.size 3 1 s3 (openI (l.take i)).length (cellsN (openI (l.take i))) ∧ Below w.heap.size w wr)) (fun _ st _ => N - (intOf st).toNat)
  case atStart => exact ⟨0, rfl, by omega, Lib.hid ⟨World.ownsRow_nil _ _ _ _, Below.refl _ _⟩⟩
  case round =>
    obtain ⟨i, rfl, hi2, K⟩ := hrel
    obtain ⟨A3, c3, rfl⟩ := own_any K.out.1
    have c0 := C0.out wr K.out.2
    rcases Nat.lt_or_ge i N with hlt | hge
    · obtain ⟨⟨xk, xt⟩, hx⟩ : ∃ x, l[i]? = some x := ⟨_, List.getElem?_eq_getElem (by rw [Z.out]; exact hlt)⟩
      obtain ⟨g, rfl, hg, d0, d1⟩ := (RD.out.below K.out.2) i _ hx
      simp only at d0 d1
      have q1 : (i : Int) < (N : Int) := by omega
      have q2 : (0 : Int) ≤ (i : Int) := by omega
      have hn := openI_next hx
      have hsz := K.out.2.size
      have hol := OL.out i
      by_cases hk : xk = 0
      · have hk' : (xk == 0) = true := by simp [hk]
        rw [if_pos hk] at hn
        have HN := Lib.hid hn
        clear hx hg hn hk
        go_wp2_with (at_builtin; refine wpList_append_own_at _ rfl (.tmp 23) (.tmp 25) 42 rfl w.heap.size 3 i0 (.int .i64 0) 1 8 Try.underlying42 hi0 hz0 hz1 hz2 rfl (by decide) _ _ _ rfl (K.out.1.alloc _) ⟨wr.heap.size, 0, none⟩ 1 1 (cellsN [(i : Int)]) rfl rfl (newsF _ _ _ _ (by simp)) (onesF _) (by unfold maxLen; omega) (by omega) (by simp; omega) ?_)
        intro v' w3 hown' hgrow' hnil hloc
        have hb3 : Below w.heap.size w w3 := (K.out.2.alloc hsz _).grown hgrow' (by simp; omega) (fun j hj => (K.out.1.lt _ hj).1)
        have G := Lib.hid (And.intro hown' hb3)
        obtain ⟨A4, c4, rfl⟩ := own_any hown'
        clear hown' hgrow' hnil hloc hb3 K d0 d1 c0
        go_wp2
        go_roundw
        case rel => exact ⟨i + 1, by simp, by omega, Lib.hid ⟨by rw [HN.out, cellsN_app, List.length_append]; exact G.out.1, G.out.2⟩⟩
        case measure => simp [intOf]; omega
      · have hk' : (xk == 0) = false := by simpa using hk
        rw [if_neg hk, List.append_nil] at hn
        have HN := Lib.hid hn
        clear hx hg hn hk
        go_wp2
        go_roundw
        case rel => exact ⟨i + 1, by simp, by omega, Lib.hid ⟨by rw [HN.out]; exact K.out.1, K.out.2⟩⟩
        case measure => simp [intOf]; omega
    · obtain rfl : i = N := by omega
      have hk := List.take_of_length_le (l := l) (i := i) (by rw [Z.out]; exact Nat.le_refl _)
      rw [hk] at K
      rw [hk]
      clear hk
      go_wp2
      go_ret
      exact ⟨_, rfl, K.out.1, K.out.2⟩
end
end Go.Proofs.Ytcbnjjjnhlpklaa
