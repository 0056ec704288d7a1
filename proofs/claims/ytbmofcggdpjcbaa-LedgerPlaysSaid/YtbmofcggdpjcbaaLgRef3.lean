/- The document's own ledger: Write. -/
import Derived.Test.YtbmofcggdpjcbaaLgRef2
import Derived.Lib.SliceRun
namespace Go.Proofs.Ytbmofcggdpjcbaa
open Go.RowKit
set_option linter.unusedVariables false
set_option linter.unusedSimpArgs false

theorem Try.infoRRow : (Try.prog.info? 45).map (fun i => (i.zero, i.size, i.bytes)) = some (some (.agg #[.int .i64 0, .string ⟨#[]⟩, .int .i64 0]), 3, 32) := by kernel_rfl
section
variable {o o' : Nat → Nat} {σ τ : Nat} {w w1 w' : World} {b : Nat} {v : Value} {l : List Rw}
/-- Behind both appends: the rows lie in a block that the call has made. -/
theorem rwrite_shut {w2 : World} {v2 : Value} {n : Nat} {l2 : List Rw} (h : Lr o σ w b v l) (hb : Below w.heap.size w w2) (ho : w2.ownsRow w.heap.size 45 3 v2 n (cellsW l2)) (hn : n = l2.length) :
    Step o (tag o w.heap.size σ) σ w (w2.setCell ⟨b, 0, none⟩ v2) ∧ Lr (tag o w.heap.size σ) σ (w2.setCell ⟨b, 0, none⟩ v2) b v2 l2 := by
  subst hn
  have hbl := h.box.lt
  have st : Step o (tag o w.heap.size σ) σ w w2 := ⟨hb.os, hb.tape, hb.output, hb.size, fun i hi => tag_old hi, fun i hi _ => hb.block i hi⟩
  have X : Blk (tag o w.heap.size σ) σ w2 b #[v] 40 := ⟨(hb.block b hbl).trans h.box.at_, by rw [tag_old hbl]; exact h.box.mine⟩
  have R : Row (tag o w.heap.size σ) σ w2 45 3 v2 l2.length (cellsW l2) := Row.fresh σ ho o
  refine ⟨st.setCell (.inr X.mine) _, ?_, R.other (R.ne_blk X.at_ (by decide)) _⟩
  have := X.set 0 v2
  simpa using this
set_option maxHeartbeats 12800000 in
theorem rwrite (t z c s : Int) (n : List UInt8) (earn : Bool) (L : List Rw) (h : Lr o σ w b v l) (hi : LInv l) (hl : l.length ≤ 1000) (hz : fitB z = true) (hs : (if earn then earned l else lost l) = s) (hc : putE l t z s = c) (hL : (if c = 0 then l ++ [⟨t, n, if earn then z else -z⟩] else l) = L) :
    Calls Try.prog 15 #[.pointer (some ⟨b, 0, none⟩), .int .i64 t, .string (bs n), .int .i64 z, .bool earn] w fun e w' => e = .returned (.int .i64 c) ∧ ∃ o' v', Step o o' σ w w' ∧ Lr o' σ w' b v' L := by
  obtain ⟨z0, z1⟩ := fitB_iff.1 hz
  have hsb : 0 ≤ s ∧ s ≤ 4611686018427387904 := by
    cases earn
    · rw [← hs]; exact ⟨lost_nn l, hi.lo⟩
    · rw [← hs]; exact ⟨earned_nn l, hi.e⟩
  have H := Lib.hid h
  by_cases h1 : t < 0 ∨ z < 0
  · obtain rfl : 1 = c := by rw [← hc]; unfold putE; rw [if_pos h1]
    obtain rfl : l = L := by rw [← hL]; rfl
    clear h hi hz hs hc hL hsb
    go_enter Try.func15, Try.ntmps15
    by_cases k1 : t < 0
    · clear z0 z1
      go_wp2
      go_ret
      first | exact ⟨rfl, o, v, Step.refl o σ w, H.out⟩ | exact ⟨rfl, o, Step.refl o σ w, v, H.out⟩
    · have k1' : decide (t < 0) = false := decide_eq_false k1
      have k2 : z < 0 := by omega
      clear h1 z0 z1
      go_wp2
      go_ret
      first | exact ⟨rfl, o, v, Step.refl o σ w, H.out⟩ | exact ⟨rfl, o, Step.refl o σ w, v, H.out⟩
  · have k1 : decide (t < 0) = false := decide_eq_false (by omega)
    have k2 : decide (z < 0) = false := decide_eq_false (by omega)
    have hz0 : 0 ≤ z := by omega
    obtain ⟨A, cap, rfl⟩ := h.row.any
    obtain ⟨hlc, hcap⟩ := h.row.capsW
    have c0 : w.cell? ⟨b, 0, none⟩ = some (.slice A l.length cap) := by rw [h.box.cell]; simp
    have RD := Lib.hid h.row.rdW
    by_cases h2 : lateB l t = true
    · obtain rfl : 10 = c := by rw [← hc]; unfold putE; rw [if_neg h1, if_pos h2]
      obtain rfl : l = L := by rw [← hL]; rfl
      obtain ⟨x, hx, hxt⟩ : ∃ x, l[l.length - 1]? = some x ∧ t < x.tick := by
        unfold lateB at h2
        cases hg : l.getLast? with
        | none => rw [hg] at h2; cases h2
        | some x => rw [hg] at h2; exact ⟨x, by rw [← List.getLast?_eq_getElem?]; exact hg, of_decide_eq_true h2⟩
      obtain ⟨g, rfl, hg, d0, _, _⟩ := RD.out _ _ hx
      have hn := (List.getElem?_eq_some_iff.1 hx).1
      obtain ⟨N, hN⟩ : ∃ N, l.length = N := ⟨_, rfl⟩
      rw [hN] at c0 hn hl hx hlc d0
      obtain ⟨tk, htk⟩ : ∃ tk, x.tick = tk := ⟨_, rfl⟩
      rw [htk] at hxt d0
      rw [hN] at H
      have q1 : (N : Int) > 0 := by omega
      have q7 : 0 < N := by omega
      have q3 : tk > t := hxt
      have q4 : IntKind.i64.wrap ((N : Int) - 1) = ((N - 1 : Nat) : Int) := by rw [IntKind.wrap_i64]; omega
      have q5 : ((N - 1 : Nat) : Int) < (N : Int) := by omega
      have q6 : (0 : Int) ≤ ((N - 1 : Nat) : Int) := by omega
      clear h hi hz hs hc hL hsb h1 h2 hx hxt hg htk hN z0 z1 hz0 RD
      go_enter Try.func15, Try.ntmps15
      go_wp2
      go_quiet (fail)
      go_wp2
      go_ret
      first | exact ⟨rfl, o, _, (Step.refl o σ w).drewN _, H.out.drewN _⟩ | exact ⟨rfl, o, (Step.refl o σ w).drewN _, _, H.out.drewN _⟩
    · have hnl : ∀ x, l[l.length - 1]? = some x → ¬ x.tick > t := fun x hx hgt => h2 (by
        unfold lateB
        rw [List.getLast?_eq_getElem?, hx]
        exact decide_eq_true hgt)
      have hcs : putE l t z s = if 4611686018427387904 < s + z then 8 else 0 := by unfold putE; rw [if_neg h1, if_neg h2]
      rw [hcs] at hc
      have C := Lib.hid (fun k => (show Calls Try.prog 27 #[.pointer (some ⟨b, 0, none⟩), .string ⟨#[]⟩, .bool true] (w.drewN k) (RetB (.tuple #[.int .i64 (earned l), .int .i64 (lost l)]) (w.drewN k)) from rsum [] true _ _ (h.drewN k) hi hl rfl rfl))
      obtain ⟨i0, hi0, hj0, hj1, hj2⟩ := info_parts Try.infoRRow
      obtain ⟨ee, hee⟩ : ∃ ee, earned l = ee := ⟨_, rfl⟩
      obtain ⟨ll, hll⟩ : ∃ ll, lost l = ll := ⟨_, rfl⟩
      rw [hee, hll] at C hs
      have LL := Lib.hid (And.intro hL (And.intro hc (And.intro hs hnl)))
      have HO := Lib.hid (fun (W : World) => (show (W.alloc (.cells #[] 45)).ownsRow W.heap.size 45 3 (.slice (some ⟨W.heap.size, 0, none⟩) 0 0) 0 [] from World.ownsRow_lit W #[] 0 (Nat.le_refl _) (by unfold maxLen; omega) rfl))
      rcases h.row.own.2 with ⟨hv, h0⟩ | ⟨g, cap', cur, hv, _, _, _⟩
      · injection hv with hA _ hcap0
        subst hA hcap0
        obtain rfl : l = [] := List.eq_nil_of_length_eq_zero h0
        clear h hi hL hc hs hcs h1 h2 hnl h0 hee hll RD hlc hcap hl
        go_enter Try.func15, Try.ntmps15
        go_wp2
        go_quiet (fail)
        go_wp2_with fail
        refine (C.out nq).mono ?_
        rintro e0 w1 ⟨rfl, hb1⟩
        have B1 := Lib.hid (below_on (below_dN (Below.refl _ w) nq) hb1)
        have H1 := Lib.hid (H.out.below B1.out)
        replace c0 : w1.cell? ⟨b, 0, none⟩ = some (.slice none 0 0) := by rw [H1.out.box.cell]; simp
        clear C hb1
        cases earn with
        | true =>
          obtain rfl : ee = s := by have := LL.out.2.2.1; simpa using this
          by_cases hov : z > 4611686018427387904 - ee
          · obtain rfl : 8 = c := by have := LL.out.2.1; rw [if_pos (by omega)] at this; exact this
            obtain rfl : ([] : List Rw) = L := by have := LL.out.1; simpa using this
            clear z0 z1
            go_wp2
            go_ret
            first | exact ⟨rfl, o, _, Step.of_below o σ B1.out, H1.out⟩ | exact ⟨rfl, o, Step.of_below o σ B1.out, _, H1.out⟩
          · have hov' : decide (z > 4611686018427387904 - ee) = false := decide_eq_false hov
            obtain rfl : 0 = c := by have := LL.out.2.1; rw [if_neg (by omega)] at this; exact this
            clear hov
            have hrow := Lib.hid (HO.out w1)
            have c0x : (w1.alloc (.cells #[] 45)).cell? ⟨b, 0, none⟩ = some (.slice none 0 0) := by rw [(H1.out.alloc _ 0).box.cell]; simp
            go_wp2_with (at_builtin; first
              | refine wpList_append_own_none rfl (.tmp 69) (.tmp 73) 38 rfl w1.heap.size 45 i0 3 Try.underlying38 hi0 _ 0 [] rfl hrow.out rfl ?_
              | refine wpList_append_own_at _ rfl (.tmp 74) (.tmp 79) 38 rfl w1.heap.size 45 i0 (.agg #[.int .i64 0, .string ⟨#[]⟩, .int .i64 0]) 3 32 Try.underlying38 hi0 hj0 hj1 hj2 rfl (by decide) _ 0 [] rfl (hrow.out.alloc _) ⟨w1.heap.size + 1, 0, none⟩ 1 1 (cellsW [(Rw.mk t n z)]) rfl rfl (newsW _ (Rw.mk t n z) _ _ (by simp)) (cellsW_ones _) (by unfold maxLen; omega) (by omega) (by simp; omega) ?_)
            intro v2 w3 hown2 hgrow2 hnil2 hloc2
            have hb3 : Below w1.heap.size w1 w3 := (((Below.refl _ w1).alloc (Nat.le_refl _) _).alloc (by simp) _).grown hgrow2 (by simp; omega) (fun k hk => by cases hk; exact Nat.le_refl _)
            have hown3 : w3.ownsRow w1.heap.size 45 3 v2 1 (cellsW ([] ++ [(Rw.mk t n z)])) := by simpa using hown2
            have hln : 1 = (([] : List Rw) ++ [(Rw.mk t n z)]).length := rfl
            have SH := Lib.hid (rwrite_shut H1.out hb3 hown3 hln)
            have hb5 := (H1.out.below hb3).box
            have e0 : w3.cell? ⟨b, 0, none⟩ = some (.slice none 0 0) := by rw [hb5.cell]; simp
            have e1 : w3.frozen? ⟨b, 0, none⟩ = false := hb5.frozen 0
            obtain ⟨A2, cp2, rfl⟩ := own_any hown3
            clear hown2 hown3 hgrow2 hnil2 hloc2 hb3 hb5 hln
            go_wp2
            go_ret
            obtain ⟨st, r⟩ := SH.out
            have hLe := LL.out.1
            simp only [if_true, Bool.false_eq_true, if_false] at hLe
            subst hLe
            exact ⟨rfl, _, _, (Step.of_below o σ B1.out).trans st, r⟩
        | false =>
          obtain rfl : ll = s := by have := LL.out.2.2.1; simpa using this
          by_cases hov : z > 4611686018427387904 - ll
          · obtain rfl : 8 = c := by have := LL.out.2.1; rw [if_pos (by omega)] at this; exact this
            obtain rfl : ([] : List Rw) = L := by have := LL.out.1; simpa using this
            clear z0 z1
            go_wp2
            go_ret
            first | exact ⟨rfl, o, _, Step.of_below o σ B1.out, H1.out⟩ | exact ⟨rfl, o, Step.of_below o σ B1.out, _, H1.out⟩
          · have hov' : decide (z > 4611686018427387904 - ll) = false := decide_eq_false hov
            obtain rfl : 0 = c := by have := LL.out.2.1; rw [if_neg (by omega)] at this; exact this
            clear hov
            have hrow := Lib.hid (HO.out w1)
            have c0x : (w1.alloc (.cells #[] 45)).cell? ⟨b, 0, none⟩ = some (.slice none 0 0) := by rw [(H1.out.alloc _ 0).box.cell]; simp
            have hneg : wrap64 (-z) = -z := by unfold wrap64; omega
            go_wp2_with (at_builtin; first
              | refine wpList_append_own_none rfl (.tmp 69) (.tmp 73) 38 rfl w1.heap.size 45 i0 3 Try.underlying38 hi0 _ 0 [] rfl hrow.out rfl ?_
              | refine wpList_append_own_at _ rfl (.tmp 74) (.tmp 79) 38 rfl w1.heap.size 45 i0 (.agg #[.int .i64 0, .string ⟨#[]⟩, .int .i64 0]) 3 32 Try.underlying38 hi0 hj0 hj1 hj2 rfl (by decide) _ 0 [] rfl (hrow.out.alloc _) ⟨w1.heap.size + 1, 0, none⟩ 1 1 (cellsW [(Rw.mk t n (-z))]) rfl rfl (newsW _ (Rw.mk t n (-z)) _ _ (by simp)) (cellsW_ones _) (by unfold maxLen; omega) (by omega) (by simp; omega) ?_)
            intro v2 w3 hown2 hgrow2 hnil2 hloc2
            have hb3 : Below w1.heap.size w1 w3 := (((Below.refl _ w1).alloc (Nat.le_refl _) _).alloc (by simp) _).grown hgrow2 (by simp; omega) (fun k hk => by cases hk; exact Nat.le_refl _)
            have hown3 : w3.ownsRow w1.heap.size 45 3 v2 1 (cellsW ([] ++ [(Rw.mk t n (-z))])) := by simpa using hown2
            have hln : 1 = (([] : List Rw) ++ [(Rw.mk t n (-z))]).length := rfl
            have SH := Lib.hid (rwrite_shut H1.out hb3 hown3 hln)
            have hb5 := (H1.out.below hb3).box
            have e0 : w3.cell? ⟨b, 0, none⟩ = some (.slice none 0 0) := by rw [hb5.cell]; simp
            have e1 : w3.frozen? ⟨b, 0, none⟩ = false := hb5.frozen 0
            obtain ⟨A2, cp2, rfl⟩ := own_any hown3
            clear hown2 hown3 hgrow2 hnil2 hloc2 hb3 hb5 hln
            go_wp2
            go_ret
            obtain ⟨st, r⟩ := SH.out
            have hLe := LL.out.1
            simp only [if_true, Bool.false_eq_true, if_false] at hLe
            subst hLe
            exact ⟨rfl, _, _, (Step.of_below o σ B1.out).trans st, r⟩
      · injection hv with hA _ hcap0
        subst hA hcap0
        rcases Nat.eq_zero_or_pos l.length with h0 | h0
        · have hnw : Hid (∀ (W : World) (ob : Obj), Below w.heap.size w W → ∀ j u, (cellsW l)[j]? = some u → (W.alloc ob).cell? ((⟨g, 0, none⟩ : Addr).add j) = some u) := fun W ob hb j u hj => by
            have := (List.getElem?_eq_some_iff.1 hj).1
            rw [cellsW_length] at this
            omega
          obtain ⟨N, hN⟩ : ∃ N, l.length = N := ⟨_, rfl⟩
          have Z := Lib.hid hN
          rw [hN] at c0 hlc hl h0
          rw [hN] at H
          subst h0
          clear h hi hL hc hs hcs h1 h2 hnl hee hll RD hN
          go_enter Try.func15, Try.ntmps15
          go_wp2
          go_quiet (fail)
          go_wp2_with fail
          refine (C.out nq).mono ?_
          rintro e0 w1 ⟨rfl, hb1⟩
          have B1 := Lib.hid (below_on (below_dN (Below.refl _ w) nq) hb1)
          have H1 := Lib.hid (H.out.below B1.out)
          replace c0 : w1.cell? ⟨b, 0, none⟩ = some (.slice (some ⟨g, 0, none⟩) 0 cap) := by rw [H1.out.box.cell]; simp
          clear C hb1
          cases earn with
          | true =>
            obtain rfl : ee = s := by have := LL.out.2.2.1; simpa using this
            by_cases hov : z > 4611686018427387904 - ee
            · obtain rfl : 8 = c := by have := LL.out.2.1; rw [if_pos (by omega)] at this; exact this
              obtain rfl : l = L := by have := LL.out.1; simpa using this
              clear z0 z1
              go_wp2
              go_ret
              first | exact ⟨rfl, o, _, Step.of_below o σ B1.out, H1.out⟩ | exact ⟨rfl, o, Step.of_below o σ B1.out, _, H1.out⟩
            · have hov' : decide (z > 4611686018427387904 - ee) = false := decide_eq_false hov
              obtain rfl : 0 = c := by have := LL.out.2.1; rw [if_neg (by omega)] at this; exact this
              clear hov
              have hrow := Lib.hid (HO.out w1)
              have c0x : (w1.alloc (.cells #[] 45)).cell? ⟨b, 0, none⟩ = some (.slice (some ⟨g, 0, none⟩) 0 cap) := by rw [(H1.out.alloc _ 0).box.cell]; simp
              have hsrc := Lib.hid (hnw.out w1 (.cells #[] 45) B1.out)
              go_wp2_with (at_builtin; refine wpList_append_own_at _ rfl (.tmp 69) (.tmp 73) 38 rfl w1.heap.size 45 i0 (.agg #[.int .i64 0, .string ⟨#[]⟩, .int .i64 0]) 3 32 Try.underlying38 hi0 hj0 hj1 hj2 rfl (by decide) _ 0 [] rfl hrow.out ⟨g, 0, none⟩ 0 cap (cellsW l) rfl (by rw [cellsW_length, Z.out]) hsrc.out (cellsW_ones l) (by unfold maxLen; omega) (by omega) (by simp) ?_)
              intro v1 w2 hown1 hgrow1 hnil1 hloc1
              have hb2 : Below w1.heap.size w1 w2 := ((Below.refl _ w1).alloc (Nat.le_refl _) _).grown hgrow1 (by simp) (fun k hk => by cases hk; exact Nat.le_refl _)
              have hown1' : w2.ownsRow w1.heap.size 45 3 v1 0 (cellsW l) := by simpa using hown1
              obtain ⟨A1, cp1, rfl⟩ := own_any hown1'
              have K1 := Lib.hid (And.intro hb2 hown1')
              have hsz := hb2.size
              clear hb2 hown1 hown1' hgrow1 hnil1 hloc1 c0 c0x
              go_wp2_with (at_builtin; refine wpList_append_own_at _ rfl (.tmp 74) (.tmp 79) 38 rfl w1.heap.size 45 i0 (.agg #[.int .i64 0, .string ⟨#[]⟩, .int .i64 0]) 3 32 Try.underlying38 hi0 hj0 hj1 hj2 rfl (by decide) _ 0 (cellsW l) rfl (K1.out.2.alloc _) ⟨w2.heap.size, 0, none⟩ 1 1 (cellsW [(Rw.mk t n z)]) rfl rfl (newsW _ (Rw.mk t n z) _ _ (by simp)) (cellsW_ones _) (by unfold maxLen; omega) (by omega) (by simp; omega) ?_)
              intro v2 w3 hown2 hgrow2 hnil2 hloc2
              have hb3 : Below w1.heap.size w1 w3 := (K1.out.1.alloc hsz _).grown hgrow2 (by simp; omega) (fun k hk => (K1.out.2.lt k hk).1)
              have hown3 : w3.ownsRow w1.heap.size 45 3 v2 (0 + 1) (cellsW (l ++ [(Rw.mk t n z)])) := by rw [cellsW_append]; exact hown2
              have hln : 0 + 1 = (l ++ [(Rw.mk t n z)]).length := by rw [List.length_append, Z.out]; rfl
              have SH := Lib.hid (rwrite_shut H1.out hb3 hown3 hln)
              have hb5 := (H1.out.below hb3).box
              have e0 : w3.cell? ⟨b, 0, none⟩ = some (.slice (some ⟨g, 0, none⟩) 0 cap) := by rw [hb5.cell]; simp
              have e1 : w3.frozen? ⟨b, 0, none⟩ = false := hb5.frozen 0
              obtain ⟨A2, cp2, rfl⟩ := own_any hown3
              clear hown2 hown3 hgrow2 hnil2 hloc2 hb3 hb5 hln
              go_wp2
              go_ret
              obtain ⟨st, r⟩ := SH.out
              have hLe := LL.out.1
              simp only [if_true, Bool.false_eq_true, if_false] at hLe
              subst hLe
              exact ⟨rfl, _, _, (Step.of_below o σ B1.out).trans st, r⟩
          | false =>
            obtain rfl : ll = s := by have := LL.out.2.2.1; simpa using this
            by_cases hov : z > 4611686018427387904 - ll
            · obtain rfl : 8 = c := by have := LL.out.2.1; rw [if_pos (by omega)] at this; exact this
              obtain rfl : l = L := by have := LL.out.1; simpa using this
              clear z0 z1
              go_wp2
              go_ret
              first | exact ⟨rfl, o, _, Step.of_below o σ B1.out, H1.out⟩ | exact ⟨rfl, o, Step.of_below o σ B1.out, _, H1.out⟩
            · have hov' : decide (z > 4611686018427387904 - ll) = false := decide_eq_false hov
              obtain rfl : 0 = c := by have := LL.out.2.1; rw [if_neg (by omega)] at this; exact this
              clear hov
              have hrow := Lib.hid (HO.out w1)
              have c0x : (w1.alloc (.cells #[] 45)).cell? ⟨b, 0, none⟩ = some (.slice (some ⟨g, 0, none⟩) 0 cap) := by rw [(H1.out.alloc _ 0).box.cell]; simp
              have hneg : wrap64 (-z) = -z := by unfold wrap64; omega
              have hsrc := Lib.hid (hnw.out w1 (.cells #[] 45) B1.out)
              go_wp2_with (at_builtin; refine wpList_append_own_at _ rfl (.tmp 69) (.tmp 73) 38 rfl w1.heap.size 45 i0 (.agg #[.int .i64 0, .string ⟨#[]⟩, .int .i64 0]) 3 32 Try.underlying38 hi0 hj0 hj1 hj2 rfl (by decide) _ 0 [] rfl hrow.out ⟨g, 0, none⟩ 0 cap (cellsW l) rfl (by rw [cellsW_length, Z.out]) hsrc.out (cellsW_ones l) (by unfold maxLen; omega) (by omega) (by simp) ?_)
              intro v1 w2 hown1 hgrow1 hnil1 hloc1
              have hb2 : Below w1.heap.size w1 w2 := ((Below.refl _ w1).alloc (Nat.le_refl _) _).grown hgrow1 (by simp) (fun k hk => by cases hk; exact Nat.le_refl _)
              have hown1' : w2.ownsRow w1.heap.size 45 3 v1 0 (cellsW l) := by simpa using hown1
              obtain ⟨A1, cp1, rfl⟩ := own_any hown1'
              have K1 := Lib.hid (And.intro hb2 hown1')
              have hsz := hb2.size
              clear hb2 hown1 hown1' hgrow1 hnil1 hloc1 c0 c0x
              go_wp2_with (at_builtin; refine wpList_append_own_at _ rfl (.tmp 74) (.tmp 79) 38 rfl w1.heap.size 45 i0 (.agg #[.int .i64 0, .string ⟨#[]⟩, .int .i64 0]) 3 32 Try.underlying38 hi0 hj0 hj1 hj2 rfl (by decide) _ 0 (cellsW l) rfl (K1.out.2.alloc _) ⟨w2.heap.size, 0, none⟩ 1 1 (cellsW [(Rw.mk t n (-z))]) rfl rfl (newsW _ (Rw.mk t n (-z)) _ _ (by simp)) (cellsW_ones _) (by unfold maxLen; omega) (by omega) (by simp; omega) ?_)
              intro v2 w3 hown2 hgrow2 hnil2 hloc2
              have hb3 : Below w1.heap.size w1 w3 := (K1.out.1.alloc hsz _).grown hgrow2 (by simp; omega) (fun k hk => (K1.out.2.lt k hk).1)
              have hown3 : w3.ownsRow w1.heap.size 45 3 v2 (0 + 1) (cellsW (l ++ [(Rw.mk t n (-z))])) := by rw [cellsW_append]; exact hown2
              have hln : 0 + 1 = (l ++ [(Rw.mk t n (-z))]).length := by rw [List.length_append, Z.out]; rfl
              have SH := Lib.hid (rwrite_shut H1.out hb3 hown3 hln)
              have hb5 := (H1.out.below hb3).box
              have e0 : w3.cell? ⟨b, 0, none⟩ = some (.slice (some ⟨g, 0, none⟩) 0 cap) := by rw [hb5.cell]; simp
              have e1 : w3.frozen? ⟨b, 0, none⟩ = false := hb5.frozen 0
              obtain ⟨A2, cp2, rfl⟩ := own_any hown3
              clear hown2 hown3 hgrow2 hnil2 hloc2 hb3 hb5 hln
              go_wp2
              go_ret
              obtain ⟨st, r⟩ := SH.out
              have hLe := LL.out.1
              simp only [if_true, Bool.false_eq_true, if_false] at hLe
              subst hLe
              exact ⟨rfl, _, _, (Step.of_below o σ B1.out).trans st, r⟩
        · have hx : l[l.length - 1]? = some l[l.length - 1] := List.getElem?_eq_getElem (by omega)
          have hnx := hnl _ hx
          obtain ⟨g', hg', hgl, d0, _, _⟩ := RD.out _ _ hx
          injection hg' with hg'
          injection hg' with hg'
          subst hg'
          have hnw : Hid (∀ (W : World) (ob : Obj), Below w.heap.size w W → ∀ j u, (cellsW l)[j]? = some u → (W.alloc ob).cell? ((⟨g, 0, none⟩ : Addr).add j) = some u) := fun W ob hb j u hj => by
            rw [Addr.add_lit, Nat.zero_add]
            exact Lib.cell?_alloc_some _ (by rw [(h.row.below hb).cellAt j (by have := (List.getElem?_eq_some_iff.1 hj).1; rwa [cellsW_length] at this)]; exact hj)
          obtain ⟨tk, htk⟩ : ∃ tk, (l[l.length - 1]).tick = tk := ⟨_, rfl⟩
          rw [htk] at hnx d0
          obtain ⟨N, hN⟩ : ∃ N, l.length = N := ⟨_, rfl⟩
          have Z := Lib.hid hN
          rw [hN] at c0 hlc hl h0 d0
          rw [hN] at H
          have q1 : (N : Int) > 0 := by omega
          have q3 : decide (tk > t) = false := decide_eq_false hnx
          have q4 : IntKind.i64.wrap ((N : Int) - 1) = ((N - 1 : Nat) : Int) := by rw [IntKind.wrap_i64]; omega
          have q5 : ((N - 1 : Nat) : Int) < (N : Int) := by omega
          have q6 : (0 : Int) ≤ ((N - 1 : Nat) : Int) := by omega
          clear h hi hL hc hs hcs h1 h2 hnl hee hll RD hN hx hnx htk hgl
          go_enter Try.func15, Try.ntmps15
          go_wp2
          go_quiet (fail)
          clear d0 q1 q3 q4 q5 q6
          go_wp2_with fail
          refine (C.out nq).mono ?_
          rintro e0 w1 ⟨rfl, hb1⟩
          have B1 := Lib.hid (below_on (below_dN (Below.refl _ w) nq) hb1)
          have H1 := Lib.hid (H.out.below B1.out)
          replace c0 : w1.cell? ⟨b, 0, none⟩ = some (.slice (some ⟨g, 0, none⟩) N cap) := by rw [H1.out.box.cell]; simp
          clear C hb1
          cases earn with
          | true =>
            obtain rfl : ee = s := by have := LL.out.2.2.1; simpa using this
            by_cases hov : z > 4611686018427387904 - ee
            · obtain rfl : 8 = c := by have := LL.out.2.1; rw [if_pos (by omega)] at this; exact this
              obtain rfl : l = L := by have := LL.out.1; simpa using this
              clear z0 z1
              go_wp2
              go_ret
              first | exact ⟨rfl, o, _, Step.of_below o σ B1.out, H1.out⟩ | exact ⟨rfl, o, Step.of_below o σ B1.out, _, H1.out⟩
            · have hov' : decide (z > 4611686018427387904 - ee) = false := decide_eq_false hov
              obtain rfl : 0 = c := by have := LL.out.2.1; rw [if_neg (by omega)] at this; exact this
              clear hov
              have hrow := Lib.hid (HO.out w1)
              have c0x : (w1.alloc (.cells #[] 45)).cell? ⟨b, 0, none⟩ = some (.slice (some ⟨g, 0, none⟩) N cap) := by rw [(H1.out.alloc _ 0).box.cell]; simp
              have hsrc := Lib.hid (hnw.out w1 (.cells #[] 45) B1.out)
              go_wp2_with (at_builtin; refine wpList_append_own_at _ rfl (.tmp 69) (.tmp 73) 38 rfl w1.heap.size 45 i0 (.agg #[.int .i64 0, .string ⟨#[]⟩, .int .i64 0]) 3 32 Try.underlying38 hi0 hj0 hj1 hj2 rfl (by decide) _ 0 [] rfl hrow.out ⟨g, 0, none⟩ N cap (cellsW l) rfl (by rw [cellsW_length, Z.out]) hsrc.out (cellsW_ones l) (by unfold maxLen; omega) (by omega) (by simp) ?_)
              intro v1 w2 hown1 hgrow1 hnil1 hloc1
              have hb2 : Below w1.heap.size w1 w2 := ((Below.refl _ w1).alloc (Nat.le_refl _) _).grown hgrow1 (by simp) (fun k hk => by cases hk; exact Nat.le_refl _)
              have hown1' : w2.ownsRow w1.heap.size 45 3 v1 N (cellsW l) := by simpa using hown1
              obtain ⟨A1, cp1, rfl⟩ := own_any hown1'
              have K1 := Lib.hid (And.intro hb2 hown1')
              have hsz := hb2.size
              clear hb2 hown1 hown1' hgrow1 hnil1 hloc1 c0 c0x
              go_wp2_with (at_builtin; refine wpList_append_own_at _ rfl (.tmp 74) (.tmp 79) 38 rfl w1.heap.size 45 i0 (.agg #[.int .i64 0, .string ⟨#[]⟩, .int .i64 0]) 3 32 Try.underlying38 hi0 hj0 hj1 hj2 rfl (by decide) _ N (cellsW l) rfl (K1.out.2.alloc _) ⟨w2.heap.size, 0, none⟩ 1 1 (cellsW [(Rw.mk t n z)]) rfl rfl (newsW _ (Rw.mk t n z) _ _ (by simp)) (cellsW_ones _) (by unfold maxLen; omega) (by omega) (by simp; omega) ?_)
              intro v2 w3 hown2 hgrow2 hnil2 hloc2
              have hb3 : Below w1.heap.size w1 w3 := (K1.out.1.alloc hsz _).grown hgrow2 (by simp; omega) (fun k hk => (K1.out.2.lt k hk).1)
              have hown3 : w3.ownsRow w1.heap.size 45 3 v2 (N + 1) (cellsW (l ++ [(Rw.mk t n z)])) := by rw [cellsW_append]; exact hown2
              have hln : N + 1 = (l ++ [(Rw.mk t n z)]).length := by rw [List.length_append, Z.out]; rfl
              have SH := Lib.hid (rwrite_shut H1.out hb3 hown3 hln)
              have hb5 := (H1.out.below hb3).box
              have e0 : w3.cell? ⟨b, 0, none⟩ = some (.slice (some ⟨g, 0, none⟩) N cap) := by rw [hb5.cell]; simp
              have e1 : w3.frozen? ⟨b, 0, none⟩ = false := hb5.frozen 0
              obtain ⟨A2, cp2, rfl⟩ := own_any hown3
              clear hown2 hown3 hgrow2 hnil2 hloc2 hb3 hb5 hln
              go_wp2
              go_ret
              obtain ⟨st, r⟩ := SH.out
              have hLe := LL.out.1
              simp only [if_true, Bool.false_eq_true, if_false] at hLe
              subst hLe
              exact ⟨rfl, _, _, (Step.of_below o σ B1.out).trans st, r⟩
          | false =>
            obtain rfl : ll = s := by have := LL.out.2.2.1; simpa using this
            by_cases hov : z > 4611686018427387904 - ll
            · obtain rfl : 8 = c := by have := LL.out.2.1; rw [if_pos (by omega)] at this; exact this
              obtain rfl : l = L := by have := LL.out.1; simpa using this
              clear z0 z1
              go_wp2
              go_ret
              first | exact ⟨rfl, o, _, Step.of_below o σ B1.out, H1.out⟩ | exact ⟨rfl, o, Step.of_below o σ B1.out, _, H1.out⟩
            · have hov' : decide (z > 4611686018427387904 - ll) = false := decide_eq_false hov
              obtain rfl : 0 = c := by have := LL.out.2.1; rw [if_neg (by omega)] at this; exact this
              clear hov
              have hrow := Lib.hid (HO.out w1)
              have c0x : (w1.alloc (.cells #[] 45)).cell? ⟨b, 0, none⟩ = some (.slice (some ⟨g, 0, none⟩) N cap) := by rw [(H1.out.alloc _ 0).box.cell]; simp
              have hneg : wrap64 (-z) = -z := by unfold wrap64; omega
              have hsrc := Lib.hid (hnw.out w1 (.cells #[] 45) B1.out)
              go_wp2_with (at_builtin; refine wpList_append_own_at _ rfl (.tmp 69) (.tmp 73) 38 rfl w1.heap.size 45 i0 (.agg #[.int .i64 0, .string ⟨#[]⟩, .int .i64 0]) 3 32 Try.underlying38 hi0 hj0 hj1 hj2 rfl (by decide) _ 0 [] rfl hrow.out ⟨g, 0, none⟩ N cap (cellsW l) rfl (by rw [cellsW_length, Z.out]) hsrc.out (cellsW_ones l) (by unfold maxLen; omega) (by omega) (by simp) ?_)
              intro v1 w2 hown1 hgrow1 hnil1 hloc1
              have hb2 : Below w1.heap.size w1 w2 := ((Below.refl _ w1).alloc (Nat.le_refl _) _).grown hgrow1 (by simp) (fun k hk => by cases hk; exact Nat.le_refl _)
              have hown1' : w2.ownsRow w1.heap.size 45 3 v1 N (cellsW l) := by simpa using hown1
              obtain ⟨A1, cp1, rfl⟩ := own_any hown1'
              have K1 := Lib.hid (And.intro hb2 hown1')
              have hsz := hb2.size
              clear hb2 hown1 hown1' hgrow1 hnil1 hloc1 c0 c0x
              go_wp2_with (at_builtin; refine wpList_append_own_at _ rfl (.tmp 74) (.tmp 79) 38 rfl w1.heap.size 45 i0 (.agg #[.int .i64 0, .string ⟨#[]⟩, .int .i64 0]) 3 32 Try.underlying38 hi0 hj0 hj1 hj2 rfl (by decide) _ N (cellsW l) rfl (K1.out.2.alloc _) ⟨w2.heap.size, 0, none⟩ 1 1 (cellsW [(Rw.mk t n (-z))]) rfl rfl (newsW _ (Rw.mk t n (-z)) _ _ (by simp)) (cellsW_ones _) (by unfold maxLen; omega) (by omega) (by simp; omega) ?_)
              intro v2 w3 hown2 hgrow2 hnil2 hloc2
              have hb3 : Below w1.heap.size w1 w3 := (K1.out.1.alloc hsz _).grown hgrow2 (by simp; omega) (fun k hk => (K1.out.2.lt k hk).1)
              have hown3 : w3.ownsRow w1.heap.size 45 3 v2 (N + 1) (cellsW (l ++ [(Rw.mk t n (-z))])) := by rw [cellsW_append]; exact hown2
              have hln : N + 1 = (l ++ [(Rw.mk t n (-z))]).length := by rw [List.length_append, Z.out]; rfl
              have SH := Lib.hid (rwrite_shut H1.out hb3 hown3 hln)
              have hb5 := (H1.out.below hb3).box
              have e0 : w3.cell? ⟨b, 0, none⟩ = some (.slice (some ⟨g, 0, none⟩) N cap) := by rw [hb5.cell]; simp
              have e1 : w3.frozen? ⟨b, 0, none⟩ = false := hb5.frozen 0
              obtain ⟨A2, cp2, rfl⟩ := own_any hown3
              clear hown2 hown3 hgrow2 hnil2 hloc2 hb3 hb5 hln
              go_wp2
              go_ret
              obtain ⟨st, r⟩ := SH.out
              have hLe := LL.out.1
              simp only [if_true, Bool.false_eq_true, if_false] at hLe
              subst hLe
              exact ⟨rfl, _, _, (Step.of_below o σ B1.out).trans st, r⟩
end
end Go.Proofs.Ytbmofcggdpjcbaa
