/- The document's pile: put. -/
import Derived.Test.YtgbmpnoknmpmcaaPlRef2
namespace Go.Proofs.Ytgbmpnoknmpmcaa
open Go.RowKit
set_option linter.unusedVariables false
set_option linter.unusedSimpArgs false

section
variable {o : Nat → Nat} {σ : Nat} {w : World} {b room : Nat} {v : Value} {l : List It}
theorem src_one {w : World} {B : Nat} {xi xk xt : Int} {e : TypeId} (h : w.heap[B]? = some (.cells #[.int .i64 xi, .int .i64 xk, .int .i64 xt] e (0, 0))) : SrcI w (.slice (some ⟨B, 0, none⟩) 1 1) 1 (cellsI [(xi, xk, xt)]) :=
  .inr ⟨⟨B, 0, none⟩, 1, rfl, fun j u hj => by
    rw [Addr.add_lit, Nat.zero_add]
    have : w.cell? ⟨B, j, none⟩ = #[Value.int .i64 xi, .int .i64 xk, .int .i64 xt][j]? := by simp [World.cell?, h]
    rw [this]
    simpa [cellsI] using hj⟩
theorem rput_shut {cap p n room : Nat} {A : Option Addr} {x : It} {wB W : World} {A3 : Option Addr} {d3 : Nat} (hpl : l.length = n ∧ p ≤ n) (hbl : b < w.heap.size) (hw : w.heap.size < wB.heap.size) (h : Rp o σ w b room (.slice A l.length cap) l) (b0 : Below w.heap.size w wB)
    (hb : Below wB.heap.size wB W) (hE : W.ownsRow wB.heap.size 42 3 (.slice A3 (0 + p + 1 + (n - p)) d3) (0 + p + 1 + (n - p)) ([] ++ cellsI (l.take p) ++ cellsI [x] ++ cellsI (l.drop p))) (hins : ins x l = l.take p ++ x :: l.drop p) :
    ∃ o' v', Step o o' σ w (W.setCell ⟨b, 1, none⟩ (.slice A3 (p + 1 + (n - p)) d3)) ∧ Rp o' σ (W.setCell ⟨b, 1, none⟩ (.slice A3 (p + 1 + (n - p)) d3)) b room v' (ins x l) := by
  have hlen : (ins x l).length = p + 1 + (n - p) := by rw [ins_length]; omega
  have hcl : [] ++ cellsI (l.take p) ++ cellsI [x] ++ cellsI (l.drop p) = cellsI (ins x l) := by rw [hins, List.nil_append, ← cellsI_append, ← cellsI_append]; simp
  rw [hcl, show 0 + p + 1 + (n - p) = (ins x l).length by omega] at hE
  rw [← hlen]
  have B3 : Below w.heap.size w W := b0.trans (hb.mono (by omega))
  have P3 := h.below B3
  have st : Step o (tag o w.heap.size σ) σ w W := Step.newly o σ B3 σ
  have R3 : Row (tag o w.heap.size σ) σ W 42 3 (.slice A3 (ins x l).length d3) (ins x l).length (cellsI (ins x l)) := Row.fresh (w0 := w) σ (own_from hE (by omega)) o
  have X3 : Blk (tag o w.heap.size σ) σ W b #[.int .i64 (room : Int), .slice A l.length cap] 38 := ⟨P3.box.at_, by rw [tag_old hbl]; exact P3.box.mine⟩
  exact ⟨_, _, st.setCell (.inr X3.mine) _, X3.set 1 _, R3.other (R3.ne_blk X3.at_ (by decide)) _⟩
theorem pile_items {wx W : World} {g k bb xb : Nat} {s x0 x1 x2 y0 y1 y2 : Value} (hb : Below wx.heap.size wx W) (l0 : bb < wx.heap.size) (l1 : g < wx.heap.size) (l2 : xb < wx.heap.size)
    (r0 : wx.cell? ⟨bb, 1, none⟩ = some s) (r1 : wx.cell? ⟨g, k, none⟩ = some y0 ∧ wx.cell? ⟨g, k + 1, none⟩ = some y1 ∧ wx.cell? ⟨g, k + 2, none⟩ = some y2)
    (r2 : wx.cell? ⟨xb, 0, none⟩ = some x0 ∧ wx.cell? ⟨xb, 1, none⟩ = some x1 ∧ wx.cell? ⟨xb, 2, none⟩ = some x2) :
    Below wx.heap.size wx W ∧ W.cell? ⟨bb, 1, none⟩ = some s ∧ (W.cell? ⟨g, k, none⟩ = some y0 ∧ W.cell? ⟨g, k + 1, none⟩ = some y1 ∧ W.cell? ⟨g, k + 2, none⟩ = some y2) ∧ (W.cell? ⟨xb, 0, none⟩ = some x0 ∧ W.cell? ⟨xb, 1, none⟩ = some x1 ∧ W.cell? ⟨xb, 2, none⟩ = some x2) := by
  have q := two_items hb l1 l2 r1 r2
  exact ⟨hb, by rw [hb.cell (p := ⟨bb, 1, none⟩) l0]; exact r0, q.2.1, q.2.2⟩
set_option maxHeartbeats 12800000 in
set_option maxRecDepth 100000 in
theorem rput (x : It) (h : Rp o σ w b room v l) (hl : l.length ≤ 1000) :
    Calls Try.prog 26 #[.pointer (some ⟨b, 0, none⟩), vI x] w fun e w' => e = .returned (.tuple #[]) ∧ ∃ o' v', Step o o' σ w w' ∧ Rp o' σ w' b room v' (ins x l) := by
  obtain ⟨A, cap, rfl⟩ := h.row.any
  obtain ⟨hlc, hcap⟩ := h.row.caps
  have hshape := h.shape
  obtain ⟨n, hn⟩ : ∃ n, l.length = n := ⟨_, rfl⟩
  obtain ⟨p, hp⟩ : ∃ p, place x l = p := ⟨_, rfl⟩
  have hpl := place_le x l
  rw [hp] at hpl
  obtain ⟨src1, hs1, k1⟩ := cut_low (l := l) hshape rfl hpl hlc hcap
  obtain ⟨src2, hs2, k2⟩ := cut_high (l := l) hshape rfl hpl hlc hcap
  have e1 : w.cell? ⟨b, 1, none⟩ = some (.slice A n cap) := by rw [h.box.cell, ← hn]; simp
  have hbl := h.box.lt
  have hins : ins x l = l.take p ++ x :: l.drop p := by rw [ins, hp]
  have hlt := Lib.hid (fun (i : Nat) (y : It) (hy : l[i]? = some y) (hi : i < p) => place_lt x l i y hy (by omega))
  have hat := Lib.hid (fun (y : It) (hy : l[p]? = some y) => place_at x l y (by rw [hp]; exact hy))
  have CB := Lib.hid (fun (y : It) (r : Bool) (hr : ltI y x = r) (w : World) => before_any y x r hr w)
  rw [hn] at hs1 hs2 k2 hl hlc hpl hshape
  have hpl0 : l.length = n ∧ p ≤ n := ⟨hn, hpl⟩
  clear hshape hp
  obtain ⟨xi, xk, xt⟩ := x
  obtain ⟨wX, hwX⟩ : ∃ wX, wX = w.alloc (.cells #[.int .i64 xi, .int .i64 xk, .int .i64 xt] 42) := ⟨_, rfl⟩
  have bX : Below w.heap.size w wX := by rw [hwX]; exact by repeat (first | exact Below.refl _ _ | refine Below.setCell ?_ (by first | omega | (simp; done) | (simp; omega)) _ | refine below_dN ?_ _ | refine Below.drew ?_ | refine Below.alloc ?_ (by first | omega | (simp; done) | (simp; omega)) _)
  have l2 : w.heap.size < wX.heap.size := by rw [hwX]; simp
  have xX : wX.heap[w.heap.size]? = some (.cells #[.int .i64 xi, .int .i64 xk, .int .i64 xt] 42 (0, 0)) := by rw [hwX]; exact heap_alloc_new w _
  have HR := Lib.hid (show ∀ W, Below wX.heap.size wX W → RdI W A l ∧ W.cell? ⟨b, 1, none⟩ = some (.slice A n cap) ∧ W.frozen? ⟨b, 1, none⟩ = false ∧ (W.cell? ⟨w.heap.size, 0, none⟩ = some (.int .i64 xi) ∧ W.cell? ⟨w.heap.size, 1, none⟩ = some (.int .i64 xk) ∧ W.cell? ⟨w.heap.size, 2, none⟩ = some (.int .i64 xt)) from fun W hb => by
    have b3 : Below w.heap.size w W := bX.trans (hb.mono (by omega))
    have y := (hb.block _ l2).trans xX
    refine ⟨(h.below b3).row.rd, by rw [b3.cell (p := ⟨b, 1, none⟩) hbl]; exact e1, (h.below b3).box.frozen 1, ?_, ?_, ?_⟩ <;> simp [World.cell?, y])
  have hpl1 := hpl0.1
  replace h := Lib.hid h
  replace hs1 := Lib.hid hs1
  replace hs2 := Lib.hid hs2
  replace k1 := Lib.hid k1
  replace k2 := Lib.hid k2
  replace hins := Lib.hid hins
  replace hpl0 := Lib.hid hpl0
  replace hn := Lib.hid hn
  have BX := Lib.hid bX
  clear xX e1 bX hpl1
  unfold vI
  simp only
  go_enter Try.func26, Try.ntmps26
  go_wp2
  rw [← hwX]
  clear hwX
  go_loopw [4] (fun st wr => ∃ (i : Nat), st = .int .i64 (i : Int) ∧ i ≤ p ∧ Below wX.heap.size wX wr) (fun st _ => p - (intOf st).toNat)
  case atStart => exact ⟨0, rfl, by omega, Below.refl _ _⟩
  case round =>
    obtain ⟨i, rfl, hi, hb⟩ := hrel
    have hsz := hb.size
    obtain ⟨hRr, c0, _, x0, x1, x2⟩ := HR.out _ hb
    have hbr : b < wr.heap.size := by omega
    have hxr : w.heap.size < wr.heap.size := by omega
    rcases Nat.lt_or_ge i n with hin | hin
    · obtain ⟨⟨yi, yk, yt⟩, hy⟩ : ∃ y, l[i]? = some y := ⟨_, List.getElem?_eq_getElem (by rw [hn.out]; exact hin)⟩
      obtain ⟨g, rfl, hg, d0, d1, d2⟩ := hRr i _ hy
      simp only at d0 d1 d2
      have r1 : wr.cell? ⟨g, i * 3, none⟩ = some (.int .i64 yi) ∧ wr.cell? ⟨g, i * 3 + 1, none⟩ = some (.int .i64 yk) ∧ wr.cell? ⟨g, i * 3 + 2, none⟩ = some (.int .i64 yt) := ⟨d0, d1, d2⟩
      have r2 : wr.cell? ⟨w.heap.size, 0, none⟩ = some (.int .i64 xi) ∧ wr.cell? ⟨w.heap.size, 1, none⟩ = some (.int .i64 xk) ∧ wr.cell? ⟨w.heap.size, 2, none⟩ = some (.int .i64 xt) := ⟨x0, x1, x2⟩
      obtain ⟨r, hr⟩ : ∃ r, ltI (yi, yk, yt) (xi, xk, xt) = r := ⟨_, rfl⟩
      have C1 := Lib.hid (CB.out _ r hr)
      have q1 : (i : Int) < (n : Int) := by omega
      have q2 : (0 : Int) ≤ (i : Int) := by omega
      have q3 : i < n := hin
      have HB := Lib.hid hb
      have HY := Lib.hid (And.intro hy hr)
      clear d0 d1 d2 x0 x1 x2 hRr hb hy hr
      go_wp2
      go_region_held3 (fun W => Below wr.heap.size wr W ∧ W.cell? ⟨b, 1, none⟩ = some (.slice (some ⟨g, 0, none⟩) n cap) ∧ (W.cell? ⟨g, i * 3, none⟩ = some (.int .i64 yi) ∧ W.cell? ⟨g, i * 3 + 1, none⟩ = some (.int .i64 yk) ∧ W.cell? ⟨g, i * 3 + 2, none⟩ = some (.int .i64 yt)) ∧ (W.cell? ⟨w.heap.size, 0, none⟩ = some (.int .i64 xi) ∧ W.cell? ⟨w.heap.size, 1, none⟩ = some (.int .i64 xk) ∧ W.cell? ⟨w.heap.size, 2, none⟩ = some (.int .i64 xt)))
        (first | assumption | exact pile_items (Below.drew (Below.refl _ _)) hbr hg hxr c0 r1 r2 | exact pile_items (Below.trans (Below.drew (Below.refl _ _)) hb2) hbr hg hxr c0 r1 r2 | exact pile_items (Below.trans (below_dN (Below.refl _ _) _) hb2) hbr hg hxr c0 r1 r2)
        (first
          | (go_at_call 35; refine (C1.out _).mono ?_; rintro e w2 ⟨rfl, hb2⟩))
      have B2 := Lib.hid (below_on HB.out (And.left (by assumption) : Below wr.heap.size wr w2))
      clear hb2
      rename_i hheld
      clear hheld r1 r2 c0
      rcases Nat.lt_or_ge i p with hip | hip
      · obtain rfl : r = true := by rw [← HY.out.2]; exact hlt.out i _ HY.out.1 hip
        go_wp2
        go_roundw
        case rel => exact ⟨i + 1, by simp, by omega, B2.out⟩
        case measure => simp [intOf]; omega
      · obtain rfl : p = i := by omega
        obtain rfl : r = false := by rw [← HY.out.2]; exact hat.out _ HY.out.1
        clear HY C1 q1 q2 q3 HB hsz hbr hxr
        go_wp2
        replace B2 := B2.out
        have bB0 : Below wX.heap.size wX w2.drew := B2.drew
        refine wp_region_T (fun W => W.cell? ⟨b, 1, none⟩ = some (.slice (some ⟨g, 0, none⟩) n cap) ∧ W.cell? ⟨w.heap.size, 0, none⟩ = some (.int .i64 xi) ∧ W.cell? ⟨w.heap.size, 1, none⟩ = some (.int .i64 xk) ∧ W.cell? ⟨w.heap.size, 2, none⟩ = some (.int .i64 xt)) 21 (by kernel_rfl) ?_
        generalize w2.drew = wB at *
        clear B2
        have hsB := bB0.size
        have SW := Lib.hid (show ∀ W, Below wB.heap.size wB W → W.cell? ⟨b, 1, none⟩ = some (.slice (some ⟨g, 0, none⟩) n cap) ∧ W.cell? ⟨w.heap.size, 0, none⟩ = some (.int .i64 xi) ∧ W.cell? ⟨w.heap.size, 1, none⟩ = some (.int .i64 xk) ∧ W.cell? ⟨w.heap.size, 2, none⟩ = some (.int .i64 xt) from fun W hb => by
          have q := HR.out W (bB0.trans (hb.mono (by omega)))
          exact ⟨q.2.1, q.2.2.2.1, q.2.2.2.2.1, q.2.2.2.2.2⟩)
        have FW := Lib.hid (show ∀ W, Below wB.heap.size wB W → W.frozen? ⟨b, 1, none⟩ = false from fun W hb => (HR.out W (bB0.trans (hb.mono (by omega)))).2.2.1)
        have HS1 := Lib.hid (show ∀ W, Below wB.heap.size wB W → SrcI W src1 p (cellsI (l.take p)) from fun W hb => k1.out W (HR.out W (bB0.trans (hb.mono (by omega)))).1)
        have HS2 := Lib.hid (show ∀ W, Below wB.heap.size wB W → SrcI W src2 (n - p) (cellsI (l.drop p)) from fun W hb => k2.out W (HR.out W (bB0.trans (hb.mono (by omega)))).1)
        have BW := Lib.hid (show Below w.heap.size w wB from BX.out.trans (bB0.mono (by omega)))
        have lB : w.heap.size < wB.heap.size := by omega
        have bB : Below wB.heap.size wB wB := Below.refl _ _
        have nB : wB.heap.size ≤ wB.heap.size := Nat.le_refl _
        have c1 := SW.out _ bB
        have hnl := hn.out
        replace hs1 := hs1.out
        replace hs2 := hs2.out
        clear HR k1 k2 BX bB0 hsB CB hlt hat
        refine wpAnyT_free (i := 0) (v := (.pointer (some ⟨b, 0, none⟩))) rfl (by kernel_rfl) (fun _ _ _ h => h) (Or.inl ⟨by rfl, ?_⟩) (fun _ => c1) ?_
        · intro w _; go_simp
        simp only [List.getElem_toArray, List.getElem_cons_zero, List.getElem_cons_succ, Act.put, List.setIfInBounds_toArray, List.set_cons_zero, List.set_cons_succ]
        refine wpAnyT_free (i := 2) (v := (.pointer (some ⟨b, 0, none⟩))) rfl (by kernel_rfl) (fun _ _ _ h => h) (Or.inl ⟨by rfl, ?_⟩) (fun _ => c1) ?_
        · intro w _; go_simp
        simp only [List.getElem_toArray, List.getElem_cons_zero, List.getElem_cons_succ, Act.put, List.setIfInBounds_toArray, List.set_cons_zero, List.set_cons_succ]
        refine wpAnyT_free (i := 3) (v := (.pointer (some ⟨b, 0, none⟩))) rfl (by kernel_rfl) (fun _ _ _ h => h) (Or.inl ⟨by rfl, ?_⟩) (fun _ => c1) ?_
        · intro w _; go_simp
        simp only [List.getElem_toArray, List.getElem_cons_zero, List.getElem_cons_succ, Act.put, List.setIfInBounds_toArray, List.set_cons_zero, List.set_cons_succ]
        refine wpAnyT_free (i := 4) (v := (.pointer (some ⟨b, 1, none⟩))) rfl (by kernel_rfl) (fun _ _ _ h => h) (Or.inl ⟨by rfl, ?_⟩) (fun _ => c1) ?_
        · intro w _; go_simp
        simp only [List.getElem_toArray, List.getElem_cons_zero, List.getElem_cons_succ, Act.put, List.setIfInBounds_toArray, List.set_cons_zero, List.set_cons_succ]
        refine wpAnyT_take (i := 5) (v := (.slice (some ⟨g, 0, none⟩) n cap)) rfl (by kernel_rfl) (fun _ _ _ h => h) (Or.inl ⟨by rfl, ?_⟩) c1 ?_
        · intro w hSw; obtain ⟨s1, s2, s3, s4⟩ := hSw; go_simp
        simp only [List.getElem_toArray, List.getElem_cons_zero, List.getElem_cons_succ, Act.put, List.setIfInBounds_toArray, List.set_cons_zero, List.set_cons_succ]
        refine wpAnyT_free (i := 6) (v := (.int .i64 (p : Int))) rfl (by kernel_rfl) (fun _ _ _ h => h) (Or.inl ⟨by rfl, ?_⟩) (fun _ => c1) ?_
        · intro w _; go_simp
        simp only [List.getElem_toArray, List.getElem_cons_zero, List.getElem_cons_succ, Act.put, List.setIfInBounds_toArray, List.set_cons_zero, List.set_cons_succ]
        refine wpAnyT_free (i := 7) (v := src1) rfl (by kernel_rfl) (fun _ _ _ h => h) (Or.inl ⟨by rfl, ?_⟩) (fun _ => c1) ?_
        · intro w _; go_simp
        simp only [List.getElem_toArray, List.getElem_cons_zero, List.getElem_cons_succ, Act.put, List.setIfInBounds_toArray, List.set_cons_zero, List.set_cons_succ]
        refine wpAnyT_take (i := 9) (v := (.agg #[.int .i64 xi, .int .i64 xk, .int .i64 xt])) rfl (by kernel_rfl) (fun _ _ _ h => h) (Or.inl ⟨by rfl, ?_⟩) c1 ?_
        · intro w hSw; obtain ⟨s1, s2, s3, s4⟩ := hSw; go_simp
        simp only [List.getElem_toArray, List.getElem_cons_zero, List.getElem_cons_succ, Act.put, List.setIfInBounds_toArray, List.set_cons_zero, List.set_cons_succ]
        refine wpAnyT_free (i := 12) (v := (.pointer (some ⟨b, 0, none⟩))) rfl (by kernel_rfl) (fun _ _ _ h => h) (Or.inl ⟨by rfl, ?_⟩) (fun _ => c1) ?_
        · intro w _; go_simp
        simp only [List.getElem_toArray, List.getElem_cons_zero, List.getElem_cons_succ, Act.put, List.setIfInBounds_toArray, List.set_cons_zero, List.set_cons_succ]
        refine wpAnyT_free (i := 13) (v := (.pointer (some ⟨b, 0, none⟩))) rfl (by kernel_rfl) (fun _ _ _ h => h) (Or.inl ⟨by rfl, ?_⟩) (fun _ => c1) ?_
        · intro w _; go_simp
        simp only [List.getElem_toArray, List.getElem_cons_zero, List.getElem_cons_succ, Act.put, List.setIfInBounds_toArray, List.set_cons_zero, List.set_cons_succ]
        refine wpAnyT_free (i := 14) (v := (.pointer (some ⟨b, 1, none⟩))) rfl (by kernel_rfl) (fun _ _ _ h => h) (Or.inl ⟨by rfl, ?_⟩) (fun _ => c1) ?_
        · intro w _; go_simp
        simp only [List.getElem_toArray, List.getElem_cons_zero, List.getElem_cons_succ, Act.put, List.setIfInBounds_toArray, List.set_cons_zero, List.set_cons_succ]
        refine wpAnyT_take (i := 15) (v := (.slice (some ⟨g, 0, none⟩) n cap)) rfl (by kernel_rfl) (fun _ _ _ h => h) (Or.inl ⟨by rfl, ?_⟩) c1 ?_
        · intro w hSw; obtain ⟨s1, s2, s3, s4⟩ := hSw; go_simp
        simp only [List.getElem_toArray, List.getElem_cons_zero, List.getElem_cons_succ, Act.put, List.setIfInBounds_toArray, List.set_cons_zero, List.set_cons_succ]
        refine wpAnyT_free (i := 16) (v := (.int .i64 (p : Int))) rfl (by kernel_rfl) (fun _ _ _ h => h) (Or.inl ⟨by rfl, ?_⟩) (fun _ => c1) ?_
        · intro w _; go_simp
        simp only [List.getElem_toArray, List.getElem_cons_zero, List.getElem_cons_succ, Act.put, List.setIfInBounds_toArray, List.set_cons_zero, List.set_cons_succ]
        refine wpAnyT_free (i := 17) (v := src2) rfl (by kernel_rfl) (fun _ _ _ h => h) (Or.inl ⟨by rfl, ?_⟩) (fun _ => c1) ?_
        · intro w _; go_simp
        simp only [List.getElem_toArray, List.getElem_cons_zero, List.getElem_cons_succ, Act.put, List.setIfInBounds_toArray, List.set_cons_zero, List.set_cons_succ]
        refine wpAnyT_ready (rs := [1, 10]) (by kernel_rfl) (by simp) ?_
        refine AllT.cons rfl (fun K hK => ?_) (AllT.cons rfl (fun K hK => ?_) (AllT.nil))
        · skip
          go_simp
          have b1 := bB.alloc nB (.cells #[] 42)
          have E1 := World.ownsRow_made (base := wB.heap.size) (e := 42) (size := 3) wB #[] 0 nB (by decide) rfl
          have n1 := b1.size
          generalize wB.alloc (.cells #[] 42) = W1 at *
          generalize Value.slice (some ⟨wB.heap.size, 0, none⟩) 0 0 = v1 at *
          refine hK _ _ (fun _ => SW.out _ b1) ?_
          clear hK K
          try simp only [List.getElem_toArray, List.getElem_cons_zero, List.getElem_cons_succ, Act.put, List.setIfInBounds_toArray, List.set_cons_zero, List.set_cons_succ]
          refine wpAnyT_ready (rs := [8, 10]) (by kernel_rfl) (by simp) ?_
          refine AllT.cons rfl (fun K hK => ?_) (AllT.cons rfl (fun K hK => ?_) (AllT.nil))
          · skip
            obtain ⟨v2, W2, r2, E2, g2, q2⟩ := run_append_src (l := l.take p) 36 E1 (HS1.out _ b1) (by rw [List.length_take]; omega) n1 (by omega)
            have b2 := made_on b1 E1 g2 n1
            have n2 := b2.size
            refine step_append_of rfl (.tmp 26) (.tmp 32) 36 36 rfl v1 src1 (by rfl) (by rfl) r2 ?_
            refine hK _ _ (fun _ => SW.out _ b2) ?_
            clear hK K
            try simp only [List.getElem_toArray, List.getElem_cons_zero, List.getElem_cons_succ, Act.put, List.setIfInBounds_toArray, List.set_cons_zero, List.set_cons_succ]
            refine wpAnyT_ready (rs := [10]) (by kernel_rfl) (by simp) ?_
            refine AllT.cons rfl (fun K hK => ?_) (AllT.nil)
            go_simp
            have b3 := b2.alloc n2 (.cells #[.int .i64 xi, .int .i64 xk, .int .i64 xt] 42)
            have T3 := heap_alloc_new W2 (.cells #[.int .i64 xi, .int .i64 xk, .int .i64 xt] 42)
            have ne3 : v2.ownBlock ≠ some W2.heap.size := fun e => absurd (E2.lt _ e).2 (Nat.lt_irrefl _)
            have E3 := E2.alloc (.cells #[.int .i64 xi, .int .i64 xk, .int .i64 xt] 42)
            have n3 := b3.size
            have lt3 : W2.heap.size < (W2.alloc (.cells #[.int .i64 xi, .int .i64 xk, .int .i64 xt] 42)).heap.size := by simp
            generalize W2.alloc (.cells #[.int .i64 xi, .int .i64 xk, .int .i64 xt] 42) = W3 at *
            generalize W2.heap.size = B3 at *
            refine hK _ _ (fun _ => SW.out _ b3) ?_
            clear hK K
            try simp only [List.getElem_toArray, List.getElem_cons_zero, List.getElem_cons_succ, Act.put, List.setIfInBounds_toArray, List.set_cons_zero, List.set_cons_succ]
            refine wpAnyT_ready (rs := [11]) (by kernel_rfl) (by simp) ?_
            refine AllT.cons rfl (fun K hK => ?_) (AllT.nil)
            obtain ⟨v4, W4, r4, E4, g4, q4⟩ := run_append_src (l := [(xi, xk, xt)]) (m := 1) 36 E3 (src_one T3) rfl n3 (by omega)
            have b4 := made_on b3 E3 g4 n3
            have n4 := b4.size
            refine step_append_of rfl (.tmp 33) (.tmp 35) 36 36 rfl v2 (.slice (some ⟨B3, 0, none⟩) 1 1) (by rfl) (by rfl) r4 ?_
            refine hK _ _ (fun _ => SW.out _ b4) ?_
            clear hK K
            try simp only [List.getElem_toArray, List.getElem_cons_zero, List.getElem_cons_succ, Act.put, List.setIfInBounds_toArray, List.set_cons_zero, List.set_cons_succ]
            refine wpAnyT_ready (rs := [18]) (by kernel_rfl) (by simp) ?_
            refine AllT.cons rfl (fun K hK => ?_) (AllT.nil)
            obtain ⟨v5, W5, r5, E5, g5, q5⟩ := run_append_src (l := l.drop p) 36 E4 (HS2.out _ b4) (by rw [List.length_drop]; omega) n4 (by omega)
            have b5 := made_on b4 E4 g5 n4
            obtain ⟨A5, d5, rfl⟩ := own_any E5
            refine step_append_of rfl (.tmp 36) (.tmp 42) 36 36 rfl v4 src2 (by rfl) (by rfl) r5 ?_
            have e5 := SW.out _ b5
            have f5 := FW.out _ b5
            refine hK _ _ (fun _ => e5) ?_
            clear hK K
            try simp only [List.getElem_toArray, List.getElem_cons_zero, List.getElem_cons_succ, Act.put, List.setIfInBounds_toArray, List.set_cons_zero, List.set_cons_succ]
            refine wpAnyT_free (i := 19) (v := (.pointer (some ⟨b, 0, none⟩))) rfl (by kernel_rfl) (fun _ _ _ h => h) (Or.inl ⟨by rfl, ?_⟩) (fun _ => e5) ?_
            · intro w _; go_simp
            simp only [List.getElem_toArray, List.getElem_cons_zero, List.getElem_cons_succ, Act.put, List.setIfInBounds_toArray, List.set_cons_zero, List.set_cons_succ]
            refine wpAnyT_free (i := 20) (v := (.pointer (some ⟨b, 1, none⟩))) rfl (by kernel_rfl) (fun _ _ _ h => h) (Or.inl ⟨by rfl, ?_⟩) (fun _ => e5) ?_
            · intro w _; go_simp
            simp only [List.getElem_toArray, List.getElem_cons_zero, List.getElem_cons_succ, Act.put, List.setIfInBounds_toArray, List.set_cons_zero, List.set_cons_succ]
            refine wpAnyT_ready (rs := [21]) (by kernel_rfl) (by simp) ?_
            refine AllT.cons rfl (fun K hK => ?_) (AllT.nil)
            have KK := Lib.hid (And.intro b5 E5)
            have e5' := e5.1
            clear b1 E1 n1 r2 E2 g2 q2 b2 n2 b3 T3 ne3 E3 n3 lt3 r4 E4 g4 q4 b4 n4 r5 g5 q5 E5 b5 e5
            go_simp
            refine hK _ _ (fun h => absurd (h.symm.trans (by kernel_rfl)) Bool.false_ne_true) ?_
            clear hK K
            try simp only [List.getElem_toArray, List.getElem_cons_zero, List.getElem_cons_succ, Act.put, List.setIfInBounds_toArray, List.set_cons_zero, List.set_cons_succ]
            refine wpAnyT_done (by kernel_rfl) ?_ _
            go_wp2
            go_end0
            exact ⟨rfl, rput_shut hpl0.out hbl lB h.out BW.out KK.out.1 KK.out.2 hins.out⟩
          · skip
            go_simp
            have b6 := b1.alloc n1 (.cells #[.int .i64 xi, .int .i64 xk, .int .i64 xt] 42)
            have T6 := heap_alloc_new W1 (.cells #[.int .i64 xi, .int .i64 xk, .int .i64 xt] 42)
            have ne6 : v1.ownBlock ≠ some W1.heap.size := fun e => absurd (E1.lt _ e).2 (Nat.lt_irrefl _)
            have E6 := E1.alloc (.cells #[.int .i64 xi, .int .i64 xk, .int .i64 xt] 42)
            have n6 := b6.size
            have lt6 : W1.heap.size < (W1.alloc (.cells #[.int .i64 xi, .int .i64 xk, .int .i64 xt] 42)).heap.size := by simp
            generalize W1.alloc (.cells #[.int .i64 xi, .int .i64 xk, .int .i64 xt] 42) = W6 at *
            generalize W1.heap.size = B6 at *
            refine hK _ _ (fun _ => SW.out _ b6) ?_
            clear hK K
            try simp only [List.getElem_toArray, List.getElem_cons_zero, List.getElem_cons_succ, Act.put, List.setIfInBounds_toArray, List.set_cons_zero, List.set_cons_succ]
            refine wpAnyT_ready (rs := [8]) (by kernel_rfl) (by simp) ?_
            refine AllT.cons rfl (fun K hK => ?_) (AllT.nil)
            obtain ⟨v7, W7, r7, E7, g7, q7⟩ := run_append_src (l := l.take p) 36 E6 (HS1.out _ b6) (by rw [List.length_take]; omega) n6 (by omega)
            have b7 := made_on b6 E6 g7 n6
            have n7 := b7.size
            have T7 := (g7.block B6 lt6 (fun e => ne6 e.symm)).trans T6
            have ne7 : v7.ownBlock ≠ some (B6) := fun e => by rcases q7 with q | q <;> rw [q] at e <;> first | exact ne6 e | (simp at e; omega)
            have lt7 := Nat.lt_of_lt_of_le lt6 g7.size
            refine step_append_of rfl (.tmp 26) (.tmp 32) 36 36 rfl v1 src1 (by rfl) (by rfl) r7 ?_
            refine hK _ _ (fun _ => SW.out _ b7) ?_
            clear hK K
            try simp only [List.getElem_toArray, List.getElem_cons_zero, List.getElem_cons_succ, Act.put, List.setIfInBounds_toArray, List.set_cons_zero, List.set_cons_succ]
            refine wpAnyT_ready (rs := [11]) (by kernel_rfl) (by simp) ?_
            refine AllT.cons rfl (fun K hK => ?_) (AllT.nil)
            obtain ⟨v8, W8, r8, E8, g8, q8⟩ := run_append_src (l := [(xi, xk, xt)]) (m := 1) 36 E7 (src_one T7) rfl n7 (by omega)
            have b8 := made_on b7 E7 g8 n7
            have n8 := b8.size
            refine step_append_of rfl (.tmp 33) (.tmp 35) 36 36 rfl v7 (.slice (some ⟨B6, 0, none⟩) 1 1) (by rfl) (by rfl) r8 ?_
            refine hK _ _ (fun _ => SW.out _ b8) ?_
            clear hK K
            try simp only [List.getElem_toArray, List.getElem_cons_zero, List.getElem_cons_succ, Act.put, List.setIfInBounds_toArray, List.set_cons_zero, List.set_cons_succ]
            refine wpAnyT_ready (rs := [18]) (by kernel_rfl) (by simp) ?_
            refine AllT.cons rfl (fun K hK => ?_) (AllT.nil)
            obtain ⟨v9, W9, r9, E9, g9, q9⟩ := run_append_src (l := l.drop p) 36 E8 (HS2.out _ b8) (by rw [List.length_drop]; omega) n8 (by omega)
            have b9 := made_on b8 E8 g9 n8
            obtain ⟨A9, d9, rfl⟩ := own_any E9
            refine step_append_of rfl (.tmp 36) (.tmp 42) 36 36 rfl v8 src2 (by rfl) (by rfl) r9 ?_
            have e9 := SW.out _ b9
            have f9 := FW.out _ b9
            refine hK _ _ (fun _ => e9) ?_
            clear hK K
            try simp only [List.getElem_toArray, List.getElem_cons_zero, List.getElem_cons_succ, Act.put, List.setIfInBounds_toArray, List.set_cons_zero, List.set_cons_succ]
            refine wpAnyT_free (i := 19) (v := (.pointer (some ⟨b, 0, none⟩))) rfl (by kernel_rfl) (fun _ _ _ h => h) (Or.inl ⟨by rfl, ?_⟩) (fun _ => e9) ?_
            · intro w _; go_simp
            simp only [List.getElem_toArray, List.getElem_cons_zero, List.getElem_cons_succ, Act.put, List.setIfInBounds_toArray, List.set_cons_zero, List.set_cons_succ]
            refine wpAnyT_free (i := 20) (v := (.pointer (some ⟨b, 1, none⟩))) rfl (by kernel_rfl) (fun _ _ _ h => h) (Or.inl ⟨by rfl, ?_⟩) (fun _ => e9) ?_
            · intro w _; go_simp
            simp only [List.getElem_toArray, List.getElem_cons_zero, List.getElem_cons_succ, Act.put, List.setIfInBounds_toArray, List.set_cons_zero, List.set_cons_succ]
            refine wpAnyT_ready (rs := [21]) (by kernel_rfl) (by simp) ?_
            refine AllT.cons rfl (fun K hK => ?_) (AllT.nil)
            have KK := Lib.hid (And.intro b9 E9)
            have e9' := e9.1
            clear b1 E1 n1 b6 T6 ne6 E6 n6 lt6 r7 E7 g7 q7 b7 n7 T7 ne7 lt7 r8 E8 g8 q8 b8 n8 r9 g9 q9 E9 b9 e9
            go_simp
            refine hK _ _ (fun h => absurd (h.symm.trans (by kernel_rfl)) Bool.false_ne_true) ?_
            clear hK K
            try simp only [List.getElem_toArray, List.getElem_cons_zero, List.getElem_cons_succ, Act.put, List.setIfInBounds_toArray, List.set_cons_zero, List.set_cons_succ]
            refine wpAnyT_done (by kernel_rfl) ?_ _
            go_wp2
            go_end0
            exact ⟨rfl, rput_shut hpl0.out hbl lB h.out BW.out KK.out.1 KK.out.2 hins.out⟩
        · skip
          go_simp
          have b10 := bB.alloc nB (.cells #[.int .i64 xi, .int .i64 xk, .int .i64 xt] 42)
          have T10 := heap_alloc_new wB (.cells #[.int .i64 xi, .int .i64 xk, .int .i64 xt] 42)
          have n10 := b10.size
          have lt10 : wB.heap.size < (wB.alloc (.cells #[.int .i64 xi, .int .i64 xk, .int .i64 xt] 42)).heap.size := by simp
          generalize wB.alloc (.cells #[.int .i64 xi, .int .i64 xk, .int .i64 xt] 42) = W10 at *
          refine hK _ _ (fun _ => SW.out _ b10) ?_
          clear hK K
          try simp only [List.getElem_toArray, List.getElem_cons_zero, List.getElem_cons_succ, Act.put, List.setIfInBounds_toArray, List.set_cons_zero, List.set_cons_succ]
          refine wpAnyT_ready (rs := [1]) (by kernel_rfl) (by simp) ?_
          refine AllT.cons rfl (fun K hK => ?_) (AllT.nil)
          go_simp
          have b11 := b10.alloc n10 (.cells #[] 42)
          have E11 := World.ownsRow_made (base := wB.heap.size) (e := 42) (size := 3) W10 #[] 0 n10 (by decide) rfl
          have T11 := (Below.heap_alloc W10 (.cells #[] 42) wB.heap.size lt10).trans T10
          have ne11 : (Value.slice (some ⟨W10.heap.size, 0, none⟩) 0 0).ownBlock ≠ some (wB.heap.size) := fun e => by simp [Value.ownBlock] at e; omega
          have lt11 : wB.heap.size < (W10.alloc (.cells #[] 42)).heap.size := by simp; omega
          have n11 := b11.size
          generalize W10.alloc (.cells #[] 42) = W11 at *
          generalize Value.slice (some ⟨W10.heap.size, 0, none⟩) 0 0 = v11 at *
          refine hK _ _ (fun _ => SW.out _ b11) ?_
          clear hK K
          try simp only [List.getElem_toArray, List.getElem_cons_zero, List.getElem_cons_succ, Act.put, List.setIfInBounds_toArray, List.set_cons_zero, List.set_cons_succ]
          refine wpAnyT_ready (rs := [8]) (by kernel_rfl) (by simp) ?_
          refine AllT.cons rfl (fun K hK => ?_) (AllT.nil)
          obtain ⟨v12, W12, r12, E12, g12, q12⟩ := run_append_src (l := l.take p) 36 E11 (HS1.out _ b11) (by rw [List.length_take]; omega) n11 (by omega)
          have b12 := made_on b11 E11 g12 n11
          have n12 := b12.size
          have T12 := (g12.block wB.heap.size lt11 (fun e => ne11 e.symm)).trans T11
          have ne12 : v12.ownBlock ≠ some (wB.heap.size) := fun e => by rcases q12 with q | q <;> rw [q] at e <;> first | exact ne11 e | (simp at e; omega)
          have lt12 := Nat.lt_of_lt_of_le lt11 g12.size
          refine step_append_of rfl (.tmp 26) (.tmp 32) 36 36 rfl v11 src1 (by rfl) (by rfl) r12 ?_
          refine hK _ _ (fun _ => SW.out _ b12) ?_
          clear hK K
          try simp only [List.getElem_toArray, List.getElem_cons_zero, List.getElem_cons_succ, Act.put, List.setIfInBounds_toArray, List.set_cons_zero, List.set_cons_succ]
          refine wpAnyT_ready (rs := [11]) (by kernel_rfl) (by simp) ?_
          refine AllT.cons rfl (fun K hK => ?_) (AllT.nil)
          obtain ⟨v13, W13, r13, E13, g13, q13⟩ := run_append_src (l := [(xi, xk, xt)]) (m := 1) 36 E12 (src_one T12) rfl n12 (by omega)
          have b13 := made_on b12 E12 g13 n12
          have n13 := b13.size
          refine step_append_of rfl (.tmp 33) (.tmp 35) 36 36 rfl v12 (.slice (some ⟨wB.heap.size, 0, none⟩) 1 1) (by rfl) (by rfl) r13 ?_
          refine hK _ _ (fun _ => SW.out _ b13) ?_
          clear hK K
          try simp only [List.getElem_toArray, List.getElem_cons_zero, List.getElem_cons_succ, Act.put, List.setIfInBounds_toArray, List.set_cons_zero, List.set_cons_succ]
          refine wpAnyT_ready (rs := [18]) (by kernel_rfl) (by simp) ?_
          refine AllT.cons rfl (fun K hK => ?_) (AllT.nil)
          obtain ⟨v14, W14, r14, E14, g14, q14⟩ := run_append_src (l := l.drop p) 36 E13 (HS2.out _ b13) (by rw [List.length_drop]; omega) n13 (by omega)
          have b14 := made_on b13 E13 g14 n13
          obtain ⟨A14, d14, rfl⟩ := own_any E14
          refine step_append_of rfl (.tmp 36) (.tmp 42) 36 36 rfl v13 src2 (by rfl) (by rfl) r14 ?_
          have e14 := SW.out _ b14
          have f14 := FW.out _ b14
          refine hK _ _ (fun _ => e14) ?_
          clear hK K
          try simp only [List.getElem_toArray, List.getElem_cons_zero, List.getElem_cons_succ, Act.put, List.setIfInBounds_toArray, List.set_cons_zero, List.set_cons_succ]
          refine wpAnyT_free (i := 19) (v := (.pointer (some ⟨b, 0, none⟩))) rfl (by kernel_rfl) (fun _ _ _ h => h) (Or.inl ⟨by rfl, ?_⟩) (fun _ => e14) ?_
          · intro w _; go_simp
          simp only [List.getElem_toArray, List.getElem_cons_zero, List.getElem_cons_succ, Act.put, List.setIfInBounds_toArray, List.set_cons_zero, List.set_cons_succ]
          refine wpAnyT_free (i := 20) (v := (.pointer (some ⟨b, 1, none⟩))) rfl (by kernel_rfl) (fun _ _ _ h => h) (Or.inl ⟨by rfl, ?_⟩) (fun _ => e14) ?_
          · intro w _; go_simp
          simp only [List.getElem_toArray, List.getElem_cons_zero, List.getElem_cons_succ, Act.put, List.setIfInBounds_toArray, List.set_cons_zero, List.set_cons_succ]
          refine wpAnyT_ready (rs := [21]) (by kernel_rfl) (by simp) ?_
          refine AllT.cons rfl (fun K hK => ?_) (AllT.nil)
          have KK := Lib.hid (And.intro b14 E14)
          have e14' := e14.1
          clear b10 T10 n10 lt10 b11 E11 T11 ne11 lt11 n11 r12 E12 g12 q12 b12 n12 T12 ne12 lt12 r13 E13 g13 q13 b13 n13 r14 g14 q14 E14 b14 e14
          go_simp
          refine hK _ _ (fun h => absurd (h.symm.trans (by kernel_rfl)) Bool.false_ne_true) ?_
          clear hK K
          try simp only [List.getElem_toArray, List.getElem_cons_zero, List.getElem_cons_succ, Act.put, List.setIfInBounds_toArray, List.set_cons_zero, List.set_cons_succ]
          refine wpAnyT_done (by kernel_rfl) ?_ _
          go_wp2
          go_end0
          exact ⟨rfl, rput_shut hpl0.out hbl lB h.out BW.out KK.out.1 KK.out.2 hins.out⟩
    · obtain rfl : p = i := by omega
      have q1 : decide ((p : Int) < (n : Int)) = false := decide_eq_false (by omega)
      have q2 : decide (p < n) = false := decide_eq_false (by omega)
      have HB := Lib.hid hb
      clear x0 x1 x2 hRr hb hsz hbr hxr hin
      go_wp2
      go_quiet (fail)
      have B2 := Lib.hid (below_dN HB.out nq)
      generalize wr.drewN nq = w2 at *
      clear q1 q2 HB c0
      go_wp2
      replace B2 := B2.out
      have bB0 : Below wX.heap.size wX w2.drew := B2.drew
      refine wp_region_T (fun W => W.cell? ⟨b, 1, none⟩ = some (.slice A n cap) ∧ W.cell? ⟨w.heap.size, 0, none⟩ = some (.int .i64 xi) ∧ W.cell? ⟨w.heap.size, 1, none⟩ = some (.int .i64 xk) ∧ W.cell? ⟨w.heap.size, 2, none⟩ = some (.int .i64 xt)) 21 (by kernel_rfl) ?_
      generalize w2.drew = wB at *
      clear B2
      have hsB := bB0.size
      have SW := Lib.hid (show ∀ W, Below wB.heap.size wB W → W.cell? ⟨b, 1, none⟩ = some (.slice A n cap) ∧ W.cell? ⟨w.heap.size, 0, none⟩ = some (.int .i64 xi) ∧ W.cell? ⟨w.heap.size, 1, none⟩ = some (.int .i64 xk) ∧ W.cell? ⟨w.heap.size, 2, none⟩ = some (.int .i64 xt) from fun W hb => by
        have q := HR.out W (bB0.trans (hb.mono (by omega)))
        exact ⟨q.2.1, q.2.2.2.1, q.2.2.2.2.1, q.2.2.2.2.2⟩)
      have FW := Lib.hid (show ∀ W, Below wB.heap.size wB W → W.frozen? ⟨b, 1, none⟩ = false from fun W hb => (HR.out W (bB0.trans (hb.mono (by omega)))).2.2.1)
      have HS1 := Lib.hid (show ∀ W, Below wB.heap.size wB W → SrcI W src1 p (cellsI (l.take p)) from fun W hb => k1.out W (HR.out W (bB0.trans (hb.mono (by omega)))).1)
      have HS2 := Lib.hid (show ∀ W, Below wB.heap.size wB W → SrcI W src2 (n - p) (cellsI (l.drop p)) from fun W hb => k2.out W (HR.out W (bB0.trans (hb.mono (by omega)))).1)
      have BW := Lib.hid (show Below w.heap.size w wB from BX.out.trans (bB0.mono (by omega)))
      have lB : w.heap.size < wB.heap.size := by omega
      have bB : Below wB.heap.size wB wB := Below.refl _ _
      have nB : wB.heap.size ≤ wB.heap.size := Nat.le_refl _
      have c1 := SW.out _ bB
      have hnl := hn.out
      replace hs1 := hs1.out
      replace hs2 := hs2.out
      clear HR k1 k2 BX bB0 hsB CB hlt hat
      refine wpAnyT_free (i := 0) (v := (.pointer (some ⟨b, 0, none⟩))) rfl (by kernel_rfl) (fun _ _ _ h => h) (Or.inl ⟨by rfl, ?_⟩) (fun _ => c1) ?_
      · intro w _; go_simp
      simp only [List.getElem_toArray, List.getElem_cons_zero, List.getElem_cons_succ, Act.put, List.setIfInBounds_toArray, List.set_cons_zero, List.set_cons_succ]
      refine wpAnyT_free (i := 2) (v := (.pointer (some ⟨b, 0, none⟩))) rfl (by kernel_rfl) (fun _ _ _ h => h) (Or.inl ⟨by rfl, ?_⟩) (fun _ => c1) ?_
      · intro w _; go_simp
      simp only [List.getElem_toArray, List.getElem_cons_zero, List.getElem_cons_succ, Act.put, List.setIfInBounds_toArray, List.set_cons_zero, List.set_cons_succ]
      refine wpAnyT_free (i := 3) (v := (.pointer (some ⟨b, 0, none⟩))) rfl (by kernel_rfl) (fun _ _ _ h => h) (Or.inl ⟨by rfl, ?_⟩) (fun _ => c1) ?_
      · intro w _; go_simp
      simp only [List.getElem_toArray, List.getElem_cons_zero, List.getElem_cons_succ, Act.put, List.setIfInBounds_toArray, List.set_cons_zero, List.set_cons_succ]
      refine wpAnyT_free (i := 4) (v := (.pointer (some ⟨b, 1, none⟩))) rfl (by kernel_rfl) (fun _ _ _ h => h) (Or.inl ⟨by rfl, ?_⟩) (fun _ => c1) ?_
      · intro w _; go_simp
      simp only [List.getElem_toArray, List.getElem_cons_zero, List.getElem_cons_succ, Act.put, List.setIfInBounds_toArray, List.set_cons_zero, List.set_cons_succ]
      refine wpAnyT_take (i := 5) (v := (.slice A n cap)) rfl (by kernel_rfl) (fun _ _ _ h => h) (Or.inl ⟨by rfl, ?_⟩) c1 ?_
      · intro w hSw; obtain ⟨s1, s2, s3, s4⟩ := hSw; go_simp
      simp only [List.getElem_toArray, List.getElem_cons_zero, List.getElem_cons_succ, Act.put, List.setIfInBounds_toArray, List.set_cons_zero, List.set_cons_succ]
      refine wpAnyT_free (i := 6) (v := (.int .i64 (p : Int))) rfl (by kernel_rfl) (fun _ _ _ h => h) (Or.inl ⟨by rfl, ?_⟩) (fun _ => c1) ?_
      · intro w _; go_simp
      simp only [List.getElem_toArray, List.getElem_cons_zero, List.getElem_cons_succ, Act.put, List.setIfInBounds_toArray, List.set_cons_zero, List.set_cons_succ]
      refine wpAnyT_free (i := 7) (v := src1) rfl (by kernel_rfl) (fun _ _ _ h => h) (Or.inl ⟨by rfl, ?_⟩) (fun _ => c1) ?_
      · intro w _; go_simp
      simp only [List.getElem_toArray, List.getElem_cons_zero, List.getElem_cons_succ, Act.put, List.setIfInBounds_toArray, List.set_cons_zero, List.set_cons_succ]
      refine wpAnyT_take (i := 9) (v := (.agg #[.int .i64 xi, .int .i64 xk, .int .i64 xt])) rfl (by kernel_rfl) (fun _ _ _ h => h) (Or.inl ⟨by rfl, ?_⟩) c1 ?_
      · intro w hSw; obtain ⟨s1, s2, s3, s4⟩ := hSw; go_simp
      simp only [List.getElem_toArray, List.getElem_cons_zero, List.getElem_cons_succ, Act.put, List.setIfInBounds_toArray, List.set_cons_zero, List.set_cons_succ]
      refine wpAnyT_free (i := 12) (v := (.pointer (some ⟨b, 0, none⟩))) rfl (by kernel_rfl) (fun _ _ _ h => h) (Or.inl ⟨by rfl, ?_⟩) (fun _ => c1) ?_
      · intro w _; go_simp
      simp only [List.getElem_toArray, List.getElem_cons_zero, List.getElem_cons_succ, Act.put, List.setIfInBounds_toArray, List.set_cons_zero, List.set_cons_succ]
      refine wpAnyT_free (i := 13) (v := (.pointer (some ⟨b, 0, none⟩))) rfl (by kernel_rfl) (fun _ _ _ h => h) (Or.inl ⟨by rfl, ?_⟩) (fun _ => c1) ?_
      · intro w _; go_simp
      simp only [List.getElem_toArray, List.getElem_cons_zero, List.getElem_cons_succ, Act.put, List.setIfInBounds_toArray, List.set_cons_zero, List.set_cons_succ]
      refine wpAnyT_free (i := 14) (v := (.pointer (some ⟨b, 1, none⟩))) rfl (by kernel_rfl) (fun _ _ _ h => h) (Or.inl ⟨by rfl, ?_⟩) (fun _ => c1) ?_
      · intro w _; go_simp
      simp only [List.getElem_toArray, List.getElem_cons_zero, List.getElem_cons_succ, Act.put, List.setIfInBounds_toArray, List.set_cons_zero, List.set_cons_succ]
      refine wpAnyT_take (i := 15) (v := (.slice A n cap)) rfl (by kernel_rfl) (fun _ _ _ h => h) (Or.inl ⟨by rfl, ?_⟩) c1 ?_
      · intro w hSw; obtain ⟨s1, s2, s3, s4⟩ := hSw; go_simp
      simp only [List.getElem_toArray, List.getElem_cons_zero, List.getElem_cons_succ, Act.put, List.setIfInBounds_toArray, List.set_cons_zero, List.set_cons_succ]
      refine wpAnyT_free (i := 16) (v := (.int .i64 (p : Int))) rfl (by kernel_rfl) (fun _ _ _ h => h) (Or.inl ⟨by rfl, ?_⟩) (fun _ => c1) ?_
      · intro w _; go_simp
      simp only [List.getElem_toArray, List.getElem_cons_zero, List.getElem_cons_succ, Act.put, List.setIfInBounds_toArray, List.set_cons_zero, List.set_cons_succ]
      refine wpAnyT_free (i := 17) (v := src2) rfl (by kernel_rfl) (fun _ _ _ h => h) (Or.inl ⟨by rfl, ?_⟩) (fun _ => c1) ?_
      · intro w _; go_simp
      simp only [List.getElem_toArray, List.getElem_cons_zero, List.getElem_cons_succ, Act.put, List.setIfInBounds_toArray, List.set_cons_zero, List.set_cons_succ]
      refine wpAnyT_ready (rs := [1, 10]) (by kernel_rfl) (by simp) ?_
      refine AllT.cons rfl (fun K hK => ?_) (AllT.cons rfl (fun K hK => ?_) (AllT.nil))
      · skip
        go_simp
        have b1 := bB.alloc nB (.cells #[] 42)
        have E1 := World.ownsRow_made (base := wB.heap.size) (e := 42) (size := 3) wB #[] 0 nB (by decide) rfl
        have n1 := b1.size
        generalize wB.alloc (.cells #[] 42) = W1 at *
        generalize Value.slice (some ⟨wB.heap.size, 0, none⟩) 0 0 = v1 at *
        refine hK _ _ (fun _ => SW.out _ b1) ?_
        clear hK K
        try simp only [List.getElem_toArray, List.getElem_cons_zero, List.getElem_cons_succ, Act.put, List.setIfInBounds_toArray, List.set_cons_zero, List.set_cons_succ]
        refine wpAnyT_ready (rs := [8, 10]) (by kernel_rfl) (by simp) ?_
        refine AllT.cons rfl (fun K hK => ?_) (AllT.cons rfl (fun K hK => ?_) (AllT.nil))
        · skip
          obtain ⟨v2, W2, r2, E2, g2, q2⟩ := run_append_src (l := l.take p) 36 E1 (HS1.out _ b1) (by rw [List.length_take]; omega) n1 (by omega)
          have b2 := made_on b1 E1 g2 n1
          have n2 := b2.size
          refine step_append_of rfl (.tmp 26) (.tmp 32) 36 36 rfl v1 src1 (by rfl) (by rfl) r2 ?_
          refine hK _ _ (fun _ => SW.out _ b2) ?_
          clear hK K
          try simp only [List.getElem_toArray, List.getElem_cons_zero, List.getElem_cons_succ, Act.put, List.setIfInBounds_toArray, List.set_cons_zero, List.set_cons_succ]
          refine wpAnyT_ready (rs := [10]) (by kernel_rfl) (by simp) ?_
          refine AllT.cons rfl (fun K hK => ?_) (AllT.nil)
          go_simp
          have b3 := b2.alloc n2 (.cells #[.int .i64 xi, .int .i64 xk, .int .i64 xt] 42)
          have T3 := heap_alloc_new W2 (.cells #[.int .i64 xi, .int .i64 xk, .int .i64 xt] 42)
          have ne3 : v2.ownBlock ≠ some W2.heap.size := fun e => absurd (E2.lt _ e).2 (Nat.lt_irrefl _)
          have E3 := E2.alloc (.cells #[.int .i64 xi, .int .i64 xk, .int .i64 xt] 42)
          have n3 := b3.size
          have lt3 : W2.heap.size < (W2.alloc (.cells #[.int .i64 xi, .int .i64 xk, .int .i64 xt] 42)).heap.size := by simp
          generalize W2.alloc (.cells #[.int .i64 xi, .int .i64 xk, .int .i64 xt] 42) = W3 at *
          generalize W2.heap.size = B3 at *
          refine hK _ _ (fun _ => SW.out _ b3) ?_
          clear hK K
          try simp only [List.getElem_toArray, List.getElem_cons_zero, List.getElem_cons_succ, Act.put, List.setIfInBounds_toArray, List.set_cons_zero, List.set_cons_succ]
          refine wpAnyT_ready (rs := [11]) (by kernel_rfl) (by simp) ?_
          refine AllT.cons rfl (fun K hK => ?_) (AllT.nil)
          obtain ⟨v4, W4, r4, E4, g4, q4⟩ := run_append_src (l := [(xi, xk, xt)]) (m := 1) 36 E3 (src_one T3) rfl n3 (by omega)
          have b4 := made_on b3 E3 g4 n3
          have n4 := b4.size
          refine step_append_of rfl (.tmp 33) (.tmp 35) 36 36 rfl v2 (.slice (some ⟨B3, 0, none⟩) 1 1) (by rfl) (by rfl) r4 ?_
          refine hK _ _ (fun _ => SW.out _ b4) ?_
          clear hK K
          try simp only [List.getElem_toArray, List.getElem_cons_zero, List.getElem_cons_succ, Act.put, List.setIfInBounds_toArray, List.set_cons_zero, List.set_cons_succ]
          refine wpAnyT_ready (rs := [18]) (by kernel_rfl) (by simp) ?_
          refine AllT.cons rfl (fun K hK => ?_) (AllT.nil)
          obtain ⟨v5, W5, r5, E5, g5, q5⟩ := run_append_src (l := l.drop p) 36 E4 (HS2.out _ b4) (by rw [List.length_drop]; omega) n4 (by omega)
          have b5 := made_on b4 E4 g5 n4
          obtain ⟨A5, d5, rfl⟩ := own_any E5
          refine step_append_of rfl (.tmp 36) (.tmp 42) 36 36 rfl v4 src2 (by rfl) (by rfl) r5 ?_
          have e5 := SW.out _ b5
          have f5 := FW.out _ b5
          refine hK _ _ (fun _ => e5) ?_
          clear hK K
          try simp only [List.getElem_toArray, List.getElem_cons_zero, List.getElem_cons_succ, Act.put, List.setIfInBounds_toArray, List.set_cons_zero, List.set_cons_succ]
          refine wpAnyT_free (i := 19) (v := (.pointer (some ⟨b, 0, none⟩))) rfl (by kernel_rfl) (fun _ _ _ h => h) (Or.inl ⟨by rfl, ?_⟩) (fun _ => e5) ?_
          · intro w _; go_simp
          simp only [List.getElem_toArray, List.getElem_cons_zero, List.getElem_cons_succ, Act.put, List.setIfInBounds_toArray, List.set_cons_zero, List.set_cons_succ]
          refine wpAnyT_free (i := 20) (v := (.pointer (some ⟨b, 1, none⟩))) rfl (by kernel_rfl) (fun _ _ _ h => h) (Or.inl ⟨by rfl, ?_⟩) (fun _ => e5) ?_
          · intro w _; go_simp
          simp only [List.getElem_toArray, List.getElem_cons_zero, List.getElem_cons_succ, Act.put, List.setIfInBounds_toArray, List.set_cons_zero, List.set_cons_succ]
          refine wpAnyT_ready (rs := [21]) (by kernel_rfl) (by simp) ?_
          refine AllT.cons rfl (fun K hK => ?_) (AllT.nil)
          have KK := Lib.hid (And.intro b5 E5)
          have e5' := e5.1
          clear b1 E1 n1 r2 E2 g2 q2 b2 n2 b3 T3 ne3 E3 n3 lt3 r4 E4 g4 q4 b4 n4 r5 g5 q5 E5 b5 e5
          go_simp
          refine hK _ _ (fun h => absurd (h.symm.trans (by kernel_rfl)) Bool.false_ne_true) ?_
          clear hK K
          try simp only [List.getElem_toArray, List.getElem_cons_zero, List.getElem_cons_succ, Act.put, List.setIfInBounds_toArray, List.set_cons_zero, List.set_cons_succ]
          refine wpAnyT_done (by kernel_rfl) ?_ _
          go_wp2
          go_end0
          exact ⟨rfl, rput_shut hpl0.out hbl lB h.out BW.out KK.out.1 KK.out.2 hins.out⟩
        · skip
          go_simp
          have b6 := b1.alloc n1 (.cells #[.int .i64 xi, .int .i64 xk, .int .i64 xt] 42)
          have T6 := heap_alloc_new W1 (.cells #[.int .i64 xi, .int .i64 xk, .int .i64 xt] 42)
          have ne6 : v1.ownBlock ≠ some W1.heap.size := fun e => absurd (E1.lt _ e).2 (Nat.lt_irrefl _)
          have E6 := E1.alloc (.cells #[.int .i64 xi, .int .i64 xk, .int .i64 xt] 42)
          have n6 := b6.size
          have lt6 : W1.heap.size < (W1.alloc (.cells #[.int .i64 xi, .int .i64 xk, .int .i64 xt] 42)).heap.size := by simp
          generalize W1.alloc (.cells #[.int .i64 xi, .int .i64 xk, .int .i64 xt] 42) = W6 at *
          generalize W1.heap.size = B6 at *
          refine hK _ _ (fun _ => SW.out _ b6) ?_
          clear hK K
          try simp only [List.getElem_toArray, List.getElem_cons_zero, List.getElem_cons_succ, Act.put, List.setIfInBounds_toArray, List.set_cons_zero, List.set_cons_succ]
          refine wpAnyT_ready (rs := [8]) (by kernel_rfl) (by simp) ?_
          refine AllT.cons rfl (fun K hK => ?_) (AllT.nil)
          obtain ⟨v7, W7, r7, E7, g7, q7⟩ := run_append_src (l := l.take p) 36 E6 (HS1.out _ b6) (by rw [List.length_take]; omega) n6 (by omega)
          have b7 := made_on b6 E6 g7 n6
          have n7 := b7.size
          have T7 := (g7.block B6 lt6 (fun e => ne6 e.symm)).trans T6
          have ne7 : v7.ownBlock ≠ some (B6) := fun e => by rcases q7 with q | q <;> rw [q] at e <;> first | exact ne6 e | (simp at e; omega)
          have lt7 := Nat.lt_of_lt_of_le lt6 g7.size
          refine step_append_of rfl (.tmp 26) (.tmp 32) 36 36 rfl v1 src1 (by rfl) (by rfl) r7 ?_
          refine hK _ _ (fun _ => SW.out _ b7) ?_
          clear hK K
          try simp only [List.getElem_toArray, List.getElem_cons_zero, List.getElem_cons_succ, Act.put, List.setIfInBounds_toArray, List.set_cons_zero, List.set_cons_succ]
          refine wpAnyT_ready (rs := [11]) (by kernel_rfl) (by simp) ?_
          refine AllT.cons rfl (fun K hK => ?_) (AllT.nil)
          obtain ⟨v8, W8, r8, E8, g8, q8⟩ := run_append_src (l := [(xi, xk, xt)]) (m := 1) 36 E7 (src_one T7) rfl n7 (by omega)
          have b8 := made_on b7 E7 g8 n7
          have n8 := b8.size
          refine step_append_of rfl (.tmp 33) (.tmp 35) 36 36 rfl v7 (.slice (some ⟨B6, 0, none⟩) 1 1) (by rfl) (by rfl) r8 ?_
          refine hK _ _ (fun _ => SW.out _ b8) ?_
          clear hK K
          try simp only [List.getElem_toArray, List.getElem_cons_zero, List.getElem_cons_succ, Act.put, List.setIfInBounds_toArray, List.set_cons_zero, List.set_cons_succ]
          refine wpAnyT_ready (rs := [18]) (by kernel_rfl) (by simp) ?_
          refine AllT.cons rfl (fun K hK => ?_) (AllT.nil)
          obtain ⟨v9, W9, r9, E9, g9, q9⟩ := run_append_src (l := l.drop p) 36 E8 (HS2.out _ b8) (by rw [List.length_drop]; omega) n8 (by omega)
          have b9 := made_on b8 E8 g9 n8
          obtain ⟨A9, d9, rfl⟩ := own_any E9
          refine step_append_of rfl (.tmp 36) (.tmp 42) 36 36 rfl v8 src2 (by rfl) (by rfl) r9 ?_
          have e9 := SW.out _ b9
          have f9 := FW.out _ b9
          refine hK _ _ (fun _ => e9) ?_
          clear hK K
          try simp only [List.getElem_toArray, List.getElem_cons_zero, List.getElem_cons_succ, Act.put, List.setIfInBounds_toArray, List.set_cons_zero, List.set_cons_succ]
          refine wpAnyT_free (i := 19) (v := (.pointer (some ⟨b, 0, none⟩))) rfl (by kernel_rfl) (fun _ _ _ h => h) (Or.inl ⟨by rfl, ?_⟩) (fun _ => e9) ?_
          · intro w _; go_simp
          simp only [List.getElem_toArray, List.getElem_cons_zero, List.getElem_cons_succ, Act.put, List.setIfInBounds_toArray, List.set_cons_zero, List.set_cons_succ]
          refine wpAnyT_free (i := 20) (v := (.pointer (some ⟨b, 1, none⟩))) rfl (by kernel_rfl) (fun _ _ _ h => h) (Or.inl ⟨by rfl, ?_⟩) (fun _ => e9) ?_
          · intro w _; go_simp
          simp only [List.getElem_toArray, List.getElem_cons_zero, List.getElem_cons_succ, Act.put, List.setIfInBounds_toArray, List.set_cons_zero, List.set_cons_succ]
          refine wpAnyT_ready (rs := [21]) (by kernel_rfl) (by simp) ?_
          refine AllT.cons rfl (fun K hK => ?_) (AllT.nil)
          have KK := Lib.hid (And.intro b9 E9)
          have e9' := e9.1
          clear b1 E1 n1 b6 T6 ne6 E6 n6 lt6 r7 E7 g7 q7 b7 n7 T7 ne7 lt7 r8 E8 g8 q8 b8 n8 r9 g9 q9 E9 b9 e9
          go_simp
          refine hK _ _ (fun h => absurd (h.symm.trans (by kernel_rfl)) Bool.false_ne_true) ?_
          clear hK K
          try simp only [List.getElem_toArray, List.getElem_cons_zero, List.getElem_cons_succ, Act.put, List.setIfInBounds_toArray, List.set_cons_zero, List.set_cons_succ]
          refine wpAnyT_done (by kernel_rfl) ?_ _
          go_wp2
          go_end0
          exact ⟨rfl, rput_shut hpl0.out hbl lB h.out BW.out KK.out.1 KK.out.2 hins.out⟩
      · skip
        go_simp
        have b10 := bB.alloc nB (.cells #[.int .i64 xi, .int .i64 xk, .int .i64 xt] 42)
        have T10 := heap_alloc_new wB (.cells #[.int .i64 xi, .int .i64 xk, .int .i64 xt] 42)
        have n10 := b10.size
        have lt10 : wB.heap.size < (wB.alloc (.cells #[.int .i64 xi, .int .i64 xk, .int .i64 xt] 42)).heap.size := by simp
        generalize wB.alloc (.cells #[.int .i64 xi, .int .i64 xk, .int .i64 xt] 42) = W10 at *
        refine hK _ _ (fun _ => SW.out _ b10) ?_
        clear hK K
        try simp only [List.getElem_toArray, List.getElem_cons_zero, List.getElem_cons_succ, Act.put, List.setIfInBounds_toArray, List.set_cons_zero, List.set_cons_succ]
        refine wpAnyT_ready (rs := [1]) (by kernel_rfl) (by simp) ?_
        refine AllT.cons rfl (fun K hK => ?_) (AllT.nil)
        go_simp
        have b11 := b10.alloc n10 (.cells #[] 42)
        have E11 := World.ownsRow_made (base := wB.heap.size) (e := 42) (size := 3) W10 #[] 0 n10 (by decide) rfl
        have T11 := (Below.heap_alloc W10 (.cells #[] 42) wB.heap.size lt10).trans T10
        have ne11 : (Value.slice (some ⟨W10.heap.size, 0, none⟩) 0 0).ownBlock ≠ some (wB.heap.size) := fun e => by simp [Value.ownBlock] at e; omega
        have lt11 : wB.heap.size < (W10.alloc (.cells #[] 42)).heap.size := by simp; omega
        have n11 := b11.size
        generalize W10.alloc (.cells #[] 42) = W11 at *
        generalize Value.slice (some ⟨W10.heap.size, 0, none⟩) 0 0 = v11 at *
        refine hK _ _ (fun _ => SW.out _ b11) ?_
        clear hK K
        try simp only [List.getElem_toArray, List.getElem_cons_zero, List.getElem_cons_succ, Act.put, List.setIfInBounds_toArray, List.set_cons_zero, List.set_cons_succ]
        refine wpAnyT_ready (rs := [8]) (by kernel_rfl) (by simp) ?_
        refine AllT.cons rfl (fun K hK => ?_) (AllT.nil)
        obtain ⟨v12, W12, r12, E12, g12, q12⟩ := run_append_src (l := l.take p) 36 E11 (HS1.out _ b11) (by rw [List.length_take]; omega) n11 (by omega)
        have b12 := made_on b11 E11 g12 n11
        have n12 := b12.size
        have T12 := (g12.block wB.heap.size lt11 (fun e => ne11 e.symm)).trans T11
        have ne12 : v12.ownBlock ≠ some (wB.heap.size) := fun e => by rcases q12 with q | q <;> rw [q] at e <;> first | exact ne11 e | (simp at e; omega)
        have lt12 := Nat.lt_of_lt_of_le lt11 g12.size
        refine step_append_of rfl (.tmp 26) (.tmp 32) 36 36 rfl v11 src1 (by rfl) (by rfl) r12 ?_
        refine hK _ _ (fun _ => SW.out _ b12) ?_
        clear hK K
        try simp only [List.getElem_toArray, List.getElem_cons_zero, List.getElem_cons_succ, Act.put, List.setIfInBounds_toArray, List.set_cons_zero, List.set_cons_succ]
        refine wpAnyT_ready (rs := [11]) (by kernel_rfl) (by simp) ?_
        refine AllT.cons rfl (fun K hK => ?_) (AllT.nil)
        obtain ⟨v13, W13, r13, E13, g13, q13⟩ := run_append_src (l := [(xi, xk, xt)]) (m := 1) 36 E12 (src_one T12) rfl n12 (by omega)
        have b13 := made_on b12 E12 g13 n12
        have n13 := b13.size
        refine step_append_of rfl (.tmp 33) (.tmp 35) 36 36 rfl v12 (.slice (some ⟨wB.heap.size, 0, none⟩) 1 1) (by rfl) (by rfl) r13 ?_
        refine hK _ _ (fun _ => SW.out _ b13) ?_
        clear hK K
        try simp only [List.getElem_toArray, List.getElem_cons_zero, List.getElem_cons_succ, Act.put, List.setIfInBounds_toArray, List.set_cons_zero, List.set_cons_succ]
        refine wpAnyT_ready (rs := [18]) (by kernel_rfl) (by simp) ?_
        refine AllT.cons rfl (fun K hK => ?_) (AllT.nil)
        obtain ⟨v14, W14, r14, E14, g14, q14⟩ := run_append_src (l := l.drop p) 36 E13 (HS2.out _ b13) (by rw [List.length_drop]; omega) n13 (by omega)
        have b14 := made_on b13 E13 g14 n13
        obtain ⟨A14, d14, rfl⟩ := own_any E14
        refine step_append_of rfl (.tmp 36) (.tmp 42) 36 36 rfl v13 src2 (by rfl) (by rfl) r14 ?_
        have e14 := SW.out _ b14
        have f14 := FW.out _ b14
        refine hK _ _ (fun _ => e14) ?_
        clear hK K
        try simp only [List.getElem_toArray, List.getElem_cons_zero, List.getElem_cons_succ, Act.put, List.setIfInBounds_toArray, List.set_cons_zero, List.set_cons_succ]
        refine wpAnyT_free (i := 19) (v := (.pointer (some ⟨b, 0, none⟩))) rfl (by kernel_rfl) (fun _ _ _ h => h) (Or.inl ⟨by rfl, ?_⟩) (fun _ => e14) ?_
        · intro w _; go_simp
        simp only [List.getElem_toArray, List.getElem_cons_zero, List.getElem_cons_succ, Act.put, List.setIfInBounds_toArray, List.set_cons_zero, List.set_cons_succ]
        refine wpAnyT_free (i := 20) (v := (.pointer (some ⟨b, 1, none⟩))) rfl (by kernel_rfl) (fun _ _ _ h => h) (Or.inl ⟨by rfl, ?_⟩) (fun _ => e14) ?_
        · intro w _; go_simp
        simp only [List.getElem_toArray, List.getElem_cons_zero, List.getElem_cons_succ, Act.put, List.setIfInBounds_toArray, List.set_cons_zero, List.set_cons_succ]
        refine wpAnyT_ready (rs := [21]) (by kernel_rfl) (by simp) ?_
        refine AllT.cons rfl (fun K hK => ?_) (AllT.nil)
        have KK := Lib.hid (And.intro b14 E14)
        have e14' := e14.1
        clear b10 T10 n10 lt10 b11 E11 T11 ne11 lt11 n11 r12 E12 g12 q12 b12 n12 T12 ne12 lt12 r13 E13 g13 q13 b13 n13 r14 g14 q14 E14 b14 e14
        go_simp
        refine hK _ _ (fun h => absurd (h.symm.trans (by kernel_rfl)) Bool.false_ne_true) ?_
        clear hK K
        try simp only [List.getElem_toArray, List.getElem_cons_zero, List.getElem_cons_succ, Act.put, List.setIfInBounds_toArray, List.set_cons_zero, List.set_cons_succ]
        refine wpAnyT_done (by kernel_rfl) ?_ _
        go_wp2
        go_end0
        exact ⟨rfl, rput_shut hpl0.out hbl lB h.out BW.out KK.out.1 KK.out.2 hins.out⟩
end
end Go.Proofs.Ytgbmpnoknmpmcaa
