/- LedgerTills: the balance till a tick and what came behind it are the balance of all. -/
import Derived.Test.YtbmofcggdpjcbaaLgAwake
import Derived.Deep.DeepCutAuto
import Derived.Deep.RegionHeld3
namespace Go.Proofs.Ytbmofcggdpjcbaa
open Go.RowKit
set_option linter.unusedVariables false
set_option linter.unusedSimpArgs false

theorem late_no {l : List Rw} {t : Int} (h : ∀ x ∈ l, x.tick ≤ t) : lateB l t = false := by
  unfold lateB
  cases hg : l.getLast? with
  | none => rfl
  | some y => exact decide_eq_false (by have := h y (List.mem_of_getLast? hg); omega)
/-- M holds what came behind that tick. -/
structure TillI (at_ : Int) (L M : List Rw) : Prop where
  a : LInv L
  b : LInv M
  sub : ∀ x ∈ M, x ∈ L
  le : M.length ≤ L.length
  sum : earned M + sumF (tF at_) L = earned L
  low : 0 ≤ sumF (tF at_) L
section
variable {at_ t v : Int} {L M : List Rw} {n : List UInt8}
theorem TillI.nil (at_ : Int) : TillI at_ [] [] := ⟨LInv.nil, LInv.nil, by simp, by simp, rfl, by simp [sumF]⟩
theorem TillI.fail (h : TillI at_ L M) (hc : earnE L t v ≠ 0) : TillI at_ (earnL L t n v) M := by
  unfold earnL; rw [if_neg hc]; exact h
theorem TillI.early (h : TillI at_ L M) (hc : earnE L t v = 0) (ht : ¬ t > at_) : TillI at_ (earnL L t n v) M := by
  have hi := h.a.earn t n v
  unfold earnL at *
  rw [if_pos hc] at *
  obtain ⟨h1, h2, h3, h4⟩ := putE_zero hc
  have hs := earned_snoc L t n v h2
  have ht2 : sumF (tF at_) (L ++ [⟨t, n, v⟩]) = sumF (tF at_) L + v := by rw [sumF_snoc]; show _ + tF at_ ⟨t, n, v⟩ = _; rw [show tF at_ ⟨t, n, v⟩ = v from if_pos (by show t ≤ at_; omega)]
  exact ⟨hi, h.b, fun x hx => List.mem_append.2 (.inl (h.sub x hx)), by have := h.le; simp; omega, by rw [hs.1, ht2]; have := h.sum; omega, by rw [ht2]; have := h.low; omega⟩
theorem TillI.late (h : TillI at_ L M) (hc : earnE L t v = 0) (ht : t > at_) : earnE M t v = 0 ∧ TillI at_ (earnL L t n v) (earnL M t n v) := by
  have hi := h.a.earn t n v
  have hi2 := h.b.earn t n v
  obtain ⟨h1, h2, h3, h4⟩ := putE_zero hc
  have hM : earnE M t v = 0 := by
    unfold earnE putE
    rw [if_neg (by omega), if_neg (by rw [late_no fun x hx => not_late h.a h3 x (h.sub x hx)]; decide), if_neg]
    have := h.sum
    have := h.low
    omega
  refine ⟨hM, ?_⟩
  unfold earnL at *
  rw [if_pos hc] at *
  rw [if_pos hM] at *
  have hs := earned_snoc L t n v h2
  have hs2 := earned_snoc M t n v h2
  have ht2 : sumF (tF at_) (L ++ [⟨t, n, v⟩]) = sumF (tF at_) L := by rw [sumF_snoc]; show _ + tF at_ ⟨t, n, v⟩ = _; rw [show tF at_ ⟨t, n, v⟩ = 0 from if_neg (by show ¬ t ≤ at_; omega), Int.add_zero]
  refine ⟨hi, hi2, fun x hx => ?_, by have := h.le; simp; omega, by rw [hs.1, hs2.1, ht2]; have := h.sum; omega, by rw [ht2]; exact h.low⟩
  rcases List.mem_append.1 hx with hx | hx
  · exact List.mem_append.2 (.inl (h.sub x hx))
  · exact List.mem_append.2 (.inr hx)
theorem TillI.none (h : TillI at_ L M) : sumF (tF (-1)) L = 0 := sumF_zero _ fun x hx => if_neg (by have := h.a.tick x hx; omega)
end
/-- Both ledgers; the law on its way. -/
structure Lt (w : World) (o : Nat → Nat) (W : World) (a b : Nat) (L M : List Rw) : Prop where
  g : ∃ v, Lg o 1 W a v L
  h : ∃ v, Lg o 2 W b v M
  lw : Lw w o W
section
variable {w W W' : World} {o o' : Nat → Nat} {a b : Nat} {L M L' M' : List Rw}
theorem Lt.on (h : Lt w o W a b L M) (hb : Below W.heap.size W W') : Lt w o W' a b L M := by
  obtain ⟨⟨v, h1⟩, ⟨u, h2⟩, h3⟩ := h
  exact ⟨⟨v, h1.below hb⟩, ⟨u, h2.below hb⟩, h3.on hb⟩
theorem Lt.one (h : Lt w o W a b L M) (st : Step o o' 1 W W') (h1 : ∃ v, Lg o' 1 W' a v L') : Lt w o' W' a b L' M := by
  obtain ⟨_, ⟨u, h2⟩, h3⟩ := h
  exact ⟨h1, ⟨u, h2.step st (by decide)⟩, h3.step st (by decide)⟩
theorem Lt.two (h : Lt w o W a b L M) (st : Step o o' 2 W W') (h1 : ∃ v, Lg o' 2 W' b v M') : Lt w o' W' a b L M' := by
  obtain ⟨⟨v, h2⟩, _, h3⟩ := h
  exact ⟨⟨v, h2.step st (by decide)⟩, h1, h3.step st (by decide)⟩
end
set_option maxHeartbeats 12800000 in
set_option maxRecDepth 100000 in
theorem LedgerTills_ret (A : Option Addr) (c : Nat) (l : List ActW) (at_ : Int) (w : World) (hlc : l.length ≤ c) (hc : c ≤ 9223372036854775807) (hrd : RdActW w A l) (hall : ∀ x ∈ l, fitB x.op = true ∧ fitB x.t = true ∧ fitB x.v = true ∧ x.name.length ≤ 140737488351232) (h2 : fitB at_ = true) :
    Calls Try.prog 6 #[.slice A l.length c, .int .i64 at_] w (RetB (.bool true) w) := by
  have A0 := Lib.hid (awake14_any w)
  have hat := fit_iff h2
  obtain ⟨N, hN⟩ : ∃ N : Nat, l.length = N := ⟨_, rfl⟩
  rw [hN] at hlc ⊢
  have Z := Lib.hid (And.intro hN (And.intro hrd hall))
  clear hN hrd hall h2
  go_enter Try.func6, Try.ntmps6
  go_wp2_with fail
  refine (A0.out).mono ?_; rintro e b0w ⟨rfl, b0⟩
  by_cases k1 : (N : Int) > 30
  · go_wp2
    go_ret
    exact ⟨rfl, by have s0 := b0.size; (try simp only [World.heap_drewN, World.size_alloc] at s0); repeat (first | exact Below.refl _ _ | exact b0 | refine Below.trans ?_ (Below.mono b0 (by first | omega | (simp; done) | (simp; omega))) | refine Below.setCell ?_ (by first | omega | (simp; done) | (simp; omega)) _ | refine below_dN ?_ _ | refine Below.drew ?_ | refine Below.alloc ?_ (by first | omega | (simp; done) | (simp; omega)) _)⟩
  have k1' : decide ((N : Int) > 30) = false := decide_eq_false k1
  by_cases k2 : at_ < 0
  · go_wp2
    go_ret
    exact ⟨rfl, by have s0 := b0.size; (try simp only [World.heap_drewN, World.size_alloc] at s0); repeat (first | exact Below.refl _ _ | exact b0 | refine Below.trans ?_ (Below.mono b0 (by first | omega | (simp; done) | (simp; omega))) | refine Below.setCell ?_ (by first | omega | (simp; done) | (simp; omega)) _ | refine below_dN ?_ _ | refine Below.drew ?_ | refine Below.alloc ?_ (by first | omega | (simp; done) | (simp; omega)) _)⟩
  have k2' : decide (at_ < 0) = false := decide_eq_false k2
  have k9 : N ≤ 30 := by omega
  have k8 : 0 ≤ at_ := by omega
  go_wp2_with fail
  refine (lnew (fun _ => 0) 1 _).mono ?_
  rintro e w1 ⟨rfl, o1, v1, s1, h1⟩
  have l1 := ((Lw.start w).on b0).step s1 (by decide)
  go_wp2_with fail
  refine (lnew o1 2 _).mono ?_
  rintro e w2 ⟨rfl, o2, v2, s2, h2⟩
  have F0 := Lib.hid (show Lt w o2 w2 b0w.heap.size w1.heap.size [] [] from ⟨⟨_, h1.step s2 (by decide)⟩, ⟨_, h2⟩, l1.step s2 (by decide)⟩)
  clear b0 s1 h1 l1 s2 h2
  generalize b0w.heap.size = a at *
  generalize w1.heap.size = b at *
  go_wp2
  go_loopw [7] (fun s7 wr => ∃ (i : Nat) (o : Nat → Nat) (L M : List Rw), s7 = .int .i64 (i : Int) ∧ i ≤ N ∧ L.length ≤ i ∧ Hid (Lt w o wr a b L M ∧ TillI at_ L M)) (fun st _ => N - (intOf st).toNat)
  case atStart => exact ⟨0, o2, [], [], rfl, by omega, by simp, Lib.hid ⟨F0.out, TillI.nil _⟩⟩
  case round =>
    obtain ⟨i, o, L, M, rfl, hi, hLi, F⟩ := hrel
    clear F0
    rcases Nat.lt_or_ge i N with hlt | hge
    · obtain ⟨⟨xo, xt, xn, xv⟩, hx⟩ : ∃ x, l[i]? = some x := ⟨_, List.getElem?_eq_getElem (by rw [Z.out.1]; exact hlt)⟩
      obtain ⟨fo, ft, fv, fn⟩ := Z.out.2.2 _ (List.mem_of_getElem? hx)
      obtain ⟨bl, off, rfl, q0, q1, q2, q3⟩ := Z.out.2.1 i _ hx
      simp only at q0 q1 q2 q3 fo ft fv fn
      have qb : bl < w.heap.size := World.block_lt_of_cell? _ _ q0
      have R : Hid (∀ W, Below w.heap.size w W → W.cell? ⟨bl, off + i * 4 + 1, none⟩ = some (.int .i64 xt) ∧ W.cell? ⟨bl, off + i * 4 + 2, none⟩ = some (.string (bs xn)) ∧ W.cell? ⟨bl, off + i * 4 + 3, none⟩ = some (.int .i64 xv)) := fun W hb =>
        ⟨(hb.cell (p := ⟨bl, _, none⟩) qb).trans q1, (hb.cell (p := ⟨bl, _, none⟩) qb).trans q2, (hb.cell (p := ⟨bl, _, none⟩) qb).trans q3⟩
      have q0 : wr.cell? ⟨bl, off + i * 4, none⟩ = some (.int .i64 xo) := (F.out.1.lw.below.cell (p := ⟨bl, _, none⟩) qb).trans q0
      obtain ⟨q1, q2, q3⟩ := R.out wr F.out.1.lw.below
      have z1 : (i : Int) < (N : Int) := by omega
      have z2 : (0 : Int) ≤ (i : Int) := by omega
      have FX := Lib.hid (And.intro ft fv)
      clear hx qb fo ft fv fn
      by_cases c1 : xv < 0
      · have B := Lib.hid F.out.1.lw.below
        clear F
        go_wp2
        go_ret
        exact ⟨rfl, B.out⟩
      have c1' : decide (xv < 0) = false := decide_eq_false c1
      by_cases c2 : xv > 1000000000
      · have B := Lib.hid F.out.1.lw.below
        clear F c1
        go_wp2
        go_ret
        exact ⟨rfl, B.out⟩
      have c2' : decide (xv > 1000000000) = false := decide_eq_false c2
      by_cases c3 : xo = 0
      · subst c3
        obtain ⟨v4, h4⟩ := F.out.1.g
        obtain ⟨cc, hcc⟩ : ∃ cc, earnE L xt xv = cc := ⟨_, rfl⟩
        have C1 := Lib.hid (learn xt xv cc xn _ (h4.drewN 1) F.out.2.a (by omega) FX.out.2 hcc rfl)
        have K0 := R.out (wr.drewN 1) (below_dN F.out.1.lw.below 1)
        clear c1 c2 h4
        go_wp2
        refine wp_region_held_drew (S := fun W => W.cell? ⟨bl, off + i * 4 + 1, none⟩ = some (.int .i64 xt) ∧ W.cell? ⟨bl, off + i * 4 + 2, none⟩ = some (.string (bs xn)) ∧ W.cell? ⟨bl, off + i * 4 + 3, none⟩ = some (.int .i64 xv)) (by kernel_rfl) K0 (fun hHeld => ?_)
        refine wpAnyH_take (i := 0) (v := (.pointer (some ⟨a, 0, none⟩))) rfl (by kernel_rfl) (by kernel_rfl) (by kernel_rfl) (fun _ _ _ h => h) (Or.inl ⟨by rfl, ?_⟩) hHeld ?_
        · intro w hSw; go_simp
        try simp only [List.getElem_toArray, List.getElem_cons_zero, List.getElem_cons_succ, Act.put, List.setIfInBounds_toArray, List.set_cons_zero, List.set_cons_succ]
        refine wpAnyH_take (i := 1) (v := (.slice (some ⟨bl, off, none⟩) N c)) rfl (by kernel_rfl) (by kernel_rfl) (by kernel_rfl) (fun _ _ _ h => h) (Or.inl ⟨by rfl, ?_⟩) hHeld ?_
        · intro w hSw; go_simp
        try simp only [List.getElem_toArray, List.getElem_cons_zero, List.getElem_cons_succ, Act.put, List.setIfInBounds_toArray, List.set_cons_zero, List.set_cons_succ]
        refine wpAnyH_take (i := 2) (v := (.int .i64 (i : Int))) rfl (by kernel_rfl) (by kernel_rfl) (by kernel_rfl) (fun _ _ _ h => h) (Or.inl ⟨by rfl, ?_⟩) hHeld ?_
        · intro w hSw; go_simp
        try simp only [List.getElem_toArray, List.getElem_cons_zero, List.getElem_cons_succ, Act.put, List.setIfInBounds_toArray, List.set_cons_zero, List.set_cons_succ]
        refine wpAnyH_take (i := 3) (v := (.pointer (some ⟨bl, off + i * 4, none⟩))) rfl (by kernel_rfl) (by kernel_rfl) (by kernel_rfl) (fun _ _ _ h => h) (Or.inl ⟨by rfl, ?_⟩) hHeld ?_
        · intro w hSw; go_simp
        try simp only [List.getElem_toArray, List.getElem_cons_zero, List.getElem_cons_succ, Act.put, List.setIfInBounds_toArray, List.set_cons_zero, List.set_cons_succ]
        refine wpAnyH_take (i := 4) (v := (.pointer (some ⟨bl, off + i * 4 + 1, none⟩))) rfl (by kernel_rfl) (by kernel_rfl) (by kernel_rfl) (fun _ _ _ h => h) (Or.inl ⟨by rfl, ?_⟩) hHeld ?_
        · intro w hSw; go_simp
        try simp only [List.getElem_toArray, List.getElem_cons_zero, List.getElem_cons_succ, Act.put, List.setIfInBounds_toArray, List.set_cons_zero, List.set_cons_succ]
        refine wpAnyH_take (i := 5) (v := (.int .i64 xt)) rfl (by kernel_rfl) (by kernel_rfl) (by kernel_rfl) (fun _ _ _ h => h) (Or.inl ⟨by rfl, ?_⟩) hHeld ?_
        · intro w hSw; obtain ⟨s0, s1, s2⟩ := hSw; go_simp
        try simp only [List.getElem_toArray, List.getElem_cons_zero, List.getElem_cons_succ, Act.put, List.setIfInBounds_toArray, List.set_cons_zero, List.set_cons_succ]
        refine wpAnyH_take (i := 6) (v := (.slice (some ⟨bl, off, none⟩) N c)) rfl (by kernel_rfl) (by kernel_rfl) (by kernel_rfl) (fun _ _ _ h => h) (Or.inl ⟨by rfl, ?_⟩) hHeld ?_
        · intro w hSw; go_simp
        try simp only [List.getElem_toArray, List.getElem_cons_zero, List.getElem_cons_succ, Act.put, List.setIfInBounds_toArray, List.set_cons_zero, List.set_cons_succ]
        refine wpAnyH_take (i := 7) (v := (.int .i64 (i : Int))) rfl (by kernel_rfl) (by kernel_rfl) (by kernel_rfl) (fun _ _ _ h => h) (Or.inl ⟨by rfl, ?_⟩) hHeld ?_
        · intro w hSw; go_simp
        try simp only [List.getElem_toArray, List.getElem_cons_zero, List.getElem_cons_succ, Act.put, List.setIfInBounds_toArray, List.set_cons_zero, List.set_cons_succ]
        refine wpAnyH_take (i := 8) (v := (.pointer (some ⟨bl, off + i * 4, none⟩))) rfl (by kernel_rfl) (by kernel_rfl) (by kernel_rfl) (fun _ _ _ h => h) (Or.inl ⟨by rfl, ?_⟩) hHeld ?_
        · intro w hSw; go_simp
        try simp only [List.getElem_toArray, List.getElem_cons_zero, List.getElem_cons_succ, Act.put, List.setIfInBounds_toArray, List.set_cons_zero, List.set_cons_succ]
        refine wpAnyH_take (i := 9) (v := (.pointer (some ⟨bl, off + i * 4 + 2, none⟩))) rfl (by kernel_rfl) (by kernel_rfl) (by kernel_rfl) (fun _ _ _ h => h) (Or.inl ⟨by rfl, ?_⟩) hHeld ?_
        · intro w hSw; go_simp
        try simp only [List.getElem_toArray, List.getElem_cons_zero, List.getElem_cons_succ, Act.put, List.setIfInBounds_toArray, List.set_cons_zero, List.set_cons_succ]
        refine wpAnyH_take (i := 10) (v := (.string (bs xn))) rfl (by kernel_rfl) (by kernel_rfl) (by kernel_rfl) (fun _ _ _ h => h) (Or.inl ⟨by rfl, ?_⟩) hHeld ?_
        · intro w hSw; obtain ⟨s0, s1, s2⟩ := hSw; go_simp
        try simp only [List.getElem_toArray, List.getElem_cons_zero, List.getElem_cons_succ, Act.put, List.setIfInBounds_toArray, List.set_cons_zero, List.set_cons_succ]
        refine wpAnyH_take (i := 11) (v := (.slice (some ⟨bl, off, none⟩) N c)) rfl (by kernel_rfl) (by kernel_rfl) (by kernel_rfl) (fun _ _ _ h => h) (Or.inl ⟨by rfl, ?_⟩) hHeld ?_
        · intro w hSw; go_simp
        try simp only [List.getElem_toArray, List.getElem_cons_zero, List.getElem_cons_succ, Act.put, List.setIfInBounds_toArray, List.set_cons_zero, List.set_cons_succ]
        refine wpAnyH_take (i := 12) (v := (.int .i64 (i : Int))) rfl (by kernel_rfl) (by kernel_rfl) (by kernel_rfl) (fun _ _ _ h => h) (Or.inl ⟨by rfl, ?_⟩) hHeld ?_
        · intro w hSw; go_simp
        try simp only [List.getElem_toArray, List.getElem_cons_zero, List.getElem_cons_succ, Act.put, List.setIfInBounds_toArray, List.set_cons_zero, List.set_cons_succ]
        refine wpAnyH_take (i := 13) (v := (.pointer (some ⟨bl, off + i * 4, none⟩))) rfl (by kernel_rfl) (by kernel_rfl) (by kernel_rfl) (fun _ _ _ h => h) (Or.inl ⟨by rfl, ?_⟩) hHeld ?_
        · intro w hSw; go_simp
        try simp only [List.getElem_toArray, List.getElem_cons_zero, List.getElem_cons_succ, Act.put, List.setIfInBounds_toArray, List.set_cons_zero, List.set_cons_succ]
        refine wpAnyH_take (i := 14) (v := (.pointer (some ⟨bl, off + i * 4 + 3, none⟩))) rfl (by kernel_rfl) (by kernel_rfl) (by kernel_rfl) (fun _ _ _ h => h) (Or.inl ⟨by rfl, ?_⟩) hHeld ?_
        · intro w hSw; go_simp
        try simp only [List.getElem_toArray, List.getElem_cons_zero, List.getElem_cons_succ, Act.put, List.setIfInBounds_toArray, List.set_cons_zero, List.set_cons_succ]
        refine wpAnyH_take (i := 15) (v := (.int .i64 xv)) rfl (by kernel_rfl) (by kernel_rfl) (by kernel_rfl) (fun _ _ _ h => h) (Or.inl ⟨by rfl, ?_⟩) hHeld ?_
        · intro w hSw; obtain ⟨s0, s1, s2⟩ := hSw; go_simp
        try simp only [List.getElem_toArray, List.getElem_cons_zero, List.getElem_cons_succ, Act.put, List.setIfInBounds_toArray, List.set_cons_zero, List.set_cons_succ]
        refine wpAnyH_ready (rs := [16]) (by kernel_rfl) (by simp) ?_
        refine AllReadyH.cons rfl (fun K hK => ?_) AllReadyH.nil
        clear hHeld
        go_simp
        refine C1.out.mono ?_
        rintro e w4 ⟨rfl, o4, v5, st4, h5⟩
        have G := Lib.hid ((F.out.1.on (below_dN (Below.refl _ _) 1)).one st4 ⟨v5, h5⟩)
        have K1 := R.out w4 G.out.lw.below
        clear C1 st4 h5
        refine hK.out _ _ K1 (fun hHeld => ?_)
        clear hK K
        have HL := Lib.hid (show (earnL L xt xn xv).length ≤ i + 1 from by have := earnL_len L xt xn xv; omega)
        by_cases hc0 : cc = 0
        · subst hc0
          by_cases ht : xt > at_
          · have TL := Lib.hid (F.out.2.late (n := xn) hcc ht)
            have C2 : Hid (∃ vq, Lg o4 2 (w4.drewN 1) b vq M) := by obtain ⟨u, hu⟩ := G.out.h; exact ⟨u, hu.drewN 1⟩
            obtain ⟨vq, hvq⟩ := C2.out
            have ML := F.out.2.le
            replace C2 := Lib.hid (learn xt xv 0 xn _ hvq F.out.2.b (by omega) FX.out.2 TL.out.1 rfl)
            have K2 := R.out (w4.drewN 1) (below_dN G.out.lw.below 1)
            clear hvq F hcc ML q1 q2 q3 q0
            refine wpAnyH_take (i := 17) (v := (.bool true)) rfl (by kernel_rfl) (by kernel_rfl) (by kernel_rfl) (fun _ _ _ h => h) (Or.inl ⟨by rfl, ?_⟩) hHeld ?_
            · intro w hSw; go_simp
            try simp only [List.getElem_toArray, List.getElem_cons_zero, List.getElem_cons_succ, Act.put, List.setIfInBounds_toArray, List.set_cons_zero, List.set_cons_succ]
            refine wpAnyH_take (i := 18) (v := (.bool true)) rfl (by kernel_rfl) (by kernel_rfl) (by kernel_rfl) (fun _ _ _ h => h) (Or.inl ⟨by rfl, ?_⟩) hHeld ?_
            · intro w hSw; go_simp
            try simp only [List.getElem_toArray, List.getElem_cons_zero, List.getElem_cons_succ, Act.put, List.setIfInBounds_toArray, List.set_cons_zero, List.set_cons_succ]
            refine wpAnyH_take (i := 19) (v := (.slice (some ⟨bl, off, none⟩) N c)) rfl (by kernel_rfl) (by kernel_rfl) (by kernel_rfl) (fun _ _ _ h => h) (Or.inl ⟨by rfl, ?_⟩) hHeld ?_
            · intro w hSw; go_simp
            try simp only [List.getElem_toArray, List.getElem_cons_zero, List.getElem_cons_succ, Act.put, List.setIfInBounds_toArray, List.set_cons_zero, List.set_cons_succ]
            refine wpAnyH_take (i := 20) (v := (.int .i64 (i : Int))) rfl (by kernel_rfl) (by kernel_rfl) (by kernel_rfl) (fun _ _ _ h => h) (Or.inl ⟨by rfl, ?_⟩) hHeld ?_
            · intro w hSw; go_simp
            try simp only [List.getElem_toArray, List.getElem_cons_zero, List.getElem_cons_succ, Act.put, List.setIfInBounds_toArray, List.set_cons_zero, List.set_cons_succ]
            refine wpAnyH_take (i := 21) (v := (.pointer (some ⟨bl, off + i * 4, none⟩))) rfl (by kernel_rfl) (by kernel_rfl) (by kernel_rfl) (fun _ _ _ h => h) (Or.inl ⟨by rfl, ?_⟩) hHeld ?_
            · intro w hSw; go_simp
            try simp only [List.getElem_toArray, List.getElem_cons_zero, List.getElem_cons_succ, Act.put, List.setIfInBounds_toArray, List.set_cons_zero, List.set_cons_succ]
            refine wpAnyH_take (i := 22) (v := (.pointer (some ⟨bl, off + i * 4 + 1, none⟩))) rfl (by kernel_rfl) (by kernel_rfl) (by kernel_rfl) (fun _ _ _ h => h) (Or.inl ⟨by rfl, ?_⟩) hHeld ?_
            · intro w hSw; go_simp
            try simp only [List.getElem_toArray, List.getElem_cons_zero, List.getElem_cons_succ, Act.put, List.setIfInBounds_toArray, List.set_cons_zero, List.set_cons_succ]
            refine wpAnyH_take (i := 23) (v := (.int .i64 xt)) rfl (by kernel_rfl) (by kernel_rfl) (by kernel_rfl) (fun _ _ _ h => h) (Or.inl ⟨by rfl, ?_⟩) hHeld ?_
            · intro w hSw; obtain ⟨s0, s1, s2⟩ := hSw; go_simp
            try simp only [List.getElem_toArray, List.getElem_cons_zero, List.getElem_cons_succ, Act.put, List.setIfInBounds_toArray, List.set_cons_zero, List.set_cons_succ]
            refine wpAnyH_take (i := 24) (v := (.int .i64 at_)) rfl (by kernel_rfl) (by kernel_rfl) (by kernel_rfl) (fun _ _ _ h => h) (Or.inl ⟨by rfl, ?_⟩) hHeld ?_
            · intro w hSw; go_simp
            try simp only [List.getElem_toArray, List.getElem_cons_zero, List.getElem_cons_succ, Act.put, List.setIfInBounds_toArray, List.set_cons_zero, List.set_cons_succ]
            refine wpAnyH_take (i := 25) (v := (.bool true)) rfl (by kernel_rfl) (by kernel_rfl) (by kernel_rfl) (fun _ _ _ h => h) (Or.inl ⟨by rfl, ?_⟩) hHeld ?_
            · intro w hSw; go_simp
            try simp only [List.getElem_toArray, List.getElem_cons_zero, List.getElem_cons_succ, Act.put, List.setIfInBounds_toArray, List.set_cons_zero, List.set_cons_succ]
            refine wpAnyH_take (i := 26) (v := (.bool true)) rfl (by kernel_rfl) (by kernel_rfl) (by kernel_rfl) (fun _ _ _ h => h) (Or.inl ⟨by rfl, ?_⟩) hHeld ?_
            · intro w hSw; go_simp
            try simp only [List.getElem_toArray, List.getElem_cons_zero, List.getElem_cons_succ, Act.put, List.setIfInBounds_toArray, List.set_cons_zero, List.set_cons_succ]
            refine wpAnyH_done (by kernel_rfl) ?_ _
            clear hHeld
            · skip
              go_wp2
              refine wp_region_held_drew (S := fun W => W.cell? ⟨bl, off + i * 4 + 1, none⟩ = some (.int .i64 xt) ∧ W.cell? ⟨bl, off + i * 4 + 2, none⟩ = some (.string (bs xn)) ∧ W.cell? ⟨bl, off + i * 4 + 3, none⟩ = some (.int .i64 xv)) (by kernel_rfl) K2 (fun hHeld => ?_)
              refine wpAnyH_take (i := 0) (v := (.pointer (some ⟨b, 0, none⟩))) rfl (by kernel_rfl) (by kernel_rfl) (by kernel_rfl) (fun _ _ _ h => h) (Or.inl ⟨by rfl, ?_⟩) hHeld ?_
              · intro w hSw; go_simp
              try simp only [List.getElem_toArray, List.getElem_cons_zero, List.getElem_cons_succ, Act.put, List.setIfInBounds_toArray, List.set_cons_zero, List.set_cons_succ]
              refine wpAnyH_take (i := 1) (v := (.slice (some ⟨bl, off, none⟩) N c)) rfl (by kernel_rfl) (by kernel_rfl) (by kernel_rfl) (fun _ _ _ h => h) (Or.inl ⟨by rfl, ?_⟩) hHeld ?_
              · intro w hSw; go_simp
              try simp only [List.getElem_toArray, List.getElem_cons_zero, List.getElem_cons_succ, Act.put, List.setIfInBounds_toArray, List.set_cons_zero, List.set_cons_succ]
              refine wpAnyH_take (i := 2) (v := (.int .i64 (i : Int))) rfl (by kernel_rfl) (by kernel_rfl) (by kernel_rfl) (fun _ _ _ h => h) (Or.inl ⟨by rfl, ?_⟩) hHeld ?_
              · intro w hSw; go_simp
              try simp only [List.getElem_toArray, List.getElem_cons_zero, List.getElem_cons_succ, Act.put, List.setIfInBounds_toArray, List.set_cons_zero, List.set_cons_succ]
              refine wpAnyH_take (i := 3) (v := (.pointer (some ⟨bl, off + i * 4, none⟩))) rfl (by kernel_rfl) (by kernel_rfl) (by kernel_rfl) (fun _ _ _ h => h) (Or.inl ⟨by rfl, ?_⟩) hHeld ?_
              · intro w hSw; go_simp
              try simp only [List.getElem_toArray, List.getElem_cons_zero, List.getElem_cons_succ, Act.put, List.setIfInBounds_toArray, List.set_cons_zero, List.set_cons_succ]
              refine wpAnyH_take (i := 4) (v := (.pointer (some ⟨bl, off + i * 4 + 1, none⟩))) rfl (by kernel_rfl) (by kernel_rfl) (by kernel_rfl) (fun _ _ _ h => h) (Or.inl ⟨by rfl, ?_⟩) hHeld ?_
              · intro w hSw; go_simp
              try simp only [List.getElem_toArray, List.getElem_cons_zero, List.getElem_cons_succ, Act.put, List.setIfInBounds_toArray, List.set_cons_zero, List.set_cons_succ]
              refine wpAnyH_take (i := 5) (v := (.int .i64 xt)) rfl (by kernel_rfl) (by kernel_rfl) (by kernel_rfl) (fun _ _ _ h => h) (Or.inl ⟨by rfl, ?_⟩) hHeld ?_
              · intro w hSw; obtain ⟨s0, s1, s2⟩ := hSw; go_simp
              try simp only [List.getElem_toArray, List.getElem_cons_zero, List.getElem_cons_succ, Act.put, List.setIfInBounds_toArray, List.set_cons_zero, List.set_cons_succ]
              refine wpAnyH_take (i := 6) (v := (.slice (some ⟨bl, off, none⟩) N c)) rfl (by kernel_rfl) (by kernel_rfl) (by kernel_rfl) (fun _ _ _ h => h) (Or.inl ⟨by rfl, ?_⟩) hHeld ?_
              · intro w hSw; go_simp
              try simp only [List.getElem_toArray, List.getElem_cons_zero, List.getElem_cons_succ, Act.put, List.setIfInBounds_toArray, List.set_cons_zero, List.set_cons_succ]
              refine wpAnyH_take (i := 7) (v := (.int .i64 (i : Int))) rfl (by kernel_rfl) (by kernel_rfl) (by kernel_rfl) (fun _ _ _ h => h) (Or.inl ⟨by rfl, ?_⟩) hHeld ?_
              · intro w hSw; go_simp
              try simp only [List.getElem_toArray, List.getElem_cons_zero, List.getElem_cons_succ, Act.put, List.setIfInBounds_toArray, List.set_cons_zero, List.set_cons_succ]
              refine wpAnyH_take (i := 8) (v := (.pointer (some ⟨bl, off + i * 4, none⟩))) rfl (by kernel_rfl) (by kernel_rfl) (by kernel_rfl) (fun _ _ _ h => h) (Or.inl ⟨by rfl, ?_⟩) hHeld ?_
              · intro w hSw; go_simp
              try simp only [List.getElem_toArray, List.getElem_cons_zero, List.getElem_cons_succ, Act.put, List.setIfInBounds_toArray, List.set_cons_zero, List.set_cons_succ]
              refine wpAnyH_take (i := 9) (v := (.pointer (some ⟨bl, off + i * 4 + 2, none⟩))) rfl (by kernel_rfl) (by kernel_rfl) (by kernel_rfl) (fun _ _ _ h => h) (Or.inl ⟨by rfl, ?_⟩) hHeld ?_
              · intro w hSw; go_simp
              try simp only [List.getElem_toArray, List.getElem_cons_zero, List.getElem_cons_succ, Act.put, List.setIfInBounds_toArray, List.set_cons_zero, List.set_cons_succ]
              refine wpAnyH_take (i := 10) (v := (.string (bs xn))) rfl (by kernel_rfl) (by kernel_rfl) (by kernel_rfl) (fun _ _ _ h => h) (Or.inl ⟨by rfl, ?_⟩) hHeld ?_
              · intro w hSw; obtain ⟨s0, s1, s2⟩ := hSw; go_simp
              try simp only [List.getElem_toArray, List.getElem_cons_zero, List.getElem_cons_succ, Act.put, List.setIfInBounds_toArray, List.set_cons_zero, List.set_cons_succ]
              refine wpAnyH_take (i := 11) (v := (.slice (some ⟨bl, off, none⟩) N c)) rfl (by kernel_rfl) (by kernel_rfl) (by kernel_rfl) (fun _ _ _ h => h) (Or.inl ⟨by rfl, ?_⟩) hHeld ?_
              · intro w hSw; go_simp
              try simp only [List.getElem_toArray, List.getElem_cons_zero, List.getElem_cons_succ, Act.put, List.setIfInBounds_toArray, List.set_cons_zero, List.set_cons_succ]
              refine wpAnyH_take (i := 12) (v := (.int .i64 (i : Int))) rfl (by kernel_rfl) (by kernel_rfl) (by kernel_rfl) (fun _ _ _ h => h) (Or.inl ⟨by rfl, ?_⟩) hHeld ?_
              · intro w hSw; go_simp
              try simp only [List.getElem_toArray, List.getElem_cons_zero, List.getElem_cons_succ, Act.put, List.setIfInBounds_toArray, List.set_cons_zero, List.set_cons_succ]
              refine wpAnyH_take (i := 13) (v := (.pointer (some ⟨bl, off + i * 4, none⟩))) rfl (by kernel_rfl) (by kernel_rfl) (by kernel_rfl) (fun _ _ _ h => h) (Or.inl ⟨by rfl, ?_⟩) hHeld ?_
              · intro w hSw; go_simp
              try simp only [List.getElem_toArray, List.getElem_cons_zero, List.getElem_cons_succ, Act.put, List.setIfInBounds_toArray, List.set_cons_zero, List.set_cons_succ]
              refine wpAnyH_take (i := 14) (v := (.pointer (some ⟨bl, off + i * 4 + 3, none⟩))) rfl (by kernel_rfl) (by kernel_rfl) (by kernel_rfl) (fun _ _ _ h => h) (Or.inl ⟨by rfl, ?_⟩) hHeld ?_
              · intro w hSw; go_simp
              try simp only [List.getElem_toArray, List.getElem_cons_zero, List.getElem_cons_succ, Act.put, List.setIfInBounds_toArray, List.set_cons_zero, List.set_cons_succ]
              refine wpAnyH_take (i := 15) (v := (.int .i64 xv)) rfl (by kernel_rfl) (by kernel_rfl) (by kernel_rfl) (fun _ _ _ h => h) (Or.inl ⟨by rfl, ?_⟩) hHeld ?_
              · intro w hSw; obtain ⟨s0, s1, s2⟩ := hSw; go_simp
              try simp only [List.getElem_toArray, List.getElem_cons_zero, List.getElem_cons_succ, Act.put, List.setIfInBounds_toArray, List.set_cons_zero, List.set_cons_succ]
              refine wpAnyH_ready (rs := [16]) (by kernel_rfl) (by simp) ?_
              refine AllReadyH.cons rfl (fun K hK => ?_) AllReadyH.nil
              clear hHeld
              go_simp
              refine C2.out.mono ?_
              rintro e w5 ⟨rfl, o5, v6, st5, h6⟩
              have G5 := Lib.hid ((G.out.on (below_dN (Below.refl _ _) 1)).two st5 ⟨v6, h6⟩)
              clear C2 st5 h6 G
              refine hK.out _ _ (R.out _ G5.out.lw.below) (fun hHeld => ?_)
              clear hK K
              refine wpAnyH_done (by kernel_rfl) ?_ _
              clear hHeld
              go_wp2
              go_roundw
              case rel => exact ⟨i + 1, o5, _, _, by simp, by omega, by have := HL.out; omega, Lib.hid ⟨G5.out, TL.out.2⟩⟩
              case measure => simp [intOf]; omega
          · have ht' : decide (xt > at_) = false := decide_eq_false ht
            have TE := Lib.hid (F.out.2.early (n := xn) hcc ht)
            clear F hcc q1 q2 q3 q0 ht
            refine wpAnyH_take (i := 17) (v := (.bool true)) rfl (by kernel_rfl) (by kernel_rfl) (by kernel_rfl) (fun _ _ _ h => h) (Or.inl ⟨by rfl, ?_⟩) hHeld ?_
            · intro w hSw; go_simp
            try simp only [List.getElem_toArray, List.getElem_cons_zero, List.getElem_cons_succ, Act.put, List.setIfInBounds_toArray, List.set_cons_zero, List.set_cons_succ]
            refine wpAnyH_take (i := 18) (v := (.bool true)) rfl (by kernel_rfl) (by kernel_rfl) (by kernel_rfl) (fun _ _ _ h => h) (Or.inl ⟨by rfl, ?_⟩) hHeld ?_
            · intro w hSw; go_simp
            try simp only [List.getElem_toArray, List.getElem_cons_zero, List.getElem_cons_succ, Act.put, List.setIfInBounds_toArray, List.set_cons_zero, List.set_cons_succ]
            refine wpAnyH_take (i := 19) (v := (.slice (some ⟨bl, off, none⟩) N c)) rfl (by kernel_rfl) (by kernel_rfl) (by kernel_rfl) (fun _ _ _ h => h) (Or.inl ⟨by rfl, ?_⟩) hHeld ?_
            · intro w hSw; go_simp
            try simp only [List.getElem_toArray, List.getElem_cons_zero, List.getElem_cons_succ, Act.put, List.setIfInBounds_toArray, List.set_cons_zero, List.set_cons_succ]
            refine wpAnyH_take (i := 20) (v := (.int .i64 (i : Int))) rfl (by kernel_rfl) (by kernel_rfl) (by kernel_rfl) (fun _ _ _ h => h) (Or.inl ⟨by rfl, ?_⟩) hHeld ?_
            · intro w hSw; go_simp
            try simp only [List.getElem_toArray, List.getElem_cons_zero, List.getElem_cons_succ, Act.put, List.setIfInBounds_toArray, List.set_cons_zero, List.set_cons_succ]
            refine wpAnyH_take (i := 21) (v := (.pointer (some ⟨bl, off + i * 4, none⟩))) rfl (by kernel_rfl) (by kernel_rfl) (by kernel_rfl) (fun _ _ _ h => h) (Or.inl ⟨by rfl, ?_⟩) hHeld ?_
            · intro w hSw; go_simp
            try simp only [List.getElem_toArray, List.getElem_cons_zero, List.getElem_cons_succ, Act.put, List.setIfInBounds_toArray, List.set_cons_zero, List.set_cons_succ]
            refine wpAnyH_take (i := 22) (v := (.pointer (some ⟨bl, off + i * 4 + 1, none⟩))) rfl (by kernel_rfl) (by kernel_rfl) (by kernel_rfl) (fun _ _ _ h => h) (Or.inl ⟨by rfl, ?_⟩) hHeld ?_
            · intro w hSw; go_simp
            try simp only [List.getElem_toArray, List.getElem_cons_zero, List.getElem_cons_succ, Act.put, List.setIfInBounds_toArray, List.set_cons_zero, List.set_cons_succ]
            refine wpAnyH_take (i := 23) (v := (.int .i64 xt)) rfl (by kernel_rfl) (by kernel_rfl) (by kernel_rfl) (fun _ _ _ h => h) (Or.inl ⟨by rfl, ?_⟩) hHeld ?_
            · intro w hSw; obtain ⟨s0, s1, s2⟩ := hSw; go_simp
            try simp only [List.getElem_toArray, List.getElem_cons_zero, List.getElem_cons_succ, Act.put, List.setIfInBounds_toArray, List.set_cons_zero, List.set_cons_succ]
            refine wpAnyH_take (i := 24) (v := (.int .i64 at_)) rfl (by kernel_rfl) (by kernel_rfl) (by kernel_rfl) (fun _ _ _ h => h) (Or.inl ⟨by rfl, ?_⟩) hHeld ?_
            · intro w hSw; go_simp
            try simp only [List.getElem_toArray, List.getElem_cons_zero, List.getElem_cons_succ, Act.put, List.setIfInBounds_toArray, List.set_cons_zero, List.set_cons_succ]
            refine wpAnyH_take (i := 25) (v := (.bool false)) rfl (by kernel_rfl) (by kernel_rfl) (by kernel_rfl) (fun _ _ _ h => h) (Or.inl ⟨by rfl, ?_⟩) hHeld ?_
            · intro w hSw; go_simp
            try simp only [List.getElem_toArray, List.getElem_cons_zero, List.getElem_cons_succ, Act.put, List.setIfInBounds_toArray, List.set_cons_zero, List.set_cons_succ]
            refine wpAnyH_take (i := 26) (v := (.bool false)) rfl (by kernel_rfl) (by kernel_rfl) (by kernel_rfl) (fun _ _ _ h => h) (Or.inl ⟨by rfl, ?_⟩) hHeld ?_
            · intro w hSw; go_simp
            try simp only [List.getElem_toArray, List.getElem_cons_zero, List.getElem_cons_succ, Act.put, List.setIfInBounds_toArray, List.set_cons_zero, List.set_cons_succ]
            refine wpAnyH_done (by kernel_rfl) ?_ _
            clear hHeld
            go_wp2
            go_roundw
            case rel => exact ⟨i + 1, o4, _, _, by simp, by omega, by have := HL.out; omega, Lib.hid ⟨G.out, TE.out⟩⟩
            case measure => simp [intOf]; omega
        · have hc0' : (cc == 0) = false := by simpa using hc0
          have TE := Lib.hid (F.out.2.fail (n := xn) (by rw [hcc]; exact hc0))
          clear F hcc q1 q2 q3 q0 hc0
          refine wpAnyH_take (i := 17) (v := (.bool false)) rfl (by kernel_rfl) (by kernel_rfl) (by kernel_rfl) (fun _ _ _ h => h) (Or.inl ⟨by rfl, ?_⟩) hHeld ?_
          · intro w hSw; go_simp
          try simp only [List.getElem_toArray, List.getElem_cons_zero, List.getElem_cons_succ, Act.put, List.setIfInBounds_toArray, List.set_cons_zero, List.set_cons_succ]
          refine wpAnyH_take (i := 18) (v := (.bool false)) rfl (by kernel_rfl) (by kernel_rfl) (by kernel_rfl) (fun _ _ _ h => h) (Or.inl ⟨by rfl, ?_⟩) hHeld ?_
          · intro w hSw; go_simp
          try simp only [List.getElem_toArray, List.getElem_cons_zero, List.getElem_cons_succ, Act.put, List.setIfInBounds_toArray, List.set_cons_zero, List.set_cons_succ]
          refine wpAnyH_take (i := 19) (v := undef) rfl (by kernel_rfl) (by kernel_rfl) (by kernel_rfl) (fun _ _ _ h => h) (Or.inr ⟨by rfl, rfl⟩) hHeld ?_
          try simp only [List.getElem_toArray, List.getElem_cons_zero, List.getElem_cons_succ, Act.put, List.setIfInBounds_toArray, List.set_cons_zero, List.set_cons_succ]
          refine wpAnyH_take (i := 20) (v := undef) rfl (by kernel_rfl) (by kernel_rfl) (by kernel_rfl) (fun _ _ _ h => h) (Or.inr ⟨by rfl, rfl⟩) hHeld ?_
          try simp only [List.getElem_toArray, List.getElem_cons_zero, List.getElem_cons_succ, Act.put, List.setIfInBounds_toArray, List.set_cons_zero, List.set_cons_succ]
          refine wpAnyH_take (i := 21) (v := undef) rfl (by kernel_rfl) (by kernel_rfl) (by kernel_rfl) (fun _ _ _ h => h) (Or.inr ⟨by rfl, rfl⟩) hHeld ?_
          try simp only [List.getElem_toArray, List.getElem_cons_zero, List.getElem_cons_succ, Act.put, List.setIfInBounds_toArray, List.set_cons_zero, List.set_cons_succ]
          refine wpAnyH_take (i := 22) (v := undef) rfl (by kernel_rfl) (by kernel_rfl) (by kernel_rfl) (fun _ _ _ h => h) (Or.inr ⟨by rfl, rfl⟩) hHeld ?_
          try simp only [List.getElem_toArray, List.getElem_cons_zero, List.getElem_cons_succ, Act.put, List.setIfInBounds_toArray, List.set_cons_zero, List.set_cons_succ]
          refine wpAnyH_take (i := 23) (v := undef) rfl (by kernel_rfl) (by kernel_rfl) (by kernel_rfl) (fun _ _ _ h => h) (Or.inr ⟨by rfl, rfl⟩) hHeld ?_
          try simp only [List.getElem_toArray, List.getElem_cons_zero, List.getElem_cons_succ, Act.put, List.setIfInBounds_toArray, List.set_cons_zero, List.set_cons_succ]
          refine wpAnyH_take (i := 24) (v := undef) rfl (by kernel_rfl) (by kernel_rfl) (by kernel_rfl) (fun _ _ _ h => h) (Or.inr ⟨by rfl, rfl⟩) hHeld ?_
          try simp only [List.getElem_toArray, List.getElem_cons_zero, List.getElem_cons_succ, Act.put, List.setIfInBounds_toArray, List.set_cons_zero, List.set_cons_succ]
          refine wpAnyH_take (i := 25) (v := undef) rfl (by kernel_rfl) (by kernel_rfl) (by kernel_rfl) (fun _ _ _ h => h) (Or.inr ⟨by rfl, rfl⟩) hHeld ?_
          try simp only [List.getElem_toArray, List.getElem_cons_zero, List.getElem_cons_succ, Act.put, List.setIfInBounds_toArray, List.set_cons_zero, List.set_cons_succ]
          refine wpAnyH_take (i := 26) (v := (.bool false)) rfl (by kernel_rfl) (by kernel_rfl) (by kernel_rfl) (fun _ _ _ h => h) (Or.inl ⟨by rfl, ?_⟩) hHeld ?_
          · intro w hSw; go_simp
          try simp only [List.getElem_toArray, List.getElem_cons_zero, List.getElem_cons_succ, Act.put, List.setIfInBounds_toArray, List.set_cons_zero, List.set_cons_succ]
          refine wpAnyH_done (by kernel_rfl) ?_ _
          clear hHeld
          go_wp2
          go_roundw
          case rel => exact ⟨i + 1, o4, _, _, by simp, by omega, by have := HL.out; omega, Lib.hid ⟨G.out, TE.out⟩⟩
          case measure => simp [intOf]; omega
      · have c3' : (xo != 0) = true := by simpa using c3
        have B := Lib.hid F.out.1.lw.below
        clear F c1 c2
        go_wp2
        go_ret
        exact ⟨rfl, B.out⟩
    · obtain rfl : i = N := by omega
      obtain ⟨tl, htl⟩ : ∃ tl, sumF (tF at_) L = tl := ⟨_, rfl⟩
      obtain ⟨em, hem⟩ : ∃ em, earned M = em := ⟨_, rfl⟩
      obtain ⟨el, hel⟩ : ∃ el, earned L = el := ⟨_, rfl⟩
      have hs := F.out.2.sum
      have hl0 := F.out.2.low
      have he1 := F.out.2.a.e
      have he2 := earned_nn M
      rw [htl, hem, hel] at hs
      rw [htl] at hl0
      rw [hel] at he1
      rw [hem] at he2
      have hm := F.out.2.le
      have C1 : Hid (∀ (o' : Nat → Nat) (w' : World), Lt w o' w' a b L M → Calls Try.prog 14 #[.pointer (some ⟨a, 0, none⟩), .int .i64 at_] w' (RetB (.int .i64 tl) w')) := fun o' w' h => by obtain ⟨v, hv⟩ := h.g; exact ltill at_ tl hv F.out.2.a (by omega) htl
      have C2 : Hid (∀ (o' : Nat → Nat) (w' : World), Lt w o' w' a b L M → Calls Try.prog 18 #[.pointer (some ⟨b, 0, none⟩)] w' fun e w2 => e = .returned (.int .i64 em) ∧ w2 = w') := fun o' w' h => by obtain ⟨v, hv⟩ := h.h; exact learned_v hv hem
      have C3 : Hid (∀ (o' : Nat → Nat) (w' : World), Lt w o' w' a b L M → Calls Try.prog 18 #[.pointer (some ⟨a, 0, none⟩)] w' fun e w2 => e = .returned (.int .i64 el) ∧ w2 = w') := fun o' w' h => by obtain ⟨v, hv⟩ := h.g; exact learned_v hv hel
      have C4 : Hid (∀ (o' : Nat → Nat) (w' : World), Lt w o' w' a b L M → Calls Try.prog 14 #[.pointer (some ⟨a, 0, none⟩), .int .i64 (-1)] w' (RetB (.int .i64 0) w')) := fun o' w' h => by obtain ⟨v, hv⟩ := h.g; exact ltill (-1) 0 hv F.out.2.a (by omega) F.out.2.none
      have e1 : wrap64 (tl + em) = el := by unfold wrap64; omega
      have e2 : (el == el) = true := by simp
      have G := Lib.hid F.out.1
      clear F htl hem hel hs hl0 he1 he2 hm
      go_wp2_with fail
      refine (C1.out _ _ G.out).mono ?_
      rintro e w5 ⟨rfl, b5⟩
      replace G := Lib.hid (G.out.on b5)
      clear b5 C1
      go_wp2_with fail
      refine (C2.out _ _ G.out).mono ?_
      rintro e w6 ⟨rfl, rfl⟩
      go_wp2_with fail
      refine (C3.out _ _ G.out).mono ?_
      rintro e w6 ⟨rfl, rfl⟩
      clear C2 C3
      go_wp2_with fail
      refine (C4.out _ _ G.out).mono ?_
      rintro e w7 ⟨rfl, b7⟩
      replace G := Lib.hid (G.out.on b7)
      clear b7 C4
      go_wp2
      go_ret
      exact ⟨by first | rfl | simp [e1], G.out.lw.below⟩
end Go.Proofs.Ytbmofcggdpjcbaa
