/- FateOnce: the walk. -/
import Derived.Test.YtcbnjjjnhlpklaaFtOnce
namespace Go.Proofs.Ytcbnjjjnhlpklaa
open Go.RowKit Go.Maps
set_option linter.unusedVariables false
set_option linter.unusedSimpArgs false

/-- The book, the map, the law on its way. -/
structure Fo (w : World) (o : Nat → Nat) (W : World) (a b : Nat) (L : List Ft) : Prop where
  bk : ∃ v, Bk 49 o 1 W a v L
  mp : MapA o W b L
  z : FZero L
  lw : Lw w o W
theorem Fo.on {w W W' : World} {o : Nat → Nat} {a b : Nat} {L : List Ft} (h : Fo w o W a b L) (hb : Below W.heap.size W W') : Fo w o W' a b L := by
  obtain ⟨⟨v, h1⟩, h2, h3, h4⟩ := h
  exact ⟨⟨v, h1.below hb⟩, h2.below hb, h3, h4.on hb⟩
theorem below_alloc (W : World) (x : Obj) : Below W.heap.size W (W.alloc x) := (Below.refl _ _).alloc (Nat.le_refl _) _
set_option maxHeartbeats 12800000 in
set_option maxRecDepth 100000 in
theorem FateOnce_ret (jobs : Int) (A : Option Addr) (c : Nat) (l : List ActF) (w : World) (h1 : fitB jobs = true) (hlc : l.length ≤ c) (hc : c ≤ 9223372036854775807) (hrd : RdActF w A l) :
    Calls Try.prog 5 #[.int .i64 jobs, .slice A l.length c] w (RetB (.bool true) w) := by
  have A0 := Lib.hid (awake15_any w)
  clear h1
  obtain ⟨N, hN⟩ : ∃ N : Nat, l.length = N := ⟨_, rfl⟩
  rw [hN] at hlc ⊢
  have Z := Lib.hid (And.intro hN hrd)
  clear hN hrd
  have hmm := @run_makeMap Try.prog
  replace hmm := Lib.hid hmm
  go_enter Try.func5, Try.ntmps5
  go_wp2_with fail
  refine (A0.out).mono ?_; rintro e b0w ⟨rfl, b0⟩
  by_cases k1 : jobs < 1
  · go_wp2
    go_ret
    exact ⟨rfl, by have s0 := b0.size; (try simp only [World.heap_drewN, World.size_alloc] at s0); repeat (first | exact Below.refl _ _ | exact b0 | refine Below.trans ?_ (Below.mono b0 (by first | omega | (simp; done) | (simp; omega))) | refine Below.setCell ?_ (by first | omega | (simp; done) | (simp; omega)) _ | refine below_dN ?_ _ | refine Below.drew ?_ | refine Below.alloc ?_ (by first | omega | (simp; done) | (simp; omega)) _)⟩
  have k1' : decide (jobs < 1) = false := decide_eq_false k1
  by_cases k2 : jobs > 50
  · go_wp2
    go_ret
    exact ⟨rfl, by have s0 := b0.size; (try simp only [World.heap_drewN, World.size_alloc] at s0); repeat (first | exact Below.refl _ _ | exact b0 | refine Below.trans ?_ (Below.mono b0 (by first | omega | (simp; done) | (simp; omega))) | refine Below.setCell ?_ (by first | omega | (simp; done) | (simp; omega)) _ | refine below_dN ?_ _ | refine Below.drew ?_ | refine Below.alloc ?_ (by first | omega | (simp; done) | (simp; omega)) _)⟩
  have k2' : decide (jobs > 50) = false := decide_eq_false k2
  by_cases k3 : (N : Int) > 60
  · go_wp2
    go_ret
    exact ⟨rfl, by have s0 := b0.size; (try simp only [World.heap_drewN, World.size_alloc] at s0); repeat (first | exact Below.refl _ _ | exact b0 | refine Below.trans ?_ (Below.mono b0 (by first | omega | (simp; done) | (simp; omega))) | refine Below.setCell ?_ (by first | omega | (simp; done) | (simp; omega)) _ | refine below_dN ?_ _ | refine Below.drew ?_ | refine Below.alloc ?_ (by first | omega | (simp; done) | (simp; omega)) _)⟩
  have k3' : decide ((N : Int) > 60) = false := decide_eq_false k3
  obtain ⟨n, rfl⟩ : ∃ n : Nat, jobs = n := ⟨jobs.toNat, by omega⟩
  have k9 : N ≤ 60 := by omega
  have k8 : n ≤ 50 := by omega
  have k7 : 1 ≤ n := by omega
  go_wp2_with fail
  refine (fnew (fun _ => 0) 1 _ n (by omega)).mono ?_
  rintro e w1 ⟨a, rfl, _, o1, v1, s1, h1⟩
  have l1 := ((Lw.start w).on b0).step s1 (by decide)
  have F0 := Lib.hid (show Fo w (tag o1 w1.heap.size 3) (w1.alloc (.map #[] 0)) a w1.heap.size (List.replicate n (0, 0)) from ⟨⟨_, h1.alloc _ 3⟩, MapA.made o1 w1 n, FZero.made n, l1.alloc _ 3⟩)
  replace hmm := hmm.out
  clear b0 s1 h1 l1
  go_wp2
  clear hmm
  generalize w1.heap.size = b at *
  generalize tag o1 b 3 = o2 at *
  generalize w1.alloc (.map #[] 0) = w2 at *
  go_loopw [8] (fun s8 wr => ∃ (i : Nat) (o : Nat → Nat) (L : List Ft), s8 = .int .i64 (i : Int) ∧ i ≤ N ∧ L.length = n ∧ Hid (Fo w o wr a b L)) (fun st _ => N - (intOf st).toNat)
  case atStart => exact ⟨0, o2, _, rfl, by omega, by simp, F0⟩
  case round =>
    obtain ⟨i, o, L, rfl, hi, hLn, F⟩ := hrel
    clear F0
    rcases Nat.lt_or_ge i N with hlt | hge
    · obtain ⟨⟨xi, xk, xt⟩, hx⟩ : ∃ x, l[i]? = some x := ⟨_, List.getElem?_eq_getElem (by rw [Z.out.1]; exact hlt)⟩
      obtain ⟨bl, off, rfl, q0, q1, q2⟩ := Z.out.2 i _ hx
      simp only at q0 q1 q2
      have qb : bl < w.heap.size := World.block_lt_of_cell? _ _ q0
      have R : Hid (∀ W, Below w.heap.size w W → W.cell? ⟨bl, off + i * 3, none⟩ = some (.int .i64 xi) ∧ W.cell? ⟨bl, off + i * 3 + 1, none⟩ = some (.int .i64 xk) ∧ W.cell? ⟨bl, off + i * 3 + 2, none⟩ = some (.int .i64 xt)) := fun W hb =>
        ⟨(hb.cell (p := ⟨bl, _, none⟩) qb).trans q0, (hb.cell (p := ⟨bl, _, none⟩) qb).trans q1, (hb.cell (p := ⟨bl, _, none⟩) qb).trans q2⟩
      clear q0 q1 q2
      have z1 : (i : Int) < (N : Int) := by omega
      have z2 : (0 : Int) ≤ (i : Int) := by omega
      obtain ⟨cc, hcc⟩ : ∃ cc, sayE L xi xk xt = cc := ⟨_, rfl⟩
      have HL := Lib.hid (show (sayL L xi xk xt).length = n from by rw [sayL_len]; exact hLn)
      obtain ⟨v4, h4⟩ := F.out.bk
      have C1 := Lib.hid (fsay xi xk xt cc _ (h4.drewN 1) (by omega) hcc rfl)
      have K0 := R.out (wr.drewN 1) (below_dN F.out.lw.below 1)
      clear hx qb h4
      go_wp2
      refine wp_region_held_drew (S := fun W => W.cell? ⟨bl, off + i * 3, none⟩ = some (.int .i64 xi) ∧ W.cell? ⟨bl, off + i * 3 + 1, none⟩ = some (.int .i64 xk) ∧ W.cell? ⟨bl, off + i * 3 + 2, none⟩ = some (.int .i64 xt)) (by kernel_rfl) K0 (fun hHeld => ?_)
      refine wpAnyH_take (i := 0) (v := (.pointer (some ⟨a, 0, none⟩))) rfl (by kernel_rfl) (by kernel_rfl) (by kernel_rfl) (fun _ _ _ h => h) (Or.inl ⟨by rfl, ?_⟩) hHeld ?_
      · intro w hSw; go_simp
      try simp only [List.getElem_toArray, List.getElem_cons_zero, List.getElem_cons_succ, Act.put, List.setIfInBounds_toArray, List.set_cons_zero, List.set_cons_succ]
      refine wpAnyH_take (i := 1) (v := (.slice (some ⟨bl, off, none⟩) N c)) rfl (by kernel_rfl) (by kernel_rfl) (by kernel_rfl) (fun _ _ _ h => h) (Or.inl ⟨by rfl, ?_⟩) hHeld ?_
      · intro w hSw; go_simp
      try simp only [List.getElem_toArray, List.getElem_cons_zero, List.getElem_cons_succ, Act.put, List.setIfInBounds_toArray, List.set_cons_zero, List.set_cons_succ]
      refine wpAnyH_take (i := 2) (v := (.int .i64 (i : Int))) rfl (by kernel_rfl) (by kernel_rfl) (by kernel_rfl) (fun _ _ _ h => h) (Or.inl ⟨by rfl, ?_⟩) hHeld ?_
      · intro w hSw; go_simp
      try simp only [List.getElem_toArray, List.getElem_cons_zero, List.getElem_cons_succ, Act.put, List.setIfInBounds_toArray, List.set_cons_zero, List.set_cons_succ]
      refine wpAnyH_take (i := 3) (v := (.pointer (some ⟨bl, off + i * 3, none⟩))) rfl (by kernel_rfl) (by kernel_rfl) (by kernel_rfl) (fun _ _ _ h => h) (Or.inl ⟨by rfl, ?_⟩) hHeld ?_
      · intro w hSw; go_simp
      try simp only [List.getElem_toArray, List.getElem_cons_zero, List.getElem_cons_succ, Act.put, List.setIfInBounds_toArray, List.set_cons_zero, List.set_cons_succ]
      refine wpAnyH_take (i := 4) (v := (.pointer (some ⟨bl, off + i * 3, none⟩))) rfl (by kernel_rfl) (by kernel_rfl) (by kernel_rfl) (fun _ _ _ h => h) (Or.inl ⟨by rfl, ?_⟩) hHeld ?_
      · intro w hSw; go_simp
      try simp only [List.getElem_toArray, List.getElem_cons_zero, List.getElem_cons_succ, Act.put, List.setIfInBounds_toArray, List.set_cons_zero, List.set_cons_succ]
      refine wpAnyH_take (i := 5) (v := (.int .i64 xi)) rfl (by kernel_rfl) (by kernel_rfl) (by kernel_rfl) (fun _ _ _ h => h) (Or.inl ⟨by rfl, ?_⟩) hHeld ?_
      · intro w hSw; obtain ⟨s0, s1, s2⟩ := hSw; go_simp
      try simp only [List.getElem_toArray, List.getElem_cons_zero, List.getElem_cons_succ, Act.put, List.setIfInBounds_toArray, List.set_cons_zero, List.set_cons_succ]
      refine wpAnyH_take (i := 6) (v := (.slice (some ⟨bl, off, none⟩) N c)) rfl (by kernel_rfl) (by kernel_rfl) (by kernel_rfl) (fun _ _ _ h => h) (Or.inl ⟨by rfl, ?_⟩) hHeld ?_
      · intro w hSw; go_simp
      try simp only [List.getElem_toArray, List.getElem_cons_zero, List.getElem_cons_succ, Act.put, List.setIfInBounds_toArray, List.set_cons_zero, List.set_cons_succ]
      refine wpAnyH_take (i := 7) (v := (.int .i64 (i : Int))) rfl (by kernel_rfl) (by kernel_rfl) (by kernel_rfl) (fun _ _ _ h => h) (Or.inl ⟨by rfl, ?_⟩) hHeld ?_
      · intro w hSw; go_simp
      try simp only [List.getElem_toArray, List.getElem_cons_zero, List.getElem_cons_succ, Act.put, List.setIfInBounds_toArray, List.set_cons_zero, List.set_cons_succ]
      refine wpAnyH_take (i := 8) (v := (.pointer (some ⟨bl, off + i * 3, none⟩))) rfl (by kernel_rfl) (by kernel_rfl) (by kernel_rfl) (fun _ _ _ h => h) (Or.inl ⟨by rfl, ?_⟩) hHeld ?_
      · intro w hSw; go_simp
      try simp only [List.getElem_toArray, List.getElem_cons_zero, List.getElem_cons_succ, Act.put, List.setIfInBounds_toArray, List.set_cons_zero, List.set_cons_succ]
      refine wpAnyH_take (i := 9) (v := (.pointer (some ⟨bl, off + i * 3 + 1, none⟩))) rfl (by kernel_rfl) (by kernel_rfl) (by kernel_rfl) (fun _ _ _ h => h) (Or.inl ⟨by rfl, ?_⟩) hHeld ?_
      · intro w hSw; go_simp
      try simp only [List.getElem_toArray, List.getElem_cons_zero, List.getElem_cons_succ, Act.put, List.setIfInBounds_toArray, List.set_cons_zero, List.set_cons_succ]
      refine wpAnyH_take (i := 10) (v := (.int .i64 xk)) rfl (by kernel_rfl) (by kernel_rfl) (by kernel_rfl) (fun _ _ _ h => h) (Or.inl ⟨by rfl, ?_⟩) hHeld ?_
      · intro w hSw; obtain ⟨s0, s1, s2⟩ := hSw; go_simp
      try simp only [List.getElem_toArray, List.getElem_cons_zero, List.getElem_cons_succ, Act.put, List.setIfInBounds_toArray, List.set_cons_zero, List.set_cons_succ]
      refine wpAnyH_take (i := 11) (v := (.slice (some ⟨bl, off, none⟩) N c)) rfl (by kernel_rfl) (by kernel_rfl) (by kernel_rfl) (fun _ _ _ h => h) (Or.inl ⟨by rfl, ?_⟩) hHeld ?_
      · intro w hSw; go_simp
      try simp only [List.getElem_toArray, List.getElem_cons_zero, List.getElem_cons_succ, Act.put, List.setIfInBounds_toArray, List.set_cons_zero, List.set_cons_succ]
      refine wpAnyH_take (i := 12) (v := (.int .i64 (i : Int))) rfl (by kernel_rfl) (by kernel_rfl) (by kernel_rfl) (fun _ _ _ h => h) (Or.inl ⟨by rfl, ?_⟩) hHeld ?_
      · intro w hSw; go_simp
      try simp only [List.getElem_toArray, List.getElem_cons_zero, List.getElem_cons_succ, Act.put, List.setIfInBounds_toArray, List.set_cons_zero, List.set_cons_succ]
      refine wpAnyH_take (i := 13) (v := (.pointer (some ⟨bl, off + i * 3, none⟩))) rfl (by kernel_rfl) (by kernel_rfl) (by kernel_rfl) (fun _ _ _ h => h) (Or.inl ⟨by rfl, ?_⟩) hHeld ?_
      · intro w hSw; go_simp
      try simp only [List.getElem_toArray, List.getElem_cons_zero, List.getElem_cons_succ, Act.put, List.setIfInBounds_toArray, List.set_cons_zero, List.set_cons_succ]
      refine wpAnyH_take (i := 14) (v := (.pointer (some ⟨bl, off + i * 3 + 2, none⟩))) rfl (by kernel_rfl) (by kernel_rfl) (by kernel_rfl) (fun _ _ _ h => h) (Or.inl ⟨by rfl, ?_⟩) hHeld ?_
      · intro w hSw; go_simp
      try simp only [List.getElem_toArray, List.getElem_cons_zero, List.getElem_cons_succ, Act.put, List.setIfInBounds_toArray, List.set_cons_zero, List.set_cons_succ]
      refine wpAnyH_take (i := 15) (v := (.int .i64 xt)) rfl (by kernel_rfl) (by kernel_rfl) (by kernel_rfl) (fun _ _ _ h => h) (Or.inl ⟨by rfl, ?_⟩) hHeld ?_
      · intro w hSw; obtain ⟨s0, s1, s2⟩ := hSw; go_simp
      try simp only [List.getElem_toArray, List.getElem_cons_zero, List.getElem_cons_succ, Act.put, List.setIfInBounds_toArray, List.set_cons_zero, List.set_cons_succ]
      refine wpAnyH_ready (rs := [16]) (by kernel_rfl) (by simp) ?_
      refine AllReadyH.cons rfl (fun K hK => ?_) AllReadyH.nil
      clear hHeld
      go_simp
      refine C1.out.mono ?_
      rintro e w4 ⟨rfl, o4, v5, st4, h5⟩
      have G := Lib.hid (And.intro h5 (And.intro ((F.out.mp.below (below_dN (Below.refl _ _) 1)).step st4 (by decide)) ((F.out.lw.drewN 1).step st4 (by decide))))
      clear C1 st4 h5
      refine hK.out _ _ (R.out w4 G.out.2.2.below) (fun hHeld => ?_)
      clear hK K
      by_cases hc0 : cc = 0
      · subst hc0
        refine wpAnyH_take (i := 17) (v := (.bool true)) rfl (by kernel_rfl) (by kernel_rfl) (by kernel_rfl) (fun _ _ _ h => h) (Or.inl ⟨by rfl, ?_⟩) hHeld ?_
        · intro w hSw; go_simp
        try simp only [List.getElem_toArray, List.getElem_cons_zero, List.getElem_cons_succ, Act.put, List.setIfInBounds_toArray, List.set_cons_zero, List.set_cons_succ]
        refine wpAnyH_done (by kernel_rfl) ?_ _
        clear hHeld
        obtain ⟨u1, _, _, _, u5⟩ := sayE_zero hcc
        have hfi : fitB xi = true := by have := inB_iff.1 u1; exact fitB_true (by omega)
        have Lk := G.out.2.1.none hfi u5
        obtain ⟨p0, p1, p2⟩ := R.out w4 G.out.2.2.below
        have hm5 := G.out.2.1.below (below_dN (below_alloc w4 (.cells #[.int .i64 0, .int .i64 0, .int .i64 0] 40)) 1)
        obtain ⟨w6, hup, hm6, st6⟩ := hm5.put hfi (by omega) hcc
        replace hup : (Instr.mapUpdate 45 (.map (some b)) (.int .i64 xi) (.agg #[.int .i64 xi, .int .i64 xk, .int .i64 xt])).run Try.prog (w4.alloc (.cells #[.int .i64 0, .int .i64 0, .int .i64 0] 40)).drew = .ok () w6 := hup
        have hb6 : Bk 49 o4 1 ((w4.alloc (.cells #[.int .i64 0, .int .i64 0, .int .i64 0] 40)).drewN 1) a v5 (sayL L xi xk xt) := (G.out.1.below (below_alloc w4 _)).drewN 1
        have hl6 : Lw w o4 ((w4.alloc (.cells #[.int .i64 0, .int .i64 0, .int .i64 0] 40)).drewN 1) := (G.out.2.2.on (below_alloc w4 _)).drewN 1
        have K5 := R.out _ hl6.below
        have G6 := Lib.hid (show Fo w _ w6 a b (sayL L xi xk xt) from ⟨⟨_, hb6.step st6 (by decide)⟩, hm6, F.out.z.say xi xk xt, hl6.step st6 (by decide)⟩)
        clear G hm5 hm6 hb6 hl6 st6 F u1 u5 hfi hcc hLn
        go_wp2
        refine wp_region_held_drew (S := fun W => W.cell? ⟨bl, off + i * 3, none⟩ = some (.int .i64 xi) ∧ W.cell? ⟨bl, off + i * 3 + 1, none⟩ = some (.int .i64 xk) ∧ W.cell? ⟨bl, off + i * 3 + 2, none⟩ = some (.int .i64 xt)) (by kernel_rfl) K5 (fun hHeld => ?_)
        refine wpAnyH_take (i := 0) (v := (.map (some b))) rfl (by kernel_rfl) (by kernel_rfl) (by kernel_rfl) (fun _ _ _ h => h) (Or.inl ⟨by rfl, ?_⟩) hHeld ?_
        · intro w hSw; go_simp
        try simp only [List.getElem_toArray, List.getElem_cons_zero, List.getElem_cons_succ, Act.put, List.setIfInBounds_toArray, List.set_cons_zero, List.set_cons_succ]
        refine wpAnyH_take (i := 1) (v := (.slice (some ⟨bl, off, none⟩) N c)) rfl (by kernel_rfl) (by kernel_rfl) (by kernel_rfl) (fun _ _ _ h => h) (Or.inl ⟨by rfl, ?_⟩) hHeld ?_
        · intro w hSw; go_simp
        try simp only [List.getElem_toArray, List.getElem_cons_zero, List.getElem_cons_succ, Act.put, List.setIfInBounds_toArray, List.set_cons_zero, List.set_cons_succ]
        refine wpAnyH_take (i := 2) (v := (.int .i64 (i : Int))) rfl (by kernel_rfl) (by kernel_rfl) (by kernel_rfl) (fun _ _ _ h => h) (Or.inl ⟨by rfl, ?_⟩) hHeld ?_
        · intro w hSw; go_simp
        try simp only [List.getElem_toArray, List.getElem_cons_zero, List.getElem_cons_succ, Act.put, List.setIfInBounds_toArray, List.set_cons_zero, List.set_cons_succ]
        refine wpAnyH_take (i := 3) (v := (.pointer (some ⟨bl, off + i * 3, none⟩))) rfl (by kernel_rfl) (by kernel_rfl) (by kernel_rfl) (fun _ _ _ h => h) (Or.inl ⟨by rfl, ?_⟩) hHeld ?_
        · intro w hSw; go_simp
        try simp only [List.getElem_toArray, List.getElem_cons_zero, List.getElem_cons_succ, Act.put, List.setIfInBounds_toArray, List.set_cons_zero, List.set_cons_succ]
        refine wpAnyH_take (i := 4) (v := (.pointer (some ⟨bl, off + i * 3, none⟩))) rfl (by kernel_rfl) (by kernel_rfl) (by kernel_rfl) (fun _ _ _ h => h) (Or.inl ⟨by rfl, ?_⟩) hHeld ?_
        · intro w hSw; go_simp
        try simp only [List.getElem_toArray, List.getElem_cons_zero, List.getElem_cons_succ, Act.put, List.setIfInBounds_toArray, List.set_cons_zero, List.set_cons_succ]
        refine wpAnyH_take (i := 5) (v := (.int .i64 xi)) rfl (by kernel_rfl) (by kernel_rfl) (by kernel_rfl) (fun _ _ _ h => h) (Or.inl ⟨by rfl, ?_⟩) hHeld ?_
        · intro w hSw; obtain ⟨s0, s1, s2⟩ := hSw; go_simp
        try simp only [List.getElem_toArray, List.getElem_cons_zero, List.getElem_cons_succ, Act.put, List.setIfInBounds_toArray, List.set_cons_zero, List.set_cons_succ]
        refine wpAnyH_take (i := 6) (v := (.slice (some ⟨bl, off, none⟩) N c)) rfl (by kernel_rfl) (by kernel_rfl) (by kernel_rfl) (fun _ _ _ h => h) (Or.inl ⟨by rfl, ?_⟩) hHeld ?_
        · intro w hSw; go_simp
        try simp only [List.getElem_toArray, List.getElem_cons_zero, List.getElem_cons_succ, Act.put, List.setIfInBounds_toArray, List.set_cons_zero, List.set_cons_succ]
        refine wpAnyH_take (i := 7) (v := (.int .i64 (i : Int))) rfl (by kernel_rfl) (by kernel_rfl) (by kernel_rfl) (fun _ _ _ h => h) (Or.inl ⟨by rfl, ?_⟩) hHeld ?_
        · intro w hSw; go_simp
        try simp only [List.getElem_toArray, List.getElem_cons_zero, List.getElem_cons_succ, Act.put, List.setIfInBounds_toArray, List.set_cons_zero, List.set_cons_succ]
        refine wpAnyH_take (i := 8) (v := (.pointer (some ⟨bl, off + i * 3, none⟩))) rfl (by kernel_rfl) (by kernel_rfl) (by kernel_rfl) (fun _ _ _ h => h) (Or.inl ⟨by rfl, ?_⟩) hHeld ?_
        · intro w hSw; go_simp
        try simp only [List.getElem_toArray, List.getElem_cons_zero, List.getElem_cons_succ, Act.put, List.setIfInBounds_toArray, List.set_cons_zero, List.set_cons_succ]
        refine wpAnyH_take (i := 9) (v := (.agg #[.int .i64 xi, .int .i64 xk, .int .i64 xt])) rfl (by kernel_rfl) (by kernel_rfl) (by kernel_rfl) (fun _ _ _ h => h) (Or.inl ⟨by rfl, ?_⟩) hHeld ?_
        · intro w hSw; obtain ⟨s0, s1, s2⟩ := hSw; go_simp
        try simp only [List.getElem_toArray, List.getElem_cons_zero, List.getElem_cons_succ, Act.put, List.setIfInBounds_toArray, List.set_cons_zero, List.set_cons_succ]
        refine wpAnyH_ready (rs := [10]) (by kernel_rfl) (by simp) ?_
        refine AllReadyH.cons rfl (fun K hK => ?_) AllReadyH.nil
        clear hHeld
        go_simp
        refine hK.out _ _ (R.out w6 G6.out.lw.below) (fun hHeld => ?_)
        clear hK K
        refine wpAnyH_done (by kernel_rfl) ?_ _
        clear hHeld hup Lk p0 p1 p2 K5
        go_wp2
        go_roundw
        case rel => exact ⟨i + 1, _, _, by simp, by omega, HL.out, G6⟩
        case measure => simp [intOf]; omega
      · have hc0' : (cc == 0) = false := by simpa using hc0
        have hLe : sayL L xi xk xt = L := by unfold sayL; rw [hcc, if_neg hc0]
        rw [hLe] at G
        have G6 := Lib.hid (show Fo w o4 w4 a b L from ⟨⟨_, G.out.1⟩, G.out.2.1, F.out.z, G.out.2.2⟩)
        refine wpAnyH_take (i := 17) (v := (.bool false)) rfl (by kernel_rfl) (by kernel_rfl) (by kernel_rfl) (fun _ _ _ h => h) (Or.inl ⟨by rfl, ?_⟩) hHeld ?_
        · intro w hSw; go_simp
        try simp only [List.getElem_toArray, List.getElem_cons_zero, List.getElem_cons_succ, Act.put, List.setIfInBounds_toArray, List.set_cons_zero, List.set_cons_succ]
        refine wpAnyH_done (by kernel_rfl) ?_ _
        clear hHeld G F hcc hc0 hLe
        go_wp2
        go_roundw
        case rel => exact ⟨i + 1, o4, L, by simp, by omega, hLn, G6⟩
        case measure => simp [intOf]; omega
    · obtain rfl : i = N := by omega
      have CO := Lib.hid (F.out.bk)
      obtain ⟨v4, h4⟩ := CO.out
      have hlen := cntF_le L 0
      obtain ⟨q, hq⟩ : ∃ q, cntF L 0 = q := ⟨_, rfl⟩
      have hol := openI_len L
      rw [hq] at hol hlen
      rw [hLn] at hlen
      have Y := Lib.hid (And.intro hLn (And.intro hq hol))
      clear h4 CO hLn hq hol
      go_wp2
      obtain ⟨wo, hwo⟩ : ∃ v, v = wr := ⟨wr, rfl⟩
      subst hwo
      go_loopw [11] (fun s11 wr => ∃ (j : Nat), s11 = .int .i64 (j : Int) ∧ j ≤ n ∧ Hid (Fo w o wr a b L)) (fun st _ => n - (intOf st).toNat)
      case atStart => exact ⟨0, rfl, by omega, F⟩
      case round =>
        obtain ⟨j, rfl, hj, F2⟩ := hrel
        clear F
        rcases Nat.lt_or_ge j n with hlt | hge
        · obtain ⟨⟨xk, xt⟩, hx⟩ : ∃ x, ofV L (j : Int) = x := ⟨_, rfl⟩
          have hz := F2.out.z (j : Int)
          rw [hx] at hz
          obtain ⟨v4, h4⟩ := F2.out.bk
          have C1 := Lib.hid (fof (j : Int) h4 (by have := Y.out.1; omega) hx (r := true) (inB_iff.2 ⟨by omega, by have := Y.out.1; omega⟩))
          have z1 : (j : Int) < (n : Int) := by omega
          have hfj : fitB (j : Int) = true := fitB_true (by omega)
          have LK := Lib.hid (fun w' (hb : Below wr.heap.size wr w') => (F2.out.on hb).mp.look hfj hx hz)
          obtain ⟨y0, hy0⟩ : ∃ y0, (if xk = 0 then 0 else (j : Int)) = y0 := ⟨_, rfl⟩
          simp only [hy0] at LK
          have y1 : (xk != xk) = false := by simp
          have y2 : (xt != xt) = false := by simp
          clear h4 hz hx hfj hy0
          go_wp2_with fail
          refine C1.out.mono ?_
          rintro e w5 ⟨rfl, b5⟩
          have L5 := LK.out (w5.alloc (.cells #[.int .i64 xk, .int .i64 xt] 29)) (b5.alloc b5.size _)
          have F5 := Lib.hid ((F2.out.on b5).on (below_alloc w5 (.cells #[.int .i64 xk, .int .i64 xt] 29)))
          clear C1 b5 F2 LK
          go_wp2
          go_roundw
          case rel => exact ⟨j + 1, by simp, by omega, Lib.hid (F5.out.on (below_alloc _ _))⟩
          case measure => simp [intOf]; omega
        · obtain rfl : j = n := by omega
          obtain ⟨v4, h4⟩ := F2.out.bk
          have C1 := Lib.hid (fopen h4 (by have := Y.out.1; omega))
          rw [Y.out.2.2] at C1
          have LE : Hid (∀ w' ty, Below wr.heap.size wr w' → (Builtin.len_ #[45] ty #[.map (some b)]).run Try.prog w' = .ok (.int .i64 ((j - q : Nat) : Int)) w') := fun w' ty hb => by
            have := (F2.out.on hb).mp.len ty
            rw [Y.out.1, Y.out.2.1] at this
            exact this
          clear h4
          go_wp2_with fail
          refine C1.out.mono ?_
          rintro e w5 ⟨v5, rfl, hown, b5⟩
          obtain ⟨A5, c5, rfl⟩ := own_any hown
          have le := fun ty => LE.out w5 ty b5
          have F5 := Lib.hid ((F2.out.on b5).lw.below)
          obtain ⟨m, hm⟩ : ∃ m, j - q = m := ⟨_, rfl⟩
          rw [hm] at le
          have e1 : wrap64 ((j : Int) - (m : Int)) = (q : Int) := by unfold wrap64; omega
          have e2 : ((q : Int) == (q : Int)) = true := by simp
          have e3 : ((q : Int) == (j : Int) - (m : Int)) = true := by simp; omega
          clear C1 b5 F2 LE hown
          go_wp2
          go_ret
          exact ⟨by first | rfl | (simp [e1]; done) | (simp; omega), F5.out⟩
end Go.Proofs.Ytcbnjjjnhlpklaa
