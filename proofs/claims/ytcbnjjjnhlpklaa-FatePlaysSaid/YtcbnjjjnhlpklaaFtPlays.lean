/- FatePlays: any words answer as the document says. -/
import Derived.Test.YtcbnjjjnhlpklaaFtAwake
import Derived.Deep.RegionHeld3
namespace Go.Proofs.Ytcbnjjjnhlpklaa
open Go.RowKit
set_option linter.unusedVariables false
set_option linter.unusedSimpArgs false

/-- Both books in one state; the law on its way. -/
structure Fp (w : World) (o : Nat → Nat) (W : World) (a b : Nat) (L : List Ft) : Prop where
  g : ∃ v, Bk 49 o 1 W a v L
  r : ∃ v, Bk 38 o 2 W b v L
  inv : FInv L
  lw : Lw w o W
section
variable {w W W' : World} {o o' : Nat → Nat} {a b τ : Nat} {l L : List Ft}
theorem Fp.on (h : Fp w o W a b l) (hb : Below W.heap.size W W') : Fp w o W' a b l := by
  obtain ⟨⟨v, h1⟩, ⟨u, h2⟩, h3, h4⟩ := h
  exact ⟨⟨v, h1.below hb⟩, ⟨u, h2.below hb⟩, h3, h4.on hb⟩
theorem Fp.step (h : Fp w o W a b l) (st : Step o o' τ W W') (h1 : τ ≠ 1) (h2 : τ ≠ 2) (h0 : τ ≠ 0) : Fp w o' W' a b l := by
  obtain ⟨⟨v, k1⟩, ⟨u, k2⟩, k3, k4⟩ := h
  exact ⟨⟨v, k1.step st (fun e => h1 e.symm)⟩, ⟨u, k2.step st (fun e => h2 e.symm)⟩, k3, k4.step st h0⟩
theorem Fp.both {o1 o2 : Nat → Nat} {W1 W2 : World} (h : Fp w o W a b l) (st : Step o o1 1 W W1) (h1 : ∃ v, Bk 49 o1 1 W1 a v L) (st2 : Step o1 o2 2 W1 W2) (h2 : ∃ v, Bk 38 o2 2 W2 b v L) (hi : FInv L) : Fp w o2 W2 a b L := by
  obtain ⟨v1, h1⟩ := h1
  exact ⟨⟨v1, h1.step st2 (by decide)⟩, h2, hi, (h.lw.step st (by decide)).step st2 (by decide)⟩
end
theorem below_allocF (W : World) (x : Obj) : Below W.heap.size W (W.alloc x) := (Below.refl _ _).alloc (Nat.le_refl _) _
set_option maxHeartbeats 25600000 in
set_option maxRecDepth 100000 in
theorem FatePlays_ret (jobs : Int) (A : Option Addr) (c : Nat) (l : List ActF) (ask : Int) (w : World) (h1 : fitB jobs = true) (hlc : l.length ≤ c) (hc : c ≤ 9223372036854775807) (hrd : RdActF w A l) (h2 : fitB ask = true) :
    Calls Try.prog 4 #[.int .i64 jobs, .slice A l.length c, .int .i64 ask] w (RetB (.bool true) w) := by
  have A0 := Lib.hid (awake15_any w)
  obtain ⟨as0, as1⟩ := fitB_iff.1 h2
  clear h1 h2
  obtain ⟨N, hN⟩ : ∃ N : Nat, l.length = N := ⟨_, rfl⟩
  rw [hN] at hlc ⊢
  have Z := Lib.hid (And.intro hN hrd)
  clear hN hrd
  go_enter Try.func4, Try.ntmps4
  go_wp2_with fail
  refine (A0.out).mono ?_; rintro e b0w ⟨rfl, b0⟩
  by_cases k1 : jobs < 0 ∨ jobs > 200
  · as_aux_lemma =>
      go_wp2_with fail
      refine (fnew_bad _ jobs (by omega)).mono ?_
      rintro e w1 ⟨rfl, rfl⟩
      rcases k1 with k1 | k1
      · go_wp2
        go_ret
        exact ⟨rfl, by have s0 := b0.size; (try simp only [World.heap_drewN, World.size_alloc] at s0); repeat (first | exact Below.refl _ _ | exact b0 | refine Below.trans ?_ (Below.mono b0 (by first | omega | (simp; done) | (simp; omega))) | refine Below.setCell ?_ (by first | omega | (simp; done) | (simp; omega)) _ | refine below_dN ?_ _ | refine Below.drew ?_ | refine Below.alloc ?_ (by first | omega | (simp; done) | (simp; omega)) _)⟩
      · have k2 : decide (jobs < 0) = false := decide_eq_false (by omega)
        go_wp2
        go_ret
        exact ⟨rfl, by have s0 := b0.size; (try simp only [World.heap_drewN, World.size_alloc] at s0); repeat (first | exact Below.refl _ _ | exact b0 | refine Below.trans ?_ (Below.mono b0 (by first | omega | (simp; done) | (simp; omega))) | refine Below.setCell ?_ (by first | omega | (simp; done) | (simp; omega)) _ | refine below_dN ?_ _ | refine Below.drew ?_ | refine Below.alloc ?_ (by first | omega | (simp; done) | (simp; omega)) _)⟩
  obtain ⟨n, rfl⟩ : ∃ n : Nat, jobs = n := ⟨jobs.toNat, by omega⟩
  have k1' : decide ((n : Int) < 0) = false := decide_eq_false (by omega)
  have k2' : decide ((n : Int) > 200) = false := decide_eq_false (by omega)
  have k8 : n ≤ 200 := by omega
  go_wp2_with fail
  refine (fnew (fun _ => 0) 1 _ n k8).mono ?_
  rintro e w1 ⟨a, rfl, ha1, o1, v1, s1, h1⟩
  have l1 := ((Lw.start w).on b0).step s1 (by decide)
  by_cases k3 : (N : Int) > 60
  · as_aux_lemma =>
      replace l1 := Lib.hid l1
      clear h1 s1 b0
      go_wp2
      go_ret
      exact ⟨rfl, l1.out.below⟩
  have k3' : decide ((N : Int) > 60) = false := decide_eq_false k3
  have k9 : N ≤ 60 := by omega
  have mk := make_fates n (by omega)
  have hs : (cellsT (List.replicate n (0, 0))).toArray.size = n * 2 := by rw [List.size_toArray, cellsT_length]; simp
  have F0 : Hid (∀ cs, cs = (cellsT (List.replicate n (0, 0))).toArray → ∃ o2, Fp w o2 ((w1.alloc (.cells cs 29)).alloc (.cells #[.slice (some ⟨w1.heap.size, 0, none⟩) n n] 38)) a (w1.heap.size + 1) (List.replicate n (0, 0))) := by
    rintro cs rfl
    have hr : Row (tag o1 w1.heap.size 2) 2 (w1.alloc (.cells (cellsT (List.replicate n (0, 0))).toArray 29)) 29 2 (.slice (some ⟨w1.heap.size, 0, none⟩) n n) (List.replicate n ((0, 0) : Ft)).length (cellsT (List.replicate n (0, 0))) := by
      have := World.ownsRow_lit (e := 29) (size := 2) (base := w1.heap.size) w1 (cellsT (List.replicate n (0, 0))).toArray n (Nat.le_refl _) (by unfold maxLen; omega) hs
      rw [List.length_replicate]
      exact Row.fresh 2 this o1
    have hb := Blk.made (tag o1 w1.heap.size 2) 2 (w1.alloc (.cells (cellsT (List.replicate n (0, 0))).toArray 29)) #[.slice (some ⟨w1.heap.size, 0, none⟩) n n] 38
    have hbs : (w1.alloc (.cells (cellsT (List.replicate n (0, 0))).toArray 29)).heap.size = w1.heap.size + 1 := by simp
    rw [hbs] at hb
    have hr2 := hr.alloc (.cells #[.slice (some ⟨w1.heap.size, 0, none⟩) n n] 38) 2
    rw [hbs] at hr2
    have hg := (h1.alloc (.cells (cellsT (List.replicate n (0, 0))).toArray 29) 2).alloc (.cells #[.slice (some ⟨w1.heap.size, 0, none⟩) n n] 38) 2
    rw [hbs] at hg
    have hl := (l1.alloc (.cells (cellsT (List.replicate n (0, 0))).toArray 29) 2).alloc (.cells #[.slice (some ⟨w1.heap.size, 0, none⟩) n n] 38) 2
    rw [hbs] at hl
    exact ⟨_, ⟨_, hg⟩, ⟨_, hb, hr2⟩, FInv.made n, hl⟩
  have hs2 := Lib.hid hs
  obtain ⟨cs, hcs⟩ : ∃ cs, cs = (cellsT (List.replicate n (0, 0))).toArray := ⟨_, rfl⟩
  rw [← hcs] at mk
  replace F0 := Lib.hid (F0.out cs hcs)
  clear b0 s1 h1 l1 hs hs2 hcs k1 k3
  go_wp2
  obtain ⟨o2, P0⟩ := F0.out
  replace P0 := Lib.hid P0
  clear F0 mk
  generalize w1.heap.size + 1 = b at *
  generalize (w1.alloc (.cells cs 29)).alloc (.cells #[.slice (some ⟨w1.heap.size, 0, none⟩) n n] 38) = w2 at *
  go_loopw [10] (fun s10 wr => ∃ (i : Nat) (o : Nat → Nat) (L : List Ft), s10 = .int .i64 (i : Int) ∧ i ≤ N ∧ L.length = n ∧ Hid (Fp w o wr a b L)) (fun st _ => N - (intOf st).toNat)
  case atStart => exact ⟨0, o2, _, rfl, by omega, by simp, P0⟩
  case round =>
    obtain ⟨i, o, L, rfl, hi, hLn, P⟩ := hrel
    clear P0
    rcases Nat.lt_or_ge i N with hlt | hge
    · obtain ⟨⟨xi, xk, xt⟩, hx⟩ : ∃ x, l[i]? = some x := ⟨_, List.getElem?_eq_getElem (by rw [Z.out.1]; exact hlt)⟩
      obtain ⟨bl, off, rfl, q0, q1, q2⟩ := Z.out.2 i _ hx
      simp only at q0 q1 q2
      have qb : bl < w.heap.size := World.block_lt_of_cell? _ _ q0
      have R : Hid (∀ W, Below w.heap.size w W → W.cell? ⟨bl, off + i * 3, none⟩ = some (.int .i64 xi) ∧ W.cell? ⟨bl, off + i * 3 + 1, none⟩ = some (.int .i64 xk) ∧ W.cell? ⟨bl, off + i * 3 + 2, none⟩ = some (.int .i64 xt)) := fun W hb =>
        ⟨(hb.cell (p := ⟨bl, _, none⟩) qb).trans q0, (hb.cell (p := ⟨bl, _, none⟩) qb).trans q1, (hb.cell (p := ⟨bl, _, none⟩) qb).trans q2⟩
      clear q0 q1 q2
      have z1 : (i : Int) < (N : Int) := by omega
      have z2 : (0 : Int) ≤ (i : Int) := by omega
      obtain ⟨cc, hcc⟩ : ∃ cc, sayE L xi xk xt = cc := ⟨_, rfl⟩
      obtain ⟨L6, hL6⟩ : ∃ L6, sayL L xi xk xt = L6 := ⟨_, rfl⟩
      have h6n : L6.length = n := by rw [← hL6, sayL_len]; exact hLn
      have I6 := Lib.hid (show FInv L6 from hL6 ▸ P.out.inv.say xi xk xt)
      obtain ⟨v4, h4⟩ := P.out.g
      have C1 := Lib.hid (fsay xi xk xt cc L6 (h4.drewN 1) (by omega) hcc hL6)
      have C2 := Lib.hid (fun (o' : Nat → Nat) (w' : World) (v' : Value) (h' : Bk 38 o' 2 w' b v' L) => rsay xi xk xt cc L6 h' (by omega) hcc hL6)
      have K0 := R.out (wr.drewN 1) (below_dN P.out.lw.below 1)
      have y0 : (cc != cc) = false := by simp
      clear hx qb h4 hcc hL6 hLn
      go_wp2
      refine wp_region_held_drew (S := fun W => W.cell? ⟨bl, off + i * 3, none⟩ = some (.int .i64 xi) ∧ W.cell? ⟨bl, off + i * 3 + 1, none⟩ = some (.int .i64 xk) ∧ W.cell? ⟨bl, off + i * 3 + 2, none⟩ = some (.int .i64 xt)) (by kernel_rfl) K0 (fun hHeld => ?_)
      refine wpAnyH_take (i := 0) (v := (.pointer (some ⟨a, 0, none⟩))) rfl (by kernel_rfl) (by kernel_rfl) (by kernel_rfl) (fun _ _ _ h => h) (Or.inl ⟨by rfl, ?_⟩) hHeld ?_
      · intro w hSw; go_simp
      try simp only [List.getElem_toArray, List.getElem_cons_zero, List.getElem_cons_succ, Act.put, List.setIfInBounds_toArray, List.set_cons_zero, List.set_cons_succ]
      refine wpAnyH_take (i := 1) (v := (.slice (some ⟨bl, off, none⟩) N c)) rfl (by kernel_rfl) (by kernel_rfl) (by kernel_rfl) (fun _ _ _ h => h) (Or.inl ⟨by rfl, ?_⟩) hHeld ?_
      · intro w hSw; go_simp
      try simp only [List.getElem_toArray, List.getElem_cons_zero, List.getElem_cons_succ, Act.put, List.setIfInBounds_toArray, List.set_cons_zero, List.set_cons_succ]
      refine wpAnyH_take (i := 2) (v := (.int .i64 (i : Int))) rfl (by kernel_rfl) (by kernel_rfl) (by kernel_rfl) (fun _ _ _ h => h) (Or.inl ⟨by rfl, ?_⟩) hHeld ?_
      · intro w hSw; go_simp
      try simp only [List.getElem_toArray, List.getElem_cons_zero, List.getElem_cons_succ, Act.put, List.setIfInBounds_toArray, List.set_cons_zero, List.set_cons_succ]
      refine wpAnyH_take (i := 3) (v := (.pointer (some ⟨bl, off + i * 3, none⟩))) rfl (by kernel_rfl) (by kernel_rfl) (by kernel_rfl) (fun _ _ _ h => h) (Or.inl ⟨by rfl, ?_⟩) hHeld ?_
      · intro w hSw; go_simp
      try simp only [List.getElem_toArray, List.getElem_cons_zero, List.getElem_cons_succ, Act.put, List.setIfInBounds_toArray, List.set_cons_zero, List.set_cons_succ]
      refine wpAnyH_take (i := 4) (v := (.pointer (some ⟨bl, off + i * 3, none⟩))) rfl (by kernel_rfl) (by kernel_rfl) (by kernel_rfl) (fun _ _ _ h => h) (Or.inl ⟨by rfl, ?_⟩) hHeld ?_
      · intro w hSw; go_simp
      try simp only [List.getElem_toArray, List.getElem_cons_zero, List.getElem_cons_succ, Act.put, List.setIfInBounds_toArray, List.set_cons_zero, List.set_cons_succ]
      refine wpAnyH_take (i := 5) (v := (.int .i64 xi)) rfl (by kernel_rfl) (by kernel_rfl) (by kernel_rfl) (fun _ _ _ h => h) (Or.inl ⟨by rfl, ?_⟩) hHeld ?_
      · intro w hSw; obtain ⟨s0, s1, s2⟩ := hSw; go_simp
      try simp only [List.getElem_toArray, List.getElem_cons_zero, List.getElem_cons_succ, Act.put, List.setIfInBounds_toArray, List.set_cons_zero, List.set_cons_succ]
      refine wpAnyH_take (i := 6) (v := (.slice (some ⟨bl, off, none⟩) N c)) rfl (by kernel_rfl) (by kernel_rfl) (by kernel_rfl) (fun _ _ _ h => h) (Or.inl ⟨by rfl, ?_⟩) hHeld ?_
      · intro w hSw; go_simp
      try simp only [List.getElem_toArray, List.getElem_cons_zero, List.getElem_cons_succ, Act.put, List.setIfInBounds_toArray, List.set_cons_zero, List.set_cons_succ]
      refine wpAnyH_take (i := 7) (v := (.int .i64 (i : Int))) rfl (by kernel_rfl) (by kernel_rfl) (by kernel_rfl) (fun _ _ _ h => h) (Or.inl ⟨by rfl, ?_⟩) hHeld ?_
      · intro w hSw; go_simp
      try simp only [List.getElem_toArray, List.getElem_cons_zero, List.getElem_cons_succ, Act.put, List.setIfInBounds_toArray, List.set_cons_zero, List.set_cons_succ]
      refine wpAnyH_take (i := 8) (v := (.pointer (some ⟨bl, off + i * 3, none⟩))) rfl (by kernel_rfl) (by kernel_rfl) (by kernel_rfl) (fun _ _ _ h => h) (Or.inl ⟨by rfl, ?_⟩) hHeld ?_
      · intro w hSw; go_simp
      try simp only [List.getElem_toArray, List.getElem_cons_zero, List.getElem_cons_succ, Act.put, List.setIfInBounds_toArray, List.set_cons_zero, List.set_cons_succ]
      refine wpAnyH_take (i := 9) (v := (.pointer (some ⟨bl, off + i * 3 + 1, none⟩))) rfl (by kernel_rfl) (by kernel_rfl) (by kernel_rfl) (fun _ _ _ h => h) (Or.inl ⟨by rfl, ?_⟩) hHeld ?_
      · intro w hSw; go_simp
      try simp only [List.getElem_toArray, List.getElem_cons_zero, List.getElem_cons_succ, Act.put, List.setIfInBounds_toArray, List.set_cons_zero, List.set_cons_succ]
      refine wpAnyH_take (i := 10) (v := (.int .i64 xk)) rfl (by kernel_rfl) (by kernel_rfl) (by kernel_rfl) (fun _ _ _ h => h) (Or.inl ⟨by rfl, ?_⟩) hHeld ?_
      · intro w hSw; obtain ⟨s0, s1, s2⟩ := hSw; go_simp
      try simp only [List.getElem_toArray, List.getElem_cons_zero, List.getElem_cons_succ, Act.put, List.setIfInBounds_toArray, List.set_cons_zero, List.set_cons_succ]
      refine wpAnyH_take (i := 11) (v := (.slice (some ⟨bl, off, none⟩) N c)) rfl (by kernel_rfl) (by kernel_rfl) (by kernel_rfl) (fun _ _ _ h => h) (Or.inl ⟨by rfl, ?_⟩) hHeld ?_
      · intro w hSw; go_simp
      try simp only [List.getElem_toArray, List.getElem_cons_zero, List.getElem_cons_succ, Act.put, List.setIfInBounds_toArray, List.set_cons_zero, List.set_cons_succ]
      refine wpAnyH_take (i := 12) (v := (.int .i64 (i : Int))) rfl (by kernel_rfl) (by kernel_rfl) (by kernel_rfl) (fun _ _ _ h => h) (Or.inl ⟨by rfl, ?_⟩) hHeld ?_
      · intro w hSw; go_simp
      try simp only [List.getElem_toArray, List.getElem_cons_zero, List.getElem_cons_succ, Act.put, List.setIfInBounds_toArray, List.set_cons_zero, List.set_cons_succ]
      refine wpAnyH_take (i := 13) (v := (.pointer (some ⟨bl, off + i * 3, none⟩))) rfl (by kernel_rfl) (by kernel_rfl) (by kernel_rfl) (fun _ _ _ h => h) (Or.inl ⟨by rfl, ?_⟩) hHeld ?_
      · intro w hSw; go_simp
      try simp only [List.getElem_toArray, List.getElem_cons_zero, List.getElem_cons_succ, Act.put, List.setIfInBounds_toArray, List.set_cons_zero, List.set_cons_succ]
      refine wpAnyH_take (i := 14) (v := (.pointer (some ⟨bl, off + i * 3 + 2, none⟩))) rfl (by kernel_rfl) (by kernel_rfl) (by kernel_rfl) (fun _ _ _ h => h) (Or.inl ⟨by rfl, ?_⟩) hHeld ?_
      · intro w hSw; go_simp
      try simp only [List.getElem_toArray, List.getElem_cons_zero, List.getElem_cons_succ, Act.put, List.setIfInBounds_toArray, List.set_cons_zero, List.set_cons_succ]
      refine wpAnyH_take (i := 15) (v := (.int .i64 xt)) rfl (by kernel_rfl) (by kernel_rfl) (by kernel_rfl) (fun _ _ _ h => h) (Or.inl ⟨by rfl, ?_⟩) hHeld ?_
      · intro w hSw; obtain ⟨s0, s1, s2⟩ := hSw; go_simp
      try simp only [List.getElem_toArray, List.getElem_cons_zero, List.getElem_cons_succ, Act.put, List.setIfInBounds_toArray, List.set_cons_zero, List.set_cons_succ]
      refine wpAnyH_take (i := 17) (v := (.pointer (some ⟨b, 0, none⟩))) rfl (by kernel_rfl) (by kernel_rfl) (by kernel_rfl) (fun _ _ _ h => h) (Or.inl ⟨by rfl, ?_⟩) hHeld ?_
      · intro w hSw; go_simp
      try simp only [List.getElem_toArray, List.getElem_cons_zero, List.getElem_cons_succ, Act.put, List.setIfInBounds_toArray, List.set_cons_zero, List.set_cons_succ]
      refine wpAnyH_take (i := 18) (v := (.slice (some ⟨bl, off, none⟩) N c)) rfl (by kernel_rfl) (by kernel_rfl) (by kernel_rfl) (fun _ _ _ h => h) (Or.inl ⟨by rfl, ?_⟩) hHeld ?_
      · intro w hSw; go_simp
      try simp only [List.getElem_toArray, List.getElem_cons_zero, List.getElem_cons_succ, Act.put, List.setIfInBounds_toArray, List.set_cons_zero, List.set_cons_succ]
      refine wpAnyH_take (i := 19) (v := (.int .i64 (i : Int))) rfl (by kernel_rfl) (by kernel_rfl) (by kernel_rfl) (fun _ _ _ h => h) (Or.inl ⟨by rfl, ?_⟩) hHeld ?_
      · intro w hSw; go_simp
      try simp only [List.getElem_toArray, List.getElem_cons_zero, List.getElem_cons_succ, Act.put, List.setIfInBounds_toArray, List.set_cons_zero, List.set_cons_succ]
      refine wpAnyH_take (i := 20) (v := (.pointer (some ⟨bl, off + i * 3, none⟩))) rfl (by kernel_rfl) (by kernel_rfl) (by kernel_rfl) (fun _ _ _ h => h) (Or.inl ⟨by rfl, ?_⟩) hHeld ?_
      · intro w hSw; go_simp
      try simp only [List.getElem_toArray, List.getElem_cons_zero, List.getElem_cons_succ, Act.put, List.setIfInBounds_toArray, List.set_cons_zero, List.set_cons_succ]
      refine wpAnyH_take (i := 21) (v := (.pointer (some ⟨bl, off + i * 3, none⟩))) rfl (by kernel_rfl) (by kernel_rfl) (by kernel_rfl) (fun _ _ _ h => h) (Or.inl ⟨by rfl, ?_⟩) hHeld ?_
      · intro w hSw; go_simp
      try simp only [List.getElem_toArray, List.getElem_cons_zero, List.getElem_cons_succ, Act.put, List.setIfInBounds_toArray, List.set_cons_zero, List.set_cons_succ]
      refine wpAnyH_take (i := 22) (v := (.int .i64 xi)) rfl (by kernel_rfl) (by kernel_rfl) (by kernel_rfl) (fun _ _ _ h => h) (Or.inl ⟨by rfl, ?_⟩) hHeld ?_
      · intro w hSw; obtain ⟨s0, s1, s2⟩ := hSw; go_simp
      try simp only [List.getElem_toArray, List.getElem_cons_zero, List.getElem_cons_succ, Act.put, List.setIfInBounds_toArray, List.set_cons_zero, List.set_cons_succ]
      refine wpAnyH_take (i := 23) (v := (.slice (some ⟨bl, off, none⟩) N c)) rfl (by kernel_rfl) (by kernel_rfl) (by kernel_rfl) (fun _ _ _ h => h) (Or.inl ⟨by rfl, ?_⟩) hHeld ?_
      · intro w hSw; go_simp
      try simp only [List.getElem_toArray, List.getElem_cons_zero, List.getElem_cons_succ, Act.put, List.setIfInBounds_toArray, List.set_cons_zero, List.set_cons_succ]
      refine wpAnyH_take (i := 24) (v := (.int .i64 (i : Int))) rfl (by kernel_rfl) (by kernel_rfl) (by kernel_rfl) (fun _ _ _ h => h) (Or.inl ⟨by rfl, ?_⟩) hHeld ?_
      · intro w hSw; go_simp
      try simp only [List.getElem_toArray, List.getElem_cons_zero, List.getElem_cons_succ, Act.put, List.setIfInBounds_toArray, List.set_cons_zero, List.set_cons_succ]
      refine wpAnyH_take (i := 25) (v := (.pointer (some ⟨bl, off + i * 3, none⟩))) rfl (by kernel_rfl) (by kernel_rfl) (by kernel_rfl) (fun _ _ _ h => h) (Or.inl ⟨by rfl, ?_⟩) hHeld ?_
      · intro w hSw; go_simp
      try simp only [List.getElem_toArray, List.getElem_cons_zero, List.getElem_cons_succ, Act.put, List.setIfInBounds_toArray, List.set_cons_zero, List.set_cons_succ]
      refine wpAnyH_take (i := 26) (v := (.pointer (some ⟨bl, off + i * 3 + 1, none⟩))) rfl (by kernel_rfl) (by kernel_rfl) (by kernel_rfl) (fun _ _ _ h => h) (Or.inl ⟨by rfl, ?_⟩) hHeld ?_
      · intro w hSw; go_simp
      try simp only [List.getElem_toArray, List.getElem_cons_zero, List.getElem_cons_succ, Act.put, List.setIfInBounds_toArray, List.set_cons_zero, List.set_cons_succ]
      refine wpAnyH_take (i := 27) (v := (.int .i64 xk)) rfl (by kernel_rfl) (by kernel_rfl) (by kernel_rfl) (fun _ _ _ h => h) (Or.inl ⟨by rfl, ?_⟩) hHeld ?_
      · intro w hSw; obtain ⟨s0, s1, s2⟩ := hSw; go_simp
      try simp only [List.getElem_toArray, List.getElem_cons_zero, List.getElem_cons_succ, Act.put, List.setIfInBounds_toArray, List.set_cons_zero, List.set_cons_succ]
      refine wpAnyH_take (i := 28) (v := (.slice (some ⟨bl, off, none⟩) N c)) rfl (by kernel_rfl) (by kernel_rfl) (by kernel_rfl) (fun _ _ _ h => h) (Or.inl ⟨by rfl, ?_⟩) hHeld ?_
      · intro w hSw; go_simp
      try simp only [List.getElem_toArray, List.getElem_cons_zero, List.getElem_cons_succ, Act.put, List.setIfInBounds_toArray, List.set_cons_zero, List.set_cons_succ]
      refine wpAnyH_take (i := 29) (v := (.int .i64 (i : Int))) rfl (by kernel_rfl) (by kernel_rfl) (by kernel_rfl) (fun _ _ _ h => h) (Or.inl ⟨by rfl, ?_⟩) hHeld ?_
      · intro w hSw; go_simp
      try simp only [List.getElem_toArray, List.getElem_cons_zero, List.getElem_cons_succ, Act.put, List.setIfInBounds_toArray, List.set_cons_zero, List.set_cons_succ]
      refine wpAnyH_take (i := 30) (v := (.pointer (some ⟨bl, off + i * 3, none⟩))) rfl (by kernel_rfl) (by kernel_rfl) (by kernel_rfl) (fun _ _ _ h => h) (Or.inl ⟨by rfl, ?_⟩) hHeld ?_
      · intro w hSw; go_simp
      try simp only [List.getElem_toArray, List.getElem_cons_zero, List.getElem_cons_succ, Act.put, List.setIfInBounds_toArray, List.set_cons_zero, List.set_cons_succ]
      refine wpAnyH_take (i := 31) (v := (.pointer (some ⟨bl, off + i * 3 + 2, none⟩))) rfl (by kernel_rfl) (by kernel_rfl) (by kernel_rfl) (fun _ _ _ h => h) (Or.inl ⟨by rfl, ?_⟩) hHeld ?_
      · intro w hSw; go_simp
      try simp only [List.getElem_toArray, List.getElem_cons_zero, List.getElem_cons_succ, Act.put, List.setIfInBounds_toArray, List.set_cons_zero, List.set_cons_succ]
      refine wpAnyH_take (i := 32) (v := (.int .i64 xt)) rfl (by kernel_rfl) (by kernel_rfl) (by kernel_rfl) (fun _ _ _ h => h) (Or.inl ⟨by rfl, ?_⟩) hHeld ?_
      · intro w hSw; obtain ⟨s0, s1, s2⟩ := hSw; go_simp
      try simp only [List.getElem_toArray, List.getElem_cons_zero, List.getElem_cons_succ, Act.put, List.setIfInBounds_toArray, List.set_cons_zero, List.set_cons_succ]
      refine wpAnyH_ready (rs := [16]) (by kernel_rfl) (by simp) ?_
      refine AllReadyH.cons rfl (fun K hK => ?_) AllReadyH.nil
      clear hHeld
      go_simp
      refine C1.out.mono ?_
      rintro e w3 ⟨rfl, o3, v3, st3, hA3⟩
      obtain ⟨vr, hvr⟩ := P.out.r
      have C3 := Lib.hid (C2.out o3 _ vr ((hvr.drewN 1).step st3 (by decide)))
      have S3 := Lib.hid (And.intro st3 hA3)
      have K3 := R.out w3 ((P.out.lw.drewN 1).step st3 (by decide)).below
      clear C1 C2 hvr st3 hA3
      refine hK.out _ _ K3 (fun hHeld => ?_)
      clear hK K
      refine wpAnyH_ready (rs := [33]) (by kernel_rfl) (by simp) ?_
      refine AllReadyH.cons rfl (fun K hK => ?_) AllReadyH.nil
      clear hHeld
      go_simp
      refine C3.out.mono ?_
      rintro e w4 ⟨rfl, o4, v4, st4, hR4⟩
      have Q6 := Lib.hid ((P.out.on (below_dN (Below.refl _ _) 1)).both S3.out.1 ⟨v3, S3.out.2⟩ st4 ⟨v4, hR4⟩ I6.out)
      have K4 := R.out w4 Q6.out.lw.below
      clear C3 st4 hR4 S3 P I6 K3
      refine hK.out _ _ K4 (fun hHeld => ?_)
      clear hK K K0
      refine wpAnyH_take (i := 34) (v := (.bool false)) rfl (by kernel_rfl) (by kernel_rfl) (by kernel_rfl) (fun _ _ _ h => h) (Or.inl ⟨by rfl, ?_⟩) hHeld ?_
      · intro w hSw; go_simp
      try simp only [List.getElem_toArray, List.getElem_cons_zero, List.getElem_cons_succ, Act.put, List.setIfInBounds_toArray, List.set_cons_zero, List.set_cons_succ]
      refine wpAnyH_done (by kernel_rfl) ?_ _
      clear hHeld K4 y0
      obtain ⟨wo, hwo⟩ : ∃ v, v = wr := ⟨wr, rfl⟩
      subst hwo
      go_wp2
      go_loopw [11, 12] (fun s11 s12 wr => ∃ (k : Nat), s11 = .int .i64 (cntTo L6 k : Int) ∧ s12 = .int .i64 (k : Int) ∧ k ≤ 6 ∧ Hid (Fp w o4 wr a b L6)) (fun _ st _ => 6 - (intOf st).toNat)
      case atStart => exact ⟨0, rfl, rfl, by omega, Q6⟩
      case round =>
        obtain ⟨k, rfl, rfl, hk, Q⟩ := hrel
        clear Q6
        rcases Nat.lt_or_ge k 6 with hk6 | hk6
        · as_aux_lemma =>
            have z3 : (k : Int) ≤ 5 := by omega
            have hcl := cntF_le L6 (k : Int)
            have hct := cntTo_le Q.out.inv (show k + 1 ≤ 6 by omega)
            have hnx : cntTo L6 (k + 1) = cntTo L6 k + cntF L6 (k : Int) := rfl
            obtain ⟨ck, hck⟩ : ∃ ck, cntF L6 (k : Int) = ck := ⟨_, rfl⟩
            obtain ⟨ct, hct2⟩ : ∃ ct, cntTo L6 k = ct := ⟨_, rfl⟩
            rw [hnx, hck, hct2] at hct
            rw [hck, hct2] at hnx
            rw [hct2]
            have C5 : Hid (∀ (w' : World), Fp w o4 w' a b L6 → Calls Try.prog 10 #[.pointer (some ⟨a, 0, none⟩), .int .i64 (k : Int)] w' (RetB (.int .i64 (ck : Int)) w')) := fun w' h => by obtain ⟨v, hv⟩ := h.g; exact fcount (k : Int) ck hv (by omega) hck
            have C6 : Hid (∀ (w' : World), Fp w o4 w' a b L6 → Calls Try.prog 13 #[.pointer (some ⟨b, 0, none⟩), .int .i64 (k : Int)] w' fun e w2 => e = .returned (.int .i64 (ck : Int)) ∧ w2 = w') := fun w' h => by obtain ⟨v, hv⟩ := h.r; exact rcount (k : Int) ck hv (by omega) hck
            have y1 : ((ck : Int) != (ck : Int)) = false := by simp
            replace hnx := Lib.hid hnx
            clear hck hct2 hcl
            go_wp2_with fail
            refine (C5.out _ Q.out).mono ?_
            rintro e w5 ⟨rfl, b5⟩
            replace Q := Lib.hid (Q.out.on b5)
            clear b5
            go_wp2_with fail
            refine (C6.out _ Q.out).mono ?_
            rintro e w6 ⟨rfl, rfl⟩
            go_wp2_with fail
            refine (C5.out _ Q.out).mono ?_
            rintro e w7 ⟨rfl, b7⟩
            replace Q := Lib.hid (Q.out.on b7)
            clear b7 C5 C6
            go_wp2
            go_roundw
            case rel => exact ⟨k + 1, by rw [hnx.out]; first | rfl | simp, by simp, by omega, Q⟩
            case measure => simp [intOf]; omega
        · obtain rfl : k = 6 := by omega
          have z3 : decide (((6 : Nat) : Int) ≤ 5) = false := by decide
          have h6c := cntTo_six Q.out.inv
          rw [h6c, h6n]
          clear h6c hk6 hk
          obtain ⟨vq, hvq⟩ := Q.out.g
          obtain ⟨⟨fk, ft⟩, hof⟩ : ∃ x, ofV L6 ask = x := ⟨_, rfl⟩
          obtain ⟨fb, hfb⟩ : ∃ x, inB L6 ask = x := ⟨_, rfl⟩
          have C5 := Lib.hid (fof ask hvq (by omega) hof hfb)
          have hin := hfb
          unfold inB at hin
          rw [h6n] at hin
          replace h6n := Lib.hid h6n
          have HF := Lib.hid (And.intro hof hfb)
          clear hvq hof hfb
          go_wp2_with fail
          refine C5.out.mono ?_
          rintro e w5 ⟨rfl, b5⟩
          have Q5 := Lib.hid ((Q.out.on b5).on (below_allocF w5 (.cells #[.int .i64 fk, .int .i64 ft] 29)))
          clear b5 C5 Q
          go_wp2
          have x0 : (w5.alloc (.cells #[.int .i64 fk, .int .i64 ft] 29)).cell? ⟨w5.heap.size, 0, none⟩ = some (.int .i64 fk) := by simp
          have x1 : (w5.alloc (.cells #[.int .i64 fk, .int .i64 ft] 29)).cell? ⟨w5.heap.size, 1, none⟩ = some (.int .i64 ft) := by simp
          have hX : w5.heap.size < (w5.alloc (.cells #[.int .i64 fk, .int .i64 ft] 29)).heap.size := by simp
          generalize w5.alloc (.cells #[.int .i64 fk, .int .i64 ft] 29) = w6 at *
          generalize w5.heap.size = X at *
          obtain ⟨vg, hvg⟩ := Q5.out.g
          have C7 := Lib.hid (fopen (hvg.drewN 1) (by have := h6n.out; omega))
          have C8 := Lib.hid (fun (o' : Nat → Nat) (w' : World) (v' : Value) (h' : Bk 38 o' 2 w' b v' L6) => ropen h' (by have := h6n.out; omega))
          have HOL := Lib.hid (show (openI L6).length ≤ 1000 from by have := openI_le L6 L6.length; rw [List.take_length] at this; have := h6n.out; omega)
          clear hvg
          cases fb with
          | true =>
            as_aux_lemma =>
              obtain ⟨m, rfl, hm, hmx⟩ := inB_get HF.out.2
              rw [HF.out.1] at hmx
              rw [h6n.out] at hm
              obtain ⟨vr, hvr⟩ := Q5.out.r
              obtain ⟨Ar, cr, rfl⟩ := hvr.row.any
              have hr2 := hvr.row
              rw [h6n.out] at hvr hr2
              obtain ⟨g, cap2, hv, hc3, hc4, _, hgl⟩ := hr2.form (by omega)
              injection hv with hv1 hv2 hv3
              subst hv1 hv3
              have p := cellsT_get _ m _ hmx
              simp only at p
              have s0 : w6.cell? ⟨g, m * 2, none⟩ = some (.int .i64 fk) := by rw [hr2.cellAt _ (by omega)]; exact p.1
              have s1 : w6.cell? ⟨g, m * 2 + 1, none⟩ = some (.int .i64 ft) := by rw [hr2.cellAt _ (by omega)]; exact p.2
              have e0 : w6.cell? ⟨b, 0, none⟩ = some (.slice (some ⟨g, 0, none⟩) n cr) := hvr.cell0
              have hbb := hvr.box.lt
              have KS : Hid (∀ W, Below w6.heap.size w6 W → W.cell? ⟨X, 0, none⟩ = some (.int .i64 fk) ∧ W.cell? ⟨X, 1, none⟩ = some (.int .i64 ft) ∧ W.cell? ⟨b, 0, none⟩ = some (.slice (some ⟨g, 0, none⟩) n cr) ∧ W.cell? ⟨g, m * 2, none⟩ = some (.int .i64 fk) ∧ W.cell? ⟨g, m * 2 + 1, none⟩ = some (.int .i64 ft)) := fun W hb => ⟨(hb.cell (p := ⟨X, 0, none⟩) hX).trans x0, (hb.cell (p := ⟨X, 1, none⟩) hX).trans x1, (hb.cell (p := ⟨b, 0, none⟩) hbb).trans e0, (hb.cell (p := ⟨g, m * 2, none⟩) hgl).trans s0, (hb.cell (p := ⟨g, m * 2 + 1, none⟩) hgl).trans s1⟩
              have z1 : (m : Int) < (n : Int) := by omega
              have z2 : (0 : Int) ≤ (m : Int) := by omega
              have z4 : (m : Int) ≥ 0 := by omega
              have y1 : ∀ w', (binOp .neq 29 (.agg #[.int .i64 fk, .int .i64 ft]) (.agg #[.int .i64 fk, .int .i64 ft])).run Try.prog w' = .ok (.bool false) w' := fun w' => by rw [fate_neq]; simp
              have K6 := KS.out w6.drew (below_dN (Below.refl _ _) 1)
              unfold maxLen at hc4
              clear hmx hvr hr2 p s0 s1 e0 x0 x1 HF hin
              have y2 : ((n : Int) != (n : Int)) = false := by simp
              refine wp_region_held_drew (S := fun W => W.cell? ⟨X, 0, none⟩ = some (.int .i64 fk) ∧ W.cell? ⟨X, 1, none⟩ = some (.int .i64 ft) ∧ W.cell? ⟨b, 0, none⟩ = some (.slice (some ⟨g, 0, none⟩) n cr) ∧ W.cell? ⟨g, m * 2, none⟩ = some (.int .i64 fk) ∧ W.cell? ⟨g, m * 2 + 1, none⟩ = some (.int .i64 ft)) (by kernel_rfl) K6 (fun hHeld => ?_)
              refine wpAnyH_take (i := 0) (v := (.int .i64 (n : Int))) rfl (by kernel_rfl) (by kernel_rfl) (by kernel_rfl) (fun _ _ _ h => h) (Or.inl ⟨by rfl, ?_⟩) hHeld ?_
              · intro w hSw; go_simp
              try simp only [List.getElem_toArray, List.getElem_cons_zero, List.getElem_cons_succ, Act.put, List.setIfInBounds_toArray, List.set_cons_zero, List.set_cons_succ]
              refine wpAnyH_take (i := 1) (v := (.int .i64 (n : Int))) rfl (by kernel_rfl) (by kernel_rfl) (by kernel_rfl) (fun _ _ _ h => h) (Or.inl ⟨by rfl, ?_⟩) hHeld ?_
              · intro w hSw; go_simp
              try simp only [List.getElem_toArray, List.getElem_cons_zero, List.getElem_cons_succ, Act.put, List.setIfInBounds_toArray, List.set_cons_zero, List.set_cons_succ]
              refine wpAnyH_take (i := 2) (v := (.bool false)) rfl (by kernel_rfl) (by kernel_rfl) (by kernel_rfl) (fun _ _ _ h => h) (Or.inl ⟨by rfl, ?_⟩) hHeld ?_
              · intro w hSw; go_simp
              try simp only [List.getElem_toArray, List.getElem_cons_zero, List.getElem_cons_succ, Act.put, List.setIfInBounds_toArray, List.set_cons_zero, List.set_cons_succ]
              refine wpAnyH_take (i := 3) (v := (.bool false)) rfl (by kernel_rfl) (by kernel_rfl) (by kernel_rfl) (fun _ _ _ h => h) (Or.inl ⟨by rfl, ?_⟩) hHeld ?_
              · intro w hSw; go_simp
              try simp only [List.getElem_toArray, List.getElem_cons_zero, List.getElem_cons_succ, Act.put, List.setIfInBounds_toArray, List.set_cons_zero, List.set_cons_succ]
              refine wpAnyH_take (i := 4) (v := (.pointer (some ⟨a, 0, none⟩))) rfl (by kernel_rfl) (by kernel_rfl) (by kernel_rfl) (fun _ _ _ h => h) (Or.inl ⟨by rfl, ?_⟩) hHeld ?_
              · intro w hSw; go_simp
              try simp only [List.getElem_toArray, List.getElem_cons_zero, List.getElem_cons_succ, Act.put, List.setIfInBounds_toArray, List.set_cons_zero, List.set_cons_succ]
              refine wpAnyH_take (i := 6) (v := (.pointer (some ⟨b, 0, none⟩))) rfl (by kernel_rfl) (by kernel_rfl) (by kernel_rfl) (fun _ _ _ h => h) (Or.inl ⟨by rfl, ?_⟩) hHeld ?_
              · intro w hSw; go_simp
              try simp only [List.getElem_toArray, List.getElem_cons_zero, List.getElem_cons_succ, Act.put, List.setIfInBounds_toArray, List.set_cons_zero, List.set_cons_succ]
              refine wpAnyH_ready (rs := [5]) (by kernel_rfl) (by simp) ?_
              refine AllReadyH.cons rfl (fun K hK => ?_) AllReadyH.nil
              clear hHeld
              go_simp
              refine C7.out.mono ?_
              rintro e w7 ⟨v7, rfl, hown7, b7⟩
              have st7 := step_newF o4 9 b7 3
              have Q7 := Lib.hid ((Q5.out.on (below_dN (Below.refl _ _) 1)).step st7 (by decide) (by decide) (by decide))
              have r7 := Lib.hid (Row.fresh (w0 := w6.drew) 3 hown7 o4)
              have bb7 := Lib.hid (show Below w6.heap.size w6 w7 from below_on (below_dN (Below.refl _ w6) 1) b7)
              obtain ⟨A7, c7, rfl⟩ := own_any hown7
              obtain ⟨vr7, hvr7⟩ := Q7.out.r
              have C9 := Lib.hid (C8.out _ _ vr7 hvr7)
              clear hvr7 C7 C8 hown7 b7 st7 Q5
              refine hK.out _ _ (KS.out _ bb7.out) (fun hHeld => ?_)
              clear hK K
              refine wpAnyH_ready (rs := [7]) (by kernel_rfl) (by simp) ?_
              refine AllReadyH.cons rfl (fun K hK => ?_) AllReadyH.nil
              clear hHeld
              go_simp
              refine C9.out.mono ?_
              rintro e w8 ⟨v8, rfl, hown8, b8⟩
              have st8 := step_newF (tag o4 w6.drew.heap.size 3) 9 b8 4
              have Q8 := Lib.hid (Q7.out.step st8 (by decide) (by decide) (by decide))
              have r8 := Row.fresh (w0 := w7) 4 hown8 (tag o4 w6.drew.heap.size 3)
              have CI := Lib.hid (ints_rows HOL.out (r7.out.step st8 (by decide)) r8)
              have bb8 := Lib.hid (below_on bb7.out b8)
              obtain ⟨A8, c8, rfl⟩ := own_any hown8
              clear C9 hown8 b8 st8 r8 r7 Q7 bb7
              refine hK.out _ _ (KS.out _ bb8.out) (fun hHeld => ?_)
              clear hK K
              refine wpAnyH_ready (rs := [8]) (by kernel_rfl) (by simp) ?_
              refine AllReadyH.cons rfl (fun K hK => ?_) AllReadyH.nil
              clear hHeld
              go_simp
              refine CI.out.mono ?_
              rintro e w9 ⟨rfl, n9, rfl⟩
              have Q9 := Lib.hid (Q8.out.on (below_dN (Below.refl _ _) n9))
              clear CI Q8
              refine hK.out _ _ (KS.out _ (below_dN bb8.out n9)) (fun hHeld => ?_)
              clear hK K bb8 KS
              refine wpAnyH_take (i := 9) (v := (.bool false)) rfl (by kernel_rfl) (by kernel_rfl) (by kernel_rfl) (fun _ _ _ h => h) (Or.inl ⟨by rfl, ?_⟩) hHeld ?_
              · intro w hSw; go_simp
              try simp only [List.getElem_toArray, List.getElem_cons_zero, List.getElem_cons_succ, Act.put, List.setIfInBounds_toArray, List.set_cons_zero, List.set_cons_succ]
              refine wpAnyH_take (i := 10) (v := (.bool false)) rfl (by kernel_rfl) (by kernel_rfl) (by kernel_rfl) (fun _ _ _ h => h) (Or.inl ⟨by rfl, ?_⟩) hHeld ?_
              · intro w hSw; go_simp
              try simp only [List.getElem_toArray, List.getElem_cons_zero, List.getElem_cons_succ, Act.put, List.setIfInBounds_toArray, List.set_cons_zero, List.set_cons_succ]
              refine wpAnyH_take (i := 11) (v := (.bool false)) rfl (by kernel_rfl) (by kernel_rfl) (by kernel_rfl) (fun _ _ _ h => h) (Or.inl ⟨by rfl, ?_⟩) hHeld ?_
              · intro w hSw; go_simp
              try simp only [List.getElem_toArray, List.getElem_cons_zero, List.getElem_cons_succ, Act.put, List.setIfInBounds_toArray, List.set_cons_zero, List.set_cons_succ]
              refine wpAnyH_take (i := 12) (v := (.bool true)) rfl (by kernel_rfl) (by kernel_rfl) (by kernel_rfl) (fun _ _ _ h => h) (Or.inl ⟨by rfl, ?_⟩) hHeld ?_
              · intro w hSw; go_simp
              try simp only [List.getElem_toArray, List.getElem_cons_zero, List.getElem_cons_succ, Act.put, List.setIfInBounds_toArray, List.set_cons_zero, List.set_cons_succ]
              refine wpAnyH_take (i := 13) (v := (.int .i64 (m : Int))) rfl (by kernel_rfl) (by kernel_rfl) (by kernel_rfl) (fun _ _ _ h => h) (Or.inl ⟨by rfl, ?_⟩) hHeld ?_
              · intro w hSw; go_simp
              try simp only [List.getElem_toArray, List.getElem_cons_zero, List.getElem_cons_succ, Act.put, List.setIfInBounds_toArray, List.set_cons_zero, List.set_cons_succ]
              refine wpAnyH_take (i := 14) (v := (.bool true)) rfl (by kernel_rfl) (by kernel_rfl) (by kernel_rfl) (fun _ _ _ h => h) (Or.inl ⟨by rfl, ?_⟩) hHeld ?_
              · intro w hSw; go_simp
              try simp only [List.getElem_toArray, List.getElem_cons_zero, List.getElem_cons_succ, Act.put, List.setIfInBounds_toArray, List.set_cons_zero, List.set_cons_succ]
              refine wpAnyH_take (i := 15) (v := (.bool true)) rfl (by kernel_rfl) (by kernel_rfl) (by kernel_rfl) (fun _ _ _ h => h) (Or.inl ⟨by rfl, ?_⟩) hHeld ?_
              · intro w hSw; go_simp
              try simp only [List.getElem_toArray, List.getElem_cons_zero, List.getElem_cons_succ, Act.put, List.setIfInBounds_toArray, List.set_cons_zero, List.set_cons_succ]
              refine wpAnyH_take (i := 16) (v := (.int .i64 (m : Int))) rfl (by kernel_rfl) (by kernel_rfl) (by kernel_rfl) (fun _ _ _ h => h) (Or.inl ⟨by rfl, ?_⟩) hHeld ?_
              · intro w hSw; go_simp
              try simp only [List.getElem_toArray, List.getElem_cons_zero, List.getElem_cons_succ, Act.put, List.setIfInBounds_toArray, List.set_cons_zero, List.set_cons_succ]
              refine wpAnyH_take (i := 17) (v := (.int .i64 (n : Int))) rfl (by kernel_rfl) (by kernel_rfl) (by kernel_rfl) (fun _ _ _ h => h) (Or.inl ⟨by rfl, ?_⟩) hHeld ?_
              · intro w hSw; go_simp
              try simp only [List.getElem_toArray, List.getElem_cons_zero, List.getElem_cons_succ, Act.put, List.setIfInBounds_toArray, List.set_cons_zero, List.set_cons_succ]
              refine wpAnyH_take (i := 18) (v := (.bool true)) rfl (by kernel_rfl) (by kernel_rfl) (by kernel_rfl) (fun _ _ _ h => h) (Or.inl ⟨by rfl, ?_⟩) hHeld ?_
              · intro w hSw; go_simp
              try simp only [List.getElem_toArray, List.getElem_cons_zero, List.getElem_cons_succ, Act.put, List.setIfInBounds_toArray, List.set_cons_zero, List.set_cons_succ]
              refine wpAnyH_take (i := 19) (v := (.bool true)) rfl (by kernel_rfl) (by kernel_rfl) (by kernel_rfl) (fun _ _ _ h => h) (Or.inl ⟨by rfl, ?_⟩) hHeld ?_
              · intro w hSw; go_simp
              try simp only [List.getElem_toArray, List.getElem_cons_zero, List.getElem_cons_succ, Act.put, List.setIfInBounds_toArray, List.set_cons_zero, List.set_cons_succ]
              refine wpAnyH_take (i := 20) (v := (.bool false)) rfl (by kernel_rfl) (by kernel_rfl) (by kernel_rfl) (fun _ _ _ h => h) (Or.inl ⟨by rfl, ?_⟩) hHeld ?_
              · intro w hSw; go_simp
              try simp only [List.getElem_toArray, List.getElem_cons_zero, List.getElem_cons_succ, Act.put, List.setIfInBounds_toArray, List.set_cons_zero, List.set_cons_succ]
              refine wpAnyH_take (i := 21) (v := (.bool false)) rfl (by kernel_rfl) (by kernel_rfl) (by kernel_rfl) (fun _ _ _ h => h) (Or.inl ⟨by rfl, ?_⟩) hHeld ?_
              · intro w hSw; go_simp
              try simp only [List.getElem_toArray, List.getElem_cons_zero, List.getElem_cons_succ, Act.put, List.setIfInBounds_toArray, List.set_cons_zero, List.set_cons_succ]
              refine wpAnyH_take (i := 22) (v := (.bool false)) rfl (by kernel_rfl) (by kernel_rfl) (by kernel_rfl) (fun _ _ _ h => h) (Or.inl ⟨by rfl, ?_⟩) hHeld ?_
              · intro w hSw; go_simp
              try simp only [List.getElem_toArray, List.getElem_cons_zero, List.getElem_cons_succ, Act.put, List.setIfInBounds_toArray, List.set_cons_zero, List.set_cons_succ]
              refine wpAnyH_take (i := 23) (v := (.bool true)) rfl (by kernel_rfl) (by kernel_rfl) (by kernel_rfl) (fun _ _ _ h => h) (Or.inl ⟨by rfl, ?_⟩) hHeld ?_
              · intro w hSw; go_simp
              try simp only [List.getElem_toArray, List.getElem_cons_zero, List.getElem_cons_succ, Act.put, List.setIfInBounds_toArray, List.set_cons_zero, List.set_cons_succ]
              refine wpAnyH_take (i := 24) (v := (.bool true)) rfl (by kernel_rfl) (by kernel_rfl) (by kernel_rfl) (fun _ _ _ h => h) (Or.inl ⟨by rfl, ?_⟩) hHeld ?_
              · intro w hSw; go_simp
              try simp only [List.getElem_toArray, List.getElem_cons_zero, List.getElem_cons_succ, Act.put, List.setIfInBounds_toArray, List.set_cons_zero, List.set_cons_succ]
              refine wpAnyH_take (i := 25) (v := (.agg #[.int .i64 fk, .int .i64 ft])) rfl (by kernel_rfl) (by kernel_rfl) (by kernel_rfl) (fun _ _ _ h => h) (Or.inl ⟨by rfl, ?_⟩) hHeld ?_
              · intro w hSw; obtain ⟨s0, s1, s2, s3, s4⟩ := hSw; go_simp
              try simp only [List.getElem_toArray, List.getElem_cons_zero, List.getElem_cons_succ, Act.put, List.setIfInBounds_toArray, List.set_cons_zero, List.set_cons_succ]
              refine wpAnyH_take (i := 26) (v := (.pointer (some ⟨b, 0, none⟩))) rfl (by kernel_rfl) (by kernel_rfl) (by kernel_rfl) (fun _ _ _ h => h) (Or.inl ⟨by rfl, ?_⟩) hHeld ?_
              · intro w hSw; go_simp
              try simp only [List.getElem_toArray, List.getElem_cons_zero, List.getElem_cons_succ, Act.put, List.setIfInBounds_toArray, List.set_cons_zero, List.set_cons_succ]
              refine wpAnyH_take (i := 27) (v := (.pointer (some ⟨b, 0, none⟩))) rfl (by kernel_rfl) (by kernel_rfl) (by kernel_rfl) (fun _ _ _ h => h) (Or.inl ⟨by rfl, ?_⟩) hHeld ?_
              · intro w hSw; go_simp
              try simp only [List.getElem_toArray, List.getElem_cons_zero, List.getElem_cons_succ, Act.put, List.setIfInBounds_toArray, List.set_cons_zero, List.set_cons_succ]
              refine wpAnyH_take (i := 28) (v := (.pointer (some ⟨b, 0, none⟩))) rfl (by kernel_rfl) (by kernel_rfl) (by kernel_rfl) (fun _ _ _ h => h) (Or.inl ⟨by rfl, ?_⟩) hHeld ?_
              · intro w hSw; go_simp
              try simp only [List.getElem_toArray, List.getElem_cons_zero, List.getElem_cons_succ, Act.put, List.setIfInBounds_toArray, List.set_cons_zero, List.set_cons_succ]
              refine wpAnyH_take (i := 29) (v := (.slice (some ⟨g, 0, none⟩) n cr)) rfl (by kernel_rfl) (by kernel_rfl) (by kernel_rfl) (fun _ _ _ h => h) (Or.inl ⟨by rfl, ?_⟩) hHeld ?_
              · intro w hSw; obtain ⟨s0, s1, s2, s3, s4⟩ := hSw; go_simp
              try simp only [List.getElem_toArray, List.getElem_cons_zero, List.getElem_cons_succ, Act.put, List.setIfInBounds_toArray, List.set_cons_zero, List.set_cons_succ]
              refine wpAnyH_take (i := 30) (v := (.int .i64 (m : Int))) rfl (by kernel_rfl) (by kernel_rfl) (by kernel_rfl) (fun _ _ _ h => h) (Or.inl ⟨by rfl, ?_⟩) hHeld ?_
              · intro w hSw; go_simp
              try simp only [List.getElem_toArray, List.getElem_cons_zero, List.getElem_cons_succ, Act.put, List.setIfInBounds_toArray, List.set_cons_zero, List.set_cons_succ]
              refine wpAnyH_take (i := 31) (v := (.pointer (some ⟨g, m * 2, none⟩))) rfl (by kernel_rfl) (by kernel_rfl) (by kernel_rfl) (fun _ _ _ h => h) (Or.inl ⟨by rfl, ?_⟩) hHeld ?_
              · intro w hSw; go_simp
              try simp only [List.getElem_toArray, List.getElem_cons_zero, List.getElem_cons_succ, Act.put, List.setIfInBounds_toArray, List.set_cons_zero, List.set_cons_succ]
              refine wpAnyH_take (i := 32) (v := (.agg #[.int .i64 fk, .int .i64 ft])) rfl (by kernel_rfl) (by kernel_rfl) (by kernel_rfl) (fun _ _ _ h => h) (Or.inl ⟨by rfl, ?_⟩) hHeld ?_
              · intro w hSw; obtain ⟨s0, s1, s2, s3, s4⟩ := hSw; go_simp
              try simp only [List.getElem_toArray, List.getElem_cons_zero, List.getElem_cons_succ, Act.put, List.setIfInBounds_toArray, List.set_cons_zero, List.set_cons_succ]
              refine wpAnyH_take (i := 33) (v := (.bool false)) rfl (by kernel_rfl) (by kernel_rfl) (by kernel_rfl) (fun _ _ _ h => h) (Or.inl ⟨by rfl, ?_⟩) hHeld ?_
              · intro w hSw; go_simp
              try simp only [List.getElem_toArray, List.getElem_cons_zero, List.getElem_cons_succ, Act.put, List.setIfInBounds_toArray, List.set_cons_zero, List.set_cons_succ]
              refine wpAnyH_take (i := 34) (v := (.bool false)) rfl (by kernel_rfl) (by kernel_rfl) (by kernel_rfl) (fun _ _ _ h => h) (Or.inl ⟨by rfl, ?_⟩) hHeld ?_
              · intro w hSw; go_simp
              try simp only [List.getElem_toArray, List.getElem_cons_zero, List.getElem_cons_succ, Act.put, List.setIfInBounds_toArray, List.set_cons_zero, List.set_cons_succ]
              refine wpAnyH_take (i := 35) (v := (.bool false)) rfl (by kernel_rfl) (by kernel_rfl) (by kernel_rfl) (fun _ _ _ h => h) (Or.inl ⟨by rfl, ?_⟩) hHeld ?_
              · intro w hSw; go_simp
              try simp only [List.getElem_toArray, List.getElem_cons_zero, List.getElem_cons_succ, Act.put, List.setIfInBounds_toArray, List.set_cons_zero, List.set_cons_succ]
              refine wpAnyH_done (by kernel_rfl) ?_ _
              clear hHeld
              go_wp2
              go_roundw
              case rel => exact ⟨i + 1, _, L6, by simp, by omega, h6n.out, Q9⟩
              case measure => simp [intOf]; omega
          | false =>
            have hno : ¬ (0 ≤ ask ∧ ask < (n : Int)) := of_decide_eq_false hin
            by_cases hlow : ask < 0
            · as_aux_lemma =>
                have KS : Hid (∀ W : World, Below w6.heap.size w6 W → True) := fun _ _ => trivial
                have K6 : True := trivial
                have z4 : decide (ask ≥ 0) = false := decide_eq_false (by omega)
                clear x0 x1 HF hin
                have y2 : ((n : Int) != (n : Int)) = false := by simp
                refine wp_region_held_drew (S := fun W => True) (by kernel_rfl) K6 (fun hHeld => ?_)
                refine wpAnyH_take (i := 0) (v := (.int .i64 (n : Int))) rfl (by kernel_rfl) (by kernel_rfl) (by kernel_rfl) (fun _ _ _ h => h) (Or.inl ⟨by rfl, ?_⟩) hHeld ?_
                · intro w hSw; go_simp
                try simp only [List.getElem_toArray, List.getElem_cons_zero, List.getElem_cons_succ, Act.put, List.setIfInBounds_toArray, List.set_cons_zero, List.set_cons_succ]
                refine wpAnyH_take (i := 1) (v := (.int .i64 (n : Int))) rfl (by kernel_rfl) (by kernel_rfl) (by kernel_rfl) (fun _ _ _ h => h) (Or.inl ⟨by rfl, ?_⟩) hHeld ?_
                · intro w hSw; go_simp
                try simp only [List.getElem_toArray, List.getElem_cons_zero, List.getElem_cons_succ, Act.put, List.setIfInBounds_toArray, List.set_cons_zero, List.set_cons_succ]
                refine wpAnyH_take (i := 2) (v := (.bool false)) rfl (by kernel_rfl) (by kernel_rfl) (by kernel_rfl) (fun _ _ _ h => h) (Or.inl ⟨by rfl, ?_⟩) hHeld ?_
                · intro w hSw; go_simp
                try simp only [List.getElem_toArray, List.getElem_cons_zero, List.getElem_cons_succ, Act.put, List.setIfInBounds_toArray, List.set_cons_zero, List.set_cons_succ]
                refine wpAnyH_take (i := 3) (v := (.bool false)) rfl (by kernel_rfl) (by kernel_rfl) (by kernel_rfl) (fun _ _ _ h => h) (Or.inl ⟨by rfl, ?_⟩) hHeld ?_
                · intro w hSw; go_simp
                try simp only [List.getElem_toArray, List.getElem_cons_zero, List.getElem_cons_succ, Act.put, List.setIfInBounds_toArray, List.set_cons_zero, List.set_cons_succ]
                refine wpAnyH_take (i := 4) (v := (.pointer (some ⟨a, 0, none⟩))) rfl (by kernel_rfl) (by kernel_rfl) (by kernel_rfl) (fun _ _ _ h => h) (Or.inl ⟨by rfl, ?_⟩) hHeld ?_
                · intro w hSw; go_simp
                try simp only [List.getElem_toArray, List.getElem_cons_zero, List.getElem_cons_succ, Act.put, List.setIfInBounds_toArray, List.set_cons_zero, List.set_cons_succ]
                refine wpAnyH_take (i := 6) (v := (.pointer (some ⟨b, 0, none⟩))) rfl (by kernel_rfl) (by kernel_rfl) (by kernel_rfl) (fun _ _ _ h => h) (Or.inl ⟨by rfl, ?_⟩) hHeld ?_
                · intro w hSw; go_simp
                try simp only [List.getElem_toArray, List.getElem_cons_zero, List.getElem_cons_succ, Act.put, List.setIfInBounds_toArray, List.set_cons_zero, List.set_cons_succ]
                refine wpAnyH_ready (rs := [5]) (by kernel_rfl) (by simp) ?_
                refine AllReadyH.cons rfl (fun K hK => ?_) AllReadyH.nil
                clear hHeld
                go_simp
                refine C7.out.mono ?_
                rintro e w7 ⟨v7, rfl, hown7, b7⟩
                have st7 := step_newF o4 9 b7 3
                have Q7 := Lib.hid ((Q5.out.on (below_dN (Below.refl _ _) 1)).step st7 (by decide) (by decide) (by decide))
                have r7 := Lib.hid (Row.fresh (w0 := w6.drew) 3 hown7 o4)
                have bb7 := Lib.hid (show Below w6.heap.size w6 w7 from below_on (below_dN (Below.refl _ w6) 1) b7)
                obtain ⟨A7, c7, rfl⟩ := own_any hown7
                obtain ⟨vr7, hvr7⟩ := Q7.out.r
                have C9 := Lib.hid (C8.out _ _ vr7 hvr7)
                clear hvr7 C7 C8 hown7 b7 st7 Q5
                refine hK.out _ _ (KS.out _ bb7.out) (fun hHeld => ?_)
                clear hK K
                refine wpAnyH_ready (rs := [7]) (by kernel_rfl) (by simp) ?_
                refine AllReadyH.cons rfl (fun K hK => ?_) AllReadyH.nil
                clear hHeld
                go_simp
                refine C9.out.mono ?_
                rintro e w8 ⟨v8, rfl, hown8, b8⟩
                have st8 := step_newF (tag o4 w6.drew.heap.size 3) 9 b8 4
                have Q8 := Lib.hid (Q7.out.step st8 (by decide) (by decide) (by decide))
                have r8 := Row.fresh (w0 := w7) 4 hown8 (tag o4 w6.drew.heap.size 3)
                have CI := Lib.hid (ints_rows HOL.out (r7.out.step st8 (by decide)) r8)
                have bb8 := Lib.hid (below_on bb7.out b8)
                obtain ⟨A8, c8, rfl⟩ := own_any hown8
                clear C9 hown8 b8 st8 r8 r7 Q7 bb7
                refine hK.out _ _ (KS.out _ bb8.out) (fun hHeld => ?_)
                clear hK K
                refine wpAnyH_ready (rs := [8]) (by kernel_rfl) (by simp) ?_
                refine AllReadyH.cons rfl (fun K hK => ?_) AllReadyH.nil
                clear hHeld
                go_simp
                refine CI.out.mono ?_
                rintro e w9 ⟨rfl, n9, rfl⟩
                have Q9 := Lib.hid (Q8.out.on (below_dN (Below.refl _ _) n9))
                clear CI Q8
                refine hK.out _ _ (KS.out _ (below_dN bb8.out n9)) (fun hHeld => ?_)
                clear hK K bb8 KS
                refine wpAnyH_take (i := 9) (v := (.bool false)) rfl (by kernel_rfl) (by kernel_rfl) (by kernel_rfl) (fun _ _ _ h => h) (Or.inl ⟨by rfl, ?_⟩) hHeld ?_
                · intro w hSw; go_simp
                try simp only [List.getElem_toArray, List.getElem_cons_zero, List.getElem_cons_succ, Act.put, List.setIfInBounds_toArray, List.set_cons_zero, List.set_cons_succ]
                refine wpAnyH_take (i := 10) (v := (.bool false)) rfl (by kernel_rfl) (by kernel_rfl) (by kernel_rfl) (fun _ _ _ h => h) (Or.inl ⟨by rfl, ?_⟩) hHeld ?_
                · intro w hSw; go_simp
                try simp only [List.getElem_toArray, List.getElem_cons_zero, List.getElem_cons_succ, Act.put, List.setIfInBounds_toArray, List.set_cons_zero, List.set_cons_succ]
                refine wpAnyH_take (i := 11) (v := (.bool false)) rfl (by kernel_rfl) (by kernel_rfl) (by kernel_rfl) (fun _ _ _ h => h) (Or.inl ⟨by rfl, ?_⟩) hHeld ?_
                · intro w hSw; go_simp
                try simp only [List.getElem_toArray, List.getElem_cons_zero, List.getElem_cons_succ, Act.put, List.setIfInBounds_toArray, List.set_cons_zero, List.set_cons_succ]
                refine wpAnyH_take (i := 12) (v := (.bool false)) rfl (by kernel_rfl) (by kernel_rfl) (by kernel_rfl) (fun _ _ _ h => h) (Or.inl ⟨by rfl, ?_⟩) hHeld ?_
                · intro w hSw; go_simp
                try simp only [List.getElem_toArray, List.getElem_cons_zero, List.getElem_cons_succ, Act.put, List.setIfInBounds_toArray, List.set_cons_zero, List.set_cons_succ]
                refine wpAnyH_take (i := 13) (v := (.int .i64 ask)) rfl (by kernel_rfl) (by kernel_rfl) (by kernel_rfl) (fun _ _ _ h => h) (Or.inl ⟨by rfl, ?_⟩) hHeld ?_
                · intro w hSw; go_simp
                try simp only [List.getElem_toArray, List.getElem_cons_zero, List.getElem_cons_succ, Act.put, List.setIfInBounds_toArray, List.set_cons_zero, List.set_cons_succ]
                refine wpAnyH_take (i := 14) (v := (.bool false)) rfl (by kernel_rfl) (by kernel_rfl) (by kernel_rfl) (fun _ _ _ h => h) (Or.inl ⟨by rfl, ?_⟩) hHeld ?_
                · intro w hSw; go_simp
                try simp only [List.getElem_toArray, List.getElem_cons_zero, List.getElem_cons_succ, Act.put, List.setIfInBounds_toArray, List.set_cons_zero, List.set_cons_succ]
                refine wpAnyH_take (i := 15) (v := (.bool false)) rfl (by kernel_rfl) (by kernel_rfl) (by kernel_rfl) (fun _ _ _ h => h) (Or.inl ⟨by rfl, ?_⟩) hHeld ?_
                · intro w hSw; go_simp
                try simp only [List.getElem_toArray, List.getElem_cons_zero, List.getElem_cons_succ, Act.put, List.setIfInBounds_toArray, List.set_cons_zero, List.set_cons_succ]
                refine wpAnyH_take (i := 16) (v := undef) rfl (by kernel_rfl) (by kernel_rfl) (by kernel_rfl) (fun _ _ _ h => h) (Or.inr ⟨by rfl, rfl⟩) hHeld ?_
                try simp only [List.getElem_toArray, List.getElem_cons_zero, List.getElem_cons_succ, Act.put, List.setIfInBounds_toArray, List.set_cons_zero, List.set_cons_succ]
                refine wpAnyH_take (i := 17) (v := undef) rfl (by kernel_rfl) (by kernel_rfl) (by kernel_rfl) (fun _ _ _ h => h) (Or.inr ⟨by rfl, rfl⟩) hHeld ?_
                try simp only [List.getElem_toArray, List.getElem_cons_zero, List.getElem_cons_succ, Act.put, List.setIfInBounds_toArray, List.set_cons_zero, List.set_cons_succ]
                refine wpAnyH_take (i := 18) (v := undef) rfl (by kernel_rfl) (by kernel_rfl) (by kernel_rfl) (fun _ _ _ h => h) (Or.inr ⟨by rfl, rfl⟩) hHeld ?_
                try simp only [List.getElem_toArray, List.getElem_cons_zero, List.getElem_cons_succ, Act.put, List.setIfInBounds_toArray, List.set_cons_zero, List.set_cons_succ]
                refine wpAnyH_take (i := 19) (v := (.bool false)) rfl (by kernel_rfl) (by kernel_rfl) (by kernel_rfl) (fun _ _ _ h => h) (Or.inl ⟨by rfl, ?_⟩) hHeld ?_
                · intro w hSw; go_simp
                try simp only [List.getElem_toArray, List.getElem_cons_zero, List.getElem_cons_succ, Act.put, List.setIfInBounds_toArray, List.set_cons_zero, List.set_cons_succ]
                refine wpAnyH_take (i := 20) (v := (.bool false)) rfl (by kernel_rfl) (by kernel_rfl) (by kernel_rfl) (fun _ _ _ h => h) (Or.inl ⟨by rfl, ?_⟩) hHeld ?_
                · intro w hSw; go_simp
                try simp only [List.getElem_toArray, List.getElem_cons_zero, List.getElem_cons_succ, Act.put, List.setIfInBounds_toArray, List.set_cons_zero, List.set_cons_succ]
                refine wpAnyH_take (i := 21) (v := (.bool false)) rfl (by kernel_rfl) (by kernel_rfl) (by kernel_rfl) (fun _ _ _ h => h) (Or.inl ⟨by rfl, ?_⟩) hHeld ?_
                · intro w hSw; go_simp
                try simp only [List.getElem_toArray, List.getElem_cons_zero, List.getElem_cons_succ, Act.put, List.setIfInBounds_toArray, List.set_cons_zero, List.set_cons_succ]
                refine wpAnyH_take (i := 22) (v := (.bool false)) rfl (by kernel_rfl) (by kernel_rfl) (by kernel_rfl) (fun _ _ _ h => h) (Or.inl ⟨by rfl, ?_⟩) hHeld ?_
                · intro w hSw; go_simp
                try simp only [List.getElem_toArray, List.getElem_cons_zero, List.getElem_cons_succ, Act.put, List.setIfInBounds_toArray, List.set_cons_zero, List.set_cons_succ]
                refine wpAnyH_take (i := 23) (v := (.bool false)) rfl (by kernel_rfl) (by kernel_rfl) (by kernel_rfl) (fun _ _ _ h => h) (Or.inl ⟨by rfl, ?_⟩) hHeld ?_
                · intro w hSw; go_simp
                try simp only [List.getElem_toArray, List.getElem_cons_zero, List.getElem_cons_succ, Act.put, List.setIfInBounds_toArray, List.set_cons_zero, List.set_cons_succ]
                refine wpAnyH_take (i := 24) (v := (.bool false)) rfl (by kernel_rfl) (by kernel_rfl) (by kernel_rfl) (fun _ _ _ h => h) (Or.inl ⟨by rfl, ?_⟩) hHeld ?_
                · intro w hSw; go_simp
                try simp only [List.getElem_toArray, List.getElem_cons_zero, List.getElem_cons_succ, Act.put, List.setIfInBounds_toArray, List.set_cons_zero, List.set_cons_succ]
                refine wpAnyH_take (i := 25) (v := undef) rfl (by kernel_rfl) (by kernel_rfl) (by kernel_rfl) (fun _ _ _ h => h) (Or.inr ⟨by rfl, rfl⟩) hHeld ?_
                try simp only [List.getElem_toArray, List.getElem_cons_zero, List.getElem_cons_succ, Act.put, List.setIfInBounds_toArray, List.set_cons_zero, List.set_cons_succ]
                refine wpAnyH_take (i := 26) (v := undef) rfl (by kernel_rfl) (by kernel_rfl) (by kernel_rfl) (fun _ _ _ h => h) (Or.inr ⟨by rfl, rfl⟩) hHeld ?_
                try simp only [List.getElem_toArray, List.getElem_cons_zero, List.getElem_cons_succ, Act.put, List.setIfInBounds_toArray, List.set_cons_zero, List.set_cons_succ]
                refine wpAnyH_take (i := 27) (v := undef) rfl (by kernel_rfl) (by kernel_rfl) (by kernel_rfl) (fun _ _ _ h => h) (Or.inr ⟨by rfl, rfl⟩) hHeld ?_
                try simp only [List.getElem_toArray, List.getElem_cons_zero, List.getElem_cons_succ, Act.put, List.setIfInBounds_toArray, List.set_cons_zero, List.set_cons_succ]
                refine wpAnyH_take (i := 28) (v := undef) rfl (by kernel_rfl) (by kernel_rfl) (by kernel_rfl) (fun _ _ _ h => h) (Or.inr ⟨by rfl, rfl⟩) hHeld ?_
                try simp only [List.getElem_toArray, List.getElem_cons_zero, List.getElem_cons_succ, Act.put, List.setIfInBounds_toArray, List.set_cons_zero, List.set_cons_succ]
                refine wpAnyH_take (i := 29) (v := undef) rfl (by kernel_rfl) (by kernel_rfl) (by kernel_rfl) (fun _ _ _ h => h) (Or.inr ⟨by rfl, rfl⟩) hHeld ?_
                try simp only [List.getElem_toArray, List.getElem_cons_zero, List.getElem_cons_succ, Act.put, List.setIfInBounds_toArray, List.set_cons_zero, List.set_cons_succ]
                refine wpAnyH_take (i := 30) (v := undef) rfl (by kernel_rfl) (by kernel_rfl) (by kernel_rfl) (fun _ _ _ h => h) (Or.inr ⟨by rfl, rfl⟩) hHeld ?_
                try simp only [List.getElem_toArray, List.getElem_cons_zero, List.getElem_cons_succ, Act.put, List.setIfInBounds_toArray, List.set_cons_zero, List.set_cons_succ]
                refine wpAnyH_take (i := 31) (v := undef) rfl (by kernel_rfl) (by kernel_rfl) (by kernel_rfl) (fun _ _ _ h => h) (Or.inr ⟨by rfl, rfl⟩) hHeld ?_
                try simp only [List.getElem_toArray, List.getElem_cons_zero, List.getElem_cons_succ, Act.put, List.setIfInBounds_toArray, List.set_cons_zero, List.set_cons_succ]
                refine wpAnyH_take (i := 32) (v := undef) rfl (by kernel_rfl) (by kernel_rfl) (by kernel_rfl) (fun _ _ _ h => h) (Or.inr ⟨by rfl, rfl⟩) hHeld ?_
                try simp only [List.getElem_toArray, List.getElem_cons_zero, List.getElem_cons_succ, Act.put, List.setIfInBounds_toArray, List.set_cons_zero, List.set_cons_succ]
                refine wpAnyH_take (i := 33) (v := undef) rfl (by kernel_rfl) (by kernel_rfl) (by kernel_rfl) (fun _ _ _ h => h) (Or.inr ⟨by rfl, rfl⟩) hHeld ?_
                try simp only [List.getElem_toArray, List.getElem_cons_zero, List.getElem_cons_succ, Act.put, List.setIfInBounds_toArray, List.set_cons_zero, List.set_cons_succ]
                refine wpAnyH_take (i := 34) (v := (.bool false)) rfl (by kernel_rfl) (by kernel_rfl) (by kernel_rfl) (fun _ _ _ h => h) (Or.inl ⟨by rfl, ?_⟩) hHeld ?_
                · intro w hSw; go_simp
                try simp only [List.getElem_toArray, List.getElem_cons_zero, List.getElem_cons_succ, Act.put, List.setIfInBounds_toArray, List.set_cons_zero, List.set_cons_succ]
                refine wpAnyH_take (i := 35) (v := (.bool false)) rfl (by kernel_rfl) (by kernel_rfl) (by kernel_rfl) (fun _ _ _ h => h) (Or.inl ⟨by rfl, ?_⟩) hHeld ?_
                · intro w hSw; go_simp
                try simp only [List.getElem_toArray, List.getElem_cons_zero, List.getElem_cons_succ, Act.put, List.setIfInBounds_toArray, List.set_cons_zero, List.set_cons_succ]
                refine wpAnyH_done (by kernel_rfl) ?_ _
                clear hHeld
                go_wp2
                go_roundw
                case rel => exact ⟨i + 1, _, L6, by simp, by omega, h6n.out, Q9⟩
                case measure => simp [intOf]; omega
            · as_aux_lemma =>
                have KS : Hid (∀ W : World, Below w6.heap.size w6 W → True) := fun _ _ => trivial
                have K6 : True := trivial
                have z4 : ask ≥ 0 := by omega
                have z5 : decide (ask < (n : Int)) = false := decide_eq_false (by omega)
                clear x0 x1 HF hin
                have y2 : ((n : Int) != (n : Int)) = false := by simp
                refine wp_region_held_drew (S := fun W => True) (by kernel_rfl) K6 (fun hHeld => ?_)
                refine wpAnyH_take (i := 0) (v := (.int .i64 (n : Int))) rfl (by kernel_rfl) (by kernel_rfl) (by kernel_rfl) (fun _ _ _ h => h) (Or.inl ⟨by rfl, ?_⟩) hHeld ?_
                · intro w hSw; go_simp
                try simp only [List.getElem_toArray, List.getElem_cons_zero, List.getElem_cons_succ, Act.put, List.setIfInBounds_toArray, List.set_cons_zero, List.set_cons_succ]
                refine wpAnyH_take (i := 1) (v := (.int .i64 (n : Int))) rfl (by kernel_rfl) (by kernel_rfl) (by kernel_rfl) (fun _ _ _ h => h) (Or.inl ⟨by rfl, ?_⟩) hHeld ?_
                · intro w hSw; go_simp
                try simp only [List.getElem_toArray, List.getElem_cons_zero, List.getElem_cons_succ, Act.put, List.setIfInBounds_toArray, List.set_cons_zero, List.set_cons_succ]
                refine wpAnyH_take (i := 2) (v := (.bool false)) rfl (by kernel_rfl) (by kernel_rfl) (by kernel_rfl) (fun _ _ _ h => h) (Or.inl ⟨by rfl, ?_⟩) hHeld ?_
                · intro w hSw; go_simp
                try simp only [List.getElem_toArray, List.getElem_cons_zero, List.getElem_cons_succ, Act.put, List.setIfInBounds_toArray, List.set_cons_zero, List.set_cons_succ]
                refine wpAnyH_take (i := 3) (v := (.bool false)) rfl (by kernel_rfl) (by kernel_rfl) (by kernel_rfl) (fun _ _ _ h => h) (Or.inl ⟨by rfl, ?_⟩) hHeld ?_
                · intro w hSw; go_simp
                try simp only [List.getElem_toArray, List.getElem_cons_zero, List.getElem_cons_succ, Act.put, List.setIfInBounds_toArray, List.set_cons_zero, List.set_cons_succ]
                refine wpAnyH_take (i := 4) (v := (.pointer (some ⟨a, 0, none⟩))) rfl (by kernel_rfl) (by kernel_rfl) (by kernel_rfl) (fun _ _ _ h => h) (Or.inl ⟨by rfl, ?_⟩) hHeld ?_
                · intro w hSw; go_simp
                try simp only [List.getElem_toArray, List.getElem_cons_zero, List.getElem_cons_succ, Act.put, List.setIfInBounds_toArray, List.set_cons_zero, List.set_cons_succ]
                refine wpAnyH_take (i := 6) (v := (.pointer (some ⟨b, 0, none⟩))) rfl (by kernel_rfl) (by kernel_rfl) (by kernel_rfl) (fun _ _ _ h => h) (Or.inl ⟨by rfl, ?_⟩) hHeld ?_
                · intro w hSw; go_simp
                try simp only [List.getElem_toArray, List.getElem_cons_zero, List.getElem_cons_succ, Act.put, List.setIfInBounds_toArray, List.set_cons_zero, List.set_cons_succ]
                refine wpAnyH_ready (rs := [5]) (by kernel_rfl) (by simp) ?_
                refine AllReadyH.cons rfl (fun K hK => ?_) AllReadyH.nil
                clear hHeld
                go_simp
                refine C7.out.mono ?_
                rintro e w7 ⟨v7, rfl, hown7, b7⟩
                have st7 := step_newF o4 9 b7 3
                have Q7 := Lib.hid ((Q5.out.on (below_dN (Below.refl _ _) 1)).step st7 (by decide) (by decide) (by decide))
                have r7 := Lib.hid (Row.fresh (w0 := w6.drew) 3 hown7 o4)
                have bb7 := Lib.hid (show Below w6.heap.size w6 w7 from below_on (below_dN (Below.refl _ w6) 1) b7)
                obtain ⟨A7, c7, rfl⟩ := own_any hown7
                obtain ⟨vr7, hvr7⟩ := Q7.out.r
                have C9 := Lib.hid (C8.out _ _ vr7 hvr7)
                clear hvr7 C7 C8 hown7 b7 st7 Q5
                refine hK.out _ _ (KS.out _ bb7.out) (fun hHeld => ?_)
                clear hK K
                refine wpAnyH_ready (rs := [7]) (by kernel_rfl) (by simp) ?_
                refine AllReadyH.cons rfl (fun K hK => ?_) AllReadyH.nil
                clear hHeld
                go_simp
                refine C9.out.mono ?_
                rintro e w8 ⟨v8, rfl, hown8, b8⟩
                have st8 := step_newF (tag o4 w6.drew.heap.size 3) 9 b8 4
                have Q8 := Lib.hid (Q7.out.step st8 (by decide) (by decide) (by decide))
                have r8 := Row.fresh (w0 := w7) 4 hown8 (tag o4 w6.drew.heap.size 3)
                have CI := Lib.hid (ints_rows HOL.out (r7.out.step st8 (by decide)) r8)
                have bb8 := Lib.hid (below_on bb7.out b8)
                obtain ⟨A8, c8, rfl⟩ := own_any hown8
                clear C9 hown8 b8 st8 r8 r7 Q7 bb7
                refine hK.out _ _ (KS.out _ bb8.out) (fun hHeld => ?_)
                clear hK K
                refine wpAnyH_ready (rs := [8]) (by kernel_rfl) (by simp) ?_
                refine AllReadyH.cons rfl (fun K hK => ?_) AllReadyH.nil
                clear hHeld
                go_simp
                refine CI.out.mono ?_
                rintro e w9 ⟨rfl, n9, rfl⟩
                have Q9 := Lib.hid (Q8.out.on (below_dN (Below.refl _ _) n9))
                clear CI Q8
                refine hK.out _ _ (KS.out _ (below_dN bb8.out n9)) (fun hHeld => ?_)
                clear hK K bb8 KS
                refine wpAnyH_take (i := 9) (v := (.bool false)) rfl (by kernel_rfl) (by kernel_rfl) (by kernel_rfl) (fun _ _ _ h => h) (Or.inl ⟨by rfl, ?_⟩) hHeld ?_
                · intro w hSw; go_simp
                try simp only [List.getElem_toArray, List.getElem_cons_zero, List.getElem_cons_succ, Act.put, List.setIfInBounds_toArray, List.set_cons_zero, List.set_cons_succ]
                refine wpAnyH_take (i := 10) (v := (.bool false)) rfl (by kernel_rfl) (by kernel_rfl) (by kernel_rfl) (fun _ _ _ h => h) (Or.inl ⟨by rfl, ?_⟩) hHeld ?_
                · intro w hSw; go_simp
                try simp only [List.getElem_toArray, List.getElem_cons_zero, List.getElem_cons_succ, Act.put, List.setIfInBounds_toArray, List.set_cons_zero, List.set_cons_succ]
                refine wpAnyH_take (i := 11) (v := (.bool false)) rfl (by kernel_rfl) (by kernel_rfl) (by kernel_rfl) (fun _ _ _ h => h) (Or.inl ⟨by rfl, ?_⟩) hHeld ?_
                · intro w hSw; go_simp
                try simp only [List.getElem_toArray, List.getElem_cons_zero, List.getElem_cons_succ, Act.put, List.setIfInBounds_toArray, List.set_cons_zero, List.set_cons_succ]
                refine wpAnyH_take (i := 12) (v := (.bool false)) rfl (by kernel_rfl) (by kernel_rfl) (by kernel_rfl) (fun _ _ _ h => h) (Or.inl ⟨by rfl, ?_⟩) hHeld ?_
                · intro w hSw; go_simp
                try simp only [List.getElem_toArray, List.getElem_cons_zero, List.getElem_cons_succ, Act.put, List.setIfInBounds_toArray, List.set_cons_zero, List.set_cons_succ]
                refine wpAnyH_take (i := 13) (v := (.int .i64 ask)) rfl (by kernel_rfl) (by kernel_rfl) (by kernel_rfl) (fun _ _ _ h => h) (Or.inl ⟨by rfl, ?_⟩) hHeld ?_
                · intro w hSw; go_simp
                try simp only [List.getElem_toArray, List.getElem_cons_zero, List.getElem_cons_succ, Act.put, List.setIfInBounds_toArray, List.set_cons_zero, List.set_cons_succ]
                refine wpAnyH_take (i := 14) (v := (.bool true)) rfl (by kernel_rfl) (by kernel_rfl) (by kernel_rfl) (fun _ _ _ h => h) (Or.inl ⟨by rfl, ?_⟩) hHeld ?_
                · intro w hSw; go_simp
                try simp only [List.getElem_toArray, List.getElem_cons_zero, List.getElem_cons_succ, Act.put, List.setIfInBounds_toArray, List.set_cons_zero, List.set_cons_succ]
                refine wpAnyH_take (i := 15) (v := (.bool true)) rfl (by kernel_rfl) (by kernel_rfl) (by kernel_rfl) (fun _ _ _ h => h) (Or.inl ⟨by rfl, ?_⟩) hHeld ?_
                · intro w hSw; go_simp
                try simp only [List.getElem_toArray, List.getElem_cons_zero, List.getElem_cons_succ, Act.put, List.setIfInBounds_toArray, List.set_cons_zero, List.set_cons_succ]
                refine wpAnyH_take (i := 16) (v := (.int .i64 ask)) rfl (by kernel_rfl) (by kernel_rfl) (by kernel_rfl) (fun _ _ _ h => h) (Or.inl ⟨by rfl, ?_⟩) hHeld ?_
                · intro w hSw; go_simp
                try simp only [List.getElem_toArray, List.getElem_cons_zero, List.getElem_cons_succ, Act.put, List.setIfInBounds_toArray, List.set_cons_zero, List.set_cons_succ]
                refine wpAnyH_take (i := 17) (v := (.int .i64 (n : Int))) rfl (by kernel_rfl) (by kernel_rfl) (by kernel_rfl) (fun _ _ _ h => h) (Or.inl ⟨by rfl, ?_⟩) hHeld ?_
                · intro w hSw; go_simp
                try simp only [List.getElem_toArray, List.getElem_cons_zero, List.getElem_cons_succ, Act.put, List.setIfInBounds_toArray, List.set_cons_zero, List.set_cons_succ]
                refine wpAnyH_take (i := 18) (v := (.bool false)) rfl (by kernel_rfl) (by kernel_rfl) (by kernel_rfl) (fun _ _ _ h => h) (Or.inl ⟨by rfl, ?_⟩) hHeld ?_
                · intro w hSw; go_simp
                try simp only [List.getElem_toArray, List.getElem_cons_zero, List.getElem_cons_succ, Act.put, List.setIfInBounds_toArray, List.set_cons_zero, List.set_cons_succ]
                refine wpAnyH_take (i := 19) (v := (.bool false)) rfl (by kernel_rfl) (by kernel_rfl) (by kernel_rfl) (fun _ _ _ h => h) (Or.inl ⟨by rfl, ?_⟩) hHeld ?_
                · intro w hSw; go_simp
                try simp only [List.getElem_toArray, List.getElem_cons_zero, List.getElem_cons_succ, Act.put, List.setIfInBounds_toArray, List.set_cons_zero, List.set_cons_succ]
                refine wpAnyH_take (i := 20) (v := (.bool false)) rfl (by kernel_rfl) (by kernel_rfl) (by kernel_rfl) (fun _ _ _ h => h) (Or.inl ⟨by rfl, ?_⟩) hHeld ?_
                · intro w hSw; go_simp
                try simp only [List.getElem_toArray, List.getElem_cons_zero, List.getElem_cons_succ, Act.put, List.setIfInBounds_toArray, List.set_cons_zero, List.set_cons_succ]
                refine wpAnyH_take (i := 21) (v := (.bool false)) rfl (by kernel_rfl) (by kernel_rfl) (by kernel_rfl) (fun _ _ _ h => h) (Or.inl ⟨by rfl, ?_⟩) hHeld ?_
                · intro w hSw; go_simp
                try simp only [List.getElem_toArray, List.getElem_cons_zero, List.getElem_cons_succ, Act.put, List.setIfInBounds_toArray, List.set_cons_zero, List.set_cons_succ]
                refine wpAnyH_take (i := 22) (v := (.bool false)) rfl (by kernel_rfl) (by kernel_rfl) (by kernel_rfl) (fun _ _ _ h => h) (Or.inl ⟨by rfl, ?_⟩) hHeld ?_
                · intro w hSw; go_simp
                try simp only [List.getElem_toArray, List.getElem_cons_zero, List.getElem_cons_succ, Act.put, List.setIfInBounds_toArray, List.set_cons_zero, List.set_cons_succ]
                refine wpAnyH_take (i := 23) (v := (.bool false)) rfl (by kernel_rfl) (by kernel_rfl) (by kernel_rfl) (fun _ _ _ h => h) (Or.inl ⟨by rfl, ?_⟩) hHeld ?_
                · intro w hSw; go_simp
                try simp only [List.getElem_toArray, List.getElem_cons_zero, List.getElem_cons_succ, Act.put, List.setIfInBounds_toArray, List.set_cons_zero, List.set_cons_succ]
                refine wpAnyH_take (i := 24) (v := (.bool false)) rfl (by kernel_rfl) (by kernel_rfl) (by kernel_rfl) (fun _ _ _ h => h) (Or.inl ⟨by rfl, ?_⟩) hHeld ?_
                · intro w hSw; go_simp
                try simp only [List.getElem_toArray, List.getElem_cons_zero, List.getElem_cons_succ, Act.put, List.setIfInBounds_toArray, List.set_cons_zero, List.set_cons_succ]
                refine wpAnyH_take (i := 25) (v := undef) rfl (by kernel_rfl) (by kernel_rfl) (by kernel_rfl) (fun _ _ _ h => h) (Or.inr ⟨by rfl, rfl⟩) hHeld ?_
                try simp only [List.getElem_toArray, List.getElem_cons_zero, List.getElem_cons_succ, Act.put, List.setIfInBounds_toArray, List.set_cons_zero, List.set_cons_succ]
                refine wpAnyH_take (i := 26) (v := undef) rfl (by kernel_rfl) (by kernel_rfl) (by kernel_rfl) (fun _ _ _ h => h) (Or.inr ⟨by rfl, rfl⟩) hHeld ?_
                try simp only [List.getElem_toArray, List.getElem_cons_zero, List.getElem_cons_succ, Act.put, List.setIfInBounds_toArray, List.set_cons_zero, List.set_cons_succ]
                refine wpAnyH_take (i := 27) (v := undef) rfl (by kernel_rfl) (by kernel_rfl) (by kernel_rfl) (fun _ _ _ h => h) (Or.inr ⟨by rfl, rfl⟩) hHeld ?_
                try simp only [List.getElem_toArray, List.getElem_cons_zero, List.getElem_cons_succ, Act.put, List.setIfInBounds_toArray, List.set_cons_zero, List.set_cons_succ]
                refine wpAnyH_take (i := 28) (v := undef) rfl (by kernel_rfl) (by kernel_rfl) (by kernel_rfl) (fun _ _ _ h => h) (Or.inr ⟨by rfl, rfl⟩) hHeld ?_
                try simp only [List.getElem_toArray, List.getElem_cons_zero, List.getElem_cons_succ, Act.put, List.setIfInBounds_toArray, List.set_cons_zero, List.set_cons_succ]
                refine wpAnyH_take (i := 29) (v := undef) rfl (by kernel_rfl) (by kernel_rfl) (by kernel_rfl) (fun _ _ _ h => h) (Or.inr ⟨by rfl, rfl⟩) hHeld ?_
                try simp only [List.getElem_toArray, List.getElem_cons_zero, List.getElem_cons_succ, Act.put, List.setIfInBounds_toArray, List.set_cons_zero, List.set_cons_succ]
                refine wpAnyH_take (i := 30) (v := undef) rfl (by kernel_rfl) (by kernel_rfl) (by kernel_rfl) (fun _ _ _ h => h) (Or.inr ⟨by rfl, rfl⟩) hHeld ?_
                try simp only [List.getElem_toArray, List.getElem_cons_zero, List.getElem_cons_succ, Act.put, List.setIfInBounds_toArray, List.set_cons_zero, List.set_cons_succ]
                refine wpAnyH_take (i := 31) (v := undef) rfl (by kernel_rfl) (by kernel_rfl) (by kernel_rfl) (fun _ _ _ h => h) (Or.inr ⟨by rfl, rfl⟩) hHeld ?_
                try simp only [List.getElem_toArray, List.getElem_cons_zero, List.getElem_cons_succ, Act.put, List.setIfInBounds_toArray, List.set_cons_zero, List.set_cons_succ]
                refine wpAnyH_take (i := 32) (v := undef) rfl (by kernel_rfl) (by kernel_rfl) (by kernel_rfl) (fun _ _ _ h => h) (Or.inr ⟨by rfl, rfl⟩) hHeld ?_
                try simp only [List.getElem_toArray, List.getElem_cons_zero, List.getElem_cons_succ, Act.put, List.setIfInBounds_toArray, List.set_cons_zero, List.set_cons_succ]
                refine wpAnyH_take (i := 33) (v := undef) rfl (by kernel_rfl) (by kernel_rfl) (by kernel_rfl) (fun _ _ _ h => h) (Or.inr ⟨by rfl, rfl⟩) hHeld ?_
                try simp only [List.getElem_toArray, List.getElem_cons_zero, List.getElem_cons_succ, Act.put, List.setIfInBounds_toArray, List.set_cons_zero, List.set_cons_succ]
                refine wpAnyH_take (i := 34) (v := (.bool false)) rfl (by kernel_rfl) (by kernel_rfl) (by kernel_rfl) (fun _ _ _ h => h) (Or.inl ⟨by rfl, ?_⟩) hHeld ?_
                · intro w hSw; go_simp
                try simp only [List.getElem_toArray, List.getElem_cons_zero, List.getElem_cons_succ, Act.put, List.setIfInBounds_toArray, List.set_cons_zero, List.set_cons_succ]
                refine wpAnyH_take (i := 35) (v := (.bool false)) rfl (by kernel_rfl) (by kernel_rfl) (by kernel_rfl) (fun _ _ _ h => h) (Or.inl ⟨by rfl, ?_⟩) hHeld ?_
                · intro w hSw; go_simp
                try simp only [List.getElem_toArray, List.getElem_cons_zero, List.getElem_cons_succ, Act.put, List.setIfInBounds_toArray, List.set_cons_zero, List.set_cons_succ]
                refine wpAnyH_done (by kernel_rfl) ?_ _
                clear hHeld
                go_wp2
                go_roundw
                case rel => exact ⟨i + 1, _, L6, by simp, by omega, h6n.out, Q9⟩
                case measure => simp [intOf]; omega
    · obtain rfl : i = N := by omega
      as_aux_lemma =>
        obtain ⟨vg, hvg⟩ := P.out.g
        obtain ⟨vr, hvr⟩ := P.out.r
        have C1 := Lib.hid (fall hvg (by omega))
        obtain ⟨Aq, cq, rfl⟩ := hvr.row.any
        rw [hLn] at C1 hvr
        have HV := Lib.hid hvr
        have HP := Lib.hid P.out.lw
        replace hLn := Lib.hid hLn
        clear hvg hvr P
        go_wp2_with fail
        refine C1.out.mono ?_
        rintro e w5 ⟨v5, rfl, hown, hb⟩
        obtain ⟨wq, hwq⟩ : ∃ v, v = wr := ⟨wr, rfl⟩
        subst hwq
        obtain ⟨A5, c5, rfl⟩ := own_any hown
        have r5 := Row.fresh (w0 := wq) 3 hown o
        have hv5 := HV.out.below hb
        have l5 := HP.out.on hb
        have e0 : w5.cell? ⟨b, 0, none⟩ = some (.slice Aq n cq) := hv5.cell0
        have G := Lib.hid (And.intro r5 (And.intro hv5 l5))
        have bl := hv5.box.lt
        have e1 : ((n : Int) == (n : Int)) = true := by simp
        clear C1 hown hb r5 hv5 l5 HV HP
        go_wp2
        go_loopw [16] (fun s16 wr => ∃ (i : Nat), s16 = .int .i64 (i : Int) ∧ i ≤ n ∧ Hid (Below w5.heap.size w5 wr)) (fun st _ => n - (intOf st).toNat)
        case atStart => exact ⟨0, rfl, by omega, Lib.hid (Below.refl _ _)⟩
        case round =>
          obtain ⟨j, rfl, hj, hb⟩ := hrel
          rcases Nat.lt_or_ge j n with hlt | hge
          · obtain ⟨⟨xk, xt⟩, hx⟩ : ∃ x, L[j]? = some x := ⟨_, List.getElem?_eq_getElem (by rw [hLn.out]; exact hlt)⟩
            have r := G.out.1.below hb.out
            have s := (G.out.2.1.below hb.out).row
            obtain ⟨g, cap, hv, hc1, hc2, _, _⟩ := r.form (by omega)
            injection hv with hv1 hv2 hv3
            subst hv1 hv3
            rw [hLn.out] at s
            obtain ⟨h, cap2, hv, hc3, hc4, _, _⟩ := s.form (by omega)
            injection hv with hv1 hv2 hv3
            subst hv1 hv3
            have p := cellsT_get _ j _ hx
            simp only at p
            have d0 : wr.cell? ⟨g, j * 2, none⟩ = some (.int .i64 xk) := by rw [r.cellAt _ (by omega)]; exact p.1
            have d1 : wr.cell? ⟨g, j * 2 + 1, none⟩ = some (.int .i64 xt) := by rw [r.cellAt _ (by omega)]; exact p.2
            have s0 : wr.cell? ⟨h, j * 2, none⟩ = some (.int .i64 xk) := by rw [s.cellAt _ (by omega)]; exact p.1
            have s1 : wr.cell? ⟨h, j * 2 + 1, none⟩ = some (.int .i64 xt) := by rw [s.cellAt _ (by omega)]; exact p.2
            have e0 : wr.cell? ⟨b, 0, none⟩ = some (.slice (some ⟨h, 0, none⟩) n cq) := by rw [hb.out.cell (p := ⟨b, 0, none⟩) bl]; exact e0
            have z1 : (j : Int) < (n : Int) := by omega
            have z2 : (0 : Int) ≤ (j : Int) := by omega
            have z3 : decide ((j : Int) ≥ (n : Int)) = false := decide_eq_false (by omega)
            have z4 : decide (n ≤ j) = false := decide_eq_false (by omega)
            have z5 : decide (j ≥ n) = false := decide_eq_false (by omega)
            have y1 : ∀ w', (binOp .neq 29 (.agg #[.int .i64 xk, .int .i64 xt]) (.agg #[.int .i64 xk, .int .i64 xt])).run Try.prog w' = .ok (.bool false) w' := fun w' => by rw [fate_neq]; simp
            unfold maxLen at hc2 hc4
            clear hx r s p
            go_wp2
            go_quiet (fail)
            go_wp2
            go_roundw
            case rel => exact ⟨j + 1, by simp, by omega, Lib.hid (below_dN hb.out _)⟩
            case measure => simp [intOf]; omega
          · obtain rfl : j = n := by omega
            replace G := Lib.hid (G.out.2.2.on hb.out)
            clear hb
            go_wp2
            go_ret
            exact ⟨rfl, G.out.below⟩
end Go.Proofs.Ytcbnjjjnhlpklaa
