/- LedgerPlays: any rows answer as the document says. -/
import Derived.Test.YtbmofcggdpjcbaaLgApart
import Derived.Test.YtbmofcggdpjcbaaLg4
import Derived.Test.YtbmofcggdpjcbaaLgRef3
namespace Go.Proofs.Ytbmofcggdpjcbaa
open Go.RowKit
set_option linter.unusedVariables false
set_option linter.unusedSimpArgs false

/-- Both ledgers in one state; the law on its way. -/
structure Ps (w : World) (o : Nat → Nat) (W : World) (a b : Nat) (L : List Rw) : Prop where
  g : ∃ v, Lg o 1 W a v L
  r : ∃ v, Lr o 2 W b v L
  inv : LInv L
  name : ∀ x ∈ L, x.name.length ≤ maxLen
  lw : Lw w o W
section
variable {w W W' : World} {o o' : Nat → Nat} {a b τ : Nat} {l L : List Rw}
theorem Ps.alloc (h : Ps w o W a b l) (x : Obj) (τ : Nat) : Ps w (tag o W.heap.size τ) (W.alloc x) a b l := by
  obtain ⟨⟨v, h1⟩, ⟨u, h2⟩, h3, h5, h4⟩ := h
  exact ⟨⟨v, h1.alloc x τ⟩, ⟨u, h2.alloc x τ⟩, h3, h5, h4.alloc x τ⟩
theorem Ps.on (h : Ps w o W a b l) (hb : Below W.heap.size W W') : Ps w o W' a b l := by
  obtain ⟨⟨v, h1⟩, ⟨u, h2⟩, h3, h5, h4⟩ := h
  exact ⟨⟨v, h1.below hb⟩, ⟨u, h2.below hb⟩, h3, h5, h4.on hb⟩
theorem Ps.start (w : World) {v : Value} (h : Lg o 1 W a v []) (l : Lw w o W) : Ps w (tag o W.heap.size 2) (W.alloc (.cells #[.slice none 0 0] 40)) a W.heap.size [] :=
  ⟨⟨v, h.alloc _ 2⟩, ⟨_, Blk.made o 2 W _ _, Row.nil _ _ _ _ _⟩, LInv.nil, by simp, l.alloc _ 2⟩
/-- Behind a call on the program's ledger and then one on the document's. -/
theorem Ps.both {o1 o2 : Nat → Nat} {W1 W2 : World} (h : Ps w o W a b l) (st : Step o o1 1 W W1) (h1 : ∃ v, Lg o1 1 W1 a v L) (st2 : Step o1 o2 2 W1 W2) (h2 : ∃ v, Lr o2 2 W2 b v L) (hi : LInv L) (hn : ∀ x ∈ L, x.name.length ≤ maxLen) : Ps w o2 W2 a b L := by
  obtain ⟨v1, h1⟩ := h1
  exact ⟨⟨v1, h1.step st2 (by decide)⟩, h2, hi, hn, (h.lw.step st (by decide)).step st2 (by decide)⟩
theorem names_earn (h : ∀ x ∈ l, x.name.length ≤ maxLen) (t : Int) (n : List UInt8) (v : Int) (hn : n.length ≤ 140737488351232) : ∀ x ∈ earnL l t n v, x.name.length ≤ maxLen := by
  intro x hx
  unfold earnL at hx
  split at hx
  · rcases List.mem_append.1 hx with hx | hx
    · exact h x hx
    · simp at hx; subst hx; show n.length ≤ _; unfold maxLen; omega
  · exact h x hx
theorem names_lose (h : ∀ x ∈ l, x.name.length ≤ maxLen) (t : Int) (n : List UInt8) (v : Int) (hn : n.length ≤ 140737488351232) : ∀ x ∈ loseL l t n v, x.name.length ≤ maxLen := by
  intro x hx
  unfold loseL at hx
  split at hx
  · rcases List.mem_append.1 hx with hx | hx
    · exact h x hx
    · simp at hx; subst hx; show n.length ≤ _; unfold maxLen; omega
  · exact h x hx
end
set_option maxHeartbeats 25600000 in
set_option maxRecDepth 100000 in
theorem LedgerPlays_ret (A : Option Addr) (c : Nat) (l : List ActW) (nmB : ByteArray) (till : Int) (w : World) (hlc : l.length ≤ c) (hc : c ≤ 9223372036854775807) (hrd : RdActW w A l) (hall : ∀ x ∈ l, fitB x.op = true ∧ fitB x.t = true ∧ fitB x.v = true ∧ x.name.length ≤ 140737488351232) (h2 : fitB till = true) :
    Calls Try.prog 4 #[.slice A l.length c, .string nmB, .int .i64 till] w (RetB (.bool true) w) := by
  have A0 := Lib.hid (awake14_any w)
  obtain ⟨nm, hnb⟩ : ∃ nm, bs nm = nmB := ⟨_, bs_of nmB⟩
  subst hnb
  obtain ⟨N, hN⟩ : ∃ N : Nat, l.length = N := ⟨_, rfl⟩
  rw [hN] at hlc ⊢
  have Z := Lib.hid (And.intro hN (And.intro hrd hall))
  clear hN hrd hall h2
  go_enter Try.func4, Try.ntmps4
  go_wp2_with fail
  refine (A0.out).mono ?_; rintro e b0w ⟨rfl, b0⟩
  by_cases k1 : (N : Int) > 60
  · go_wp2
    go_ret
    exact ⟨rfl, by have s0 := b0.size; (try simp only [World.heap_drewN, World.size_alloc] at s0); repeat (first | exact Below.refl _ _ | exact b0 | refine Below.trans ?_ (Below.mono b0 (by first | omega | (simp; done) | (simp; omega))) | refine Below.setCell ?_ (by first | omega | (simp; done) | (simp; omega)) _ | refine below_dN ?_ _ | refine Below.drew ?_ | refine Below.alloc ?_ (by first | omega | (simp; done) | (simp; omega)) _)⟩
  have k1' : decide ((N : Int) > 60) = false := decide_eq_false k1
  have k9 : N ≤ 60 := by omega
  go_wp2_with fail
  refine (lnew (fun _ => 0) 1 _).mono ?_
  rintro e w1 ⟨rfl, o1, v1, s1, h1⟩
  have l1 := ((Lw.start w).on b0).step s1 (by decide)
  have P0 := Lib.hid (Ps.start w h1 l1)
  clear b0 s1 h1 l1 k1
  generalize b0w.heap.size = a at *
  go_wp2
  generalize w1.heap.size = b at *
  generalize tag o1 b 2 = o2 at *
  generalize (w1.alloc (.cells #[.slice none 0 0] 40)) = w2 at *
  go_loopw [9] (fun s9 wr => ∃ (i : Nat) (o : Nat → Nat) (L : List Rw), s9 = .int .i64 (i : Int) ∧ i ≤ N ∧ L.length ≤ i ∧ Hid (Ps w o wr a b L)) (fun st _ => N - (intOf st).toNat)
  case atStart => exact ⟨0, o2, [], rfl, by omega, by simp, P0⟩
  case round =>
    obtain ⟨i, o, L, rfl, hi, hLi, P⟩ := hrel
    clear P0
    rcases Nat.lt_or_ge i N with hlt | hge
    · obtain ⟨⟨xo, xt, xn, xv⟩, hx⟩ : ∃ x, l[i]? = some x := ⟨_, List.getElem?_eq_getElem (by rw [Z.out.1]; exact hlt)⟩
      obtain ⟨fo, ft, fv, fn⟩ := Z.out.2.2 _ (List.mem_of_getElem? hx)
      obtain ⟨bl, off, rfl, q0, q1, q2, q3⟩ := Z.out.2.1 i _ hx
      simp only at q0 q1 q2 q3 fo ft fv fn
      have qb : bl < w.heap.size := World.block_lt_of_cell? _ _ q0
      have q0 : wr.cell? ⟨bl, off + i * 4, none⟩ = some (.int .i64 xo) := (P.out.lw.below.cell (p := ⟨bl, _, none⟩) qb).trans q0
      have q1 : wr.cell? ⟨bl, off + i * 4 + 1, none⟩ = some (.int .i64 xt) := (P.out.lw.below.cell (p := ⟨bl, _, none⟩) qb).trans q1
      have q2 : wr.cell? ⟨bl, off + i * 4 + 2, none⟩ = some (.string (bs xn)) := (P.out.lw.below.cell (p := ⟨bl, _, none⟩) qb).trans q2
      have q3 : wr.cell? ⟨bl, off + i * 4 + 3, none⟩ = some (.int .i64 xv) := (P.out.lw.below.cell (p := ⟨bl, _, none⟩) qb).trans q3
      have P1 := P.out.alloc (.cells #[.int .i64 xo, .int .i64 xt, .string (bs xn), .int .i64 xv] 42) 4
      have BX := Blk.made o 4 wr #[.int .i64 xo, .int .i64 xt, .string (bs xn), .int .i64 xv] 42
      have F := Lib.hid (And.intro P1 BX)
      have FX := Lib.hid (And.intro fv fn)
      clear P P1 BX hx fo ft fv fn qb
      go_upto_region 11 with (fail)
      generalize hX : wr.heap.size = X at *
      obtain ⟨P1, BX⟩ := F.out
      generalize tag o X 4 = oA at *
      generalize wr.alloc (.cells #[.int .i64 xo, .int .i64 xt, .string (bs xn), .int .i64 xv] 42) = wA at *
      clear q0 q1 q2 q3 F
      have x0 : wA.cell? ⟨X, 0, none⟩ = some (.int .i64 xo) := by rw [BX.cell]; rfl
      have x1 : wA.cell? ⟨X, 1, none⟩ = some (.int .i64 xt) := by rw [BX.cell]; rfl
      have x2 : wA.cell? ⟨X, 2, none⟩ = some (.string (bs xn)) := by rw [BX.cell]; rfl
      have x3 : wA.cell? ⟨X, 3, none⟩ = some (.int .i64 xv) := by rw [BX.cell]; rfl
      have hle : L.length ≤ 1000 := by omega
      have hinv := P1.inv
      have D := Lib.hid (And.intro (P1.on (below_dN (Below.refl _ _) 1)) (⟨BX.at_, BX.mine⟩ : Blk oA 4 wA.drew X #[.int .i64 xo, .int .i64 xt, .string (bs xn), .int .i64 xv] 42))
      clear P1 BX
      by_cases hop : xo = 0
      · as_aux_lemma =>
          have u0 : (xo == 0) = true := by simp [hop]
          have HL := Lib.hid (show (earnL L xt xn xv).length ≤ i + 1 from by have := earnL_len L xt xn xv; omega)
          have C1 := Lib.hid (fun (o' : Nat → Nat) (w' : World) (v' : Value) (h' : Lg o' 1 w' a v' L) => learn xt xv _ xn _ h' hinv hle FX.out.1 rfl rfl)
          have C2 := Lib.hid (fun (o' : Nat → Nat) (w' : World) (v' : Value) (h' : Lr o' 2 w' b v' L) => rwrite (o := o') (b := b) (v := v') xt xv (earnE L xt xv) (earned L) xn true (earnL L xt xn xv) h' hinv hle FX.out.1 rfl rfl rfl)
          have I6 := Lib.hid (And.intro (hinv.earn xt xn xv) (names_earn D.out.1.name xt xn xv FX.out.2))
          generalize earnE L xt xv = cc at C1 C2
          generalize earnL L xt xn xv = L6 at C1 C2 I6 HL
          have y0 : (cc == cc) = true := by simp
          have K0 : wA.drew.cell? ⟨X, 1, none⟩ = some (.int .i64 xt) ∧ wA.drew.cell? ⟨X, 2, none⟩ = some (.string (bs xn)) ∧ wA.drew.cell? ⟨X, 3, none⟩ = some (.int .i64 xv) := ⟨x1, x2, x3⟩
          clear hinv hop
          go_wp2
          refine wp_region_held_drew (S := fun W => W.cell? ⟨X, 1, none⟩ = some (.int .i64 xt) ∧ W.cell? ⟨X, 2, none⟩ = some (.string (bs xn)) ∧ W.cell? ⟨X, 3, none⟩ = some (.int .i64 xv)) (by kernel_rfl) K0 (fun hHeld => ?_)
          refine wpAnyH_take (i := 0) (v := (.pointer (some ⟨a, 0, none⟩))) rfl (by kernel_rfl) (by kernel_rfl) (by kernel_rfl) (fun _ _ _ h => h) (Or.inl ⟨by rfl, ?_⟩) hHeld ?_
          · intro w hSw; go_simp
          try simp only [List.getElem_toArray, List.getElem_cons_zero, List.getElem_cons_succ, Act.put, List.setIfInBounds_toArray, List.set_cons_zero, List.set_cons_succ]
          refine wpAnyH_take (i := 1) (v := (.pointer (some ⟨X, 1, none⟩))) rfl (by kernel_rfl) (by kernel_rfl) (by kernel_rfl) (fun _ _ _ h => h) (Or.inl ⟨by rfl, ?_⟩) hHeld ?_
          · intro w hSw; go_simp
          try simp only [List.getElem_toArray, List.getElem_cons_zero, List.getElem_cons_succ, Act.put, List.setIfInBounds_toArray, List.set_cons_zero, List.set_cons_succ]
          refine wpAnyH_take (i := 2) (v := (.int .i64 xt)) rfl (by kernel_rfl) (by kernel_rfl) (by kernel_rfl) (fun _ _ _ h => h) (Or.inl ⟨by rfl, ?_⟩) hHeld ?_
          · intro w hSw; obtain ⟨s0, s1, s2⟩ := hSw; go_simp
          try simp only [List.getElem_toArray, List.getElem_cons_zero, List.getElem_cons_succ, Act.put, List.setIfInBounds_toArray, List.set_cons_zero, List.set_cons_succ]
          refine wpAnyH_take (i := 3) (v := (.pointer (some ⟨X, 2, none⟩))) rfl (by kernel_rfl) (by kernel_rfl) (by kernel_rfl) (fun _ _ _ h => h) (Or.inl ⟨by rfl, ?_⟩) hHeld ?_
          · intro w hSw; go_simp
          try simp only [List.getElem_toArray, List.getElem_cons_zero, List.getElem_cons_succ, Act.put, List.setIfInBounds_toArray, List.set_cons_zero, List.set_cons_succ]
          refine wpAnyH_take (i := 4) (v := (.string (bs xn))) rfl (by kernel_rfl) (by kernel_rfl) (by kernel_rfl) (fun _ _ _ h => h) (Or.inl ⟨by rfl, ?_⟩) hHeld ?_
          · intro w hSw; obtain ⟨s0, s1, s2⟩ := hSw; go_simp
          try simp only [List.getElem_toArray, List.getElem_cons_zero, List.getElem_cons_succ, Act.put, List.setIfInBounds_toArray, List.set_cons_zero, List.set_cons_succ]
          refine wpAnyH_take (i := 5) (v := (.pointer (some ⟨X, 3, none⟩))) rfl (by kernel_rfl) (by kernel_rfl) (by kernel_rfl) (fun _ _ _ h => h) (Or.inl ⟨by rfl, ?_⟩) hHeld ?_
          · intro w hSw; go_simp
          try simp only [List.getElem_toArray, List.getElem_cons_zero, List.getElem_cons_succ, Act.put, List.setIfInBounds_toArray, List.set_cons_zero, List.set_cons_succ]
          refine wpAnyH_take (i := 6) (v := (.int .i64 xv)) rfl (by kernel_rfl) (by kernel_rfl) (by kernel_rfl) (fun _ _ _ h => h) (Or.inl ⟨by rfl, ?_⟩) hHeld ?_
          · intro w hSw; obtain ⟨s0, s1, s2⟩ := hSw; go_simp
          try simp only [List.getElem_toArray, List.getElem_cons_zero, List.getElem_cons_succ, Act.put, List.setIfInBounds_toArray, List.set_cons_zero, List.set_cons_succ]
          refine wpAnyH_take (i := 8) (v := (.pointer (some ⟨b, 0, none⟩))) rfl (by kernel_rfl) (by kernel_rfl) (by kernel_rfl) (fun _ _ _ h => h) (Or.inl ⟨by rfl, ?_⟩) hHeld ?_
          · intro w hSw; go_simp
          try simp only [List.getElem_toArray, List.getElem_cons_zero, List.getElem_cons_succ, Act.put, List.setIfInBounds_toArray, List.set_cons_zero, List.set_cons_succ]
          refine wpAnyH_take (i := 9) (v := (.pointer (some ⟨X, 1, none⟩))) rfl (by kernel_rfl) (by kernel_rfl) (by kernel_rfl) (fun _ _ _ h => h) (Or.inl ⟨by rfl, ?_⟩) hHeld ?_
          · intro w hSw; go_simp
          try simp only [List.getElem_toArray, List.getElem_cons_zero, List.getElem_cons_succ, Act.put, List.setIfInBounds_toArray, List.set_cons_zero, List.set_cons_succ]
          refine wpAnyH_take (i := 10) (v := (.int .i64 xt)) rfl (by kernel_rfl) (by kernel_rfl) (by kernel_rfl) (fun _ _ _ h => h) (Or.inl ⟨by rfl, ?_⟩) hHeld ?_
          · intro w hSw; obtain ⟨s0, s1, s2⟩ := hSw; go_simp
          try simp only [List.getElem_toArray, List.getElem_cons_zero, List.getElem_cons_succ, Act.put, List.setIfInBounds_toArray, List.set_cons_zero, List.set_cons_succ]
          refine wpAnyH_take (i := 11) (v := (.pointer (some ⟨X, 2, none⟩))) rfl (by kernel_rfl) (by kernel_rfl) (by kernel_rfl) (fun _ _ _ h => h) (Or.inl ⟨by rfl, ?_⟩) hHeld ?_
          · intro w hSw; go_simp
          try simp only [List.getElem_toArray, List.getElem_cons_zero, List.getElem_cons_succ, Act.put, List.setIfInBounds_toArray, List.set_cons_zero, List.set_cons_succ]
          refine wpAnyH_take (i := 12) (v := (.string (bs xn))) rfl (by kernel_rfl) (by kernel_rfl) (by kernel_rfl) (fun _ _ _ h => h) (Or.inl ⟨by rfl, ?_⟩) hHeld ?_
          · intro w hSw; obtain ⟨s0, s1, s2⟩ := hSw; go_simp
          try simp only [List.getElem_toArray, List.getElem_cons_zero, List.getElem_cons_succ, Act.put, List.setIfInBounds_toArray, List.set_cons_zero, List.set_cons_succ]
          refine wpAnyH_take (i := 13) (v := (.pointer (some ⟨X, 3, none⟩))) rfl (by kernel_rfl) (by kernel_rfl) (by kernel_rfl) (fun _ _ _ h => h) (Or.inl ⟨by rfl, ?_⟩) hHeld ?_
          · intro w hSw; go_simp
          try simp only [List.getElem_toArray, List.getElem_cons_zero, List.getElem_cons_succ, Act.put, List.setIfInBounds_toArray, List.set_cons_zero, List.set_cons_succ]
          refine wpAnyH_take (i := 14) (v := (.int .i64 xv)) rfl (by kernel_rfl) (by kernel_rfl) (by kernel_rfl) (fun _ _ _ h => h) (Or.inl ⟨by rfl, ?_⟩) hHeld ?_
          · intro w hSw; obtain ⟨s0, s1, s2⟩ := hSw; go_simp
          try simp only [List.getElem_toArray, List.getElem_cons_zero, List.getElem_cons_succ, Act.put, List.setIfInBounds_toArray, List.set_cons_zero, List.set_cons_succ]
          refine wpAnyH_ready (rs := [7]) (by kernel_rfl) (by simp) ?_
          refine AllReadyH.cons rfl (fun K hK => ?_) AllReadyH.nil
          clear hHeld
          go_simp
          obtain ⟨vp, hvp⟩ := D.out.1.g
          refine (C1.out _ _ vp hvp).mono ?_
          rintro e w3 ⟨rfl, o3, v3, st3, hA3⟩
          obtain ⟨vr, hvr⟩ := D.out.1.r
          have C3 := Lib.hid (C2.out o3 _ vr (hvr.step st3 (by decide)))
          have BX3 := Lib.hid (D.out.2.step st3 (by decide))
          have S3 := Lib.hid (And.intro st3 hA3)
          clear C1 C2 hvp hvr st3 hA3
          refine hK.out _ _ ⟨by rw [BX3.out.cell]; rfl, by rw [BX3.out.cell]; rfl, by rw [BX3.out.cell]; rfl⟩ (fun hHeld => ?_)
          clear hK K
          refine wpAnyH_ready (rs := [15]) (by kernel_rfl) (by simp) ?_
          refine AllReadyH.cons rfl (fun K hK => ?_) AllReadyH.nil
          clear hHeld
          go_simp
          refine C3.out.mono ?_
          rintro e w4 ⟨rfl, o4, v4, st4, hR4⟩
          have Q6 := Lib.hid (D.out.1.both S3.out.1 ⟨v3, S3.out.2⟩ st4 ⟨v4, hR4⟩ I6.out.1 I6.out.2)
          have BX4 := Lib.hid (BX3.out.step st4 (by decide))
          clear C3 st4 hR4 S3 D I6
          refine hK.out _ _ ⟨by rw [BX4.out.cell]; rfl, by rw [BX4.out.cell]; rfl, by rw [BX4.out.cell]; rfl⟩ (fun hHeld => ?_)
          clear hK K BX4 BX3 K0
          refine wpAnyH_take (i := 16) (v := (.bool true)) rfl (by kernel_rfl) (by kernel_rfl) (by kernel_rfl) (fun _ _ _ h => h) (Or.inl ⟨by rfl, ?_⟩) hHeld ?_
          · intro w hSw; go_simp
          try simp only [List.getElem_toArray, List.getElem_cons_zero, List.getElem_cons_succ, Act.put, List.setIfInBounds_toArray, List.set_cons_zero, List.set_cons_succ]
          refine wpAnyH_take (i := 17) (v := (.bool true)) rfl (by kernel_rfl) (by kernel_rfl) (by kernel_rfl) (fun _ _ _ h => h) (Or.inl ⟨by rfl, ?_⟩) hHeld ?_
          · intro w hSw; go_simp
          try simp only [List.getElem_toArray, List.getElem_cons_zero, List.getElem_cons_succ, Act.put, List.setIfInBounds_toArray, List.set_cons_zero, List.set_cons_succ]
          refine wpAnyH_done (by kernel_rfl) ?_ _
          clear hHeld x0 x1 x2 x3
          have h6 : L6.length ≤ 1000 := by have := HL.out; omega
          obtain ⟨r1, hr1⟩ : ∃ r, sumF (eF (nameR nm)) L6 = r := ⟨_, rfl⟩
          obtain ⟨r2, hr2⟩ : ∃ r, sumF (lF (nameR nm)) L6 = r := ⟨_, rfl⟩
          obtain ⟨⟨bb, bm⟩, hbv⟩ : ∃ p, bestV L6 = p := ⟨_, rfl⟩
          obtain ⟨bd, hbd⟩ : ∃ d, decide (0 < bm) = d := ⟨_, rfl⟩
          obtain ⟨te, hte⟩ : ∃ r, earned L6 = r := ⟨_, rfl⟩
          obtain ⟨tl, htl⟩ : ∃ r, lost L6 = r := ⟨_, rfl⟩
          obtain ⟨tt, htt⟩ : ∃ r, sumF (tF till) L6 = r := ⟨_, rfl⟩
          have G1 : Hid (∀ (o' : Nat → Nat) (w' : World), Ps w o' w' a b L6 → Calls Try.prog 12 #[.pointer (some ⟨a, 0, none⟩), .string (bs nm)] w' (RetB (.tuple #[.int .i64 r1, .int .i64 r2]) w')) := fun o' w' h => by obtain ⟨v, hv⟩ := h.g; exact lby nm r1 r2 hv h.inv h6 hr1 hr2
          have G2 : Hid (∀ (o' : Nat → Nat) (w' : World), Ps w o' w' a b L6 → Calls Try.prog 16 #[.pointer (some ⟨b, 0, none⟩), .string (bs nm)] w' (RetB (.tuple #[.int .i64 r1, .int .i64 r2]) w')) := fun o' w' h => by obtain ⟨v, hv⟩ := h.r; exact rby nm r1 r2 hv h.inv h6 hr1 hr2
          have G3 : Hid (∀ (o' : Nat → Nat) (w' : World), Ps w o' w' a b L6 → Calls Try.prog 9 #[.pointer (some ⟨a, 0, none⟩)] w' (RetB (.tuple #[.string (bs bb), .bool bd]) w')) := fun o' w' h => by obtain ⟨v, hv⟩ := h.g; exact hbd ▸ lbest bb bm hv h.inv h6 h.name hbv
          have G4 : Hid (∀ (o' : Nat → Nat) (w' : World), Ps w o' w' a b L6 → Calls Try.prog 17 #[.pointer (some ⟨b, 0, none⟩)] w' (RetB (.tuple #[.string (bs bb), .bool bd]) w')) := fun o' w' h => by obtain ⟨v, hv⟩ := h.r; exact hbd ▸ rbest bb bm hv h.inv h6 hbv
          have G5 : Hid (∀ (o' : Nat → Nat) (w' : World), Ps w o' w' a b L6 → Calls Try.prog 18 #[.pointer (some ⟨a, 0, none⟩)] w' fun e w2 => e = .returned (.int .i64 te) ∧ w2 = w') := fun o' w' h => by obtain ⟨v, hv⟩ := h.g; exact learned_v hv hte
          have G6 : Hid (∀ (o' : Nat → Nat) (w' : World), Ps w o' w' a b L6 → Calls Try.prog 19 #[.pointer (some ⟨b, 0, none⟩)] w' (RetB (.int .i64 te) w')) := fun o' w' h => by obtain ⟨v, hv⟩ := h.r; exact hte ▸ rearned hv h.inv h6
          have G7 : Hid (∀ (o' : Nat → Nat) (w' : World), Ps w o' w' a b L6 → Calls Try.prog 20 #[.pointer (some ⟨a, 0, none⟩)] w' fun e w2 => e = .returned (.int .i64 tl) ∧ w2 = w') := fun o' w' h => by obtain ⟨v, hv⟩ := h.g; exact llost_v hv htl
          have G8 : Hid (∀ (o' : Nat → Nat) (w' : World), Ps w o' w' a b L6 → Calls Try.prog 21 #[.pointer (some ⟨b, 0, none⟩)] w' (RetB (.int .i64 tl) w')) := fun o' w' h => by obtain ⟨v, hv⟩ := h.r; exact htl ▸ rlost hv h.inv h6
          have G9 : Hid (∀ (o' : Nat → Nat) (w' : World), Ps w o' w' a b L6 → Calls Try.prog 14 #[.pointer (some ⟨a, 0, none⟩), .int .i64 till] w' (RetB (.int .i64 tt) w')) := fun o' w' h => by obtain ⟨v, hv⟩ := h.g; exact ltill till tt hv h.inv h6 htt
          have G0 : Hid (∀ (o' : Nat → Nat) (w' : World), Ps w o' w' a b L6 → Calls Try.prog 22 #[.pointer (some ⟨b, 0, none⟩), .int .i64 till] w' fun e w2 => e = .returned (.int .i64 tt) ∧ w2 = w') := fun o' w' h => by obtain ⟨v, hv⟩ := h.r; exact rtill till tt hv h.inv h6 htt
          have t1 : (r1 != r1) = false := by simp
          have t2 : (r2 != r2) = false := by simp
          have t3 : (!((bs bb).toList == (bs bb).toList)) = false := by simp
          have t4 : ((bs bb).toList == (bs bb).toList) = true := by simp
          have t5 : (bd != bd) = false := by simp
          have t6 : (te != te) = false := by simp
          have t7 : (tl != tl) = false := by simp
          have t8 : (tt != tt) = false := by simp
          clear hr1 hr2 hbv hbd hte htl htt h6 y0 hle FX
          go_wp2_with fail
          refine (G1.out _ _ Q6.out).mono ?_
          rintro e w8 ⟨rfl, b8⟩
          replace Q6 := Lib.hid (Q6.out.on b8)
          clear b8 G1
          go_wp2_with fail
          refine (G2.out _ _ Q6.out).mono ?_
          rintro e w8 ⟨rfl, b8⟩
          replace Q6 := Lib.hid (Q6.out.on b8)
          clear b8 G2
          go_wp2_with fail
          refine (G3.out _ _ Q6.out).mono ?_
          rintro e w8 ⟨rfl, b8⟩
          replace Q6 := Lib.hid (Q6.out.on b8)
          clear b8 G3
          go_wp2_with fail
          refine (G4.out _ _ Q6.out).mono ?_
          rintro e w8 ⟨rfl, b8⟩
          replace Q6 := Lib.hid (Q6.out.on b8)
          clear b8 G4
          go_wp2_with fail
          refine (G5.out _ _ Q6.out).mono ?_
          rintro e w8 ⟨rfl, rfl⟩
          clear G5
          go_wp2_with fail
          refine (G6.out _ _ Q6.out).mono ?_
          rintro e w8 ⟨rfl, b8⟩
          replace Q6 := Lib.hid (Q6.out.on b8)
          clear b8 G6
          go_wp2_with fail
          refine (G7.out _ _ Q6.out).mono ?_
          rintro e w8 ⟨rfl, rfl⟩
          clear G7
          go_wp2_with fail
          refine (G8.out _ _ Q6.out).mono ?_
          rintro e w8 ⟨rfl, b8⟩
          replace Q6 := Lib.hid (Q6.out.on b8)
          clear b8 G8
          go_wp2_with fail
          refine (G9.out _ _ Q6.out).mono ?_
          rintro e w8 ⟨rfl, b8⟩
          replace Q6 := Lib.hid (Q6.out.on b8)
          clear b8 G9
          go_wp2_with fail
          refine (G0.out _ _ Q6.out).mono ?_
          rintro e w8 ⟨rfl, rfl⟩
          clear G0
          go_wp2
          go_roundw
          case rel => exact ⟨i + 1, o4, L6, by simp, by omega, by have := HL.out; omega, Q6⟩
          case measure => simp [intOf]; omega

      · as_aux_lemma =>
          have u0 : (xo == 0) = false := by simp [hop]
          have HL := Lib.hid (show (loseL L xt xn xv).length ≤ i + 1 from by have := loseL_len L xt xn xv; omega)
          have C1 := Lib.hid (fun (o' : Nat → Nat) (w' : World) (v' : Value) (h' : Lg o' 1 w' a v' L) => llose xt xv _ xn _ h' hinv hle FX.out.1 rfl rfl)
          have C2 := Lib.hid (fun (o' : Nat → Nat) (w' : World) (v' : Value) (h' : Lr o' 2 w' b v' L) => rwrite (o := o') (b := b) (v := v') xt xv (loseE L xt xv) (lost L) xn false (loseL L xt xn xv) h' hinv hle FX.out.1 rfl rfl rfl)
          have I6 := Lib.hid (And.intro (hinv.lose xt xn xv) (names_lose D.out.1.name xt xn xv FX.out.2))
          generalize loseE L xt xv = cc at C1 C2
          generalize loseL L xt xn xv = L6 at C1 C2 I6 HL
          have y0 : (cc == cc) = true := by simp
          have K0 : wA.drew.cell? ⟨X, 1, none⟩ = some (.int .i64 xt) ∧ wA.drew.cell? ⟨X, 2, none⟩ = some (.string (bs xn)) ∧ wA.drew.cell? ⟨X, 3, none⟩ = some (.int .i64 xv) := ⟨x1, x2, x3⟩
          clear hinv hop
          go_wp2
          refine wp_region_held_drew (S := fun W => W.cell? ⟨X, 1, none⟩ = some (.int .i64 xt) ∧ W.cell? ⟨X, 2, none⟩ = some (.string (bs xn)) ∧ W.cell? ⟨X, 3, none⟩ = some (.int .i64 xv)) (by kernel_rfl) K0 (fun hHeld => ?_)
          refine wpAnyH_take (i := 0) (v := (.pointer (some ⟨a, 0, none⟩))) rfl (by kernel_rfl) (by kernel_rfl) (by kernel_rfl) (fun _ _ _ h => h) (Or.inl ⟨by rfl, ?_⟩) hHeld ?_
          · intro w hSw; go_simp
          try simp only [List.getElem_toArray, List.getElem_cons_zero, List.getElem_cons_succ, Act.put, List.setIfInBounds_toArray, List.set_cons_zero, List.set_cons_succ]
          refine wpAnyH_take (i := 1) (v := (.pointer (some ⟨X, 1, none⟩))) rfl (by kernel_rfl) (by kernel_rfl) (by kernel_rfl) (fun _ _ _ h => h) (Or.inl ⟨by rfl, ?_⟩) hHeld ?_
          · intro w hSw; go_simp
          try simp only [List.getElem_toArray, List.getElem_cons_zero, List.getElem_cons_succ, Act.put, List.setIfInBounds_toArray, List.set_cons_zero, List.set_cons_succ]
          refine wpAnyH_take (i := 2) (v := (.int .i64 xt)) rfl (by kernel_rfl) (by kernel_rfl) (by kernel_rfl) (fun _ _ _ h => h) (Or.inl ⟨by rfl, ?_⟩) hHeld ?_
          · intro w hSw; obtain ⟨s0, s1, s2⟩ := hSw; go_simp
          try simp only [List.getElem_toArray, List.getElem_cons_zero, List.getElem_cons_succ, Act.put, List.setIfInBounds_toArray, List.set_cons_zero, List.set_cons_succ]
          refine wpAnyH_take (i := 3) (v := (.pointer (some ⟨X, 2, none⟩))) rfl (by kernel_rfl) (by kernel_rfl) (by kernel_rfl) (fun _ _ _ h => h) (Or.inl ⟨by rfl, ?_⟩) hHeld ?_
          · intro w hSw; go_simp
          try simp only [List.getElem_toArray, List.getElem_cons_zero, List.getElem_cons_succ, Act.put, List.setIfInBounds_toArray, List.set_cons_zero, List.set_cons_succ]
          refine wpAnyH_take (i := 4) (v := (.string (bs xn))) rfl (by kernel_rfl) (by kernel_rfl) (by kernel_rfl) (fun _ _ _ h => h) (Or.inl ⟨by rfl, ?_⟩) hHeld ?_
          · intro w hSw; obtain ⟨s0, s1, s2⟩ := hSw; go_simp
          try simp only [List.getElem_toArray, List.getElem_cons_zero, List.getElem_cons_succ, Act.put, List.setIfInBounds_toArray, List.set_cons_zero, List.set_cons_succ]
          refine wpAnyH_take (i := 5) (v := (.pointer (some ⟨X, 3, none⟩))) rfl (by kernel_rfl) (by kernel_rfl) (by kernel_rfl) (fun _ _ _ h => h) (Or.inl ⟨by rfl, ?_⟩) hHeld ?_
          · intro w hSw; go_simp
          try simp only [List.getElem_toArray, List.getElem_cons_zero, List.getElem_cons_succ, Act.put, List.setIfInBounds_toArray, List.set_cons_zero, List.set_cons_succ]
          refine wpAnyH_take (i := 6) (v := (.int .i64 xv)) rfl (by kernel_rfl) (by kernel_rfl) (by kernel_rfl) (fun _ _ _ h => h) (Or.inl ⟨by rfl, ?_⟩) hHeld ?_
          · intro w hSw; obtain ⟨s0, s1, s2⟩ := hSw; go_simp
          try simp only [List.getElem_toArray, List.getElem_cons_zero, List.getElem_cons_succ, Act.put, List.setIfInBounds_toArray, List.set_cons_zero, List.set_cons_succ]
          refine wpAnyH_take (i := 8) (v := (.pointer (some ⟨b, 0, none⟩))) rfl (by kernel_rfl) (by kernel_rfl) (by kernel_rfl) (fun _ _ _ h => h) (Or.inl ⟨by rfl, ?_⟩) hHeld ?_
          · intro w hSw; go_simp
          try simp only [List.getElem_toArray, List.getElem_cons_zero, List.getElem_cons_succ, Act.put, List.setIfInBounds_toArray, List.set_cons_zero, List.set_cons_succ]
          refine wpAnyH_take (i := 9) (v := (.pointer (some ⟨X, 1, none⟩))) rfl (by kernel_rfl) (by kernel_rfl) (by kernel_rfl) (fun _ _ _ h => h) (Or.inl ⟨by rfl, ?_⟩) hHeld ?_
          · intro w hSw; go_simp
          try simp only [List.getElem_toArray, List.getElem_cons_zero, List.getElem_cons_succ, Act.put, List.setIfInBounds_toArray, List.set_cons_zero, List.set_cons_succ]
          refine wpAnyH_take (i := 10) (v := (.int .i64 xt)) rfl (by kernel_rfl) (by kernel_rfl) (by kernel_rfl) (fun _ _ _ h => h) (Or.inl ⟨by rfl, ?_⟩) hHeld ?_
          · intro w hSw; obtain ⟨s0, s1, s2⟩ := hSw; go_simp
          try simp only [List.getElem_toArray, List.getElem_cons_zero, List.getElem_cons_succ, Act.put, List.setIfInBounds_toArray, List.set_cons_zero, List.set_cons_succ]
          refine wpAnyH_take (i := 11) (v := (.pointer (some ⟨X, 2, none⟩))) rfl (by kernel_rfl) (by kernel_rfl) (by kernel_rfl) (fun _ _ _ h => h) (Or.inl ⟨by rfl, ?_⟩) hHeld ?_
          · intro w hSw; go_simp
          try simp only [List.getElem_toArray, List.getElem_cons_zero, List.getElem_cons_succ, Act.put, List.setIfInBounds_toArray, List.set_cons_zero, List.set_cons_succ]
          refine wpAnyH_take (i := 12) (v := (.string (bs xn))) rfl (by kernel_rfl) (by kernel_rfl) (by kernel_rfl) (fun _ _ _ h => h) (Or.inl ⟨by rfl, ?_⟩) hHeld ?_
          · intro w hSw; obtain ⟨s0, s1, s2⟩ := hSw; go_simp
          try simp only [List.getElem_toArray, List.getElem_cons_zero, List.getElem_cons_succ, Act.put, List.setIfInBounds_toArray, List.set_cons_zero, List.set_cons_succ]
          refine wpAnyH_take (i := 13) (v := (.pointer (some ⟨X, 3, none⟩))) rfl (by kernel_rfl) (by kernel_rfl) (by kernel_rfl) (fun _ _ _ h => h) (Or.inl ⟨by rfl, ?_⟩) hHeld ?_
          · intro w hSw; go_simp
          try simp only [List.getElem_toArray, List.getElem_cons_zero, List.getElem_cons_succ, Act.put, List.setIfInBounds_toArray, List.set_cons_zero, List.set_cons_succ]
          refine wpAnyH_take (i := 14) (v := (.int .i64 xv)) rfl (by kernel_rfl) (by kernel_rfl) (by kernel_rfl) (fun _ _ _ h => h) (Or.inl ⟨by rfl, ?_⟩) hHeld ?_
          · intro w hSw; obtain ⟨s0, s1, s2⟩ := hSw; go_simp
          try simp only [List.getElem_toArray, List.getElem_cons_zero, List.getElem_cons_succ, Act.put, List.setIfInBounds_toArray, List.set_cons_zero, List.set_cons_succ]
          refine wpAnyH_ready (rs := [7]) (by kernel_rfl) (by simp) ?_
          refine AllReadyH.cons rfl (fun K hK => ?_) AllReadyH.nil
          clear hHeld
          go_simp
          obtain ⟨vp, hvp⟩ := D.out.1.g
          refine (C1.out _ _ vp hvp).mono ?_
          rintro e w3 ⟨rfl, o3, v3, st3, hA3⟩
          obtain ⟨vr, hvr⟩ := D.out.1.r
          have C3 := Lib.hid (C2.out o3 _ vr (hvr.step st3 (by decide)))
          have BX3 := Lib.hid (D.out.2.step st3 (by decide))
          have S3 := Lib.hid (And.intro st3 hA3)
          clear C1 C2 hvp hvr st3 hA3
          refine hK.out _ _ ⟨by rw [BX3.out.cell]; rfl, by rw [BX3.out.cell]; rfl, by rw [BX3.out.cell]; rfl⟩ (fun hHeld => ?_)
          clear hK K
          refine wpAnyH_ready (rs := [15]) (by kernel_rfl) (by simp) ?_
          refine AllReadyH.cons rfl (fun K hK => ?_) AllReadyH.nil
          clear hHeld
          go_simp
          refine C3.out.mono ?_
          rintro e w4 ⟨rfl, o4, v4, st4, hR4⟩
          have Q6 := Lib.hid (D.out.1.both S3.out.1 ⟨v3, S3.out.2⟩ st4 ⟨v4, hR4⟩ I6.out.1 I6.out.2)
          have BX4 := Lib.hid (BX3.out.step st4 (by decide))
          clear C3 st4 hR4 S3 D I6
          refine hK.out _ _ ⟨by rw [BX4.out.cell]; rfl, by rw [BX4.out.cell]; rfl, by rw [BX4.out.cell]; rfl⟩ (fun hHeld => ?_)
          clear hK K BX4 BX3 K0
          refine wpAnyH_take (i := 16) (v := (.bool true)) rfl (by kernel_rfl) (by kernel_rfl) (by kernel_rfl) (fun _ _ _ h => h) (Or.inl ⟨by rfl, ?_⟩) hHeld ?_
          · intro w hSw; go_simp
          try simp only [List.getElem_toArray, List.getElem_cons_zero, List.getElem_cons_succ, Act.put, List.setIfInBounds_toArray, List.set_cons_zero, List.set_cons_succ]
          refine wpAnyH_take (i := 17) (v := (.bool true)) rfl (by kernel_rfl) (by kernel_rfl) (by kernel_rfl) (fun _ _ _ h => h) (Or.inl ⟨by rfl, ?_⟩) hHeld ?_
          · intro w hSw; go_simp
          try simp only [List.getElem_toArray, List.getElem_cons_zero, List.getElem_cons_succ, Act.put, List.setIfInBounds_toArray, List.set_cons_zero, List.set_cons_succ]
          refine wpAnyH_done (by kernel_rfl) ?_ _
          clear hHeld x0 x1 x2 x3
          have h6 : L6.length ≤ 1000 := by have := HL.out; omega
          obtain ⟨r1, hr1⟩ : ∃ r, sumF (eF (nameR nm)) L6 = r := ⟨_, rfl⟩
          obtain ⟨r2, hr2⟩ : ∃ r, sumF (lF (nameR nm)) L6 = r := ⟨_, rfl⟩
          obtain ⟨⟨bb, bm⟩, hbv⟩ : ∃ p, bestV L6 = p := ⟨_, rfl⟩
          obtain ⟨bd, hbd⟩ : ∃ d, decide (0 < bm) = d := ⟨_, rfl⟩
          obtain ⟨te, hte⟩ : ∃ r, earned L6 = r := ⟨_, rfl⟩
          obtain ⟨tl, htl⟩ : ∃ r, lost L6 = r := ⟨_, rfl⟩
          obtain ⟨tt, htt⟩ : ∃ r, sumF (tF till) L6 = r := ⟨_, rfl⟩
          have G1 : Hid (∀ (o' : Nat → Nat) (w' : World), Ps w o' w' a b L6 → Calls Try.prog 12 #[.pointer (some ⟨a, 0, none⟩), .string (bs nm)] w' (RetB (.tuple #[.int .i64 r1, .int .i64 r2]) w')) := fun o' w' h => by obtain ⟨v, hv⟩ := h.g; exact lby nm r1 r2 hv h.inv h6 hr1 hr2
          have G2 : Hid (∀ (o' : Nat → Nat) (w' : World), Ps w o' w' a b L6 → Calls Try.prog 16 #[.pointer (some ⟨b, 0, none⟩), .string (bs nm)] w' (RetB (.tuple #[.int .i64 r1, .int .i64 r2]) w')) := fun o' w' h => by obtain ⟨v, hv⟩ := h.r; exact rby nm r1 r2 hv h.inv h6 hr1 hr2
          have G3 : Hid (∀ (o' : Nat → Nat) (w' : World), Ps w o' w' a b L6 → Calls Try.prog 9 #[.pointer (some ⟨a, 0, none⟩)] w' (RetB (.tuple #[.string (bs bb), .bool bd]) w')) := fun o' w' h => by obtain ⟨v, hv⟩ := h.g; exact hbd ▸ lbest bb bm hv h.inv h6 h.name hbv
          have G4 : Hid (∀ (o' : Nat → Nat) (w' : World), Ps w o' w' a b L6 → Calls Try.prog 17 #[.pointer (some ⟨b, 0, none⟩)] w' (RetB (.tuple #[.string (bs bb), .bool bd]) w')) := fun o' w' h => by obtain ⟨v, hv⟩ := h.r; exact hbd ▸ rbest bb bm hv h.inv h6 hbv
          have G5 : Hid (∀ (o' : Nat → Nat) (w' : World), Ps w o' w' a b L6 → Calls Try.prog 18 #[.pointer (some ⟨a, 0, none⟩)] w' fun e w2 => e = .returned (.int .i64 te) ∧ w2 = w') := fun o' w' h => by obtain ⟨v, hv⟩ := h.g; exact learned_v hv hte
          have G6 : Hid (∀ (o' : Nat → Nat) (w' : World), Ps w o' w' a b L6 → Calls Try.prog 19 #[.pointer (some ⟨b, 0, none⟩)] w' (RetB (.int .i64 te) w')) := fun o' w' h => by obtain ⟨v, hv⟩ := h.r; exact hte ▸ rearned hv h.inv h6
          have G7 : Hid (∀ (o' : Nat → Nat) (w' : World), Ps w o' w' a b L6 → Calls Try.prog 20 #[.pointer (some ⟨a, 0, none⟩)] w' fun e w2 => e = .returned (.int .i64 tl) ∧ w2 = w') := fun o' w' h => by obtain ⟨v, hv⟩ := h.g; exact llost_v hv htl
          have G8 : Hid (∀ (o' : Nat → Nat) (w' : World), Ps w o' w' a b L6 → Calls Try.prog 21 #[.pointer (some ⟨b, 0, none⟩)] w' (RetB (.int .i64 tl) w')) := fun o' w' h => by obtain ⟨v, hv⟩ := h.r; exact htl ▸ rlost hv h.inv h6
          have G9 : Hid (∀ (o' : Nat → Nat) (w' : World), Ps w o' w' a b L6 → Calls Try.prog 14 #[.pointer (some ⟨a, 0, none⟩), .int .i64 till] w' (RetB (.int .i64 tt) w')) := fun o' w' h => by obtain ⟨v, hv⟩ := h.g; exact ltill till tt hv h.inv h6 htt
          have G0 : Hid (∀ (o' : Nat → Nat) (w' : World), Ps w o' w' a b L6 → Calls Try.prog 22 #[.pointer (some ⟨b, 0, none⟩), .int .i64 till] w' fun e w2 => e = .returned (.int .i64 tt) ∧ w2 = w') := fun o' w' h => by obtain ⟨v, hv⟩ := h.r; exact rtill till tt hv h.inv h6 htt
          have t1 : (r1 != r1) = false := by simp
          have t2 : (r2 != r2) = false := by simp
          have t3 : (!((bs bb).toList == (bs bb).toList)) = false := by simp
          have t4 : ((bs bb).toList == (bs bb).toList) = true := by simp
          have t5 : (bd != bd) = false := by simp
          have t6 : (te != te) = false := by simp
          have t7 : (tl != tl) = false := by simp
          have t8 : (tt != tt) = false := by simp
          clear hr1 hr2 hbv hbd hte htl htt h6 y0 hle FX
          go_wp2_with fail
          refine (G1.out _ _ Q6.out).mono ?_
          rintro e w8 ⟨rfl, b8⟩
          replace Q6 := Lib.hid (Q6.out.on b8)
          clear b8 G1
          go_wp2_with fail
          refine (G2.out _ _ Q6.out).mono ?_
          rintro e w8 ⟨rfl, b8⟩
          replace Q6 := Lib.hid (Q6.out.on b8)
          clear b8 G2
          go_wp2_with fail
          refine (G3.out _ _ Q6.out).mono ?_
          rintro e w8 ⟨rfl, b8⟩
          replace Q6 := Lib.hid (Q6.out.on b8)
          clear b8 G3
          go_wp2_with fail
          refine (G4.out _ _ Q6.out).mono ?_
          rintro e w8 ⟨rfl, b8⟩
          replace Q6 := Lib.hid (Q6.out.on b8)
          clear b8 G4
          go_wp2_with fail
          refine (G5.out _ _ Q6.out).mono ?_
          rintro e w8 ⟨rfl, rfl⟩
          clear G5
          go_wp2_with fail
          refine (G6.out _ _ Q6.out).mono ?_
          rintro e w8 ⟨rfl, b8⟩
          replace Q6 := Lib.hid (Q6.out.on b8)
          clear b8 G6
          go_wp2_with fail
          refine (G7.out _ _ Q6.out).mono ?_
          rintro e w8 ⟨rfl, rfl⟩
          clear G7
          go_wp2_with fail
          refine (G8.out _ _ Q6.out).mono ?_
          rintro e w8 ⟨rfl, b8⟩
          replace Q6 := Lib.hid (Q6.out.on b8)
          clear b8 G8
          go_wp2_with fail
          refine (G9.out _ _ Q6.out).mono ?_
          rintro e w8 ⟨rfl, b8⟩
          replace Q6 := Lib.hid (Q6.out.on b8)
          clear b8 G9
          go_wp2_with fail
          refine (G0.out _ _ Q6.out).mono ?_
          rintro e w8 ⟨rfl, rfl⟩
          clear G0
          go_wp2
          go_roundw
          case rel => exact ⟨i + 1, o4, L6, by simp, by omega, by have := HL.out; omega, Q6⟩
          case measure => simp [intOf]; omega

    · obtain rfl : i = N := by omega
      as_aux_lemma =>
        obtain ⟨n, hn⟩ : ∃ n, L.length = n := ⟨_, rfl⟩
        obtain ⟨vg, hvg⟩ := P.out.g
        obtain ⟨vr, hvr⟩ := P.out.r
        have C1 := Lib.hid (lrows hvg (by omega))
        have hr2 := hvr.row
        obtain ⟨Aq, cq, rfl⟩ := hvr.row.any
        rw [hn] at C1 hLi hvr
        have HV := Lib.hid hvr
        have HP := Lib.hid P.out.lw
        replace hn := Lib.hid hn
        clear hr2 hvg hvr P
        go_wp2_with fail
        refine C1.out.mono ?_
        rintro e w5 ⟨v5, rfl, hown, hb⟩
        obtain ⟨wq, hwq⟩ : ∃ v, v = wr := ⟨wr, rfl⟩
        subst hwq
        obtain ⟨A5, c5, rfl⟩ := own_any hown
        have r5 := Row.fresh (w0 := wq) 3 hown o
        have hv5 := HV.out.below hb
        have l5 := HP.out.on hb
        have e0 : w5.cell? ⟨b, 0, none⟩ = some (.slice Aq n cq) := by rw [hv5.box.cell]; simp
        have G := Lib.hid (And.intro r5 (And.intro hv5 l5))
        have bl := hv5.box.lt
        have e1 : ((n : Int) != (n : Int)) = false := by simp
        clear C1 hown hb r5 hv5 l5 HV HP
        go_wp2
        go_loopw [21] (fun s21 wr => ∃ (i : Nat), s21 = .int .i64 (i : Int) ∧ i ≤ n ∧ Hid (Below w5.heap.size w5 wr)) (fun st _ => n - (intOf st).toNat)
        case atStart => exact ⟨0, rfl, by omega, Lib.hid (Below.refl _ _)⟩
        case round =>
          obtain ⟨j, rfl, hj, hb⟩ := hrel
          rcases Nat.lt_or_ge j n with hlt | hge
          · obtain ⟨⟨xt, xn, xv⟩, hx⟩ : ∃ x, L[j]? = some x := ⟨_, List.getElem?_eq_getElem (by rw [hn.out]; exact hlt)⟩
            have r := G.out.1.below hb.out
            have s := (G.out.2.1.below hb.out).row
            obtain ⟨g, cap, hv, hc1, hc2, _, _⟩ := r.form (by omega)
            injection hv with hv1 hv2 hv3
            subst hv1 hv3
            rw [hn.out] at s
            obtain ⟨h, cap2, hv, hc3, hc4, _, _⟩ := s.form (by omega)
            injection hv with hv1 hv2 hv3
            subst hv1 hv3
            have p := cellsW_get _ j _ hx
            have d0 : wr.cell? ⟨g, j * 3, none⟩ = some (.int .i64 xt) := by rw [r.cellAt _ (by omega)]; exact p.1
            have d1 : wr.cell? ⟨g, j * 3 + 1, none⟩ = some (.string (bs xn)) := by rw [r.cellAt _ (by omega)]; exact p.2.1
            have d2 : wr.cell? ⟨g, j * 3 + 2, none⟩ = some (.int .i64 xv) := by rw [r.cellAt _ (by omega)]; exact p.2.2
            have s0 : wr.cell? ⟨h, j * 3, none⟩ = some (.int .i64 xt) := by rw [s.cellAt _ (by omega)]; exact p.1
            have s1 : wr.cell? ⟨h, j * 3 + 1, none⟩ = some (.string (bs xn)) := by rw [s.cellAt _ (by omega)]; exact p.2.1
            have s2 : wr.cell? ⟨h, j * 3 + 2, none⟩ = some (.int .i64 xv) := by rw [s.cellAt _ (by omega)]; exact p.2.2
            have e0 : wr.cell? ⟨b, 0, none⟩ = some (.slice (some ⟨h, 0, none⟩) n cq) := by rw [hb.out.cell (p := ⟨b, 0, none⟩) bl]; exact e0
            have z1 : (j : Int) < (n : Int) := by omega
            have z2 : (0 : Int) ≤ (j : Int) := by omega
            have y1 : (xt != xt) = false := by simp
            have y2 : (xv != xv) = false := by simp
            have y3 : (!((bs xn).toList == (bs xn).toList)) = false := by simp
            have y4 : ((bs xn).toList == (bs xn).toList) = true := by simp
            clear hx r s p
            go_wp2
            go_quiet (fail)
            go_wp2
            go_roundw
            case rel => exact ⟨j + 1, by simp, by omega, Lib.hid (below_dN hb.out _)⟩
            case measure => simp [intOf]; omega
          · obtain rfl : j = n := by omega
            replace G := Lib.hid (G.out.2.2.on hb.out)
            clear hb
            go_wp2
            go_ret
            exact ⟨rfl, G.out.below⟩
end Go.Proofs.Ytbmofcggdpjcbaa
