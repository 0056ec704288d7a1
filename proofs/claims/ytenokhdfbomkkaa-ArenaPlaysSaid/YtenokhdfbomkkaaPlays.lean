/- ArenaPlays: any calls answer as the document says. -/
import Derived.Test.YtenokhdfbomkkaaPlaysOps
import Derived.Test.YtenokhdfbomkkaaPlaysActs
import Derived.Test.YtenokhdfbomkkaaArAwake
import Derived.Deep.DeepCutAuto
namespace Go.Proofs.Ytenokhdfbomkkaa
open Go.RowKit
set_option linter.unusedVariables false
set_option linter.unusedSimpArgs false
attribute [local go_sem ↓] Go.wp_at_zero Go.wp_at_succ

theorem own_form {w : World} {base e size n : Nat} {v : Value} {xs : List Value} (h : w.ownsRow base e size v n xs) (hn : 0 < n) : ∃ g cap, v = .slice (some ⟨g, 0, none⟩) n cap ∧ n ≤ cap ∧ cap ≤ maxLen := by
  rcases h.2 with ⟨rfl, h0⟩ | ⟨g, cap, cur, rfl, _, hg, h1, h2, _⟩
  · omega
  · exact ⟨g, cap, rfl, h1, h2⟩
/-- Both arenas in one state; the handles that were told; the law on its way. -/
structure PSt (w : World) (o : Nat → Nat) (W : World) (a b room : Nat) (ss : List (ByteArray × Int × Bool)) (fr : List Nat) (v : Value) (th : List (Nat × Int)) (i : Nat) : Prop where
  ar : InA o W a room ss fr
  rf : InR o W b room ss fr
  tl : Row o 3 W 28 2 v th.length (hCells th)
  inv : PInv room ss fr i
  thl : th.length ≤ i
  lw : Lw w o W
section
variable {w W W' : World} {o o' : Nat → Nat} {a b room i τ : Nat} {ss : List (ByteArray × Int × Bool)} {fr : List Nat} {v : Value} {th : List (Nat × Int)}
theorem PSt.alloc (h : PSt w o W a b room ss fr v th i) (x : Obj) (τ : Nat) : PSt w (tag o W.heap.size τ) (W.alloc x) a b room ss fr v th i := by
  obtain ⟨⟨vs, vf, h1⟩, ⟨vi, vg, vv, vf', h2⟩, h3, h4, h5, h6⟩ := h
  exact ⟨⟨vs, vf, h1.alloc x τ⟩, ⟨vi, vg, vv, vf', RefX.alloc h2 x τ⟩, h3.alloc x τ, h4, h5, h6.alloc x τ⟩
theorem PSt.on (h : PSt w o W a b room ss fr v th i) (hb : Below W.heap.size W W') : PSt w o W' a b room ss fr v th i := by
  obtain ⟨⟨vs, vf, h1⟩, ⟨vi, vg, vv, vf', h2⟩, h3, h4, h5, h6⟩ := h
  exact ⟨⟨vs, vf, h1.below hb⟩, ⟨vi, vg, vv, vf', RefX.below h2 hb⟩, h3.below hb, h4, h5, h6.on hb⟩
theorem PSt.step (h : PSt w o W a b room ss fr v th i) (st : Step o o' τ W W') (hτ : τ = 4) : PSt w o' W' a b room ss fr v th i := by
  subst hτ
  obtain ⟨⟨vs, vf, h1⟩, ⟨vi, vg, vv, vf', h2⟩, h3, h4, h5, h6⟩ := h
  exact ⟨⟨vs, vf, h1.step st (by decide)⟩, ⟨vi, vg, vv, vf', RefX.step h2 st (by decide)⟩, h3.step st (by decide), h4, h5, h6.step st (by decide)⟩
theorem PSt.start (w : World) {vs vf : Value} (h : ArS o 1 W a room vs vf [] []) (l : Lw w o W) : PSt w (tag o W.heap.size 2) (W.alloc (.cells #[.int .i64 (room : Int), .slice none 0 0, .slice none 0 0, .slice none 0 0, .slice none 0 0] 48)) a W.heap.size room [] [] (.slice none 0 0) [] 0 :=
  ⟨⟨vs, vf, h.alloc _ 2⟩, ⟨_, _, _, _, Blk.made o 2 W _ _, Row.nil _ _ _ _ _, Row.nil _ _ _ _ _, Row.nil _ _ _ _ _, Seg.of_row (Row.nil _ _ _ _ _)⟩, Row.nil _ _ _ _ _, PInv.start room, Nat.le_refl _, l.alloc _ 2⟩
theorem InA.alloc (h : InA o W a room ss fr) (x : Obj) (τ : Nat) : InA (tag o W.heap.size τ) (W.alloc x) a room ss fr := by
  obtain ⟨vs, vf, h⟩ := h; exact ⟨vs, vf, h.alloc x τ⟩
theorem InA.step (h : InA o W a room ss fr) (st : Step o o' τ W W') (hne : 1 ≠ τ) : InA o' W' a room ss fr := by
  obtain ⟨vs, vf, h⟩ := h; exact ⟨vs, vf, h.step st hne⟩
theorem InR.alloc (h : InR o W b room ss fr) (x : Obj) (τ : Nat) : InR (tag o W.heap.size τ) (W.alloc x) b room ss fr := by
  obtain ⟨vi, vg, vv, vf, h⟩ := h; exact ⟨vi, vg, vv, vf, RefX.alloc h x τ⟩
theorem InR.step (h : InR o W b room ss fr) (st : Step o o' τ W W') (hne : 2 ≠ τ) : InR o' W' b room ss fr := by
  obtain ⟨vi, vg, vv, vf, h⟩ := h; exact ⟨vi, vg, vv, vf, RefX.step h st hne⟩
/-- Behind a call on the program's arena that leaves it in the same state; on the document's. -/
theorem PSt.stepA (h : PSt w o W a b room ss fr v th i) (st : Step o o' 1 W W') (hA : InA o' W' a room ss fr) : PSt w o' W' a b room ss fr v th i :=
  ⟨hA, InR.step h.rf st (by decide), h.tl.step st (by decide), h.inv, h.thl, h.lw.step st (by decide)⟩
theorem PSt.stepR (h : PSt w o W a b room ss fr v th i) (st : Step o o' 2 W W') (hR : InR o' W' b room ss fr) : PSt w o' W' a b room ss fr v th i :=
  ⟨InA.step h.ar st (by decide), hR, h.tl.step st (by decide), h.inv, h.thl, h.lw.step st (by decide)⟩
theorem PSt.later (h : PSt w o W a b room ss fr v th i) : PSt w o W a b room ss fr v th (i + 1) := ⟨h.ar, h.rf, h.tl, h.inv.later, by have := h.thl; omega, h.lw⟩
end

set_option maxHeartbeats 25600000 in
set_option maxRecDepth 100000 in
theorem ArenaPlays_ret (room : Int) (A : Option Addr) (c : Nat) (l : List Actt) (w : World) (h1 : fitB room = true) (hlc : l.length ≤ c) (hc : c ≤ 9223372036854775807) (hrd : RdAct w A l) :
    Calls Try.prog 4 #[.int .i64 room, .slice A l.length c] w (RetB (.bool true) w) := by
  obtain ⟨j0, hj0, hz0, hz1, hz2⟩ := info_parts Try.infoHandle
  have A0 := Lib.hid awake_any
  clear h1
  obtain ⟨N, hN⟩ : ∃ N : Nat, l.length = N := ⟨_, rfl⟩
  rw [hN] at hlc ⊢
  have Z := Lib.hid (And.intro hN hrd)
  clear hN hrd
  go_enter Try.func4, Try.ntmps4
  go_wp2_with fail
  refine (A0.out _).mono ?_; rintro e b0w ⟨rfl, b0⟩
  by_cases k1 : room < 1 ∨ room > 1000
  · as_aux_lemma =>
      go_wp2_with fail
      refine (new_bad_s _ room (by omega)).mono ?_
      rintro e w1 ⟨rfl, rfl⟩
      rcases k1 with k1 | k1
      · go_wp2
        go_ret
        exact ⟨rfl, by have s0 := b0.size; (try simp only [World.heap_drewN, World.size_alloc] at s0); repeat (first | exact Below.refl _ _ | exact b0 | refine Below.trans ?_ (Below.mono b0 (by first | omega | (simp; done) | (simp; omega))) | refine Below.setCell ?_ (by first | omega | (simp; done) | (simp; omega)) _ | refine below_dN ?_ _ | refine Below.drew ?_ | refine Below.alloc ?_ (by first | omega | (simp; done) | (simp; omega)) _)⟩
      · have k2 : decide (room < 1) = false := decide_eq_false (by omega)
        go_wp2
        go_ret
        exact ⟨rfl, by have s0 := b0.size; (try simp only [World.heap_drewN, World.size_alloc] at s0); repeat (first | exact Below.refl _ _ | exact b0 | refine Below.trans ?_ (Below.mono b0 (by first | omega | (simp; done) | (simp; omega))) | refine Below.setCell ?_ (by first | omega | (simp; done) | (simp; omega)) _ | refine below_dN ?_ _ | refine Below.drew ?_ | refine Below.alloc ?_ (by first | omega | (simp; done) | (simp; omega)) _)⟩
  obtain ⟨n, rfl⟩ : ∃ n : Nat, room = n := ⟨room.toNat, by omega⟩
  have k1' : decide ((n : Int) < 1) = false := decide_eq_false (by omega)
  have k2' : decide ((n : Int) > 1000) = false := decide_eq_false (by omega)
  go_wp2_with fail
  refine (new_s (fun _ => 0) 1 _ n (by omega) (by omega)).mono ?_
  rintro e w1 ⟨rfl, o1, vs1, vf1, s1, h1⟩
  have l1 := ((Lw.start w).on b0).step s1 (by decide)
  by_cases k3 : (N : Int) > 80
  · as_aux_lemma =>
      replace l1 := Lib.hid l1
      clear h1 s1 b0
      go_wp2
      go_ret
      exact ⟨rfl, l1.out.below⟩
  have k3' : decide ((N : Int) > 80) = false := decide_eq_false k3
  clear b0 s1
  generalize b0w.heap.size = a at *
  go_wp2
  have P0 := PSt.start w h1 l1
  generalize w1.heap.size = b at *
  generalize tag o1 b 2 = o2 at *
  generalize (w1.alloc (.cells #[.int .i64 (n : Int), .slice none 0 0, .slice none 0 0, .slice none 0 0, .slice none 0 0] 48)) = w2 at *
  clear h1 l1
  have k4 : N ≤ 80 := by omega
  have k5 : 1 ≤ n := by omega
  have k6 : n ≤ 1000 := by omega
  go_loopw [8, 9] (fun v st wr => ∃ (i : Nat) (o : Nat → Nat) (ss : List (ByteArray × Int × Bool)) (fr : List Nat) (th : List (Nat × Int)), st = .int .i64 (i : Int) ∧ i ≤ N ∧ PSt w o wr a b n ss fr v th i) (fun _ st _ => N - (intOf st).toNat)
  case atStart => exact ⟨0, o2, [], [], [], rfl, by omega, P0⟩
  case round =>
    obtain ⟨i, o, ss, fr, th, rfl, hi, P⟩ := hrel
    clear P0
    rcases Nat.lt_or_ge i N with hlt | hge
    · obtain ⟨⟨xo, xn, xs, xg, xv⟩, hx⟩ : ∃ x, l[i]? = some x := ⟨_, List.getElem?_eq_getElem (by rw [Z.out.1]; exact hlt)⟩
      obtain ⟨bl, off, rfl, q0, q1, q2, q3, q4⟩ := Z.out.2 i _ hx
      have qb : bl < w.heap.size := World.block_lt_of_cell? _ _ q0
      have q0 : wr.cell? ⟨bl, off + i * 5, none⟩ = some (.int .i64 xo) := (P.lw.below.cell (p := ⟨bl, _, none⟩) qb).trans q0
      have q1 : wr.cell? ⟨bl, off + i * 5 + 1, none⟩ = some (.int .i64 xn) := (P.lw.below.cell (p := ⟨bl, _, none⟩) qb).trans q1
      have q2 : wr.cell? ⟨bl, off + i * 5 + 2, none⟩ = some (.int .i64 xs) := (P.lw.below.cell (p := ⟨bl, _, none⟩) qb).trans q2
      have q3 : wr.cell? ⟨bl, off + i * 5 + 3, none⟩ = some (.int .i64 xg) := (P.lw.below.cell (p := ⟨bl, _, none⟩) qb).trans q3
      have q4 : wr.cell? ⟨bl, off + i * 5 + 4, none⟩ = some (.string xv) := (P.lw.below.cell (p := ⟨bl, _, none⟩) qb).trans q4
      have P1 := (P.alloc (.cells #[.int .i64 xo, .int .i64 xn, .int .i64 xs, .int .i64 xg, .string xv] 50) 4).alloc (.cells #[.int .i64 xs, .int .i64 xg] 28) 4
      have BX := (Blk.made o 4 wr #[.int .i64 xo, .int .i64 xn, .int .i64 xs, .int .i64 xg, .string xv] 50).alloc (.cells #[.int .i64 xs, .int .i64 xg] 28) 4
      have BH := Blk.made (tag o wr.heap.size 4) 4 (wr.alloc (.cells #[.int .i64 xo, .int .i64 xn, .int .i64 xs, .int .i64 xg, .string xv] 50)) #[.int .i64 xs, .int .i64 xg] 28
      have hthl := P.thl
      obtain ⟨At, ct, rfl⟩ := P.tl.any
      have F := Lib.hid (And.intro P1 (And.intro BX BH))
      clear P P1 BX BH
      go_upto_region 15 with (fail)
      obtain ⟨P1, BX, BH⟩ := F.out
      have hsz : (wr.alloc (.cells #[.int .i64 xo, .int .i64 xn, .int .i64 xs, .int .i64 xg, .string xv] 50)).heap.size = wr.heap.size + 1 := by simp
      rw [hsz] at P1 BX BH
      generalize tag (tag o wr.heap.size 4) (wr.heap.size + 1) 4 = oA at *
      generalize ((wr.alloc (.cells #[.int .i64 xo, .int .i64 xn, .int .i64 xs, .int .i64 xg, .string xv] 50)).alloc (.cells #[.int .i64 xs, .int .i64 xg] 28)) = wA at *
      generalize hX : wr.heap.size = X at *
      generalize hH : X + 1 = H at *
      clear q0 q1 q2 q3 q4 F hsz
      have x1 : wA.cell? ⟨X, 1, none⟩ = some (.int .i64 xn) := by rw [BX.cell]; rfl
      have F := Lib.hid (And.intro P1 (And.intro BX BH))
      clear P1 BX BH
      go_cut [86] (fun t wx => t = .bool (decide (0 ≤ xn ∧ xn < (th.length : Int))) ∧ wx = wA)
      case first =>
        -- DONE test
        as_aux_lemma =>
          by_cases c1 : 0 ≤ xn
          · by_cases c2 : xn < (th.length : Int)
            · have c3 : decide (0 ≤ xn ∧ xn < (th.length : Int)) = true := decide_eq_true ⟨c1, c2⟩
              go_wp2
              go_meet
              exact ⟨by rw [c3], rfl⟩
            · have c3 : decide (0 ≤ xn ∧ xn < (th.length : Int)) = false := decide_eq_false (fun h => c2 h.2)
              have c2' : decide (xn < (th.length : Int)) = false := decide_eq_false c2
              go_wp2
              go_meet
              exact ⟨by rw [c3], rfl⟩
          · have c3 : decide (0 ≤ xn ∧ xn < (th.length : Int)) = false := decide_eq_false (fun h => c1 h.1)
            have c1' : decide (xn ≥ 0) = false := decide_eq_false c1
            go_wp2
            go_meet
            exact ⟨by rw [c3], rfl⟩
        -- END test
      case rest =>
        obtain ⟨rfl, rfl⟩ := hcut
        go_upto_if 86 with (fail)
        go_cut [] (fun wx => ∃ (o' : Nat → Nat) (hs hg : Int), PSt w o' wx a b n ss fr (.slice At th.length ct) th i ∧ Blk o' 4 wx X #[.int .i64 xo, .int .i64 xn, .int .i64 xs, .int .i64 xg, .string xv] 50 ∧ Blk o' 4 wx H #[.int .i64 hs, .int .i64 hg] 28)
        case first =>
          -- DONE told
          as_aux_lemma =>
            by_cases c : 0 ≤ xn ∧ xn < (th.length : Int)
            · have c3 : decide (0 ≤ xn ∧ xn < (th.length : Int)) = true := decide_eq_true c
              obtain ⟨P1, BX, BH⟩ := F.out
              obtain ⟨k, rfl⟩ : ∃ k : Nat, xn = k := ⟨xn.toNat, by omega⟩
              obtain ⟨⟨p, g⟩, hpg⟩ : ∃ q, th[k]? = some q := ⟨_, List.getElem?_eq_getElem (by omega)⟩
              obtain ⟨gr, cap, hv, hc1, hc2, hog, hgl⟩ := P1.tl.form (by omega)
              cases hv
              have q := hCells_get th k _ hpg
              have d0 : wc.cell? ⟨gr, k * 2, none⟩ = some (.int .i64 (p : Int)) := by rw [P1.tl.cellAt _ (by omega)]; exact q.1
              have d1 : wc.cell? ⟨gr, k * 2 + 1, none⟩ = some (.int .i64 g) := by rw [P1.tl.cellAt _ (by omega)]; exact q.2
              have y0 : wc.cell? ⟨H, 0, none⟩ = some (.int .i64 xs) := by rw [BH.cell]; rfl
              have y1 : wc.cell? ⟨H, 1, none⟩ = some (.int .i64 xg) := by rw [BH.cell]; rfl
              have yf : ∀ j, wc.frozen? ⟨H, j, none⟩ = false := fun j => BH.frozen j
              have kl : (k : Int) < (th.length : Int) := c.2
              unfold maxLen at hc2
              have st := ((Step.refl oA 4 wc).setCell (p := ⟨H, 0, none⟩) (.inr BH.mine) (.int .i64 (p : Int))).setCell (p := ⟨H, 1, none⟩) (.inr BH.mine) (.int .i64 g)
              have hXH : X ≠ H := by omega
              have G := Lib.hid (And.intro (P1.step st rfl) (And.intro ((BX.other (p := ⟨H, 0, none⟩) hXH (.int .i64 (p : Int))).other (p := ⟨H, 1, none⟩) hXH (.int .i64 g)) ((BH.set 0 (.int .i64 (p : Int))).set 1 (.int .i64 g))))
              clear P1 BX BH st q F
              go_wp2
              go_meet
              exact ⟨oA, p, g, G.out.1, G.out.2.1, G.out.2.2⟩
            · have c3 : decide (0 ≤ xn ∧ xn < (th.length : Int)) = false := decide_eq_false c
              go_wp2
              go_meet
              exact ⟨oA, xs, xg, F.out.1, F.out.2.1, F.out.2.2⟩
          -- END told
        case rest =>
          obtain ⟨oB, hs, hg, P1, BX, BH⟩ := hcut
          clear F x1
          have x0 : wc.cell? ⟨X, 0, none⟩ = some (.int .i64 xo) := by rw [BX.cell]; rfl
          have x4 : wc.cell? ⟨X, 4, none⟩ = some (.string xv) := by rw [BX.cell]; rfl
          have F := Lib.hid (And.intro P1 (And.intro BX BH))
          clear P1 BX BH
          go_upto_region 18 with (fail)
          rename_i hK0
          go_cut [93] (fun t wx => t = .int .i64 xo ∧ wx = wc)
          case first =>
            go_wp2
            go_meet
            exact ⟨rfl, rfl⟩
          case rest =>
            obtain ⟨rfl, rfl⟩ := hcut
            refine hK0 _ _ ?_
            clear hK0
            go_cut [8, 12] (fun v' ok wx => ok = .bool true ∧ ∃ (o' : Nat → Nat) (ss' : List (ByteArray × Int × Bool)) (fr' : List Nat) (th' : List (Nat × Int)), PSt w o' wx a b n ss' fr' v' th' (i + 1))
            case first =>
              obtain ⟨P1, BX, BH⟩ := F.out
              have x0 : wc.cell? ⟨X, 0, none⟩ = some (.int .i64 xo) := by rw [BX.cell]; rfl
              have x4 : wc.cell? ⟨X, 4, none⟩ = some (.string xv) := by rw [BX.cell]; rfl
              have y0 : wc.cell? ⟨H, 0, none⟩ = some (.int .i64 hs) := by rw [BH.cell]; rfl
              have y1 : wc.cell? ⟨H, 1, none⟩ = some (.int .i64 hg) := by rw [BH.cell]; rfl
              have hinv := P1.inv
              have hthl := P1.thl
              replace F := Lib.hid (And.intro P1 (And.intro BX BH))
              clear P1 BX BH
              by_cases o0 : xo = 0
              · as_aux_lemma =>
                  subst o0
                  by_cases hfull : fr = [] ∧ ss.length = n
                  · obtain ⟨rfl, hsn⟩ := hfull
                    obtain ⟨C1, C2⟩ := plays_full (a := a) (b := b) xv hsn k6
                    replace C2 := Lib.hid C2
                    replace C1 := Lib.hid (C1 oB _ F.out.1.ar)
                    clear hinv
                    go_wp2_with fail
                    refine C1.out.mono ?_
                    rintro e w3 ⟨rfl, o3, st3, hA3⟩
                    obtain ⟨P1, BX, BH⟩ := F.out
                    have P3 := (P1.stepA st3 hA3).alloc (.cells #[.int .i64 0, .int .i64 0] 28) 4
                    have X3 := (BX.step st3 (by decide)).alloc (.cells #[.int .i64 0, .int .i64 0] 28) 4
                    have B3 := Blk.made o3 4 w3 #[.int .i64 0, .int .i64 0] 28
                    have x4 : (w3.alloc (.cells #[.int .i64 0, .int .i64 0] 28)).cell? ⟨X, 4, none⟩ = some (.string xv) := by rw [X3.cell]; rfl
                    replace C2 := Lib.hid (C2.out _ _ P3.rf)
                    have G := Lib.hid (And.intro P3 B3)
                    clear C1 F P1 BX BH st3 hA3 P3 X3 B3 x0 y0 y1
                    go_wp2_with fail
                    refine C2.out.mono ?_
                    rintro e w4 ⟨rfl, o4, st4, hR4⟩
                    obtain ⟨P3, B3⟩ := G.out
                    have P4 := Lib.hid (P3.stepR st4 hR4)
                    have B4 := B3.step st4 (by decide)
                    have z0 : w4.cell? ⟨w3.heap.size, 0, none⟩ = some (.int .i64 0) := by rw [B4.cell]; rfl
                    have z1 : w4.cell? ⟨w3.heap.size, 1, none⟩ = some (.int .i64 0) := by rw [B4.cell]; rfl
                    clear C2 G P3 B3 st4 hR4 B4 x4
                    go_wp2
                    go_meet
                    exact ⟨rfl, o4, _, _, th, P4.out.later⟩
                  · obtain ⟨p, g, ss2, fr2, hI2, C1, C2⟩ := plays_put (a := a) (b := b) xv hinv k6 (by omega) hfull
                    replace C2 := Lib.hid C2
                    replace C1 := Lib.hid (C1 oB _ F.out.1.ar)
                    clear hinv
                    replace hI2 := Lib.hid hI2
                    go_wp2_with fail
                    refine C1.out.mono ?_
                    rintro e w3 ⟨rfl, o3, st3, hA3⟩
                    obtain ⟨P1, BX, BH⟩ := F.out
                    have hA := InA.alloc hA3 (.cells #[.int .i64 (p : Int), .int .i64 g] 28) 4
                    have hR := InR.alloc (InR.step P1.rf st3 (by decide)) (.cells #[.int .i64 (p : Int), .int .i64 g] 28) 4
                    have tl := (P1.tl.step st3 (by decide)).alloc (.cells #[.int .i64 (p : Int), .int .i64 g] 28) 4
                    have lw := (P1.lw.step st3 (by decide)).alloc (.cells #[.int .i64 (p : Int), .int .i64 g] 28) 4
                    have X3 := (BX.step st3 (by decide)).alloc (.cells #[.int .i64 (p : Int), .int .i64 g] 28) 4
                    have B3 := Blk.made o3 4 w3 #[.int .i64 (p : Int), .int .i64 g] 28
                    have x4 : (w3.alloc (.cells #[.int .i64 (p : Int), .int .i64 g] 28)).cell? ⟨X, 4, none⟩ = some (.string xv) := by rw [X3.cell]; rfl
                    replace C2 := Lib.hid (C2.out _ _ hR)
                    have G := Lib.hid (And.intro hA (And.intro tl (And.intro lw B3)))
                    clear C1 F P1 BX BH st3 hA3 hA hR tl lw X3 B3 x0 y0 y1
                    go_wp2_with fail
                    refine C2.out.mono ?_
                    rintro e w4 ⟨rfl, o4, st4, hR4⟩
                    obtain ⟨hA, tl, lw, B3⟩ := G.out
                    have B4 := B3.step st4 (by decide)
                    have z0 : w4.cell? ⟨w3.heap.size, 0, none⟩ = some (.int .i64 (p : Int)) := by rw [B4.cell]; rfl
                    have z1 : w4.cell? ⟨w3.heap.size, 1, none⟩ = some (.int .i64 g) := by rw [B4.cell]; rfl
                    have hA5 := InA.alloc (InA.step hA st4 (by decide)) (.cells #[.int .i64 (p : Int), .int .i64 g] 28) 4
                    have hR5 := InR.alloc hR4 (.cells #[.int .i64 (p : Int), .int .i64 g] 28) 4
                    have tl5 := (tl.step st4 (by decide)).alloc (.cells #[.int .i64 (p : Int), .int .i64 g] 28) 4
                    have lw5 := (lw.step st4 (by decide)).alloc (.cells #[.int .i64 (p : Int), .int .i64 g] 28) 4
                    have K5 := Lib.hid (And.intro hA5 (And.intro hR5 (And.intro tl5 lw5)))
                    clear C2 G hA tl lw B3 st4 hR4 B4 x4 hA5 hR5 tl5 lw5
                    go_wp2_with (at_builtin; refine wpList_append_own_at _ rfl (.tmp 138) (.tmp 140) 36 rfl 0 28 j0 (.agg #[.int .i64 0, .int .i64 0]) 2 16 Try.underlying36 hj0 hz0 hz1 hz2 rfl (by decide) _ _ _ rfl (K5.out.2.2.1.own) ⟨w4.heap.size, 0, none⟩ 1 1 [.int .i64 (p : Int), .int .i64 g] rfl rfl (news_two _ _ _ _) (two_ints _ _) (by unfold maxLen; omega) (by omega) (Nat.zero_le _) ?_)
                    intro v6 w6 hown6 hgrow6 _ hloc6
                    obtain ⟨hA5, hR5, tl5, lw5⟩ := K5.out
                    have s6 := (Step.refl _ 3 _).grown hgrow6 (fun k hk => .inr (tl5.mine k hk)) 3
                    have r6 := tl5.appended hown6 (by simpa using hloc6)
                    have e6 : hCells th ++ [.int .i64 (p : Int), .int .i64 g] = hCells (th ++ [(p, g)]) := by rw [hCells_append, hCells_one]
                    rw [e6] at r6
                    have Q6 := Lib.hid (PSt.mk (InA.step hA5 s6 (by decide)) (InR.step hR5 s6 (by decide)) (by rw [List.length_append]; exact r6 : Row _ 3 _ 28 2 v6 (th ++ [(p, g)]).length _) hI2.out (by simp; omega) (lw5.step s6 (by decide)))
                    clear hA5 hR5 tl5 lw5 s6 r6 e6 hown6 hgrow6 hloc6 K5
                    go_wp2
                    go_meet
                    exact ⟨rfl, _, ss2, fr2, th ++ [(p, g)], Q6.out⟩
              · by_cases o1 : xo = 1
                · as_aux_lemma =>
                    subst o1
                    obtain ⟨x, ce, C1, C2⟩ := plays_get (a := a) (b := b) hs hg hinv k6
                    replace C2 := Lib.hid C2
                    replace C1 := Lib.hid (C1 oB _ F.out.1.ar)
                    clear hinv
                    go_wp2_with fail
                    refine C1.out.mono ?_
                    rintro e w3 ⟨rfl, o3, st3, hA3⟩
                    obtain ⟨P1, BX, BH⟩ := F.out
                    have P3 := P1.stepA st3 hA3
                    have H3 := BH.step st3 (by decide)
                    have y0 : w3.cell? ⟨H, 0, none⟩ = some (.int .i64 hs) := by rw [H3.cell]; rfl
                    have y1 : w3.cell? ⟨H, 1, none⟩ = some (.int .i64 hg) := by rw [H3.cell]; rfl
                    replace C2 := Lib.hid (C2.out _ _ P3.rf)
                    replace P3 := Lib.hid P3
                    clear C1 F P1 BX BH st3 hA3 H3 x0 x4
                    go_wp2_with fail
                    refine C2.out.mono ?_
                    rintro e w4 ⟨rfl, o4, st4, hR4⟩
                    have P4 := Lib.hid (P3.out.stepR st4 hR4)
                    clear C2 P3 st4 hR4 y0 y1
                    go_wp2
                    go_meet
                    exact ⟨rfl, o4, _, _, th, P4.out.later⟩
                · by_cases o2' : xo = 2
                  · as_aux_lemma =>
                      have u0 : (xo == 0) = false := by simp [o0]
                      have u1 : (xo == 1) = false := by simp [o1]
                      have u2 : (xo == 2) = true := by simp [o2']
                      clear o2'
                      obtain ⟨ce, ss2, hI2, C1, C2⟩ := plays_set (a := a) (b := b) hs hg xv hinv k6
                      replace C2 := Lib.hid C2
                      replace C1 := Lib.hid C1
                      replace hI2 := Lib.hid hI2
                      obtain ⟨P1, BX, BH⟩ := F.out
                      have sd := (Step.refl oB 4 wc).drew
                      have D := Lib.hid (And.intro (P1.step sd rfl) (And.intro (⟨BX.at_, BX.mine⟩ : Blk oB 4 wc.drew X #[.int .i64 xo, .int .i64 xn, .int .i64 xs, .int .i64 xg, .string xv] 50) (⟨BH.at_, BH.mine⟩ : Blk oB 4 wc.drew H #[.int .i64 hs, .int .i64 hg] 28)))
                      clear hinv P1 BX BH sd F
                      go_wp2_with fail
                      go_region_held3 (fun w' => w'.cell? ⟨X, 4, none⟩ = some (.string xv) ∧ w'.cell? ⟨H, 0, none⟩ = some (.int .i64 hs) ∧ w'.cell? ⟨H, 1, none⟩ = some (.int .i64 hg))
                        (first | exact ⟨by rw [((D.out.2.1.step st3 (by decide)).step st4 (by decide)).cell]; rfl, by rw [((D.out.2.2.step st3 (by decide)).step st4 (by decide)).cell]; rfl, by rw [((D.out.2.2.step st3 (by decide)).step st4 (by decide)).cell]; rfl⟩ | exact ⟨by rw [(D.out.2.1.step st3 (by decide)).cell]; rfl, by rw [(D.out.2.2.step st3 (by decide)).cell]; rfl, by rw [(D.out.2.2.step st3 (by decide)).cell]; rfl⟩ | exact ⟨by rw [D.out.2.1.cell]; rfl, by rw [D.out.2.2.cell]; rfl, by rw [D.out.2.2.cell]; rfl⟩)
                        (first
                          | (go_at_call 21; refine (C1.out oB _ D.out.1.ar).mono ?_; rintro e w3 ⟨rfl, o3, st3, hA3⟩)
                          | (go_at_call 22; refine (C2.out o3 _ (InR.step D.out.1.rf st3 (by decide))).mono ?_; rintro e w4 ⟨rfl, o4, st4, hR4⟩))
                      have Q6 := Lib.hid (PSt.mk (InA.step hA3 st4 (by decide)) hR4 ((D.out.1.tl.step st3 (by decide)).step st4 (by decide)) hI2.out (Nat.le_succ_of_le D.out.1.thl) ((D.out.1.lw.step st3 (by decide)).step st4 (by decide)))
                      clear C1 C2 hI2 D st3 hA3 st4 hR4 x0 x4 y0 y1
                      go_wp2
                      go_meet
                      exact ⟨rfl, o4, ss2, fr, th, Q6.out⟩
                  · as_aux_lemma =>
                      have u0 : (xo == 0) = false := by simp [o0]
                      have u1 : (xo == 1) = false := by simp [o1]
                      have u2 : (xo == 2) = false := by simp [o2']
                      obtain ⟨ce, ss2, fr2, hI2, C1, C2⟩ := plays_free (a := a) (b := b) hs hg hinv k6
                      replace C2 := Lib.hid C2
                      replace C1 := Lib.hid C1
                      replace hI2 := Lib.hid hI2
                      obtain ⟨P1, BX, BH⟩ := F.out
                      have sd := (Step.refl oB 4 wc).drew
                      have D := Lib.hid (And.intro (P1.step sd rfl) (And.intro (⟨BX.at_, BX.mine⟩ : Blk oB 4 wc.drew X #[.int .i64 xo, .int .i64 xn, .int .i64 xs, .int .i64 xg, .string xv] 50) (⟨BH.at_, BH.mine⟩ : Blk oB 4 wc.drew H #[.int .i64 hs, .int .i64 hg] 28)))
                      clear hinv P1 BX BH sd F
                      go_wp2_with fail
                      go_region_held3 (fun w' => w'.cell? ⟨X, 4, none⟩ = some (.string xv) ∧ w'.cell? ⟨H, 0, none⟩ = some (.int .i64 hs) ∧ w'.cell? ⟨H, 1, none⟩ = some (.int .i64 hg))
                        (first | exact ⟨by rw [((D.out.2.1.step st3 (by decide)).step st4 (by decide)).cell]; rfl, by rw [((D.out.2.2.step st3 (by decide)).step st4 (by decide)).cell]; rfl, by rw [((D.out.2.2.step st3 (by decide)).step st4 (by decide)).cell]; rfl⟩ | exact ⟨by rw [(D.out.2.1.step st3 (by decide)).cell]; rfl, by rw [(D.out.2.2.step st3 (by decide)).cell]; rfl, by rw [(D.out.2.2.step st3 (by decide)).cell]; rfl⟩ | exact ⟨by rw [D.out.2.1.cell]; rfl, by rw [D.out.2.2.cell]; rfl, by rw [D.out.2.2.cell]; rfl⟩)
                        (first
                          | (go_at_call 23; refine (C1.out oB _ D.out.1.ar).mono ?_; rintro e w3 ⟨rfl, o3, st3, hA3⟩)
                          | (go_at_call 24; refine (C2.out o3 _ (InR.step D.out.1.rf st3 (by decide))).mono ?_; rintro e w4 ⟨rfl, o4, st4, hR4⟩))
                      have Q6 := Lib.hid (PSt.mk (InA.step hA3 st4 (by decide)) hR4 ((D.out.1.tl.step st3 (by decide)).step st4 (by decide)) hI2.out (Nat.le_succ_of_le D.out.1.thl) ((D.out.1.lw.step st3 (by decide)).step st4 (by decide)))
                      clear C1 C2 hI2 D st3 hA3 st4 hR4 x0 x4 y0 y1
                      go_wp2
                      go_meet
                      exact ⟨rfl, o4, ss2, fr2, th, Q6.out⟩
            case rest =>
              -- DONE tail
              as_aux_lemma =>
                obtain ⟨rfl, o3, ss2, fr2, th2, P3⟩ := hcut
                clear F x0 x4
                have hle2 : ss2.length ≤ 1000 := by have := P3.inv.le; omega
                obtain ⟨vi3, vg3, vv3, vf3, hR3⟩ := P3.rf
                have C1 := Lib.hid (rall hR3 hle2)
                replace P3 := Lib.hid P3
                clear hR3
                go_wp2_with fail
                refine C1.out.mono ?_
                rintro e w4 ⟨v1, v2, rfl, O1, O2, b4⟩
                have P4 := P3.out.on b4
                obtain ⟨m, hm⟩ : ∃ m, (allFrom 0 ss2).length = m := ⟨_, rfl⟩
                rw [hm] at O1 O2
                obtain ⟨A1, c1, rfl⟩ := own_any O1
                obtain ⟨A2, c2, rfl⟩ := own_any O2
                have hcnt := P4.inv.cnt
                rw [hm] at hcnt
                obtain ⟨vs4, vfa4, hA4⟩ := P4.ar
                have C2 := all_s m hA4 hcnt hle2
                rw [hm] at C2
                replace C2 := Lib.hid C2
                have F4 := Lib.hid (And.intro P4 (And.intro O1 O2))
                clear C1 P3 O1 O2 b4 P4 hA4
                go_wp2_with fail
                refine C2.out.mono ?_
                rintro e w5 ⟨v3, rfl, O3, b5⟩
                obtain ⟨P4, O1, O2⟩ := F4.out
                obtain ⟨A3, c3, rfl⟩ := own_any O3
                have P5 := P4.on b5
                replace O1 := own_same O1 (w' := w5) (fun k hk => b5.block k (O1.lt k hk).2)
                replace O2 := own_same O2 (w' := w5) (fun k hk => b5.block k (O2.lt k hk).2)
                obtain ⟨vs5, vfa5, hA5⟩ := P5.ar
                have C3 := Lib.hid (len_s m hA5 hcnt hle2)
                have F5 := Lib.hid (And.intro P5 (And.intro O1 (And.intro O2 O3)))
                clear C2 F4 P4 O1 O2 O3 b5 P5 hA5
                go_wp2_with fail
                refine C3.out.mono ?_
                rintro e w' ⟨rfl, nl, rfl⟩
                clear C3
                go_wp2
                have hm80 : m ≤ 1000 := by omega
                replace hm := Lib.hid hm
                go_loopw [25] (fun st wq => ∃ (k : Nat) (nd : Nat), st = .int .i64 (k : Int) ∧ k ≤ m ∧ wq = w5.drewN nd) (fun st _ => m - (intOf st).toNat)
                case atStart => exact ⟨0, nl, rfl, by omega, rfl⟩
                case round =>
                  obtain ⟨k, nd, rfl, hk, rfl⟩ := hrel
                  rcases Nat.lt_or_ge k m with hkm | hkm
                  · obtain ⟨P5, O1, O2, O3⟩ := F5.out
                    obtain ⟨⟨p, g⟩, hpg⟩ : ∃ q, (allFrom 0 ss2)[k]? = some q := ⟨_, List.getElem?_eq_getElem (by rw [hm.out]; exact hkm)⟩
                    obtain ⟨g1, d1, h1, l1, m1⟩ := own_form O1 (by omega)
                    obtain ⟨g2, d2, h2, l2, m2⟩ := own_form O2 (by omega)
                    obtain ⟨g3, d3, h3, l3, m3⟩ := own_form O3 (by omega)
                    cases h1; cases h2; cases h3
                    have q := hCells_get _ k _ hpg
                    have e1 : w5.cell? ⟨g1, k, none⟩ = some (.int .i64 (p : Int)) := by rw [O1.cellAt k (by omega)]; simp [slotC, hpg]
                    have e2 : w5.cell? ⟨g2, k, none⟩ = some (.int .i64 g) := by rw [O2.cellAt k (by omega)]; simp [genC, hpg]
                    have e3 : w5.cell? ⟨g3, k * 2, none⟩ = some (.int .i64 (p : Int)) := by rw [O3.cellAt _ (by omega)]; exact q.1
                    have e4 : w5.cell? ⟨g3, k * 2 + 1, none⟩ = some (.int .i64 g) := by rw [O3.cellAt _ (by omega)]; exact q.2
                    have i0 : (0 : Int) ≤ (k : Int) := by omega
                    have i1 : (k : Int) < (m : Int) := by omega
                    unfold maxLen at m1 m2 m3
                    clear P5 O1 O2 O3 q
                    go_wp2
                    go_quiet (fail)
                    go_wp2
                    go_roundw
                    case rel => exact ⟨k + 1, _, by simp, by omega, by first | rfl | (simp only [drewN_two]; rfl)⟩
                    case measure => simp [intOf]; omega
                  · obtain rfl : m = k := by omega
                    have P6 := Lib.hid (F5.out.1.on (below_dN (Below.refl _ w5) nd))
                    clear F5
                    go_wp2
                    go_roundw
                    case rel =>
                      first
                        | exact ⟨i + 1, o3, ss2, fr2, th2, by simp, by omega, P6.out⟩
                        | ((repeat apply Exists.intro); exact ⟨⟨i + 1, o3, ss2, fr2, th2, by simp, by omega, P6.out⟩, rfl⟩)
                    case measure => simp [intOf]; omega
              -- END tail
    · as_aux_lemma =>
        have L := Lib.hid P.lw
        clear P
        obtain rfl : N = i := by omega
        go_wp2
        go_ret
        exact ⟨rfl, L.out.below⟩
end Go.Proofs.Ytenokhdfbomkkaa
