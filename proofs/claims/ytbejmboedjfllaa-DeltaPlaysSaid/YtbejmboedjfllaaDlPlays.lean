/- DeltaPlays: any calls answer as the document says. -/
import Derived.Test.YtbejmboedjfllaaDlRtick
import Derived.Test.YtbejmboedjfllaaDlAwake
import Derived.Test.YtbejmboedjfllaaDlActs
import Derived.Deep.DeepCutAuto
namespace Go.Proofs.Ytbejmboedjfllaa
open Go.RowKit
set_option linter.unusedVariables false
set_option linter.unusedSimpArgs false

/-- Both queues in one state; the law on its way. -/
structure Ds (w : World) (o : Nat → Nat) (W : World) (a b room now : Nat) (l : List Tm) : Prop where
  qu : ∃ v, Qu o 1 W a room now v l
  rf : ∃ v, Rq o 2 W b room now v l
  inv : QInv room now l
  lw : Lw w o W
section
variable {w W W' : World} {o o' : Nat → Nat} {a b room now now' τ : Nat} {l L : List Tm}
theorem Ds.alloc (h : Ds w o W a b room now l) (x : Obj) (τ : Nat) : Ds w (tag o W.heap.size τ) (W.alloc x) a b room now l := by
  obtain ⟨⟨v, h1⟩, ⟨u, h2⟩, h3, h4⟩ := h
  exact ⟨⟨v, h1.alloc x τ⟩, ⟨u, h2.alloc x τ⟩, h3, h4.alloc x τ⟩
theorem Ds.on (h : Ds w o W a b room now l) (hb : Below W.heap.size W W') : Ds w o W' a b room now l := by
  obtain ⟨⟨v, h1⟩, ⟨u, h2⟩, h3, h4⟩ := h
  exact ⟨⟨v, h1.below hb⟩, ⟨u, h2.below hb⟩, h3, h4.on hb⟩
theorem Ds.start (w : World) {v : Value} (h : Qu o 1 W a room 0 v []) (l : Lw w o W) (h1 : 1 ≤ room) (h2 : room ≤ 1000) : Ds w (tag o W.heap.size 2) (W.alloc (.cells #[.int .i64 (room : Int), .int .i64 0, .slice none 0 0] 38)) a W.heap.size room 0 [] :=
  ⟨⟨v, h.alloc _ 2⟩, ⟨_, Blk.made o 2 W _ _, Row.nil _ _ _ _ _⟩, QInv.start h1 h2, l.alloc _ 2⟩
/-- Behind a call on the program's queue and then one on the document's. -/
theorem Ds.both {o1 o2 : Nat → Nat} {W1 W2 : World} (h : Ds w o W a b room now l) (st1 : Step o o1 1 W W1) (h1 : ∃ v, Qu o1 1 W1 a room now' v L) (st2 : Step o1 o2 2 W1 W2) (h2 : ∃ v, Rq o2 2 W2 b room now' v L) (hi : QInv room now' L) : Ds w o2 W2 a b room now' L := by
  obtain ⟨v1, h1⟩ := h1
  exact ⟨⟨v1, h1.step st2 (by decide)⟩, h2, hi, (h.lw.step st1 (by decide)).step st2 (by decide)⟩
end
set_option maxHeartbeats 25600000 in
set_option maxRecDepth 100000 in
theorem DeltaPlays_ret (room : Int) (A : Option Addr) (c : Nat) (l : List ActD) (ask : Int) (w : World) (h1 : fitB room = true) (hlc : l.length ≤ c) (hc : c ≤ 9223372036854775807) (hrd : RdActD w A l) (h2 : fitB ask = true) :
    Calls Try.prog 4 #[.int .i64 room, .slice A l.length c, .int .i64 ask] w (RetB (.bool true) w) := by
  have A0 := Lib.hid awake_any
  clear h1 h2
  obtain ⟨N, hN⟩ : ∃ N : Nat, l.length = N := ⟨_, rfl⟩
  rw [hN] at hlc ⊢
  have Z := Lib.hid (And.intro hN hrd)
  clear hN hrd
  go_enter Try.func4, Try.ntmps4
  go_wp2_with fail
  refine (A0.out _).mono ?_; rintro e b0w ⟨rfl, b0⟩
  by_cases k1 : room < 1 ∨ room > 1000
  · as_aux_lemma =>
      go_wp2_with fail
      refine (qnew_bad _ room (by omega)).mono ?_
      rintro e w1 ⟨rfl, rfl⟩
      rcases k1 with k1 | k1
      · go_wp2
        go_ret
        exact ⟨rfl, by have s0 := b0.size; (try simp only [World.heap_drewN, World.size_alloc] at s0); repeat (first | exact Below.refl _ _ | exact b0 | refine Below.trans ?_ (Below.mono b0 (by first | omega | (simp; done) | (simp; omega))) | refine Below.setCell ?_ (by first | omega | (simp; done) | (simp; omega)) _ | refine below_dN ?_ _ | refine Below.drew ?_ | refine Below.alloc ?_ (by first | omega | (simp; done) | (simp; omega)) _)⟩
      · have k2 : decide (room < 1) = false := decide_eq_false (by omega)
        go_wp2
        go_ret
        exact ⟨rfl, by have s0 := b0.size; (try simp only [World.heap_drewN, World.size_alloc] at s0); repeat (first | exact Below.refl _ _ | exact b0 | refine Below.trans ?_ (Below.mono b0 (by first | omega | (simp; done) | (simp; omega))) | refine Below.setCell ?_ (by first | omega | (simp; done) | (simp; omega)) _ | refine below_dN ?_ _ | refine Below.drew ?_ | refine Below.alloc ?_ (by first | omega | (simp; done) | (simp; omega)) _)⟩
  obtain ⟨n, rfl⟩ : ∃ n : Nat, room = n := ⟨room.toNat, by omega⟩
  have k1' : decide ((n : Int) < 1) = false := decide_eq_false (by omega)
  have k2' : decide ((n : Int) > 1000) = false := decide_eq_false (by omega)
  go_wp2_with fail
  refine (qnew (fun _ => 0) 1 _ n (by omega) (by omega)).mono ?_
  rintro e w1 ⟨rfl, o1, v1, s1, h1⟩
  have l1 := ((Lw.start w).on b0).step s1 (by decide)
  by_cases k3 : (N : Int) > 120
  · as_aux_lemma =>
      replace l1 := Lib.hid l1
      clear h1 s1 b0
      go_wp2
      go_ret
      exact ⟨rfl, l1.out.below⟩
  have k3' : decide ((N : Int) > 120) = false := decide_eq_false k3
  clear b0 s1
  generalize b0w.heap.size = a at *
  go_wp2
  have P0 := Ds.start w h1 l1 (by omega) (by omega)
  generalize w1.heap.size = b at *
  generalize tag o1 b 2 = o2 at *
  generalize (w1.alloc (.cells #[.int .i64 (n : Int), .int .i64 0, .slice none 0 0] 38)) = w2 at *
  clear h1 l1
  have k4 : N ≤ 120 := by omega
  have k5 : 1 ≤ n := by omega
  have k6 : n ≤ 1000 := by omega
  go_loopw [10] (fun st wr => ∃ (i now : Nat) (o : Nat → Nat) (L : List Tm), st = .int .i64 (i : Int) ∧ i ≤ N ∧ now ≤ i ∧ Ds w o wr a b n now L) (fun st _ => N - (intOf st).toNat)
  case atStart => exact ⟨0, 0, o2, [], rfl, by omega, Nat.le_refl _, P0⟩
  case round =>
    obtain ⟨i, now, o, L, rfl, hi, hnow, P⟩ := hrel
    clear P0
    rcases Nat.lt_or_ge i N with hlt | hge
    · obtain ⟨⟨xo, xi, xa⟩, hx⟩ : ∃ x, l[i]? = some x := ⟨_, List.getElem?_eq_getElem (by rw [Z.out.1]; exact hlt)⟩
      obtain ⟨bl, off, rfl, q0, q1, q2⟩ := Z.out.2 i _ hx
      have qb : bl < w.heap.size := World.block_lt_of_cell? _ _ q0
      have q0 : wr.cell? ⟨bl, off + i * 3, none⟩ = some (.int .i64 xo) := (P.lw.below.cell (p := ⟨bl, _, none⟩) qb).trans q0
      have q1 : wr.cell? ⟨bl, off + i * 3 + 1, none⟩ = some (.int .i64 xi) := (P.lw.below.cell (p := ⟨bl, _, none⟩) qb).trans q1
      have q2 : wr.cell? ⟨bl, off + i * 3 + 2, none⟩ = some (.int .i64 xa) := (P.lw.below.cell (p := ⟨bl, _, none⟩) qb).trans q2
      have P1 := P.alloc (.cells #[.int .i64 xo, .int .i64 xi, .int .i64 xa] 40) 4
      have BX := Blk.made o 4 wr #[.int .i64 xo, .int .i64 xi, .int .i64 xa] 40
      have F := Lib.hid (And.intro P1 BX)
      clear P P1 BX
      go_upto_region 14 with (fail)
      generalize hX : wr.heap.size = X at *
      obtain ⟨P1, BX⟩ := F.out
      generalize tag o X 4 = oA at *
      generalize wr.alloc (.cells #[.int .i64 xo, .int .i64 xi, .int .i64 xa] 40) = wA at *
      clear q0 q1 q2 F
      have x0 : wA.cell? ⟨X, 0, none⟩ = some (.int .i64 xo) := by rw [BX.cell]; rfl
      have F := Lib.hid (And.intro P1 BX)
      clear P1 BX
      rename_i hK0
      go_cut [67] (fun t wx => t = .int .i64 xo ∧ wx = wA)
      case first =>
        go_wp2
        go_meet
        exact ⟨rfl, rfl⟩
      case rest =>
        obtain ⟨rfl, rfl⟩ := hcut
        refine hK0 _ _ ?_
        clear hK0
        go_cut [12] (fun ok wx => ok = .bool true ∧ ∃ (now' : Nat) (o' : Nat → Nat) (L' : List Tm), now' ≤ i + 1 ∧ Ds w o' wx a b n now' L' ∧ Blk o' 4 wx X #[.int .i64 xo, .int .i64 xi, .int .i64 xa] 40)
        case first =>
          have x1 : wc.cell? ⟨X, 1, none⟩ = some (.int .i64 xi) := by rw [F.out.2.cell]; rfl
          have x2 : wc.cell? ⟨X, 2, none⟩ = some (.int .i64 xa) := by rw [F.out.2.cell]; rfl
          clear x0
          by_cases o0 : xo = 0
          · skip
            as_aux_lemma =>
              have u0 : (xo == 0) = true := by simp [o0]
              clear o0
              obtain ⟨P1, BX⟩ := F.out
              have hinv := P1.inv
              have hle : L.length ≤ 1000 := Nat.le_trans hinv.le hinv.room2
              have C1 := Lib.hid (fun (o' : Nat → Nat) (w' : World) (v' : Value) (h' : Qu o' 1 w' a n now v' L) => qset xi xa _ _ h' hinv (by omega) rfl rfl)
              have C2 := Lib.hid (fun (o' : Nat → Nat) (w' : World) (v' : Value) (h' : Rq o' 2 w' b n now v' L) => rset xi xa _ _ h' hinv (by omega) rfl rfl)
              have hI := Lib.hid (hinv.set xi xa)
              have D := Lib.hid (And.intro (P1.on (below_dN (Below.refl _ _) 1)) (⟨BX.at_, BX.mine⟩ : Blk oA 4 wc.drew X #[.int .i64 xo, .int .i64 xi, .int .i64 xa] 40))
              clear hinv P1 BX F
              go_wp2_with fail
              go_region_held3 (fun w' => w'.cell? ⟨X, 1, none⟩ = some (.int .i64 xi) ∧ w'.cell? ⟨X, 2, none⟩ = some (.int .i64 xa))
                (first | exact ⟨by rw [((D.out.2.step st3 (by decide)).step st4 (by decide)).cell]; rfl, by rw [((D.out.2.step st3 (by decide)).step st4 (by decide)).cell]; rfl⟩ | exact ⟨by rw [(D.out.2.step st3 (by decide)).cell]; rfl, by rw [(D.out.2.step st3 (by decide)).cell]; rfl⟩ | exact ⟨by rw [D.out.2.cell]; rfl, by rw [D.out.2.cell]; rfl⟩)
                (first
                  | (go_at_call 10; obtain ⟨vp, hvp⟩ := D.out.1.qu; refine (C1.out _ _ vp hvp).mono ?_; rintro e w3 ⟨rfl, o3, v3, st3, hA3⟩)
                  | (go_at_call 15; obtain ⟨vr, hvr⟩ := D.out.1.rf; refine (C2.out o3 _ vr (hvr.step st3 (by decide))).mono ?_; rintro e w4 ⟨rfl, o4, v4, st4, hR4⟩))
              have Q6 := Lib.hid (And.intro (D.out.1.both st3 ⟨v3, hA3⟩ st4 ⟨v4, hR4⟩ hI.out) ((D.out.2.step st3 (by decide)).step st4 (by decide)))
              clear C1 C2 hI D hvp hvr st3 hA3 st4 hR4 x1 x2
              go_wp2
              go_meet
              exact ⟨by simp, now, o4, _, by omega, Q6.out.1, Q6.out.2⟩
          · by_cases o1 : xo = 1
            · skip
              as_aux_lemma =>
                have u0 : (xo == 0) = false := by simp [o0]
                have u1 : (xo == 1) = true := by simp [o1]
                clear o0 o1
                obtain ⟨P1, BX⟩ := F.out
                have hinv := P1.inv
                have hle : L.length ≤ 1000 := Nat.le_trans hinv.le hinv.room2
                obtain ⟨R, hR⟩ : ∃ R, tickR now L = R := ⟨_, rfl⟩
                obtain ⟨M, hM⟩ : ∃ M, tickL now L = M := ⟨_, rfl⟩
                have hRl : R.length ≤ 1000 := by
                  rw [← hR]; unfold tickR; rw [List.length_map]
                  exact Nat.le_trans (List.length_filter_le _ _) hle
                obtain ⟨vp, hvp⟩ := P1.qu
                obtain ⟨vr, hvr⟩ := P1.rf
                have C1 := Lib.hid (qticks 3 R M (by decide) hvp hinv (by omega) hR hM)
                have C2 := Lib.hid (fun (o' : Nat → Nat) (w' : World) (h' : Rq o' 2 w' b n now vr L) => rtick 5 R M (by decide) h' hle (by omega) hR hM)
                have hI := Lib.hid (show QInv n (now + 1) M from hM ▸ hinv.tick)
                have RV := Lib.hid hvr
                clear hinv P1 BX hvp hvr hR hM
                go_wp2_with fail
                refine C1.out.mono ?_
                rintro e w3 ⟨A3, c3, rfl, o3, v3, st3, hA3, r3⟩
                replace C2 := Lib.hid (C2.out o3 w3 (RV.out.step st3 (by decide)))
                have G := Lib.hid (And.intro st3 (And.intro hA3 r3))
                clear st3 hA3 r3 C1 RV
                go_wp2_with fail
                refine C2.out.mono ?_
                rintro e w4 ⟨A4, c4, rfl, o4, v4, st4, hR4, r4⟩
                obtain ⟨st3, hA3, r3⟩ := G.out
                have C3 := Lib.hid (ints_rows hRl (r3.step st4 (by decide)) r4)
                have K := Lib.hid (And.intro (F.out.1.both st3 ⟨v3, hA3⟩ st4 ⟨v4, hR4⟩ hI.out) ((F.out.2.step st3 (by decide)).step st4 (by decide)))
                clear st3 hA3 r3 st4 hR4 r4 C2 G F hI x1 x2
                go_wp2_with fail
                refine C3.out.mono ?_
                rintro e w5 ⟨rfl, n5, rfl⟩
                clear C3
                go_wp2
                go_meet
                exact ⟨rfl, now + 1, o4, M, by omega, K.out.1.on (below_dN (Below.refl _ _) _), K.out.2.drewN _⟩
            · skip
              as_aux_lemma =>
                have u0 : (xo == 0) = false := by simp [o0]
                have u1 : (xo == 1) = false := by simp [o1]
                obtain ⟨P1, BX⟩ := F.out
                have hinv := P1.inv
                have hle : L.length ≤ 1000 := Nat.le_trans hinv.le hinv.room2
                have C1 := Lib.hid (fun (o' : Nat → Nat) (w' : World) (v' : Value) (h' : Qu o' 1 w' a n now v' L) => qstop xi _ _ h' hle rfl rfl)
                have C2 := Lib.hid (fun (o' : Nat → Nat) (w' : World) (v' : Value) (h' : Rq o' 2 w' b n now v' L) => rstop xi _ _ h' hle rfl rfl)
                have hI := Lib.hid (hinv.stop xi)
                have D := Lib.hid (And.intro (P1.on (below_dN (Below.refl _ _) 1)) (⟨BX.at_, BX.mine⟩ : Blk oA 4 wc.drew X #[.int .i64 xo, .int .i64 xi, .int .i64 xa] 40))
                clear hinv P1 BX F
                go_wp2_with fail
                go_region_held3 (fun w' => w'.cell? ⟨X, 1, none⟩ = some (.int .i64 xi) ∧ w'.cell? ⟨X, 2, none⟩ = some (.int .i64 xa))
                  (first | exact ⟨by rw [((D.out.2.step st3 (by decide)).step st4 (by decide)).cell]; rfl, by rw [((D.out.2.step st3 (by decide)).step st4 (by decide)).cell]; rfl⟩ | exact ⟨by rw [(D.out.2.step st3 (by decide)).cell]; rfl, by rw [(D.out.2.step st3 (by decide)).cell]; rfl⟩ | exact ⟨by rw [D.out.2.cell]; rfl, by rw [D.out.2.cell]; rfl⟩)
                  (first
                    | (go_at_call 13; obtain ⟨vp, hvp⟩ := D.out.1.qu; refine (C1.out _ _ vp hvp).mono ?_; rintro e w3 ⟨rfl, o3, v3, st3, hA3⟩)
                    | (go_at_call 17; obtain ⟨vr, hvr⟩ := D.out.1.rf; refine (C2.out o3 _ vr (hvr.step st3 (by decide))).mono ?_; rintro e w4 ⟨rfl, o4, v4, st4, hR4⟩))
                have Q6 := Lib.hid (And.intro (D.out.1.both st3 ⟨v3, hA3⟩ st4 ⟨v4, hR4⟩ hI.out) ((D.out.2.step st3 (by decide)).step st4 (by decide)))
                clear C1 C2 hI D hvp hvr st3 hA3 st4 hR4 x1 x2
                go_wp2
                go_meet
                exact ⟨by simp, now, o4, _, by omega, Q6.out.1, Q6.out.2⟩
        case rest =>
          obtain ⟨rfl, now3, o3, L3, hnow3, P3, BX⟩ := hcut
          clear F x0
          as_aux_lemma =>
            have hinv := P3.inv
            have hle : L3.length ≤ 1000 := Nat.le_trans hinv.le hinv.room2
            obtain ⟨⟨lx, lb⟩, hlv⟩ : ∃ q, leftV now3 L3 ask = q := ⟨_, rfl⟩
            obtain ⟨vp, hvp⟩ := P3.qu
            have C1 := Lib.hid (qleft ask lx lb hvp hinv (by omega) hlv)
            have F := Lib.hid (And.intro P3 hlv)
            clear P3 BX hvp hinv hlv
            go_wp2_with fail
            refine C1.out.mono ?_
            rintro e w5 ⟨rfl, b5⟩
            have P5 := F.out.1.on b5
            obtain ⟨vr, hvr⟩ := P5.rf
            have C2 := Lib.hid (rleft ask lx lb hvr P5.inv (by omega) F.out.2)
            have F5 := Lib.hid P5
            clear F P5 hvr C1 b5
            go_wp2_with fail
            refine C2.out.mono ?_
            rintro e w6 ⟨rfl, n6, rfl⟩
            have P6 := F5.out.on (below_dN (Below.refl _ _) n6)
            clear C2 F5
            generalize w5.drewN n6 = w6 at *
            go_wp2
            obtain ⟨vq, hvq⟩ := P6.qu
            obtain ⟨vr6, hvr6⟩ := P6.rf
            have e1 : w6.drew.cell? ⟨b, 1, none⟩ = some (.int .i64 (now3 : Int)) := ((hvr6.drewN 1).box.cell 1).trans (by simp)
            have CL := Lib.hid (qlen (hvq.drewN 1) hle)
            have CR := Lib.hid (rlen (hvr6.drewN 1) hle)
            have CN := Lib.hid (qnow (hvq.drewN 1))
            have F6 := Lib.hid (P6.on (below_dN (Below.refl _ _) 1))
            have r1 : (lx != lx) = false := by simp
            have r2 : (lb != lb) = false := by simp
            have r3 : (((L3.length : Nat) : Int) != ((L3.length : Nat) : Int)) = false := by simp
            have r4 : ((now3 : Int) != (now3 : Int)) = false := by simp
            clear hvq hvr6 P6
            refine wp_region_held_drew (S := fun W => W.cell? ⟨b, 1, none⟩ = some (.int .i64 (now3 : Int))) (by kernel_rfl) e1 (fun hHeld => ?_)
            refine wpAnyH_take (i := 0) (v := (.bool true)) rfl (by kernel_rfl) (by kernel_rfl) (by kernel_rfl) (fun _ _ _ h => h) (Or.inl ⟨by rfl, ?_⟩) hHeld ?_
            · intro w hSw; go_simp
            try simp only [List.getElem_toArray, List.getElem_cons_zero, List.getElem_cons_succ, Act.put, List.setIfInBounds_toArray, List.set_cons_zero, List.set_cons_succ]
            refine wpAnyH_take (i := 1) (v := (.bool false)) rfl (by kernel_rfl) (by kernel_rfl) (by kernel_rfl) (fun _ _ _ h => h) (Or.inl ⟨by rfl, ?_⟩) hHeld ?_
            · intro w hSw; go_simp
            try simp only [List.getElem_toArray, List.getElem_cons_zero, List.getElem_cons_succ, Act.put, List.setIfInBounds_toArray, List.set_cons_zero, List.set_cons_succ]
            refine wpAnyH_take (i := 2) (v := (.bool false)) rfl (by kernel_rfl) (by kernel_rfl) (by kernel_rfl) (fun _ _ _ h => h) (Or.inl ⟨by rfl, ?_⟩) hHeld ?_
            · intro w hSw; go_simp
            try simp only [List.getElem_toArray, List.getElem_cons_zero, List.getElem_cons_succ, Act.put, List.setIfInBounds_toArray, List.set_cons_zero, List.set_cons_succ]
            refine wpAnyH_take (i := 3) (v := (.int .i64 lx)) rfl (by kernel_rfl) (by kernel_rfl) (by kernel_rfl) (fun _ _ _ h => h) (Or.inl ⟨by rfl, ?_⟩) hHeld ?_
            · intro w hSw; go_simp
            try simp only [List.getElem_toArray, List.getElem_cons_zero, List.getElem_cons_succ, Act.put, List.setIfInBounds_toArray, List.set_cons_zero, List.set_cons_succ]
            refine wpAnyH_take (i := 4) (v := (.int .i64 lx)) rfl (by kernel_rfl) (by kernel_rfl) (by kernel_rfl) (fun _ _ _ h => h) (Or.inl ⟨by rfl, ?_⟩) hHeld ?_
            · intro w hSw; go_simp
            try simp only [List.getElem_toArray, List.getElem_cons_zero, List.getElem_cons_succ, Act.put, List.setIfInBounds_toArray, List.set_cons_zero, List.set_cons_succ]
            refine wpAnyH_take (i := 5) (v := (.bool false)) rfl (by kernel_rfl) (by kernel_rfl) (by kernel_rfl) (fun _ _ _ h => h) (Or.inl ⟨by rfl, ?_⟩) hHeld ?_
            · intro w hSw; go_simp
            try simp only [List.getElem_toArray, List.getElem_cons_zero, List.getElem_cons_succ, Act.put, List.setIfInBounds_toArray, List.set_cons_zero, List.set_cons_succ]
            refine wpAnyH_take (i := 6) (v := (.bool false)) rfl (by kernel_rfl) (by kernel_rfl) (by kernel_rfl) (fun _ _ _ h => h) (Or.inl ⟨by rfl, ?_⟩) hHeld ?_
            · intro w hSw; go_simp
            try simp only [List.getElem_toArray, List.getElem_cons_zero, List.getElem_cons_succ, Act.put, List.setIfInBounds_toArray, List.set_cons_zero, List.set_cons_succ]
            refine wpAnyH_take (i := 7) (v := (.bool false)) rfl (by kernel_rfl) (by kernel_rfl) (by kernel_rfl) (fun _ _ _ h => h) (Or.inl ⟨by rfl, ?_⟩) hHeld ?_
            · intro w hSw; go_simp
            try simp only [List.getElem_toArray, List.getElem_cons_zero, List.getElem_cons_succ, Act.put, List.setIfInBounds_toArray, List.set_cons_zero, List.set_cons_succ]
            refine wpAnyH_take (i := 8) (v := (.bool lb)) rfl (by kernel_rfl) (by kernel_rfl) (by kernel_rfl) (fun _ _ _ h => h) (Or.inl ⟨by rfl, ?_⟩) hHeld ?_
            · intro w hSw; go_simp
            try simp only [List.getElem_toArray, List.getElem_cons_zero, List.getElem_cons_succ, Act.put, List.setIfInBounds_toArray, List.set_cons_zero, List.set_cons_succ]
            refine wpAnyH_take (i := 9) (v := (.bool lb)) rfl (by kernel_rfl) (by kernel_rfl) (by kernel_rfl) (fun _ _ _ h => h) (Or.inl ⟨by rfl, ?_⟩) hHeld ?_
            · intro w hSw; go_simp
            try simp only [List.getElem_toArray, List.getElem_cons_zero, List.getElem_cons_succ, Act.put, List.setIfInBounds_toArray, List.set_cons_zero, List.set_cons_succ]
            refine wpAnyH_take (i := 10) (v := (.bool false)) rfl (by kernel_rfl) (by kernel_rfl) (by kernel_rfl) (fun _ _ _ h => h) (Or.inl ⟨by rfl, ?_⟩) hHeld ?_
            · intro w hSw; go_simp
            try simp only [List.getElem_toArray, List.getElem_cons_zero, List.getElem_cons_succ, Act.put, List.setIfInBounds_toArray, List.set_cons_zero, List.set_cons_succ]
            refine wpAnyH_take (i := 11) (v := (.bool false)) rfl (by kernel_rfl) (by kernel_rfl) (by kernel_rfl) (fun _ _ _ h => h) (Or.inl ⟨by rfl, ?_⟩) hHeld ?_
            · intro w hSw; go_simp
            try simp only [List.getElem_toArray, List.getElem_cons_zero, List.getElem_cons_succ, Act.put, List.setIfInBounds_toArray, List.set_cons_zero, List.set_cons_succ]
            refine wpAnyH_take (i := 12) (v := (.bool false)) rfl (by kernel_rfl) (by kernel_rfl) (by kernel_rfl) (fun _ _ _ h => h) (Or.inl ⟨by rfl, ?_⟩) hHeld ?_
            · intro w hSw; go_simp
            try simp only [List.getElem_toArray, List.getElem_cons_zero, List.getElem_cons_succ, Act.put, List.setIfInBounds_toArray, List.set_cons_zero, List.set_cons_succ]
            refine wpAnyH_take (i := 13) (v := (.pointer (some ⟨a, 0, none⟩))) rfl (by kernel_rfl) (by kernel_rfl) (by kernel_rfl) (fun _ _ _ h => h) (Or.inl ⟨by rfl, ?_⟩) hHeld ?_
            · intro w hSw; go_simp
            try simp only [List.getElem_toArray, List.getElem_cons_zero, List.getElem_cons_succ, Act.put, List.setIfInBounds_toArray, List.set_cons_zero, List.set_cons_succ]
            refine wpAnyH_take (i := 15) (v := (.pointer (some ⟨b, 0, none⟩))) rfl (by kernel_rfl) (by kernel_rfl) (by kernel_rfl) (fun _ _ _ h => h) (Or.inl ⟨by rfl, ?_⟩) hHeld ?_
            · intro w hSw; go_simp
            try simp only [List.getElem_toArray, List.getElem_cons_zero, List.getElem_cons_succ, Act.put, List.setIfInBounds_toArray, List.set_cons_zero, List.set_cons_succ]
            refine wpAnyH_ready (rs := [14]) (by kernel_rfl) (by simp) ?_
            refine AllReadyH.cons rfl (fun K hK => ?_) AllReadyH.nil
            clear hHeld
            go_simp
            refine CL.out.mono ?_
            rintro e w7 ⟨rfl, rfl⟩
            refine hK.out _ _ e1 (fun hHeld => ?_)
            clear hK K
            refine wpAnyH_ready (rs := [16]) (by kernel_rfl) (by simp) ?_
            refine AllReadyH.cons rfl (fun K hK => ?_) AllReadyH.nil
            clear hHeld
            go_simp
            refine CR.out.mono ?_
            rintro e w7 ⟨rfl, rfl⟩
            refine hK.out _ _ e1 (fun hHeld => ?_)
            clear hK K
            refine wpAnyH_take (i := 17) (v := (.bool false)) rfl (by kernel_rfl) (by kernel_rfl) (by kernel_rfl) (fun _ _ _ h => h) (Or.inl ⟨by rfl, ?_⟩) hHeld ?_
            · intro w hSw; go_simp
            try simp only [List.getElem_toArray, List.getElem_cons_zero, List.getElem_cons_succ, Act.put, List.setIfInBounds_toArray, List.set_cons_zero, List.set_cons_succ]
            refine wpAnyH_take (i := 18) (v := (.bool false)) rfl (by kernel_rfl) (by kernel_rfl) (by kernel_rfl) (fun _ _ _ h => h) (Or.inl ⟨by rfl, ?_⟩) hHeld ?_
            · intro w hSw; go_simp
            try simp only [List.getElem_toArray, List.getElem_cons_zero, List.getElem_cons_succ, Act.put, List.setIfInBounds_toArray, List.set_cons_zero, List.set_cons_succ]
            refine wpAnyH_take (i := 19) (v := (.bool false)) rfl (by kernel_rfl) (by kernel_rfl) (by kernel_rfl) (fun _ _ _ h => h) (Or.inl ⟨by rfl, ?_⟩) hHeld ?_
            · intro w hSw; go_simp
            try simp only [List.getElem_toArray, List.getElem_cons_zero, List.getElem_cons_succ, Act.put, List.setIfInBounds_toArray, List.set_cons_zero, List.set_cons_succ]
            refine wpAnyH_take (i := 20) (v := (.pointer (some ⟨a, 0, none⟩))) rfl (by kernel_rfl) (by kernel_rfl) (by kernel_rfl) (fun _ _ _ h => h) (Or.inl ⟨by rfl, ?_⟩) hHeld ?_
            · intro w hSw; go_simp
            try simp only [List.getElem_toArray, List.getElem_cons_zero, List.getElem_cons_succ, Act.put, List.setIfInBounds_toArray, List.set_cons_zero, List.set_cons_succ]
            refine wpAnyH_take (i := 22) (v := (.pointer (some ⟨b, 0, none⟩))) rfl (by kernel_rfl) (by kernel_rfl) (by kernel_rfl) (fun _ _ _ h => h) (Or.inl ⟨by rfl, ?_⟩) hHeld ?_
            · intro w hSw; go_simp
            try simp only [List.getElem_toArray, List.getElem_cons_zero, List.getElem_cons_succ, Act.put, List.setIfInBounds_toArray, List.set_cons_zero, List.set_cons_succ]
            refine wpAnyH_take (i := 23) (v := (.pointer (some ⟨b, 0, none⟩))) rfl (by kernel_rfl) (by kernel_rfl) (by kernel_rfl) (fun _ _ _ h => h) (Or.inl ⟨by rfl, ?_⟩) hHeld ?_
            · intro w hSw; go_simp
            try simp only [List.getElem_toArray, List.getElem_cons_zero, List.getElem_cons_succ, Act.put, List.setIfInBounds_toArray, List.set_cons_zero, List.set_cons_succ]
            refine wpAnyH_take (i := 24) (v := (.pointer (some ⟨b, 1, none⟩))) rfl (by kernel_rfl) (by kernel_rfl) (by kernel_rfl) (fun _ _ _ h => h) (Or.inl ⟨by rfl, ?_⟩) hHeld ?_
            · intro w hSw; go_simp
            try simp only [List.getElem_toArray, List.getElem_cons_zero, List.getElem_cons_succ, Act.put, List.setIfInBounds_toArray, List.set_cons_zero, List.set_cons_succ]
            refine wpAnyH_take (i := 25) (v := (.int .i64 (now3 : Int))) rfl (by kernel_rfl) (by kernel_rfl) (by kernel_rfl) (fun _ _ _ h => h) (Or.inl ⟨by rfl, ?_⟩) hHeld ?_
            · intro w hSw; go_simp
            try simp only [List.getElem_toArray, List.getElem_cons_zero, List.getElem_cons_succ, Act.put, List.setIfInBounds_toArray, List.set_cons_zero, List.set_cons_succ]
            refine wpAnyH_ready (rs := [21]) (by kernel_rfl) (by simp) ?_
            refine AllReadyH.cons rfl (fun K hK => ?_) AllReadyH.nil
            clear hHeld
            go_simp
            refine CN.out.mono ?_
            rintro e w7 ⟨rfl, rfl⟩
            refine hK.out _ _ e1 (fun hHeld => ?_)
            clear hK K
            refine wpAnyH_take (i := 26) (v := (.bool false)) rfl (by kernel_rfl) (by kernel_rfl) (by kernel_rfl) (fun _ _ _ h => h) (Or.inl ⟨by rfl, ?_⟩) hHeld ?_
            · intro w hSw; go_simp
            try simp only [List.getElem_toArray, List.getElem_cons_zero, List.getElem_cons_succ, Act.put, List.setIfInBounds_toArray, List.set_cons_zero, List.set_cons_succ]
            refine wpAnyH_take (i := 27) (v := (.bool false)) rfl (by kernel_rfl) (by kernel_rfl) (by kernel_rfl) (fun _ _ _ h => h) (Or.inl ⟨by rfl, ?_⟩) hHeld ?_
            · intro w hSw; go_simp
            try simp only [List.getElem_toArray, List.getElem_cons_zero, List.getElem_cons_succ, Act.put, List.setIfInBounds_toArray, List.set_cons_zero, List.set_cons_succ]
            refine wpAnyH_done (by kernel_rfl) ?_ _
            clear hHeld CL CR CN
            go_wp2
            go_roundw
            case rel => exact ⟨i + 1, now3, o3, L3, by simp, by omega, by omega, F6.out⟩
            case measure => simp [intOf]; omega
    · obtain rfl : i = N := by omega
      replace P := Lib.hid P
      go_wp2
      go_ret
      exact ⟨rfl, P.out.lw.below⟩
end Go.Proofs.Ytbejmboedjfllaa
