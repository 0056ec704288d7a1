/- PilePlays: any calls answer as the document says. -/
import Derived.Test.YtgbmpnoknmpmcaaPlItems
import Derived.Test.YtgbmpnoknmpmcaaPlActs
import Derived.Deep.DeepCutAuto
namespace Go.Proofs.Ytgbmpnoknmpmcaa
open Go.RowKit
set_option linter.unusedVariables false
set_option linter.unusedSimpArgs false

/-- Both piles in one state; the law on its way. -/
structure Ps (w : World) (o : Nat → Nat) (W : World) (a b room : Nat) (l : List It) : Prop where
  pl : ∃ v, Pl o 1 W a room v l
  rf : ∃ v, Rp o 2 W b room v l
  inv : PInv room l
  lw : Lw w o W
section
variable {w W W' : World} {o o' : Nat → Nat} {a b room τ : Nat} {l L : List It}
theorem Ps.alloc (h : Ps w o W a b room l) (x : Obj) (τ : Nat) : Ps w (tag o W.heap.size τ) (W.alloc x) a b room l := by
  obtain ⟨⟨v, h1⟩, ⟨u, h2⟩, h3, h4⟩ := h
  exact ⟨⟨v, h1.alloc x τ⟩, ⟨u, h2.alloc x τ⟩, h3, h4.alloc x τ⟩
theorem Ps.on (h : Ps w o W a b room l) (hb : Below W.heap.size W W') : Ps w o W' a b room l := by
  obtain ⟨⟨v, h1⟩, ⟨u, h2⟩, h3, h4⟩ := h
  exact ⟨⟨v, h1.below hb⟩, ⟨u, h2.below hb⟩, h3, h4.on hb⟩
theorem Ps.start (w : World) {v : Value} (h : Pl o 1 W a room v []) (l : Lw w o W) (h1 : 1 ≤ room) (h2 : room ≤ 1000) : Ps w (tag o W.heap.size 2) (W.alloc (.cells #[.int .i64 (room : Int), .slice none 0 0] 38)) a W.heap.size room [] :=
  ⟨⟨v, h.alloc _ 2⟩, ⟨_, Blk.made o 2 W _ _, Row.nil _ _ _ _ _⟩, PInv.start h1 h2, l.alloc _ 2⟩
/-- Behind a call on the program's pile and then one on the document's. -/
theorem Ps.both {o1 o2 : Nat → Nat} {W1 W2 : World} (h : Ps w o W a b room l) (st1 : Step o o1 1 W W1) (h1 : ∃ v, Pl o1 1 W1 a room v L) (st2 : Step o1 o2 2 W1 W2) (h2 : ∃ v, Rp o2 2 W2 b room v L) (hi : PInv room L) : Ps w o2 W2 a b room L := by
  obtain ⟨v1, h1⟩ := h1
  exact ⟨⟨v1, h1.step st2 (by decide)⟩, h2, hi, (h.lw.step st1 (by decide)).step st2 (by decide)⟩
end
theorem own_rd {w : World} {base : Nat} {A : Option Addr} {cap : Nat} {l : List It} {e : TypeId} (h : w.ownsRow base e 3 (.slice A l.length cap) l.length (cellsI l)) : RdI w A l ∧ l.length ≤ cap ∧ cap ≤ 9223372036854775807 := by
  have r : Row (fun _ => 0) 0 w e 3 (.slice A l.length cap) l.length (cellsI l) := ⟨own_zero h, fun _ _ => rfl⟩
  exact ⟨r.rd, r.caps⟩
set_option maxHeartbeats 25600000 in
set_option maxRecDepth 100000 in
theorem PilePlays_ret (room : Int) (A : Option Addr) (c : Nat) (l : List ActP) (w : World) (h1 : fitB room = true) (hlc : l.length ≤ c) (hc : c ≤ 9223372036854775807) (hrd : RdActP w A l) :
    Calls Try.prog 4 #[.int .i64 room, .slice A l.length c] w (RetB (.bool true) w) := by
  have A0 := Lib.hid awake_any
  clear h1
  obtain ⟨N, hN⟩ : ∃ N : Nat, l.length = N := ⟨_, rfl⟩
  rw [hN] at hlc ⊢
  have Z := Lib.hid (And.intro hN hrd)
  clear hN hrd
  go_enter Try.func4, Try.ntmps4
  go_wp2_with fail
  refine (A0.out _).mono ?_; rintro e b0w ⟨rfl, b0⟩
  by_cases k1 : room < 1 ∨ room > 1000
  · as_aux_lemma =>
      go_wp2_with fail
      refine (pnew_bad _ room (by omega)).mono ?_
      rintro e w1 ⟨rfl, rfl⟩
      rcases k1 with k1 | k1
      · go_wp2
        go_ret
        exact ⟨rfl, by have s0 := b0.size; (try simp only [World.heap_drewN, World.size_alloc] at s0); repeat (first | exact Below.refl _ _ | exact b0 | refine Below.trans ?_ (Below.mono b0 (by first | omega | (simp; done) | (simp; omega))) | refine Below.setCell ?_ (by first | omega | (simp; done) | (simp; omega)) _ | refine below_dN ?_ _ | refine Below.drew ?_ | refine Below.alloc ?_ (by first | omega | (simp; done) | (simp; omega)) _)⟩
      · have k2 : decide (room < 1) = false := decide_eq_false (by omega)
        go_wp2
        go_ret
        exact ⟨rfl, by have s0 := b0.size; (try simp only [World.heap_drewN, World.size_alloc] at s0); repeat (first | exact Below.refl _ _ | exact b0 | refine Below.trans ?_ (Below.mono b0 (by first | omega | (simp; done) | (simp; omega))) | refine Below.setCell ?_ (by first | omega | (simp; done) | (simp; omega)) _ | refine below_dN ?_ _ | refine Below.drew ?_ | refine Below.alloc ?_ (by first | omega | (simp; done) | (simp; omega)) _)⟩
  obtain ⟨n, rfl⟩ : ∃ n : Nat, room = n := ⟨room.toNat, by omega⟩
  have k1' : decide ((n : Int) < 1) = false := decide_eq_false (by omega)
  have k2' : decide ((n : Int) > 1000) = false := decide_eq_false (by omega)
  go_wp2_with fail
  refine (pnew (fun _ => 0) 1 _ n (by omega) (by omega)).mono ?_
  rintro e w1 ⟨rfl, o1, v1, s1, h1⟩
  have l1 := ((Lw.start w).on b0).step s1 (by decide)
  by_cases k3 : (N : Int) > 80
  · as_aux_lemma =>
      replace l1 := Lib.hid l1
      clear h1 s1 b0
      go_wp2
      go_ret
      exact ⟨rfl, l1.out.below⟩
  have k3' : decide ((N : Int) > 80) = false := decide_eq_false k3
  clear b0 s1
  generalize b0w.heap.size = a at *
  go_wp2
  have P0 := Ps.start w h1 l1 (by omega) (by omega)
  generalize w1.heap.size = b at *
  generalize tag o1 b 2 = o2 at *
  generalize (w1.alloc (.cells #[.int .i64 (n : Int), .slice none 0 0] 38)) = w2 at *
  clear h1 l1
  have k4 : N ≤ 80 := by omega
  have k5 : 1 ≤ n := by omega
  have k6 : n ≤ 1000 := by omega
  go_loopw [8] (fun st wr => ∃ (i : Nat) (o : Nat → Nat) (L : List It), st = .int .i64 (i : Int) ∧ i ≤ N ∧ Ps w o wr a b n L) (fun st _ => N - (intOf st).toNat)
  case atStart => exact ⟨0, o2, [], rfl, by omega, P0⟩
  case round =>
    obtain ⟨i, o, L, rfl, hi, P⟩ := hrel
    clear P0
    rcases Nat.lt_or_ge i N with hlt | hge
    · obtain ⟨⟨xo, xi, xk, xt⟩, hx⟩ : ∃ x, l[i]? = some x := ⟨_, List.getElem?_eq_getElem (by rw [Z.out.1]; exact hlt)⟩
      obtain ⟨bl, off, rfl, q0, q1, q2, q3⟩ := Z.out.2 i _ hx
      have qb : bl < w.heap.size := World.block_lt_of_cell? _ _ q0
      have q0 : wr.cell? ⟨bl, off + i * 4, none⟩ = some (.int .i64 xo) := (P.lw.below.cell (p := ⟨bl, _, none⟩) qb).trans q0
      have q1 : wr.cell? ⟨bl, off + i * 4 + 1, none⟩ = some (.int .i64 xi) := (P.lw.below.cell (p := ⟨bl, _, none⟩) qb).trans q1
      have q2 : wr.cell? ⟨bl, off + i * 4 + 2, none⟩ = some (.int .i64 xk) := (P.lw.below.cell (p := ⟨bl, _, none⟩) qb).trans q2
      have q3 : wr.cell? ⟨bl, off + i * 4 + 3, none⟩ = some (.int .i64 xt) := (P.lw.below.cell (p := ⟨bl, _, none⟩) qb).trans q3
      have P1 := P.alloc (.cells #[.int .i64 xi, .int .i64 xk, .int .i64 xt] 29) 4
      have BX := Blk.made o 4 wr #[.int .i64 xi, .int .i64 xk, .int .i64 xt] 29
      have hbw : wr.heap.size ≠ bl := by have := P.lw.below.size; omega
      have q0' : (wr.alloc (.cells #[.int .i64 xi, .int .i64 xk, .int .i64 xt] 29)).cell? ⟨bl, off + i * 4, none⟩ = some (.int .i64 xo) := Lib.cell?_alloc_some _ q0
      have F := Lib.hid (And.intro P1 BX)
      clear P P1 BX
      go_upto_region 14 with (fail)
      generalize hX : wr.heap.size = X at *
      obtain ⟨P1, BX⟩ := F.out
      generalize tag o X 4 = oA at *
      generalize wr.alloc (.cells #[.int .i64 xi, .int .i64 xk, .int .i64 xt] 29) = wA at *
      clear q0 q1 q2 q3 F
      have F := Lib.hid (And.intro P1 BX)
      clear P1 BX
      rename_i hK0
      go_cut [71] (fun t wx => t = .int .i64 xo ∧ wx = wA)
      case first =>
        go_wp2
        go_meet
        exact ⟨rfl, rfl⟩
      case rest =>
        obtain ⟨rfl, rfl⟩ := hcut
        refine hK0 _ _ ?_
        clear hK0
        go_cut [10] (fun ok wx => ok = .bool true ∧ ∃ (o' : Nat → Nat) (L' : List It), Ps w o' wx a b n L' ∧ Blk o' 4 wx X #[.int .i64 xi, .int .i64 xk, .int .i64 xt] 29)
        case first =>
          have x0 : wc.cell? ⟨X, 0, none⟩ = some (.int .i64 xi) := by rw [F.out.2.cell]; rfl
          have x1 : wc.cell? ⟨X, 1, none⟩ = some (.int .i64 xk) := by rw [F.out.2.cell]; rfl
          have x2 : wc.cell? ⟨X, 2, none⟩ = some (.int .i64 xt) := by rw [F.out.2.cell]; rfl
          by_cases o0 : xo = 0
          · skip
            as_aux_lemma =>
              subst o0
              obtain ⟨P1, BX⟩ := F.out
              have hinv := P1.inv
              have hle : L.length ≤ 1000 := Nat.le_trans hinv.le hinv.room2
              have C1 := Lib.hid (fun (o' : Nat → Nat) (w' : World) (v' : Value) (h' : Pl o' 1 w' a n v' L) => ppush (xi, xk, xt) _ _ h' hinv rfl rfl)
              have C2 := Lib.hid (fun (o' : Nat → Nat) (w' : World) (v' : Value) (h' : Rp o' 2 w' b n v' L) => rpush (xi, xk, xt) _ _ h' hinv rfl rfl)
              have hI := Lib.hid (hinv.push (xi, xk, xt))
              have D := Lib.hid (And.intro (P1.on (below_dN (Below.refl _ _) 1)) (⟨BX.at_, BX.mine⟩ : Blk oA 4 wc.drew X #[.int .i64 xi, .int .i64 xk, .int .i64 xt] 29))
              (try unfold vI at C1 C2)
              (try simp only at C1 C2)
              clear hinv P1 BX F
              go_wp2_with fail
              go_region_held3 (fun w' => w'.cell? ⟨X, 0, none⟩ = some (.int .i64 xi) ∧ w'.cell? ⟨X, 1, none⟩ = some (.int .i64 xk) ∧ w'.cell? ⟨X, 2, none⟩ = some (.int .i64 xt))
                (first | exact ⟨by rw [((D.out.2.step st3 (by decide)).step st4 (by decide)).cell]; rfl, by rw [((D.out.2.step st3 (by decide)).step st4 (by decide)).cell]; rfl, by rw [((D.out.2.step st3 (by decide)).step st4 (by decide)).cell]; rfl⟩ | exact ⟨by rw [(D.out.2.step st3 (by decide)).cell]; rfl, by rw [(D.out.2.step st3 (by decide)).cell]; rfl, by rw [(D.out.2.step st3 (by decide)).cell]; rfl⟩ | exact ⟨by rw [D.out.2.cell]; rfl, by rw [D.out.2.cell]; rfl, by rw [D.out.2.cell]; rfl⟩)
                (first
                  | (go_at_call 10; obtain ⟨vp, hvp⟩ := D.out.1.pl; refine (C1.out _ _ vp hvp).mono ?_; rintro e w3 ⟨rfl, o3, v3, st3, hA3⟩)
                  | (go_at_call 15; obtain ⟨vr, hvr⟩ := D.out.1.rf; refine (C2.out o3 _ vr (hvr.step st3 (by decide))).mono ?_; rintro e w4 ⟨rfl, o4, v4, st4, hR4⟩))
              have Q6 := Lib.hid (And.intro (D.out.1.both st3 ⟨v3, hA3⟩ st4 ⟨v4, hR4⟩ hI.out) ((D.out.2.step st3 (by decide)).step st4 (by decide)))
              clear C1 C2 hI D hvp hvr st3 hA3 st4 hR4 x0 x1 x2
              go_wp2
              go_meet
              exact ⟨by simp, o4, _, Q6.out.1, Q6.out.2⟩
          · by_cases o1 : xo = 1
            · skip
              as_aux_lemma =>
                subst o1
                have u0 : ((1 : Int) == 0) = false := by decide
                obtain ⟨P1, BX⟩ := F.out
                have hinv := P1.inv
                have hle : L.length ≤ 1000 := Nat.le_trans hinv.le hinv.room2
                obtain ⟨⟨⟨yi, yk, yt⟩, tt⟩, hT⟩ : ∃ q, topI L = q := ⟨_, rfl⟩
                obtain ⟨vp, hvp⟩ := P1.pl
                obtain ⟨vr, hvr⟩ := P1.rf
                have C1 := Lib.hid (ppop (yi, yk, yt) tt hvp hle hT)
                have C2 := Lib.hid (fun (o' : Nat → Nat) (w' : World) (h' : Rp o' 2 w' b n vr L) => rpop (yi, yk, yt) tt h' hle hT)
                have hI := Lib.hid hinv.tail
                have R := Lib.hid hvr
                (try unfold vI at C1 C2)
                (try simp only at C1 C2)
                clear hinv P1 BX hvp hvr hT
                go_wp2_with fail
                refine C1.out.mono ?_
                rintro e w3 ⟨rfl, o3, v3, st3, hA3⟩
                obtain ⟨P1, BX⟩ := F.out
                have stA := (Step.refl o3 4 w3).alloc 4 (.cells #[.int .i64 yi, .int .i64 yk, .int .i64 yt] 29)
                have hA := hA3.alloc (.cells #[.int .i64 yi, .int .i64 yk, .int .i64 yt] 29) 4
                have hR := (R.out.step st3 (by decide)).alloc (.cells #[.int .i64 yi, .int .i64 yk, .int .i64 yt] 29) 4
                have X3 := (BX.step st3 (by decide)).alloc (.cells #[.int .i64 yi, .int .i64 yk, .int .i64 yt] 29) 4
                have l3 := (P1.lw.step st3 (by decide)).alloc (.cells #[.int .i64 yi, .int .i64 yk, .int .i64 yt] 29) 4
                have Y3 := Blk.made o3 4 w3 #[.int .i64 yi, .int .i64 yk, .int .i64 yt] 29
                replace C2 := Lib.hid (C2.out _ _ hR)
                have G := Lib.hid (And.intro hA (And.intro X3 (And.intro l3 Y3)))
                clear C1 F P1 BX st3 hA3 stA hA hR X3 l3 Y3 R x0 x1 x2
                go_wp2_with fail
                refine C2.out.mono ?_
                rintro e w4 ⟨rfl, o4, v4, st4, hR4⟩
                obtain ⟨hA, X3, l3, Y3⟩ := G.out
                have hA4 := (hA.step st4 (by decide)).alloc (.cells #[.int .i64 yi, .int .i64 yk, .int .i64 yt] 42) 4
                have hR5 := hR4.alloc (.cells #[.int .i64 yi, .int .i64 yk, .int .i64 yt] 42) 4
                have X4 := (X3.step st4 (by decide)).alloc (.cells #[.int .i64 yi, .int .i64 yk, .int .i64 yt] 42) 4
                have l4 := (l3.step st4 (by decide)).alloc (.cells #[.int .i64 yi, .int .i64 yk, .int .i64 yt] 42) 4
                have Y4 := Y3.step st4 (by decide)
                have z0 : w4.cell? ⟨w3.heap.size, 0, none⟩ = some (.int .i64 yi) := by rw [Y4.cell]; rfl
                have z1 : w4.cell? ⟨w3.heap.size, 1, none⟩ = some (.int .i64 yk) := by rw [Y4.cell]; rfl
                have z2 : w4.cell? ⟨w3.heap.size, 2, none⟩ = some (.int .i64 yt) := by rw [Y4.cell]; rfl
                have zl := Y4.lt
                have zn : w3.heap.size ≠ w4.heap.size := by omega
                have K := Lib.hid (And.intro (Ps.mk ⟨_, hA4⟩ ⟨_, hR5⟩ hI.out l4) X4)
                clear C2 G hA X3 l3 Y3 st4 hR4 hA4 hR5 X4 l4 Y4 hI
                cases tt
                all_goals
                  go_wp2
                  go_meet
                  exact ⟨rfl, _, _, K.out.1, K.out.2⟩
            · by_cases o2' : xo = 2
              · skip
                as_aux_lemma =>
                  have u0 : (xo == 0) = false := by simp [o0]
                  have u1 : (xo == 1) = false := by simp [o1]
                  have u2 : (xo == 2) = true := by simp [o2']
                  clear o2'
                  obtain ⟨P1, BX⟩ := F.out
                  have hinv := P1.inv
                  have hle : L.length ≤ 1000 := Nat.le_trans hinv.le hinv.room2
                  have C1 := Lib.hid (fun (o' : Nat → Nat) (w' : World) (v' : Value) (h' : Pl o' 1 w' a n v' L) => pmove xi xk _ _ h' hinv rfl rfl)
                  have C2 := Lib.hid (fun (o' : Nat → Nat) (w' : World) (v' : Value) (h' : Rp o' 2 w' b n v' L) => rmove xi xk _ _ h' hle rfl rfl)
                  have hI := Lib.hid (hinv.move xi xk)
                  have D := Lib.hid (And.intro (P1.on (below_dN (Below.refl _ _) 1)) (⟨BX.at_, BX.mine⟩ : Blk oA 4 wc.drew X #[.int .i64 xi, .int .i64 xk, .int .i64 xt] 29))
                  (try unfold vI at C1 C2)
                  (try simp only at C1 C2)
                  clear hinv P1 BX F
                  go_wp2_with fail
                  go_region_held3 (fun w' => w'.cell? ⟨X, 0, none⟩ = some (.int .i64 xi) ∧ w'.cell? ⟨X, 1, none⟩ = some (.int .i64 xk) ∧ w'.cell? ⟨X, 2, none⟩ = some (.int .i64 xt))
                    (first | exact ⟨by rw [((D.out.2.step st3 (by decide)).step st4 (by decide)).cell]; rfl, by rw [((D.out.2.step st3 (by decide)).step st4 (by decide)).cell]; rfl, by rw [((D.out.2.step st3 (by decide)).step st4 (by decide)).cell]; rfl⟩ | exact ⟨by rw [(D.out.2.step st3 (by decide)).cell]; rfl, by rw [(D.out.2.step st3 (by decide)).cell]; rfl, by rw [(D.out.2.step st3 (by decide)).cell]; rfl⟩ | exact ⟨by rw [D.out.2.cell]; rfl, by rw [D.out.2.cell]; rfl, by rw [D.out.2.cell]; rfl⟩)
                    (first
                      | (go_at_call 12; obtain ⟨vp, hvp⟩ := D.out.1.pl; refine (C1.out _ _ vp hvp).mono ?_; rintro e w3 ⟨rfl, o3, v3, st3, hA3⟩)
                      | (go_at_call 17; obtain ⟨vr, hvr⟩ := D.out.1.rf; refine (C2.out o3 _ vr (hvr.step st3 (by decide))).mono ?_; rintro e w4 ⟨rfl, o4, v4, st4, hR4⟩))
                  have Q6 := Lib.hid (And.intro (D.out.1.both st3 ⟨v3, hA3⟩ st4 ⟨v4, hR4⟩ hI.out) ((D.out.2.step st3 (by decide)).step st4 (by decide)))
                  clear C1 C2 hI D hvp hvr st3 hA3 st4 hR4 x0 x1 x2
                  go_wp2
                  go_meet
                  exact ⟨by simp, o4, _, Q6.out.1, Q6.out.2⟩
              · skip
                as_aux_lemma =>
                  have u0 : (xo == 0) = false := by simp [o0]
                  have u1 : (xo == 1) = false := by simp [o1]
                  have u2 : (xo == 2) = false := by simp [o2']
                  obtain ⟨P1, BX⟩ := F.out
                  have hinv := P1.inv
                  have hle : L.length ≤ 1000 := Nat.le_trans hinv.le hinv.room2
                  have C1 := Lib.hid (fun (o' : Nat → Nat) (w' : World) (v' : Value) (h' : Pl o' 1 w' a n v' L) => pdrop xi _ _ h' hle rfl rfl)
                  have C2 := Lib.hid (fun (o' : Nat → Nat) (w' : World) (v' : Value) (h' : Rp o' 2 w' b n v' L) => rdrop xi _ _ h' hle rfl rfl)
                  have hI := Lib.hid (hinv.drop xi)
                  have D := Lib.hid (And.intro (P1.on (below_dN (Below.refl _ _) 1)) (⟨BX.at_, BX.mine⟩ : Blk oA 4 wc.drew X #[.int .i64 xi, .int .i64 xk, .int .i64 xt] 29))
                  (try unfold vI at C1 C2)
                  (try simp only at C1 C2)
                  clear hinv P1 BX F
                  go_wp2_with fail
                  go_region_held3 (fun w' => w'.cell? ⟨X, 0, none⟩ = some (.int .i64 xi) ∧ w'.cell? ⟨X, 1, none⟩ = some (.int .i64 xk) ∧ w'.cell? ⟨X, 2, none⟩ = some (.int .i64 xt))
                    (first | exact ⟨by rw [((D.out.2.step st3 (by decide)).step st4 (by decide)).cell]; rfl, by rw [((D.out.2.step st3 (by decide)).step st4 (by decide)).cell]; rfl, by rw [((D.out.2.step st3 (by decide)).step st4 (by decide)).cell]; rfl⟩ | exact ⟨by rw [(D.out.2.step st3 (by decide)).cell]; rfl, by rw [(D.out.2.step st3 (by decide)).cell]; rfl, by rw [(D.out.2.step st3 (by decide)).cell]; rfl⟩ | exact ⟨by rw [D.out.2.cell]; rfl, by rw [D.out.2.cell]; rfl, by rw [D.out.2.cell]; rfl⟩)
                    (first
                      | (go_at_call 14; obtain ⟨vp, hvp⟩ := D.out.1.pl; refine (C1.out _ _ vp hvp).mono ?_; rintro e w3 ⟨rfl, o3, v3, st3, hA3⟩)
                      | (go_at_call 18; obtain ⟨vr, hvr⟩ := D.out.1.rf; refine (C2.out o3 _ vr (hvr.step st3 (by decide))).mono ?_; rintro e w4 ⟨rfl, o4, v4, st4, hR4⟩))
                  have Q6 := Lib.hid (And.intro (D.out.1.both st3 ⟨v3, hA3⟩ st4 ⟨v4, hR4⟩ hI.out) ((D.out.2.step st3 (by decide)).step st4 (by decide)))
                  clear C1 C2 hI D hvp hvr st3 hA3 st4 hR4 x0 x1 x2
                  go_wp2
                  go_meet
                  exact ⟨by simp, o4, _, Q6.out.1, Q6.out.2⟩
        case rest =>
          obtain ⟨rfl, o3, L3, P3, BX⟩ := hcut
          clear F
          as_aux_lemma =>
            have hinv := P3.inv
            have hle : L3.length ≤ 1000 := Nat.le_trans hinv.le hinv.room2
            obtain ⟨⟨⟨yi, yk, yt⟩, tt⟩, hT⟩ : ∃ q, topI L3 = q := ⟨_, rfl⟩
            obtain ⟨vp, hvp⟩ := P3.pl
            have C1 := Lib.hid (ptop (yi, yk, yt) tt hvp hle hT)
            (try unfold vI at C1)
            (try simp only at C1)
            have F := Lib.hid (And.intro P3 BX)
            clear P3 BX hvp hinv
            go_wp2_with fail
            refine C1.out.mono ?_
            rintro e w5 ⟨rfl, b5⟩
            have P5 := (F.out.1.on b5).alloc (.cells #[.int .i64 yi, .int .i64 yk, .int .i64 yt] 29) 4
            have X5 := (F.out.2.below b5).alloc (.cells #[.int .i64 yi, .int .i64 yk, .int .i64 yt] 29) 4
            have Y5 := Blk.made o3 4 w5 #[.int .i64 yi, .int .i64 yk, .int .i64 yt] 29
            clear C1 F b5
            go_wp2
            generalize tag o3 w5.heap.size 4 = oS at *
            generalize w5.alloc (.cells #[.int .i64 yi, .int .i64 yk, .int .i64 yt] 29) = wS at *
            generalize w5.heap.size = T at *
            obtain ⟨vr, hvr⟩ := P5.rf
            obtain ⟨A2, c2, rfl⟩ := hvr.row.any
            obtain ⟨hk1, hk2⟩ := hvr.row.caps
            obtain ⟨vp5, hvp5⟩ := P5.pl
            obtain ⟨fi, hfi⟩ : ∃ f, idxI xi L3 = f := ⟨_, rfl⟩
            obtain ⟨r, hr⟩ : ∃ r, decide (0 ≤ fi) = r := ⟨_, rfl⟩
            have CA := Lib.hid (fun (W : World) (hb : Below wS.heap.size wS W) => pall (hvp5.below hb) hle)
            have CI := Lib.hid (fun (W : World) (hb : Below wS.heap.size wS W) (A6 : Option Addr) (c6 : Nat) (hr : RdI W A6 L3) (h1 : L3.length ≤ c6) (h2 : c6 ≤ 9223372036854775807) => items_any A6 A2 c6 c2 L3 W hle hr ((hvr.below hb).row.rd) h1 hk1 h2 hk2)
            have CH := Lib.hid (fun (W : World) (hb : Below wS.heap.size wS W) => phas xi r (hvp5.below hb) hle (by rw [hfi]; exact hr))
            have CF := Lib.hid (fun (W : World) (hb : Below wS.heap.size wS W) => rfind xi fi (hvr.below hb) hle hfi)
            have e1 : wS.cell? ⟨b, 1, none⟩ = some (.slice A2 L3.length c2) := by rw [hvr.box.cell]; rfl
            have x0 : wS.cell? ⟨X, 0, none⟩ = some (.int .i64 xi) := by rw [X5.cell]; rfl
            have y0 : wS.cell? ⟨T, 0, none⟩ = some (.int .i64 yi) := by rw [Y5.cell]; rfl
            have lb := hvr.box.lt
            have lx := X5.lt
            have lt := Y5.lt
            have hrd2 := hvr.row.rd
            have hr' : decide (fi ≥ 0) = r := hr
            have hrr : (r != r) = false := by simp
            have F5 := Lib.hid P5
            clear P5 X5 Y5 hvr hvp5 hfi hr
            cases hLL : L3 with
            | nil =>
              subst hLL
              simp only [topI, Prod.mk.injEq] at hT
              obtain ⟨⟨rfl, rfl, rfl⟩, rfl⟩ := hT
              have KC := Lib.hid (show ∀ W, Below wS.heap.size wS W → W.cell? ⟨X, 0, none⟩ = some (.int .i64 xi) ∧ W.cell? ⟨b, 1, none⟩ = some (.slice A2 0 c2) from fun W hb => ⟨by rw [hb.cell (p := ⟨X, 0, none⟩) lx]; exact x0, by rw [hb.cell (p := ⟨b, 1, none⟩) lb]; exact e1⟩)
              simp only [List.length_nil] at e1
              clear hrd2
              cases r with
              | false =>
                as_aux_lemma =>
                  have hr2 : decide (0 ≤ fi) = false := hr'
                  have hr3 : ¬ (0 ≤ fi) := by simpa using hr2
                  clear hr3
                  refine wp_region_held_drew (S := (fun W => W.cell? ⟨X, 0, none⟩ = some (.int .i64 xi) ∧ W.cell? ⟨b, 1, none⟩ = some (.slice A2 0 c2))) (by kernel_rfl) ?_ (fun hHeld => ?_)
                  · exact KC.out _ (Below.drew (Below.refl _ _))
                  refine wpAnyH_take (i := 0) (v := (.bool true)) rfl (by kernel_rfl) (by kernel_rfl) (by kernel_rfl) (fun _ _ _ h => h) (Or.inl ⟨by rfl, ?_⟩) hHeld ?_
                  · intro w hSw; obtain ⟨s0, s1⟩ := hSw; go_simp
                  try simp only [List.getElem_toArray, List.getElem_cons_zero, List.getElem_cons_succ, Act.put, List.setIfInBounds_toArray, List.set_cons_zero, List.set_cons_succ]
                  refine wpAnyH_take (i := 1) (v := (.bool false)) rfl (by kernel_rfl) (by kernel_rfl) (by kernel_rfl) (fun _ _ _ h => h) (Or.inl ⟨by rfl, ?_⟩) hHeld ?_
                  · intro w hSw; obtain ⟨s0, s1⟩ := hSw; go_simp
                  try simp only [List.getElem_toArray, List.getElem_cons_zero, List.getElem_cons_succ, Act.put, List.setIfInBounds_toArray, List.set_cons_zero, List.set_cons_succ]
                  refine wpAnyH_take (i := 2) (v := (.bool false)) rfl (by kernel_rfl) (by kernel_rfl) (by kernel_rfl) (fun _ _ _ h => h) (Or.inl ⟨by rfl, ?_⟩) hHeld ?_
                  · intro w hSw; obtain ⟨s0, s1⟩ := hSw; go_simp
                  try simp only [List.getElem_toArray, List.getElem_cons_zero, List.getElem_cons_succ, Act.put, List.setIfInBounds_toArray, List.set_cons_zero, List.set_cons_succ]
                  refine wpAnyH_take (i := 3) (v := (.pointer (some ⟨a, 0, none⟩))) rfl (by kernel_rfl) (by kernel_rfl) (by kernel_rfl) (fun _ _ _ h => h) (Or.inl ⟨by rfl, ?_⟩) hHeld ?_
                  · intro w hSw; obtain ⟨s0, s1⟩ := hSw; go_simp
                  try simp only [List.getElem_toArray, List.getElem_cons_zero, List.getElem_cons_succ, Act.put, List.setIfInBounds_toArray, List.set_cons_zero, List.set_cons_succ]
                  refine wpAnyH_take (i := 5) (v := (.pointer (some ⟨b, 0, none⟩))) rfl (by kernel_rfl) (by kernel_rfl) (by kernel_rfl) (fun _ _ _ h => h) (Or.inl ⟨by rfl, ?_⟩) hHeld ?_
                  · intro w hSw; obtain ⟨s0, s1⟩ := hSw; go_simp
                  try simp only [List.getElem_toArray, List.getElem_cons_zero, List.getElem_cons_succ, Act.put, List.setIfInBounds_toArray, List.set_cons_zero, List.set_cons_succ]
                  refine wpAnyH_take (i := 6) (v := (.pointer (some ⟨b, 0, none⟩))) rfl (by kernel_rfl) (by kernel_rfl) (by kernel_rfl) (fun _ _ _ h => h) (Or.inl ⟨by rfl, ?_⟩) hHeld ?_
                  · intro w hSw; obtain ⟨s0, s1⟩ := hSw; go_simp
                  try simp only [List.getElem_toArray, List.getElem_cons_zero, List.getElem_cons_succ, Act.put, List.setIfInBounds_toArray, List.set_cons_zero, List.set_cons_succ]
                  refine wpAnyH_take (i := 7) (v := (.pointer (some ⟨b, 1, none⟩))) rfl (by kernel_rfl) (by kernel_rfl) (by kernel_rfl) (fun _ _ _ h => h) (Or.inl ⟨by rfl, ?_⟩) hHeld ?_
                  · intro w hSw; obtain ⟨s0, s1⟩ := hSw; go_simp
                  try simp only [List.getElem_toArray, List.getElem_cons_zero, List.getElem_cons_succ, Act.put, List.setIfInBounds_toArray, List.set_cons_zero, List.set_cons_succ]
                  refine wpAnyH_take (i := 8) (v := (.slice A2 0 c2)) rfl (by kernel_rfl) (by kernel_rfl) (by kernel_rfl) (fun _ _ _ h => h) (Or.inl ⟨by rfl, ?_⟩) hHeld ?_
                  · intro w hSw; obtain ⟨s0, s1⟩ := hSw; go_simp
                  try simp only [List.getElem_toArray, List.getElem_cons_zero, List.getElem_cons_succ, Act.put, List.setIfInBounds_toArray, List.set_cons_zero, List.set_cons_succ]
                  refine wpAnyH_ready (rs := [4]) (by kernel_rfl) (by simp) ?_
                  refine AllReadyH.cons rfl (fun K hK => ?_) AllReadyH.nil
                  clear hHeld
                  go_simp
                  refine (CA.out _ (Below.drew (Below.refl _ _))).mono ?_
                  rintro e w6 ⟨v6, rfl, hown6, b6⟩
                  obtain ⟨A6, c6, rfl⟩ := own_any hown6
                  have hB1 : Below wS.heap.size wS w6 := Below.trans (Below.drew (Below.refl _ _)) b6
                  have O6 := Lib.hid hown6
                  clear hown6 b6
                  refine hK.out _ _ ?_ (fun hHeld => ?_)
                  · exact KC.out _ hB1
                  clear hK K
                  try simp only [List.getElem_toArray, List.getElem_cons_zero, List.getElem_cons_succ, Act.put, List.setIfInBounds_toArray, List.set_cons_zero, List.set_cons_succ]
                  refine wpAnyH_ready (rs := [9]) (by kernel_rfl) (by simp) ?_
                  refine AllReadyH.cons rfl (fun K hK => ?_) AllReadyH.nil
                  clear hHeld
                  go_simp
                  refine (CI.out _ hB1 A6 c6 (own_rd O6.out).1 (own_rd O6.out).2.1 (own_rd O6.out).2.2).mono ?_
                  rintro e w7 ⟨rfl, n7, rfl⟩
                  have hB2 := below_dN hB1 n7
                  refine hK.out _ _ ?_ (fun hHeld => ?_)
                  · exact KC.out _ hB2
                  clear hK K
                  try simp only [List.getElem_toArray, List.getElem_cons_zero, List.getElem_cons_succ, Act.put, List.setIfInBounds_toArray, List.set_cons_zero, List.set_cons_succ]
                  refine wpAnyH_take (i := 10) (v := (.bool false)) rfl (by kernel_rfl) (by kernel_rfl) (by kernel_rfl) (fun _ _ _ h => h) (Or.inl ⟨by rfl, ?_⟩) hHeld ?_
                  · intro w hSw; obtain ⟨s0, s1⟩ := hSw; go_simp
                  try simp only [List.getElem_toArray, List.getElem_cons_zero, List.getElem_cons_succ, Act.put, List.setIfInBounds_toArray, List.set_cons_zero, List.set_cons_succ]
                  refine wpAnyH_take (i := 11) (v := (.bool false)) rfl (by kernel_rfl) (by kernel_rfl) (by kernel_rfl) (fun _ _ _ h => h) (Or.inl ⟨by rfl, ?_⟩) hHeld ?_
                  · intro w hSw; obtain ⟨s0, s1⟩ := hSw; go_simp
                  try simp only [List.getElem_toArray, List.getElem_cons_zero, List.getElem_cons_succ, Act.put, List.setIfInBounds_toArray, List.set_cons_zero, List.set_cons_succ]
                  refine wpAnyH_take (i := 12) (v := (.bool false)) rfl (by kernel_rfl) (by kernel_rfl) (by kernel_rfl) (fun _ _ _ h => h) (Or.inl ⟨by rfl, ?_⟩) hHeld ?_
                  · intro w hSw; obtain ⟨s0, s1⟩ := hSw; go_simp
                  try simp only [List.getElem_toArray, List.getElem_cons_zero, List.getElem_cons_succ, Act.put, List.setIfInBounds_toArray, List.set_cons_zero, List.set_cons_succ]
                  refine wpAnyH_take (i := 13) (v := (.pointer (some ⟨a, 0, none⟩))) rfl (by kernel_rfl) (by kernel_rfl) (by kernel_rfl) (fun _ _ _ h => h) (Or.inl ⟨by rfl, ?_⟩) hHeld ?_
                  · intro w hSw; obtain ⟨s0, s1⟩ := hSw; go_simp
                  try simp only [List.getElem_toArray, List.getElem_cons_zero, List.getElem_cons_succ, Act.put, List.setIfInBounds_toArray, List.set_cons_zero, List.set_cons_succ]
                  refine wpAnyH_take (i := 14) (v := (.pointer (some ⟨X, 0, none⟩))) rfl (by kernel_rfl) (by kernel_rfl) (by kernel_rfl) (fun _ _ _ h => h) (Or.inl ⟨by rfl, ?_⟩) hHeld ?_
                  · intro w hSw; obtain ⟨s0, s1⟩ := hSw; go_simp
                  try simp only [List.getElem_toArray, List.getElem_cons_zero, List.getElem_cons_succ, Act.put, List.setIfInBounds_toArray, List.set_cons_zero, List.set_cons_succ]
                  refine wpAnyH_take (i := 15) (v := (.int .i64 xi)) rfl (by kernel_rfl) (by kernel_rfl) (by kernel_rfl) (fun _ _ _ h => h) (Or.inl ⟨by rfl, ?_⟩) hHeld ?_
                  · intro w hSw; obtain ⟨s0, s1⟩ := hSw; go_simp
                  try simp only [List.getElem_toArray, List.getElem_cons_zero, List.getElem_cons_succ, Act.put, List.setIfInBounds_toArray, List.set_cons_zero, List.set_cons_succ]
                  refine wpAnyH_take (i := 17) (v := (.pointer (some ⟨b, 0, none⟩))) rfl (by kernel_rfl) (by kernel_rfl) (by kernel_rfl) (fun _ _ _ h => h) (Or.inl ⟨by rfl, ?_⟩) hHeld ?_
                  · intro w hSw; obtain ⟨s0, s1⟩ := hSw; go_simp
                  try simp only [List.getElem_toArray, List.getElem_cons_zero, List.getElem_cons_succ, Act.put, List.setIfInBounds_toArray, List.set_cons_zero, List.set_cons_succ]
                  refine wpAnyH_take (i := 18) (v := (.pointer (some ⟨X, 0, none⟩))) rfl (by kernel_rfl) (by kernel_rfl) (by kernel_rfl) (fun _ _ _ h => h) (Or.inl ⟨by rfl, ?_⟩) hHeld ?_
                  · intro w hSw; obtain ⟨s0, s1⟩ := hSw; go_simp
                  try simp only [List.getElem_toArray, List.getElem_cons_zero, List.getElem_cons_succ, Act.put, List.setIfInBounds_toArray, List.set_cons_zero, List.set_cons_succ]
                  refine wpAnyH_take (i := 19) (v := (.int .i64 xi)) rfl (by kernel_rfl) (by kernel_rfl) (by kernel_rfl) (fun _ _ _ h => h) (Or.inl ⟨by rfl, ?_⟩) hHeld ?_
                  · intro w hSw; obtain ⟨s0, s1⟩ := hSw; go_simp
                  try simp only [List.getElem_toArray, List.getElem_cons_zero, List.getElem_cons_succ, Act.put, List.setIfInBounds_toArray, List.set_cons_zero, List.set_cons_succ]
                  refine wpAnyH_ready (rs := [16]) (by kernel_rfl) (by simp) ?_
                  refine AllReadyH.cons rfl (fun K hK => ?_) AllReadyH.nil
                  clear hHeld
                  go_simp
                  refine (CH.out _ hB2).mono ?_
                  rintro e w8 ⟨rfl, b8⟩
                  have hB3 := below_on hB2 b8
                  clear b8
                  refine hK.out _ _ ?_ (fun hHeld => ?_)
                  · exact KC.out _ hB3
                  clear hK K
                  try simp only [List.getElem_toArray, List.getElem_cons_zero, List.getElem_cons_succ, Act.put, List.setIfInBounds_toArray, List.set_cons_zero, List.set_cons_succ]
                  refine wpAnyH_ready (rs := [20]) (by kernel_rfl) (by simp) ?_
                  refine AllReadyH.cons rfl (fun K hK => ?_) AllReadyH.nil
                  clear hHeld
                  go_simp
                  refine (CF.out _ hB3).mono ?_
                  rintro e w9 ⟨rfl, rfl⟩
                  refine hK.out _ _ ?_ (fun hHeld => ?_)
                  · exact KC.out _ hB3
                  clear hK K
                  try simp only [List.getElem_toArray, List.getElem_cons_zero, List.getElem_cons_succ, Act.put, List.setIfInBounds_toArray, List.set_cons_zero, List.set_cons_succ]
                  refine wpAnyH_take (i := 21) (v := (.bool false)) rfl (by kernel_rfl) (by kernel_rfl) (by kernel_rfl) (fun _ _ _ h => h) (Or.inl ⟨by rfl, ?_⟩) hHeld ?_
                  · intro w hSw; obtain ⟨s0, s1⟩ := hSw; go_simp
                  try simp only [List.getElem_toArray, List.getElem_cons_zero, List.getElem_cons_succ, Act.put, List.setIfInBounds_toArray, List.set_cons_zero, List.set_cons_succ]
                  refine wpAnyH_take (i := 22) (v := (.bool false)) rfl (by kernel_rfl) (by kernel_rfl) (by kernel_rfl) (fun _ _ _ h => h) (Or.inl ⟨by rfl, ?_⟩) hHeld ?_
                  · intro w hSw; obtain ⟨s0, s1⟩ := hSw; go_simp
                  try simp only [List.getElem_toArray, List.getElem_cons_zero, List.getElem_cons_succ, Act.put, List.setIfInBounds_toArray, List.set_cons_zero, List.set_cons_succ]
                  refine wpAnyH_take (i := 23) (v := (.bool false)) rfl (by kernel_rfl) (by kernel_rfl) (by kernel_rfl) (fun _ _ _ h => h) (Or.inl ⟨by rfl, ?_⟩) hHeld ?_
                  · intro w hSw; obtain ⟨s0, s1⟩ := hSw; go_simp
                  try simp only [List.getElem_toArray, List.getElem_cons_zero, List.getElem_cons_succ, Act.put, List.setIfInBounds_toArray, List.set_cons_zero, List.set_cons_succ]
                  refine wpAnyH_take (i := 24) (v := (.bool false)) rfl (by kernel_rfl) (by kernel_rfl) (by kernel_rfl) (fun _ _ _ h => h) (Or.inl ⟨by rfl, ?_⟩) hHeld ?_
                  · intro w hSw; obtain ⟨s0, s1⟩ := hSw; go_simp
                  try simp only [List.getElem_toArray, List.getElem_cons_zero, List.getElem_cons_succ, Act.put, List.setIfInBounds_toArray, List.set_cons_zero, List.set_cons_succ]
                  refine wpAnyH_take (i := 25) (v := (.bool false)) rfl (by kernel_rfl) (by kernel_rfl) (by kernel_rfl) (fun _ _ _ h => h) (Or.inl ⟨by rfl, ?_⟩) hHeld ?_
                  · intro w hSw; obtain ⟨s0, s1⟩ := hSw; go_simp
                  try simp only [List.getElem_toArray, List.getElem_cons_zero, List.getElem_cons_succ, Act.put, List.setIfInBounds_toArray, List.set_cons_zero, List.set_cons_succ]
                  refine wpAnyH_take (i := 26) (v := (.pointer (some ⟨b, 0, none⟩))) rfl (by kernel_rfl) (by kernel_rfl) (by kernel_rfl) (fun _ _ _ h => h) (Or.inl ⟨by rfl, ?_⟩) hHeld ?_
                  · intro w hSw; obtain ⟨s0, s1⟩ := hSw; go_simp
                  try simp only [List.getElem_toArray, List.getElem_cons_zero, List.getElem_cons_succ, Act.put, List.setIfInBounds_toArray, List.set_cons_zero, List.set_cons_succ]
                  refine wpAnyH_take (i := 27) (v := (.pointer (some ⟨b, 0, none⟩))) rfl (by kernel_rfl) (by kernel_rfl) (by kernel_rfl) (fun _ _ _ h => h) (Or.inl ⟨by rfl, ?_⟩) hHeld ?_
                  · intro w hSw; obtain ⟨s0, s1⟩ := hSw; go_simp
                  try simp only [List.getElem_toArray, List.getElem_cons_zero, List.getElem_cons_succ, Act.put, List.setIfInBounds_toArray, List.set_cons_zero, List.set_cons_succ]
                  refine wpAnyH_take (i := 28) (v := (.pointer (some ⟨b, 1, none⟩))) rfl (by kernel_rfl) (by kernel_rfl) (by kernel_rfl) (fun _ _ _ h => h) (Or.inl ⟨by rfl, ?_⟩) hHeld ?_
                  · intro w hSw; obtain ⟨s0, s1⟩ := hSw; go_simp
                  try simp only [List.getElem_toArray, List.getElem_cons_zero, List.getElem_cons_succ, Act.put, List.setIfInBounds_toArray, List.set_cons_zero, List.set_cons_succ]
                  refine wpAnyH_take (i := 29) (v := (.slice A2 0 c2)) rfl (by kernel_rfl) (by kernel_rfl) (by kernel_rfl) (fun _ _ _ h => h) (Or.inl ⟨by rfl, ?_⟩) hHeld ?_
                  · intro w hSw; obtain ⟨s0, s1⟩ := hSw; go_simp
                  try simp only [List.getElem_toArray, List.getElem_cons_zero, List.getElem_cons_succ, Act.put, List.setIfInBounds_toArray, List.set_cons_zero, List.set_cons_succ]
                  refine wpAnyH_take (i := 30) (v := (.int .i64 0)) rfl (by kernel_rfl) (by kernel_rfl) (by kernel_rfl) (fun _ _ _ h => h) (Or.inl ⟨by rfl, ?_⟩) hHeld ?_
                  · intro w hSw; obtain ⟨s0, s1⟩ := hSw; go_simp
                  try simp only [List.getElem_toArray, List.getElem_cons_zero, List.getElem_cons_succ, Act.put, List.setIfInBounds_toArray, List.set_cons_zero, List.set_cons_succ]
                  refine wpAnyH_take (i := 31) (v := (.bool false)) rfl (by kernel_rfl) (by kernel_rfl) (by kernel_rfl) (fun _ _ _ h => h) (Or.inl ⟨by rfl, ?_⟩) hHeld ?_
                  · intro w hSw; obtain ⟨s0, s1⟩ := hSw; go_simp
                  try simp only [List.getElem_toArray, List.getElem_cons_zero, List.getElem_cons_succ, Act.put, List.setIfInBounds_toArray, List.set_cons_zero, List.set_cons_succ]
                  refine wpAnyH_take (i := 32) (v := (.bool false)) rfl (by kernel_rfl) (by kernel_rfl) (by kernel_rfl) (fun _ _ _ h => h) (Or.inl ⟨by rfl, ?_⟩) hHeld ?_
                  · intro w hSw; obtain ⟨s0, s1⟩ := hSw; go_simp
                  try simp only [List.getElem_toArray, List.getElem_cons_zero, List.getElem_cons_succ, Act.put, List.setIfInBounds_toArray, List.set_cons_zero, List.set_cons_succ]
                  refine wpAnyH_take (i := 33) (v := (.bool false)) rfl (by kernel_rfl) (by kernel_rfl) (by kernel_rfl) (fun _ _ _ h => h) (Or.inl ⟨by rfl, ?_⟩) hHeld ?_
                  · intro w hSw; obtain ⟨s0, s1⟩ := hSw; go_simp
                  try simp only [List.getElem_toArray, List.getElem_cons_zero, List.getElem_cons_succ, Act.put, List.setIfInBounds_toArray, List.set_cons_zero, List.set_cons_succ]
                  refine wpAnyH_take (i := 34) (v := (.bool false)) rfl (by kernel_rfl) (by kernel_rfl) (by kernel_rfl) (fun _ _ _ h => h) (Or.inl ⟨by rfl, ?_⟩) hHeld ?_
                  · intro w hSw; obtain ⟨s0, s1⟩ := hSw; go_simp
                  try simp only [List.getElem_toArray, List.getElem_cons_zero, List.getElem_cons_succ, Act.put, List.setIfInBounds_toArray, List.set_cons_zero, List.set_cons_succ]
                  refine wpAnyH_take (i := 35) (v := (.bool false)) rfl (by kernel_rfl) (by kernel_rfl) (by kernel_rfl) (fun _ _ _ h => h) (Or.inl ⟨by rfl, ?_⟩) hHeld ?_
                  · intro w hSw; obtain ⟨s0, s1⟩ := hSw; go_simp
                  try simp only [List.getElem_toArray, List.getElem_cons_zero, List.getElem_cons_succ, Act.put, List.setIfInBounds_toArray, List.set_cons_zero, List.set_cons_succ]
                  refine wpAnyH_take (i := 36) (v := (.bool false)) rfl (by kernel_rfl) (by kernel_rfl) (by kernel_rfl) (fun _ _ _ h => h) (Or.inl ⟨by rfl, ?_⟩) hHeld ?_
                  · intro w hSw; obtain ⟨s0, s1⟩ := hSw; go_simp
                  try simp only [List.getElem_toArray, List.getElem_cons_zero, List.getElem_cons_succ, Act.put, List.setIfInBounds_toArray, List.set_cons_zero, List.set_cons_succ]
                  refine wpAnyH_take (i := 37) (v := undef) rfl (by kernel_rfl) (by kernel_rfl) (by kernel_rfl) (fun _ _ _ h => h) (Or.inr ⟨by rfl, rfl⟩) hHeld ?_
                  try simp only [List.getElem_toArray, List.getElem_cons_zero, List.getElem_cons_succ, Act.put, List.setIfInBounds_toArray, List.set_cons_zero, List.set_cons_succ]
                  refine wpAnyH_take (i := 38) (v := undef) rfl (by kernel_rfl) (by kernel_rfl) (by kernel_rfl) (fun _ _ _ h => h) (Or.inr ⟨by rfl, rfl⟩) hHeld ?_
                  try simp only [List.getElem_toArray, List.getElem_cons_zero, List.getElem_cons_succ, Act.put, List.setIfInBounds_toArray, List.set_cons_zero, List.set_cons_succ]
                  refine wpAnyH_take (i := 39) (v := undef) rfl (by kernel_rfl) (by kernel_rfl) (by kernel_rfl) (fun _ _ _ h => h) (Or.inr ⟨by rfl, rfl⟩) hHeld ?_
                  try simp only [List.getElem_toArray, List.getElem_cons_zero, List.getElem_cons_succ, Act.put, List.setIfInBounds_toArray, List.set_cons_zero, List.set_cons_succ]
                  refine wpAnyH_take (i := 40) (v := undef) rfl (by kernel_rfl) (by kernel_rfl) (by kernel_rfl) (fun _ _ _ h => h) (Or.inr ⟨by rfl, rfl⟩) hHeld ?_
                  try simp only [List.getElem_toArray, List.getElem_cons_zero, List.getElem_cons_succ, Act.put, List.setIfInBounds_toArray, List.set_cons_zero, List.set_cons_succ]
                  refine wpAnyH_take (i := 41) (v := undef) rfl (by kernel_rfl) (by kernel_rfl) (by kernel_rfl) (fun _ _ _ h => h) (Or.inr ⟨by rfl, rfl⟩) hHeld ?_
                  try simp only [List.getElem_toArray, List.getElem_cons_zero, List.getElem_cons_succ, Act.put, List.setIfInBounds_toArray, List.set_cons_zero, List.set_cons_succ]
                  refine wpAnyH_take (i := 42) (v := undef) rfl (by kernel_rfl) (by kernel_rfl) (by kernel_rfl) (fun _ _ _ h => h) (Or.inr ⟨by rfl, rfl⟩) hHeld ?_
                  try simp only [List.getElem_toArray, List.getElem_cons_zero, List.getElem_cons_succ, Act.put, List.setIfInBounds_toArray, List.set_cons_zero, List.set_cons_succ]
                  refine wpAnyH_take (i := 43) (v := undef) rfl (by kernel_rfl) (by kernel_rfl) (by kernel_rfl) (fun _ _ _ h => h) (Or.inr ⟨by rfl, rfl⟩) hHeld ?_
                  try simp only [List.getElem_toArray, List.getElem_cons_zero, List.getElem_cons_succ, Act.put, List.setIfInBounds_toArray, List.set_cons_zero, List.set_cons_succ]
                  refine wpAnyH_take (i := 44) (v := undef) rfl (by kernel_rfl) (by kernel_rfl) (by kernel_rfl) (fun _ _ _ h => h) (Or.inr ⟨by rfl, rfl⟩) hHeld ?_
                  try simp only [List.getElem_toArray, List.getElem_cons_zero, List.getElem_cons_succ, Act.put, List.setIfInBounds_toArray, List.set_cons_zero, List.set_cons_succ]
                  refine wpAnyH_take (i := 45) (v := undef) rfl (by kernel_rfl) (by kernel_rfl) (by kernel_rfl) (fun _ _ _ h => h) (Or.inr ⟨by rfl, rfl⟩) hHeld ?_
                  try simp only [List.getElem_toArray, List.getElem_cons_zero, List.getElem_cons_succ, Act.put, List.setIfInBounds_toArray, List.set_cons_zero, List.set_cons_succ]
                  refine wpAnyH_take (i := 46) (v := undef) rfl (by kernel_rfl) (by kernel_rfl) (by kernel_rfl) (fun _ _ _ h => h) (Or.inr ⟨by rfl, rfl⟩) hHeld ?_
                  try simp only [List.getElem_toArray, List.getElem_cons_zero, List.getElem_cons_succ, Act.put, List.setIfInBounds_toArray, List.set_cons_zero, List.set_cons_succ]
                  refine wpAnyH_take (i := 47) (v := (.bool false)) rfl (by kernel_rfl) (by kernel_rfl) (by kernel_rfl) (fun _ _ _ h => h) (Or.inl ⟨by rfl, ?_⟩) hHeld ?_
                  · intro w hSw; obtain ⟨s0, s1⟩ := hSw; go_simp
                  try simp only [List.getElem_toArray, List.getElem_cons_zero, List.getElem_cons_succ, Act.put, List.setIfInBounds_toArray, List.set_cons_zero, List.set_cons_succ]
                  refine wpAnyH_take (i := 48) (v := (.bool false)) rfl (by kernel_rfl) (by kernel_rfl) (by kernel_rfl) (fun _ _ _ h => h) (Or.inl ⟨by rfl, ?_⟩) hHeld ?_
                  · intro w hSw; obtain ⟨s0, s1⟩ := hSw; go_simp
                  try simp only [List.getElem_toArray, List.getElem_cons_zero, List.getElem_cons_succ, Act.put, List.setIfInBounds_toArray, List.set_cons_zero, List.set_cons_succ]
                  refine wpAnyH_done (by kernel_rfl) ?_ _
                  replace hB3 := Lib.hid hB3
                  clear hHeld hB1 hB2 O6
                  go_wp2
                  go_roundw
                  case rel => exact ⟨i + 1, oS, _, by simp, by omega, F5.out.on hB3.out⟩
                  case measure => simp [intOf]; omega
              | true =>
                as_aux_lemma =>
                  have hr2 : (0 : Int) ≤ fi := by simpa using hr'
                  refine wp_region_held_drew (S := (fun W => W.cell? ⟨X, 0, none⟩ = some (.int .i64 xi) ∧ W.cell? ⟨b, 1, none⟩ = some (.slice A2 0 c2))) (by kernel_rfl) ?_ (fun hHeld => ?_)
                  · exact KC.out _ (Below.drew (Below.refl _ _))
                  refine wpAnyH_take (i := 0) (v := (.bool true)) rfl (by kernel_rfl) (by kernel_rfl) (by kernel_rfl) (fun _ _ _ h => h) (Or.inl ⟨by rfl, ?_⟩) hHeld ?_
                  · intro w hSw; obtain ⟨s0, s1⟩ := hSw; go_simp
                  try simp only [List.getElem_toArray, List.getElem_cons_zero, List.getElem_cons_succ, Act.put, List.setIfInBounds_toArray, List.set_cons_zero, List.set_cons_succ]
                  refine wpAnyH_take (i := 1) (v := (.bool false)) rfl (by kernel_rfl) (by kernel_rfl) (by kernel_rfl) (fun _ _ _ h => h) (Or.inl ⟨by rfl, ?_⟩) hHeld ?_
                  · intro w hSw; obtain ⟨s0, s1⟩ := hSw; go_simp
                  try simp only [List.getElem_toArray, List.getElem_cons_zero, List.getElem_cons_succ, Act.put, List.setIfInBounds_toArray, List.set_cons_zero, List.set_cons_succ]
                  refine wpAnyH_take (i := 2) (v := (.bool false)) rfl (by kernel_rfl) (by kernel_rfl) (by kernel_rfl) (fun _ _ _ h => h) (Or.inl ⟨by rfl, ?_⟩) hHeld ?_
                  · intro w hSw; obtain ⟨s0, s1⟩ := hSw; go_simp
                  try simp only [List.getElem_toArray, List.getElem_cons_zero, List.getElem_cons_succ, Act.put, List.setIfInBounds_toArray, List.set_cons_zero, List.set_cons_succ]
                  refine wpAnyH_take (i := 3) (v := (.pointer (some ⟨a, 0, none⟩))) rfl (by kernel_rfl) (by kernel_rfl) (by kernel_rfl) (fun _ _ _ h => h) (Or.inl ⟨by rfl, ?_⟩) hHeld ?_
                  · intro w hSw; obtain ⟨s0, s1⟩ := hSw; go_simp
                  try simp only [List.getElem_toArray, List.getElem_cons_zero, List.getElem_cons_succ, Act.put, List.setIfInBounds_toArray, List.set_cons_zero, List.set_cons_succ]
                  refine wpAnyH_take (i := 5) (v := (.pointer (some ⟨b, 0, none⟩))) rfl (by kernel_rfl) (by kernel_rfl) (by kernel_rfl) (fun _ _ _ h => h) (Or.inl ⟨by rfl, ?_⟩) hHeld ?_
                  · intro w hSw; obtain ⟨s0, s1⟩ := hSw; go_simp
                  try simp only [List.getElem_toArray, List.getElem_cons_zero, List.getElem_cons_succ, Act.put, List.setIfInBounds_toArray, List.set_cons_zero, List.set_cons_succ]
                  refine wpAnyH_take (i := 6) (v := (.pointer (some ⟨b, 0, none⟩))) rfl (by kernel_rfl) (by kernel_rfl) (by kernel_rfl) (fun _ _ _ h => h) (Or.inl ⟨by rfl, ?_⟩) hHeld ?_
                  · intro w hSw; obtain ⟨s0, s1⟩ := hSw; go_simp
                  try simp only [List.getElem_toArray, List.getElem_cons_zero, List.getElem_cons_succ, Act.put, List.setIfInBounds_toArray, List.set_cons_zero, List.set_cons_succ]
                  refine wpAnyH_take (i := 7) (v := (.pointer (some ⟨b, 1, none⟩))) rfl (by kernel_rfl) (by kernel_rfl) (by kernel_rfl) (fun _ _ _ h => h) (Or.inl ⟨by rfl, ?_⟩) hHeld ?_
                  · intro w hSw; obtain ⟨s0, s1⟩ := hSw; go_simp
                  try simp only [List.getElem_toArray, List.getElem_cons_zero, List.getElem_cons_succ, Act.put, List.setIfInBounds_toArray, List.set_cons_zero, List.set_cons_succ]
                  refine wpAnyH_take (i := 8) (v := (.slice A2 0 c2)) rfl (by kernel_rfl) (by kernel_rfl) (by kernel_rfl) (fun _ _ _ h => h) (Or.inl ⟨by rfl, ?_⟩) hHeld ?_
                  · intro w hSw; obtain ⟨s0, s1⟩ := hSw; go_simp
                  try simp only [List.getElem_toArray, List.getElem_cons_zero, List.getElem_cons_succ, Act.put, List.setIfInBounds_toArray, List.set_cons_zero, List.set_cons_succ]
                  refine wpAnyH_ready (rs := [4]) (by kernel_rfl) (by simp) ?_
                  refine AllReadyH.cons rfl (fun K hK => ?_) AllReadyH.nil
                  clear hHeld
                  go_simp
                  refine (CA.out _ (Below.drew (Below.refl _ _))).mono ?_
                  rintro e w6 ⟨v6, rfl, hown6, b6⟩
                  obtain ⟨A6, c6, rfl⟩ := own_any hown6
                  have hB1 : Below wS.heap.size wS w6 := Below.trans (Below.drew (Below.refl _ _)) b6
                  have O6 := Lib.hid hown6
                  clear hown6 b6
                  refine hK.out _ _ ?_ (fun hHeld => ?_)
                  · exact KC.out _ hB1
                  clear hK K
                  try simp only [List.getElem_toArray, List.getElem_cons_zero, List.getElem_cons_succ, Act.put, List.setIfInBounds_toArray, List.set_cons_zero, List.set_cons_succ]
                  refine wpAnyH_ready (rs := [9]) (by kernel_rfl) (by simp) ?_
                  refine AllReadyH.cons rfl (fun K hK => ?_) AllReadyH.nil
                  clear hHeld
                  go_simp
                  refine (CI.out _ hB1 A6 c6 (own_rd O6.out).1 (own_rd O6.out).2.1 (own_rd O6.out).2.2).mono ?_
                  rintro e w7 ⟨rfl, n7, rfl⟩
                  have hB2 := below_dN hB1 n7
                  refine hK.out _ _ ?_ (fun hHeld => ?_)
                  · exact KC.out _ hB2
                  clear hK K
                  try simp only [List.getElem_toArray, List.getElem_cons_zero, List.getElem_cons_succ, Act.put, List.setIfInBounds_toArray, List.set_cons_zero, List.set_cons_succ]
                  refine wpAnyH_take (i := 10) (v := (.bool false)) rfl (by kernel_rfl) (by kernel_rfl) (by kernel_rfl) (fun _ _ _ h => h) (Or.inl ⟨by rfl, ?_⟩) hHeld ?_
                  · intro w hSw; obtain ⟨s0, s1⟩ := hSw; go_simp
                  try simp only [List.getElem_toArray, List.getElem_cons_zero, List.getElem_cons_succ, Act.put, List.setIfInBounds_toArray, List.set_cons_zero, List.set_cons_succ]
                  refine wpAnyH_take (i := 11) (v := (.bool false)) rfl (by kernel_rfl) (by kernel_rfl) (by kernel_rfl) (fun _ _ _ h => h) (Or.inl ⟨by rfl, ?_⟩) hHeld ?_
                  · intro w hSw; obtain ⟨s0, s1⟩ := hSw; go_simp
                  try simp only [List.getElem_toArray, List.getElem_cons_zero, List.getElem_cons_succ, Act.put, List.setIfInBounds_toArray, List.set_cons_zero, List.set_cons_succ]
                  refine wpAnyH_take (i := 12) (v := (.bool false)) rfl (by kernel_rfl) (by kernel_rfl) (by kernel_rfl) (fun _ _ _ h => h) (Or.inl ⟨by rfl, ?_⟩) hHeld ?_
                  · intro w hSw; obtain ⟨s0, s1⟩ := hSw; go_simp
                  try simp only [List.getElem_toArray, List.getElem_cons_zero, List.getElem_cons_succ, Act.put, List.setIfInBounds_toArray, List.set_cons_zero, List.set_cons_succ]
                  refine wpAnyH_take (i := 13) (v := (.pointer (some ⟨a, 0, none⟩))) rfl (by kernel_rfl) (by kernel_rfl) (by kernel_rfl) (fun _ _ _ h => h) (Or.inl ⟨by rfl, ?_⟩) hHeld ?_
                  · intro w hSw; obtain ⟨s0, s1⟩ := hSw; go_simp
                  try simp only [List.getElem_toArray, List.getElem_cons_zero, List.getElem_cons_succ, Act.put, List.setIfInBounds_toArray, List.set_cons_zero, List.set_cons_succ]
                  refine wpAnyH_take (i := 14) (v := (.pointer (some ⟨X, 0, none⟩))) rfl (by kernel_rfl) (by kernel_rfl) (by kernel_rfl) (fun _ _ _ h => h) (Or.inl ⟨by rfl, ?_⟩) hHeld ?_
                  · intro w hSw; obtain ⟨s0, s1⟩ := hSw; go_simp
                  try simp only [List.getElem_toArray, List.getElem_cons_zero, List.getElem_cons_succ, Act.put, List.setIfInBounds_toArray, List.set_cons_zero, List.set_cons_succ]
                  refine wpAnyH_take (i := 15) (v := (.int .i64 xi)) rfl (by kernel_rfl) (by kernel_rfl) (by kernel_rfl) (fun _ _ _ h => h) (Or.inl ⟨by rfl, ?_⟩) hHeld ?_
                  · intro w hSw; obtain ⟨s0, s1⟩ := hSw; go_simp
                  try simp only [List.getElem_toArray, List.getElem_cons_zero, List.getElem_cons_succ, Act.put, List.setIfInBounds_toArray, List.set_cons_zero, List.set_cons_succ]
                  refine wpAnyH_take (i := 17) (v := (.pointer (some ⟨b, 0, none⟩))) rfl (by kernel_rfl) (by kernel_rfl) (by kernel_rfl) (fun _ _ _ h => h) (Or.inl ⟨by rfl, ?_⟩) hHeld ?_
                  · intro w hSw; obtain ⟨s0, s1⟩ := hSw; go_simp
                  try simp only [List.getElem_toArray, List.getElem_cons_zero, List.getElem_cons_succ, Act.put, List.setIfInBounds_toArray, List.set_cons_zero, List.set_cons_succ]
                  refine wpAnyH_take (i := 18) (v := (.pointer (some ⟨X, 0, none⟩))) rfl (by kernel_rfl) (by kernel_rfl) (by kernel_rfl) (fun _ _ _ h => h) (Or.inl ⟨by rfl, ?_⟩) hHeld ?_
                  · intro w hSw; obtain ⟨s0, s1⟩ := hSw; go_simp
                  try simp only [List.getElem_toArray, List.getElem_cons_zero, List.getElem_cons_succ, Act.put, List.setIfInBounds_toArray, List.set_cons_zero, List.set_cons_succ]
                  refine wpAnyH_take (i := 19) (v := (.int .i64 xi)) rfl (by kernel_rfl) (by kernel_rfl) (by kernel_rfl) (fun _ _ _ h => h) (Or.inl ⟨by rfl, ?_⟩) hHeld ?_
                  · intro w hSw; obtain ⟨s0, s1⟩ := hSw; go_simp
                  try simp only [List.getElem_toArray, List.getElem_cons_zero, List.getElem_cons_succ, Act.put, List.setIfInBounds_toArray, List.set_cons_zero, List.set_cons_succ]
                  refine wpAnyH_ready (rs := [16]) (by kernel_rfl) (by simp) ?_
                  refine AllReadyH.cons rfl (fun K hK => ?_) AllReadyH.nil
                  clear hHeld
                  go_simp
                  refine (CH.out _ hB2).mono ?_
                  rintro e w8 ⟨rfl, b8⟩
                  have hB3 := below_on hB2 b8
                  clear b8
                  refine hK.out _ _ ?_ (fun hHeld => ?_)
                  · exact KC.out _ hB3
                  clear hK K
                  try simp only [List.getElem_toArray, List.getElem_cons_zero, List.getElem_cons_succ, Act.put, List.setIfInBounds_toArray, List.set_cons_zero, List.set_cons_succ]
                  refine wpAnyH_ready (rs := [20]) (by kernel_rfl) (by simp) ?_
                  refine AllReadyH.cons rfl (fun K hK => ?_) AllReadyH.nil
                  clear hHeld
                  go_simp
                  refine (CF.out _ hB3).mono ?_
                  rintro e w9 ⟨rfl, rfl⟩
                  refine hK.out _ _ ?_ (fun hHeld => ?_)
                  · exact KC.out _ hB3
                  clear hK K
                  try simp only [List.getElem_toArray, List.getElem_cons_zero, List.getElem_cons_succ, Act.put, List.setIfInBounds_toArray, List.set_cons_zero, List.set_cons_succ]
                  refine wpAnyH_take (i := 21) (v := (.bool true)) rfl (by kernel_rfl) (by kernel_rfl) (by kernel_rfl) (fun _ _ _ h => h) (Or.inl ⟨by rfl, ?_⟩) hHeld ?_
                  · intro w hSw; obtain ⟨s0, s1⟩ := hSw; go_simp
                  try simp only [List.getElem_toArray, List.getElem_cons_zero, List.getElem_cons_succ, Act.put, List.setIfInBounds_toArray, List.set_cons_zero, List.set_cons_succ]
                  refine wpAnyH_take (i := 22) (v := (.bool false)) rfl (by kernel_rfl) (by kernel_rfl) (by kernel_rfl) (fun _ _ _ h => h) (Or.inl ⟨by rfl, ?_⟩) hHeld ?_
                  · intro w hSw; obtain ⟨s0, s1⟩ := hSw; go_simp
                  try simp only [List.getElem_toArray, List.getElem_cons_zero, List.getElem_cons_succ, Act.put, List.setIfInBounds_toArray, List.set_cons_zero, List.set_cons_succ]
                  refine wpAnyH_take (i := 23) (v := (.bool false)) rfl (by kernel_rfl) (by kernel_rfl) (by kernel_rfl) (fun _ _ _ h => h) (Or.inl ⟨by rfl, ?_⟩) hHeld ?_
                  · intro w hSw; obtain ⟨s0, s1⟩ := hSw; go_simp
                  try simp only [List.getElem_toArray, List.getElem_cons_zero, List.getElem_cons_succ, Act.put, List.setIfInBounds_toArray, List.set_cons_zero, List.set_cons_succ]
                  refine wpAnyH_take (i := 24) (v := (.bool false)) rfl (by kernel_rfl) (by kernel_rfl) (by kernel_rfl) (fun _ _ _ h => h) (Or.inl ⟨by rfl, ?_⟩) hHeld ?_
                  · intro w hSw; obtain ⟨s0, s1⟩ := hSw; go_simp
                  try simp only [List.getElem_toArray, List.getElem_cons_zero, List.getElem_cons_succ, Act.put, List.setIfInBounds_toArray, List.set_cons_zero, List.set_cons_succ]
                  refine wpAnyH_take (i := 25) (v := (.bool false)) rfl (by kernel_rfl) (by kernel_rfl) (by kernel_rfl) (fun _ _ _ h => h) (Or.inl ⟨by rfl, ?_⟩) hHeld ?_
                  · intro w hSw; obtain ⟨s0, s1⟩ := hSw; go_simp
                  try simp only [List.getElem_toArray, List.getElem_cons_zero, List.getElem_cons_succ, Act.put, List.setIfInBounds_toArray, List.set_cons_zero, List.set_cons_succ]
                  refine wpAnyH_take (i := 26) (v := (.pointer (some ⟨b, 0, none⟩))) rfl (by kernel_rfl) (by kernel_rfl) (by kernel_rfl) (fun _ _ _ h => h) (Or.inl ⟨by rfl, ?_⟩) hHeld ?_
                  · intro w hSw; obtain ⟨s0, s1⟩ := hSw; go_simp
                  try simp only [List.getElem_toArray, List.getElem_cons_zero, List.getElem_cons_succ, Act.put, List.setIfInBounds_toArray, List.set_cons_zero, List.set_cons_succ]
                  refine wpAnyH_take (i := 27) (v := (.pointer (some ⟨b, 0, none⟩))) rfl (by kernel_rfl) (by kernel_rfl) (by kernel_rfl) (fun _ _ _ h => h) (Or.inl ⟨by rfl, ?_⟩) hHeld ?_
                  · intro w hSw; obtain ⟨s0, s1⟩ := hSw; go_simp
                  try simp only [List.getElem_toArray, List.getElem_cons_zero, List.getElem_cons_succ, Act.put, List.setIfInBounds_toArray, List.set_cons_zero, List.set_cons_succ]
                  refine wpAnyH_take (i := 28) (v := (.pointer (some ⟨b, 1, none⟩))) rfl (by kernel_rfl) (by kernel_rfl) (by kernel_rfl) (fun _ _ _ h => h) (Or.inl ⟨by rfl, ?_⟩) hHeld ?_
                  · intro w hSw; obtain ⟨s0, s1⟩ := hSw; go_simp
                  try simp only [List.getElem_toArray, List.getElem_cons_zero, List.getElem_cons_succ, Act.put, List.setIfInBounds_toArray, List.set_cons_zero, List.set_cons_succ]
                  refine wpAnyH_take (i := 29) (v := (.slice A2 0 c2)) rfl (by kernel_rfl) (by kernel_rfl) (by kernel_rfl) (fun _ _ _ h => h) (Or.inl ⟨by rfl, ?_⟩) hHeld ?_
                  · intro w hSw; obtain ⟨s0, s1⟩ := hSw; go_simp
                  try simp only [List.getElem_toArray, List.getElem_cons_zero, List.getElem_cons_succ, Act.put, List.setIfInBounds_toArray, List.set_cons_zero, List.set_cons_succ]
                  refine wpAnyH_take (i := 30) (v := (.int .i64 0)) rfl (by kernel_rfl) (by kernel_rfl) (by kernel_rfl) (fun _ _ _ h => h) (Or.inl ⟨by rfl, ?_⟩) hHeld ?_
                  · intro w hSw; obtain ⟨s0, s1⟩ := hSw; go_simp
                  try simp only [List.getElem_toArray, List.getElem_cons_zero, List.getElem_cons_succ, Act.put, List.setIfInBounds_toArray, List.set_cons_zero, List.set_cons_succ]
                  refine wpAnyH_take (i := 31) (v := (.bool false)) rfl (by kernel_rfl) (by kernel_rfl) (by kernel_rfl) (fun _ _ _ h => h) (Or.inl ⟨by rfl, ?_⟩) hHeld ?_
                  · intro w hSw; obtain ⟨s0, s1⟩ := hSw; go_simp
                  try simp only [List.getElem_toArray, List.getElem_cons_zero, List.getElem_cons_succ, Act.put, List.setIfInBounds_toArray, List.set_cons_zero, List.set_cons_succ]
                  refine wpAnyH_take (i := 32) (v := (.bool false)) rfl (by kernel_rfl) (by kernel_rfl) (by kernel_rfl) (fun _ _ _ h => h) (Or.inl ⟨by rfl, ?_⟩) hHeld ?_
                  · intro w hSw; obtain ⟨s0, s1⟩ := hSw; go_simp
                  try simp only [List.getElem_toArray, List.getElem_cons_zero, List.getElem_cons_succ, Act.put, List.setIfInBounds_toArray, List.set_cons_zero, List.set_cons_succ]
                  refine wpAnyH_take (i := 33) (v := (.bool false)) rfl (by kernel_rfl) (by kernel_rfl) (by kernel_rfl) (fun _ _ _ h => h) (Or.inl ⟨by rfl, ?_⟩) hHeld ?_
                  · intro w hSw; obtain ⟨s0, s1⟩ := hSw; go_simp
                  try simp only [List.getElem_toArray, List.getElem_cons_zero, List.getElem_cons_succ, Act.put, List.setIfInBounds_toArray, List.set_cons_zero, List.set_cons_succ]
                  refine wpAnyH_take (i := 34) (v := (.bool false)) rfl (by kernel_rfl) (by kernel_rfl) (by kernel_rfl) (fun _ _ _ h => h) (Or.inl ⟨by rfl, ?_⟩) hHeld ?_
                  · intro w hSw; obtain ⟨s0, s1⟩ := hSw; go_simp
                  try simp only [List.getElem_toArray, List.getElem_cons_zero, List.getElem_cons_succ, Act.put, List.setIfInBounds_toArray, List.set_cons_zero, List.set_cons_succ]
                  refine wpAnyH_take (i := 35) (v := (.bool false)) rfl (by kernel_rfl) (by kernel_rfl) (by kernel_rfl) (fun _ _ _ h => h) (Or.inl ⟨by rfl, ?_⟩) hHeld ?_
                  · intro w hSw; obtain ⟨s0, s1⟩ := hSw; go_simp
                  try simp only [List.getElem_toArray, List.getElem_cons_zero, List.getElem_cons_succ, Act.put, List.setIfInBounds_toArray, List.set_cons_zero, List.set_cons_succ]
                  refine wpAnyH_take (i := 36) (v := (.bool false)) rfl (by kernel_rfl) (by kernel_rfl) (by kernel_rfl) (fun _ _ _ h => h) (Or.inl ⟨by rfl, ?_⟩) hHeld ?_
                  · intro w hSw; obtain ⟨s0, s1⟩ := hSw; go_simp
                  try simp only [List.getElem_toArray, List.getElem_cons_zero, List.getElem_cons_succ, Act.put, List.setIfInBounds_toArray, List.set_cons_zero, List.set_cons_succ]
                  refine wpAnyH_take (i := 37) (v := undef) rfl (by kernel_rfl) (by kernel_rfl) (by kernel_rfl) (fun _ _ _ h => h) (Or.inr ⟨by rfl, rfl⟩) hHeld ?_
                  try simp only [List.getElem_toArray, List.getElem_cons_zero, List.getElem_cons_succ, Act.put, List.setIfInBounds_toArray, List.set_cons_zero, List.set_cons_succ]
                  refine wpAnyH_take (i := 38) (v := undef) rfl (by kernel_rfl) (by kernel_rfl) (by kernel_rfl) (fun _ _ _ h => h) (Or.inr ⟨by rfl, rfl⟩) hHeld ?_
                  try simp only [List.getElem_toArray, List.getElem_cons_zero, List.getElem_cons_succ, Act.put, List.setIfInBounds_toArray, List.set_cons_zero, List.set_cons_succ]
                  refine wpAnyH_take (i := 39) (v := undef) rfl (by kernel_rfl) (by kernel_rfl) (by kernel_rfl) (fun _ _ _ h => h) (Or.inr ⟨by rfl, rfl⟩) hHeld ?_
                  try simp only [List.getElem_toArray, List.getElem_cons_zero, List.getElem_cons_succ, Act.put, List.setIfInBounds_toArray, List.set_cons_zero, List.set_cons_succ]
                  refine wpAnyH_take (i := 40) (v := undef) rfl (by kernel_rfl) (by kernel_rfl) (by kernel_rfl) (fun _ _ _ h => h) (Or.inr ⟨by rfl, rfl⟩) hHeld ?_
                  try simp only [List.getElem_toArray, List.getElem_cons_zero, List.getElem_cons_succ, Act.put, List.setIfInBounds_toArray, List.set_cons_zero, List.set_cons_succ]
                  refine wpAnyH_take (i := 41) (v := undef) rfl (by kernel_rfl) (by kernel_rfl) (by kernel_rfl) (fun _ _ _ h => h) (Or.inr ⟨by rfl, rfl⟩) hHeld ?_
                  try simp only [List.getElem_toArray, List.getElem_cons_zero, List.getElem_cons_succ, Act.put, List.setIfInBounds_toArray, List.set_cons_zero, List.set_cons_succ]
                  refine wpAnyH_take (i := 42) (v := undef) rfl (by kernel_rfl) (by kernel_rfl) (by kernel_rfl) (fun _ _ _ h => h) (Or.inr ⟨by rfl, rfl⟩) hHeld ?_
                  try simp only [List.getElem_toArray, List.getElem_cons_zero, List.getElem_cons_succ, Act.put, List.setIfInBounds_toArray, List.set_cons_zero, List.set_cons_succ]
                  refine wpAnyH_take (i := 43) (v := undef) rfl (by kernel_rfl) (by kernel_rfl) (by kernel_rfl) (fun _ _ _ h => h) (Or.inr ⟨by rfl, rfl⟩) hHeld ?_
                  try simp only [List.getElem_toArray, List.getElem_cons_zero, List.getElem_cons_succ, Act.put, List.setIfInBounds_toArray, List.set_cons_zero, List.set_cons_succ]
                  refine wpAnyH_take (i := 44) (v := undef) rfl (by kernel_rfl) (by kernel_rfl) (by kernel_rfl) (fun _ _ _ h => h) (Or.inr ⟨by rfl, rfl⟩) hHeld ?_
                  try simp only [List.getElem_toArray, List.getElem_cons_zero, List.getElem_cons_succ, Act.put, List.setIfInBounds_toArray, List.set_cons_zero, List.set_cons_succ]
                  refine wpAnyH_take (i := 45) (v := undef) rfl (by kernel_rfl) (by kernel_rfl) (by kernel_rfl) (fun _ _ _ h => h) (Or.inr ⟨by rfl, rfl⟩) hHeld ?_
                  try simp only [List.getElem_toArray, List.getElem_cons_zero, List.getElem_cons_succ, Act.put, List.setIfInBounds_toArray, List.set_cons_zero, List.set_cons_succ]
                  refine wpAnyH_take (i := 46) (v := undef) rfl (by kernel_rfl) (by kernel_rfl) (by kernel_rfl) (fun _ _ _ h => h) (Or.inr ⟨by rfl, rfl⟩) hHeld ?_
                  try simp only [List.getElem_toArray, List.getElem_cons_zero, List.getElem_cons_succ, Act.put, List.setIfInBounds_toArray, List.set_cons_zero, List.set_cons_succ]
                  refine wpAnyH_take (i := 47) (v := (.bool false)) rfl (by kernel_rfl) (by kernel_rfl) (by kernel_rfl) (fun _ _ _ h => h) (Or.inl ⟨by rfl, ?_⟩) hHeld ?_
                  · intro w hSw; obtain ⟨s0, s1⟩ := hSw; go_simp
                  try simp only [List.getElem_toArray, List.getElem_cons_zero, List.getElem_cons_succ, Act.put, List.setIfInBounds_toArray, List.set_cons_zero, List.set_cons_succ]
                  refine wpAnyH_take (i := 48) (v := (.bool false)) rfl (by kernel_rfl) (by kernel_rfl) (by kernel_rfl) (fun _ _ _ h => h) (Or.inl ⟨by rfl, ?_⟩) hHeld ?_
                  · intro w hSw; obtain ⟨s0, s1⟩ := hSw; go_simp
                  try simp only [List.getElem_toArray, List.getElem_cons_zero, List.getElem_cons_succ, Act.put, List.setIfInBounds_toArray, List.set_cons_zero, List.set_cons_succ]
                  refine wpAnyH_done (by kernel_rfl) ?_ _
                  replace hB3 := Lib.hid hB3
                  clear hHeld hB1 hB2 O6
                  go_wp2
                  go_roundw
                  case rel => exact ⟨i + 1, oS, _, by simp, by omega, F5.out.on hB3.out⟩
                  case measure => simp [intOf]; omega
            | cons y R =>
              subst hLL
              simp only [topI, Prod.mk.injEq] at hT
              obtain ⟨rfl, rfl⟩ := hT
              obtain ⟨g, rfl, hg, d0, _, _⟩ := hrd2 0 _ rfl
              simp only [Nat.zero_mul] at d0
              have KC := Lib.hid (show ∀ W, Below wS.heap.size wS W → W.cell? ⟨X, 0, none⟩ = some (.int .i64 xi) ∧ W.cell? ⟨b, 1, none⟩ = some (.slice (some ⟨g, 0, none⟩) (R.length + 1) c2) ∧ W.cell? ⟨T, 0, none⟩ = some (.int .i64 yi) ∧ W.cell? ⟨g, 0, none⟩ = some (.int .i64 yi) from fun W hb => ⟨by rw [hb.cell (p := ⟨X, 0, none⟩) lx]; exact x0, by rw [hb.cell (p := ⟨b, 1, none⟩) lb]; exact e1, by rw [hb.cell (p := ⟨T, 0, none⟩) lt]; exact y0, by rw [hb.cell (p := ⟨g, 0, none⟩) hg]; exact d0⟩)
              simp only [List.length_cons] at e1 CI hk1
              have hn0 : decide ((((R.length + 1 : Nat)) : Int) > 0) = true := decide_eq_true (by omega)
              have hn1 : (0 : Int) < ((R.length : Nat) : Int) + 1 := by omega
              have hyy : (yi != yi) = false := by simp
              clear hrd2
              cases r with
              | false =>
                as_aux_lemma =>
                  have hr2 : decide (0 ≤ fi) = false := hr'
                  have hr3 : ¬ (0 ≤ fi) := by simpa using hr2
                  clear hr3
                  refine wp_region_held_drew (S := (fun W => W.cell? ⟨X, 0, none⟩ = some (.int .i64 xi) ∧ W.cell? ⟨b, 1, none⟩ = some (.slice (some ⟨g, 0, none⟩) (R.length + 1) c2) ∧ W.cell? ⟨T, 0, none⟩ = some (.int .i64 yi) ∧ W.cell? ⟨g, 0, none⟩ = some (.int .i64 yi))) (by kernel_rfl) ?_ (fun hHeld => ?_)
                  · exact KC.out _ (Below.drew (Below.refl _ _))
                  refine wpAnyH_take (i := 0) (v := (.bool true)) rfl (by kernel_rfl) (by kernel_rfl) (by kernel_rfl) (fun _ _ _ h => h) (Or.inl ⟨by rfl, ?_⟩) hHeld ?_
                  · intro w hSw; obtain ⟨s0, s1, s2, s3⟩ := hSw; go_simp
                  try simp only [List.getElem_toArray, List.getElem_cons_zero, List.getElem_cons_succ, Act.put, List.setIfInBounds_toArray, List.set_cons_zero, List.set_cons_succ]
                  refine wpAnyH_take (i := 1) (v := (.bool false)) rfl (by kernel_rfl) (by kernel_rfl) (by kernel_rfl) (fun _ _ _ h => h) (Or.inl ⟨by rfl, ?_⟩) hHeld ?_
                  · intro w hSw; obtain ⟨s0, s1, s2, s3⟩ := hSw; go_simp
                  try simp only [List.getElem_toArray, List.getElem_cons_zero, List.getElem_cons_succ, Act.put, List.setIfInBounds_toArray, List.set_cons_zero, List.set_cons_succ]
                  refine wpAnyH_take (i := 2) (v := (.bool false)) rfl (by kernel_rfl) (by kernel_rfl) (by kernel_rfl) (fun _ _ _ h => h) (Or.inl ⟨by rfl, ?_⟩) hHeld ?_
                  · intro w hSw; obtain ⟨s0, s1, s2, s3⟩ := hSw; go_simp
                  try simp only [List.getElem_toArray, List.getElem_cons_zero, List.getElem_cons_succ, Act.put, List.setIfInBounds_toArray, List.set_cons_zero, List.set_cons_succ]
                  refine wpAnyH_take (i := 3) (v := (.pointer (some ⟨a, 0, none⟩))) rfl (by kernel_rfl) (by kernel_rfl) (by kernel_rfl) (fun _ _ _ h => h) (Or.inl ⟨by rfl, ?_⟩) hHeld ?_
                  · intro w hSw; obtain ⟨s0, s1, s2, s3⟩ := hSw; go_simp
                  try simp only [List.getElem_toArray, List.getElem_cons_zero, List.getElem_cons_succ, Act.put, List.setIfInBounds_toArray, List.set_cons_zero, List.set_cons_succ]
                  refine wpAnyH_take (i := 5) (v := (.pointer (some ⟨b, 0, none⟩))) rfl (by kernel_rfl) (by kernel_rfl) (by kernel_rfl) (fun _ _ _ h => h) (Or.inl ⟨by rfl, ?_⟩) hHeld ?_
                  · intro w hSw; obtain ⟨s0, s1, s2, s3⟩ := hSw; go_simp
                  try simp only [List.getElem_toArray, List.getElem_cons_zero, List.getElem_cons_succ, Act.put, List.setIfInBounds_toArray, List.set_cons_zero, List.set_cons_succ]
                  refine wpAnyH_take (i := 6) (v := (.pointer (some ⟨b, 0, none⟩))) rfl (by kernel_rfl) (by kernel_rfl) (by kernel_rfl) (fun _ _ _ h => h) (Or.inl ⟨by rfl, ?_⟩) hHeld ?_
                  · intro w hSw; obtain ⟨s0, s1, s2, s3⟩ := hSw; go_simp
                  try simp only [List.getElem_toArray, List.getElem_cons_zero, List.getElem_cons_succ, Act.put, List.setIfInBounds_toArray, List.set_cons_zero, List.set_cons_succ]
                  refine wpAnyH_take (i := 7) (v := (.pointer (some ⟨b, 1, none⟩))) rfl (by kernel_rfl) (by kernel_rfl) (by kernel_rfl) (fun _ _ _ h => h) (Or.inl ⟨by rfl, ?_⟩) hHeld ?_
                  · intro w hSw; obtain ⟨s0, s1, s2, s3⟩ := hSw; go_simp
                  try simp only [List.getElem_toArray, List.getElem_cons_zero, List.getElem_cons_succ, Act.put, List.setIfInBounds_toArray, List.set_cons_zero, List.set_cons_succ]
                  refine wpAnyH_take (i := 8) (v := (.slice (some ⟨g, 0, none⟩) (R.length + 1) c2)) rfl (by kernel_rfl) (by kernel_rfl) (by kernel_rfl) (fun _ _ _ h => h) (Or.inl ⟨by rfl, ?_⟩) hHeld ?_
                  · intro w hSw; obtain ⟨s0, s1, s2, s3⟩ := hSw; go_simp
                  try simp only [List.getElem_toArray, List.getElem_cons_zero, List.getElem_cons_succ, Act.put, List.setIfInBounds_toArray, List.set_cons_zero, List.set_cons_succ]
                  refine wpAnyH_ready (rs := [4]) (by kernel_rfl) (by simp) ?_
                  refine AllReadyH.cons rfl (fun K hK => ?_) AllReadyH.nil
                  clear hHeld
                  go_simp
                  refine (CA.out _ (Below.drew (Below.refl _ _))).mono ?_
                  rintro e w6 ⟨v6, rfl, hown6, b6⟩
                  obtain ⟨A6, c6, rfl⟩ := own_any hown6
                  have hB1 : Below wS.heap.size wS w6 := Below.trans (Below.drew (Below.refl _ _)) b6
                  have O6 := Lib.hid hown6
                  clear hown6 b6
                  refine hK.out _ _ ?_ (fun hHeld => ?_)
                  · exact KC.out _ hB1
                  clear hK K
                  try simp only [List.getElem_toArray, List.getElem_cons_zero, List.getElem_cons_succ, Act.put, List.setIfInBounds_toArray, List.set_cons_zero, List.set_cons_succ]
                  refine wpAnyH_ready (rs := [9]) (by kernel_rfl) (by simp) ?_
                  refine AllReadyH.cons rfl (fun K hK => ?_) AllReadyH.nil
                  clear hHeld
                  go_simp
                  refine (CI.out _ hB1 A6 c6 (own_rd O6.out).1 (own_rd O6.out).2.1 (own_rd O6.out).2.2).mono ?_
                  rintro e w7 ⟨rfl, n7, rfl⟩
                  have hB2 := below_dN hB1 n7
                  refine hK.out _ _ ?_ (fun hHeld => ?_)
                  · exact KC.out _ hB2
                  clear hK K
                  try simp only [List.getElem_toArray, List.getElem_cons_zero, List.getElem_cons_succ, Act.put, List.setIfInBounds_toArray, List.set_cons_zero, List.set_cons_succ]
                  refine wpAnyH_take (i := 10) (v := (.bool false)) rfl (by kernel_rfl) (by kernel_rfl) (by kernel_rfl) (fun _ _ _ h => h) (Or.inl ⟨by rfl, ?_⟩) hHeld ?_
                  · intro w hSw; obtain ⟨s0, s1, s2, s3⟩ := hSw; go_simp
                  try simp only [List.getElem_toArray, List.getElem_cons_zero, List.getElem_cons_succ, Act.put, List.setIfInBounds_toArray, List.set_cons_zero, List.set_cons_succ]
                  refine wpAnyH_take (i := 11) (v := (.bool false)) rfl (by kernel_rfl) (by kernel_rfl) (by kernel_rfl) (fun _ _ _ h => h) (Or.inl ⟨by rfl, ?_⟩) hHeld ?_
                  · intro w hSw; obtain ⟨s0, s1, s2, s3⟩ := hSw; go_simp
                  try simp only [List.getElem_toArray, List.getElem_cons_zero, List.getElem_cons_succ, Act.put, List.setIfInBounds_toArray, List.set_cons_zero, List.set_cons_succ]
                  refine wpAnyH_take (i := 12) (v := (.bool false)) rfl (by kernel_rfl) (by kernel_rfl) (by kernel_rfl) (fun _ _ _ h => h) (Or.inl ⟨by rfl, ?_⟩) hHeld ?_
                  · intro w hSw; obtain ⟨s0, s1, s2, s3⟩ := hSw; go_simp
                  try simp only [List.getElem_toArray, List.getElem_cons_zero, List.getElem_cons_succ, Act.put, List.setIfInBounds_toArray, List.set_cons_zero, List.set_cons_succ]
                  refine wpAnyH_take (i := 13) (v := (.pointer (some ⟨a, 0, none⟩))) rfl (by kernel_rfl) (by kernel_rfl) (by kernel_rfl) (fun _ _ _ h => h) (Or.inl ⟨by rfl, ?_⟩) hHeld ?_
                  · intro w hSw; obtain ⟨s0, s1, s2, s3⟩ := hSw; go_simp
                  try simp only [List.getElem_toArray, List.getElem_cons_zero, List.getElem_cons_succ, Act.put, List.setIfInBounds_toArray, List.set_cons_zero, List.set_cons_succ]
                  refine wpAnyH_take (i := 14) (v := (.pointer (some ⟨X, 0, none⟩))) rfl (by kernel_rfl) (by kernel_rfl) (by kernel_rfl) (fun _ _ _ h => h) (Or.inl ⟨by rfl, ?_⟩) hHeld ?_
                  · intro w hSw; obtain ⟨s0, s1, s2, s3⟩ := hSw; go_simp
                  try simp only [List.getElem_toArray, List.getElem_cons_zero, List.getElem_cons_succ, Act.put, List.setIfInBounds_toArray, List.set_cons_zero, List.set_cons_succ]
                  refine wpAnyH_take (i := 15) (v := (.int .i64 xi)) rfl (by kernel_rfl) (by kernel_rfl) (by kernel_rfl) (fun _ _ _ h => h) (Or.inl ⟨by rfl, ?_⟩) hHeld ?_
                  · intro w hSw; obtain ⟨s0, s1, s2, s3⟩ := hSw; go_simp
                  try simp only [List.getElem_toArray, List.getElem_cons_zero, List.getElem_cons_succ, Act.put, List.setIfInBounds_toArray, List.set_cons_zero, List.set_cons_succ]
                  refine wpAnyH_take (i := 17) (v := (.pointer (some ⟨b, 0, none⟩))) rfl (by kernel_rfl) (by kernel_rfl) (by kernel_rfl) (fun _ _ _ h => h) (Or.inl ⟨by rfl, ?_⟩) hHeld ?_
                  · intro w hSw; obtain ⟨s0, s1, s2, s3⟩ := hSw; go_simp
                  try simp only [List.getElem_toArray, List.getElem_cons_zero, List.getElem_cons_succ, Act.put, List.setIfInBounds_toArray, List.set_cons_zero, List.set_cons_succ]
                  refine wpAnyH_take (i := 18) (v := (.pointer (some ⟨X, 0, none⟩))) rfl (by kernel_rfl) (by kernel_rfl) (by kernel_rfl) (fun _ _ _ h => h) (Or.inl ⟨by rfl, ?_⟩) hHeld ?_
                  · intro w hSw; obtain ⟨s0, s1, s2, s3⟩ := hSw; go_simp
                  try simp only [List.getElem_toArray, List.getElem_cons_zero, List.getElem_cons_succ, Act.put, List.setIfInBounds_toArray, List.set_cons_zero, List.set_cons_succ]
                  refine wpAnyH_take (i := 19) (v := (.int .i64 xi)) rfl (by kernel_rfl) (by kernel_rfl) (by kernel_rfl) (fun _ _ _ h => h) (Or.inl ⟨by rfl, ?_⟩) hHeld ?_
                  · intro w hSw; obtain ⟨s0, s1, s2, s3⟩ := hSw; go_simp
                  try simp only [List.getElem_toArray, List.getElem_cons_zero, List.getElem_cons_succ, Act.put, List.setIfInBounds_toArray, List.set_cons_zero, List.set_cons_succ]
                  refine wpAnyH_ready (rs := [16]) (by kernel_rfl) (by simp) ?_
                  refine AllReadyH.cons rfl (fun K hK => ?_) AllReadyH.nil
                  clear hHeld
                  go_simp
                  refine (CH.out _ hB2).mono ?_
                  rintro e w8 ⟨rfl, b8⟩
                  have hB3 := below_on hB2 b8
                  clear b8
                  refine hK.out _ _ ?_ (fun hHeld => ?_)
                  · exact KC.out _ hB3
                  clear hK K
                  try simp only [List.getElem_toArray, List.getElem_cons_zero, List.getElem_cons_succ, Act.put, List.setIfInBounds_toArray, List.set_cons_zero, List.set_cons_succ]
                  refine wpAnyH_ready (rs := [20]) (by kernel_rfl) (by simp) ?_
                  refine AllReadyH.cons rfl (fun K hK => ?_) AllReadyH.nil
                  clear hHeld
                  go_simp
                  refine (CF.out _ hB3).mono ?_
                  rintro e w9 ⟨rfl, rfl⟩
                  refine hK.out _ _ ?_ (fun hHeld => ?_)
                  · exact KC.out _ hB3
                  clear hK K
                  try simp only [List.getElem_toArray, List.getElem_cons_zero, List.getElem_cons_succ, Act.put, List.setIfInBounds_toArray, List.set_cons_zero, List.set_cons_succ]
                  refine wpAnyH_take (i := 21) (v := (.bool false)) rfl (by kernel_rfl) (by kernel_rfl) (by kernel_rfl) (fun _ _ _ h => h) (Or.inl ⟨by rfl, ?_⟩) hHeld ?_
                  · intro w hSw; obtain ⟨s0, s1, s2, s3⟩ := hSw; go_simp
                  try simp only [List.getElem_toArray, List.getElem_cons_zero, List.getElem_cons_succ, Act.put, List.setIfInBounds_toArray, List.set_cons_zero, List.set_cons_succ]
                  refine wpAnyH_take (i := 22) (v := (.bool false)) rfl (by kernel_rfl) (by kernel_rfl) (by kernel_rfl) (fun _ _ _ h => h) (Or.inl ⟨by rfl, ?_⟩) hHeld ?_
                  · intro w hSw; obtain ⟨s0, s1, s2, s3⟩ := hSw; go_simp
                  try simp only [List.getElem_toArray, List.getElem_cons_zero, List.getElem_cons_succ, Act.put, List.setIfInBounds_toArray, List.set_cons_zero, List.set_cons_succ]
                  refine wpAnyH_take (i := 23) (v := (.bool false)) rfl (by kernel_rfl) (by kernel_rfl) (by kernel_rfl) (fun _ _ _ h => h) (Or.inl ⟨by rfl, ?_⟩) hHeld ?_
                  · intro w hSw; obtain ⟨s0, s1, s2, s3⟩ := hSw; go_simp
                  try simp only [List.getElem_toArray, List.getElem_cons_zero, List.getElem_cons_succ, Act.put, List.setIfInBounds_toArray, List.set_cons_zero, List.set_cons_succ]
                  refine wpAnyH_take (i := 24) (v := (.bool false)) rfl (by kernel_rfl) (by kernel_rfl) (by kernel_rfl) (fun _ _ _ h => h) (Or.inl ⟨by rfl, ?_⟩) hHeld ?_
                  · intro w hSw; obtain ⟨s0, s1, s2, s3⟩ := hSw; go_simp
                  try simp only [List.getElem_toArray, List.getElem_cons_zero, List.getElem_cons_succ, Act.put, List.setIfInBounds_toArray, List.set_cons_zero, List.set_cons_succ]
                  refine wpAnyH_take (i := 25) (v := (.bool true)) rfl (by kernel_rfl) (by kernel_rfl) (by kernel_rfl) (fun _ _ _ h => h) (Or.inl ⟨by rfl, ?_⟩) hHeld ?_
                  · intro w hSw; obtain ⟨s0, s1, s2, s3⟩ := hSw; go_simp
                  try simp only [List.getElem_toArray, List.getElem_cons_zero, List.getElem_cons_succ, Act.put, List.setIfInBounds_toArray, List.set_cons_zero, List.set_cons_succ]
                  refine wpAnyH_take (i := 26) (v := (.pointer (some ⟨b, 0, none⟩))) rfl (by kernel_rfl) (by kernel_rfl) (by kernel_rfl) (fun _ _ _ h => h) (Or.inl ⟨by rfl, ?_⟩) hHeld ?_
                  · intro w hSw; obtain ⟨s0, s1, s2, s3⟩ := hSw; go_simp
                  try simp only [List.getElem_toArray, List.getElem_cons_zero, List.getElem_cons_succ, Act.put, List.setIfInBounds_toArray, List.set_cons_zero, List.set_cons_succ]
                  refine wpAnyH_take (i := 27) (v := (.pointer (some ⟨b, 0, none⟩))) rfl (by kernel_rfl) (by kernel_rfl) (by kernel_rfl) (fun _ _ _ h => h) (Or.inl ⟨by rfl, ?_⟩) hHeld ?_
                  · intro w hSw; obtain ⟨s0, s1, s2, s3⟩ := hSw; go_simp
                  try simp only [List.getElem_toArray, List.getElem_cons_zero, List.getElem_cons_succ, Act.put, List.setIfInBounds_toArray, List.set_cons_zero, List.set_cons_succ]
                  refine wpAnyH_take (i := 28) (v := (.pointer (some ⟨b, 1, none⟩))) rfl (by kernel_rfl) (by kernel_rfl) (by kernel_rfl) (fun _ _ _ h => h) (Or.inl ⟨by rfl, ?_⟩) hHeld ?_
                  · intro w hSw; obtain ⟨s0, s1, s2, s3⟩ := hSw; go_simp
                  try simp only [List.getElem_toArray, List.getElem_cons_zero, List.getElem_cons_succ, Act.put, List.setIfInBounds_toArray, List.set_cons_zero, List.set_cons_succ]
                  refine wpAnyH_take (i := 29) (v := (.slice (some ⟨g, 0, none⟩) (R.length + 1) c2)) rfl (by kernel_rfl) (by kernel_rfl) (by kernel_rfl) (fun _ _ _ h => h) (Or.inl ⟨by rfl, ?_⟩) hHeld ?_
                  · intro w hSw; obtain ⟨s0, s1, s2, s3⟩ := hSw; go_simp
                  try simp only [List.getElem_toArray, List.getElem_cons_zero, List.getElem_cons_succ, Act.put, List.setIfInBounds_toArray, List.set_cons_zero, List.set_cons_succ]
                  refine wpAnyH_take (i := 30) (v := (.int .i64 ((R.length : Int) + 1))) rfl (by kernel_rfl) (by kernel_rfl) (by kernel_rfl) (fun _ _ _ h => h) (Or.inl ⟨by rfl, ?_⟩) hHeld ?_
                  · intro w hSw; obtain ⟨s0, s1, s2, s3⟩ := hSw; go_simp
                  try simp only [List.getElem_toArray, List.getElem_cons_zero, List.getElem_cons_succ, Act.put, List.setIfInBounds_toArray, List.set_cons_zero, List.set_cons_succ]
                  refine wpAnyH_take (i := 31) (v := (.bool true)) rfl (by kernel_rfl) (by kernel_rfl) (by kernel_rfl) (fun _ _ _ h => h) (Or.inl ⟨by rfl, ?_⟩) hHeld ?_
                  · intro w hSw; obtain ⟨s0, s1, s2, s3⟩ := hSw; go_simp
                  try simp only [List.getElem_toArray, List.getElem_cons_zero, List.getElem_cons_succ, Act.put, List.setIfInBounds_toArray, List.set_cons_zero, List.set_cons_succ]
                  refine wpAnyH_take (i := 32) (v := (.bool false)) rfl (by kernel_rfl) (by kernel_rfl) (by kernel_rfl) (fun _ _ _ h => h) (Or.inl ⟨by rfl, ?_⟩) hHeld ?_
                  · intro w hSw; obtain ⟨s0, s1, s2, s3⟩ := hSw; go_simp
                  try simp only [List.getElem_toArray, List.getElem_cons_zero, List.getElem_cons_succ, Act.put, List.setIfInBounds_toArray, List.set_cons_zero, List.set_cons_succ]
                  refine wpAnyH_take (i := 33) (v := (.bool false)) rfl (by kernel_rfl) (by kernel_rfl) (by kernel_rfl) (fun _ _ _ h => h) (Or.inl ⟨by rfl, ?_⟩) hHeld ?_
                  · intro w hSw; obtain ⟨s0, s1, s2, s3⟩ := hSw; go_simp
                  try simp only [List.getElem_toArray, List.getElem_cons_zero, List.getElem_cons_succ, Act.put, List.setIfInBounds_toArray, List.set_cons_zero, List.set_cons_succ]
                  refine wpAnyH_take (i := 34) (v := (.bool false)) rfl (by kernel_rfl) (by kernel_rfl) (by kernel_rfl) (fun _ _ _ h => h) (Or.inl ⟨by rfl, ?_⟩) hHeld ?_
                  · intro w hSw; obtain ⟨s0, s1, s2, s3⟩ := hSw; go_simp
                  try simp only [List.getElem_toArray, List.getElem_cons_zero, List.getElem_cons_succ, Act.put, List.setIfInBounds_toArray, List.set_cons_zero, List.set_cons_succ]
                  refine wpAnyH_take (i := 35) (v := (.bool true)) rfl (by kernel_rfl) (by kernel_rfl) (by kernel_rfl) (fun _ _ _ h => h) (Or.inl ⟨by rfl, ?_⟩) hHeld ?_
                  · intro w hSw; obtain ⟨s0, s1, s2, s3⟩ := hSw; go_simp
                  try simp only [List.getElem_toArray, List.getElem_cons_zero, List.getElem_cons_succ, Act.put, List.setIfInBounds_toArray, List.set_cons_zero, List.set_cons_succ]
                  refine wpAnyH_take (i := 36) (v := (.bool true)) rfl (by kernel_rfl) (by kernel_rfl) (by kernel_rfl) (fun _ _ _ h => h) (Or.inl ⟨by rfl, ?_⟩) hHeld ?_
                  · intro w hSw; obtain ⟨s0, s1, s2, s3⟩ := hSw; go_simp
                  try simp only [List.getElem_toArray, List.getElem_cons_zero, List.getElem_cons_succ, Act.put, List.setIfInBounds_toArray, List.set_cons_zero, List.set_cons_succ]
                  refine wpAnyH_take (i := 37) (v := (.pointer (some ⟨T, 0, none⟩))) rfl (by kernel_rfl) (by kernel_rfl) (by kernel_rfl) (fun _ _ _ h => h) (Or.inl ⟨by rfl, ?_⟩) hHeld ?_
                  · intro w hSw; obtain ⟨s0, s1, s2, s3⟩ := hSw; go_simp
                  try simp only [List.getElem_toArray, List.getElem_cons_zero, List.getElem_cons_succ, Act.put, List.setIfInBounds_toArray, List.set_cons_zero, List.set_cons_succ]
                  refine wpAnyH_take (i := 38) (v := (.int .i64 yi)) rfl (by kernel_rfl) (by kernel_rfl) (by kernel_rfl) (fun _ _ _ h => h) (Or.inl ⟨by rfl, ?_⟩) hHeld ?_
                  · intro w hSw; obtain ⟨s0, s1, s2, s3⟩ := hSw; go_simp
                  try simp only [List.getElem_toArray, List.getElem_cons_zero, List.getElem_cons_succ, Act.put, List.setIfInBounds_toArray, List.set_cons_zero, List.set_cons_succ]
                  refine wpAnyH_take (i := 39) (v := (.pointer (some ⟨b, 0, none⟩))) rfl (by kernel_rfl) (by kernel_rfl) (by kernel_rfl) (fun _ _ _ h => h) (Or.inl ⟨by rfl, ?_⟩) hHeld ?_
                  · intro w hSw; obtain ⟨s0, s1, s2, s3⟩ := hSw; go_simp
                  try simp only [List.getElem_toArray, List.getElem_cons_zero, List.getElem_cons_succ, Act.put, List.setIfInBounds_toArray, List.set_cons_zero, List.set_cons_succ]
                  refine wpAnyH_take (i := 40) (v := (.pointer (some ⟨b, 0, none⟩))) rfl (by kernel_rfl) (by kernel_rfl) (by kernel_rfl) (fun _ _ _ h => h) (Or.inl ⟨by rfl, ?_⟩) hHeld ?_
                  · intro w hSw; obtain ⟨s0, s1, s2, s3⟩ := hSw; go_simp
                  try simp only [List.getElem_toArray, List.getElem_cons_zero, List.getElem_cons_succ, Act.put, List.setIfInBounds_toArray, List.set_cons_zero, List.set_cons_succ]
                  refine wpAnyH_take (i := 41) (v := (.pointer (some ⟨b, 1, none⟩))) rfl (by kernel_rfl) (by kernel_rfl) (by kernel_rfl) (fun _ _ _ h => h) (Or.inl ⟨by rfl, ?_⟩) hHeld ?_
                  · intro w hSw; obtain ⟨s0, s1, s2, s3⟩ := hSw; go_simp
                  try simp only [List.getElem_toArray, List.getElem_cons_zero, List.getElem_cons_succ, Act.put, List.setIfInBounds_toArray, List.set_cons_zero, List.set_cons_succ]
                  refine wpAnyH_take (i := 42) (v := (.slice (some ⟨g, 0, none⟩) (R.length + 1) c2)) rfl (by kernel_rfl) (by kernel_rfl) (by kernel_rfl) (fun _ _ _ h => h) (Or.inl ⟨by rfl, ?_⟩) hHeld ?_
                  · intro w hSw; obtain ⟨s0, s1, s2, s3⟩ := hSw; go_simp
                  try simp only [List.getElem_toArray, List.getElem_cons_zero, List.getElem_cons_succ, Act.put, List.setIfInBounds_toArray, List.set_cons_zero, List.set_cons_succ]
                  refine wpAnyH_take (i := 43) (v := (.pointer (some ⟨g, 0, none⟩))) rfl (by kernel_rfl) (by kernel_rfl) (by kernel_rfl) (fun _ _ _ h => h) (Or.inl ⟨by rfl, ?_⟩) hHeld ?_
                  · intro w hSw; obtain ⟨s0, s1, s2, s3⟩ := hSw; go_simp
                  try simp only [List.getElem_toArray, List.getElem_cons_zero, List.getElem_cons_succ, Act.put, List.setIfInBounds_toArray, List.set_cons_zero, List.set_cons_succ]
                  refine wpAnyH_take (i := 44) (v := (.pointer (some ⟨g, 0, none⟩))) rfl (by kernel_rfl) (by kernel_rfl) (by kernel_rfl) (fun _ _ _ h => h) (Or.inl ⟨by rfl, ?_⟩) hHeld ?_
                  · intro w hSw; obtain ⟨s0, s1, s2, s3⟩ := hSw; go_simp
                  try simp only [List.getElem_toArray, List.getElem_cons_zero, List.getElem_cons_succ, Act.put, List.setIfInBounds_toArray, List.set_cons_zero, List.set_cons_succ]
                  refine wpAnyH_take (i := 45) (v := (.int .i64 yi)) rfl (by kernel_rfl) (by kernel_rfl) (by kernel_rfl) (fun _ _ _ h => h) (Or.inl ⟨by rfl, ?_⟩) hHeld ?_
                  · intro w hSw; obtain ⟨s0, s1, s2, s3⟩ := hSw; go_simp
                  try simp only [List.getElem_toArray, List.getElem_cons_zero, List.getElem_cons_succ, Act.put, List.setIfInBounds_toArray, List.set_cons_zero, List.set_cons_succ]
                  refine wpAnyH_take (i := 46) (v := (.bool false)) rfl (by kernel_rfl) (by kernel_rfl) (by kernel_rfl) (fun _ _ _ h => h) (Or.inl ⟨by rfl, ?_⟩) hHeld ?_
                  · intro w hSw; obtain ⟨s0, s1, s2, s3⟩ := hSw; go_simp
                  try simp only [List.getElem_toArray, List.getElem_cons_zero, List.getElem_cons_succ, Act.put, List.setIfInBounds_toArray, List.set_cons_zero, List.set_cons_succ]
                  refine wpAnyH_take (i := 47) (v := (.bool false)) rfl (by kernel_rfl) (by kernel_rfl) (by kernel_rfl) (fun _ _ _ h => h) (Or.inl ⟨by rfl, ?_⟩) hHeld ?_
                  · intro w hSw; obtain ⟨s0, s1, s2, s3⟩ := hSw; go_simp
                  try simp only [List.getElem_toArray, List.getElem_cons_zero, List.getElem_cons_succ, Act.put, List.setIfInBounds_toArray, List.set_cons_zero, List.set_cons_succ]
                  refine wpAnyH_take (i := 48) (v := (.bool false)) rfl (by kernel_rfl) (by kernel_rfl) (by kernel_rfl) (fun _ _ _ h => h) (Or.inl ⟨by rfl, ?_⟩) hHeld ?_
                  · intro w hSw; obtain ⟨s0, s1, s2, s3⟩ := hSw; go_simp
                  try simp only [List.getElem_toArray, List.getElem_cons_zero, List.getElem_cons_succ, Act.put, List.setIfInBounds_toArray, List.set_cons_zero, List.set_cons_succ]
                  refine wpAnyH_done (by kernel_rfl) ?_ _
                  replace hB3 := Lib.hid hB3
                  clear hHeld hB1 hB2 O6
                  go_wp2
                  go_roundw
                  case rel => exact ⟨i + 1, oS, _, by simp, by omega, F5.out.on hB3.out⟩
                  case measure => simp [intOf]; omega
              | true =>
                as_aux_lemma =>
                  have hr2 : (0 : Int) ≤ fi := by simpa using hr'
                  refine wp_region_held_drew (S := (fun W => W.cell? ⟨X, 0, none⟩ = some (.int .i64 xi) ∧ W.cell? ⟨b, 1, none⟩ = some (.slice (some ⟨g, 0, none⟩) (R.length + 1) c2) ∧ W.cell? ⟨T, 0, none⟩ = some (.int .i64 yi) ∧ W.cell? ⟨g, 0, none⟩ = some (.int .i64 yi))) (by kernel_rfl) ?_ (fun hHeld => ?_)
                  · exact KC.out _ (Below.drew (Below.refl _ _))
                  refine wpAnyH_take (i := 0) (v := (.bool true)) rfl (by kernel_rfl) (by kernel_rfl) (by kernel_rfl) (fun _ _ _ h => h) (Or.inl ⟨by rfl, ?_⟩) hHeld ?_
                  · intro w hSw; obtain ⟨s0, s1, s2, s3⟩ := hSw; go_simp
                  try simp only [List.getElem_toArray, List.getElem_cons_zero, List.getElem_cons_succ, Act.put, List.setIfInBounds_toArray, List.set_cons_zero, List.set_cons_succ]
                  refine wpAnyH_take (i := 1) (v := (.bool false)) rfl (by kernel_rfl) (by kernel_rfl) (by kernel_rfl) (fun _ _ _ h => h) (Or.inl ⟨by rfl, ?_⟩) hHeld ?_
                  · intro w hSw; obtain ⟨s0, s1, s2, s3⟩ := hSw; go_simp
                  try simp only [List.getElem_toArray, List.getElem_cons_zero, List.getElem_cons_succ, Act.put, List.setIfInBounds_toArray, List.set_cons_zero, List.set_cons_succ]
                  refine wpAnyH_take (i := 2) (v := (.bool false)) rfl (by kernel_rfl) (by kernel_rfl) (by kernel_rfl) (fun _ _ _ h => h) (Or.inl ⟨by rfl, ?_⟩) hHeld ?_
                  · intro w hSw; obtain ⟨s0, s1, s2, s3⟩ := hSw; go_simp
                  try simp only [List.getElem_toArray, List.getElem_cons_zero, List.getElem_cons_succ, Act.put, List.setIfInBounds_toArray, List.set_cons_zero, List.set_cons_succ]
                  refine wpAnyH_take (i := 3) (v := (.pointer (some ⟨a, 0, none⟩))) rfl (by kernel_rfl) (by kernel_rfl) (by kernel_rfl) (fun _ _ _ h => h) (Or.inl ⟨by rfl, ?_⟩) hHeld ?_
                  · intro w hSw; obtain ⟨s0, s1, s2, s3⟩ := hSw; go_simp
                  try simp only [List.getElem_toArray, List.getElem_cons_zero, List.getElem_cons_succ, Act.put, List.setIfInBounds_toArray, List.set_cons_zero, List.set_cons_succ]
                  refine wpAnyH_take (i := 5) (v := (.pointer (some ⟨b, 0, none⟩))) rfl (by kernel_rfl) (by kernel_rfl) (by kernel_rfl) (fun _ _ _ h => h) (Or.inl ⟨by rfl, ?_⟩) hHeld ?_
                  · intro w hSw; obtain ⟨s0, s1, s2, s3⟩ := hSw; go_simp
                  try simp only [List.getElem_toArray, List.getElem_cons_zero, List.getElem_cons_succ, Act.put, List.setIfInBounds_toArray, List.set_cons_zero, List.set_cons_succ]
                  refine wpAnyH_take (i := 6) (v := (.pointer (some ⟨b, 0, none⟩))) rfl (by kernel_rfl) (by kernel_rfl) (by kernel_rfl) (fun _ _ _ h => h) (Or.inl ⟨by rfl, ?_⟩) hHeld ?_
                  · intro w hSw; obtain ⟨s0, s1, s2, s3⟩ := hSw; go_simp
                  try simp only [List.getElem_toArray, List.getElem_cons_zero, List.getElem_cons_succ, Act.put, List.setIfInBounds_toArray, List.set_cons_zero, List.set_cons_succ]
                  refine wpAnyH_take (i := 7) (v := (.pointer (some ⟨b, 1, none⟩))) rfl (by kernel_rfl) (by kernel_rfl) (by kernel_rfl) (fun _ _ _ h => h) (Or.inl ⟨by rfl, ?_⟩) hHeld ?_
                  · intro w hSw; obtain ⟨s0, s1, s2, s3⟩ := hSw; go_simp
                  try simp only [List.getElem_toArray, List.getElem_cons_zero, List.getElem_cons_succ, Act.put, List.setIfInBounds_toArray, List.set_cons_zero, List.set_cons_succ]
                  refine wpAnyH_take (i := 8) (v := (.slice (some ⟨g, 0, none⟩) (R.length + 1) c2)) rfl (by kernel_rfl) (by kernel_rfl) (by kernel_rfl) (fun _ _ _ h => h) (Or.inl ⟨by rfl, ?_⟩) hHeld ?_
                  · intro w hSw; obtain ⟨s0, s1, s2, s3⟩ := hSw; go_simp
                  try simp only [List.getElem_toArray, List.getElem_cons_zero, List.getElem_cons_succ, Act.put, List.setIfInBounds_toArray, List.set_cons_zero, List.set_cons_succ]
                  refine wpAnyH_ready (rs := [4]) (by kernel_rfl) (by simp) ?_
                  refine AllReadyH.cons rfl (fun K hK => ?_) AllReadyH.nil
                  clear hHeld
                  go_simp
                  refine (CA.out _ (Below.drew (Below.refl _ _))).mono ?_
                  rintro e w6 ⟨v6, rfl, hown6, b6⟩
                  obtain ⟨A6, c6, rfl⟩ := own_any hown6
                  have hB1 : Below wS.heap.size wS w6 := Below.trans (Below.drew (Below.refl _ _)) b6
                  have O6 := Lib.hid hown6
                  clear hown6 b6
                  refine hK.out _ _ ?_ (fun hHeld => ?_)
                  · exact KC.out _ hB1
                  clear hK K
                  try simp only [List.getElem_toArray, List.getElem_cons_zero, List.getElem_cons_succ, Act.put, List.setIfInBounds_toArray, List.set_cons_zero, List.set_cons_succ]
                  refine wpAnyH_ready (rs := [9]) (by kernel_rfl) (by simp) ?_
                  refine AllReadyH.cons rfl (fun K hK => ?_) AllReadyH.nil
                  clear hHeld
                  go_simp
                  refine (CI.out _ hB1 A6 c6 (own_rd O6.out).1 (own_rd O6.out).2.1 (own_rd O6.out).2.2).mono ?_
                  rintro e w7 ⟨rfl, n7, rfl⟩
                  have hB2 := below_dN hB1 n7
                  refine hK.out _ _ ?_ (fun hHeld => ?_)
                  · exact KC.out _ hB2
                  clear hK K
                  try simp only [List.getElem_toArray, List.getElem_cons_zero, List.getElem_cons_succ, Act.put, List.setIfInBounds_toArray, List.set_cons_zero, List.set_cons_succ]
                  refine wpAnyH_take (i := 10) (v := (.bool false)) rfl (by kernel_rfl) (by kernel_rfl) (by kernel_rfl) (fun _ _ _ h => h) (Or.inl ⟨by rfl, ?_⟩) hHeld ?_
                  · intro w hSw; obtain ⟨s0, s1, s2, s3⟩ := hSw; go_simp
                  try simp only [List.getElem_toArray, List.getElem_cons_zero, List.getElem_cons_succ, Act.put, List.setIfInBounds_toArray, List.set_cons_zero, List.set_cons_succ]
                  refine wpAnyH_take (i := 11) (v := (.bool false)) rfl (by kernel_rfl) (by kernel_rfl) (by kernel_rfl) (fun _ _ _ h => h) (Or.inl ⟨by rfl, ?_⟩) hHeld ?_
                  · intro w hSw; obtain ⟨s0, s1, s2, s3⟩ := hSw; go_simp
                  try simp only [List.getElem_toArray, List.getElem_cons_zero, List.getElem_cons_succ, Act.put, List.setIfInBounds_toArray, List.set_cons_zero, List.set_cons_succ]
                  refine wpAnyH_take (i := 12) (v := (.bool false)) rfl (by kernel_rfl) (by kernel_rfl) (by kernel_rfl) (fun _ _ _ h => h) (Or.inl ⟨by rfl, ?_⟩) hHeld ?_
                  · intro w hSw; obtain ⟨s0, s1, s2, s3⟩ := hSw; go_simp
                  try simp only [List.getElem_toArray, List.getElem_cons_zero, List.getElem_cons_succ, Act.put, List.setIfInBounds_toArray, List.set_cons_zero, List.set_cons_succ]
                  refine wpAnyH_take (i := 13) (v := (.pointer (some ⟨a, 0, none⟩))) rfl (by kernel_rfl) (by kernel_rfl) (by kernel_rfl) (fun _ _ _ h => h) (Or.inl ⟨by rfl, ?_⟩) hHeld ?_
                  · intro w hSw; obtain ⟨s0, s1, s2, s3⟩ := hSw; go_simp
                  try simp only [List.getElem_toArray, List.getElem_cons_zero, List.getElem_cons_succ, Act.put, List.setIfInBounds_toArray, List.set_cons_zero, List.set_cons_succ]
                  refine wpAnyH_take (i := 14) (v := (.pointer (some ⟨X, 0, none⟩))) rfl (by kernel_rfl) (by kernel_rfl) (by kernel_rfl) (fun _ _ _ h => h) (Or.inl ⟨by rfl, ?_⟩) hHeld ?_
                  · intro w hSw; obtain ⟨s0, s1, s2, s3⟩ := hSw; go_simp
                  try simp only [List.getElem_toArray, List.getElem_cons_zero, List.getElem_cons_succ, Act.put, List.setIfInBounds_toArray, List.set_cons_zero, List.set_cons_succ]
                  refine wpAnyH_take (i := 15) (v := (.int .i64 xi)) rfl (by kernel_rfl) (by kernel_rfl) (by kernel_rfl) (fun _ _ _ h => h) (Or.inl ⟨by rfl, ?_⟩) hHeld ?_
                  · intro w hSw; obtain ⟨s0, s1, s2, s3⟩ := hSw; go_simp
                  try simp only [List.getElem_toArray, List.getElem_cons_zero, List.getElem_cons_succ, Act.put, List.setIfInBounds_toArray, List.set_cons_zero, List.set_cons_succ]
                  refine wpAnyH_take (i := 17) (v := (.pointer (some ⟨b, 0, none⟩))) rfl (by kernel_rfl) (by kernel_rfl) (by kernel_rfl) (fun _ _ _ h => h) (Or.inl ⟨by rfl, ?_⟩) hHeld ?_
                  · intro w hSw; obtain ⟨s0, s1, s2, s3⟩ := hSw; go_simp
                  try simp only [List.getElem_toArray, List.getElem_cons_zero, List.getElem_cons_succ, Act.put, List.setIfInBounds_toArray, List.set_cons_zero, List.set_cons_succ]
                  refine wpAnyH_take (i := 18) (v := (.pointer (some ⟨X, 0, none⟩))) rfl (by kernel_rfl) (by kernel_rfl) (by kernel_rfl) (fun _ _ _ h => h) (Or.inl ⟨by rfl, ?_⟩) hHeld ?_
                  · intro w hSw; obtain ⟨s0, s1, s2, s3⟩ := hSw; go_simp
                  try simp only [List.getElem_toArray, List.getElem_cons_zero, List.getElem_cons_succ, Act.put, List.setIfInBounds_toArray, List.set_cons_zero, List.set_cons_succ]
                  refine wpAnyH_take (i := 19) (v := (.int .i64 xi)) rfl (by kernel_rfl) (by kernel_rfl) (by kernel_rfl) (fun _ _ _ h => h) (Or.inl ⟨by rfl, ?_⟩) hHeld ?_
                  · intro w hSw; obtain ⟨s0, s1, s2, s3⟩ := hSw; go_simp
                  try simp only [List.getElem_toArray, List.getElem_cons_zero, List.getElem_cons_succ, Act.put, List.setIfInBounds_toArray, List.set_cons_zero, List.set_cons_succ]
                  refine wpAnyH_ready (rs := [16]) (by kernel_rfl) (by simp) ?_
                  refine AllReadyH.cons rfl (fun K hK => ?_) AllReadyH.nil
                  clear hHeld
                  go_simp
                  refine (CH.out _ hB2).mono ?_
                  rintro e w8 ⟨rfl, b8⟩
                  have hB3 := below_on hB2 b8
                  clear b8
                  refine hK.out _ _ ?_ (fun hHeld => ?_)
                  · exact KC.out _ hB3
                  clear hK K
                  try simp only [List.getElem_toArray, List.getElem_cons_zero, List.getElem_cons_succ, Act.put, List.setIfInBounds_toArray, List.set_cons_zero, List.set_cons_succ]
                  refine wpAnyH_ready (rs := [20]) (by kernel_rfl) (by simp) ?_
                  refine AllReadyH.cons rfl (fun K hK => ?_) AllReadyH.nil
                  clear hHeld
                  go_simp
                  refine (CF.out _ hB3).mono ?_
                  rintro e w9 ⟨rfl, rfl⟩
                  refine hK.out _ _ ?_ (fun hHeld => ?_)
                  · exact KC.out _ hB3
                  clear hK K
                  try simp only [List.getElem_toArray, List.getElem_cons_zero, List.getElem_cons_succ, Act.put, List.setIfInBounds_toArray, List.set_cons_zero, List.set_cons_succ]
                  refine wpAnyH_take (i := 21) (v := (.bool true)) rfl (by kernel_rfl) (by kernel_rfl) (by kernel_rfl) (fun _ _ _ h => h) (Or.inl ⟨by rfl, ?_⟩) hHeld ?_
                  · intro w hSw; obtain ⟨s0, s1, s2, s3⟩ := hSw; go_simp
                  try simp only [List.getElem_toArray, List.getElem_cons_zero, List.getElem_cons_succ, Act.put, List.setIfInBounds_toArray, List.set_cons_zero, List.set_cons_succ]
                  refine wpAnyH_take (i := 22) (v := (.bool false)) rfl (by kernel_rfl) (by kernel_rfl) (by kernel_rfl) (fun _ _ _ h => h) (Or.inl ⟨by rfl, ?_⟩) hHeld ?_
                  · intro w hSw; obtain ⟨s0, s1, s2, s3⟩ := hSw; go_simp
                  try simp only [List.getElem_toArray, List.getElem_cons_zero, List.getElem_cons_succ, Act.put, List.setIfInBounds_toArray, List.set_cons_zero, List.set_cons_succ]
                  refine wpAnyH_take (i := 23) (v := (.bool false)) rfl (by kernel_rfl) (by kernel_rfl) (by kernel_rfl) (fun _ _ _ h => h) (Or.inl ⟨by rfl, ?_⟩) hHeld ?_
                  · intro w hSw; obtain ⟨s0, s1, s2, s3⟩ := hSw; go_simp
                  try simp only [List.getElem_toArray, List.getElem_cons_zero, List.getElem_cons_succ, Act.put, List.setIfInBounds_toArray, List.set_cons_zero, List.set_cons_succ]
                  refine wpAnyH_take (i := 24) (v := (.bool false)) rfl (by kernel_rfl) (by kernel_rfl) (by kernel_rfl) (fun _ _ _ h => h) (Or.inl ⟨by rfl, ?_⟩) hHeld ?_
                  · intro w hSw; obtain ⟨s0, s1, s2, s3⟩ := hSw; go_simp
                  try simp only [List.getElem_toArray, List.getElem_cons_zero, List.getElem_cons_succ, Act.put, List.setIfInBounds_toArray, List.set_cons_zero, List.set_cons_succ]
                  refine wpAnyH_take (i := 25) (v := (.bool true)) rfl (by kernel_rfl) (by kernel_rfl) (by kernel_rfl) (fun _ _ _ h => h) (Or.inl ⟨by rfl, ?_⟩) hHeld ?_
                  · intro w hSw; obtain ⟨s0, s1, s2, s3⟩ := hSw; go_simp
                  try simp only [List.getElem_toArray, List.getElem_cons_zero, List.getElem_cons_succ, Act.put, List.setIfInBounds_toArray, List.set_cons_zero, List.set_cons_succ]
                  refine wpAnyH_take (i := 26) (v := (.pointer (some ⟨b, 0, none⟩))) rfl (by kernel_rfl) (by kernel_rfl) (by kernel_rfl) (fun _ _ _ h => h) (Or.inl ⟨by rfl, ?_⟩) hHeld ?_
                  · intro w hSw; obtain ⟨s0, s1, s2, s3⟩ := hSw; go_simp
                  try simp only [List.getElem_toArray, List.getElem_cons_zero, List.getElem_cons_succ, Act.put, List.setIfInBounds_toArray, List.set_cons_zero, List.set_cons_succ]
                  refine wpAnyH_take (i := 27) (v := (.pointer (some ⟨b, 0, none⟩))) rfl (by kernel_rfl) (by kernel_rfl) (by kernel_rfl) (fun _ _ _ h => h) (Or.inl ⟨by rfl, ?_⟩) hHeld ?_
                  · intro w hSw; obtain ⟨s0, s1, s2, s3⟩ := hSw; go_simp
                  try simp only [List.getElem_toArray, List.getElem_cons_zero, List.getElem_cons_succ, Act.put, List.setIfInBounds_toArray, List.set_cons_zero, List.set_cons_succ]
                  refine wpAnyH_take (i := 28) (v := (.pointer (some ⟨b, 1, none⟩))) rfl (by kernel_rfl) (by kernel_rfl) (by kernel_rfl) (fun _ _ _ h => h) (Or.inl ⟨by rfl, ?_⟩) hHeld ?_
                  · intro w hSw; obtain ⟨s0, s1, s2, s3⟩ := hSw; go_simp
                  try simp only [List.getElem_toArray, List.getElem_cons_zero, List.getElem_cons_succ, Act.put, List.setIfInBounds_toArray, List.set_cons_zero, List.set_cons_succ]
                  refine wpAnyH_take (i := 29) (v := (.slice (some ⟨g, 0, none⟩) (R.length + 1) c2)) rfl (by kernel_rfl) (by kernel_rfl) (by kernel_rfl) (fun _ _ _ h => h) (Or.inl ⟨by rfl, ?_⟩) hHeld ?_
                  · intro w hSw; obtain ⟨s0, s1, s2, s3⟩ := hSw; go_simp
                  try simp only [List.getElem_toArray, List.getElem_cons_zero, List.getElem_cons_succ, Act.put, List.setIfInBounds_toArray, List.set_cons_zero, List.set_cons_succ]
                  refine wpAnyH_take (i := 30) (v := (.int .i64 ((R.length : Int) + 1))) rfl (by kernel_rfl) (by kernel_rfl) (by kernel_rfl) (fun _ _ _ h => h) (Or.inl ⟨by rfl, ?_⟩) hHeld ?_
                  · intro w hSw; obtain ⟨s0, s1, s2, s3⟩ := hSw; go_simp
                  try simp only [List.getElem_toArray, List.getElem_cons_zero, List.getElem_cons_succ, Act.put, List.setIfInBounds_toArray, List.set_cons_zero, List.set_cons_succ]
                  refine wpAnyH_take (i := 31) (v := (.bool true)) rfl (by kernel_rfl) (by kernel_rfl) (by kernel_rfl) (fun _ _ _ h => h) (Or.inl ⟨by rfl, ?_⟩) hHeld ?_
                  · intro w hSw; obtain ⟨s0, s1, s2, s3⟩ := hSw; go_simp
                  try simp only [List.getElem_toArray, List.getElem_cons_zero, List.getElem_cons_succ, Act.put, List.setIfInBounds_toArray, List.set_cons_zero, List.set_cons_succ]
                  refine wpAnyH_take (i := 32) (v := (.bool false)) rfl (by kernel_rfl) (by kernel_rfl) (by kernel_rfl) (fun _ _ _ h => h) (Or.inl ⟨by rfl, ?_⟩) hHeld ?_
                  · intro w hSw; obtain ⟨s0, s1, s2, s3⟩ := hSw; go_simp
                  try simp only [List.getElem_toArray, List.getElem_cons_zero, List.getElem_cons_succ, Act.put, List.setIfInBounds_toArray, List.set_cons_zero, List.set_cons_succ]
                  refine wpAnyH_take (i := 33) (v := (.bool false)) rfl (by kernel_rfl) (by kernel_rfl) (by kernel_rfl) (fun _ _ _ h => h) (Or.inl ⟨by rfl, ?_⟩) hHeld ?_
                  · intro w hSw; obtain ⟨s0, s1, s2, s3⟩ := hSw; go_simp
                  try simp only [List.getElem_toArray, List.getElem_cons_zero, List.getElem_cons_succ, Act.put, List.setIfInBounds_toArray, List.set_cons_zero, List.set_cons_succ]
                  refine wpAnyH_take (i := 34) (v := (.bool false)) rfl (by kernel_rfl) (by kernel_rfl) (by kernel_rfl) (fun _ _ _ h => h) (Or.inl ⟨by rfl, ?_⟩) hHeld ?_
                  · intro w hSw; obtain ⟨s0, s1, s2, s3⟩ := hSw; go_simp
                  try simp only [List.getElem_toArray, List.getElem_cons_zero, List.getElem_cons_succ, Act.put, List.setIfInBounds_toArray, List.set_cons_zero, List.set_cons_succ]
                  refine wpAnyH_take (i := 35) (v := (.bool true)) rfl (by kernel_rfl) (by kernel_rfl) (by kernel_rfl) (fun _ _ _ h => h) (Or.inl ⟨by rfl, ?_⟩) hHeld ?_
                  · intro w hSw; obtain ⟨s0, s1, s2, s3⟩ := hSw; go_simp
                  try simp only [List.getElem_toArray, List.getElem_cons_zero, List.getElem_cons_succ, Act.put, List.setIfInBounds_toArray, List.set_cons_zero, List.set_cons_succ]
                  refine wpAnyH_take (i := 36) (v := (.bool true)) rfl (by kernel_rfl) (by kernel_rfl) (by kernel_rfl) (fun _ _ _ h => h) (Or.inl ⟨by rfl, ?_⟩) hHeld ?_
                  · intro w hSw; obtain ⟨s0, s1, s2, s3⟩ := hSw; go_simp
                  try simp only [List.getElem_toArray, List.getElem_cons_zero, List.getElem_cons_succ, Act.put, List.setIfInBounds_toArray, List.set_cons_zero, List.set_cons_succ]
                  refine wpAnyH_take (i := 37) (v := (.pointer (some ⟨T, 0, none⟩))) rfl (by kernel_rfl) (by kernel_rfl) (by kernel_rfl) (fun _ _ _ h => h) (Or.inl ⟨by rfl, ?_⟩) hHeld ?_
                  · intro w hSw; obtain ⟨s0, s1, s2, s3⟩ := hSw; go_simp
                  try simp only [List.getElem_toArray, List.getElem_cons_zero, List.getElem_cons_succ, Act.put, List.setIfInBounds_toArray, List.set_cons_zero, List.set_cons_succ]
                  refine wpAnyH_take (i := 38) (v := (.int .i64 yi)) rfl (by kernel_rfl) (by kernel_rfl) (by kernel_rfl) (fun _ _ _ h => h) (Or.inl ⟨by rfl, ?_⟩) hHeld ?_
                  · intro w hSw; obtain ⟨s0, s1, s2, s3⟩ := hSw; go_simp
                  try simp only [List.getElem_toArray, List.getElem_cons_zero, List.getElem_cons_succ, Act.put, List.setIfInBounds_toArray, List.set_cons_zero, List.set_cons_succ]
                  refine wpAnyH_take (i := 39) (v := (.pointer (some ⟨b, 0, none⟩))) rfl (by kernel_rfl) (by kernel_rfl) (by kernel_rfl) (fun _ _ _ h => h) (Or.inl ⟨by rfl, ?_⟩) hHeld ?_
                  · intro w hSw; obtain ⟨s0, s1, s2, s3⟩ := hSw; go_simp
                  try simp only [List.getElem_toArray, List.getElem_cons_zero, List.getElem_cons_succ, Act.put, List.setIfInBounds_toArray, List.set_cons_zero, List.set_cons_succ]
                  refine wpAnyH_take (i := 40) (v := (.pointer (some ⟨b, 0, none⟩))) rfl (by kernel_rfl) (by kernel_rfl) (by kernel_rfl) (fun _ _ _ h => h) (Or.inl ⟨by rfl, ?_⟩) hHeld ?_
                  · intro w hSw; obtain ⟨s0, s1, s2, s3⟩ := hSw; go_simp
                  try simp only [List.getElem_toArray, List.getElem_cons_zero, List.getElem_cons_succ, Act.put, List.setIfInBounds_toArray, List.set_cons_zero, List.set_cons_succ]
                  refine wpAnyH_take (i := 41) (v := (.pointer (some ⟨b, 1, none⟩))) rfl (by kernel_rfl) (by kernel_rfl) (by kernel_rfl) (fun _ _ _ h => h) (Or.inl ⟨by rfl, ?_⟩) hHeld ?_
                  · intro w hSw; obtain ⟨s0, s1, s2, s3⟩ := hSw; go_simp
                  try simp only [List.getElem_toArray, List.getElem_cons_zero, List.getElem_cons_succ, Act.put, List.setIfInBounds_toArray, List.set_cons_zero, List.set_cons_succ]
                  refine wpAnyH_take (i := 42) (v := (.slice (some ⟨g, 0, none⟩) (R.length + 1) c2)) rfl (by kernel_rfl) (by kernel_rfl) (by kernel_rfl) (fun _ _ _ h => h) (Or.inl ⟨by rfl, ?_⟩) hHeld ?_
                  · intro w hSw; obtain ⟨s0, s1, s2, s3⟩ := hSw; go_simp
                  try simp only [List.getElem_toArray, List.getElem_cons_zero, List.getElem_cons_succ, Act.put, List.setIfInBounds_toArray, List.set_cons_zero, List.set_cons_succ]
                  refine wpAnyH_take (i := 43) (v := (.pointer (some ⟨g, 0, none⟩))) rfl (by kernel_rfl) (by kernel_rfl) (by kernel_rfl) (fun _ _ _ h => h) (Or.inl ⟨by rfl, ?_⟩) hHeld ?_
                  · intro w hSw; obtain ⟨s0, s1, s2, s3⟩ := hSw; go_simp
                  try simp only [List.getElem_toArray, List.getElem_cons_zero, List.getElem_cons_succ, Act.put, List.setIfInBounds_toArray, List.set_cons_zero, List.set_cons_succ]
                  refine wpAnyH_take (i := 44) (v := (.pointer (some ⟨g, 0, none⟩))) rfl (by kernel_rfl) (by kernel_rfl) (by kernel_rfl) (fun _ _ _ h => h) (Or.inl ⟨by rfl, ?_⟩) hHeld ?_
                  · intro w hSw; obtain ⟨s0, s1, s2, s3⟩ := hSw; go_simp
                  try simp only [List.getElem_toArray, List.getElem_cons_zero, List.getElem_cons_succ, Act.put, List.setIfInBounds_toArray, List.set_cons_zero, List.set_cons_succ]
                  refine wpAnyH_take (i := 45) (v := (.int .i64 yi)) rfl (by kernel_rfl) (by kernel_rfl) (by kernel_rfl) (fun _ _ _ h => h) (Or.inl ⟨by rfl, ?_⟩) hHeld ?_
                  · intro w hSw; obtain ⟨s0, s1, s2, s3⟩ := hSw; go_simp
                  try simp only [List.getElem_toArray, List.getElem_cons_zero, List.getElem_cons_succ, Act.put, List.setIfInBounds_toArray, List.set_cons_zero, List.set_cons_succ]
                  refine wpAnyH_take (i := 46) (v := (.bool false)) rfl (by kernel_rfl) (by kernel_rfl) (by kernel_rfl) (fun _ _ _ h => h) (Or.inl ⟨by rfl, ?_⟩) hHeld ?_
                  · intro w hSw; obtain ⟨s0, s1, s2, s3⟩ := hSw; go_simp
                  try simp only [List.getElem_toArray, List.getElem_cons_zero, List.getElem_cons_succ, Act.put, List.setIfInBounds_toArray, List.set_cons_zero, List.set_cons_succ]
                  refine wpAnyH_take (i := 47) (v := (.bool false)) rfl (by kernel_rfl) (by kernel_rfl) (by kernel_rfl) (fun _ _ _ h => h) (Or.inl ⟨by rfl, ?_⟩) hHeld ?_
                  · intro w hSw; obtain ⟨s0, s1, s2, s3⟩ := hSw; go_simp
                  try simp only [List.getElem_toArray, List.getElem_cons_zero, List.getElem_cons_succ, Act.put, List.setIfInBounds_toArray, List.set_cons_zero, List.set_cons_succ]
                  refine wpAnyH_take (i := 48) (v := (.bool false)) rfl (by kernel_rfl) (by kernel_rfl) (by kernel_rfl) (fun _ _ _ h => h) (Or.inl ⟨by rfl, ?_⟩) hHeld ?_
                  · intro w hSw; obtain ⟨s0, s1, s2, s3⟩ := hSw; go_simp
                  try simp only [List.getElem_toArray, List.getElem_cons_zero, List.getElem_cons_succ, Act.put, List.setIfInBounds_toArray, List.set_cons_zero, List.set_cons_succ]
                  refine wpAnyH_done (by kernel_rfl) ?_ _
                  replace hB3 := Lib.hid hB3
                  clear hHeld hB1 hB2 O6
                  go_wp2
                  go_roundw
                  case rel => exact ⟨i + 1, oS, _, by simp, by omega, F5.out.on hB3.out⟩
                  case measure => simp [intOf]; omega
    · obtain rfl : i = N := by omega
      replace P := Lib.hid P
      go_wp2
      go_ret
      exact ⟨rfl, P.out.lw.below⟩
end Go.Proofs.Ytgbmpnoknmpmcaa
