/- The document's own Press. -/
import Derived.Test.YtkjgpidiompmlaaElRef2
import Derived.Test.YtkjgpidiompmlaaElSt
import Derived.Test.YtkjgpidiompmlaaCelZ
import Derived.Test.YtkjgpidiompmlaaRef5
import Derived.Test.YtkjgpidiompmlaaRegT
import Derived.Deep.RegionHeld3
import Derived.Deep.DeepCutAuto
namespace Go.Proofs.Ytkjgpidiompmlaa
open Go.RowKit Go.Deep
open Go.Lib hiding intOf
set_option linter.unusedVariables false
set_option linter.unusedSimpArgs false

/-- It returns these shares, and this error. -/
def PressA (e : Int) (xs : List Int) (w : World) (en : Ending) (w' : World) : Prop := ∃ A' c, en = .returned (.tuple #[.slice A' xs.length c, .int .i64 e]) ∧ xs.length ≤ c ∧ c ≤ 9223372036854775807 ∧ ReadsI w' A' xs ∧ Below w.heap.size w w'
theorem press_nil {e : Int} {w w' : World} (hb : Below w.heap.size w w') : PressA e [] w (.returned (.tuple #[.slice none 0 0, .int .i64 e])) w' := ⟨none, 0, rfl, by simp, by decide, fun k hk => by simp at hk, hb⟩
theorem Try.infoB1 : (Try.prog.info? 4).map (fun i => (i.zero, i.size, i.bytes)) = some (some (.bool false), 1, 1) := by kernel_rfl
theorem Try.infoN1 : (Try.prog.info? 2).map (fun i => (i.zero, i.size, i.bytes)) = some (some (.int .i64 0), 1, 8) := by kernel_rfl
/-- The two blocks beside one another, behind w. -/
structure PBl (w : World) (X Y n : Nat) (f : Nat → Int) (h : Nat → Bool) (W : World) : Prop where
  x : CelZ X n f W
  y : CelF Y n h W
  ne : X ≠ Y
  wx : w.heap.size ≤ X
  wy : w.heap.size ≤ Y
  below : Below w.heap.size w W
theorem PBl.on {w W W' : World} {X Y n : Nat} {f : Nat → Int} {h : Nat → Bool} (p : PBl w X Y n f h W) (hb : Below W.heap.size W W') : PBl w X Y n f h W' := ⟨p.x.on hb, p.y.on hb, p.ne, p.wx, p.wy, below_on p.below hb⟩
theorem PBl.setX {w W : World} {X Y n : Nat} {f g : Nat → Int} {h : Nat → Bool} (p : PBl w X Y n f h W) {k : Nat} (hk : k < n) {v : Int} (e : ∀ q, (if q = k then v else f q) = g q) : PBl w X Y n g h (W.setCell ⟨X, k, none⟩ (.int .i64 v)) :=
  ⟨(p.x.store hk v).to fun q _ => e q, p.y.other p.ne.symm _, p.ne, p.wx, p.wy, p.below.setCell p.wx _⟩
theorem PBl.setY {w W : World} {X Y n : Nat} {f : Nat → Int} {h g : Nat → Bool} (p : PBl w X Y n f h W) {k : Nat} (hk : k < n) {v : Bool} (e : ∀ q, (if q = k then v else h q) = g q) : PBl w X Y n f g (W.setCell ⟨Y, k, none⟩ (.bool v)) :=
  ⟨p.x.other p.ne _, (p.y.store hk v).to fun q _ => e q, p.ne, p.wx, p.wy, p.below.setCell p.wy _⟩
theorem PBl.to {w W : World} {X Y n : Nat} {f g : Nat → Int} {h h' : Nat → Bool} (p : PBl w X Y n f h W) (e1 : ∀ q, q < n → f q = g q) (e2 : ∀ q, q < n → h q = h' q) : PBl w X Y n g h' W := ⟨p.x.to e1, p.y.to e2, p.ne, p.wx, p.wy, p.below⟩
/-- The first i laid. -/
def layX (l : List Sp) (i k : Nat) : Int := if k < i then xA (st0 l) k else 0
def layH (l : List Sp) (i k : Nat) : Bool := if k < i then hA (st0 l) k else false
theorem layX_next {l : List Sp} {i : Nat} {s : Sp} (h : l[i]? = some s) (q : Nat) : (if q = i then s.want else layX l i q) = layX l (i + 1) q := by
  unfold layX
  by_cases c : q = i
  · subst c; rw [if_pos rfl, if_pos (by omega), (st0_x h).1]
  · rw [if_neg c]
    by_cases c2 : q < i
    · rw [if_pos c2, if_pos (by omega)]
    · rw [if_neg c2, if_neg (by omega)]
theorem layH_next {l : List Sp} {i : Nat} {s : Sp} (h : l[i]? = some s) {b : Bool} (hb : decide (s.soft = 0) = b) (q : Nat) : (if q = i then b else layH l i q) = layH l (i + 1) q := by
  unfold layH
  by_cases c : q = i
  · subst c; rw [if_pos rfl, if_pos (by omega), (st0_x h).2, hb]
  · rw [if_neg c]
    by_cases c2 : q < i
    · rw [if_pos c2, if_pos (by omega)]
    · rw [if_neg c2, if_neg (by omega)]
set_option maxHeartbeats 12800000 in
set_option maxRecDepth 100000 in
theorem rpress_any (A : Option Addr) (cap : Nat) (l : List Sp) (room e : Int) (xs : List Int) (w : World) (hcap : cap ≤ 9223372036854775807) (hlc : l.length ≤ cap) (hR : RdSp w A l) (hrf : fitB room = true) (h : PressR room l e xs) :
    Calls Try.prog 14 #[.slice A l.length cap, .int .i64 room] w (PressA e xs w) := by
  obtain ⟨i0, hi0, hz0, hz1, hz2⟩ := info_parts Try.infoB1
  obtain ⟨o, ho⟩ : ∃ o, floorOk l = o := ⟨_, rfl⟩
  obtain ⟨fl, hfl⟩ : ∃ v, floorV l = v := ⟨_, rfl⟩
  have C1 := Lib.hid (rfloor_any A cap l fl o w hcap hlc hR hfl ho)
  obtain ⟨r, hr⟩ : ∃ r, roomB room = r := ⟨_, rfl⟩
  have C2 := Lib.hid (rroom_any room r · hr)
  unfold floorOk at ho
  cases o
  · obtain ⟨rfl, rfl⟩ := h.uniq (PressR.bad (room := room) (l := l) (by rw [ho]; rfl))
    generalize l.length = n at *
    clear hR h hfl ho hr
    go_enter Try.func14, Try.ntmps14
    go_wp2_with fail
    refine C1.out.mono ?_; rintro e' gw ⟨rfl, g⟩
    clear C1
    go_wp2
    go_ret2
    exact press_nil (by have s0 := g.size; (try simp only [World.heap_drewN, World.size_alloc] at s0); repeat (first | exact Below.refl _ _ | exact g | refine Below.trans ?_ (Below.mono g (by first | omega | (simp; done) | (simp; omega))) | refine Below.setCell ?_ (by first | omega | (simp; done) | (simp; omega)) _ | refine below_dN ?_ _ | refine Below.drew ?_ | refine Below.alloc ?_ (by first | omega | (simp; done) | (simp; omega)) _))
  · cases r
    · obtain ⟨rfl, rfl⟩ := h.uniq (PressR.bad (room := room) (l := l) (by rw [hr, Bool.and_false]))
      generalize l.length = n at *
      clear hR h hfl ho hr
      go_enter Try.func14, Try.ntmps14
      go_wp2_with fail
      refine C1.out.mono ?_; rintro e' gw ⟨rfl, g⟩
      clear C1
      go_wp2_with fail
      refine (C2.out _).mono ?_; rintro e w' ⟨rfl, n1, rfl⟩
      go_wp2
      go_ret2
      exact press_nil (by have s0 := g.size; (try simp only [World.heap_drewN, World.size_alloc] at s0); repeat (first | exact Below.refl _ _ | exact g | refine Below.trans ?_ (Below.mono g (by first | omega | (simp; done) | (simp; omega))) | refine Below.setCell ?_ (by first | omega | (simp; done) | (simp; omega)) _ | refine below_dN ?_ _ | refine Below.drew ?_ | refine Below.alloc ?_ (by first | omega | (simp; done) | (simp; omega)) _))
    · have hg : (springsB l && roomB room) = true := by rw [ho, hr]; rfl
      obtain rfl : floorZ l = fl := by rw [← hfl]; unfold floorV; rw [ho]; rfl
      by_cases hf : floorZ l ≤ room
      · obtain ⟨h20, hgood⟩ := springs_iff.1 ho
        obtain ⟨r0, r1⟩ := room_iff.1 hr
        have t1 : decide (floorZ l > room) = false := decide_eq_false (by omega)
        obtain ⟨n, hl⟩ : ∃ n, l.length = n := ⟨_, rfl⟩
        have hmk : Hid (∀ w', (Instr.makeSlice 23 (.int .i64 (n : Int)) (.int .i64 (n : Int))).run Try.prog w' = .ok (.slice (some ⟨w'.heap.size, 0, none⟩) n n) (w'.alloc (.cells (madeCells #[.int .i64 0] n) 2))) := fun w' => run_make_row' _ _ _ 8 Try.underlying23 Try.infoN1 (by kernel_rfl) .i64 .i64 n (by omega) (by omega) w'
        have hmkb : Hid (∀ w', (Instr.makeSlice 51 (.int .i64 (n : Int)) (.int .i64 (n : Int))).run Try.prog w' = .ok (.slice (some ⟨w'.heap.size, 0, none⟩) n n) (w'.alloc (.cells (madeCells #[.bool false] n) 4))) := fun w' => run_make_row' _ _ _ 1 Try.underlying51 Try.infoB1 (by kernel_rfl) .i64 .i64 n (by omega) (by omega) w'
        have H := Lib.hid (And.intro hl (And.intro hR (And.intro hgood (And.intro hg (And.intro hf h)))))
        rw [hl] at C1 hlc h20 ⊢
        generalize floorZ l = fl at C1 t1
        clear hl hR hgood hg h ho hr hf hfl
        go_enter Try.func14, Try.ntmps14
        go_wp2_with fail
        refine C1.out.mono ?_; rintro e' gw ⟨rfl, g⟩
        clear C1
        go_wp2_with fail
        refine (C2.out _).mono ?_; rintro e' w' ⟨rfl, q1, rfl⟩
        clear C2
        obtain ⟨g1, hg1⟩ : ∃ v, gw.drewN q1 = v := ⟨_, rfl⟩
        rw [hg1]
        replace g : Hid (Below w.heap.size w g1) := by rw [← hg1]; exact below_dN g q1
        clear hg1
        have m1 := hmk.out
        have m2 := hmkb.out
        go_wp2
        clear m1 m2 hmk hmkb t1
        have K0 : Hid (PBl w g1.heap.size (g1.heap.size + 1) n (layX l 0) (layH l 0) ((g1.alloc (.cells (madeCells #[.int .i64 0] n) 2)).alloc (.cells (madeCells #[.bool false] n) 4))) := by
          have b1 : Below g1.heap.size g1 (g1.alloc (.cells (madeCells #[.int .i64 0] n) 2)) := (Below.refl _ _).alloc (Nat.le_refl _) _
          have b2 : Below (g1.alloc (.cells (madeCells #[.int .i64 0] n) 2)).heap.size (g1.alloc (.cells (madeCells #[.int .i64 0] n) 2)) ((g1.alloc (.cells (madeCells #[.int .i64 0] n) 2)).alloc (.cells (madeCells #[.bool false] n) 4)) := (Below.refl _ _).alloc (Nat.le_refl _) _
          have hs := g.out.size
          have y := CelF.fresh (g1.alloc (.cells (madeCells #[.int .i64 0] n) 2)) 4 n
          rw [World.size_alloc] at y
          exact ⟨((CelZ.fresh g1 2 n).on b2).to (fun q _ => by unfold layX; rw [if_neg (by omega)]), y.to (fun q _ => by unfold layH; rw [if_neg (by omega)]), by omega, hs, by omega, below_on (below_on g.out b1) b2⟩
        have hsw := Lib.hid g.out.size
        generalize World.alloc (World.alloc g1 _) _ = W0 at K0 ⊢
        generalize g1.heap.size = X at K0 ⊢
        generalize X + 1 = Y at K0 ⊢
        clear hsw
        have At : Hid (∀ (i : Nat) (x : Sp), l[i]? = some x → ∃ B off, A = some ⟨B, off, none⟩ ∧ B < w.heap.size ∧ ∀ W, Below w.heap.size w W → W.cell? ⟨B, off + i * 3, none⟩ = some (.int .i64 x.want) ∧ W.cell? ⟨B, off + i * 3 + 1, none⟩ = some (.int .i64 x.least) ∧ W.cell? ⟨B, off + i * 3 + 2, none⟩ = some (.int .i64 x.soft)) := fun i x hx => by
          obtain ⟨B, off, rfl, a0, _⟩ := H.out.2.1 i x hx
          refine ⟨B, off, rfl, cell_lt a0, fun W hb => ?_⟩
          obtain ⟨B', off', he, b⟩ := (H.out.2.1.below hb) i x hx
          cases he
          exact b
        go_loopw [10, 11] (fun sv st wr => ∃ (i : Nat) (u : Int), sv = .int .i64 u ∧ st = .int .i64 (i : Int) ∧ i ≤ n ∧ Hid (smap Sp.want (l.take i) = u ∧ PBl w X Y n (layX l i) (layH l i) wr)) (fun _ st _ => n - (intOf st).toNat)
        case atStart => exact ⟨0, 0, rfl, rfl, by omega, Lib.hid ⟨by simp [smap], K0.out⟩⟩
        case round =>
          clear K0
          obtain ⟨i, u, rfl, rfl, hin, K⟩ := hrel
          rcases Nat.lt_or_ge i n with hlt | hge
          · have d1 : decide ((i : Int) < (n : Int)) = true := decide_eq_true (by omega)
            have e1 : IntKind.i64.wrap ((i : Int) + 1) = ((i + 1 : Nat) : Int) := by rw [IntKind.wrap_i64]; omega
            have b1 : (i : Int) < (n : Int) := by omega
            obtain ⟨x, hx⟩ : ∃ x, l[i]? = some x := ⟨_, List.getElem?_eq_getElem (by rw [H.out.1]; exact hlt)⟩
            obtain ⟨B, off, rfl, hBw, hat⟩ := At.out i x hx
            have hbs := smap_bounds (f := Sp.want) (b := 67108864) (l := l.take i) (fun s hs => by have := sp_iff.1 (H.out.2.2.1 s (List.mem_of_mem_take hs)); omega)
            rw [K.out.1, List.length_take] at hbs
            have hgx := sp_iff.1 (H.out.2.2.1 x (List.mem_of_getElem? hx))
            obtain ⟨b, hb⟩ : ∃ b, decide (x.soft = 0) = b := ⟨_, rfl⟩
            have kb : (x.soft == 0) = b := by rw [← hb]; rfl
            obtain ⟨u2, hu2⟩ : ∃ q, u + x.want = q := ⟨_, rfl⟩
            have w3 : wrap64 (u + x.want) = u2 := by unfold wrap64; omega
            have hsum : Hid (smap Sp.want (l.take (i + 1)) = u2) := by show _ = _; rw [smap_take_next hx, K.out.1, hu2]
            have P1 := K.out.2.setX (v := x.want) hlt (layX_next hx)
            have P2 := P1.setY (v := b) hlt (layH_next hx hb)
            have f1 : wr.cell? ⟨X, i, none⟩ = some (.int .i64 (layX l i i)) := K.out.2.x.cell i hlt
            have f2 : wr.frozen? ⟨X, i, none⟩ = false := K.out.2.x.frz i hlt
            have f3 := P1.y.cell i hlt
            have f4 := P1.y.frz i hlt
            obtain ⟨a0, a1, a2⟩ := hat wr K.out.2.below
            obtain ⟨c0, c1, c2⟩ := hat _ P1.below
            obtain ⟨z0, z1, z2⟩ := hat _ P2.below
            have K3 := Lib.hid (And.intro hsum.out P2)
            clear P1 P2 hsum K hx hbs hgx hat hb hu2
            obtain ⟨p, nd, s⟩ := x
            simp only at a0 a1 a2 c0 c1 c2 z0 z1 z2 f3 f4 kb w3 K3
            go_wp2
            go_roundw
            case rel => exact ⟨i + 1, u2, by first | rfl | (simp; done) | rw [w3], by first | rfl | simp, by omega, K3⟩
            case measure => simp [intOf]; omega
          · have d1 : decide ((i : Int) < (n : Int)) = false := decide_eq_false (by omega)
            obtain rfl : i = n := by omega
            have hu : smap Sp.want l = u := by have := K.out.1; rw [List.take_of_length_le (by rw [H.out.1]; exact Nat.le_refl _)] at this; exact this
            have P0 : Hid (PBl w X Y i (xA (st0 l)) (hA (st0 l)) wr) := K.out.2.to (fun q hq => by unfold layX; rw [if_pos hq]) (fun q hq => by unfold layH; rw [if_pos hq])
            clear K
            by_cases hw : u ≤ room
            · obtain ⟨rfl, rfl⟩ := H.out.2.2.2.2.2.uniq (PressR.all H.out.2.2.2.1 H.out.2.2.2.2.1 (by rw [hu]; exact hw))
              have t1 : decide (u ≤ room) = true := decide_eq_true hw
              have R : Hid ((l.map Sp.want).length = i ∧ ReadsI wr (some ⟨X, 0, none⟩) (l.map Sp.want) ∧ Below w.heap.size w wr) := by
                have hlen : (l.map Sp.want).length = i := by rw [List.length_map, H.out.1]
                refine ⟨hlen, P0.out.x.reads hlen fun k hk => ?_, P0.out.below⟩
                obtain ⟨s, hs⟩ : ∃ s, l[k]? = some s := ⟨_, List.getElem?_eq_getElem (by rw [H.out.1]; exact hk)⟩
                rw [(st0_x hs).1, List.getD, List.getElem?_map, hs]
                rfl
              have hn := R.out.1
              clear P0 hu hw
              go_wp2
              go_ret2
              exact ⟨some ⟨X, 0, none⟩, i, by rw [R.out.1]; rfl, by rw [R.out.1]; exact Nat.le_refl _, by omega, R.out.2.1, R.out.2.2⟩
            · have t1 : decide (u ≤ room) = false := decide_eq_false hw
              have h0n : 0 < i := by
                rcases Nat.eq_zero_or_pos i with h | h
                · exfalso
                  have : l = [] := List.eq_nil_of_length_eq_zero (by rw [H.out.1]; exact h)
                  rw [this] at hu
                  simp [smap] at hu
                  omega
                · exact h
              have V0 : Hid (PInv room (st0 l) ∧ (st0 l).map (·.1) = l) := ⟨PInv.start H.out.2.2.1 H.out.2.2.2.2.1 (by rw [hu]; omega), start_fst l⟩
              have hnw : Hid (¬ smap Sp.want l ≤ room) := by rw [hu]; exact hw
              clear hu hw hge hin
              go_wp2
              clear t1
              generalize hs0 : st0 l = s0 at *
              clear hs0
              go_loopw [9] (fun sv wr => ∃ (st : List (Sp × Bool)) (Y : Nat) (c : Nat), sv = .slice (some ⟨Y, 0, none⟩) i c ∧ i ≤ c ∧ c ≤ 9223372036854775807 ∧ Hid (PInv room st ∧ st.map (·.1) = l ∧ PBl w X Y i (xA st) (hA st) wr)) (fun sv wr => freeW sv wr)
              case atStart => exact ⟨s0, Y, i, rfl, by omega, by omega, Lib.hid ⟨V0.out.1, V0.out.2, P0.out⟩⟩
              case round =>
                clear V0 P0
                obtain ⟨st, Y, c, rfl, hc1, hc2, K⟩ := hrel
                have hlen : st.length = i := by rw [← H.out.1, ← K.out.2.1, List.length_map]
                have hgs : Hid (∀ p ∈ st, p.1.good = true) := K.out.1.good
                have e0 : wrap64 (-room) = -room := by unfold wrap64; omega
                have HL := Lib.hid hlen
                have Ats : Hid (∀ (j : Nat) (p : Sp × Bool), st[j]? = some p → ∃ B off, A = some ⟨B, off, none⟩ ∧ ∀ W, Below w.heap.size w W → W.cell? ⟨B, off + j * 3, none⟩ = some (.int .i64 p.1.want) ∧ W.cell? ⟨B, off + j * 3 + 1, none⟩ = some (.int .i64 p.1.least) ∧ W.cell? ⟨B, off + j * 3 + 2, none⟩ = some (.int .i64 p.1.soft)) := fun j p hp => by
                  have hx : l[j]? = some p.1 := by rw [← K.out.2.1, List.getElem?_map, hp]; rfl
                  obtain ⟨B, off, rfl, _, hat⟩ := At.out j p.1 hx
                  exact ⟨B, off, rfl, hat⟩
                clear hlen
                go_wp2
                go_loopw [12, 13, 14] (fun dv sv jv wx => ∃ (j : Nat) (d s : Int), dv = .int .i64 d ∧ sv = .int .i64 s ∧ jv = .int .i64 (j : Int) ∧ j ≤ i ∧ wx = wr ∧ Hid (smap xOf (st.take j) - room = d ∧ smap sOf (st.take j) = s)) (fun _ _ jv _ => i - (intOf jv).toNat)
                case atStart => exact ⟨0, -room, 0, by first | rfl | rw [e0], rfl, rfl, by omega, rfl, Lib.hid ⟨by simp [smap], by simp [smap]⟩⟩
                case round =>
                  clear e0
                  obtain ⟨j, d, s, rfl, rfl, rfl, hji, rfl, Q⟩ := hrel
                  rcases Nat.lt_or_ge j i with hlt | hge
                  · have d2 : decide ((j : Int) < (i : Int)) = true := decide_eq_true (by omega)
                    have e1 : IntKind.i64.wrap ((j : Int) + 1) = ((j + 1 : Nat) : Int) := by rw [IntKind.wrap_i64]; omega
                    have b1 : (j : Int) < (i : Int) := by omega
                    obtain ⟨p, hp⟩ : ∃ p, st[j]? = some p := ⟨_, List.getElem?_eq_getElem (by rw [HL.out]; exact hlt)⟩
                    obtain ⟨B, off, rfl, hat⟩ := Ats.out j p hp
                    obtain ⟨c0, c1, c2⟩ := hat _ K.out.2.2.below
                    have f1 := K.out.2.2.y.cell j hlt
                    have f2 := K.out.2.2.x.cell j hlt
                    rw [hA_of hp] at f1
                    rw [xA_of hp] at f2
                    have hgp := hgs.out p (List.mem_of_getElem? hp)
                    have hb1 := smapP_bounds (f := xOf) (b := 67108864) (l := st.take j) (fun q hq => xOf_bounds (hgs.out q (List.mem_of_mem_take hq)))
                    have hb2 := smapP_bounds (f := sOf) (b := 1000) (l := st.take j) (fun q hq => sOf_bounds (hgs.out q (List.mem_of_mem_take hq)))
                    rw [List.length_take] at hb1 hb2
                    have hb3 := xOf_bounds hgp
                    have hb4 := sOf_bounds hgp
                    rw [Q.out.2] at hb2
                    have hd : smap xOf (st.take j) = d + room := by have := Q.out.1; omega
                    rw [hd] at hb1
                    obtain ⟨d', hd'⟩ : ∃ z, d + xOf p = z := ⟨_, rfl⟩
                    obtain ⟨s', hs'⟩ : ∃ z, s + sOf p = z := ⟨_, rfl⟩
                    have w1 : wrap64 (d + xOf p) = d' := by unfold wrap64; omega
                    have w2 : wrap64 (s + sOf p) = s' := by unfold wrap64; omega
                    have Q2 : Hid (smap xOf (st.take (j + 1)) - room = d' ∧ smap sOf (st.take (j + 1)) = s') := ⟨by rw [smap_nextP hp]; omega, by rw [smap_nextP hp, Q.out.2, hs']⟩
                    have hx1 : xOf p = if p.2 = true then fixS p.1 else p.1.want := rfl
                    have hs1 : sOf p = if p.2 = true then 0 else p.1.soft := rfl
                    clear hp hat hgp hb1 hb2 hb3 hb4 hd hd' Q
                    obtain ⟨⟨a, nd, sf⟩, b⟩ := p
                    simp only at c0 c1 c2 f1 hx1 hs1
                    cases b
                    · rw [if_neg (by simp)] at hx1 hs1
                      rw [hx1] at w1
                      rw [hs1] at w2
                      clear hx1 hs1 f2 hs'
                      go_wp2
                      go_roundw
                      case rel => exact ⟨j + 1, d', s', by first | rfl | (simp; done) | rw [w1], by first | rfl | (simp; done) | rw [w2], by first | rfl | simp, by omega, by first | rfl | trivial, Q2⟩
                      case measure => simp [intOf]; omega
                    · rw [if_pos rfl] at hs1
                      have hss : s = s' := by rw [← hs', hs1]; omega
                      generalize xOf (⟨a, nd, sf⟩, true) = xv at *
                      clear hx1 hs1 w2 hs'
                      subst hss
                      go_wp2
                      go_roundw
                      case rel => exact ⟨j + 1, d', s, by first | rfl | (simp; done) | rw [w1], by first | rfl | simp, by first | rfl | simp, by omega, by first | rfl | trivial, Q2⟩
                      case measure => simp [intOf]; omega
                  · have d2 : decide ((j : Int) < (i : Int)) = false := decide_eq_false (by omega)
                    obtain rfl : j = i := by omega
                    have hDS : dSt room st = d ∧ sSt st = s := by
                      have := Q.out
                      rw [List.take_of_length_le (by rw [HL.out]; exact Nat.le_refl _)] at this
                      exact this
                    have hpos := K.out.1.pos
                    have hdpos := K.out.1.dpos
                    rw [hDS.2] at hpos
                    rw [hDS.1] at hdpos
                    have hbx := smapP_bounds (f := xOf) (b := 67108864) (l := st) (fun q hq => xOf_bounds (hgs.out q hq))
                    have hbs := smapP_bounds (f := sOf) (b := 1000) (l := st) (fun q hq => sOf_bounds (hgs.out q hq))
                    rw [HL.out] at hbx hbs
                    rw [← sSt_eq, hDS.2] at hbs
                    have hdb : d ≤ 1342177280 := by have := dSt_eq room st; omega
                    have hsb : s ≤ 20000 := by omega
                    have s0' : (s == 0) = false := beq_eq_false_iff_ne.2 (by omega)
                    have DS := Lib.hid hDS
                    clear hDS Q hbx hbs
                    have hYl := K.out.2.2.y.lt
                    have hXl := K.out.2.2.x.lt
                    have bm : Below wr.heap.size wr (wr.alloc (.cells #[] 4)) := (Below.refl _ _).alloc (Nat.le_refl _) _
                    have S6 := Lib.hid (K.out.2.2.y.on bm).src
                    have hcl : Hid ((cellsB (hA st) j).length = j * 1) := by show _ = _; rw [cellsB_len]; omega
                    have hsw : Hid (w.heap.size ≤ wr.heap.size) := K.out.2.2.below.size
                    clear bm hji hge d1 d2
                    go_wp2_with (at_builtin; refine wpList_append_own _ rfl _ _ 51 rfl wr.heap.size 4 i0 (.bool false) 1 1 Try.underlying51 hi0 hz0 hz1 hz2 rfl (by decide) _ _ _ rfl (World.ownsRow_made wr #[] 0 (Nat.le_refl _) (Nat.zero_le _) (by simp)) ⟨Y, 0, none⟩ j c (cellsB (hA st) j) rfl hcl.out (fun q u hq => by rw [Addr.add_lit]; exact S6.out q u hq) (cellsB_ones _ _) (by unfold maxLen; omega) (by omega) (by simp) ?_)
                    intro v' w2 hown hgrow hnil
                    have b7 : Below wr.heap.size wr w2 := ((Below.refl _ wr).alloc (Nat.le_refl _) _).grown hgrow (by simp) (by intro q hq; simp [Value.ownBlock] at hq; omega)
                    obtain ⟨N, cN, rfl, j1, j2, j3, O⟩ := CelF.of_own (w := w2) (base := wr.heap.size) (n := j) (f := hA st) (by simpa using hown) h0n
                    have P2 := K.out.2.2.on b7
                    have K4 : Hid (anyC d s st 0 = false ∧ PBl w X N j (xA (mixS d s st 0)) (hA (mixS d s st 0)) w2 ∧ CelF Y j (hA st) w2) := by
                      rw [mix_zero]
                      exact ⟨rfl, ⟨P2.x, O, by omega, P2.wx, by have := hsw.out; omega, P2.below⟩, P2.y⟩
                    have hNY : Hid (N ≠ Y ∧ Y ≠ X) := ⟨by omega, P2.ne.symm⟩
                    have hfw : Hid (freeW (.slice (some ⟨Y, 0, none⟩) j c) wr = (freeZ st).toNat) := by
                      show _ = _
                      rw [K.out.2.2.y.freeW, ← free_count, HL.out]
                    have V := Lib.hid (And.intro K.out.1 K.out.2.1)
                    clear hown hgrow hnil b7 O P2 S6 hcl hsw hYl hXl K
                    go_wp2
                    clear s0'
                    go_loopw [15, 17] (fun mv kv wx => ∃ (k : Nat) (m : Bool), mv = .bool m ∧ kv = .int .i64 (k : Int) ∧ k ≤ j ∧ Hid (anyC d s st k = m ∧ PBl w X N j (xA (mixS d s st k)) (hA (mixS d s st k)) wx ∧ CelF Y j (hA st) wx)) (fun _ kv _ => j - (intOf kv).toNat)
                    case atStart => exact ⟨0, false, rfl, rfl, by omega, K4⟩
                    case round =>
                      clear K4
                      obtain ⟨k, m, rfl, rfl, hkj, Q⟩ := hrel
                      rcases Nat.lt_or_ge k j with hlt | hge
                      · have d2 : decide ((k : Int) < (j : Int)) = true := decide_eq_true (by omega)
                        have e1 : IntKind.i64.wrap ((k : Int) + 1) = ((k + 1 : Nat) : Int) := by rw [IntKind.wrap_i64]; omega
                        have b1 : (k : Int) < (j : Int) := by omega
                        have b0 : (0 : Int) ≤ (k : Int) := by omega
                        obtain ⟨p, hp⟩ : ∃ p, st[k]? = some p := ⟨_, List.getElem?_eq_getElem (by rw [HL.out]; exact hlt)⟩
                        obtain ⟨B, off, rfl, hat⟩ := Ats.out k p hp
                        have f1 := Q.out.2.2.cell k hlt
                        rw [hA_of hp] at f1
                        have hgp := hgs.out p (List.mem_of_getElem? hp)
                        have hsp := sp_iff.1 hgp
                        have hfree := V.out.1.free p (List.mem_of_getElem? hp)
                        have hcd : chg d s p = (!p.2 && decide ((p.1.want - p.1.least) * s < d * p.1.soft)) := rfl
                        have hany := anyC_next (D := d) (S := s) hp
                        rw [Q.out.1] at hany
                        have hsame : Hid (chg d s p = false → ∀ wx, PBl w X N j (xA (mixS d s st k)) (hA (mixS d s st k)) wx → PBl w X N j (xA (mixS d s st (k + 1))) (hA (mixS d s st (k + 1))) wx) := fun h wx P => P.to (fun q _ => ((xA_same hp h q).1).symm) (fun q _ => ((xA_same hp h q).2).symm)
                        have hchg : Hid (chg d s p = true → p.1.soft ≠ 0 → ∀ wx, PBl w X N j (xA (mixS d s st k)) (hA (mixS d s st k)) wx → PBl w X N j (xA (mixS d s st (k + 1))) (hA (mixS d s st k)) (wx.setCell ⟨X, k, none⟩ (.int .i64 p.1.least)) ∧ PBl w X N j (xA (mixS d s st k)) (hA (mixS d s st (k + 1))) (wx.setCell ⟨N, k, none⟩ (.bool true)) ∧ PBl w X N j (xA (mixS d s st (k + 1))) (hA (mixS d s st (k + 1))) ((wx.setCell ⟨N, k, none⟩ (.bool true)).setCell ⟨X, k, none⟩ (.int .i64 p.1.least))) := fun h hs wx P => by
                          obtain ⟨z1, z2⟩ := xA_chg hp h hs
                          exact ⟨P.setX hlt z1, P.setY hlt z2, (P.setY hlt z2).setX hlt z1⟩
                        clear hp
                        obtain ⟨⟨a, nd, sf⟩, b⟩ := p
                        simp only at hat f1 hsp hfree hcd hchg
                        generalize chg d s (⟨a, nd, sf⟩, b) = cg at *
                        cases b
                        · rw [Bool.not_false, Bool.true_and] at hcd
                          have hsf : sf ≠ 0 := by have := hfree rfl; omega
                          obtain ⟨wl, hwl⟩ : ∃ z, a - nd = z := ⟨_, rfl⟩
                          rw [hwl] at hcd
                          have ew : IntKind.i64.wrap (a - nd) = wl := by rw [IntKind.wrap_i64]; omega
                          obtain ⟨v, hv⟩ : ∃ v, cmpZ (wl * s) (d * sf) = v := ⟨_, rfl⟩
                          have dv : decide (v < 0) = cg := by
                            rw [hcd, ← hv, Bool.eq_iff_iff, decide_eq_true_eq, decide_eq_true_eq]
                            rcases cmpZ_cases (wl * s) (d * sf) with ⟨x1, x2⟩ | ⟨x1, x2⟩ | ⟨x1, x2⟩
                            · rw [x2]; omega
                            · rw [x2]; omega
                            · rw [x2]; omega
                          have C := Lib.hid (rcmpMul_any wl s d sf v · (fitB_true ⟨by omega, by omega⟩) (fitB_true ⟨by omega, by omega⟩) (fitB_true ⟨by omega, by omega⟩) (fitB_true ⟨by omega, by omega⟩) hv)
                          obtain ⟨c0, c1, c2⟩ := hat wr Q.out.2.1.below
                          have cc : wr.drew.cell? ⟨Y, k, none⟩ = some (.bool false) ∧ wr.drew.cell? ⟨B, off + k * 3, none⟩ = some (.int .i64 a) ∧ wr.drew.cell? ⟨B, off + k * 3 + 1, none⟩ = some (.int .i64 nd) ∧ wr.drew.cell? ⟨B, off + k * 3 + 2, none⟩ = some (.int .i64 sf) := ⟨f1, c0, c1, c2⟩
                          have KQ : Hid (PBl w X N j (xA (mixS d s st k)) (hA (mixS d s st k)) wr.drew ∧ CelF Y j (hA st) wr.drew ∧ Below w.heap.size w wr.drew) := ⟨Q.out.2.1.on (Below.refl _ _).drew, Q.out.2.2.on (Below.refl _ _).drew, Q.out.2.1.below.drew⟩
                          have hf1 : Hid (hA st k = false) := by
                            have := Q.out.2.2.cell k hlt
                            rw [f1] at this
                            injection this with this
                            injection this with this
                            exact this.symm
                          replace hat := Lib.hid hat
                          replace hcd := Lib.hid hcd
                          replace hany := Lib.hid hany
                          clear hv hwl hfree Q hgp f1 c0 c1 c2
                          go_wp2
                          refine wp_region_held_drew (S := fun W => W.cell? ⟨Y, k, none⟩ = some (.bool false) ∧ W.cell? ⟨B, off + k * 3, none⟩ = some (.int .i64 a) ∧ W.cell? ⟨B, off + k * 3 + 1, none⟩ = some (.int .i64 nd) ∧ W.cell? ⟨B, off + k * 3 + 2, none⟩ = some (.int .i64 sf)) (by kernel_rfl) cc (fun hHeld => ?_)
                          generalize wr.drew = wq at *
                          refine wpAnyH_take (i := 0) (v := (.slice (some ⟨Y, 0, none⟩) j c)) rfl (by kernel_rfl) (by kernel_rfl) (by kernel_rfl) (fun _ _ _ h => h) (Or.inl ⟨by rfl, ?_⟩) hHeld ?_
                          · intro w hSw; go_simp
                          try simp only [List.getElem_toArray, List.getElem_cons_zero, List.getElem_cons_succ, Act.put, List.setIfInBounds_toArray, List.set_cons_zero, List.set_cons_succ]
                          refine wpAnyH_take (i := 1) (v := (.int .i64 (k : Int))) rfl (by kernel_rfl) (by kernel_rfl) (by kernel_rfl) (fun _ _ _ h => h) (Or.inl ⟨by rfl, ?_⟩) hHeld ?_
                          · intro w hSw; go_simp
                          try simp only [List.getElem_toArray, List.getElem_cons_zero, List.getElem_cons_succ, Act.put, List.setIfInBounds_toArray, List.set_cons_zero, List.set_cons_succ]
                          refine wpAnyH_take (i := 2) (v := (.pointer (some ⟨Y, k, none⟩))) rfl (by kernel_rfl) (by kernel_rfl) (by kernel_rfl) (fun _ _ _ h => h) (Or.inl ⟨by rfl, ?_⟩) hHeld ?_
                          · intro w hSw; go_simp
                          try simp only [List.getElem_toArray, List.getElem_cons_zero, List.getElem_cons_succ, Act.put, List.setIfInBounds_toArray, List.set_cons_zero, List.set_cons_succ]
                          refine wpAnyH_take (i := 3) (v := (.bool false)) rfl (by kernel_rfl) (by kernel_rfl) (by kernel_rfl) (fun _ _ _ h => h) (Or.inl ⟨by rfl, ?_⟩) hHeld ?_
                          · intro w hSw; obtain ⟨s0, s1, s2, s3⟩ := hSw; go_simp
                          try simp only [List.getElem_toArray, List.getElem_cons_zero, List.getElem_cons_succ, Act.put, List.setIfInBounds_toArray, List.set_cons_zero, List.set_cons_succ]
                          refine wpAnyH_take (i := 4) (v := (.bool true)) rfl (by kernel_rfl) (by kernel_rfl) (by kernel_rfl) (fun _ _ _ h => h) (Or.inl ⟨by rfl, ?_⟩) hHeld ?_
                          · intro w hSw; go_simp
                          try simp only [List.getElem_toArray, List.getElem_cons_zero, List.getElem_cons_succ, Act.put, List.setIfInBounds_toArray, List.set_cons_zero, List.set_cons_succ]
                          refine wpAnyH_take (i := 5) (v := (.bool true)) rfl (by kernel_rfl) (by kernel_rfl) (by kernel_rfl) (fun _ _ _ h => h) (Or.inl ⟨by rfl, ?_⟩) hHeld ?_
                          · intro w hSw; go_simp
                          try simp only [List.getElem_toArray, List.getElem_cons_zero, List.getElem_cons_succ, Act.put, List.setIfInBounds_toArray, List.set_cons_zero, List.set_cons_succ]
                          refine wpAnyH_take (i := 6) (v := (.slice (some ⟨B, off, none⟩) j cap)) rfl (by kernel_rfl) (by kernel_rfl) (by kernel_rfl) (fun _ _ _ h => h) (Or.inl ⟨by rfl, ?_⟩) hHeld ?_
                          · intro w hSw; go_simp
                          try simp only [List.getElem_toArray, List.getElem_cons_zero, List.getElem_cons_succ, Act.put, List.setIfInBounds_toArray, List.set_cons_zero, List.set_cons_succ]
                          refine wpAnyH_take (i := 7) (v := (.int .i64 (k : Int))) rfl (by kernel_rfl) (by kernel_rfl) (by kernel_rfl) (fun _ _ _ h => h) (Or.inl ⟨by rfl, ?_⟩) hHeld ?_
                          · intro w hSw; go_simp
                          try simp only [List.getElem_toArray, List.getElem_cons_zero, List.getElem_cons_succ, Act.put, List.setIfInBounds_toArray, List.set_cons_zero, List.set_cons_succ]
                          refine wpAnyH_take (i := 8) (v := (.pointer (some ⟨B, off + k * 3, none⟩))) rfl (by kernel_rfl) (by kernel_rfl) (by kernel_rfl) (fun _ _ _ h => h) (Or.inl ⟨by rfl, ?_⟩) hHeld ?_
                          · intro w hSw; go_simp
                          try simp only [List.getElem_toArray, List.getElem_cons_zero, List.getElem_cons_succ, Act.put, List.setIfInBounds_toArray, List.set_cons_zero, List.set_cons_succ]
                          refine wpAnyH_take (i := 9) (v := (.pointer (some ⟨B, off + k * 3, none⟩))) rfl (by kernel_rfl) (by kernel_rfl) (by kernel_rfl) (fun _ _ _ h => h) (Or.inl ⟨by rfl, ?_⟩) hHeld ?_
                          · intro w hSw; go_simp
                          try simp only [List.getElem_toArray, List.getElem_cons_zero, List.getElem_cons_succ, Act.put, List.setIfInBounds_toArray, List.set_cons_zero, List.set_cons_succ]
                          refine wpAnyH_take (i := 10) (v := (.int .i64 a)) rfl (by kernel_rfl) (by kernel_rfl) (by kernel_rfl) (fun _ _ _ h => h) (Or.inl ⟨by rfl, ?_⟩) hHeld ?_
                          · intro w hSw; obtain ⟨s0, s1, s2, s3⟩ := hSw; go_simp
                          try simp only [List.getElem_toArray, List.getElem_cons_zero, List.getElem_cons_succ, Act.put, List.setIfInBounds_toArray, List.set_cons_zero, List.set_cons_succ]
                          refine wpAnyH_take (i := 11) (v := (.slice (some ⟨B, off, none⟩) j cap)) rfl (by kernel_rfl) (by kernel_rfl) (by kernel_rfl) (fun _ _ _ h => h) (Or.inl ⟨by rfl, ?_⟩) hHeld ?_
                          · intro w hSw; go_simp
                          try simp only [List.getElem_toArray, List.getElem_cons_zero, List.getElem_cons_succ, Act.put, List.setIfInBounds_toArray, List.set_cons_zero, List.set_cons_succ]
                          refine wpAnyH_take (i := 12) (v := (.int .i64 (k : Int))) rfl (by kernel_rfl) (by kernel_rfl) (by kernel_rfl) (fun _ _ _ h => h) (Or.inl ⟨by rfl, ?_⟩) hHeld ?_
                          · intro w hSw; go_simp
                          try simp only [List.getElem_toArray, List.getElem_cons_zero, List.getElem_cons_succ, Act.put, List.setIfInBounds_toArray, List.set_cons_zero, List.set_cons_succ]
                          refine wpAnyH_take (i := 13) (v := (.pointer (some ⟨B, off + k * 3, none⟩))) rfl (by kernel_rfl) (by kernel_rfl) (by kernel_rfl) (fun _ _ _ h => h) (Or.inl ⟨by rfl, ?_⟩) hHeld ?_
                          · intro w hSw; go_simp
                          try simp only [List.getElem_toArray, List.getElem_cons_zero, List.getElem_cons_succ, Act.put, List.setIfInBounds_toArray, List.set_cons_zero, List.set_cons_succ]
                          refine wpAnyH_take (i := 14) (v := (.pointer (some ⟨B, off + k * 3 + 1, none⟩))) rfl (by kernel_rfl) (by kernel_rfl) (by kernel_rfl) (fun _ _ _ h => h) (Or.inl ⟨by rfl, ?_⟩) hHeld ?_
                          · intro w hSw; go_simp
                          try simp only [List.getElem_toArray, List.getElem_cons_zero, List.getElem_cons_succ, Act.put, List.setIfInBounds_toArray, List.set_cons_zero, List.set_cons_succ]
                          refine wpAnyH_take (i := 15) (v := (.int .i64 nd)) rfl (by kernel_rfl) (by kernel_rfl) (by kernel_rfl) (fun _ _ _ h => h) (Or.inl ⟨by rfl, ?_⟩) hHeld ?_
                          · intro w hSw; obtain ⟨s0, s1, s2, s3⟩ := hSw; go_simp
                          try simp only [List.getElem_toArray, List.getElem_cons_zero, List.getElem_cons_succ, Act.put, List.setIfInBounds_toArray, List.set_cons_zero, List.set_cons_succ]
                          refine wpAnyH_take (i := 16) (v := (.int .i64 wl)) rfl (by kernel_rfl) (by kernel_rfl) (by kernel_rfl) (fun _ _ _ h => h) (Or.inl ⟨by rfl, ?_⟩) hHeld ?_
                          · intro w hSw; go_simp
                          try simp only [List.getElem_toArray, List.getElem_cons_zero, List.getElem_cons_succ, Act.put, List.setIfInBounds_toArray, List.set_cons_zero, List.set_cons_succ]
                          refine wpAnyH_take (i := 17) (v := (.int .i64 s)) rfl (by kernel_rfl) (by kernel_rfl) (by kernel_rfl) (fun _ _ _ h => h) (Or.inl ⟨by rfl, ?_⟩) hHeld ?_
                          · intro w hSw; go_simp
                          try simp only [List.getElem_toArray, List.getElem_cons_zero, List.getElem_cons_succ, Act.put, List.setIfInBounds_toArray, List.set_cons_zero, List.set_cons_succ]
                          refine wpAnyH_take (i := 18) (v := (.int .i64 d)) rfl (by kernel_rfl) (by kernel_rfl) (by kernel_rfl) (fun _ _ _ h => h) (Or.inl ⟨by rfl, ?_⟩) hHeld ?_
                          · intro w hSw; go_simp
                          try simp only [List.getElem_toArray, List.getElem_cons_zero, List.getElem_cons_succ, Act.put, List.setIfInBounds_toArray, List.set_cons_zero, List.set_cons_succ]
                          refine wpAnyH_take (i := 19) (v := (.slice (some ⟨B, off, none⟩) j cap)) rfl (by kernel_rfl) (by kernel_rfl) (by kernel_rfl) (fun _ _ _ h => h) (Or.inl ⟨by rfl, ?_⟩) hHeld ?_
                          · intro w hSw; go_simp
                          try simp only [List.getElem_toArray, List.getElem_cons_zero, List.getElem_cons_succ, Act.put, List.setIfInBounds_toArray, List.set_cons_zero, List.set_cons_succ]
                          refine wpAnyH_take (i := 20) (v := (.int .i64 (k : Int))) rfl (by kernel_rfl) (by kernel_rfl) (by kernel_rfl) (fun _ _ _ h => h) (Or.inl ⟨by rfl, ?_⟩) hHeld ?_
                          · intro w hSw; go_simp
                          try simp only [List.getElem_toArray, List.getElem_cons_zero, List.getElem_cons_succ, Act.put, List.setIfInBounds_toArray, List.set_cons_zero, List.set_cons_succ]
                          refine wpAnyH_take (i := 21) (v := (.pointer (some ⟨B, off + k * 3, none⟩))) rfl (by kernel_rfl) (by kernel_rfl) (by kernel_rfl) (fun _ _ _ h => h) (Or.inl ⟨by rfl, ?_⟩) hHeld ?_
                          · intro w hSw; go_simp
                          try simp only [List.getElem_toArray, List.getElem_cons_zero, List.getElem_cons_succ, Act.put, List.setIfInBounds_toArray, List.set_cons_zero, List.set_cons_succ]
                          refine wpAnyH_take (i := 22) (v := (.pointer (some ⟨B, off + k * 3 + 2, none⟩))) rfl (by kernel_rfl) (by kernel_rfl) (by kernel_rfl) (fun _ _ _ h => h) (Or.inl ⟨by rfl, ?_⟩) hHeld ?_
                          · intro w hSw; go_simp
                          try simp only [List.getElem_toArray, List.getElem_cons_zero, List.getElem_cons_succ, Act.put, List.setIfInBounds_toArray, List.set_cons_zero, List.set_cons_succ]
                          refine wpAnyH_take (i := 23) (v := (.int .i64 sf)) rfl (by kernel_rfl) (by kernel_rfl) (by kernel_rfl) (fun _ _ _ h => h) (Or.inl ⟨by rfl, ?_⟩) hHeld ?_
                          · intro w hSw; obtain ⟨s0, s1, s2, s3⟩ := hSw; go_simp
                          try simp only [List.getElem_toArray, List.getElem_cons_zero, List.getElem_cons_succ, Act.put, List.setIfInBounds_toArray, List.set_cons_zero, List.set_cons_succ]
                          refine wpAnyH_ready (rs := [24]) (by kernel_rfl) (by simp) ?_
                          refine AllReadyH.cons rfl (fun K hK => ?_) AllReadyH.nil
                          clear hHeld
                          go_simp
                          refine (C.out _).mono ?_
                          rintro e' w3 ⟨rfl, hb⟩
                          have KB := Lib.hid hb
                          have cc2 : w3.cell? ⟨Y, k, none⟩ = some (.bool false) ∧ w3.cell? ⟨B, off + k * 3, none⟩ = some (.int .i64 a) ∧ w3.cell? ⟨B, off + k * 3 + 1, none⟩ = some (.int .i64 nd) ∧ w3.cell? ⟨B, off + k * 3 + 2, none⟩ = some (.int .i64 sf) := ⟨by rw [(KQ.out.2.1.on hb).cell k hlt, hf1.out], hat.out w3 (below_on KQ.out.2.2 hb)⟩
                          refine hK.out _ _ cc2 (fun hHeld => ?_)
                          clear hK K hb
                          try simp only [List.getElem_toArray, List.getElem_cons_zero, List.getElem_cons_succ, Act.put, List.setIfInBounds_toArray, List.set_cons_zero, List.set_cons_succ]
                          refine wpAnyH_take (i := 25) (v := (.bool cg)) rfl (by kernel_rfl) (by kernel_rfl) (by kernel_rfl) (fun _ _ _ h => h) (Or.inl ⟨by rfl, ?_⟩) hHeld ?_
                          · intro w hSw; go_simp
                          try simp only [List.getElem_toArray, List.getElem_cons_zero, List.getElem_cons_succ, Act.put, List.setIfInBounds_toArray, List.set_cons_zero, List.set_cons_succ]
                          refine wpAnyH_take (i := 26) (v := (.bool cg)) rfl (by kernel_rfl) (by kernel_rfl) (by kernel_rfl) (fun _ _ _ h => h) (Or.inl ⟨by rfl, ?_⟩) hHeld ?_
                          · intro w hSw; go_simp
                          try simp only [List.getElem_toArray, List.getElem_cons_zero, List.getElem_cons_succ, Act.put, List.setIfInBounds_toArray, List.set_cons_zero, List.set_cons_succ]
                          refine wpAnyH_done (by kernel_rfl) ?_ _
                          have PQ := KQ.out.1.on KB.out
                          have YQ := KQ.out.2.1.on KB.out
                          obtain ⟨z0, z1, z2⟩ := cc2.2
                          clear cc cc2 KQ KB C dv
                          cases cg
                          · have Q3 : Hid (anyC d s st (k + 1) = m ∧ PBl w X N j (xA (mixS d s st (k + 1))) (hA (mixS d s st (k + 1))) w3 ∧ CelF Y j (hA st) w3) := ⟨by rw [hany.out, Bool.or_false], hsame.out rfl _ PQ, YQ⟩
                            clear PQ YQ z0 z1 z2 hsame hchg hany hat hcd
                            go_wp2
                            go_roundw
                            case rel => exact ⟨k + 1, m, rfl, by first | rfl | simp, by omega, Q3⟩
                            case measure => simp [intOf]; omega
                          · obtain ⟨P1, P2, P3⟩ := hchg.out rfl hsf w3 PQ
                            have y1 := PQ.y.cell k hlt
                            have y2 := PQ.y.frz k hlt
                            have x1 := P2.x.cell k hlt
                            have x2 := P2.x.frz k hlt
                            obtain ⟨z0', z1', z2'⟩ := hat.out _ P2.below
                            have Q3 : Hid (anyC d s st (k + 1) = true ∧ PBl w X N j (xA (mixS d s st (k + 1))) (hA (mixS d s st (k + 1))) ((w3.setCell ⟨N, k, none⟩ (.bool true)).setCell ⟨X, k, none⟩ (.int .i64 nd)) ∧ CelF Y j (hA st) ((w3.setCell ⟨N, k, none⟩ (.bool true)).setCell ⟨X, k, none⟩ (.int .i64 nd))) := ⟨by rw [hany.out, Bool.or_true], P3, (YQ.other hNY.out.1.symm _).other hNY.out.2 _⟩
                            clear P1 P2 P3 PQ YQ hsame hchg hany hat hcd z0 z1 z2
                            go_wp2
                            go_roundw
                            case rel => exact ⟨k + 1, true, rfl, by first | rfl | simp, by omega, Q3⟩
                            case measure => simp [intOf]; omega
                        · obtain rfl : cg = false := by rw [hcd]; rfl
                          rw [Bool.or_false] at hany
                          have Q3 : Hid (∀ q, anyC d s st (k + 1) = m ∧ PBl w X N j (xA (mixS d s st (k + 1))) (hA (mixS d s st (k + 1))) (wr.drewN q) ∧ CelF Y j (hA st) (wr.drewN q)) := fun q => ⟨hany, (hsame.out rfl _ Q.out.2.1).on (below_dN (Below.refl _ _) q), Q.out.2.2.on (below_dN (Below.refl _ _) q)⟩
                          clear hsame hchg hcd hany hsp hfree hat Q hgp
                          go_wp2
                          go_quiet (fail)
                          go_wp2
                          go_roundw
                          case rel => exact ⟨k + 1, m, rfl, by first | rfl | simp, by omega, Q3.out _⟩
                          case measure => simp [intOf]; omega
                      · have d2 : decide ((k : Int) < (j : Int)) = false := decide_eq_false (by omega)
                        obtain rfl : k = j := by omega
                        have hmix := mix_end (D := d) (S := s) (st := st) (i := k) (by rw [HL.out]; exact Nat.le_refl _)
                        have hany := anyC_end (D := d) (S := s) (st := st) (i := k) (by rw [HL.out]; exact Nat.le_refl _)
                        have Q2 := Q.out
                        rw [hmix, hany] at Q2
                        cases m
                        · obtain ⟨z1, z2⟩ := none_done Q2.1
                          rw [z1] at Q2
                          have hx : Pressed room l d s := by
                            have hdn := V.out.1.done (by rw [DS.out.1, DS.out.2]; exact z2)
                            rw [V.out.2, DS.out.1, DS.out.2] at hdn
                            exact hdn
                          obtain ⟨rfl, rfl⟩ := H.out.2.2.2.2.2.uniq (PressR.part H.out.2.2.2.1 H.out.2.2.2.2.1 (by have := hnw.out; omega) hx)
                          have Z2 := Lib.hid z2
                          have PF : Hid (PBl w X N k (finA d s st 0) (hA st) wr) := Q2.2.1.to (fun q _ => (fin_zero d s st q).symm) (fun q _ => rfl)
                          have hn18 := Lib.hid (And.intro V.out.1 V.out.2)
                          clear hmix hany Q Q2 z1 z2 hx hkj hge d2
                          go_wp2
                          go_loopw [18] (fun iv wx => ∃ (i : Nat), iv = .int .i64 (i : Int) ∧ i ≤ k ∧ Hid (PBl w X N k (finA d s st i) (hA st) wx)) (fun iv _ => k - (intOf iv).toNat)
                          case atStart => exact ⟨0, rfl, by omega, PF⟩
                          case round =>
                            clear PF
                            obtain ⟨i, rfl, hik, P⟩ := hrel
                            rcases Nat.lt_or_ge i k with hlt | hge
                            · have d2 : decide ((i : Int) < (k : Int)) = true := decide_eq_true (by omega)
                              have e1 : IntKind.i64.wrap ((i : Int) + 1) = ((i + 1 : Nat) : Int) := by rw [IntKind.wrap_i64]; omega
                              have b1 : (i : Int) < (k : Int) := by omega
                              obtain ⟨p, hp⟩ : ∃ p, st[i]? = some p := ⟨_, List.getElem?_eq_getElem (by rw [HL.out]; exact hlt)⟩
                              obtain ⟨B, off, rfl, hat⟩ := Ats.out i p hp
                              have f1 := P.out.y.cell i hlt
                              rw [hA_of hp] at f1
                              have hm := List.mem_of_getElem? hp
                              cases hb : p.2
                              · rw [hb] at f1
                                have hfr := hn18.out.1.free p hm hb
                                obtain ⟨y1, y2, y3, y4, y5⟩ := share_free (hgs.out p hm) hpos (Int.le_of_lt hdpos) hfr (Z2.out p hm hb)
                                have hsp := sp_iff.1 (hgs.out p hm)
                                obtain ⟨u, hu⟩ : ∃ u, upZ (d * p.1.soft) s = u := ⟨_, rfl⟩
                                rw [hu] at y1 y2 y3 y5
                                have C := Lib.hid (rup_any d p.1.soft s u true · (fitB_true ⟨by omega, by omega⟩) (fitB_true ⟨by omega, by omega⟩) (fitB_true ⟨by omega, by omega⟩) y5 y4)
                                obtain ⟨z, hz⟩ : ∃ z, p.1.want - u = z := ⟨_, rfl⟩
                                rw [hz] at y1
                                have w1 : wrap64 (p.1.want - u) = z := by unfold wrap64; omega
                                obtain ⟨c0, c1, c2⟩ := hat wr P.out.below
                                have P2 : Hid (∀ W, Below wr.heap.size wr W → W.cell? ⟨B, off + i * 3, none⟩ = some (.int .i64 p.1.want) ∧ W.cell? ⟨X, i, none⟩ = some (.int .i64 (finA d s st i i)) ∧ W.frozen? ⟨X, i, none⟩ = false ∧ PBl w X N k (finA d s st (i + 1)) (hA st) (W.setCell ⟨X, i, none⟩ (.int .i64 z))) := fun W hW => ⟨(hat W (below_on P.out.below hW)).1, (P.out.on hW).x.cell i hlt, (P.out.on hW).x.frz i hlt, (P.out.on hW).setX hlt (fin_next hp y1)⟩
                                clear hp hat hm hfr y1 y2 y3 y4 y5 hu hsp hz P hb
                                obtain ⟨⟨a, nd, sf⟩, b⟩ := p
                                simp only at c0 c1 c2 C w1 P2
                                go_wp2_with fail
                                refine (C.out _).mono ?_; rintro e gw ⟨rfl, g⟩
                                obtain ⟨v1, v2, v3, P4⟩ := P2.out _ g
                                replace P4 := Lib.hid P4
                                clear C P2 g c0 c1 c2 f1
                                go_wp2
                                go_roundw
                                case rel => exact ⟨i + 1, by first | rfl | simp, by omega, P4⟩
                                case measure => simp [intOf]; omega
                              · rw [hb] at f1
                                have he : shareZ d s p.1 = xOf p := by
                                  have := share_held hn18.out.1 hm hb
                                  rw [DS.out.1, DS.out.2] at this
                                  exact this
                                have P2 : Hid (PBl w X N k (finA d s st (i + 1)) (hA st) wr) := P.out.to (fun q _ => fin_same hp he q) (fun q _ => rfl)
                                clear hp hat hm he P hb
                                go_wp2
                                go_roundw
                                case rel => exact ⟨i + 1, by first | rfl | simp, by omega, P2⟩
                                case measure => simp [intOf]; omega
                            · have d2 : decide ((i : Int) < (k : Int)) = false := decide_eq_false (by omega)
                              obtain rfl : i = k := by omega
                              have R : Hid ((l.map (shareZ d s)).length = i ∧ ReadsI wr (some ⟨X, 0, none⟩) (l.map (shareZ d s)) ∧ Below w.heap.size w wr) := by
                                have hlen : (l.map (shareZ d s)).length = i := by rw [List.length_map, H.out.1]
                                refine ⟨hlen, P.out.x.reads hlen fun q hq => ?_, P.out.below⟩
                                have := fin_end (D := d) (S := s) (st := st) (k := q) (by rw [HL.out]; exact hq)
                                rw [HL.out, hn18.out.2] at this
                                exact this
                              clear P hik hge
                              go_wp2
                              go_ret2
                              exact ⟨some ⟨X, 0, none⟩, i, by rw [R.out.1]; rfl, by rw [R.out.1]; exact Nat.le_refl _, by omega, R.out.2.1, R.out.2.2⟩
                        · have hlt := some_less Q2.1
                          have hst := V.out.1.step (by rw [V.out.2]; exact H.out.2.2.2.2.1)
                          rw [DS.out.1, DS.out.2] at hst
                          have hfs := hold_fst d s st
                          rw [V.out.2] at hfs
                          have R : Hid (PInv room (st.map (holdNow d s)) ∧ (st.map (holdNow d s)).map (·.1) = l ∧ PBl w X N k (xA (st.map (holdNow d s))) (hA (st.map (holdNow d s))) wr) := ⟨hst, hfs, Q2.2.1⟩
                          have hnl : (st.map (holdNow d s)).length = k := by rw [List.length_map, HL.out]
                          have hm1 : Hid (freeW (.slice (some ⟨N, 0, none⟩) k cN) wr < (freeZ st).toNat) := by
                            show freeW (.slice (some ⟨N, 0, none⟩) k cN) wr < (freeZ st).toNat
                            have hz := freeZ_nonneg (st.map (holdNow d s))
                            have hc := free_count (st.map (holdNow d s))
                            rw [hnl] at hc
                            rw [Q2.2.1.y.freeW, hc]
                            omega
                          clear hmix hany Q Q2 hlt hst hfs hkj hge hnl
                          go_wp2
                          go_roundw
                          case rel => exact ⟨st.map (holdNow d s), N, cN, rfl, j2, j3, R⟩
                          case measure => rw [hfw.out]; exact hm1.out
      · obtain ⟨rfl, rfl⟩ := h.uniq (PressR.nofit hg hf)
        have t1 : decide (floorZ l > room) = true := decide_eq_true (by omega)
        generalize l.length = n at *
        generalize floorZ l = fl at *
        clear hR h ho hr hf hg hfl
        go_enter Try.func14, Try.ntmps14
        go_wp2_with fail
        refine C1.out.mono ?_; rintro e' gw ⟨rfl, g⟩
        clear C1
        go_wp2_with fail
        refine (C2.out _).mono ?_; rintro e w' ⟨rfl, n2, rfl⟩
        go_wp2
        go_ret2
        exact press_nil (by have s0 := g.size; (try simp only [World.heap_drewN, World.size_alloc] at s0); repeat (first | exact Below.refl _ _ | exact g | refine Below.trans ?_ (Below.mono g (by first | omega | (simp; done) | (simp; omega))) | refine Below.setCell ?_ (by first | omega | (simp; done) | (simp; omega)) _ | refine below_dN ?_ _ | refine Below.drew ?_ | refine Below.alloc ?_ (by first | omega | (simp; done) | (simp; omega)) _))
end Go.Proofs.Ytkjgpidiompmlaa
