/- PileMoves: a key that is set and set back changes nothing. -/
import Derived.Test.YtgbmpnoknmpmcaaPlLawM
import Derived.Test.YtgbmpnoknmpmcaaReads
namespace Go.Proofs.Ytgbmpnoknmpmcaa
open Go.RowKit
set_option linter.unusedVariables false
set_option linter.unusedSimpArgs false

set_option maxHeartbeats 6400000 in
set_option maxRecDepth 100000 in
theorem PileMoves_ret (A : Option Addr) (c : Nat) (zs : List Int) (at_ key : Int) (w : World) (hk : zs.length ≤ 9223372036854775807) (hf : ∀ x ∈ zs, fitB x = true) (hrd : ReadsI w A zs) (hbl : zs ≠ [] → ∀ ad, A = some ad → ad.block < w.heap.size) (h2 : fitB at_ = true) (h3 : fitB key = true) :
    Calls Try.prog 6 #[.slice A zs.length c, .int .i64 at_, .int .i64 key] w (RetB (.bool true) w) := by
  have A0 := Lib.hid awake_any
  clear h2 h3 hf
  replace hrd := Lib.hid hrd
  replace hbl := Lib.hid hbl
  obtain ⟨n, hn⟩ : ∃ n : Nat, zs.length = n := ⟨_, rfl⟩
  rw [hn] at hk ⊢
  replace hn := Lib.hid hn
  go_enter Try.func6, Try.ntmps6
  go_wp2_with fail
  refine (A0.out _).mono ?_; rintro e b0w ⟨rfl, b0⟩
  by_cases k1 : (n : Int) > 50
  · go_wp2
    go_ret
    exact ⟨rfl, by have s0 := b0.size; (try simp only [World.heap_drewN, World.size_alloc] at s0); repeat (first | exact Below.refl _ _ | exact b0 | refine Below.trans ?_ (Below.mono b0 (by first | omega | (simp; done) | (simp; omega))) | refine Below.setCell ?_ (by first | omega | (simp; done) | (simp; omega)) _ | refine below_dN ?_ _ | refine Below.drew ?_ | refine Below.alloc ?_ (by first | omega | (simp; done) | (simp; omega)) _)⟩
  have k1' : decide ((n : Int) > 50) = false := decide_eq_false k1
  by_cases k2 : at_ < 0
  · go_wp2
    go_ret
    exact ⟨rfl, by have s0 := b0.size; (try simp only [World.heap_drewN, World.size_alloc] at s0); repeat (first | exact Below.refl _ _ | exact b0 | refine Below.trans ?_ (Below.mono b0 (by first | omega | (simp; done) | (simp; omega))) | refine Below.setCell ?_ (by first | omega | (simp; done) | (simp; omega)) _ | refine below_dN ?_ _ | refine Below.drew ?_ | refine Below.alloc ?_ (by first | omega | (simp; done) | (simp; omega)) _)⟩
  have k2' : decide (at_ < 0) = false := decide_eq_false k2
  by_cases k3 : at_ ≥ (n : Int)
  · go_wp2
    go_ret
    exact ⟨rfl, by have s0 := b0.size; (try simp only [World.heap_drewN, World.size_alloc] at s0); repeat (first | exact Below.refl _ _ | exact b0 | refine Below.trans ?_ (Below.mono b0 (by first | omega | (simp; done) | (simp; omega))) | refine Below.setCell ?_ (by first | omega | (simp; done) | (simp; omega)) _ | refine below_dN ?_ _ | refine Below.drew ?_ | refine Below.alloc ?_ (by first | omega | (simp; done) | (simp; omega)) _)⟩
  have k3' : decide (at_ ≥ (n : Int)) = false := decide_eq_false k3
  obtain ⟨p, rfl⟩ := Int.eq_ofNat_of_zero_le (by omega : 0 ≤ at_)
  obtain ⟨b, off, rfl, _⟩ := hrd.out 0 (by have := hn.out; omega)
  go_wp2_with fail
  refine (pnew (fun _ => 0) 1 _ 1000 (by decide) (by decide)).mono ?_
  rintro e w1 ⟨rfl, o1, v1, s1, h1⟩
  have l1 := ((Lw.start w).on b0).step s1 (by decide)
  clear b0 s1
  generalize b0w.heap.size = a at *
  go_wp2
  go_loopw [9] (fun st wr => ∃ (i : Nat) (o : Nat → Nat) (v : Value) (l : List It), st = .int .i64 (i : Int) ∧ i ≤ n ∧ Pl o 1 wr a 1000 v l ∧ Pushed 1000 (fun j => bits BinOp.and IntKind.i64 (j : Int) 3) zs i l ∧ Lw w o wr) (fun st _ => n - (intOf st).toNat)
  case atStart => exact ⟨0, o1, v1, [], rfl, by omega, h1, Pushed.start (by decide) (by decide), l1⟩
  case round =>
    obtain ⟨i, o, v, l, rfl, hi, h, hp, lw⟩ := hrel
    clear h1 l1
    rcases Nat.lt_or_ge i n with hlt | hge
    · have hnx := hp.next (by omega)
      have C := Lib.hid (ppush _ _ _ h hp.inv hnx.1 rfl)
      obtain ⟨b', off', hA, hcell⟩ := (hrd.out.below (fun ad had => hbl.out (by intro e; have := hn.out; rw [e] at this; simp at this; omega) ad had) lw.below) i (by have := hn.out; omega)
      cases hA
      generalize hgx : zs.getD i 0 = x at *
      have F := Lib.hid (And.intro hnx.2 lw)
      clear hnx hp lw h
      unfold vI at C
      simp only at C
      go_wp2_with fail
      refine C.out.mono ?_
      rintro e w2 ⟨rfl, o2, v2, st2, h2⟩
      have G := Lib.hid (And.intro h2 (F.out.2.step st2 (by decide)))
      clear C h2 st2
      go_wp2
      go_roundw
      case rel => exact ⟨i + 1, o2, v2, _, by simp, by omega, G.out.1, F.out.1, G.out.2⟩
      case measure => simp [intOf]; omega
    · obtain rfl : i = n := by omega
      have hl := hp.len
      have hinv := hp.inv
      have hkl : p < i := by omega
      have hmem := hp.has hkl
      obtain ⟨tp, htp⟩ : ∃ tp, bits BinOp.and IntKind.i64 (p : Int) 3 = tp := ⟨_, rfl⟩
      simp only [htp] at hmem
      obtain ⟨b', off', hA, hcell⟩ := hrd.out p (by have := hn.out; omega)
      cases hA
      have hlen1 : b < w.heap.size := cell_lt hcell
      generalize hgx : zs.getD p 0 = kp at *
      obtain ⟨L, hL⟩ : ∃ L, moveL l (p : Int) key = L := ⟨_, rfl⟩
      have hmo : moveE l (p : Int) = 0 := move_ok hinv.ids hmem
      have hLi : PInv 1000 L := hL ▸ hinv.move (p : Int) key
      have hLm : ((p : Int), key, tp) ∈ L := hL ▸ move_mem hinv.ids hmem key
      have hm2 : moveE L (p : Int) = 0 := move_ok hLi.ids hLm
      have hbk : moveL L (p : Int) kp = l := by rw [← hL]; exact move_back hinv hmem key
      have C1 := Lib.hid (fun (o' : Nat → Nat) (w' : World) (v' : Value) (h' : Pl o' 1 w' a 1000 v' l) => pall h' (by omega))
      have C2 := Lib.hid (fun (o' : Nat → Nat) (w' : World) (h' : Pl o' 1 w' a 1000 v l) => pmove (p : Int) key 0 L h' hinv hmo hL)
      have C3 := Lib.hid (fun (o' : Nat → Nat) (w' : World) (v' : Value) (h' : Pl o' 1 w' a 1000 v' L) => pmove (p : Int) kp 0 l h' hLi hm2 hbk)
      have M := Lib.hid hl
      have F := Lib.hid (And.intro h lw)
      have D := Lib.hid hcell
      clear h hp lw hl hinv hmem hL hmo hLi hLm hm2 hbk hcell htp hgx
      go_wp2_with fail
      refine (C1.out _ _ _ F.out.1).mono ?_
      rintro e w2 ⟨vw, rfl, hown2, b2⟩
      have st2 := Step.newly o 5 b2 3
      have r2 := Row.fresh (w0 := wr) 3 hown2 o
      have P2 := F.out.1.step st2 (by decide)
      have l2 := F.out.2.step st2 (by decide)
      have M2 := M.out
      obtain ⟨Aw, cw, rfl⟩ := r2.any
      obtain ⟨hw1, hw2⟩ := r2.caps
      rw [M2] at hw1
      have e4 : Value.slice Aw l.length cw = Value.slice Aw i cw := by rw [M2]
      have G := Lib.hid (And.intro P2 (And.intro l2 r2))
      rw [e4]
      clear hown2 b2 st2 r2 P2 l2 F M2 e4
      go_wp2_with fail
      refine (C2.out _ _ G.out.1).mono ?_
      rintro e w3 ⟨rfl, o3, v3, st3, h3⟩
      have l3 := G.out.2.1.step st3 (by decide)
      have d3 : w3.cell? ⟨b, off + p, none⟩ = some (.int .i64 kp) := by rw [l3.below.cell (p := ⟨b, off + p, none⟩) hlen1]; exact D.out
      have G3 := Lib.hid (And.intro h3 (And.intro l3 (G.out.2.2.step st3 (by decide))))
      have q1 : (p : Int) < (i : Int) := by omega
      have q2 : (0 : Int) ≤ (p : Int) := by omega
      clear C2 h3 st3 G l3
      go_wp2_with fail
      refine (C3.out _ _ _ G3.out.1).mono ?_
      rintro e w4 ⟨rfl, o4, v4, st4, h4⟩
      have G4 := Lib.hid (And.intro h4 (And.intro (G3.out.2.1.step st4 (by decide)) (G3.out.2.2.step st4 (by decide))))
      clear C3 h4 st4 G3 d3 D
      go_wp2_with fail
      refine (C1.out _ _ _ G4.out.1).mono ?_
      rintro e w5 ⟨vx, rfl, hown5, b5⟩
      have st5 := Step.newly o4 5 b5 4
      have r5 := Row.fresh (w0 := w4) 4 hown5 o4
      have l5 := G4.out.2.1.step st5 (by decide)
      have r5' := G4.out.2.2.step st5 (by decide)
      have M2 := M.out
      obtain ⟨Ax, cx, rfl⟩ := r5.any
      obtain ⟨hx1, hx2⟩ := r5.caps
      rw [M2] at hx1
      have e4 : Value.slice Ax l.length cx = Value.slice Ax i cx := by rw [M2]
      have G5 := Lib.hid (And.intro l5 (And.intro r5 r5'))
      have e5 : ((i : Int) != (i : Int)) = false := by simp
      rw [e4]
      clear hown5 b5 st5 r5 r5' l5 G4 M2 e4 C1
      go_wp2
      clear e5 q1 q2
      go_loopw [12] (fun st wr => ∃ (j : Nat) (k : Nat), st = .int .i64 (j : Int) ∧ j ≤ i ∧ wr = w5.drewN k) (fun st _ => i - (intOf st).toNat)
      case atStart => exact ⟨0, 0, rfl, by omega, rfl⟩
      case round =>
        obtain ⟨j, k, rfl, hj, rfl⟩ := hrel
        rcases Nat.lt_or_ge j i with hlt | hge
        · obtain ⟨⟨xi, xk, xt⟩, hx⟩ : ∃ x, l[j]? = some x := ⟨_, List.getElem?_eq_getElem (by rw [M.out]; exact hlt)⟩
          obtain ⟨g, rfl, hg, d0, d1, d2⟩ := G5.out.2.1.rd j _ hx
          obtain ⟨g', rfl, hg', y0, y1, y2⟩ := G5.out.2.2.rd j _ hx
          simp only at d0 d1 d2 y0 y1 y2
          have q1 : (j : Int) < (i : Int) := by omega
          have q2 : (0 : Int) ≤ (j : Int) := by omega
          clear hx
          go_wp2
          go_quiet (fail)
          go_wp2
          go_roundw
          case rel => exact ⟨j + 1, _, by simp, by omega, rfl⟩
          case measure => simp [intOf]; omega
        · obtain rfl : j = i := by omega
          go_wp2
          go_ret
          exact ⟨rfl, (G5.out.1.drewN _).below⟩
end Go.Proofs.Ytgbmpnoknmpmcaa
