/- PileDrops: an item that is dropped comes out no more; all others do, in their order. -/
import Derived.Test.YtgbmpnoknmpmcaaPlLawM
import Derived.Test.YtgbmpnoknmpmcaaReads
namespace Go.Proofs.Ytgbmpnoknmpmcaa
open Go.RowKit
set_option linter.unusedVariables false
set_option linter.unusedSimpArgs false

set_option maxHeartbeats 6400000 in
set_option maxRecDepth 100000 in
theorem PileDrops_ret (A : Option Addr) (c : Nat) (zs : List Int) (at_ : Int) (w : World) (hk : zs.length ≤ 9223372036854775807) (hf : ∀ x ∈ zs, fitB x = true) (hrd : ReadsI w A zs) (hbl : zs ≠ [] → ∀ ad, A = some ad → ad.block < w.heap.size) (h2 : fitB at_ = true) :
    Calls Try.prog 7 #[.slice A zs.length c, .int .i64 at_] w (RetB (.bool true) w) := by
  have A0 := Lib.hid awake_any
  have hat := fit_iff h2
  clear h2 hf
  replace hrd := Lib.hid hrd
  replace hbl := Lib.hid hbl
  obtain ⟨n, hn⟩ : ∃ n : Nat, zs.length = n := ⟨_, rfl⟩
  rw [hn] at hk ⊢
  replace hn := Lib.hid hn
  go_enter Try.func7, Try.ntmps7
  go_wp2_with fail
  refine (A0.out _).mono ?_; rintro e b0w ⟨rfl, b0⟩
  by_cases k1 : (n : Int) < 1
  · go_wp2
    go_ret
    exact ⟨rfl, by have s0 := b0.size; (try simp only [World.heap_drewN, World.size_alloc] at s0); repeat (first | exact Below.refl _ _ | exact b0 | refine Below.trans ?_ (Below.mono b0 (by first | omega | (simp; done) | (simp; omega))) | refine Below.setCell ?_ (by first | omega | (simp; done) | (simp; omega)) _ | refine below_dN ?_ _ | refine Below.drew ?_ | refine Below.alloc ?_ (by first | omega | (simp; done) | (simp; omega)) _)⟩
  have k1' : decide ((n : Int) < 1) = false := decide_eq_false k1
  by_cases k2 : (n : Int) > 50
  · go_wp2
    go_ret
    exact ⟨rfl, by have s0 := b0.size; (try simp only [World.heap_drewN, World.size_alloc] at s0); repeat (first | exact Below.refl _ _ | exact b0 | refine Below.trans ?_ (Below.mono b0 (by first | omega | (simp; done) | (simp; omega))) | refine Below.setCell ?_ (by first | omega | (simp; done) | (simp; omega)) _ | refine below_dN ?_ _ | refine Below.drew ?_ | refine Below.alloc ?_ (by first | omega | (simp; done) | (simp; omega)) _)⟩
  have k2' : decide ((n : Int) > 50) = false := decide_eq_false k2
  by_cases k3 : at_ < 0
  · go_wp2
    go_ret
    exact ⟨rfl, by have s0 := b0.size; (try simp only [World.heap_drewN, World.size_alloc] at s0); repeat (first | exact Below.refl _ _ | exact b0 | refine Below.trans ?_ (Below.mono b0 (by first | omega | (simp; done) | (simp; omega))) | refine Below.setCell ?_ (by first | omega | (simp; done) | (simp; omega)) _ | refine below_dN ?_ _ | refine Below.drew ?_ | refine Below.alloc ?_ (by first | omega | (simp; done) | (simp; omega)) _)⟩
  have k3' : decide (at_ < 0) = false := decide_eq_false k3
  obtain ⟨b, off, rfl, _⟩ := hrd.out 0 (by have := hn.out; omega)
  go_wp2_with fail
  refine (pnew (fun _ => 0) 1 _ 100 (by decide) (by decide)).mono ?_
  rintro e w1 ⟨rfl, o1, v1, s1, h1⟩
  have l1 := ((Lw.start w).on b0).step s1 (by decide)
  clear b0 s1
  generalize b0w.heap.size = a at *
  go_wp2
  go_loopw [7] (fun st wr => ∃ (i : Nat) (o : Nat → Nat) (v : Value) (l : List It), st = .int .i64 (i : Int) ∧ i ≤ n ∧ Pl o 1 wr a 100 v l ∧ Pushed 100 (fun _ => 0) zs i l ∧ Lw w o wr) (fun st _ => n - (intOf st).toNat)
  case atStart => exact ⟨0, o1, v1, [], rfl, by omega, h1, Pushed.start (by decide) (by decide), l1⟩
  case round =>
    obtain ⟨i, o, v, l, rfl, hi, h, hp, lw⟩ := hrel
    clear h1 l1
    rcases Nat.lt_or_ge i n with hlt | hge
    · have hnx := hp.next (by omega)
      have C := Lib.hid (ppush _ _ _ h hp.inv hnx.1 rfl)
      obtain ⟨b', off', hA, hcell⟩ := (hrd.out.below (fun ad had => hbl.out (by intro e; have := hn.out; rw [e] at this; simp at this; omega) ad had) lw.below) i (by have := hn.out; omega)
      cases hA
      generalize hgx : zs.getD i 0 = x at *
      have F := Lib.hid (And.intro hnx.2 lw)
      clear hnx hp lw h
      unfold vI at C
      simp only at C
      go_wp2_with fail
      refine C.out.mono ?_
      rintro e w2 ⟨rfl, o2, v2, st2, h2⟩
      have G := Lib.hid (And.intro h2 (F.out.2.step st2 (by decide)))
      clear C h2 st2
      go_wp2
      go_roundw
      case rel => exact ⟨i + 1, o2, v2, _, by simp, by omega, G.out.1, F.out.1, G.out.2⟩
      case measure => simp [intOf]; omega
    · obtain rfl : i = n := by omega
      have hl := hp.len
      have hinv := hp.inv
      obtain ⟨kk, hkk⟩ : ∃ kk : Nat, at_.toNat % i = kk := ⟨_, rfl⟩
      have hkl : kk < i := by rw [← hkk]; exact Nat.mod_lt _ (by omega)
      have hmem := hp.has hkl
      obtain ⟨L, hL⟩ : ∃ L, l.filter (fun z => decide (z.1 ≠ (kk : Int))) = L := ⟨_, rfl⟩
      have hdr : dropL l (kk : Int) = L := by rw [← hL]; exact drop_filter hinv.ids hmem
      have hmo : moveE l (kk : Int) = 0 := move_ok hinv.ids hmem
      have hgone : ∀ y ∈ L, y.1 ≠ (kk : Int) := by rw [← hL]; exact filter_gone _
      have hix : idxI (kk : Int) L = -1 := idx_out hgone
      have hd2 : dropL L (kk : Int) = L := by
        unfold dropL
        rw [List.findIdx?_eq_none_iff.2 (fun z hz => by simpa using hgone z hz)]
      have hLi : PInv 100 L := hdr ▸ hinv.drop (kk : Int)
      have hm2 : moveE L (kk : Int) = 4 := by unfold moveE; rw [hix]; rfl
      have hLl : L.length ≤ 1000 := Nat.le_trans hLi.le hLi.room2
      have C1 := Lib.hid (pall h (by omega))
      have C2 := Lib.hid (fun (o' : Nat → Nat) (w' : World) (h' : Pl o' 1 w' a 100 v l) => pdrop (kk : Int) 0 L h' (by omega) hmo hdr)
      have C3 := Lib.hid (fun (o' : Nat → Nat) (w' : World) (v' : Value) (h' : Pl o' 1 w' a 100 v' L) => pdrop (kk : Int) 4 L h' hLl hm2 hd2)
      have C4 := Lib.hid (fun (o' : Nat → Nat) (w' : World) (v' : Value) (h' : Pl o' 1 w' a 100 v' L) => phas (kk : Int) false h' hLl (by rw [hix]; rfl))
      have M := Lib.hid (And.intro hinv (And.intro hl (And.intro hL hLi)))
      have e1 : at_ % (i : Int) = (kk : Int) := by
        obtain ⟨m, rfl⟩ := Int.eq_ofNat_of_zero_le k3
        rw [← hkk]
        simp
      have e0 : at_.tmod (i : Int) = (kk : Int) := by rw [Int.tmod_eq_emod_of_nonneg k3, e1]
      have e2 : ¬ (i : Int) = 0 := by omega
      have e3 : ((i : Int) == 0) = false := by simp; omega
      have F := Lib.hid (And.intro h lw)
      clear h hp lw hl hinv hmem hL hdr hmo hgone hix hd2 hLi hm2 hLl hkk
      go_wp2_with fail
      refine C1.out.mono ?_
      rintro e w2 ⟨vw, rfl, hown2, b2⟩
      have st2 := Step.newly o 5 b2 3
      have r2 := Row.fresh (w0 := wr) 3 hown2 o
      have P2 := F.out.1.step st2 (by decide)
      have l2 := F.out.2.step st2 (by decide)
      have M2 := M.out.2.1
      obtain ⟨Aw, cw, rfl⟩ := r2.any
      obtain ⟨hw1, hw2⟩ := r2.caps
      rw [M2] at hw1
      have e4 : Value.slice Aw l.length cw = Value.slice Aw i cw := by rw [M2]
      have G := Lib.hid (And.intro P2 (And.intro l2 r2))
      have e5 : decide ((i : Int) ≠ (i : Int)) = false := by simp
      rw [e4]
      clear hown2 b2 st2 r2 P2 l2 F C1 M2 e4
      go_wp2_with fail
      refine (C2.out _ _ G.out.1).mono ?_
      rintro e w3 ⟨rfl, o3, v3, st3, h3⟩
      have G3 := Lib.hid (And.intro h3 (And.intro (G.out.2.1.step st3 (by decide)) (G.out.2.2.step st3 (by decide))))
      clear C2 h3 st3 G
      go_wp2_with fail
      refine (C3.out _ _ _ G3.out.1).mono ?_
      rintro e w4 ⟨rfl, o4, v4, st4, h4⟩
      have G4 := Lib.hid (And.intro h4 (And.intro (G3.out.2.1.step st4 (by decide)) (G3.out.2.2.step st4 (by decide))))
      clear C3 h4 st4 G3
      go_wp2_with fail
      refine (C4.out _ _ _ G4.out.1).mono ?_
      rintro e w5 ⟨rfl, b5⟩
      have G5 := Lib.hid (And.intro (G4.out.1.below b5) (And.intro (G4.out.2.1.on b5) (G4.out.2.2.below b5)))
      clear C4 b5 G4
      clear e0 e1 e2 e3 e5
      go_wp2
      go_loopw [10] (fun st wr => ∃ (j : Nat) (o : Nat → Nat) (v : Value), st = .int .i64 (j : Int) ∧ j ≤ i ∧ Pl o 1 wr a 100 v (leftF (kk : Int) l j) ∧ Lw w o wr ∧ Row o 3 wr 29 3 (.slice Aw l.length cw) l.length (cellsI l)) (fun st _ => i - (intOf st).toNat)
      case atStart =>
        refine ⟨0, o4, v4, rfl, by omega, ?_, G5.out.2.1, G5.out.2.2⟩
        have := M.out.2.2.1
        unfold leftF
        rw [List.drop_zero, this]
        exact G5.out.1
      case round =>
        clear G5
        obtain ⟨j, o6, v6, rfl, hj, h6, l6, r6⟩ := hrel
        have hll := M.out.2.1
        have hle := leftF_le (kk : Int) l j
        rcases Nat.lt_or_ge j i with hlt | hge
        · obtain ⟨⟨xi, xk, xt⟩, hx⟩ : ∃ x, l[j]? = some x := ⟨_, List.getElem?_eq_getElem (by omega)⟩
          obtain ⟨g, rfl, hg, d0, d1, d2⟩ := r6.rd j _ hx
          have hnx := filt_next (id := (kk : Int)) hx
          by_cases hk : xi = (kk : Int)
          · rw [if_pos hk] at hnx
            rw [hnx] at h6
            have F6 := Lib.hid (And.intro h6 (And.intro l6 r6))
            have hb : (xi == (kk : Int)) = true := by simp [hk]
            clear h6 l6 r6 hx hnx hk hle hll
            go_wp2
            go_roundw
            case rel => exact ⟨j + 1, o6, v6, by simp, by omega, F6.out.1, F6.out.2.1, F6.out.2.2⟩
            case measure => simp [intOf]; omega
          · rw [if_neg hk] at hnx
            rw [hnx] at h6 hle
            have C := Lib.hid (ppop (xi, xk, xt) true h6 (by omega) rfl)
            have F6 := Lib.hid (And.intro l6 r6)
            have hb : (xi == (kk : Int)) = false := by simp [hk]
            clear h6 l6 r6 hnx hk hle hll
            unfold vI at C
            simp only at C
            go_wp2_with fail
            refine C.out.mono ?_
            rintro e w7 ⟨rfl, o7, v7, st7, h7⟩
            have F7 := Lib.hid (And.intro (h7.alloc (.cells #[.int .i64 xi, .int .i64 xk, .int .i64 xt] 29) 2) (And.intro ((F6.out.1.step st7 (by decide)).alloc (.cells #[.int .i64 xi, .int .i64 xk, .int .i64 xt] 29) 2) ((F6.out.2.step st7 (by decide)).alloc (.cells #[.int .i64 xi, .int .i64 xk, .int .i64 xt] 29) 2)))
            clear C h7 st7 F6 d0 d1 d2
            go_wp2
            generalize hwX : w7.alloc (.cells #[.int .i64 xi, .int .i64 xk, .int .i64 xt] 29) = wX at *
            have x0 : wX.cell? ⟨w7.heap.size, 0, none⟩ = some (.int .i64 xi) := by rw [← hwX]; simp
            have x1 : wX.cell? ⟨w7.heap.size, 1, none⟩ = some (.int .i64 xk) := by rw [← hwX]; simp
            have x2 : wX.cell? ⟨w7.heap.size, 2, none⟩ = some (.int .i64 xt) := by rw [← hwX]; simp
            clear hwX
            obtain ⟨g', hg', _, y0, y1, y2⟩ := F7.out.2.2.rd j _ hx
            cases hg'
            simp only at y0 y1 y2
            have q1 : (j : Int) < (i : Int) := by omega
            have q2 : (0 : Int) ≤ (j : Int) := by omega
            go_quiet (fail)
            go_wp2
            go_roundw
            case rel => exact ⟨j + 1, _, _, by simp, by omega, F7.out.1.drewN _, F7.out.2.1.drewN _, ⟨F7.out.2.2.own, F7.out.2.2.mine⟩⟩
            case measure => simp [intOf]; omega
        · obtain rfl : j = i := by omega
          have h0 : leftF (kk : Int) l j = [] := by unfold leftF; rw [List.drop_eq_nil_of_le (by omega)]; rfl
          rw [h0] at h6
          have C := Lib.hid (ppop (0, 0, 0) false h6 (by simp) rfl)
          have F6 := Lib.hid l6
          clear h6 l6 r6 h0 hle hll
          unfold vI at C
          simp only at C
          go_wp2_with fail
          refine C.out.mono ?_
          rintro e w7 ⟨rfl, o7, v7, st7, h7⟩
          have F7 := Lib.hid (F6.out.step st7 (by decide))
          clear C h7 st7 F6
          go_wp2
          go_ret
          exact ⟨rfl, (F7.out.alloc _ 2).below⟩
end Go.Proofs.Ytgbmpnoknmpmcaa
