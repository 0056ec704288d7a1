/- PileSorts: what is pushed comes out rising, each once. -/
import Derived.Test.YtgbmpnoknmpmcaaPlSeen
namespace Go.Proofs.Ytgbmpnoknmpmcaa
open Go.RowKit
set_option linter.unusedVariables false
set_option linter.unusedSimpArgs false

set_option maxHeartbeats 6400000 in
set_option maxRecDepth 100000 in
theorem PileSorts_ret (A : Option Addr) (c : Nat) (zs : List Int) (w : World) (hk : zs.length ≤ 9223372036854775807) (hf : ∀ x ∈ zs, fitB x = true) (hrd : ReadsI w A zs) (hbl : zs ≠ [] → ∀ ad, A = some ad → ad.block < w.heap.size) :
    Calls Try.prog 5 #[.slice A zs.length c] w (RetB (.bool true) w) := by
  have A0 := Lib.hid awake_any
  have hmm := @run_makeMap Try.prog
  clear hf
  replace hrd := Lib.hid hrd
  replace hbl := Lib.hid hbl
  obtain ⟨n, hn⟩ : ∃ n : Nat, zs.length = n := ⟨_, rfl⟩
  rw [hn] at hk ⊢
  replace hn := Lib.hid hn
  go_enter Try.func5, Try.ntmps5
  go_wp2_with fail
  refine (A0.out _).mono ?_; rintro e b0w ⟨rfl, b0⟩
  by_cases k1 : (n : Int) > 100
  · go_wp2
    go_ret
    exact ⟨rfl, by have s0 := b0.size; (try simp only [World.heap_drewN, World.size_alloc] at s0); repeat (first | exact Below.refl _ _ | exact b0 | refine Below.trans ?_ (Below.mono b0 (by first | omega | (simp; done) | (simp; omega))) | refine Below.setCell ?_ (by first | omega | (simp; done) | (simp; omega)) _ | refine below_dN ?_ _ | refine Below.drew ?_ | refine Below.alloc ?_ (by first | omega | (simp; done) | (simp; omega)) _)⟩
  have k1' : decide ((n : Int) > 100) = false := decide_eq_false k1
  go_wp2_with fail
  refine (pnew (fun _ => 0) 1 _ 1000 (by decide) (by decide)).mono ?_
  rintro e w1 ⟨rfl, o1, v1, s1, h1⟩
  have l1 := ((Lw.start w).on b0).step s1 (by decide)
  clear b0 s1
  generalize b0w.heap.size = a at *
  go_wp2
  go_loopw [5] (fun st wr => ∃ (i : Nat) (o : Nat → Nat) (v : Value) (l : List It), st = .int .i64 (i : Int) ∧ i ≤ n ∧ Pl o 1 wr a 1000 v l ∧ Pushed 1000 (fun _ => 0) zs i l ∧ Lw w o wr) (fun st _ => n - (intOf st).toNat)
  case atStart => exact ⟨0, o1, v1, [], rfl, by omega, h1, Pushed.start (by decide) (by decide), l1⟩
  case round =>
    obtain ⟨i, o, v, l, rfl, hi, h, hp, lw⟩ := hrel
    clear h1 l1
    rcases Nat.lt_or_ge i n with hlt | hge
    · have hnx := hp.next (by omega)
      have C := Lib.hid (ppush _ _ _ h hp.inv hnx.1 rfl)
      obtain ⟨b', off', rfl, hcell⟩ := (hrd.out.below (fun ad had => hbl.out (by intro e; have := hn.out; rw [e] at this; simp at this; omega) ad had) lw.below) i (by have := hn.out; omega)
      generalize hgx : zs.getD i 0 = x at *
      have F := Lib.hid (And.intro hnx.2 lw)
      clear hnx hp lw h
      unfold vI at C
      simp only at C
      go_wp2_with fail
      refine C.out.mono ?_
      rintro e w2 ⟨rfl, o2, v2, st2, h2⟩
      have G := Lib.hid (And.intro h2 (F.out.2.step st2 (by decide)))
      clear C h2 st2
      go_wp2
      go_roundw
      case rel => exact ⟨i + 1, o2, v2, _, by simp, by omega, G.out.1, F.out.1, G.out.2⟩
      case measure => simp [intOf]; omega
    · obtain rfl : i = n := by omega
      have hl := hp.len
      have hinv := hp.inv
      have F := Lib.hid (And.intro h (And.intro lw (And.intro hp (And.intro hl hinv))))
      clear h lw hp hl hinv
      go_wp2
      have h3 := (F.out.1.alloc (.map #[] 0) 3).alloc (.cells #[.int .i64 0, .int .i64 0, .int .i64 0] 29) 4
      have l3 := (F.out.2.1.alloc (.map #[] 0) 3).alloc (.cells #[.int .i64 0, .int .i64 0, .int .i64 0] 29) 4
      have m3 := (SeenI.made o 3 wr).alloc (.cells #[.int .i64 0, .int .i64 0, .int .i64 0] 29) 4
      have x3 := Blk.made (tag o wr.heap.size 3) 4 (wr.alloc (.map #[] 0)) #[.int .i64 0, .int .i64 0, .int .i64 0] 29
      simp only [World.size_alloc] at h3 l3 m3 x3
      generalize (wr.alloc (.map #[] 0)).alloc (.cells #[.int .i64 0, .int .i64 0, .int .i64 0] 29) = w4 at *
      generalize tag (tag o wr.heap.size 3) (wr.heap.size + 1) 4 = o4 at *
      generalize wr.heap.size + 1 = lb at *
      generalize wr.heap.size = mb at *
      have M := Lib.hid F.out.2.2
      have G := Lib.hid (And.intro h3 (And.intro l3 (And.intro m3 x3)))
      clear h3 l3 m3 x3 F hmm
      go_loopw [8] (fun st wr => ∃ (j : Nat) (o : Nat → Nat) (v : Value), st = .int .i64 (j : Int) ∧ j ≤ i ∧ Pl o 1 wr a 1000 v (l.drop j) ∧ Lw w o wr ∧ SeenI o 3 wr mb j ((l.take j).map (·.1)) ∧ Blk o 4 wr lb #[.int .i64 (lastI l j).1, .int .i64 (lastI l j).2.1, .int .i64 (lastI l j).2.2] 29) (fun st _ => i - (intOf st).toNat)
      case atStart => exact ⟨0, o4, v, rfl, by omega, G.out.1, G.out.2.1, G.out.2.2.1, G.out.2.2.2⟩
      case round =>
        clear G
        obtain ⟨j, o6, v6, rfl, hj, h6, l6, m6, x6⟩ := hrel
        obtain ⟨hp, hl, hinv⟩ := M.out
        rcases Nat.lt_or_ge j i with hlt | hge
        · obtain ⟨⟨xi, xk, xt⟩, hx⟩ : ∃ x, l[j]? = some x := ⟨_, List.getElem?_eq_getElem (by omega)⟩
          obtain ⟨q, hq, hqe⟩ := itsTo_mem.1 (hp.perm.mem_iff.1 (List.mem_of_getElem? hx))
          simp only [Prod.mk.injEq] at hqe
          obtain ⟨rfl, rfl, rfl⟩ := hqe
          have hdn := drop_next hx
          have hlt2 : 0 < j → ltI (lastI l j) ((q : Int), zs.getD q 0, 0) = true := last_lt hinv.sorted hx
          have hlz : 0 < j → (lastI l j).2.2 = 0 := fun h0 => by
            obtain ⟨_, _, he⟩ := itsTo_mem.1 (hp.perm.mem_iff.1 (last_mem h0 (by omega)))
            rw [he]
          have hns := not_seen hinv.ids hx
          have hsn := seen_next hx
          have hln := lastI_next hx
          simp only at hns hsn
          generalize lastI l j = la at *
          obtain ⟨lt0, lt1, lt2⟩ := la
          simp only at x6 hlz
          rw [hdn] at h6
          have C := Lib.hid (ppop _ true h6 (by rw [← hdn]; simp; omega) rfl)
          unfold vI at C
          simp only at C
          obtain ⟨b', off', hA, hcell⟩ := hrd.out q (by have := hn.out; omega)
          have hbw : b' < w.heap.size := cell_lt hcell
          cases hA
          generalize zs.getD q 0 = xk at *
          have F6 := Lib.hid (And.intro l6 (And.intro m6 x6))
          have H6 := Lib.hid (And.intro hsn (And.intro hns hln))
          have D := Lib.hid hcell
          clear h6 l6 m6 x6 hx hdn hns hsn hln hp hinv hl hcell
          go_wp2_with fail
          refine C.out.mono ?_
          rintro e w7 ⟨rfl, o7, v7, st7, h7⟩
          have h8 := h7.alloc (.cells #[.int .i64 (q : Int), .int .i64 xk, .int .i64 0] 29) 2
          have l8 := (F6.out.1.step st7 (by decide)).alloc (.cells #[.int .i64 (q : Int), .int .i64 xk, .int .i64 0] 29) 2
          have m8 := (F6.out.2.1.step st7 (by decide)).alloc (.cells #[.int .i64 (q : Int), .int .i64 xk, .int .i64 0] 29) 2
          have x8 := (F6.out.2.2.step st7 (by decide)).alloc (.cells #[.int .i64 (q : Int), .int .i64 xk, .int .i64 0] 29) 2
          have y8 := Blk.made o7 2 w7 #[.int .i64 (q : Int), .int .i64 xk, .int .i64 0] 29
          clear C h7 st7 F6
          go_wp2
          generalize w7.alloc (.cells #[.int .i64 (q : Int), .int .i64 xk, .int .i64 0] 29) = wX at *
          generalize tag o7 w7.heap.size 2 = oX at *
          generalize w7.heap.size = xb at *
          have s0 : wX.cell? ⟨xb, 0, none⟩ = some (.int .i64 (q : Int)) := by rw [y8.cell]; simp
          have s1 : wX.cell? ⟨xb, 1, none⟩ = some (.int .i64 xk) := by rw [y8.cell]; simp
          have t0 : wX.cell? ⟨lb, 0, none⟩ = some (.int .i64 lt0) := by rw [x8.cell]; simp
          have t1 : wX.cell? ⟨lb, 1, none⟩ = some (.int .i64 lt1) := by rw [x8.cell]; simp
          have d0 : wX.cell? ⟨b', off' + q, none⟩ = some (.int .i64 xk) := by rw [l8.below.cell (p := ⟨b', off' + q, none⟩) hbw]; exact D.out
          have hwf : (Lit.int .i64 (q : Int)).wf = true := by
            have : IntKind.i64.min ≤ (q : Int) ∧ (q : Int) ≤ 9223372036854775807 := ⟨by show (-9223372036854775808 : Int) ≤ (q : Int); omega, by omega⟩
            simpa [Lit.wf] using this
          have hlook : ∀ k, (Instr.lookup 52 (.map (some mb)) (.int .i64 (q : Int)) false).run Try.prog (wX.drewN k) = .ok (.bool false) (wX.drewN k) := fun k => (m8.drewN k).look hwf H6.out.2.1
          have G := Lib.hid (And.intro h8 (And.intro l8 (And.intro m8 (And.intro x8 (And.intro y8 hwf)))))
          clear h8 l8 m8 x8 y8 hwf D
          have p1 : decide ((q : Int) < 0) = false := decide_eq_false (by omega)
          have p2 : decide ((q : Int) ≥ (i : Int)) = false := decide_eq_false (by omega)
          have p2' : decide ((i : Int) ≤ (q : Int)) = false := decide_eq_false (by omega)
          have p2'' : decide (i ≤ q) = false := decide_eq_false (by omega)
          have p3 : (0 : Int) ≤ (q : Int) := by omega
          have p4 : (q : Int) < (i : Int) := by omega
          have hcase : (decide ((j : Int) > 0) = false ∧ decide (0 < j) = false) ∨ (((j : Int) > 0 ∧ 0 < j) ∧ decide (xk < lt1) = false ∧ (xk == lt1) = true ∧ decide ((q : Int) < lt0) = false) ∨ (((j : Int) > 0 ∧ 0 < j) ∧ decide (xk < lt1) = false ∧ (xk == lt1) = false) := by
            rcases Nat.eq_zero_or_pos j with h0 | h0
            · subst h0; exact .inl (by simp)
            · have h1 := hlt2 h0
              have h2 := hlz h0
              simp only [ltI, decide_eq_true_eq] at h1 h2
              subst h2
              by_cases he : xk = lt1
              · exact .inr (.inl ⟨by omega, decide_eq_false (by omega), by simp [he], decide_eq_false (by omega)⟩)
              · exact .inr (.inr ⟨by omega, decide_eq_false (by omega), by simp [he]⟩)
          clear hlt2 hlz
          rcases hcase with ⟨g1, g2⟩ | ⟨⟨g1, g2⟩, g3, g4, g5⟩ | ⟨⟨g1, g2⟩, g3, g4⟩
          all_goals
            go_big_quiet (fail)
            obtain ⟨h8, l8, m8, x8, y8, hwf⟩ := G.out
            obtain ⟨w9, hupd, m9, g9⟩ := (m8.drewN nq).told hwf (by unfold maxLen; omega)
            have st9 := ((Step.refl oX 3 wX).drewN nq).grown g9 (fun k hk => .inr (by cases hk; exact m8.mine)) 3
            have h9 := h8.step st9 (by decide)
            have l9 := l8.step st9 (by decide)
            have x9 := x8.step st9 (by decide)
            have y9 := y8.step st9 (by decide)
            have c0 : w9.cell? ⟨xb, 0, none⟩ = some (.int .i64 (q : Int)) := by rw [y9.cell]; simp
            have c1 : w9.cell? ⟨xb, 1, none⟩ = some (.int .i64 xk) := by rw [y9.cell]; simp
            have c2 : w9.cell? ⟨xb, 2, none⟩ = some (.int .i64 0) := by rw [y9.cell]; simp
            have f0 : w9.cell? ⟨lb, 0, none⟩ = some (.int .i64 lt0) := by rw [x9.cell]; simp
            have f1 : w9.cell? ⟨lb, 1, none⟩ = some (.int .i64 lt1) := by rw [x9.cell]; simp
            have f2 : w9.cell? ⟨lb, 2, none⟩ = some (.int .i64 lt2) := by rw [x9.cell]; simp
            have f3 : ∀ k, w9.frozen? ⟨lb, k, none⟩ = false := fun k => x9.frozen k
            have K := Lib.hid (And.intro h9 (And.intro l9 (And.intro m9 x9)))
            clear h8 l8 m8 x8 y8 hwf G h9 l9 m9 x9 y9 st9 g9 d0 t0 t1 hlook
            go_wp2
            go_roundw
            case rel =>
              obtain ⟨h9, l9, m9, x9⟩ := K.out
              have hm : tag oX (wX.drewN nq).heap.size 3 lb ≠ 1 := by rw [x9.mine]; decide
              have hm0 : tag oX (wX.drewN nq).heap.size 3 lb ≠ 0 := by rw [x9.mine]; decide
              have st := ((((Step.refl (tag oX (wX.drewN nq).heap.size 3) 4 w9).setCell (p := ⟨lb, 0, none⟩) (.inr x9.mine) (.int .i64 (q : Int))).setCell (p := ⟨lb, 1, none⟩) (.inr x9.mine) (.int .i64 xk)).setCell (p := ⟨lb, 2, none⟩) (.inr x9.mine) (.int .i64 0))
              refine ⟨j + 1, tag oX (wX.drewN nq).heap.size 3, v7, by simp, by omega, h9.step st (by decide), l9.step st (by decide), ?_, ?_⟩
              · rw [← H6.out.1]; exact m9.step st (by decide)
              · rw [H6.out.2.2]; exact ((x9.set 0 _).set 1 _).set 2 _
            case measure => simp [intOf]; omega
        · obtain rfl : j = i := by omega
          have h0 : l.drop j = [] := List.drop_eq_nil_of_le (by omega)
          rw [h0] at h6
          have C := Lib.hid (ptop (0, 0, 0) false h6 (by simp) rfl)
          have F6 := Lib.hid l6
          clear h6 l6 m6 x6 h0 hp hinv hl
          unfold vI at C
          simp only at C
          go_wp2_with fail
          refine C.out.mono ?_
          rintro e w7 ⟨rfl, b7⟩
          have F7 := Lib.hid (F6.out.on b7)
          clear C b7 F6
          go_wp2
          go_ret
          exact ⟨rfl, (F7.out.alloc _ 2).below⟩
end Go.Proofs.Ytgbmpnoknmpmcaa
