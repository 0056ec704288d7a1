/- DeltaOnce: each alarm rings once, at its time. -/
import Derived.Test.YtbejmboedjfllaaDlOnceM
import Derived.Laws.OwnMore
namespace Go.Proofs.Ytbejmboedjfllaa
open Go.RowKit
set_option linter.unusedVariables false
set_option linter.unusedSimpArgs false

set_option maxHeartbeats 6400000 in
set_option maxRecDepth 100000 in
theorem DeltaOnce_ret (A : Option Addr) (c : Nat) (zs : List Int) (w : World) (hk : zs.length ≤ 9223372036854775807) (hf : ∀ x ∈ zs, fitB x = true) (hrd : ReadsI w A zs) (hbl : zs ≠ [] → ∀ ad, A = some ad → ad.block < w.heap.size) :
    Calls Try.prog 5 #[.slice A zs.length c] w (RetB (.bool true) w) := by
  obtain ⟨i0, hi0, hz0, hz1, hz2⟩ := info_parts Try.infoInt
  have A0 := Lib.hid awake_any
  clear hf hbl
  replace hrd := Lib.hid hrd
  obtain ⟨n, hn⟩ : ∃ n : Nat, zs.length = n := ⟨_, rfl⟩
  rw [hn] at hk ⊢
  replace hn := Lib.hid hn
  go_enter Try.func5, Try.ntmps5
  go_wp2_with fail
  refine (A0.out _).mono ?_; rintro e b0w ⟨rfl, b0⟩
  by_cases k1 : (n : Int) > 40
  · go_wp2
    go_ret
    exact ⟨rfl, by have s0 := b0.size; (try simp only [World.heap_drewN, World.size_alloc] at s0); repeat (first | exact Below.refl _ _ | exact b0 | refine Below.trans ?_ (Below.mono b0 (by first | omega | (simp; done) | (simp; omega))) | refine Below.setCell ?_ (by first | omega | (simp; done) | (simp; omega)) _ | refine below_dN ?_ _ | refine Below.drew ?_ | refine Below.alloc ?_ (by first | omega | (simp; done) | (simp; omega)) _)⟩
  have k1' : decide ((n : Int) > 40) = false := decide_eq_false k1
  have k1n : n ≤ 40 := by omega
  go_wp2_with fail
  refine (qnew (fun _ => 0) 1 _ 100 (by decide) (by decide)).mono ?_
  rintro e w1 ⟨rfl, o1, v1, s1, h1⟩
  have l1 := ((Lw.start w).on b0).step s1 (by decide)
  clear b0 s1
  generalize b0w.heap.size = a at *
  go_wp2
  go_loopw [5] (fun st wr => ∃ (i : Nat) (o : Nat → Nat) (v : Value), st = .int .i64 (i : Int) ∧ i ≤ n ∧ Qu o 1 wr a 100 0 v (tmsTo zs i) ∧ QInv 100 0 (tmsTo zs i) ∧ (∀ j, j < i → 1 ≤ zs.getD j 0 ∧ zs.getD j 0 ≤ 200) ∧ Lw w o wr) (fun st _ => n - (intOf st).toNat)
  case atStart => exact ⟨0, o1, v1, rfl, by omega, h1, QInv.start (by decide) (by decide), fun j hj => absurd hj (Nat.not_lt_zero _), l1⟩
  case round =>
    obtain ⟨i, o, v, rfl, hi, hA, vA, hall, lw⟩ := hrel
    clear h1 l1
    rcases Nat.lt_or_ge i n with hlt | hge
    · obtain ⟨b', off', rfl, hcell0⟩ := hrd.out i (by have := hn.out; omega)
      have hbw : b' < w.heap.size := cell_lt hcell0
      have hcell : wr.cell? ⟨b', off' + i, none⟩ = some (.int .i64 (zs.getD i 0)) := by rw [lw.below.cell (p := ⟨b', off' + i, none⟩) hbw]; exact hcell0
      have hsu := tmsTo_succ zs i
      have hnx : 1 ≤ zs.getD i 0 → zs.getD i 0 ≤ 200 → ∀ j, j < i + 1 → 1 ≤ zs.getD j 0 ∧ zs.getD j 0 ≤ 200 := fun h1 h2 j hj => by
        rcases Nat.lt_or_ge j i with h | h
        · exact hall j h
        · obtain rfl : j = i := by omega
          exact ⟨h1, h2⟩
      have HN := Lib.hid hnx
      clear hnx hall
      generalize hgx : zs.getD i 0 = x at *
      clear hcell0 hgx
      by_cases x1 : x < 1
      · replace lw := Lib.hid lw
        clear hA vA hsu HN
        go_wp2
        go_ret
        exact ⟨rfl, lw.out.below⟩
      have x1' : decide (x < 1) = false := decide_eq_false x1
      by_cases x2 : x > 200
      · replace lw := Lib.hid lw
        clear hA vA hsu HN
        go_wp2
        go_ret
        exact ⟨rfl, lw.out.below⟩
      have x2' : decide (x > 200) = false := decide_eq_false x2
      have sA := set_new (room := 100) (now := ((0 : Nat) : Int)) (after := x) (tmsTo_new zs i) (by rw [tmsTo_len]; omega) (by omega) (by omega)
      have wA := vA.set (i : Int) x
      rw [sA.2] at wA
      have hz : ((0 : Nat) : Int) + x = x := by simp
      rw [hz, ← hsu] at sA
      rw [hz, ← hsu] at wA
      have C1 := Lib.hid (qset (i : Int) x _ _ hA vA (by decide) sA.1 sA.2)
      have F := Lib.hid (And.intro wA (And.intro (HN.out (by omega) (by omega)) lw))
      clear hA vA wA lw sA hz HN
      go_wp2_with fail
      refine C1.out.mono ?_
      rintro e w3 ⟨rfl, o3, v3, s3, h3⟩
      have G := Lib.hid (And.intro h3 (F.out.2.2.step s3 (by decide)))
      clear C1 h3 s3
      go_wp2
      go_roundw
      case rel => exact ⟨i + 1, o3, v3, by simp, by omega, G.out.1, F.out.1, F.out.2.1, G.out.2⟩
      case measure => simp [intOf]; omega
    · obtain rfl : i = n := by omega
      have F := Lib.hid (And.intro hA (And.intro vA (And.intro hall lw)))
      clear hA vA hall lw
      go_wp2_with (at_make; refine wpList_make_full _ rfl _ _ 30 rfl 0 3 i0 (.int .i64 0) 1 Try.underlying30 hi0 hz0 hz1 _ _ _ _ i rfl rfl rfl rfl (by rw [hz2]; omega) (by unfold maxLen; omega) (Nat.zero_le _) ?_)
      intro w2 hown2 hgrow2
      obtain ⟨hA, vA, hall, lw⟩ := F.out
      have st2 := (Step.refl o 9 wr).grown hgrow2 (fun k hk => by cases hk) 4
      have r2 : Row (tag o wr.heap.size 4) 4 w2 3 1 (.slice (some ⟨wr.heap.size, 0, none⟩) i i) i (cellsN (rungL zs i 0 0)) := by
        refine ⟨?_, fun k hk => by cases hk; exact tag_new (Nat.le_refl _)⟩
        have he : (madeCells #[Value.int .i64 0] i).toList = cellsN (rungL zs i 0 0) := by
          rw [rung_start (fun j hj => (hall j hj).1), toList_madeCells_one]
          simp [cellsN]
        rw [← he]; exact hown2
      generalize wr.heap.size = rg at *
      have G := Lib.hid (And.intro (show Qu (tag o rg 4) 1 w2 a 100 0 v (lateT zs i 0) from by rw [late_start (fun j hj => (hall j hj).1)]; exact hA.step st2 (by decide)) (And.intro (show QInv 100 0 (lateT zs i 0) from by rw [late_start (fun j hj => (hall j hj).1)]; exact vA) (And.intro r2 (lw.step st2 (by decide)))))
      have HA := Lib.hid hall
      clear hA vA hall lw st2 r2 F hown2 hgrow2
      go_wp2
      go_loopw [7] (fun st wr => ∃ (s : Nat) (o : Nat → Nat) (v : Value), st = .int .i64 ((s : Int) + 1) ∧ s ≤ 200 ∧ Qu o 1 wr a 100 s v (lateT zs i s) ∧ QInv 100 s (lateT zs i s) ∧ Row o 4 wr 3 1 (.slice (some ⟨rg, 0, none⟩) i i) i (cellsN (rungL zs i s 0)) ∧ Lw w o wr) (fun st _ => 201 - (intOf st).toNat)
      case atStart => exact ⟨0, _, v, by simp, by omega, G.out.1, G.out.2.1, G.out.2.2.1, G.out.2.2.2⟩
      case round =>
        clear G
        obtain ⟨s, o3, v3, rfl, hs, h3, hv3, r3, lw3⟩ := hrel
        rcases Nat.lt_or_ge s 200 with hsl | hsg
        · have q1 : (s : Int) + 1 ≤ 200 := by omega
          have q2 : IntKind.i64.wrap ((s : Int) + 1 + 1) = ((s + 1 : Nat) : Int) + 1 := by rw [IntKind.wrap_i64]; omega
          obtain ⟨R, hR⟩ : ∃ R : List Int, R = (ringJ zs i s).map (fun (j : Nat) => (j : Int)) := ⟨_, rfl⟩
          have hRl : R.length = (ringJ zs i s).length := by rw [hR]; simp
          have hle := ring_len zs i s
          have C1 := Lib.hid (qticks 3 R (lateT zs i (s + 1)) (by decide) h3 hv3 (by omega) (by rw [hR]; exact ring_tick zs i s) (late_tick zs i s))
          have F3 := Lib.hid (And.intro (late_tick zs i s ▸ hv3.tick) (And.intro r3 lw3))
          replace hR := Lib.hid hR
          clear h3 hv3 r3 lw3
          go_wp2_with fail
          refine C1.out.mono ?_
          rintro e w4 ⟨A4, c4, rfl, o4, v4, s4, h4, t4⟩
          obtain ⟨hv3, r3, lw3⟩ := F3.out
          obtain ⟨m4, n4⟩ := t4.caps
          have G4 := Lib.hid (And.intro h4 (And.intro t4 (And.intro (r3.step s4 (by decide)) (lw3.step s4 (by decide)))))
          have V4 := Lib.hid hv3
          clear h4 t4 r3 lw3 s4 hv3 F3 C1
          go_wp2
          go_loopw [9] (fun st wr => ∃ (k : Nat) (o : Nat → Nat), st = .int .i64 (k : Int) ∧ k ≤ R.length ∧ Qu o 1 wr a 100 (s + 1) v4 (lateT zs i (s + 1)) ∧ Row o 3 wr 3 1 (.slice A4 R.length c4) R.length (cellsN R) ∧ Row o 4 wr 3 1 (.slice (some ⟨rg, 0, none⟩) i i) i (cellsN (rungL zs i s k)) ∧ Lw w o wr) (fun st _ => R.length - (intOf st).toNat)
          case atStart => exact ⟨0, o4, rfl, Nat.zero_le _, G4.out.1, G4.out.2.1, G4.out.2.2.1, G4.out.2.2.2⟩
          case round =>
            clear G4
            obtain ⟨k, o5, rfl, hk5, h5, t5, r5, lw5⟩ := hrel
            rcases Nat.lt_or_ge k R.length with hkl | hkg
            · obtain ⟨j, hj⟩ : ∃ j, (ringJ zs i s)[k]? = some j := ⟨_, List.getElem?_eq_getElem (by omega)⟩
              have hRk : R[k]? = some (j : Int) := by rw [hR.out, List.getElem?_map, hj]; rfl
              obtain ⟨hji, hzj⟩ := ring_mem.1 (List.mem_of_getElem? hj)
              obtain ⟨b', off', rfl, hc0⟩ := hrd.out j (by have := hn.out; omega)
              have hbw : b' < w.heap.size := cell_lt hc0
              have hc1 : wr.cell? ⟨b', off' + j, none⟩ = some (.int .i64 ((s : Int) + 1)) := by rw [lw5.below.cell (p := ⟨b', off' + j, none⟩) hbw, hc0, hzj]
              obtain ⟨g, hA4, hgl, d0⟩ := t5.rdN k _ hRk
              subst hA4
              have hrn := rung_next hj
              have e0 : wr.cell? ⟨rg, j, none⟩ = some (.int .i64 0) := by rw [r5.cellAt j (by omega)]; simp [cellsN, hrn.1]
              have e1 : wr.frozen? ⟨rg, j, none⟩ = false := r5.frozenAt j
              have p1 : decide ((j : Int) < 0) = false := decide_eq_false (by omega)
              have p2 : decide ((j : Int) ≥ (i : Int)) = false := decide_eq_false (by omega)
              have p2' : decide ((i : Int) ≤ (j : Int)) = false := decide_eq_false (by omega)
              have p2'' : decide (i ≤ j) = false := decide_eq_false (by omega)
              have p3 : (0 : Int) ≤ (j : Int) := by omega
              have p4 : (j : Int) < (i : Int) := by omega
              have p5 : (((s : Int) + 1) != ((s : Int) + 1)) = false := by simp
              have p6 : (0 : Int) ≤ (k : Int) := by omega
              have p7 : (k : Int) < (R.length : Int) := by omega
              have hcase : (decide ((k : Int) > 0) = false ∧ decide (0 < k) = false) ∨ ∃ (k' j' : Nat), k = k' + 1 ∧ j' < j ∧ R[k']? = some (j' : Int) := by
                rcases Nat.eq_zero_or_pos k with h0 | h0
                · subst h0; exact .inl (by simp)
                · obtain ⟨k', rfl⟩ : ∃ k', k = k' + 1 := ⟨k - 1, by omega⟩
                  obtain ⟨j', hj'⟩ : ∃ j', (ringJ zs i s)[k']? = some j' := ⟨_, List.getElem?_eq_getElem (by omega)⟩
                  exact .inr ⟨k', j', rfl, ring_lt hj' hj, by rw [hR.out, List.getElem?_map, hj']; rfl⟩
              have hcase2 : (decide ((k : Int) > 0) = false ∧ decide (0 < k) = false) ∨ ∃ (k' j' : Nat), ((k : Int) > 0 ∧ 0 < k) ∧ IntKind.i64.wrap ((k : Int) - 1) = (k' : Int) ∧ (0 : Int) ≤ (k' : Int) ∧ (k' : Int) < (R.length : Int) ∧ wr.cell? ⟨g, k', none⟩ = some (.int .i64 (j' : Int)) ∧ decide ((j : Int) ≤ (j' : Int)) = false ∧ decide (j ≤ j') = false := by
                rcases hcase with h | ⟨k', j', rfl, hjj, hRk'⟩
                · exact .inl h
                · obtain ⟨g', hg', _, d1⟩ := t5.rdN k' _ hRk'
                  cases hg'
                  exact .inr ⟨k', j', ⟨by omega, by omega⟩, by rw [IntKind.wrap_i64]; omega, by omega, by omega, d1, decide_eq_false (by omega), decide_eq_false (by omega)⟩
              have F5 := Lib.hid (And.intro h5 (And.intro t5 (And.intro r5 (And.intro lw5 hrn.2))))
              clear h5 t5 r5 lw5 hrn hj hzj hc0 hRk hcase
              rcases hcase2 with ⟨g1, g2⟩ | ⟨k', j', ⟨g1, g2⟩, z1, z2, z3, d1, z4, z5⟩
              all_goals
                go_wp2
                go_big_quiet (fail)
                go_wp2
                go_roundw
                case rel =>
                  obtain ⟨h5, t5, r5, lw5, hrn⟩ := F5.out
                  have hm := r5.mine rg rfl
                  have st := ((Step.refl o5 4 wr).drewN nq).setCell (p := ⟨rg, j, none⟩) (.inr hm) (.int .i64 1)
                  refine ⟨k + 1, o5, by simp, by omega, h5.step st (by decide), t5.step st (by decide), ?_, lw5.step st (by decide)⟩
                  rw [← hrn]
                  have := (r5.drewN nq).set j (.int .i64 1)
                  rw [show (cellsN (rungL zs i s k)).set j (.int .i64 1) = cellsN ((rungL zs i s k).set j 1) from by simp [cellsN, List.map_set]] at this
                  exact this
                case measure => simp [intOf]; omega
            · obtain rfl : k = R.length := by omega
              rw [hRl, rung_full] at r5
              have F5 := Lib.hid (And.intro h5 (And.intro r5 lw5))
              clear h5 t5 r5 lw5
              go_wp2
              go_roundw
              case rel => exact ⟨s + 1, o5, v4, by simp, by omega, F5.out.1, V4.out, F5.out.2.1, F5.out.2.2⟩
              case measure => simp [intOf]; omega
        · obtain rfl : s = 200 := by omega
          have hend : lateT zs i 200 = [] := late_end (fun j hj => (HA.out j hj).2)
          rw [hend] at h3
          have F3 := Lib.hid (And.intro h3 (And.intro r3 lw3))
          clear h3 hv3 r3 lw3 hend
          go_wp2
          go_loopw [10] (fun st wr => ∃ (j : Nat), st = .int .i64 (j : Int) ∧ j ≤ i ∧ Qu o3 1 wr a 100 200 v3 [] ∧ Row o3 4 wr 3 1 (.slice (some ⟨rg, 0, none⟩) i i) i (cellsN (rungL zs i 200 0)) ∧ Lw w o3 wr) (fun st _ => i - (intOf st).toNat)
          case atStart => exact ⟨0, rfl, Nat.zero_le _, F3.out.1, F3.out.2.1, F3.out.2.2⟩
          case round =>
            clear F3
            obtain ⟨j, rfl, hj, h5, r5, lw5⟩ := hrel
            rcases Nat.lt_or_ge j i with hjl | hjg
            · have e0 : wr.cell? ⟨rg, j, none⟩ = some (.int .i64 1) := by rw [r5.cellAt j (by omega)]; simp [cellsN, rung_end (fun j hj => (HA.out j hj).2) hjl]
              have F5 := Lib.hid (And.intro h5 (And.intro r5 lw5))
              clear h5 r5 lw5
              go_wp2
              go_roundw
              case rel => exact ⟨j + 1, by simp, by omega, F5.out.1, F5.out.2.1, F5.out.2.2⟩
              case measure => simp [intOf]; omega
            · obtain rfl : j = i := by omega
              have C := Lib.hid (qlen h5 (by simp))
              replace lw5 := Lib.hid lw5
              clear h5 r5
              go_wp2_with fail
              refine C.out.mono ?_
              rintro e w6 ⟨rfl, rfl⟩
              go_wp2
              go_ret
              exact ⟨by simp, lw5.out.below⟩
end Go.Proofs.Ytbejmboedjfllaa
