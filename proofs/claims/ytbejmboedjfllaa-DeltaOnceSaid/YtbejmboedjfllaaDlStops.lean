/- DeltaStops: a stopped alarm never rings; others do all the same. -/
import Derived.Test.YtbejmboedjfllaaDlLeft
namespace Go.Proofs.Ytbejmboedjfllaa
open Go.RowKit
set_option linter.unusedVariables false
set_option linter.unusedSimpArgs false

/-- The first n alarms, set at time 0. -/
def tmsTo (ks : List Int) (n : Nat) : List Tm := (List.range n).map fun (j : Nat) => ((j : Int), ks.getD j 0)
theorem tmsTo_succ (ks : List Int) (n : Nat) : tmsTo ks (n + 1) = tmsTo ks n ++ [((n : Int), ks.getD n 0)] := by simp [tmsTo, List.range_succ]
theorem tmsTo_len (ks : List Int) (n : Nat) : (tmsTo ks n).length = n := by simp [tmsTo]
theorem tmsTo_mem {ks : List Int} {n : Nat} {y : Tm} : y ∈ tmsTo ks n ↔ ∃ j : Nat, j < n ∧ y = ((j : Int), ks.getD j 0) := by
  simp only [tmsTo, List.mem_map, List.mem_range]
  constructor
  · rintro ⟨j, hj, rfl⟩; exact ⟨j, hj, rfl⟩
  · rintro ⟨j, hj, rfl⟩; exact ⟨j, hj, rfl⟩
theorem tmsTo_new (ks : List Int) (n : Nat) : ∀ z ∈ tmsTo ks n, z.1 ≠ (n : Int) := fun z hz => by
  obtain ⟨j, hj, rfl⟩ := tmsTo_mem.1 hz
  simp only; omega
/-- A timer that is there, stopped. -/
theorem stop_filter {l : List Tm} (h : (l.map (·.1)).Nodup) {y : Tm} (hy : y ∈ l) : stopB l y.1 = true ∧ stopL l y.1 = l.filter (fun z => decide (z.1 ≠ y.1)) := by
  cases hf : l.findIdx? (isId y.1) with
  | none =>
    have := (idxP_none hf).2 y hy
    simp [isId] at this
  | some i =>
    have hgone := stopL_gone h y.1
    refine ⟨by unfold stopB; rw [hf]; rfl, ?_⟩
    obtain ⟨_, hil, ⟨x, hx, hxe⟩, _⟩ := idxP_some hf
    have hxe' : x.1 = y.1 := by simpa [isId] using hxe
    have hie := (List.getElem?_eq_some_iff.1 hx).2
    unfold stopL at hgone ⊢
    rw [hf] at hgone ⊢
    simp only at hgone ⊢
    have hsplit : l = l.take i ++ x :: l.drop (i + 1) := by
      rw [← hie, ← List.drop_eq_getElem_cons hil, List.take_append_drop]
    rw [List.eraseIdx_eq_take_drop_succ] at hgone ⊢
    conv => rhs; rw [hsplit]
    rw [List.filter_append, List.filter_cons]
    simp only [hxe', ne_eq, not_true_eq_false, decide_false, Bool.false_eq_true, if_false]
    rw [List.filter_eq_self.2 (fun z hz => by simpa using hgone z (by simp [hz])), List.filter_eq_self.2 (fun z hz => by simpa using hgone z (by simp [hz]))]
def but (k : Int) (l : List Tm) : List Tm := l.filter (fun z => decide (z.1 ≠ k))
theorem but_succ (ks : List Int) (n k : Nat) : but k (tmsTo ks (n + 1)) = if (n : Int) = k then but k (tmsTo ks n) else but k (tmsTo ks n) ++ [((n : Int), ks.getD n 0)] := by
  unfold but
  rw [tmsTo_succ, List.filter_append]
  by_cases h : (n : Int) = k <;> simp [h]
theorem but_len (k : Int) (l : List Tm) : (but k l).length ≤ l.length := List.length_filter_le _ _
theorem but_mem {k : Int} {l : List Tm} {z : Tm} (h : z ∈ but k l) : z ∈ l := (List.mem_filter.1 h).1
set_option maxHeartbeats 6400000 in
set_option maxRecDepth 100000 in
theorem DeltaStops_ret (A : Option Addr) (c : Nat) (zs : List Int) (at_ : Int) (w : World) (hk : zs.length ≤ 9223372036854775807) (hf : ∀ x ∈ zs, fitB x = true) (hrd : ReadsI w A zs) (hbl : zs ≠ [] → ∀ ad, A = some ad → ad.block < w.heap.size) (h2 : fitB at_ = true) :
    Calls Try.prog 7 #[.slice A zs.length c, .int .i64 at_] w (RetB (.bool true) w) := by
  have A0 := Lib.hid awake_any
  have hat := fit_iff h2
  clear h2 hf
  replace hrd := Lib.hid hrd
  replace hbl := Lib.hid hbl
  obtain ⟨n, hn⟩ : ∃ n : Nat, zs.length = n := ⟨_, rfl⟩
  rw [hn] at hk ⊢
  replace hn := Lib.hid hn
  go_enter Try.func7, Try.ntmps7
  go_wp2_with fail
  refine (A0.out _).mono ?_; rintro e b0w ⟨rfl, b0⟩
  by_cases k1 : (n : Int) < 1
  · go_wp2
    go_ret
    exact ⟨rfl, by have s0 := b0.size; (try simp only [World.heap_drewN, World.size_alloc] at s0); repeat (first | exact Below.refl _ _ | exact b0 | refine Below.trans ?_ (Below.mono b0 (by first | omega | (simp; done) | (simp; omega))) | refine Below.setCell ?_ (by first | omega | (simp; done) | (simp; omega)) _ | refine below_dN ?_ _ | refine Below.drew ?_ | refine Below.alloc ?_ (by first | omega | (simp; done) | (simp; omega)) _)⟩
  have k1' : decide ((n : Int) < 1) = false := decide_eq_false k1
  by_cases k2 : (n : Int) > 20
  · go_wp2
    go_ret
    exact ⟨rfl, by have s0 := b0.size; (try simp only [World.heap_drewN, World.size_alloc] at s0); repeat (first | exact Below.refl _ _ | exact b0 | refine Below.trans ?_ (Below.mono b0 (by first | omega | (simp; done) | (simp; omega))) | refine Below.setCell ?_ (by first | omega | (simp; done) | (simp; omega)) _ | refine below_dN ?_ _ | refine Below.drew ?_ | refine Below.alloc ?_ (by first | omega | (simp; done) | (simp; omega)) _)⟩
  have k2' : decide ((n : Int) > 20) = false := decide_eq_false k2
  by_cases k3 : at_ < 0
  · go_wp2
    go_ret
    exact ⟨rfl, by have s0 := b0.size; (try simp only [World.heap_drewN, World.size_alloc] at s0); repeat (first | exact Below.refl _ _ | exact b0 | refine Below.trans ?_ (Below.mono b0 (by first | omega | (simp; done) | (simp; omega))) | refine Below.setCell ?_ (by first | omega | (simp; done) | (simp; omega)) _ | refine below_dN ?_ _ | refine Below.drew ?_ | refine Below.alloc ?_ (by first | omega | (simp; done) | (simp; omega)) _)⟩
  have k3' : decide (at_ < 0) = false := decide_eq_false k3
  obtain ⟨kk, hkk⟩ : ∃ kk : Nat, at_.toNat % n = kk := ⟨_, rfl⟩
  have hkl : kk < n := by rw [← hkk]; exact Nat.mod_lt _ (by omega)
  have k3p : 0 ≤ at_ := by omega
  have e1 : at_ % (n : Int) = (kk : Int) := by
    obtain ⟨m, rfl⟩ := Int.eq_ofNat_of_zero_le k3p
    rw [← hkk]
    simp
  have e0 : at_.tmod (n : Int) = (kk : Int) := by rw [Int.tmod_eq_emod_of_nonneg k3p, e1]
  have e2 : ¬ (n : Int) = 0 := by omega
  have e3 : ((n : Int) == 0) = false := by simp; omega
  clear hkk
  go_wp2_with fail
  refine (qnew (fun _ => 0) 1 _ 50 (by decide) (by decide)).mono ?_
  rintro e w1 ⟨rfl, o1, v1, s1, h1⟩
  have l1 := ((Lw.start w).on b0).step s1 (by decide)
  clear b0 s1
  generalize b0w.heap.size = a at *
  go_wp2_with fail
  refine (qnew o1 2 _ 50 (by decide) (by decide)).mono ?_
  rintro e w2 ⟨rfl, o2, v2, s2, h2⟩
  have l2 := l1.step s2 (by decide)
  replace h1 := h1.step s2 (by decide)
  clear l1 s2
  generalize w1.heap.size = b at *
  go_wp2
  clear e0 e1 e2 e3
  go_loopw [10] (fun st wr => ∃ (i : Nat) (o : Nat → Nat) (v u : Value), st = .int .i64 (i : Int) ∧ i ≤ n ∧ Qu o 1 wr a 50 0 v (tmsTo zs i) ∧ Qu o 2 wr b 50 0 u (but kk (tmsTo zs i)) ∧ QInv 50 0 (tmsTo zs i) ∧ QInv 50 0 (but kk (tmsTo zs i)) ∧ Lw w o wr) (fun st _ => n - (intOf st).toNat)
  case atStart => exact ⟨0, o2, v1, v2, rfl, by omega, h1, h2, QInv.start (by decide) (by decide), QInv.start (by decide) (by decide), l2⟩
  case round =>
    obtain ⟨i, o, v, u, rfl, hi, hA, hB, vA, vB, lw⟩ := hrel
    clear h1 h2 l2
    rcases Nat.lt_or_ge i n with hlt | hge
    · obtain ⟨b', off', rfl, hcell0⟩ := hrd.out i (by have := hn.out; omega)
      have hbw : b' < w.heap.size := cell_lt hcell0
      have hcell : wr.cell? ⟨b', off' + i, none⟩ = some (.int .i64 (zs.getD i 0)) := by rw [lw.below.cell (p := ⟨b', off' + i, none⟩) hbw]; exact hcell0
      have hsu := tmsTo_succ zs i
      have hbu := but_succ zs i kk
      generalize hgx : zs.getD i 0 = x at *
      by_cases x1 : x < 1
      · replace lw := Lib.hid lw
        clear hA hB vA vB hsu hbu hcell0
        go_wp2
        go_ret
        exact ⟨rfl, lw.out.below⟩
      have x1' : decide (x < 1) = false := decide_eq_false x1
      by_cases x2 : x > 100
      · replace lw := Lib.hid lw
        clear hA hB vA vB hsu hbu hcell0
        go_wp2
        go_ret
        exact ⟨rfl, lw.out.below⟩
      have x2' : decide (x > 100) = false := decide_eq_false x2
      have sA := set_new (room := 50) (now := ((0 : Nat) : Int)) (after := x) (tmsTo_new zs i) (by rw [tmsTo_len]; omega) (by omega) (by omega)
      have sB := set_new (room := 50) (now := ((0 : Nat) : Int)) (after := x) (id := (i : Int)) (l := but kk (tmsTo zs i)) (fun z hz => tmsTo_new zs i z (but_mem hz)) (Nat.lt_of_le_of_lt (but_len _ _) (by rw [tmsTo_len]; omega)) (by omega) (by omega)
      have wA := vA.set (i : Int) x
      have wB := vB.set (i : Int) x
      rw [sA.2] at wA
      rw [sB.2] at wB
      have hz : ((0 : Nat) : Int) + x = x := by simp
      rw [hz, ← hsu] at sA
      rw [hz, ← hsu] at wA
      rw [hz] at sB wB
      have C1 := Lib.hid (qset (i : Int) x _ _ hA vA (by decide) sA.1 sA.2)
      have D := Lib.hid hcell0
      clear hcell0
      have F := Lib.hid (And.intro hB (And.intro wA lw))
      have FV := Lib.hid vA
      clear hA vA wA hB lw sA
      go_wp2_with fail
      refine C1.out.mono ?_
      rintro e w3 ⟨rfl, o3, v3, s3, h3⟩
      obtain ⟨hB, wA, lw⟩ := F.out
      have hB3 := hB.step s3 (by decide)
      have lw3 := lw.step s3 (by decide)
      have hcell3 : w3.cell? ⟨b', off' + i, none⟩ = some (.int .i64 x) := by rw [lw3.below.cell (p := ⟨b', off' + i, none⟩) hbw]; exact D.out
      have C2 := Lib.hid (qset (i : Int) x _ _ hB3 vB (by decide) sB.1 sB.2)
      have G := Lib.hid (And.intro h3 (And.intro hB3 (And.intro wA (And.intro vB (And.intro wB lw3)))))
      clear h3 hB3 wA vB wB lw3 hB lw F s3 C1 sB hz hcell
      by_cases hik : (i : Int) = (kk : Int)
      · rw [if_pos hik] at hbu
        have q : ((i : Int) != (kk : Int)) = false := by simp [hik]
        clear C2 hik
        go_wp2
        go_roundw
        case rel =>
          obtain ⟨h3, hB3, wA, vB, wB, lw3⟩ := G.out
          exact ⟨i + 1, o3, v3, u, by simp, by omega, h3, by rw [hbu]; exact hB3, wA, by rw [hbu]; exact vB, lw3⟩
        case measure => simp [intOf]; omega
      · rw [if_neg hik] at hbu
        have q : ((i : Int) != (kk : Int)) = true := by simp [hik]
        go_wp2_with fail
        refine C2.out.mono ?_
        rintro e w4 ⟨rfl, o4, v4, s4, h4⟩
        obtain ⟨h3, hB3, wA, vB, wB, lw3⟩ := G.out
        have K := Lib.hid (And.intro (h3.step s4 (by decide)) (And.intro h4 (And.intro wA (And.intro wB (lw3.step s4 (by decide))))))
        clear h3 hB3 wA vB wB lw3 h4 s4 C2 G
        go_wp2
        go_roundw
        case rel =>
          obtain ⟨h3, h4, wA, wB, lw4⟩ := K.out
          exact ⟨i + 1, o4, v3, v4, by simp, by omega, h3, by rw [hbu]; exact h4, wA, by rw [hbu]; exact wB, lw4⟩
        case measure => simp [intOf]; omega
    · obtain rfl : i = n := by omega
      have hst := stop_filter vA.ids (y := ((kk : Int), zs.getD kk 0)) (tmsTo_mem.2 ⟨kk, hkl, rfl⟩)
      have hL : stopL (tmsTo zs i) (kk : Int) = but kk (tmsTo zs i) := hst.2
      have C1 := Lib.hid (qstop (kk : Int) true _ hA (by rw [tmsTo_len]; omega) hst.1 hL)
      generalize but kk (tmsTo zs i) = L at *
      have F := Lib.hid (And.intro hB (And.intro vB lw))
      clear hA hB vA vB lw hst hL
      go_wp2_with fail
      refine C1.out.mono ?_
      rintro e w3 ⟨rfl, o3, v3, s3, h3⟩
      obtain ⟨hB, vB, lw⟩ := F.out
      have G := Lib.hid (And.intro h3 (And.intro (hB.step s3 (by decide)) (And.intro vB (lw.step s3 (by decide)))))
      clear h3 hB vB lw s3 F C1
      go_wp2
      go_loopw [11] (fun st wr => ∃ (t : Nat) (o : Nat → Nat) (v u : Value) (l : List Tm), st = .int .i64 (t : Int) ∧ t ≤ 100 ∧ Qu o 1 wr a 50 t v l ∧ Qu o 2 wr b 50 t u l ∧ QInv 50 t l ∧ Lw w o wr) (fun st _ => 100 - (intOf st).toNat)
      case atStart => exact ⟨0, o3, v3, u, L, rfl, by omega, G.out.1, G.out.2.1, G.out.2.2.1, G.out.2.2.2⟩
      case round =>
        clear G
        obtain ⟨t, o4, v4, u4, l4, rfl, ht, hA, hB, hv, lw⟩ := hrel
        rcases Nat.lt_or_ge t 100 with htl | htg
        · obtain ⟨R, hR⟩ : ∃ R, tickR t l4 = R := ⟨_, rfl⟩
          obtain ⟨L5, hL5⟩ : ∃ L5, tickL t l4 = L5 := ⟨_, rfl⟩
          have hRl : R.length ≤ 1000 := by
            rw [← hR]; unfold tickR; rw [List.length_map]
            exact Nat.le_trans (List.length_filter_le _ _) (Nat.le_trans hv.le hv.room2)
          have hv5 : QInv 50 (t + 1) L5 := hL5 ▸ hv.tick
          have htl' : (t : Int) < 100 := by omega
          have C1 := Lib.hid (qticks 3 R L5 (by decide) hA hv (by omega) hR hL5)
          have C2 := Lib.hid (fun (o' : Nat → Nat) (w' : World) (h' : Qu o' 2 w' b 50 t u4 l4) => qticks 4 R L5 (by decide) h' hv (by omega) hR hL5)
          have F := Lib.hid (And.intro hB (And.intro hv5 lw))
          clear hA hB hv hv5 lw hR hL5
          go_wp2_with fail
          refine C1.out.mono ?_
          rintro e w5 ⟨A5, c5, rfl, o5, v5, s5, h5, r5⟩
          obtain ⟨hB, hv5, lw⟩ := F.out
          replace C2 := Lib.hid (C2.out o5 w5 (hB.step s5 (by decide)))
          have G := Lib.hid (And.intro h5 (And.intro r5 (And.intro hv5 (lw.step s5 (by decide)))))
          clear h5 r5 hv5 lw s5 hB F C1
          go_wp2_with fail
          refine C2.out.mono ?_
          rintro e w6 ⟨A6, c6, rfl, o6, v6, s6, h6, r6⟩
          obtain ⟨h5, r5, hv5, lw5⟩ := G.out
          have C3 := Lib.hid (ints_rows hRl (r5.step s6 (by decide)) r6)
          have K := Lib.hid (And.intro (h5.step s6 (by decide)) (And.intro h6 (And.intro hv5 (lw5.step s6 (by decide)))))
          clear h5 r5 hv5 lw5 h6 r6 s6 G C2
          go_wp2_with fail
          refine C3.out.mono ?_
          rintro e w7 ⟨rfl, n7, rfl⟩
          clear C3
          go_wp2
          go_roundw
          case rel => exact ⟨t + 1, o6, v5, v6, L5, by simp, by omega, K.out.1.drewN _, K.out.2.1.drewN _, K.out.2.2.1, K.out.2.2.2.drewN _⟩
          case measure => simp [intOf]; omega
        · obtain rfl : t = 100 := by omega
          replace lw := Lib.hid lw
          clear hA hB hv
          go_wp2
          go_ret
          exact ⟨rfl, lw.out.below⟩
end Go.Proofs.Ytbejmboedjfllaa
