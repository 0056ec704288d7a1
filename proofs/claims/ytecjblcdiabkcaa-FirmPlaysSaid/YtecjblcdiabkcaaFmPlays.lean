/- FirmPlays. -/
import Derived.Test.YtecjblcdiabkcaaFmLaws
namespace Go.Proofs.Ytecjblcdiabkcaa
open Go.RowKit
set_option linter.unusedVariables false
set_option linter.unusedSimpArgs false

/-- The program's monitor and the document's, alike. -/
def Two (w : World) (o : Nat → Nat) (wr : World) (a b m k : Nat) (v : Value) (L : List Bool) : Prop :=
  Fw o 1 wr a m k L ∧ Rm o 2 wr b m k v L ∧ Lw w o wr
theorem Two.on {w : World} {o : Nat → Nat} {wr w' : World} {a b m k : Nat} {v : Value} {L : List Bool} (h : Two w o wr a b m k v L) (hb : Below wr.heap.size wr w') : Two w o w' a b m k v L :=
  ⟨h.1.below hb, h.2.1.below hb, h.2.2.on hb⟩
set_option maxHeartbeats 6400000 in
set_option maxRecDepth 100000 in
theorem FirmPlays_ret (m k : Int) (A : Option Addr) (cp : Nat) (l : List Bool) (n : Int) (w : World) (f1 : fitB m = true) (f2 : fitB k = true) (hlc : l.length ≤ cp) (hcm : cp ≤ 9223372036854775807) (hrd : RdB w A l) (f3 : fitB n = true) :
    Calls Try.prog 4 #[.int .i64 m, .int .i64 k, .slice A l.length cp, .int .i64 n] w (RetB (.bool true) w) := by
  have A0 := Lib.hid (awake16_any w)
  clear f1 f2 f3
  replace hrd := Lib.hid hrd
  obtain ⟨N, hN⟩ : ∃ N : Nat, l.length = N := ⟨_, rfl⟩
  rw [hN] at hlc ⊢
  replace hN := Lib.hid hN
  go_enter Try.func4, Try.ntmps4
  go_wp2_with fail
  refine (A0.out).mono ?_; rintro e b0w ⟨rfl, b0⟩
  by_cases bad : k < 1 ∨ 64 < k ∨ m < 0 ∨ k < m
  · go_wp2_with fail
    refine (wnew_bad _ m k bad).mono ?_
    rintro e w1 ⟨rfl, hb1⟩
    have b1 := Lib.hid (below_on b0 hb1)
    clear b0 hb1
    by_cases k1 : k < 1
    · go_wp2
      go_ret
      exact ⟨rfl, b1.out⟩
    have k1' : decide (k < 1) = false := decide_eq_false k1
    by_cases k2 : k > 64
    · go_wp2
      go_ret
      exact ⟨rfl, b1.out⟩
    have k2' : decide (k > 64) = false := decide_eq_false k2
    by_cases k3 : m < 0
    · go_wp2
      go_ret
      exact ⟨rfl, b1.out⟩
    have k3' : decide (m < 0) = false := decide_eq_false k3
    by_cases k4 : m > k
    · go_wp2
      go_ret
      exact ⟨rfl, b1.out⟩
    have k4' : decide (m > k) = false := decide_eq_false k4
    exfalso; omega
  obtain ⟨k, rfl⟩ : ∃ n : Nat, k = n := ⟨k.toNat, by omega⟩
  obtain ⟨m, rfl⟩ : ∃ n : Nat, m = n := ⟨m.toNat, by omega⟩
  have hk1 : 1 ≤ k := by omega
  have hk9 : k ≤ 64 := by omega
  have hmk : m ≤ k := by omega
  have z1 : decide ((k : Int) < 1) = false := decide_eq_false (by omega)
  have z2 : decide ((k : Int) > 64) = false := decide_eq_false (by omega)
  have z3 : decide ((m : Int) < 0) = false := decide_eq_false (by omega)
  have z4 : decide ((m : Int) > (k : Int)) = false := decide_eq_false (by omega)
  have z5 : decide (k < m) = false := decide_eq_false (by omega)
  clear bad
  go_wp2_with fail
  refine (wnew (fun _ => 0) 1 _ m k (by omega) (by omega) (by omega)).mono ?_
  rintro e w1 ⟨a, rfl, o1, st, h1⟩
  have l1 := ((Lw.start w).on b0).step st (by decide)
  clear st b0
  by_cases k5 : (N : Int) > 100
  · have L := Lib.hid l1.below
    clear h1 l1
    go_wp2
    go_ret
    exact ⟨rfl, L.out⟩
  have k5' : decide ((N : Int) > 100) = false := decide_eq_false k5
  have F : Hid (Two w (tag o1 w1.heap.size 2) (w1.alloc (.cells #[.int .i64 (m : Int), .int .i64 (k : Int), .slice none 0 0] 34)) a w1.heap.size m k (.slice none 0 0) []) :=
    ⟨h1.alloc _ 2, ⟨Blk.made o1 2 w1 _ _, Row.nil _ _ _ _ _⟩, l1.alloc _ 2⟩
  have hN9 : N ≤ 100 := by omega
  clear h1 l1
  go_wp2
  clear z1 z2 z3 z4 z5 k5 k5'
  generalize w1.alloc (.cells #[.int .i64 (m : Int), .int .i64 (k : Int), .slice none 0 0] 34) = w2 at *
  generalize tag o1 w1.heap.size 2 = o2 at *
  generalize w1.heap.size = b at *
  go_loopw [12] (fun s12 wr => ∃ (i : Nat) (o : Nat → Nat) (v : Value), s12 = .int .i64 (i : Int) ∧ i ≤ N ∧ Hid (Two w o wr a b m k v (l.take i))) (fun st _ => N - (intOf st).toNat)
  case atStart => exact ⟨0, o2, _, rfl, by omega, by simpa using F⟩
  case round =>
    obtain ⟨i, o, v, rfl, hi, G⟩ := hrel
    clear F
    rcases Nat.lt_or_ge i N with hlt | hge
    · obtain ⟨x, hx⟩ : ∃ x, l[i]? = some x := ⟨_, List.getElem?_eq_getElem (by rw [hN.out]; exact hlt)⟩
      have q1 : (i : Int) < (N : Int) := by omega
      have q2 : (0 : Int) ≤ (i : Int) := by omega
      obtain ⟨r, hr⟩ : ∃ r, addB m k (l.take (i + 1)) = r := ⟨_, rfl⟩
      have l1 : (l.take i).length ≤ 900 := by rw [take_len (by rw [hN.out]; omega)]; omega
      have l2 : (l.take (i + 1)).length = i + 1 := take_len (by rw [hN.out]; omega)
      have t1 : l.take i ++ [x] = l.take (i + 1) := (take_nextB hx).symm
      have C1 := Lib.hid (fun w' (h' : Two w o w' a b m k v (l.take i)) => wadd x r _ h'.1 l1 t1 hr)
      have C2 := Lib.hid (fun o' w' (h' : Rm o' 2 w' b m k v (l.take i)) => rmadd x r _ h' l1 (by omega) hk1 hk9 t1 hr)
      have R := Lib.hid (fun w' (hb : Below w.heap.size w w') => hrd.out.at_ hb hx)
      obtain ⟨La, hLa⟩ : ∃ La, l.take (i + 1) = La := ⟨_, rfl⟩
      rw [hLa] at C1 C2 l2
      have HL := Lib.hid hLa
      clear hx hr l1 t1 hLa
      obtain ⟨g, off, rfl, d0⟩ := R.out wr G.out.2.2.below
      replace R := Lib.hid (fun w' (hb : Below w.heap.size w w') => show w'.cell? ⟨g, off + i, none⟩ = some (.bool x) by
        obtain ⟨_, _, hBB, d⟩ := R.out w' hb
        cases hBB
        exact d)
      go_wp2_with fail
      refine wp_region_held_drew (S := fun W => W.cell? ⟨g, off + i, none⟩ = some (.bool x)) (by kernel_rfl) d0 (fun hHeld => ?_)
      refine wpAnyH_take (i := 0) (v := (.pointer (some ⟨a, 0, none⟩))) rfl (by kernel_rfl) (by kernel_rfl) (by kernel_rfl) (fun _ _ _ h => h) (Or.inl ⟨by rfl, ?_⟩) hHeld ?_
      · intro w hSw; go_simp
      try simp only [List.getElem_toArray, List.getElem_cons_zero, List.getElem_cons_succ, Act.put, List.setIfInBounds_toArray, List.set_cons_zero, List.set_cons_succ]
      refine wpAnyH_take (i := 1) (v := (.slice (some ⟨g, off, none⟩) N cp)) rfl (by kernel_rfl) (by kernel_rfl) (by kernel_rfl) (fun _ _ _ h => h) (Or.inl ⟨by rfl, ?_⟩) hHeld ?_
      · intro w hSw; go_simp
      try simp only [List.getElem_toArray, List.getElem_cons_zero, List.getElem_cons_succ, Act.put, List.setIfInBounds_toArray, List.set_cons_zero, List.set_cons_succ]
      refine wpAnyH_take (i := 2) (v := (.int .i64 (i : Int))) rfl (by kernel_rfl) (by kernel_rfl) (by kernel_rfl) (fun _ _ _ h => h) (Or.inl ⟨by rfl, ?_⟩) hHeld ?_
      · intro w hSw; go_simp
      try simp only [List.getElem_toArray, List.getElem_cons_zero, List.getElem_cons_succ, Act.put, List.setIfInBounds_toArray, List.set_cons_zero, List.set_cons_succ]
      refine wpAnyH_take (i := 3) (v := (.pointer (some ⟨g, off + i, none⟩))) rfl (by kernel_rfl) (by kernel_rfl) (by kernel_rfl) (fun _ _ _ h => h) (Or.inl ⟨by rfl, ?_⟩) hHeld ?_
      · intro w hSw; go_simp
      try simp only [List.getElem_toArray, List.getElem_cons_zero, List.getElem_cons_succ, Act.put, List.setIfInBounds_toArray, List.set_cons_zero, List.set_cons_succ]
      refine wpAnyH_take (i := 4) (v := (.bool x)) rfl (by kernel_rfl) (by kernel_rfl) (by kernel_rfl) (fun _ _ _ h => h) (Or.inl ⟨by rfl, ?_⟩) hHeld ?_
      · intro w hSw; obtain s0 := hSw; go_simp
      try simp only [List.getElem_toArray, List.getElem_cons_zero, List.getElem_cons_succ, Act.put, List.setIfInBounds_toArray, List.set_cons_zero, List.set_cons_succ]
      refine wpAnyH_take (i := 6) (v := (.pointer (some ⟨b, 0, none⟩))) rfl (by kernel_rfl) (by kernel_rfl) (by kernel_rfl) (fun _ _ _ h => h) (Or.inl ⟨by rfl, ?_⟩) hHeld ?_
      · intro w hSw; go_simp
      try simp only [List.getElem_toArray, List.getElem_cons_zero, List.getElem_cons_succ, Act.put, List.setIfInBounds_toArray, List.set_cons_zero, List.set_cons_succ]
      refine wpAnyH_take (i := 7) (v := (.slice (some ⟨g, off, none⟩) N cp)) rfl (by kernel_rfl) (by kernel_rfl) (by kernel_rfl) (fun _ _ _ h => h) (Or.inl ⟨by rfl, ?_⟩) hHeld ?_
      · intro w hSw; go_simp
      try simp only [List.getElem_toArray, List.getElem_cons_zero, List.getElem_cons_succ, Act.put, List.setIfInBounds_toArray, List.set_cons_zero, List.set_cons_succ]
      refine wpAnyH_take (i := 8) (v := (.int .i64 (i : Int))) rfl (by kernel_rfl) (by kernel_rfl) (by kernel_rfl) (fun _ _ _ h => h) (Or.inl ⟨by rfl, ?_⟩) hHeld ?_
      · intro w hSw; go_simp
      try simp only [List.getElem_toArray, List.getElem_cons_zero, List.getElem_cons_succ, Act.put, List.setIfInBounds_toArray, List.set_cons_zero, List.set_cons_succ]
      refine wpAnyH_take (i := 9) (v := (.pointer (some ⟨g, off + i, none⟩))) rfl (by kernel_rfl) (by kernel_rfl) (by kernel_rfl) (fun _ _ _ h => h) (Or.inl ⟨by rfl, ?_⟩) hHeld ?_
      · intro w hSw; go_simp
      try simp only [List.getElem_toArray, List.getElem_cons_zero, List.getElem_cons_succ, Act.put, List.setIfInBounds_toArray, List.set_cons_zero, List.set_cons_succ]
      refine wpAnyH_take (i := 10) (v := (.bool x)) rfl (by kernel_rfl) (by kernel_rfl) (by kernel_rfl) (fun _ _ _ h => h) (Or.inl ⟨by rfl, ?_⟩) hHeld ?_
      · intro w hSw; obtain s0 := hSw; go_simp
      try simp only [List.getElem_toArray, List.getElem_cons_zero, List.getElem_cons_succ, Act.put, List.setIfInBounds_toArray, List.set_cons_zero, List.set_cons_succ]
      refine wpAnyH_ready (rs := [5]) (by kernel_rfl) (by simp) ?_
      refine AllReadyH.cons rfl (fun K hK => ?_) AllReadyH.nil
      clear hHeld
      go_simp
      refine (C1.out _ (G.out.on (below_dN (Below.refl _ _) 1))).mono ?_
      rintro e w4 ⟨rfl, o4, st, h4⟩
      have T1 := Lib.hid (And.intro h4 (And.intro ((G.out.2.1.drewN 1).step st (by decide)) ((G.out.2.2.drewN 1).step st (by decide))))
      clear C1 st h4 d0 G
      refine hK.out _ _ (R.out w4 T1.out.2.2.below) (fun hHeld => ?_)
      clear hK K
      try simp only [List.getElem_toArray, List.getElem_cons_zero, List.getElem_cons_succ, Act.put, List.setIfInBounds_toArray, List.set_cons_zero, List.set_cons_succ]
      refine wpAnyH_ready (rs := [11]) (by kernel_rfl) (by simp) ?_
      refine AllReadyH.cons rfl (fun K hK => ?_) AllReadyH.nil
      clear hHeld
      go_simp
      refine (C2.out _ _ T1.out.2.1).mono ?_
      rintro e w5 ⟨rfl, o5, v5, st, h5⟩
      have T2 : Hid (Two w o5 w5 a b m k v5 La) := ⟨T1.out.1.step st (by decide), h5, T1.out.2.2.step st (by decide)⟩
      clear C2 st h5 T1
      refine hK.out _ _ (R.out w5 T2.out.2.2.below) (fun hHeld => ?_)
      clear hK K
      try simp only [List.getElem_toArray, List.getElem_cons_zero, List.getElem_cons_succ, Act.put, List.setIfInBounds_toArray, List.set_cons_zero, List.set_cons_succ]
      refine wpAnyH_take (i := 12) (v := (.bool false)) rfl (by kernel_rfl) (by kernel_rfl) (by kernel_rfl) (fun _ _ _ h => h) (Or.inl ⟨by rfl, ?_⟩) hHeld ?_
      · intro w hSw; go_simp
      try simp only [List.getElem_toArray, List.getElem_cons_zero, List.getElem_cons_succ, Act.put, List.setIfInBounds_toArray, List.set_cons_zero, List.set_cons_succ]
      refine wpAnyH_done (by kernel_rfl) ?_ _
      clear hHeld R
      obtain ⟨q, hq⟩ : ∃ q, wstV k La = q := ⟨_, rfl⟩
      obtain ⟨r2, hr2⟩ : ∃ r, wstB k La = r := ⟨_, rfl⟩
      obtain ⟨mv, hmv⟩ : ∃ r, mayB m k La (mayN n) = r := ⟨_, rfl⟩
      have lL : La.length ≤ 700 := by rw [l2]; omega
      have C1 := Lib.hid (wworst q r2 T2.out.1 (by omega) hq hr2)
      have C2 := Lib.hid (fun j => rmworst q r2 (T2.out.2.1.drewN j) (by omega) hk1 hk9 hq hr2)
      have C3 := Lib.hid (fun w' (h' : Two w o5 w' a b m k v5 La) => wmay n mv h'.1 lL hmv)
      have C4 := Lib.hid (fun w' (h' : Two w o5 w' a b m k v5 La) => rmmay n mv h'.2.1 lL (by omega) hk1 hk9 hmv)
      have e1 : (r2 != r2) = false := by simp
      have e2 : ((q : Int) != (q : Int)) = false := by simp
      have e3 : (mv != mv) = false := by simp
      clear hq hr2 hmv lL l2
      go_wp2_with fail
      refine C1.out.mono ?_
      rintro e w6 ⟨rfl, n6, rfl⟩
      go_wp2_with fail
      refine (C2.out n6).mono ?_
      rintro e w7 ⟨rfl, n7, rfl⟩
      have T3 := Lib.hid (T2.out.on (below_dN (below_dN (Below.refl _ _) n6) n7))
      generalize (w5.drewN n6).drewN n7 = w8 at *
      clear C1 C2 T2
      go_wp2_with fail
      refine (C3.out _ T3.out).mono ?_
      rintro e w9 ⟨rfl, hb9⟩
      replace T3 := Lib.hid (T3.out.on hb9)
      clear C3 hb9
      go_wp2_with fail
      refine (C4.out _ T3.out).mono ?_
      rintro e w10 ⟨rfl, hb10⟩
      replace T3 := Lib.hid (T3.out.on hb10)
      clear C4 hb10
      go_wp2
      go_roundw
      case rel => exact ⟨i + 1, o5, v5, by simp, by omega, by rw [HL.out]; exact T3⟩
      case measure => simp [intOf]; omega
    · obtain rfl : i = N := by omega
      have ea : l.take i = l := List.take_of_length_le (by rw [hN.out]; exact Nat.le_refl _)
      rw [ea] at G
      have lL : l.length ≤ 900 := by rw [hN.out]; omega
      have hbl : (brkI m k l l.length).length ≤ 1000 := by have := brkI_len m k l l.length; omega
      have CA := Lib.hid (wbroken G.out.1 lL)
      have CB := Lib.hid (fun w' (h' : Two w o w' a b m k v l) => rmbroken h'.2.1 lL (by omega) hk1 hk9)
      clear ea lL
      generalize brkI m k l l.length = xs at *
      go_wp2_with fail
      refine CA.out.mono ?_
      rintro e w4 ⟨v1, rfl, own1, hb1⟩
      replace G := Lib.hid (G.out.on hb1)
      have R1 := Row.fresh 1 own1 (fun _ => 0)
      clear own1 hb1 CA
      obtain ⟨A1, c1, rfl⟩ := R1.any
      replace R1 := Lib.hid R1
      go_wp2_with fail
      refine (CB.out _ G.out).mono ?_
      rintro e w5 ⟨v2, rfl, own2, hb2⟩
      replace G := Lib.hid (G.out.on hb2)
      have R2 := Row.fresh 2 own2 (fun _ => 0)
      obtain ⟨A2, c2, rfl⟩ := R2.any
      have C := Lib.hid (ints_any A1 A2 c1 c2 xs w5 hbl (R1.out.rdN.below hb2) R2.rdN R1.out.capsM.1 R2.capsM.1 R1.out.capsM.2 R2.capsM.2)
      clear own2 hb2 CB R1 R2
      go_wp2_with fail
      refine C.out.mono ?_
      rintro e w6 ⟨rfl, n6, rfl⟩
      have L := Lib.hid (below_dN G.out.2.2.below n6)
      clear C G
      go_wp2
      go_ret
      exact ⟨rfl, L.out⟩
end Go.Proofs.Ytecjblcdiabkcaa
