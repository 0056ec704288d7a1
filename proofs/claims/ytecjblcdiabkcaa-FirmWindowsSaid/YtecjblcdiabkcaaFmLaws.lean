/- FirmWindows, FirmMore. -/
import Derived.Test.YtecjblcdiabkcaaFmAwake
import Derived.Test.YtecjblcdiabkcaaBools
namespace Go.Proofs.Ytecjblcdiabkcaa
open Go.RowKit
set_option linter.unusedVariables false
set_option linter.unusedSimpArgs false

/-- A row with one more met, where it is. -/
def orL (at_ : Int) (l : List Bool) (i : Nat) : List Bool := (List.range i).map fun j => (l.getD j false || ((j : Int) == at_))
theorem orL_len (at_ : Int) (l : List Bool) (i : Nat) : (orL at_ l i).length = i := by simp [orL]
theorem orL_next {at_ : Int} {l : List Bool} {i : Nat} {x : Bool} (hx : l[i]? = some x) : orL at_ l (i + 1) = orL at_ l i ++ [x || ((i : Int) == at_)] := by
  unfold orL
  rw [List.range_succ, List.map_append, List.map_singleton, List.getD_eq_getElem?_getD, hx]; rfl
theorem orL_leq (at_ : Int) (l : List Bool) : ∀ {i}, i ≤ l.length → Leq (l.take i) (orL at_ l i)
  | 0, _ => Leq.nil
  | i + 1, h => by
    have hx : l[i]? = some l[i] := List.getElem?_eq_getElem (by omega)
    rw [take_nextB hx, orL_next hx]
    exact (orL_leq at_ l (i := i) (by omega)).snoc (fun h => by rw [h]; rfl)
/-- Three monitors side by side. -/
def Tri (w : World) (o : Nat → Nat) (wr : World) (a b c m k : Nat) (L L2 : List Bool) : Prop :=
  Fw o 1 wr a (m + 1) k L ∧ Fw o 2 wr b (m + 1) k L2 ∧ Fw o 3 wr c m k L ∧ Lw w o wr
theorem Tri.on {w : World} {o : Nat → Nat} {wr w' : World} {a b c m k : Nat} {L L2 : List Bool} (h : Tri w o wr a b c m k L L2) (hb : Below wr.heap.size wr w') : Tri w o w' a b c m k L L2 :=
  ⟨h.1.below hb, h.2.1.below hb, h.2.2.1.below hb, h.2.2.2.on hb⟩
theorem take_len {l : List Bool} {i : Nat} (h : i ≤ l.length) : (l.take i).length = i := by rw [List.length_take]; omega
set_option maxHeartbeats 6400000 in
set_option maxRecDepth 100000 in
theorem FirmMore_ret (m k : Int) (A : Option Addr) (cp : Nat) (l : List Bool) (at_ : Int) (w : World) (f1 : fitB m = true) (f2 : fitB k = true) (hlc : l.length ≤ cp) (hcm : cp ≤ 9223372036854775807) (hrd : RdB w A l) (f3 : fitB at_ = true) :
    Calls Try.prog 5 #[.int .i64 m, .int .i64 k, .slice A l.length cp, .int .i64 at_] w (RetB (.bool true) w) := by
  have A0 := Lib.hid (awake16_any w)
  clear f1 f2 f3
  replace hrd := Lib.hid hrd
  obtain ⟨N, hN⟩ : ∃ N : Nat, l.length = N := ⟨_, rfl⟩
  rw [hN] at hlc ⊢
  replace hN := Lib.hid hN
  go_enter Try.func5, Try.ntmps5
  go_wp2_with fail
  refine (A0.out).mono ?_; rintro e b0w ⟨rfl, b0⟩
  by_cases k1 : k < 1
  · go_wp2
    go_ret
    exact ⟨rfl, by have s0 := b0.size; (try simp only [World.heap_drewN, World.size_alloc] at s0); repeat (first | exact Below.refl _ _ | exact b0 | refine Below.trans ?_ (Below.mono b0 (by first | omega | (simp; done) | (simp; omega))) | refine Below.setCell ?_ (by first | omega | (simp; done) | (simp; omega)) _ | refine below_dN ?_ _ | refine Below.drew ?_ | refine Below.alloc ?_ (by first | omega | (simp; done) | (simp; omega)) _)⟩
  have k1' : decide (k < 1) = false := decide_eq_false k1
  by_cases k2 : k > 64
  · go_wp2
    go_ret
    exact ⟨rfl, by have s0 := b0.size; (try simp only [World.heap_drewN, World.size_alloc] at s0); repeat (first | exact Below.refl _ _ | exact b0 | refine Below.trans ?_ (Below.mono b0 (by first | omega | (simp; done) | (simp; omega))) | refine Below.setCell ?_ (by first | omega | (simp; done) | (simp; omega)) _ | refine below_dN ?_ _ | refine Below.drew ?_ | refine Below.alloc ?_ (by first | omega | (simp; done) | (simp; omega)) _)⟩
  have k2' : decide (k > 64) = false := decide_eq_false k2
  by_cases k3 : m < 1
  · go_wp2
    go_ret
    exact ⟨rfl, by have s0 := b0.size; (try simp only [World.heap_drewN, World.size_alloc] at s0); repeat (first | exact Below.refl _ _ | exact b0 | refine Below.trans ?_ (Below.mono b0 (by first | omega | (simp; done) | (simp; omega))) | refine Below.setCell ?_ (by first | omega | (simp; done) | (simp; omega)) _ | refine below_dN ?_ _ | refine Below.drew ?_ | refine Below.alloc ?_ (by first | omega | (simp; done) | (simp; omega)) _)⟩
  have k3' : decide (m < 1) = false := decide_eq_false k3
  by_cases k4 : m > k
  · go_wp2
    go_ret
    exact ⟨rfl, by have s0 := b0.size; (try simp only [World.heap_drewN, World.size_alloc] at s0); repeat (first | exact Below.refl _ _ | exact b0 | refine Below.trans ?_ (Below.mono b0 (by first | omega | (simp; done) | (simp; omega))) | refine Below.setCell ?_ (by first | omega | (simp; done) | (simp; omega)) _ | refine below_dN ?_ _ | refine Below.drew ?_ | refine Below.alloc ?_ (by first | omega | (simp; done) | (simp; omega)) _)⟩
  have k4' : decide (m > k) = false := decide_eq_false k4
  by_cases k5 : (N : Int) > 100
  · go_wp2
    go_ret
    exact ⟨rfl, by have s0 := b0.size; (try simp only [World.heap_drewN, World.size_alloc] at s0); repeat (first | exact Below.refl _ _ | exact b0 | refine Below.trans ?_ (Below.mono b0 (by first | omega | (simp; done) | (simp; omega))) | refine Below.setCell ?_ (by first | omega | (simp; done) | (simp; omega)) _ | refine below_dN ?_ _ | refine Below.drew ?_ | refine Below.alloc ?_ (by first | omega | (simp; done) | (simp; omega)) _)⟩
  have k5' : decide ((N : Int) > 100) = false := decide_eq_false k5
  by_cases k6 : at_ < 0
  · go_wp2
    go_ret
    exact ⟨rfl, by have s0 := b0.size; (try simp only [World.heap_drewN, World.size_alloc] at s0); repeat (first | exact Below.refl _ _ | exact b0 | refine Below.trans ?_ (Below.mono b0 (by first | omega | (simp; done) | (simp; omega))) | refine Below.setCell ?_ (by first | omega | (simp; done) | (simp; omega)) _ | refine below_dN ?_ _ | refine Below.drew ?_ | refine Below.alloc ?_ (by first | omega | (simp; done) | (simp; omega)) _)⟩
  have k6' : decide (at_ < 0) = false := decide_eq_false k6
  obtain ⟨k, rfl⟩ : ∃ n : Nat, k = n := ⟨k.toNat, by omega⟩
  obtain ⟨m, rfl⟩ : ∃ n : Nat, m = n + 1 := ⟨(m - 1).toNat, by omega⟩
  go_wp2_with fail
  refine (wnew (fun _ => 0) 1 _ (m + 1) k (by omega) (by omega) (by omega)).mono ?_
  rintro e w1 ⟨a, rfl, o1, st, h1⟩
  have F1 := Lib.hid (And.intro h1 (((Lw.start w).on b0).step st (by decide)))
  clear h1 st b0
  go_wp2_with fail
  refine (wnew o1 2 w1 (m + 1) k (by omega) (by omega) (by omega)).mono ?_
  rintro e w2 ⟨b, rfl, o2, st, h2⟩
  have F2 := Lib.hid (And.intro (F1.out.1.step st (by decide)) (And.intro h2 (F1.out.2.step st (by decide))))
  clear h2 st F1
  have e1 : ((m + 1 : Nat) : Int) - 1 = (m : Int) := by omega
  have e2 : (m : Int) + 1 - 1 = (m : Int) := by omega
  go_wp2_with fail
  refine (wnew o2 3 w2 m k (by omega) (by omega) (by omega)).mono ?_
  rintro e w3 ⟨c, rfl, o3, st, h3⟩
  have F : Hid (Tri w o3 w3 a b c m k [] []) := ⟨F2.out.1.step st (by decide), F2.out.2.1.step st (by decide), h3, F2.out.2.2.step st (by decide)⟩
  clear h3 st F2 e1 e2
  have hN9 : N ≤ 100 := by omega
  clear k1 k2 k3 k4 k5 k6
  go_wp2
  go_loopw [15] (fun s15 wr => ∃ (i : Nat) (o : Nat → Nat), s15 = .int .i64 (i : Int) ∧ i ≤ N ∧ Hid (Tri w o wr a b c m k (l.take i) (orL at_ l i))) (fun st _ => N - (intOf st).toNat)
  case atStart => exact ⟨0, o3, rfl, by omega, by simpa [orL] using F⟩
  case round =>
    obtain ⟨i, o, rfl, hi, G⟩ := hrel
    clear F
    rcases Nat.lt_or_ge i N with hlt | hge
    · obtain ⟨x, hx⟩ : ∃ x, l[i]? = some x := ⟨_, List.getElem?_eq_getElem (by rw [hN.out]; exact hlt)⟩
      obtain ⟨g, off, rfl, d0⟩ := hrd.out.at_ G.out.2.2.2.below hx
      have q1 : (i : Int) < (N : Int) := by omega
      have q2 : (0 : Int) ≤ (i : Int) := by omega
      obtain ⟨Y, hY⟩ : ∃ Y, (x || ((i : Int) == at_)) = Y := ⟨_, rfl⟩
      obtain ⟨ra, hra⟩ : ∃ r, addB (m + 1) k (l.take (i + 1)) = r := ⟨_, rfl⟩
      obtain ⟨rb, hrb⟩ : ∃ r, addB (m + 1) k (orL at_ l (i + 1)) = r := ⟨_, rfl⟩
      obtain ⟨rc, hrc⟩ : ∃ r, addB m k (l.take (i + 1)) = r := ⟨_, rfl⟩
      have hle := orL_leq at_ l (i := i + 1) (by rw [hN.out]; omega)
      have hab : ra = true → rb = true := fun h => by rw [← hrb]; exact addB_leq hle (hra.trans h)
      have hac : ra = true → rc = true := fun h => by rw [← hrc]; exact addB_less (hra.trans h)
      have l1 : (l.take i).length ≤ 900 := by rw [take_len (by rw [hN.out]; omega)]; omega
      have l2 : (orL at_ l i).length ≤ 900 := by rw [orL_len]; omega
      have t1 : l.take i ++ [x] = l.take (i + 1) := (take_nextB hx).symm
      have t2 : orL at_ l i ++ [Y] = orL at_ l (i + 1) := by rw [orL_next hx, hY]
      have C1 := Lib.hid (wadd x ra _ G.out.1 l1 t1 hra)
      have C2 := Lib.hid (fun o' w' (h' : Fw o' 2 w' b (m + 1) k (orL at_ l i)) => wadd Y rb _ h' l2 t2 hrb)
      have C3 := Lib.hid (fun o' w' (h' : Fw o' 3 w' c m k (l.take i)) => wadd x rc _ h' l1 t1 hrc)
      have HX := Lib.hid hx
      clear hra hrb hrc hle l1 l2 t1 t2 hx
      go_wp2_with fail
      refine C1.out.mono ?_
      rintro e w4 ⟨rfl, o4, st, h1⟩
      have T1 := Lib.hid (And.intro h1 (And.intro (G.out.2.1.step st (by decide)) (And.intro (G.out.2.2.1.step st (by decide)) (G.out.2.2.2.step st (by decide)))))
      clear C1 st h1 d0 G
      obtain ⟨_, _, hBB, d0⟩ := hrd.out.at_ T1.out.2.2.2.below HX.out
      cases hBB
      cases x with
      | true =>
        obtain rfl : true = Y := hY
        go_wp2_with fail
        refine (C2.out _ _ T1.out.2.1).mono ?_
        rintro e w5 ⟨rfl, o5, st, h2⟩
        have T2 := Lib.hid (And.intro (T1.out.1.step st (by decide)) (And.intro h2 (And.intro (T1.out.2.2.1.step st (by decide)) (T1.out.2.2.2.step st (by decide)))))
        clear C2 st h2 d0 T1
        obtain ⟨_, _, hBB, d0⟩ := hrd.out.at_ T2.out.2.2.2.below HX.out
        cases hBB
        go_wp2_with fail
        refine (C3.out _ _ T2.out.2.2.1).mono ?_
        rintro e w6 ⟨rfl, o6, st, h3⟩
        have T3 : Hid (Tri w o6 w6 a b c m k (l.take (i + 1)) (orL at_ l (i + 1))) := ⟨T2.out.1.step st (by decide), T2.out.2.1.step st (by decide), h3, T2.out.2.2.2.step st (by decide)⟩
        clear C3 st h3 d0 T2
        cases ra with
        | true =>
          obtain rfl : rb = true := hab rfl
          obtain rfl : rc = true := hac rfl
          clear hab hac
          go_wp2
          go_roundw
          case rel => exact ⟨i + 1, o6, by simp, by omega, T3⟩
          case measure => simp [intOf]; omega
        | false =>
          clear hab hac
          go_wp2
          go_roundw
          case rel => exact ⟨i + 1, o6, by simp, by omega, T3⟩
          case measure => simp [intOf]; omega
      | false =>
        have hY' : ((i : Int) == at_) = Y := hY
        clear hY
        go_wp2_with fail
        refine (C2.out _ _ T1.out.2.1).mono ?_
        rintro e w5 ⟨rfl, o5, st, h2⟩
        have T2 := Lib.hid (And.intro (T1.out.1.step st (by decide)) (And.intro h2 (And.intro (T1.out.2.2.1.step st (by decide)) (T1.out.2.2.2.step st (by decide)))))
        clear C2 st h2 d0 T1
        obtain ⟨_, _, hBB, d0⟩ := hrd.out.at_ T2.out.2.2.2.below HX.out
        cases hBB
        go_wp2_with fail
        refine (C3.out _ _ T2.out.2.2.1).mono ?_
        rintro e w6 ⟨rfl, o6, st, h3⟩
        have T3 : Hid (Tri w o6 w6 a b c m k (l.take (i + 1)) (orL at_ l (i + 1))) := ⟨T2.out.1.step st (by decide), T2.out.2.1.step st (by decide), h3, T2.out.2.2.2.step st (by decide)⟩
        clear C3 st h3 d0 T2
        cases ra with
        | true =>
          obtain rfl : rb = true := hab rfl
          obtain rfl : rc = true := hac rfl
          clear hab hac
          go_wp2
          go_roundw
          case rel => exact ⟨i + 1, o6, by simp, by omega, T3⟩
          case measure => simp [intOf]; omega
        | false =>
          clear hab hac
          go_wp2
          go_roundw
          case rel => exact ⟨i + 1, o6, by simp, by omega, T3⟩
          case measure => simp [intOf]; omega
    · obtain rfl : i = N := by omega
      have ea : l.take i = l := List.take_of_length_le (by rw [hN.out]; exact Nat.le_refl _)
      have lL : l.length ≤ 900 := by rw [hN.out]; omega
      have lO : (orL at_ l i).length ≤ 900 := by rw [orL_len]; omega
      rw [ea] at G
      have hq1 : (brkI (m + 1) k (orL at_ l i) (orL at_ l i).length).length ≤ (brkI (m + 1) k l l.length).length := by
        have := brk_leq (orL_leq at_ l (i := l.length) (Nat.le_refl _)) (m + 1) k (n := l.length) (by rw [take_len (Nat.le_refl _)]; exact Nat.le_refl _)
        rw [List.take_length, hN.out] at this
        unfold brkI
        rw [List.length_map, List.length_map, orL_len, hN.out]
        exact this
      have hq2 : (brkI m k l l.length).length ≤ (brkI (m + 1) k l l.length).length := by
        unfold brkI
        rw [List.length_map, List.length_map]
        exact brk_less _ _ _ _
      have CA := Lib.hid (fun o' w' (h' : Fw o' 1 w' a (m + 1) k l) => wbroken h' lL)
      have CB := Lib.hid (fun o' w' (h' : Fw o' 2 w' b (m + 1) k (orL at_ l i)) => wbroken h' lO)
      have CC := Lib.hid (fun o' w' (h' : Fw o' 3 w' c m k l) => wbroken h' lL)
      clear ea lL lO
      generalize (brkI (m + 1) k l l.length) = xa at *
      generalize (brkI (m + 1) k (orL at_ l i) (orL at_ l i).length) = xb at *
      generalize (brkI m k l l.length) = xc at *
      obtain ⟨na, hna⟩ : ∃ n, xa.length = n := ⟨_, rfl⟩
      obtain ⟨nb, hnb⟩ : ∃ n, xb.length = n := ⟨_, rfl⟩
      obtain ⟨nc, hnc⟩ : ∃ n, xc.length = n := ⟨_, rfl⟩
      rw [hna] at hq1 hq2 CA
      rw [hnb] at hq1 CB
      rw [hnc] at hq2 CC
      have z1 : (nb : Int) ≤ (na : Int) := by omega
      have z2 : (nc : Int) ≤ (na : Int) := by omega
      clear hna hnb hnc
      go_wp2_with fail
      refine (CB.out _ _ G.out.2.1).mono ?_
      rintro e w4 ⟨v1, rfl, own1, hb1⟩
      obtain ⟨A1, c1, rfl⟩ := own_any own1
      replace G := Lib.hid (G.out.on hb1)
      clear own1 hb1
      go_wp2_with fail
      refine (CA.out _ _ G.out.1).mono ?_
      rintro e w5 ⟨v2, rfl, own2, hb2⟩
      obtain ⟨A2, c2, rfl⟩ := own_any own2
      replace G := Lib.hid (G.out.on hb2)
      clear own2 hb2
      go_wp2_with fail
      refine (CC.out _ _ G.out.2.2.1).mono ?_
      rintro e w6 ⟨v3, rfl, own3, hb3⟩
      obtain ⟨A3, c3, rfl⟩ := own_any own3
      replace G := Lib.hid (G.out.on hb3)
      clear own3 hb3
      go_wp2_with fail
      refine (CA.out _ _ G.out.1).mono ?_
      rintro e w7 ⟨v4, rfl, own4, hb4⟩
      obtain ⟨A4, c4, rfl⟩ := own_any own4
      replace G := Lib.hid (G.out.on hb4)
      clear own4 hb4 CA CB CC
      go_wp2
      go_ret
      exact ⟨rfl, G.out.2.2.2.below⟩
end Go.Proofs.Ytecjblcdiabkcaa
