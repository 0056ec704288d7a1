/- FirmWindows. -/
import Derived.Test.YtecjblcdiabkcaaFmLaws
namespace Go.Proofs.Ytecjblcdiabkcaa
open Go.RowKit
set_option linter.unusedVariables false
set_option linter.unusedSimpArgs false

theorem drop_prev {L : List Bool} {p : Nat} {x : Bool} (hx : L[p]? = some x) : yes (L.drop p) = x.toNat + yes (L.drop (p + 1)) := by
  have hp := (List.getElem?_eq_some_iff.1 hx)
  rw [List.drop_eq_getElem_cons hp.1, hp.2]
  unfold yes
  cases x
  · simp
  · simp; omega
set_option maxHeartbeats 6400000 in
set_option maxRecDepth 100000 in
theorem FirmWindows_ret (m k : Int) (A : Option Addr) (cp : Nat) (l : List Bool) (w : World) (f1 : fitB m = true) (f2 : fitB k = true) (hlc : l.length ≤ cp) (hcm : cp ≤ 9223372036854775807) (hrd : RdB w A l) :
    Calls Try.prog 6 #[.int .i64 m, .int .i64 k, .slice A l.length cp] w (RetB (.bool true) w) := by
  have A0 := Lib.hid (awake16_any w)
  clear f1 f2
  replace hrd := Lib.hid hrd
  obtain ⟨N, hN⟩ : ∃ N : Nat, l.length = N := ⟨_, rfl⟩
  rw [hN] at hlc ⊢
  replace hN := Lib.hid hN
  go_enter Try.func6, Try.ntmps6
  go_wp2_with fail
  refine (A0.out).mono ?_; rintro e b0w ⟨rfl, b0⟩
  by_cases k1 : k < 1
  · go_wp2
    go_ret
    exact ⟨rfl, by have s0 := b0.size; (try simp only [World.heap_drewN, World.size_alloc] at s0); repeat (first | exact Below.refl _ _ | exact b0 | refine Below.trans ?_ (Below.mono b0 (by first | omega | (simp; done) | (simp; omega))) | refine Below.setCell ?_ (by first | omega | (simp; done) | (simp; omega)) _ | refine below_dN ?_ _ | refine Below.drew ?_ | refine Below.alloc ?_ (by first | omega | (simp; done) | (simp; omega)) _)⟩
  have k1' : decide (k < 1) = false := decide_eq_false k1
  by_cases k2 : k > 64
  · go_wp2
    go_ret
    exact ⟨rfl, by have s0 := b0.size; (try simp only [World.heap_drewN, World.size_alloc] at s0); repeat (first | exact Below.refl _ _ | exact b0 | refine Below.trans ?_ (Below.mono b0 (by first | omega | (simp; done) | (simp; omega))) | refine Below.setCell ?_ (by first | omega | (simp; done) | (simp; omega)) _ | refine below_dN ?_ _ | refine Below.drew ?_ | refine Below.alloc ?_ (by first | omega | (simp; done) | (simp; omega)) _)⟩
  have k2' : decide (k > 64) = false := decide_eq_false k2
  by_cases k3 : m < 0
  · go_wp2
    go_ret
    exact ⟨rfl, by have s0 := b0.size; (try simp only [World.heap_drewN, World.size_alloc] at s0); repeat (first | exact Below.refl _ _ | exact b0 | refine Below.trans ?_ (Below.mono b0 (by first | omega | (simp; done) | (simp; omega))) | refine Below.setCell ?_ (by first | omega | (simp; done) | (simp; omega)) _ | refine below_dN ?_ _ | refine Below.drew ?_ | refine Below.alloc ?_ (by first | omega | (simp; done) | (simp; omega)) _)⟩
  have k3' : decide (m < 0) = false := decide_eq_false k3
  by_cases k4 : m > k
  · go_wp2
    go_ret
    exact ⟨rfl, by have s0 := b0.size; (try simp only [World.heap_drewN, World.size_alloc] at s0); repeat (first | exact Below.refl _ _ | exact b0 | refine Below.trans ?_ (Below.mono b0 (by first | omega | (simp; done) | (simp; omega))) | refine Below.setCell ?_ (by first | omega | (simp; done) | (simp; omega)) _ | refine below_dN ?_ _ | refine Below.drew ?_ | refine Below.alloc ?_ (by first | omega | (simp; done) | (simp; omega)) _)⟩
  have k4' : decide (m > k) = false := decide_eq_false k4
  by_cases k5 : (N : Int) > 100
  · go_wp2
    go_ret
    exact ⟨rfl, by have s0 := b0.size; (try simp only [World.heap_drewN, World.size_alloc] at s0); repeat (first | exact Below.refl _ _ | exact b0 | refine Below.trans ?_ (Below.mono b0 (by first | omega | (simp; done) | (simp; omega))) | refine Below.setCell ?_ (by first | omega | (simp; done) | (simp; omega)) _ | refine below_dN ?_ _ | refine Below.drew ?_ | refine Below.alloc ?_ (by first | omega | (simp; done) | (simp; omega)) _)⟩
  have k5' : decide ((N : Int) > 100) = false := decide_eq_false k5
  obtain ⟨k, rfl⟩ : ∃ n : Nat, k = n := ⟨k.toNat, by omega⟩
  obtain ⟨m, rfl⟩ : ∃ n : Nat, m = n := ⟨m.toNat, by omega⟩
  go_wp2_with fail
  refine (wnew (fun _ => 0) 1 _ m k (by omega) (by omega) (by omega)).mono ?_
  rintro e w1 ⟨a, rfl, o1, st, h1⟩
  have F : Hid (Fw o1 1 w1 a m k [] ∧ Lw w o1 w1) := ⟨h1, ((Lw.start w).on b0).step st (by decide)⟩
  clear h1 st b0
  have hN9 : N ≤ 100 := by omega
  have hk1 : 1 ≤ k := by omega
  have hk9 : k ≤ 64 := by omega
  have hmk : m ≤ k := by omega
  clear k1 k2 k3 k4 k5
  go_wp2
  go_loopw [9] (fun s9 wr => ∃ (i : Nat) (o : Nat → Nat), s9 = .int .i64 (i : Int) ∧ i ≤ N ∧ Hid (Fw o 1 wr a m k (l.take i) ∧ Lw w o wr)) (fun st _ => N - (intOf st).toNat)
  case atStart => exact ⟨0, o1, rfl, by omega, by simpa using F⟩
  case round =>
    obtain ⟨i, o, rfl, hi, G⟩ := hrel
    clear F
    rcases Nat.lt_or_ge i N with hlt | hge
    · obtain ⟨x, hx⟩ : ∃ x, l[i]? = some x := ⟨_, List.getElem?_eq_getElem (by rw [hN.out]; exact hlt)⟩
      have q1 : (i : Int) < (N : Int) := by omega
      have q2 : (0 : Int) ≤ (i : Int) := by omega
      obtain ⟨r, hr⟩ : ∃ r, addB m k (l.take (i + 1)) = r := ⟨_, rfl⟩
      have l1 : (l.take i).length ≤ 900 := by rw [take_len (by rw [hN.out]; omega)]; omega
      have l2 : (l.take (i + 1)).length = i + 1 := take_len (by rw [hN.out]; omega)
      have C1 := Lib.hid (wadd x r _ G.out.1 l1 (take_nextB hx).symm hr)
      obtain ⟨M, hM⟩ : ∃ M, mc k (i + 1) (l.take (i + 1)) = M := ⟨_, rfl⟩
      have hM2 : yes ((l.take (i + 1)).drop (i + 1 - k)) = M := by
        rw [← hM, mc_span (by rw [l2]; exact Nat.le_refl _), List.take_take, Nat.min_self]
      rw [addB, l2, hM] at hr
      have hM9 : M ≤ k := by rw [← hM]; exact mc_le _ _ _
      have HX := Lib.hid (And.intro hx (And.intro hr (And.intro l2 hM2)))
      obtain ⟨s, hs⟩ : ∃ s, i + 1 - k = s := ⟨_, rfl⟩
      clear hx hr l1 hM l2
      rw [hs] at hM2 HX
      clear hM2
      go_wp2
      go_loopw [10, 11] (fun s10 s11 wr' => ∃ (p n : Nat) (q : Int), s10 = .int .i64 (n : Int) ∧ s11 = .int .i64 q ∧ q = (p : Int) - 1 ∧ s ≤ p ∧ p ≤ i + 1 ∧ n + p ≤ i + 1 ∧ Hid (yes ((l.take (i + 1)).drop p) = n) ∧ wr' = wr) (fun _ st _ => (intOf st + 1).toNat)
      case atStart => exact ⟨i + 1, 0, (i : Int), rfl, rfl, by omega, by omega, by omega, by omega, Lib.hid (by rw [List.drop_of_length_le (by rw [HX.out.2.2.1]; exact Nat.le_refl _)]; rfl), rfl⟩
      case round =>
        obtain ⟨p, n, q, rfl, rfl, hq, hp1, hp2, hn, HQ, rfl⟩ := hrel
        rcases Nat.lt_or_ge s p with hlt2 | hge2
        · obtain ⟨P, rfl⟩ : ∃ P, p = P + 1 := ⟨p - 1, by omega⟩
          obtain rfl : q = (P : Int) := by omega
          obtain ⟨y, hy⟩ : ∃ y, l[P]? = some y := ⟨_, List.getElem?_eq_getElem (by rw [hN.out]; omega)⟩
          obtain ⟨g, off, rfl, d0⟩ := hrd.out.at_ G.out.2.below hy
          have hyL : (l.take (i + 1))[P]? = some y := by rw [List.getElem?_take, if_pos (by omega)]; exact hy
          have hdp := drop_prev hyL
          rw [HQ.out] at hdp
          have z1 : (P : Int) ≥ 0 := by omega
          have z2 : (P : Int) > (i : Int) - (k : Int) := by omega
          have z3 : (P : Int) < (N : Int) := by omega
          replace hdp := Lib.hid hdp
          clear hy hyL HQ hq
          cases y with
          | true =>
            go_wp2
            go_roundw
            case rel => exact ⟨P, n + 1, (P : Int) - 1, by simp, rfl, rfl, by omega, by omega, by omega, Lib.hid (by rw [hdp.out]; simp; omega), by first | rfl | trivial⟩
            case measure => simp [intOf] <;> omega
          | false =>
            go_wp2
            go_roundw
            case rel => exact ⟨P, n, (P : Int) - 1, rfl, rfl, rfl, by omega, by omega, by omega, Lib.hid (by rw [hdp.out]; simp), by first | rfl | trivial⟩
            case measure => simp [intOf] <;> omega
        · obtain rfl : s = p := by omega
          obtain rfl : n = M := by rw [← HQ.out, ← HX.out.2.2.2]
          obtain ⟨g, off, rfl, d0⟩ := hrd.out.at_ G.out.2.below HX.out.1
          by_cases hs0 : s = 0
          · have z1 : decide (q ≥ 0) = false := decide_eq_false (by omega)
            have z2 : decide (0 ≤ q) = false := decide_eq_false (by omega)
            clear hq
            go_wp2_with fail
            refine C1.out.mono ?_
            rintro e w4 ⟨rfl, o4, st, h4⟩
            have G4 := Lib.hid (And.intro h4 (G.out.2.step st (by decide)))
            have hr := HX.out.2.1
            clear C1 st h4 d0 G HX HQ
            by_cases hk : i + 1 < k
            · obtain rfl : true = r := by rw [← hr]; exact (decide_eq_true (.inl hk)).symm
              have y1 : (i : Int) < (k : Int) - 1 := by omega
              clear hr
              go_wp2
              go_roundw
              case rel => exact ⟨i + 1, o4, by simp, by omega, G4⟩
              case measure => simp [intOf]; omega
            · have y1 : decide ((i : Int) < (k : Int) - 1) = false := decide_eq_false (by omega)
              have y2 : decide ((n : Int) ≥ (m : Int)) = r := by rw [← hr]; exact decide_eq_decide.2 (by omega)
              have y3 : decide (m ≤ n) = r := by rw [← hr]; exact decide_eq_decide.2 (by omega)
              clear hr
              cases r
              all_goals
                go_wp2
                go_roundw
                case rel => exact ⟨i + 1, o4, by simp, by omega, G4⟩
                case measure => simp [intOf]; omega
          · have z1 : q ≥ 0 := by omega
            have z2 : decide (q > (i : Int) - (k : Int)) = false := decide_eq_false (by omega)
            have z3 : decide ((i : Int) - (k : Int) < q) = false := decide_eq_false (by omega)
            clear hq
            go_wp2_with fail
            refine C1.out.mono ?_
            rintro e w4 ⟨rfl, o4, st, h4⟩
            have G4 := Lib.hid (And.intro h4 (G.out.2.step st (by decide)))
            have hr := HX.out.2.1
            clear C1 st h4 d0 G HX HQ
            by_cases hk : i + 1 < k
            · obtain rfl : true = r := by rw [← hr]; exact (decide_eq_true (.inl hk)).symm
              have y1 : (i : Int) < (k : Int) - 1 := by omega
              clear hr
              go_wp2
              go_roundw
              case rel => exact ⟨i + 1, o4, by simp, by omega, G4⟩
              case measure => simp [intOf]; omega
            · have y1 : decide ((i : Int) < (k : Int) - 1) = false := decide_eq_false (by omega)
              have y2 : decide ((n : Int) ≥ (m : Int)) = r := by rw [← hr]; exact decide_eq_decide.2 (by omega)
              have y3 : decide (m ≤ n) = r := by rw [← hr]; exact decide_eq_decide.2 (by omega)
              clear hr
              cases r
              all_goals
                go_wp2
                go_roundw
                case rel => exact ⟨i + 1, o4, by simp, by omega, G4⟩
                case measure => simp [intOf]; omega
    · obtain rfl : i = N := by omega
      have ea : l.take i = l := List.take_of_length_le (by rw [hN.out]; exact Nat.le_refl _)
      rw [ea] at G
      have lL : l.length ≤ 900 := by rw [hN.out]; omega
      obtain ⟨q, hq⟩ : ∃ q, wstV k l = q := ⟨_, rfl⟩
      obtain ⟨r, hr⟩ : ∃ r, wstB k l = r := ⟨_, rfl⟩
      have C := Lib.hid (wworst q r G.out.1 lL hq hr)
      have CB := Lib.hid (fun o' w' (h' : Fw o' 1 w' a m k l) => wbroken h' lL)
      have hw := wst_lt (l := l) hmk i
      have hbl : (brkI m k l l.length).length = (brk m k l i).length := by unfold brkI; rw [List.length_map, hN.out]
      generalize brkI m k l l.length = xb at *
      obtain ⟨nb, hnb⟩ : ∃ n, xb.length = n := ⟨_, rfl⟩
      rw [hnb] at hbl CB
      rw [← hbl] at hw
      have hr' : decide (k ≤ i) = r := by rw [← hr, wstB, hN.out]
      have hq' : k ≤ i → wst k l i = q := fun h => by rw [← hq, wstV, hN.out, if_neg (by omega)]
      have hq9 : q ≤ k := by rw [← hq, wstV]; split; · omega
                             · exact wst_le _ _ _
      clear ea lL hq hr hbl hnb
      go_wp2_with fail
      refine C.out.mono ?_
      rintro e w4 ⟨rfl, n4, rfl⟩
      have G4 := Lib.hid (And.intro (G.out.1.drewN n4) (G.out.2.drewN n4))
      generalize wr.drewN n4 = w4 at *
      clear C G
      by_cases hk : k ≤ i
      · obtain rfl : true = r := by rw [← hr']; exact (decide_eq_true hk).symm
        have y1 : (i : Int) ≥ (k : Int) := by omega
        rw [hq' hk] at hw
        obtain ⟨B, hB⟩ : ∃ B, decide (q < m) = B := ⟨_, rfl⟩
        have y2 : decide ((q : Int) < (m : Int)) = B := by rw [← hB]; exact decide_eq_decide.2 (by omega)
        have y3 : decide ((nb : Int) > 0) = B := by rw [← hB]; exact decide_eq_decide.2 (by omega)
        have y4 : decide (0 < nb) = B := by rw [← hB]; exact decide_eq_decide.2 hw.symm
        clear hr' hq' hw hge hi
        go_wp2_with fail
        refine (CB.out _ _ G4.out.1).mono ?_
        rintro e w5 ⟨v1, rfl, own1, hb1⟩
        obtain ⟨A1, c1, rfl⟩ := own_any own1
        replace G4 := Lib.hid (G4.out.2.on hb1)
        clear own1 hb1 CB
        cases B
        all_goals
          go_wp2
          go_ret
          exact ⟨rfl, G4.out.below⟩
      · obtain rfl : false = r := by rw [← hr']; exact (decide_eq_false hk).symm
        have y1 : decide ((i : Int) ≥ (k : Int)) = false := decide_eq_false (by omega)
        have y2 : decide (k ≤ i) = false := decide_eq_false hk
        clear hr' hq' hw hge hi
        go_wp2
        go_ret
        exact ⟨rfl, G4.out.2.below⟩
end Go.Proofs.Ytecjblcdiabkcaa
