/- Package util: Of, Period, Sum. -/
import Derived.Test.YtacjbinjlooohaaDoorUtRef
import Derived.Test.YtacjbinjlooohaaDoorNum4
import Derived.Test.YtacjbinjlooohaaDoorNum3
namespace Go.Proofs.YtacjbinjlooohaaDoor
open Go.RowKit
open Go.Lib hiding intOf
set_option linter.unusedVariables false
set_option linter.unusedSimpArgs false

set_option maxHeartbeats 1600000 in
theorem goodneed_any (need : Int) (g : Bool) (w : World) (hg : decide (1 ≤ need ∧ need ≤ 1000) = g) :
    Calls Tryd.prog 17 #[.int .i64 need] w (Ret (.bool g) w) := by
  subst hg
  by_cases k1 : ¬ (1 ≤ need)
  · have k1' : decide (1 ≤ need) = false := decide_eq_false k1
    rw [decide_eq_false (by omega)]
    go_enter Tryd.func17, Tryd.ntmps17
    go_wp2
    go_ret
    first | exact ⟨rfl, 0, rfl⟩ | exact ⟨rfl, _, rfl⟩
  replace k1 : 1 ≤ need := Classical.not_not.1 k1
  by_cases k2 : ¬ (need ≤ 1000)
  · have k2' : decide (need ≤ 1000) = false := decide_eq_false k2
    rw [decide_eq_false (by omega)]
    go_enter Tryd.func17, Tryd.ntmps17
    go_wp2
    go_ret
    first | exact ⟨rfl, 0, rfl⟩ | exact ⟨rfl, _, rfl⟩
  replace k2 : need ≤ 1000 := Classical.not_not.1 k2
  rw [decide_eq_true ⟨k1, k2⟩]
  have t1 : decide (1 ≤ need) = true := decide_eq_true k1
  have t2 : decide (need ≤ 1000) = true := decide_eq_true k2
  go_enter Tryd.func17, Tryd.ntmps17
  go_wp2
  go_ret
  first | exact ⟨rfl, 0, rfl⟩ | exact ⟨rfl, _, rfl⟩
set_option maxHeartbeats 1600000 in
theorem uof_any (need per v : Int) (o : Bool) (w : World) (hn : fitB need = true) (hp : fitB per = true) (hv : utilV need per = v) (ho : utilOk need per = o) :
    Calls Tryd.prog 9 #[.int .i64 need, .int .i64 per] w (RetB (.tuple #[.int .i64 v, .bool o]) w) := by
  have N : ¬ (1 ≤ need ∧ need ≤ 1000 ∧ 1 ≤ per ∧ per ≤ 10000) → o = false ∧ v = 0 := fun h => by
    obtain ⟨h1, h2⟩ := utilOk_no h
    exact ⟨by rw [← ho, h1], by rw [← hv, h2]⟩
  by_cases kn : ¬ (1 ≤ need ∧ need ≤ 1000)
  · obtain ⟨rfl, rfl⟩ := N (by omega)
    have C0 := Lib.hid (goodneed_any need false · (decide_eq_false kn))
    clear N hv ho hn hp kn
    go_enter Tryd.func9, Tryd.ntmps9
    go_wp2_with fail
    refine (C0.out _).mono ?_; rintro e w' ⟨rfl, n1, rfl⟩
    go_wp2
    go_ret2
    exact ⟨rfl, by repeat (first | exact Below.refl _ _ | refine Below.setCell ?_ (by first | omega | (simp; done) | (simp; omega)) _ | refine below_dN ?_ _ | refine Below.drew ?_ | refine Below.alloc ?_ (by first | omega | (simp; done) | (simp; omega)) _)⟩
  replace kn := Classical.not_not.1 kn
  have C0 := Lib.hid (goodneed_any need true · (decide_eq_true kn))
  by_cases k1 : per < 1
  · obtain ⟨rfl, rfl⟩ := N (by omega)
    clear N hv ho hn hp kn
    go_enter Tryd.func9, Tryd.ntmps9
    go_wp2_with fail
    refine (C0.out _).mono ?_; rintro e w' ⟨rfl, n2, rfl⟩
    go_wp2
    go_ret2
    exact ⟨rfl, by repeat (first | exact Below.refl _ _ | refine Below.setCell ?_ (by first | omega | (simp; done) | (simp; omega)) _ | refine below_dN ?_ _ | refine Below.drew ?_ | refine Below.alloc ?_ (by first | omega | (simp; done) | (simp; omega)) _)⟩
  have k1' : decide (per < 1) = false := decide_eq_false k1
  by_cases k2 : per > 10000
  · obtain ⟨rfl, rfl⟩ := N (by omega)
    clear N hv ho hn hp kn
    go_enter Tryd.func9, Tryd.ntmps9
    go_wp2_with fail
    refine (C0.out _).mono ?_; rintro e w' ⟨rfl, n3, rfl⟩
    go_wp2
    go_ret2
    exact ⟨rfl, by repeat (first | exact Below.refl _ _ | refine Below.setCell ?_ (by first | omega | (simp; done) | (simp; omega)) _ | refine below_dN ?_ _ | refine Below.drew ?_ | refine Below.alloc ?_ (by first | omega | (simp; done) | (simp; omega)) _)⟩
  have k2' : decide (per > 10000) = false := decide_eq_false k2
  obtain ⟨u1, u2, u3, u4⟩ := up_need (need := need) (c := per) (by omega) (by omega) (by omega)
  obtain ⟨y1, y2⟩ := utilOk_yes (need := need) (per := per) (by omega)
  obtain rfl : o = true := by rw [← ho, y1]
  obtain rfl : v = upZ (need * 1048576) per := by rw [← hv, y2]
  have C := Lib.hid (up_any need 1048576 per _ _ · hn (by decide) hp u4 u3)
  generalize upZ (need * 1048576) per = v at *
  clear N hv ho hn hp u1 u2 u3 u4 y1 y2 k1 k2 kn
  go_enter Tryd.func9, Tryd.ntmps9
  go_wp2_with fail
  refine (C0.out _).mono ?_; rintro e w' ⟨rfl, n4, rfl⟩
  go_wp2_with fail
  refine (C.out _).mono ?_; rintro e w' ⟨rfl, n5, rfl⟩
  go_wp2
  go_ret2
  exact ⟨rfl, by repeat (first | exact Below.refl _ _ | refine Below.setCell ?_ (by first | omega | (simp; done) | (simp; omega)) _ | refine below_dN ?_ _ | refine Below.drew ?_ | refine Below.alloc ?_ (by first | omega | (simp; done) | (simp; omega)) _)⟩
set_option maxHeartbeats 1600000 in
theorem uper_any (need share v : Int) (o : Bool) (w : World) (hn : fitB need = true) (hp : fitB share = true) (hv : periodV need share = v) (ho : periodOk need share = o) :
    Calls Tryd.prog 10 #[.int .i64 need, .int .i64 share] w (RetB (.tuple #[.int .i64 v, .bool o]) w) := by
  have N : ¬ (1 ≤ need ∧ need ≤ 1000 ∧ 1 ≤ share ∧ upZ (need * 1048576) share ≤ 10000) → o = false ∧ v = 0 := fun h => by
    obtain ⟨h1, h2⟩ := periodOk_no h
    exact ⟨by rw [← ho, h1], by rw [← hv, h2]⟩
  by_cases kn : ¬ (1 ≤ need ∧ need ≤ 1000)
  · obtain ⟨rfl, rfl⟩ := N (by omega)
    have C0 := Lib.hid (goodneed_any need false · (decide_eq_false kn))
    clear N hv ho hn hp kn
    go_enter Tryd.func10, Tryd.ntmps10
    go_wp2_with fail
    refine (C0.out _).mono ?_; rintro e w' ⟨rfl, n6, rfl⟩
    go_wp2
    go_ret2
    exact ⟨rfl, by repeat (first | exact Below.refl _ _ | refine Below.setCell ?_ (by first | omega | (simp; done) | (simp; omega)) _ | refine below_dN ?_ _ | refine Below.drew ?_ | refine Below.alloc ?_ (by first | omega | (simp; done) | (simp; omega)) _)⟩
  replace kn := Classical.not_not.1 kn
  have C0 := Lib.hid (goodneed_any need true · (decide_eq_true kn))
  by_cases k1 : share < 1
  · obtain ⟨rfl, rfl⟩ := N (by omega)
    clear N hv ho hn hp kn
    go_enter Tryd.func10, Tryd.ntmps10
    go_wp2_with fail
    refine (C0.out _).mono ?_; rintro e w' ⟨rfl, n7, rfl⟩
    go_wp2
    go_ret2
    exact ⟨rfl, by repeat (first | exact Below.refl _ _ | refine Below.setCell ?_ (by first | omega | (simp; done) | (simp; omega)) _ | refine below_dN ?_ _ | refine Below.drew ?_ | refine Below.alloc ?_ (by first | omega | (simp; done) | (simp; omega)) _)⟩
  have k1' : decide (share < 1) = false := decide_eq_false k1
  obtain ⟨u1, u2, u3, u4⟩ := up_need (need := need) (c := share) (by omega) (by omega) (by omega)
  have C := Lib.hid (up_any need 1048576 share _ _ · hn (by decide) hp u4 u3)
  by_cases h : upZ (need * 1048576) share ≤ 10000
  · obtain ⟨y1, y2⟩ := periodOk_yes (need := need) (share := share) (by omega)
    obtain rfl : o = true := by rw [← ho, y1]
    obtain rfl : v = upZ (need * 1048576) share := by rw [← hv, y2]
    have d1 : decide (upZ (need * 1048576) share > 10000) = false := decide_eq_false (by omega)
    have e1 : wrap64 (upZ (need * 1048576) share) = upZ (need * 1048576) share := by unfold wrap64; omega
    generalize upZ (need * 1048576) share = v at *
    clear N hv ho hn hp u1 u2 u3 u4 y1 y2 k1 kn h
    go_enter Tryd.func10, Tryd.ntmps10
    go_wp2_with fail
    refine (C0.out _).mono ?_; rintro e w' ⟨rfl, n8, rfl⟩
    go_wp2_with fail
    refine (C.out _).mono ?_; rintro e w' ⟨rfl, n9, rfl⟩
    go_wp2
    go_ret2
    exact ⟨rfl, by repeat (first | exact Below.refl _ _ | refine Below.setCell ?_ (by first | omega | (simp; done) | (simp; omega)) _ | refine below_dN ?_ _ | refine Below.drew ?_ | refine Below.alloc ?_ (by first | omega | (simp; done) | (simp; omega)) _)⟩
  · have d1 : decide (upZ (need * 1048576) share > 10000) = true := decide_eq_true (by omega)
    obtain ⟨rfl, rfl⟩ := N (by omega)
    generalize upZ (need * 1048576) share = z at *
    clear N hv ho hn hp u1 u2 u3 u4 k1 kn h
    go_enter Tryd.func10, Tryd.ntmps10
    go_wp2_with fail
    refine (C0.out _).mono ?_; rintro e w' ⟨rfl, n10, rfl⟩
    go_wp2_with fail
    refine (C.out _).mono ?_; rintro e w' ⟨rfl, n11, rfl⟩
    go_wp2
    go_ret2
    exact ⟨rfl, by repeat (first | exact Below.refl _ _ | refine Below.setCell ?_ (by first | omega | (simp; done) | (simp; omega)) _ | refine below_dN ?_ _ | refine Below.drew ?_ | refine Below.alloc ?_ (by first | omega | (simp; done) | (simp; omega)) _)⟩
set_option maxHeartbeats 1600000 in
set_option maxRecDepth 100000 in
theorem usum_any (A : Option Addr) (c : Nat) (l : List Int) (v : Int) (o : Bool) (w : World) (hl : l.length ≤ 9223372036854775807) (hf : ∀ x ∈ l, fitB x = true) (hr : ReadsI w A l) (hv : totV l = v) (ho : totOk l = o) :
    Calls Tryd.prog 11 #[.slice A l.length c] w (Ret (.tuple #[.int .i64 v, .bool o]) w) := by
  obtain ⟨n, hn⟩ : ∃ n, l.length = n := ⟨_, rfl⟩
  have H := Lib.hid (And.intro hn (And.intro hf (And.intro hr (And.intro hv ho))))
  rw [hn] at hl ⊢
  clear hn hf hr hv ho
  go_enter Tryd.func11, Tryd.ntmps11
  go_wp2
  go_loopw [4, 11] (fun sv st wx => ∃ (i : Nat) (u : Int) (d : Nat), sv = .int .i64 u ∧ st = .int .i64 (i : Int) ∧ i ≤ n ∧ wx = w.drewN d ∧ Hid ((∀ x ∈ l.take i, 0 ≤ x) ∧ (l.take i).sum = u ∧ fitB u = true ∧ 0 ≤ u)) (fun _ st _ => n - (intOf st).toNat)
  case atStart => exact ⟨0, 0, 0, rfl, rfl, by omega, rfl, Lib.hid ⟨by simp, by simp, by decide, by omega⟩⟩
  case round =>
    obtain ⟨i, u, d, rfl, rfl, hin, rfl, K⟩ := hrel
    rcases Nat.lt_or_ge i n with hlt | hge
    · have d1 : decide ((i : Int) < (n : Int)) = true := decide_eq_true (by omega)
      have e1 : IntKind.i64.wrap ((i : Int) + 1) = ((i + 1 : Nat) : Int) := by rw [IntKind.wrap_i64]; omega
      have b1 : (i : Int) < (n : Int) := by omega
      have hil : i < l.length := by rw [H.out.1]; exact hlt
      obtain ⟨B, off, rfl, c0⟩ := H.out.2.2.1 i hil
      obtain ⟨x, hx⟩ : ∃ x, l.getD i 0 = x := ⟨_, rfl⟩
      have hfx : fitB x = true := by rw [← hx]; refine H.out.2.1 _ ?_; rw [List.getD, List.getElem?_eq_getElem hil]; exact List.getElem_mem _
      have hs := sum_next hil
      rw [hx] at c0 hs
      rw [K.out.2.1] at hs
      obtain ⟨f, hfo⟩ : ∃ f, fitB (u + x) = f := ⟨_, rfl⟩
      have C := fun v' => Lib.hid (add_named u x v' f · K.out.2.2.1 hfx · hfo)
      have N : Hid (x < 0 ∨ f = false → v = 0 ∧ o = false) := fun h => by
        obtain ⟨z1, z2⟩ := tot_no hil (by rw [hx, hs, hfo]; exact h) (by rw [K.out.2.1]; exact K.out.2.2.2) (by rw [hx]; exact hfx)
        exact ⟨by rw [← H.out.2.2.2.1, z2], by rw [← H.out.2.2.2.2, z1]⟩
      have Y : Hid (0 ≤ x → f = true → (∀ y ∈ l.take (i + 1), 0 ≤ y) ∧ (l.take (i + 1)).sum = u + x ∧ fitB (u + x) = true ∧ 0 ≤ u + x) := fun h1 h2 => ⟨nn_next hil K.out.1 (by rw [hx]; exact h1), hs, hfo.trans h2, by have := K.out.2.2.2; omega⟩
      have hcut : f = true → cutZ (u + x) = u + x := fun h => cutZ_true (hfo.trans h)
      obtain ⟨z, hz⟩ : ∃ z, cutZ (u + x) = z := ⟨_, rfl⟩
      have C' := Lib.hid fun w' => (C z).out w' hz
      have Z : Hid (f = true → z = u + x) := fun h => by rw [← hz]; exact hcut h
      clear C hs hx hfo hfx hil K hcut hz
      by_cases h0 : x < 0
      · have d2 : decide (x < 0) = true := decide_eq_true h0
        obtain ⟨rfl, rfl⟩ := N.out (.inl h0)
        clear N Y Z h0 C'
        go_wp2
        go_ret2
        exact ⟨rfl, _, rfl⟩
      · have d2 : decide (x < 0) = false := decide_eq_false h0
        cases f
        · obtain ⟨rfl, rfl⟩ := N.out (.inr rfl)
          clear N Y Z h0
          go_wp2_with fail
          refine (C'.out _).mono ?_; rintro e w' ⟨rfl, n12, rfl⟩
          go_wp2
          go_ret2
          exact ⟨rfl, _, rfl⟩
        · have Q := Lib.hid (Y.out (by omega) rfl)
          obtain rfl : z = u + x := Z.out rfl
          generalize u + x = z at *
          clear N Y Z h0
          go_wp2_with fail
          refine (C'.out _).mono ?_; rintro e w' ⟨rfl, n13, rfl⟩
          go_wp2
          go_roundw
          case rel => exact ⟨i + 1, z, _, rfl, by first | rfl | simp, by omega, rfl, Q⟩
          case measure => simp [intOf]; omega
    · have d1 : decide ((i : Int) < (n : Int)) = false := decide_eq_false (by omega)
      have hy : totOk l = true ∧ totV l = u := by
        have k := K.out
        rw [List.take_of_length_le (by rw [H.out.1]; exact hge)] at k
        obtain ⟨z1, z2⟩ := tot_yes k.1 (by rw [k.2.1]; exact k.2.2.1)
        exact ⟨z1, by rw [z2, k.2.1]⟩
      obtain rfl : v = u := by rw [← H.out.2.2.2.1, hy.2]
      obtain rfl : o = true := by rw [← H.out.2.2.2.2, hy.1]
      clear hy K
      go_wp2
      go_ret2
      exact ⟨rfl, _, rfl⟩
end Go.Proofs.YtacjbinjlooohaaDoor
