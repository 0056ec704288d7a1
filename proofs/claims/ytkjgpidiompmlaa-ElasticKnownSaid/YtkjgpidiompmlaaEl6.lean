/- Package elastic: Press. -/
import Derived.Test.YtkjgpidiompmlaaEl5
namespace Go.Proofs.Ytkjgpidiompmlaa
open Go.RowKit Go.Deep
open Go.Lib hiding intOf
set_option linter.unusedVariables false
set_option linter.unusedSimpArgs false

/-- A new block of numbers that come of the springs, handed back without an error. -/
theorem press_laid {f : Sp → Int} {l : List Sp} {X : Nat} {w w' : World} (h20 : l.length ≤ 20) (h : CelZ X l.length (mapF f l) w') (hb : Below w.heap.size w w') : PressA 0 (l.map f) w (.returned (.tuple #[.slice (some ⟨X, 0, none⟩) l.length l.length, .int .i64 0])) w' := by
  refine ⟨some ⟨X, 0, none⟩, l.length, by rw [List.length_map], by rw [List.length_map]; exact Nat.le_refl _, by omega, h.readsF rfl, hb⟩
set_option maxHeartbeats 12800000 in
set_option maxRecDepth 100000 in
theorem epress_any (A : Option Addr) (cap : Nat) (l : List Sp) (room e : Int) (xs : List Int) (w : World) (hcap : cap ≤ 9223372036854775807) (hlc : l.length ≤ cap) (hR : RdSp w A l) (hrf : fitB room = true) (h : PressR room l e xs) :
    Calls Try.prog 10 #[.slice A l.length cap, .int .i64 room] w (PressA e xs w) := by
  obtain ⟨o, ho⟩ : ∃ o, floorOk l = o := ⟨_, rfl⟩
  obtain ⟨fl, hfl⟩ : ∃ v, floorV l = v := ⟨_, rfl⟩
  have C1 := Lib.hid (efloor_any A cap l fl o w hcap hlc hR hfl ho)
  obtain ⟨r, hr⟩ : ∃ r, roomB room = r := ⟨_, rfl⟩
  have hr2 : (decide (0 ≤ room) && decide (room ≤ 67108864)) = r := by rw [← hr]; unfold roomB; rw [Bool.eq_iff_iff, Bool.and_eq_true, decide_eq_true_eq, decide_eq_true_eq, decide_eq_true_eq]
  have C2 := Lib.hid (ewithin_any room 0 67108864 r · hr2)
  clear hr2
  unfold floorOk at ho
  cases o
  · obtain ⟨rfl, rfl⟩ := h.uniq (PressR.bad (room := room) (l := l) (by rw [ho]; rfl))
    generalize l.length = n at *
    clear hR h hfl ho hr C2
    go_enter Try.func10, Try.ntmps10
    go_wp2_with fail
    refine C1.out.mono ?_; rintro e' gw ⟨rfl, g⟩
    clear C1
    go_wp2
    go_ret2
    exact press_nil (by have s0 := g.size; (try simp only [World.heap_drewN, World.size_alloc] at s0); repeat (first | exact Below.refl _ _ | exact g | refine Below.trans ?_ (Below.mono g (by first | omega | (simp; done) | (simp; omega))) | refine Below.setCell ?_ (by first | omega | (simp; done) | (simp; omega)) _ | refine below_dN ?_ _ | refine Below.drew ?_ | refine Below.alloc ?_ (by first | omega | (simp; done) | (simp; omega)) _))
  · cases r
    · obtain ⟨rfl, rfl⟩ := h.uniq (PressR.bad (room := room) (l := l) (by rw [hr, Bool.and_false]))
      generalize l.length = n at *
      clear hR h hfl ho hr
      go_enter Try.func10, Try.ntmps10
      go_wp2_with fail
      refine C1.out.mono ?_; rintro e' gw ⟨rfl, g⟩
      clear C1
      go_wp2_with fail
      refine (C2.out _).mono ?_; rintro e w' ⟨rfl, n1, rfl⟩
      go_wp2
      go_ret2
      exact press_nil (by have s0 := g.size; (try simp only [World.heap_drewN, World.size_alloc] at s0); repeat (first | exact Below.refl _ _ | exact g | refine Below.trans ?_ (Below.mono g (by first | omega | (simp; done) | (simp; omega))) | refine Below.setCell ?_ (by first | omega | (simp; done) | (simp; omega)) _ | refine below_dN ?_ _ | refine Below.drew ?_ | refine Below.alloc ?_ (by first | omega | (simp; done) | (simp; omega)) _))
    · have hg : (springsB l && roomB room) = true := by rw [ho, hr]; rfl
      obtain rfl : floorZ l = fl := by rw [← hfl]; unfold floorV; rw [ho]; rfl
      obtain ⟨h20, hgood⟩ := springs_iff.1 ho
      obtain ⟨r0, r1⟩ := room_iff.1 hr
      by_cases hf : floorZ l ≤ room
      · have t1 : decide (floorZ l > room) = false := decide_eq_false (by omega)
        have C3 : Hid (∀ w', Below w.heap.size w w' → Calls Try.prog 19 #[.slice A l.length cap] w' (NewA l.length (mapF Sp.want l) w')) := fun w' hb => ewants_any A cap l w' hcap hlc h20 (hR.below hb)
        have C4 : Hid (∀ X w', CelZ X l.length (mapF Sp.want l) w' → Calls Try.prog 20 #[.slice (some ⟨X, 0, none⟩) l.length l.length] w' (Ret (.int .i64 (smap Sp.want l)) w')) := fun X w' hx => esumF_any Sp.want X l.length l.length l w' rfl h20 (fun s hs => by have := sp_iff.1 (hgood s hs); omega) hx
        by_cases hw : smap Sp.want l ≤ room
        · obtain ⟨rfl, rfl⟩ := h.uniq (PressR.all hg hf hw)
          have t2 : decide (smap Sp.want l > room) = false := decide_eq_false (by omega)
          have R : Hid (∀ X w', CelZ X l.length (mapF Sp.want l) w' → Below w.heap.size w w' → PressA 0 (l.map Sp.want) w (.returned (.tuple #[.slice (some ⟨X, 0, none⟩) l.length l.length, .int .i64 0])) w') := fun X w' hx hb => press_laid h20 hx hb
          generalize l.length = n at *
          generalize floorZ l = fl at *
          generalize smap Sp.want l = sw at *
          clear hR h hfl ho hr hg hgood hf hw
          go_enter Try.func10, Try.ntmps10
          go_wp2_with fail
          refine C1.out.mono ?_; rintro e' gw ⟨rfl, g⟩
          replace g := Lib.hid g
          clear C1
          go_wp2_with fail
          refine (C2.out _).mono ?_; rintro e w' ⟨rfl, n2, rfl⟩
          clear C2
          go_wp2_with fail
          refine (C3.out _ (below_dN g.out _)).mono ?_; rintro e' g1 ⟨X, rfl, x1, x2, x3⟩
          have P : Hid (CelZ X n (mapF Sp.want l) g1 ∧ Below w.heap.size w g1) := ⟨x2, below_on (below_dN g.out _) x3⟩
          clear C3 x1 x2 x3 g
          go_wp2_with fail
          refine (C4.out X _ P.out.1).mono ?_; rintro e' w' ⟨rfl, nq, rfl⟩
          clear C4
          go_wp2
          go_ret2
          exact R.out X _ (P.out.1.on (below_dN (Below.refl _ _) _)) (below_dN P.out.2 _)
        · have t2 : decide (smap Sp.want l > room) = true := decide_eq_true (by omega)
          have C5 : Hid (∀ w', Below w.heap.size w w' → Calls Try.prog 21 #[.slice A l.length cap, .int .i64 room] w' (CompA room l w')) := fun w' hb => ecomp_any A cap l room w' hcap hlc h20 (hR.below hb) hgood ⟨r0, r1⟩ hf (by omega)
          have R : Hid (∀ en w1 w', Below w.heap.size w w1 → CompA room l w1 en w' → ∃ X, en = .returned (.slice (some ⟨X, 0, none⟩) l.length l.length) ∧ PressA e xs w (.returned (.tuple #[.slice (some ⟨X, 0, none⟩) l.length l.length, .int .i64 0])) w') := fun en w1 w' hb ⟨X, D, S, he, hp, hx, hb2⟩ => by
            obtain ⟨rfl, rfl⟩ := h.uniq (PressR.part hg hf hw hp)
            exact ⟨X, he, press_laid h20 hx (below_on hb hb2)⟩
          generalize l.length = n at *
          generalize floorZ l = fl at *
          generalize smap Sp.want l = sw at *
          clear hR h hfl ho hr hg hgood hf hw
          go_enter Try.func10, Try.ntmps10
          go_wp2_with fail
          refine C1.out.mono ?_; rintro e' gw ⟨rfl, g⟩
          replace g := Lib.hid g
          clear C1
          go_wp2_with fail
          refine (C2.out _).mono ?_; rintro e w' ⟨rfl, n3, rfl⟩
          clear C2
          go_wp2_with fail
          refine (C3.out _ (below_dN g.out _)).mono ?_; rintro e' g1 ⟨X, rfl, x1, x2, x3⟩
          have P : Hid (CelZ X n (mapF Sp.want l) g1 ∧ Below w.heap.size w g1) := ⟨x2, below_on (below_dN g.out _) x3⟩
          clear C3 x1 x2 x3 g
          go_wp2_with fail
          refine (C4.out X _ P.out.1).mono ?_; rintro e' w' ⟨rfl, nq, rfl⟩
          clear C4
          go_wp2_with fail
          refine (C5.out _ (below_dN P.out.2 _)).mono ?_; intro e' w3 hc
          obtain ⟨X2, rfl, hR2⟩ := R.out _ _ _ (below_dN P.out.2 _) hc
          replace hR2 := Lib.hid hR2
          clear C5 R hc P
          go_wp2
          go_ret2
          exact hR2.out
      · obtain ⟨rfl, rfl⟩ := h.uniq (PressR.nofit hg hf)
        have t1 : decide (floorZ l > room) = true := decide_eq_true (by omega)
        generalize l.length = n at *
        generalize floorZ l = fl at *
        clear hR h ho hr hf hg hfl hgood
        go_enter Try.func10, Try.ntmps10
        go_wp2_with fail
        refine C1.out.mono ?_; rintro e' gw ⟨rfl, g⟩
        clear C1
        go_wp2_with fail
        refine (C2.out _).mono ?_; rintro e w' ⟨rfl, n4, rfl⟩
        go_wp2
        go_ret2
        exact press_nil (by have s0 := g.size; (try simp only [World.heap_drewN, World.size_alloc] at s0); repeat (first | exact Below.refl _ _ | exact g | refine Below.trans ?_ (Below.mono g (by first | omega | (simp; done) | (simp; omega))) | refine Below.setCell ?_ (by first | omega | (simp; done) | (simp; omega)) _ | refine below_dN ?_ _ | refine Below.drew ?_ | refine Below.alloc ?_ (by first | omega | (simp; done) | (simp; omega)) _))
end Go.Proofs.Ytkjgpidiompmlaa
