/- EdfBest: whatever trace has all jobs done by their deadlines, the earliest deadline first has them, too. -/
import Derived.Test.YtcohodpaagpfgaaDoorEdAwake
import Derived.Test.YtcohodpaagpfgaaDoorEdOwn
namespace Go.Proofs.YtcohodpaagpfgaaDoor
open Go.RowKit Go.Lib
set_option linter.unusedVariables false
set_option linter.unusedSimpArgs false

theorem doneAt_is {l : List Jb} {t : List Int} {i : Nat} {x : Jb} (ha : allB l = true) (hx : l[i]? = some x) : doneAt l t (i : Int) = doneGo (i : Int) x.work t 0 := by
  have hi := (List.getElem?_eq_some_iff.1 hx).1
  have hh : hasB l (i : Int) = true := hasB_iff.2 ⟨by omega, by omega⟩
  unfold doneAt
  rw [ha, hh, if_pos (show (true && true) = true from rfl), Int.toNat_natCast, hx]
set_option maxHeartbeats 3200000 in
set_option maxRecDepth 100000 in
theorem EdfBest_ret (A : Option Addr) (cap : Nat) (l : List Jb) (T : Option Addr) (tc : Nat) (t : List Int) (w : World) (hL : Ltr w) (hlc : l.length ≤ cap) (hcap : cap ≤ 9223372036854775807) (hR : RdJ w A l)
    (htl : t.length ≤ tc) (htc : tc ≤ 9223372036854775807) (hT : RdT w T t) (hsh : (T = none ∧ tc = 0 ∧ t = []) ∨ ∃ ad, T = some ad) :
    Calls Tryd.prog 5 #[.slice A l.length cap, .slice T t.length tc] w (RetB (.bool true) w) := by
  have A0 := Lib.hid (awake10_any w hL)
  obtain ⟨gh, hgh⟩ : ∃ g, heavyB 10 200 l = g := ⟨_, rfl⟩
  have A1 := Lib.hid (fun w' (hb : Below w.heap.size w w') => heavy10_any A cap l 10 200 gh w' hcap hlc (hR.below hb) hgh)
  obtain ⟨n, hl⟩ : ∃ n, l.length = n := ⟨_, rfl⟩
  obtain ⟨m, hm⟩ : ∃ n, t.length = n := ⟨_, rfl⟩
  clear hsh
  by_cases hgo : gh = false ∧ m ≤ 200
  · obtain ⟨rfl, hm2⟩ := hgo
    obtain ⟨h10, hns⟩ := heavy_none hgh
    have hss : ∀ x ∈ l, x.name.size ≤ 1000000 := fun x hx => by have := (hns x hx).1; omega
    have d1 : decide ((m : Int) > 200) = false := decide_eq_false (by omega)
    obtain ⟨gg, hgg⟩ : ∃ g, goodT l t = g := ⟨_, rfl⟩
    have G1 : Hid (∀ w', Below w.heap.size w w' → Calls Tryd.prog 21 #[.slice A l.length cap, .slice T t.length tc] w' (RetB (.bool gg) w')) := fun w' hb => tgood_any A cap l T tc t gg w' hcap hlc hss (hL.below hb) (hR.below hb) htc htl (hT.below hb) hgg
    cases gg
    · rw [hl] at A1 hlc G1 ⊢
      rw [hm] at htl G1 ⊢
      clear hL hR hT hgh hl hm hns hss hgg
      go_enter Tryd.func5, Tryd.ntmps5
      go_wp2_with fail
      refine A0.out.mono ?_; rintro e w0 ⟨rfl, b0⟩
      replace b0 := Lib.hid b0
      clear A0
      go_wp2_with fail
      refine (A1.out _ b0.out).mono ?_; rintro e w1 ⟨rfl, q1, rfl⟩
      replace b0 : Hid (Below w.heap.size w (w0.drewN q1)) := below_dN b0.out q1
      generalize w0.drewN q1 = w1 at *
      clear A1
      go_wp2_with fail
      refine (G1.out _ b0.out).mono ?_; rintro e w2 ⟨rfl, hb⟩
      have b2 := Lib.hid (below_on b0.out hb)
      clear G1 hb b0
      go_wp2
      go_ret
      exact ⟨rfl, by have s0 := b2.out.size; (try simp only [World.heap_drewN, World.size_alloc] at s0); repeat (first | exact Below.refl _ _ | exact b2.out | refine Below.trans ?_ (Below.mono b2.out (by first | omega | (simp; done) | (simp; omega))) | refine Below.setCell ?_ (by first | omega | (simp; done) | (simp; omega)) _ | refine below_dN ?_ _ | refine Below.drew ?_ | refine Below.alloc ?_ (by first | omega | (simp; done) | (simp; omega)) _)⟩
    · have ha := (goodT_iff.1 hgg).1
      have hg1 : ∀ y ∈ l, y.good = true := fun y hy => List.all_eq_true.1 (Bool.and_eq_true_iff.1 ha).2 y hy
      obtain ⟨E, hE⟩ : ∃ E : Nat, endM 0 l = (E : Int) := ⟨(endM 0 l).toNat, by have := (endM_le l 0).1; omega⟩
      have hE2 : E ≤ 10000 := by have := endM_bound l 0 10000 (by omega) (fun x hx => (jb_num (hg1 x hx)).2.2.1); omega
      have hez : endZ l = (E : Int) := by unfold endZ; rw [if_pos ha, hE]
      obtain ⟨r, hr⟩ : ∃ r, edfL Jb.work l E = r := ⟨_, rfl⟩
      have hrl : r.length = E := by rw [← hr, edfL_len]
      have hrun : runL l (E : Int) = r := by unfold runL; rw [ha, decide_eq_true (by omega), ← hr, show (min (E : Int) 10000).toNat = E by omega]; rfl
      have D1 : Hid (∀ (i : Nat) (w' : World), Below w.heap.size w w' → Calls Tryd.prog 22 #[.slice A l.length cap, .slice T t.length tc, .int .i64 (i : Int)] w' (RetB (.tuple #[.int .i64 (doneN (doneAt l t (i : Int))), .bool (doneB (doneAt l t (i : Int)))]) w')) := fun i w' hb => doneAt_any A cap l T tc t (i : Int) _ _ w' hcap hlc hss (hL.below hb) (hR.below hb) htc htl (hT.below hb) rfl rfl
      have E1 : Hid (∀ w', Below w.heap.size w w' → Calls Tryd.prog 23 #[.slice A l.length cap] w' (RetB (.int .i64 (E : Int)) w')) := fun w' hb => end_any A cap l _ w' hcap hlc hss (hL.below hb) (hR.below hb) hez
      have R1 : Hid (∀ w', Below w.heap.size w w' → Calls Tryd.prog 11 #[.slice A l.length cap, .int .i64 (E : Int)] w' (fun e w2 => ∃ X c, e = .returned (.slice X E c) ∧ E ≤ c ∧ c ≤ 9223372036854775807 ∧ RdT w2 X r ∧ Below w'.heap.size w' w2)) := fun w' hb => (run_any A cap l (E : Int) w' (by omega) hcap hlc hss (hL.below hb) (hR.below hb)).mono fun e w2 ⟨X, c, h1, h2, h3, h4, h5, _⟩ => ⟨X, c, by rw [h1, hrun, hrl], by rw [hrun, hrl] at h2; exact h2, h3, by rw [hrun] at h4; exact h4, h5⟩
      have D2 : Hid (∀ (X : Option Addr) (c i : Nat) (x : Jb) (w' : World), (∀ i : Nat, i < n → doneB (doneAt l t (i : Int)) = true) → l[i]? = some x → Below w.heap.size w w' → E ≤ c → c ≤ 9223372036854775807 → RdT w' X r → ∃ z : Int, z ≤ x.dl ∧ Calls Tryd.prog 22 #[.slice A l.length cap, .slice X E c, .int .i64 (i : Int)] w' (RetB (.tuple #[.int .i64 z, .bool true]) w')) := fun X c i x w' hd hx hb h1 h2 h3 => by
        obtain ⟨r0, k1, k2⟩ := best_trace (m := E) hgg (fun y hy => by have := (endM_le l 0).2 y hy; omega) (fun i hi => hd i (by omega)) hx
        rw [hr] at k1
        have hdo := doneAt_is (t := r) ha hx
        rw [k1] at hdo
        have h := doneAt_any A cap l X c r (i : Int) (r0 : Int) true w' hcap hlc hss (hL.below hb) (hR.below hb) h2 (by omega) h3 (by rw [hdo]; rfl) (by rw [hdo]; rfl)
        rw [hrl] at h
        exact ⟨(r0 : Int), k2, h⟩
      have H := Lib.hid (And.intro hl hR)
      rw [hl] at A1 hlc h10 G1 D1 E1 R1 D2 ⊢
      rw [hm] at htl G1 D1 ⊢
      have hn10 : n ≤ 10 := by omega
      clear hL hR hT hgh hl hm hns hss hgg ha hg1 hE hez hr hrl hrun h10
      go_enter Tryd.func5, Tryd.ntmps5
      go_wp2_with fail
      refine A0.out.mono ?_; rintro e w0 ⟨rfl, b0⟩
      replace b0 := Lib.hid b0
      clear A0
      go_wp2_with fail
      refine (A1.out _ b0.out).mono ?_; rintro e w1 ⟨rfl, q1, rfl⟩
      replace b0 : Hid (Below w.heap.size w (w0.drewN q1)) := below_dN b0.out q1
      generalize w0.drewN q1 = w1 at *
      clear A1
      go_wp2_with fail
      refine (G1.out _ b0.out).mono ?_; rintro e w2 ⟨rfl, hb⟩
      have b2 := Lib.hid (below_on b0.out hb)
      clear G1 hb b0 d1
      go_wp2
      go_loopw [5] (fun st wr => ∃ (i : Nat), st = .int .i64 (i : Int) ∧ i ≤ n ∧ Hid (Below w.heap.size w wr ∧ ∀ j : Nat, j < i → doneB (doneAt l t (j : Int)) = true)) (fun st _ => n - (intOf st).toNat)
      case atStart => exact ⟨0, rfl, by omega, Lib.hid ⟨b2.out, fun j hj => by omega⟩⟩
      case round =>
        obtain ⟨i, rfl, hin, K⟩ := hrel
        rcases Nat.lt_or_ge i n with hlt | hge
        · have d1 : decide ((i : Int) < (n : Int)) = true := decide_eq_true (by omega)
          have e1 : IntKind.i64.wrap ((i : Int) + 1) = ((i + 1 : Nat) : Int) := by rw [IntKind.wrap_i64]; omega
          have D := Lib.hid (D1.out i _ K.out.1)
          have K2 : Hid (doneB (doneAt l t (i : Int)) = true → ∀ j : Nat, j < i + 1 → doneB (doneAt l t (j : Int)) = true) := fun h j hj => by
            by_cases c : j = i
            · subst c; exact h
            · exact K.out.2 j (by omega)
          generalize doneN (doneAt l t (i : Int)) = z at *
          generalize doneB (doneAt l t (i : Int)) = g at *
          go_wp2_with fail
          refine D.out.mono ?_; rintro e w3 ⟨rfl, hb⟩
          have b3 := Lib.hid (below_on K.out.1 hb)
          clear D hb K
          cases g
          · go_wp2
            go_ret
            exact ⟨rfl, by have s0 := b3.out.size; (try simp only [World.heap_drewN, World.size_alloc] at s0); repeat (first | exact Below.refl _ _ | exact b3.out | refine Below.trans ?_ (Below.mono b3.out (by first | omega | (simp; done) | (simp; omega))) | refine Below.setCell ?_ (by first | omega | (simp; done) | (simp; omega)) _ | refine below_dN ?_ _ | refine Below.drew ?_ | refine Below.alloc ?_ (by first | omega | (simp; done) | (simp; omega)) _)⟩
          · have K3 : Hid (Below w.heap.size w w3 ∧ ∀ j : Nat, j < i + 1 → doneB (doneAt l t (j : Int)) = true) := ⟨b3.out, K2.out rfl⟩
            clear K2 b3
            go_wp2
            go_roundw
            case rel => exact ⟨i + 1, by first | rfl | simp, by omega, K3⟩
            case measure => simp [intOf]; omega
        · have d1 : decide ((i : Int) < (n : Int)) = false := decide_eq_false (by omega)
          obtain rfl : i = n := by omega
          have D3 : Hid (∀ (X : Option Addr) (c q : Nat) (x : Jb) (w' : World), l[q]? = some x → Below w.heap.size w w' → E ≤ c → c ≤ 9223372036854775807 → RdT w' X r → ∃ z : Int, z ≤ x.dl ∧ Calls Tryd.prog 22 #[.slice A i cap, .slice X E c, .int .i64 (q : Int)] w' (RetB (.tuple #[.int .i64 z, .bool true]) w')) := fun X c q x w' hx hb h1 h2 h3 => D2.out X c q x w' K.out.2 hx hb h1 h2 h3
          have bb := Lib.hid K.out.1
          clear K D2 D1
          go_wp2_with fail
          refine (E1.out _ bb.out).mono ?_; rintro e w3 ⟨rfl, hb⟩
          have b3 := Lib.hid (below_on bb.out hb)
          clear hb bb E1
          go_wp2_with fail
          refine (R1.out _ b3.out).mono ?_; rintro e w4 ⟨X, c, rfl, hc1, hc2, hX, hb⟩
          have b4 := Lib.hid (below_on b3.out hb)
          replace hX := Lib.hid hX
          clear hb b3 R1
          go_wp2
          go_loopw [9] (fun st wr => ∃ (q : Nat), st = .int .i64 (q : Int) ∧ q ≤ i ∧ Hid (Below w.heap.size w wr ∧ RdT wr X r)) (fun st _ => i - (intOf st).toNat)
          case atStart => exact ⟨0, rfl, by omega, Lib.hid ⟨b4.out, hX.out⟩⟩
          case round =>
            obtain ⟨q, rfl, hqn, K⟩ := hrel
            rcases Nat.lt_or_ge q i with hlt | hge2
            · have d2 : decide ((q : Int) < (i : Int)) = true := decide_eq_true (by omega)
              have e1 : IntKind.i64.wrap ((q : Int) + 1) = ((q + 1 : Nat) : Int) := by rw [IntKind.wrap_i64]; omega
              have b1 : (q : Int) < (i : Int) := by omega
              obtain ⟨x, hx⟩ : ∃ x, l[q]? = some x := ⟨_, List.getElem?_eq_getElem (by rw [H.out.1]; exact hlt)⟩
              obtain ⟨z, hz, D⟩ := D3.out X c q x _ hx K.out.1 hc1 hc2 K.out.2
              replace D := Lib.hid D
              have hj0 := H.out.2 q x hx
              have hdl : Hid (∀ w', Below w.heap.size w w' → ∃ b off, A = some ⟨b, off, none⟩ ∧ w'.cell? ⟨b, off + q * 8 + 2, none⟩ = some (.int .i64 x.dl)) := fun w' hb => by
                obtain ⟨b, off, h1, h2⟩ := (H.out.2.below hb) q x hx
                exact ⟨b, off, h1, h2.2.2.1⟩
              clear hj0 hx
              generalize x.dl = d at *
              have d3 : decide (z > d) = false := decide_eq_false (by omega)
              go_wp2_with fail
              refine D.out.mono ?_; rintro e w5 ⟨rfl, hb⟩
              have K3 : Hid (Below w.heap.size w w5 ∧ RdT w5 X r) := ⟨below_on K.out.1 hb, K.out.2.below hb⟩
              obtain ⟨b, off, rfl, c2⟩ := hdl.out w5 K3.out.1
              clear D hb K hdl
              go_wp2
              go_roundw
              case rel => exact ⟨q + 1, by first | rfl | simp, by omega, K3⟩
              case measure => simp [intOf]; omega
            · have d2 : decide ((q : Int) < (i : Int)) = false := decide_eq_false (by omega)
              have bb := Lib.hid K.out.1
              clear K
              go_wp2
              go_ret
              exact ⟨rfl, by have s0 := bb.out.size; (try simp only [World.heap_drewN, World.size_alloc] at s0); repeat (first | exact Below.refl _ _ | exact bb.out | refine Below.trans ?_ (Below.mono bb.out (by first | omega | (simp; done) | (simp; omega))) | refine Below.setCell ?_ (by first | omega | (simp; done) | (simp; omega)) _ | refine below_dN ?_ _ | refine Below.drew ?_ | refine Below.alloc ?_ (by first | omega | (simp; done) | (simp; omega)) _)⟩
  · rw [hl] at A1 hlc ⊢
    rw [hm] at htl ⊢
    clear hL hR hT hgh hl hm
    go_enter Tryd.func5, Tryd.ntmps5
    go_wp2_with fail
    refine A0.out.mono ?_; rintro e w0 ⟨rfl, b0⟩
    replace b0 := Lib.hid b0
    clear A0
    go_wp2_with fail
    refine (A1.out _ b0.out).mono ?_; rintro e w1 ⟨rfl, q1, rfl⟩
    clear A1
    cases gh
    · have hm3 : ¬ m ≤ 200 := fun h => hgo ⟨rfl, h⟩
      have d1 : decide ((m : Int) > 200) = true := decide_eq_true (by omega)
      clear hgo
      go_wp2
      go_ret
      exact ⟨rfl, by have s0 := b0.out.size; (try simp only [World.heap_drewN, World.size_alloc] at s0); repeat (first | exact Below.refl _ _ | exact b0.out | refine Below.trans ?_ (Below.mono b0.out (by first | omega | (simp; done) | (simp; omega))) | refine Below.setCell ?_ (by first | omega | (simp; done) | (simp; omega)) _ | refine below_dN ?_ _ | refine Below.drew ?_ | refine Below.alloc ?_ (by first | omega | (simp; done) | (simp; omega)) _)⟩
    · go_wp2
      go_ret
      exact ⟨rfl, by have s0 := b0.out.size; (try simp only [World.heap_drewN, World.size_alloc] at s0); repeat (first | exact Below.refl _ _ | exact b0.out | refine Below.trans ?_ (Below.mono b0.out (by first | omega | (simp; done) | (simp; omega))) | refine Below.setCell ?_ (by first | omega | (simp; done) | (simp; omega)) _ | refine below_dN ?_ _ | refine Below.drew ?_ | refine Below.alloc ?_ (by first | omega | (simp; done) | (simp; omega)) _)⟩
end Go.Proofs.YtcohodpaagpfgaaDoor
