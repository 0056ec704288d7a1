/- The document's own Holds. -/
import Derived.Test.YtmokbmhobglhfaaDmRef2
namespace Go.Proofs.Ytmokbmhobglhfaa
open Go.RowKit Go.Lib
set_option linter.unusedVariables false
set_option linter.unusedSimpArgs false

set_option maxHeartbeats 3200000 in
set_option maxRecDepth 100000 in
theorem rholds_any (A : Option Addr) (cap : Nat) (l : List Tk) (g : Bool) (e : Int) (w : World) (hcap : cap ≤ 9223372036854775807) (hlc : l.length ≤ cap) (hR : RdK w A l) (hg : holdsB l = g) (he : frameE l = e) :
    Calls Try.prog 18 #[.slice A l.length cap] w (RetB (.tuple #[.bool g, .int .i64 e]) w) := by
  obtain ⟨N, hN⟩ : ∃ N, frameN l = N := ⟨_, rfl⟩
  have C1 := Lib.hid (rframe_any A cap l N e w hcap hlc hR hN he)
  by_cases h0 : e = 0
  · subst h0
    have C2 : Hid (∀ (s v : Int) (w' : World), Below w.heap.size w w' → fitB s = true → allZ l s = v → Calls Try.prog 15 #[.slice A l.length cap, .int .i64 s] w' (RetB (.int .i64 v) w')) := fun s v w' hb hf hv => rallz_any A cap l s v w' hcap hlc hf (hR.below hb) hv
    obtain ⟨_, n1, n2, _⟩ := frame_props he
    rw [hN] at n1 n2
    have T : Hid (heldTo l N → g = true) := fun h => by rw [← hg]; exact holdsB_iff.2 ⟨he, by rw [hN]; exact h⟩
    have U : Hid (∀ n : Int, 0 ≤ n → n < N → n + 1 < allZ l (n + 1) → g = false) := fun n k0 k1 k2 => by rw [← hg]; exact holds_no k0 (by rw [hN]; exact k1) k2
    clear hg he hN hR
    generalize l.length = n at *
    go_enter Try.func18, Try.ntmps18
    go_wp2_with fail
    refine C1.out.mono ?_; rintro e' gw ⟨rfl, g0⟩
    have hbg := Lib.hid g0
    clear C1 g0
    go_wp2
    go_loopw [6] (fun st wr => ∃ (p : Int), st = .int .i64 p ∧ 1 ≤ p ∧ p ≤ N + 1 ∧ Hid (heldTo l (p - 1) ∧ Below w.heap.size w wr)) (fun st _ => (N + 1 - intOf st).toNat)
    case atStart => exact ⟨1, rfl, by omega, by omega, Lib.hid ⟨fun s k1 k2 => by omega, hbg.out⟩⟩
    case round =>
      obtain ⟨p, rfl, hp1, hpN, K⟩ := hrel
      by_cases hlt : p ≤ N
      · have d1 : decide (p ≤ N) = true := decide_eq_true hlt
        obtain ⟨r, hr⟩ : ∃ r, p + 1 = r := ⟨_, rfl⟩
        have e1 : IntKind.i64.wrap (p + 1) = r := by rw [IntKind.wrap_i64]; omega
        have e2 : wrap64 (p + 1) = r := by unfold wrap64; omega
        obtain ⟨v, hv⟩ : ∃ v, allZ l p = v := ⟨_, rfl⟩
        have C := Lib.hid (C2.out p v wr K.out.2 (fitB_true ⟨by omega, by omega⟩) hv)
        have P : Hid (heldTo l (p - 1) ∧ allZ l p = v ∧ Below w.heap.size w wr) := ⟨K.out.1, hv, K.out.2⟩
        have hps : 1 ≤ r ∧ r ≤ N + 1 := by omega
        have hm : (N + 1 - r).toNat < (N + 1 - p).toNat := by omega
        have hpp := Lib.hid hr
        clear K hv hr
        by_cases hgt : v > p
        · have d2 : decide (v > p) = true := decide_eq_true hgt
          obtain rfl : g = false := U.out (p - 1) (by omega) (by omega) (by rw [show p - 1 + 1 = p by omega, P.out.2.1]; exact hgt)
          clear hgt
          go_wp2_with fail
          refine C.out.mono ?_; rintro e' hw ⟨rfl, hb⟩
          have b2 := Lib.hid (below_on P.out.2.2 hb)
          clear C hb
          go_wp2
          go_ret2
          exact ⟨rfl, by have s0 := b2.out.size; (try simp only [World.heap_drewN, World.size_alloc] at s0); repeat (first | exact Below.refl _ _ | exact b2.out | refine Below.trans ?_ (Below.mono b2.out (by first | omega | (simp; done) | (simp; omega))) | refine Below.setCell ?_ (by first | omega | (simp; done) | (simp; omega)) _ | refine below_dN ?_ _ | refine Below.drew ?_ | refine Below.alloc ?_ (by first | omega | (simp; done) | (simp; omega)) _)⟩
        · have d2 : decide (v > p) = false := decide_eq_false hgt
          have P2 : Hid (heldTo l (r - 1)) := by
            show heldTo l (r - 1)
            rw [← hpp.out, show p + 1 - 1 = p - 1 + 1 by omega]
            refine P.out.1.next ?_
            rw [show p - 1 + 1 = p by omega, P.out.2.1]; omega
          clear hgt
          go_wp2_with fail
          refine C.out.mono ?_; rintro e' hw ⟨rfl, hb⟩
          have b2 := Lib.hid (below_on P.out.2.2 hb)
          clear C hb
          go_wp2
          go_roundw
          case rel => exact ⟨r, by first | rfl | (simp; done) | rw [e1] | rw [e2], hps.1, hps.2, Lib.hid ⟨P2.out, b2.out⟩⟩
          case measure => simpa [intOf] using hm
      · have d1 : decide (p ≤ N) = false := decide_eq_false hlt
        obtain rfl : g = true := T.out (by have := K.out.1; rw [show p - 1 = N by omega] at this; exact this)
        have b2 := Lib.hid K.out.2
        clear K
        go_wp2
        go_ret2
        exact ⟨rfl, by have s0 := b2.out.size; (try simp only [World.heap_drewN, World.size_alloc] at s0); repeat (first | exact Below.refl _ _ | exact b2.out | refine Below.trans ?_ (Below.mono b2.out (by first | omega | (simp; done) | (simp; omega))) | refine Below.setCell ?_ (by first | omega | (simp; done) | (simp; omega)) _ | refine below_dN ?_ _ | refine Below.drew ?_ | refine Below.alloc ?_ (by first | omega | (simp; done) | (simp; omega)) _)⟩
  · obtain rfl : false = g := by rw [← hg]; exact (holds_bad (by rw [he]; exact h0)).symm
    have k : (e != 0) = true := by rw [bne, beq_eq_false_iff_ne.2 h0]; rfl
    clear hg he hN hR h0
    generalize l.length = n at *
    go_enter Try.func18, Try.ntmps18
    go_wp2_with fail
    refine C1.out.mono ?_; rintro e' gw ⟨rfl, g0⟩
    clear C1
    go_wp2
    go_ret2
    exact ⟨rfl, by have s0 := g0.size; (try simp only [World.heap_drewN, World.size_alloc] at s0); repeat (first | exact Below.refl _ _ | exact g0 | refine Below.trans ?_ (Below.mono g0 (by first | omega | (simp; done) | (simp; omega))) | refine Below.setCell ?_ (by first | omega | (simp; done) | (simp; omega)) _ | refine below_dN ?_ _ | refine Below.drew ?_ | refine Below.alloc ?_ (by first | omega | (simp; done) | (simp; omega)) _)⟩
end Go.Proofs.Ytmokbmhobglhfaa
