/- The contracts of package edf: least, Fits, Slack. -/
import Derived.Test.YtcohodpaagpfgaaDoorEdSort
namespace Go.Proofs.YtcohodpaagpfgaaDoor
open Go.RowKit Go.Lib
set_option linter.unusedVariables false
set_option linter.unusedSimpArgs false

theorem lf_num {now : Int} {l : List Lf} (hb : bndB now l = true) {k : Nat} {x : Lf} (hx : l[k]? = some x) : (-1000000 ≤ x.dl ∧ x.dl ≤ 1000000) ∧ (-1000000 ≤ x.need ∧ x.need ≤ 1000000) := (bndB_iff.1 hb).2.2 x (List.mem_of_getElem? hx)
set_option maxHeartbeats 1600000 in
set_option maxRecDepth 100000 in
theorem least_any (A : Option Addr) (cap : Nat) (l : List Lf) (now c : Int) (w : World) (hcap : cap ≤ 9223372036854775807) (hlc : l.length ≤ cap) (hR : RdL w A l) (hb : bndB now l = true) (hc : slackO now l = some c) :
    Calls Tryd.prog 28 #[.int .i64 now, .slice A l.length cap] w (RetB (.int .i64 c) w) := by
  obtain ⟨hn, ⟨hnow1, hnow2⟩, hnum⟩ := bndB_iff.1 hb
  obtain ⟨n, hl⟩ : ∃ n, l.length = n := ⟨_, rfl⟩
  have h0 : 0 < n := by
    rcases Nat.eq_zero_or_pos n with h | h
    · exfalso
      have : l = [] := List.eq_nil_of_length_eq_zero (by omega)
      subst this
      unfold slackO at hc
      rw [hb] at hc
      simp [slackGo] at hc
    · exact h
  obtain ⟨x0, hx0⟩ : ∃ x, l[0]? = some x := ⟨_, List.getElem?_eq_getElem (by omega)⟩
  obtain ⟨b, off, rfl, _, _⟩ := hR 0 x0 hx0
  have C1 := Lib.hid (cloneF_any b off cap l n w hl h0 (by omega) hR)
  have C2 : Hid (∀ (g c : Nat) (w' : World), Go.Sort.HoldsK encF 2 w' g 0 l.toArray → g < w'.heap.size → Calls Tryd.prog 48 #[.slice (some ⟨g, 0, none⟩) n c, .func (.func 49) #[] #[]] w' fun e w2 => e = .returned (.tuple #[]) ∧ ∃ s : List Lf, s.Perm l ∧ SrtL s ∧ RdL w2 (some ⟨g, 0, none⟩) s ∧ Below g w' w2) := fun g c w' h1 h2 => sortF_any g c l n w' hl (by omega) h1 h2
  have E : Hid (∀ (s : List Lf) (y : Lf), s.Perm l → SrtL s → s[0]? = some y → lstGo now s 0 (y.dl - now) = c) := fun s y h1 h2 h3 => by
    have := least_eq hb h1 h2 h3
    rw [hc] at this
    injection this with this
    exact this.symm
  have N : Hid (∀ s : List Lf, s.Perm l → s.length = n ∧ ∀ (k : Nat) (x : Lf), s[k]? = some x → (-1000000 ≤ x.dl ∧ x.dl ≤ 1000000) ∧ (-1000000 ≤ x.need ∧ x.need ≤ 1000000)) := fun s h => ⟨by rw [h.length_eq, hl], fun k x hx => hnum x (h.mem_iff.1 (List.mem_of_getElem? hx))⟩
  rw [hl] at hlc ⊢
  have hn2 : n ≤ 1000 := by omega
  clear hx0 hc hb hnum hl hR hn
  go_enter Tryd.func28, Tryd.ntmps28
  go_wp2_with fail
  refine C1.out.mono ?_; rintro e w1 ⟨g, c1, rfl, hg1, hg2, hc1, hc2, hH, hb1⟩
  replace hb1 := Lib.hid hb1
  have C3 := Lib.hid (C2.out g c1 w1 hH hg2)
  clear C1 C2 hH
  go_wp2_with fail
  refine C3.out.mono ?_; rintro e w2 ⟨rfl, s, hp, hs, hR, hb2⟩
  have b2 : Hid (Below w.heap.size w w2) := hb1.out.trans (hb2.mono hg1)
  obtain ⟨hsl, hsn⟩ := N.out s hp
  obtain ⟨y, hy⟩ : ∃ x, s[0]? = some x := ⟨_, List.getElem?_eq_getElem (by omega)⟩
  have E2 := Lib.hid (E.out s y hp hs hy)
  have hyn := hsn 0 y hy
  obtain ⟨b', off', he, c0, c1'⟩ := hR 0 y hy
  cases he
  obtain ⟨z0, hz0⟩ : ∃ z, y.dl - now = z := ⟨_, rfl⟩
  have e9 : wrap64 (y.dl - now) = z0 := by unfold wrap64; omega
  have hz0b : -2000000 ≤ z0 ∧ z0 ≤ 2000000 := by omega
  rw [hz0] at E2
  have H := Lib.hid (And.intro hsl (And.intro hsn hR))
  have q0 : (0 : Int) < (n : Int) := by omega
  clear C3 N E hp hs hb2 hsl hsn hR hy hb1 hz0 hyn c1'
  generalize y.dl = d0 at *
  replace hz0b := Lib.hid hz0b
  go_wp2
  clear c0 q0
  go_loopw [6, 7, 22] (fun s6 s7 st wr => ∃ (k : Nat) (nd z : Int), s6 = .int .i64 nd ∧ s7 = .int .i64 z ∧ st = .int .i64 (k : Int) ∧ k ≤ n ∧ Hid (0 ≤ nd ∧ nd ≤ 1000000 * (k : Int) ∧ -1002000000 ≤ z ∧ z ≤ 2000000) ∧ Hid (lstGo now (s.drop k) nd z = c ∧ Below w2.heap.size w2 wr)) (fun _ _ st _ => n - (intOf st).toNat)
  case atStart => exact ⟨0, 0, z0, rfl, by first | rfl | rw [e9], rfl, by omega, Lib.hid ⟨by omega, by omega, by have := hz0b.out; omega, hz0b.out.2⟩, Lib.hid ⟨by simpa using E2.out, Below.refl _ _⟩⟩
  case round =>
    clear e9
    obtain ⟨k, nd, z, rfl, rfl, rfl, hkn, Bd, K⟩ := hrel
    rcases Nat.lt_or_ge k n with hlt | hge
    · have d1 : decide ((k : Int) < (n : Int)) = true := decide_eq_true (by omega)
      have e1 : IntKind.i64.wrap ((k : Int) + 1) = ((k + 1 : Nat) : Int) := by rw [IntKind.wrap_i64]; omega
      obtain ⟨x, hx⟩ : ∃ x, s[k]? = some x := ⟨_, List.getElem?_eq_getElem (by rw [H.out.1]; exact hlt)⟩
      obtain ⟨B, off2, he, c0, c1'⟩ := (H.out.2.2.below K.out.2) k x hx
      cases he
      have hxn := H.out.2.1 k x hx
      have hpm := pos_max x
      have hp0 := pos_nonneg x
      have hp1 := pos_le hxn.2.2
      have K2 : Hid (lstGo now (s.drop (k + 1)) (nd + x.pos) (min z (x.dl - now - (nd + x.pos))) = c ∧ Below w2.heap.size w2 wr) := ⟨by rw [← lstGo_at hx]; exact K.out.1, K.out.2⟩
      clear hx K
      obtain ⟨d, need⟩ := x
      simp only [Nat.zero_add] at c0 c1' hxn hpm K2
      generalize Lf.pos ⟨d, need⟩ = p at *
      obtain ⟨nd2, hnd2⟩ : ∃ q, nd + p = q := ⟨_, rfl⟩
      obtain ⟨a, ha⟩ : ∃ q, d - now = q := ⟨_, rfl⟩
      obtain ⟨f, hf⟩ : ∃ q, a - nd2 = q := ⟨_, rfl⟩
      obtain ⟨z2, hz2⟩ : ∃ q, min z f = q := ⟨_, rfl⟩
      have bd := Bd.out
      have hk3 : (k : Int) < 1000 := by omega
      have Bd2 : Hid (0 ≤ nd2 ∧ nd2 ≤ 1000000 * ((k + 1 : Nat) : Int) ∧ -1002000000 ≤ z2 ∧ z2 ≤ 2000000) := by show _ ∧ _; omega
      have e2 : IntKind.i64.wrap (nd + p) = nd2 := by rw [IntKind.wrap_i64]; omega
      have e2' : wrap64 (nd + p) = nd2 := by unfold wrap64; omega
      have e3 : IntKind.i64.wrap (d - now) = a := by rw [IntKind.wrap_i64]; omega
      have e3' : wrap64 (d - now) = a := by unfold wrap64; omega
      have e4 : IntKind.i64.wrap (a - nd2) = f := by rw [IntKind.wrap_i64]; omega
      have e4' : wrap64 (a - nd2) = f := by unfold wrap64; omega
      rw [hnd2, ha, hf, hz2] at K2
      have hk1 : k + 1 ≤ n := by omega
      have hm : n - (k + 1) < n - k := by omega
      clear hxn hp0 hp1 hnd2 ha hf bd Bd hk3
      go_wp2
      go_roundw
      case rel => exact ⟨k + 1, nd2, z2, by first | rfl | simp, by first | rfl | simp, by first | rfl | simp, hk1, Bd2, Lib.hid ⟨K2.out.1, below_on K2.out.2 (by repeat (first | exact Below.refl _ _ | refine Below.setCell ?_ (by first | omega | (simp; done) | (simp; omega)) _ | refine below_dN ?_ _ | refine Below.drew ?_ | refine Below.alloc ?_ (by first | omega | (simp; done) | (simp; omega)) _))⟩⟩
      case measure => simp [intOf]; omega
    · have d1 : decide ((k : Int) < (n : Int)) = false := decide_eq_false (by omega)
      obtain rfl : z = c := by have := K.out.1; rw [lstGo_end (by rw [H.out.1]; exact hge)] at this; exact this
      have bb : Hid (Below w.heap.size w wr) := below_on b2.out K.out.2
      clear K Bd
      go_wp2
      go_ret
      exact ⟨rfl, by have s0 := bb.out.size; (try simp only [World.heap_drewN, World.size_alloc] at s0); repeat (first | exact Below.refl _ _ | exact bb.out | refine Below.trans ?_ (Below.mono bb.out (by first | omega | (simp; done) | (simp; omega))) | refine Below.setCell ?_ (by first | omega | (simp; done) | (simp; omega)) _ | refine below_dN ?_ _ | refine Below.drew ?_ | refine Below.alloc ?_ (by first | omega | (simp; done) | (simp; omega)) _)⟩
set_option maxHeartbeats 800000 in
set_option maxRecDepth 100000 in
theorem slack_any (A : Option Addr) (cap : Nat) (l : List Lf) (now z : Int) (g : Bool) (w : World) (hcap : cap ≤ 9223372036854775807) (hlc : l.length ≤ cap) (hR : RdL w A l) (hz : oZ (slackO now l) = z) (hg : oB (slackO now l) = g) :
    Calls Tryd.prog 9 #[.int .i64 now, .slice A l.length cap] w (RetB (.tuple #[.int .i64 z, .bool g]) w) := by
  obtain ⟨q, hq⟩ : ∃ q, bndB now l = q := ⟨_, rfl⟩
  have C1 := Lib.hid (legal_any A cap l now q w hcap hlc hR hq)
  cases q
  · have e : slackO now l = none := by unfold slackO; rw [hq]; rfl
    rw [e] at hz hg
    obtain rfl : 0 = z := hz
    obtain rfl : false = g := hg
    generalize l.length = n at *
    clear hR hq e
    go_enter Tryd.func9, Tryd.ntmps9
    go_wp2_with fail
    refine C1.out.mono ?_; rintro e gw ⟨rfl, gb⟩
    clear C1
    go_wp2
    go_ret2
    exact ⟨rfl, by have s0 := gb.size; (try simp only [World.heap_drewN, World.size_alloc] at s0); repeat (first | exact Below.refl _ _ | exact gb | refine Below.trans ?_ (Below.mono gb (by first | omega | (simp; done) | (simp; omega))) | refine Below.setCell ?_ (by first | omega | (simp; done) | (simp; omega)) _ | refine below_dN ?_ _ | refine Below.drew ?_ | refine Below.alloc ?_ (by first | omega | (simp; done) | (simp; omega)) _)⟩
  · by_cases hl : l = []
    · subst hl
      have e : slackO now [] = none := by unfold slackO slackGo; rw [hq]; rfl
      rw [e] at hz hg
      obtain rfl : 0 = z := hz
      obtain rfl : false = g := hg
      simp only [List.length_nil] at *
      clear hR hq e
      go_enter Tryd.func9, Tryd.ntmps9
      go_wp2_with fail
      refine C1.out.mono ?_; rintro e gw ⟨rfl, gb⟩
      clear C1
      go_wp2
      go_ret2
      exact ⟨rfl, by have s0 := gb.size; (try simp only [World.heap_drewN, World.size_alloc] at s0); repeat (first | exact Below.refl _ _ | exact gb | refine Below.trans ?_ (Below.mono gb (by first | omega | (simp; done) | (simp; omega))) | refine Below.setCell ?_ (by first | omega | (simp; done) | (simp; omega)) _ | refine below_dN ?_ _ | refine Below.drew ?_ | refine Below.alloc ?_ (by first | omega | (simp; done) | (simp; omega)) _)⟩
    · obtain ⟨c, hc, _⟩ := slackO_iff hq hl
      rw [hc] at hz hg
      obtain rfl : c = z := hz
      obtain rfl : true = g := hg
      have C2 : Hid (∀ w', Below w.heap.size w w' → Calls Tryd.prog 28 #[.int .i64 now, .slice A l.length cap] w' (RetB (.int .i64 c) w')) := fun w' hb => least_any A cap l now c w' hcap hlc (hR.below hb) hq hc
      obtain ⟨n, hn⟩ : ∃ n, l.length = n := ⟨_, rfl⟩
      have d1 : ((n : Int) == 0) = false := by
        rw [beq_eq_false_iff_ne]
        intro h
        exact hl (List.eq_nil_of_length_eq_zero (by omega))
      rw [hn] at C1 C2 hlc ⊢
      clear hR hq hl hc hn
      go_enter Tryd.func9, Tryd.ntmps9
      go_wp2_with fail
      refine C1.out.mono ?_; rintro e gw ⟨rfl, gb⟩
      replace C2 := Lib.hid (C2.out gw gb)
      clear C1
      replace gb := Lib.hid gb
      go_wp2_with fail
      refine C2.out.mono ?_; rintro e hw ⟨rfl, hb⟩
      have b2 : Hid (Below w.heap.size w hw) := below_on gb.out hb
      clear C2 gb hb
      go_wp2
      go_ret2
      exact ⟨rfl, by have s0 := b2.out.size; (try simp only [World.heap_drewN, World.size_alloc] at s0); repeat (first | exact Below.refl _ _ | exact b2.out | refine Below.trans ?_ (Below.mono b2.out (by first | omega | (simp; done) | (simp; omega))) | refine Below.setCell ?_ (by first | omega | (simp; done) | (simp; omega)) _ | refine below_dN ?_ _ | refine Below.drew ?_ | refine Below.alloc ?_ (by first | omega | (simp; done) | (simp; omega)) _)⟩
set_option maxHeartbeats 800000 in
set_option maxRecDepth 100000 in
theorem fits_any (A : Option Addr) (cap : Nat) (l : List Lf) (now : Int) (g : Bool) (w : World) (hcap : cap ≤ 9223372036854775807) (hlc : l.length ≤ cap) (hR : RdL w A l) (hg : fitsB now l = g) :
    Calls Tryd.prog 13 #[.int .i64 now, .slice A l.length cap] w (RetB (.bool g) w) := by
  rw [fits_slack] at hg
  obtain ⟨q, hq⟩ : ∃ q, bndB now l = q := ⟨_, rfl⟩
  have C1 := Lib.hid (legal_any A cap l now q w hcap hlc hR hq)
  rw [hq] at hg
  cases q
  · obtain rfl : false = g := hg
    generalize l.length = n at *
    clear hR hq
    go_enter Tryd.func13, Tryd.ntmps13
    go_wp2_with fail
    refine C1.out.mono ?_; rintro e gw ⟨rfl, gb⟩
    clear C1
    go_wp2
    go_ret
    exact ⟨rfl, by have s0 := gb.size; (try simp only [World.heap_drewN, World.size_alloc] at s0); repeat (first | exact Below.refl _ _ | exact gb | refine Below.trans ?_ (Below.mono gb (by first | omega | (simp; done) | (simp; omega))) | refine Below.setCell ?_ (by first | omega | (simp; done) | (simp; omega)) _ | refine below_dN ?_ _ | refine Below.drew ?_ | refine Below.alloc ?_ (by first | omega | (simp; done) | (simp; omega)) _)⟩
  · rw [Bool.true_and] at hg
    by_cases hl : l = []
    · subst hl
      have e : slackO now [] = none := by unfold slackO slackGo; rw [hq]; rfl
      rw [e] at hg
      obtain rfl : true = g := hg
      simp only [List.length_nil] at *
      clear hR hq e
      go_enter Tryd.func13, Tryd.ntmps13
      go_wp2_with fail
      refine C1.out.mono ?_; rintro e gw ⟨rfl, gb⟩
      clear C1
      go_wp2
      go_ret
      exact ⟨rfl, by have s0 := gb.size; (try simp only [World.heap_drewN, World.size_alloc] at s0); repeat (first | exact Below.refl _ _ | exact gb | refine Below.trans ?_ (Below.mono gb (by first | omega | (simp; done) | (simp; omega))) | refine Below.setCell ?_ (by first | omega | (simp; done) | (simp; omega)) _ | refine below_dN ?_ _ | refine Below.drew ?_ | refine Below.alloc ?_ (by first | omega | (simp; done) | (simp; omega)) _)⟩
    · obtain ⟨c, hc, _⟩ := slackO_iff hq hl
      rw [hc] at hg
      have hg2 : decide (c ≥ 0) = g := hg
      have C2 : Hid (∀ w', Below w.heap.size w w' → Calls Tryd.prog 28 #[.int .i64 now, .slice A l.length cap] w' (RetB (.int .i64 c) w')) := fun w' hb => least_any A cap l now c w' hcap hlc (hR.below hb) hq hc
      obtain ⟨n, hn⟩ : ∃ n, l.length = n := ⟨_, rfl⟩
      have d1 : ((n : Int) == 0) = false := by
        rw [beq_eq_false_iff_ne]
        intro h
        exact hl (List.eq_nil_of_length_eq_zero (by omega))
      rw [hn] at C1 C2 hlc ⊢
      clear hR hq hl hc hn hg
      go_enter Tryd.func13, Tryd.ntmps13
      go_wp2_with fail
      refine C1.out.mono ?_; rintro e gw ⟨rfl, gb⟩
      replace C2 := Lib.hid (C2.out gw gb)
      clear C1
      replace gb := Lib.hid gb
      go_wp2_with fail
      refine C2.out.mono ?_; rintro e hw ⟨rfl, hb⟩
      have b2 : Hid (Below w.heap.size w hw) := below_on gb.out hb
      clear C2 gb hb
      go_wp2
      go_ret
      exact ⟨by first | rfl | exact ret_b hg2, by have s0 := b2.out.size; (try simp only [World.heap_drewN, World.size_alloc] at s0); repeat (first | exact Below.refl _ _ | exact b2.out | refine Below.trans ?_ (Below.mono b2.out (by first | omega | (simp; done) | (simp; omega))) | refine Below.setCell ?_ (by first | omega | (simp; done) | (simp; omega)) _ | refine below_dN ?_ _ | refine Below.drew ?_ | refine Below.alloc ?_ (by first | omega | (simp; done) | (simp; omega)) _)⟩
end Go.Proofs.YtcohodpaagpfgaaDoor
