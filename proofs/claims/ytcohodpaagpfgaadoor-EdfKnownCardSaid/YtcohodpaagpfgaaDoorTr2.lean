/- The contracts of package trace: done, met, DoneAt, MetBy, Value. -/
import Derived.Test.YtcohodpaagpfgaaDoorTr1
namespace Go.Proofs.YtcohodpaagpfgaaDoor
open Go.RowKit Go.Lib
set_option linter.unusedVariables false
set_option linter.unusedSimpArgs false

theorem metO_eq (o : Option Nat) (d : Int) (r : Bool) : metO o d r = (doneB o && (decide (doneN o ≤ d) && r)) := by cases o <;> rfl
set_option maxHeartbeats 1600000 in
set_option maxRecDepth 100000 in
theorem done_any (j : Jb) (A : Option Addr) (cap : Nat) (t : List Int) (i : Int) (o : Option Nat) (z : Int) (g : Bool) (w : World) (hg : j.good = true) (hs : j.name.size ≤ 1000000) (hL : Ltr w) (hcap : cap ≤ 9223372036854775807) (hlc : t.length ≤ cap) (hR : RdT w A t)
    (ho : doneGo i j.work t 0 = o) (hz : doneN o = z) (hb : doneB o = g) :
    Calls Tryd.prog 42 #[.agg j.cells, .slice A t.length cap, .int .i64 i] w (RetB (.tuple #[.int .i64 z, .bool g]) w) := by
  obtain ⟨k1, k2⟩ := work_good hg
  obtain ⟨W, hW⟩ : ∃ z, j.work = z := ⟨_, rfl⟩
  have C : Hid (∀ w', Below w.heap.size w w' → Calls Tryd.prog 25 #[.agg j.cells] w' (RetB (.int .i64 W) w')) := fun w' hb => hW ▸ jwork_any j w' hs (hL.below hb)
  rw [hW] at ho k1 k2
  obtain ⟨n, hl⟩ : ∃ n, t.length = n := ⟨_, rfl⟩
  rw [hl] at hlc ⊢
  have H := Lib.hid (And.intro hl (And.intro hR (And.intro ho (And.intro hz hb))))
  clear hl hR ho hg hs hL hW hz hb
  unfold Jb.cells at *
  obtain ⟨s, r, d, b, a, v, c, h⟩ := j
  simp only at *
  go_enter Tryd.func42, Tryd.ntmps42
  go_wp2_with fail
  refine (C.out _ (by repeat (first | exact Below.refl _ _ | refine Below.setCell ?_ (by first | omega | (simp; done) | (simp; omega)) _ | refine below_dN ?_ _ | refine Below.drew ?_ | refine Below.alloc ?_ (by first | omega | (simp; done) | (simp; omega)) _))).mono ?_; rintro e gw ⟨rfl, gb⟩
  replace gb : Hid (Below w.heap.size w gw) := by refine below_on ?_ gb; exact by repeat (first | exact Below.refl _ _ | refine Below.setCell ?_ (by first | omega | (simp; done) | (simp; omega)) _ | refine below_dN ?_ _ | refine Below.drew ?_ | refine Below.alloc ?_ (by first | omega | (simp; done) | (simp; omega)) _)
  clear C
  have RT : Hid (RdT gw A t) := H.out.2.1.below gb.out
  go_wp2
  go_loopw [8, 15] (fun s8 st wr => ∃ (k : Nat) (f : Int), s8 = .int .i64 f ∧ st = .int .i64 (k : Int) ∧ k ≤ n ∧ 1 ≤ f ∧ f ≤ 1100 ∧ wr = gw ∧ Hid (doneGo i f (t.drop k) k = o)) (fun _ st _ => n - (intOf st).toNat)
  case atStart => exact ⟨0, W, rfl, rfl, by omega, by omega, by omega, rfl, Lib.hid (by simpa using H.out.2.2.1)⟩
  case round =>
    obtain ⟨k, f, rfl, rfl, hkn, hf1, hf2, rfl, K⟩ := hrel
    rcases Nat.lt_or_ge k n with hlt | hge
    · have d1 : decide ((k : Int) < (n : Int)) = true := decide_eq_true (by omega)
      have e1 : IntKind.i64.wrap ((k : Int) + 1) = ((k + 1 : Nat) : Int) := by rw [IntKind.wrap_i64]; omega
      obtain ⟨x, hx⟩ : ∃ x, t[k]? = some x := ⟨_, List.getElem?_eq_getElem (by rw [H.out.1]; exact hlt)⟩
      obtain ⟨B, off, rfl, c0⟩ := RT.out k x hx
      have K2 : Hid (doneGo i f (x :: t.drop (k + 1)) k = o) := by have := K.out; rw [dropT_at hx] at this; exact this
      clear hx K
      by_cases hxi : x = i
      · have d2 : (x != i) = false := by simp [hxi]
        obtain ⟨q, hq⟩ : ∃ q, f = q + 1 := ⟨f - 1, by omega⟩
        have e3 : IntKind.i64.wrap (f - 1) = q := by rw [IntKind.wrap_i64]; omega
        have e4 : wrap64 (f - 1) = q := by unfold wrap64; omega
        by_cases hz : f - 1 = 0
        · have d3 : (q == 0) = true := by rw [beq_iff_eq]; omega
          have ho : some (k + 1) = o := by have := K2.out; rw [hxi, doneGo_last hz] at this; exact this
          have hz2 : ((k + 1 : Nat) : Int) = z := by rw [← H.out.2.2.2.1, ← ho]; rfl
          have hb2 : true = g := by rw [← H.out.2.2.2.2, ← ho]; rfl
          subst hb2
          replace hz2 := Lib.hid hz2
          clear K2 hxi hz ho hq
          go_wp2
          go_ret2
          exact ⟨by first | exact ret_ib hz2.out rfl | (rw [← hz2.out]), gb.out⟩
        · have d3 : (q == 0) = false := by rw [beq_eq_false_iff_ne]; omega
          have K3 : Hid (doneGo i q (t.drop (k + 1)) (k + 1) = o) := by have := K2.out; rw [hxi, doneGo_one hz] at this; rw [show q = f - 1 by omega]; exact this
          have q1 : 1 ≤ q := by omega
          have q2 : q ≤ 1100 := by omega
          clear K2 hxi hz hq
          go_wp2
          go_roundw
          case rel => exact ⟨k + 1, q, by first | rfl | simp, by first | rfl | simp, by omega, q1, q2, by first | rfl | trivial, K3⟩
          case measure => simp [intOf]; omega
      · have d2 : (x != i) = true := by simp [hxi]
        have K3 : Hid (doneGo i f (t.drop (k + 1)) (k + 1) = o) := by have := K2.out; rw [doneGo_other hxi] at this; exact this
        clear K2 hxi
        go_wp2
        go_roundw
        case rel => exact ⟨k + 1, f, rfl, by first | rfl | simp, by omega, by omega, by omega, by first | rfl | trivial, K3⟩
        case measure => simp [intOf]; omega
    · have d1 : decide ((k : Int) < (n : Int)) = false := decide_eq_false (by omega)
      have ho : none = o := by have := K.out; rw [List.drop_eq_nil_of_le (by rw [H.out.1]; exact hge)] at this; exact this
      have hz2 : 0 = z := by rw [← H.out.2.2.2.1, ← ho]; rfl
      have hb2 : false = g := by rw [← H.out.2.2.2.2, ← ho]; rfl
      subst hz2
      subst hb2
      clear K ho
      go_wp2
      go_ret2
      exact ⟨rfl, gb.out⟩
set_option maxHeartbeats 1600000 in
set_option maxRecDepth 100000 in
theorem doneAt_any (A : Option Addr) (cap : Nat) (l : List Jb) (T : Option Addr) (tc : Nat) (t : List Int) (i z : Int) (g : Bool) (w : World) (hcap : cap ≤ 9223372036854775807) (hlc : l.length ≤ cap) (hs : ∀ x ∈ l, x.name.size ≤ 1000000) (hL : Ltr w) (hR : RdJ w A l)
    (htc : tc ≤ 9223372036854775807) (htl : t.length ≤ tc) (hT : RdT w T t) (hz : doneN (doneAt l t i) = z) (hb : doneB (doneAt l t i) = g) :
    Calls Tryd.prog 22 #[.slice A l.length cap, .slice T t.length tc, .int .i64 i] w (RetB (.tuple #[.int .i64 z, .bool g]) w) := by
  obtain ⟨ga, hga⟩ : ∃ q, allB l = q := ⟨_, rfl⟩
  obtain ⟨gh, hgh⟩ : ∃ q, hasB l i = q := ⟨_, rfl⟩
  have C1 : Hid (Calls Tryd.prog 24 #[.slice A l.length cap] w (RetB (.bool ga) w)) := all_any A cap l ga w hcap hlc hs hL hR hga
  have C2 : Hid (∀ w', Calls Tryd.prog 40 #[.slice A l.length cap, .int .i64 i] w' (Ret (.bool gh) w')) := fun w' => has_any A cap l.length i gh w' hgh
  unfold doneAt at hz hb
  rw [hga, hgh] at hz hb
  obtain ⟨n, hl⟩ : ∃ n, l.length = n := ⟨_, rfl⟩
  obtain ⟨m, hm⟩ : ∃ n, t.length = n := ⟨_, rfl⟩
  cases ga
  · obtain rfl : 0 = z := by rw [← hz]; rfl
    obtain rfl : false = g := by rw [← hb]; rfl
    rw [hl] at C1 C2 hlc ⊢
    rw [hm] at htl ⊢
    clear hl hm hs hL hR hT hz hb hga hgh
    go_enter Tryd.func22, Tryd.ntmps22
    go_wp2_with fail
    refine C1.out.mono ?_; rintro e gw ⟨rfl, gb⟩
    clear C1
    go_wp2
    go_ret2
    exact ⟨rfl, by have s0 := gb.size; (try simp only [World.heap_drewN, World.size_alloc] at s0); repeat (first | exact Below.refl _ _ | exact gb | refine Below.trans ?_ (Below.mono gb (by first | omega | (simp; done) | (simp; omega))) | refine Below.setCell ?_ (by first | omega | (simp; done) | (simp; omega)) _ | refine below_dN ?_ _ | refine Below.drew ?_ | refine Below.alloc ?_ (by first | omega | (simp; done) | (simp; omega)) _)⟩
  · cases gh
    · obtain rfl : 0 = z := by rw [← hz]; rfl
      obtain rfl : false = g := by rw [← hb]; rfl
      rw [hl] at C1 C2 hlc ⊢
      rw [hm] at htl ⊢
      clear hl hm hs hL hR hT hz hb hga hgh
      go_enter Tryd.func22, Tryd.ntmps22
      go_wp2_with fail
      refine C1.out.mono ?_; rintro e gw ⟨rfl, gb⟩
      clear C1
      go_wp2_with fail
      refine (C2.out _).mono ?_; rintro e w' ⟨rfl, n1, rfl⟩
      go_wp2
      go_ret2
      exact ⟨rfl, by have s0 := gb.size; (try simp only [World.heap_drewN, World.size_alloc] at s0); repeat (first | exact Below.refl _ _ | exact gb | refine Below.trans ?_ (Below.mono gb (by first | omega | (simp; done) | (simp; omega))) | refine Below.setCell ?_ (by first | omega | (simp; done) | (simp; omega)) _ | refine below_dN ?_ _ | refine Below.drew ?_ | refine Below.alloc ?_ (by first | omega | (simp; done) | (simp; omega)) _)⟩
    · obtain ⟨h0, h1⟩ := hasB_iff.1 hgh
      obtain ⟨k, rfl⟩ := Int.eq_ofNat_of_zero_le h0
      obtain ⟨x, hx⟩ : ∃ x, l[k]? = some x := ⟨_, List.getElem?_eq_getElem (by omega)⟩
      have b1 : (k : Int) < (n : Int) := by omega
      rw [if_pos (show (true && true) = true from rfl), Int.toNat_natCast, hx] at hz hb
      simp only at hz hb
      have hgx := good_of_all hga hx
      have hsx := hs x (List.mem_of_getElem? hx)
      have C3 : Hid (∀ w', Below w.heap.size w w' → Calls Tryd.prog 42 #[.agg x.cells, .slice T t.length tc, .int .i64 (k : Int)] w' (RetB (.tuple #[.int .i64 z, .bool g]) w')) := fun w' hb' => done_any x T tc t k _ z g w' hgx hsx (hL.below hb') htc htl (hT.below hb') rfl hz hb
      have RJ : Hid (∀ w', Below w.heap.size w w' → RdJ w' A l) := fun w' hb => hR.below hb
      rw [hl] at C1 C2 hlc ⊢
      rw [hm] at htl C3 ⊢
      replace hx := Lib.hid hx
      clear hl hm hs hL hR hT hz hb hga hgh h0 h1 hgx hsx
      go_enter Tryd.func22, Tryd.ntmps22
      go_wp2_with fail
      refine C1.out.mono ?_; rintro e gw ⟨rfl, gb⟩
      obtain ⟨B, off, rfl, hJ⟩ := RJ.out gw gb k x hx.out
      unfold JAt at hJ
      unfold Jb.cells at C3
      clear hx RJ C1
      obtain ⟨s, r, d, b, a, v, c, h⟩ := x
      simp only at hJ C3
      obtain ⟨c0, c1, c2, c3, c4, c5, c6, c7⟩ := hJ
      replace gb := Lib.hid gb
      go_wp2_with fail
      refine (C2.out _).mono ?_; rintro e w' ⟨rfl, n2, rfl⟩
      go_wp2_with fail
      refine (C3.out _ (by have s0 := gb.out.size; (try simp only [World.heap_drewN, World.size_alloc] at s0); repeat (first | exact Below.refl _ _ | exact gb.out | refine Below.trans ?_ (Below.mono gb.out (by first | omega | (simp; done) | (simp; omega))) | refine Below.setCell ?_ (by first | omega | (simp; done) | (simp; omega)) _ | refine below_dN ?_ _ | refine Below.drew ?_ | refine Below.alloc ?_ (by first | omega | (simp; done) | (simp; omega)) _))).mono ?_; rintro e hw ⟨rfl, hb⟩
      have hb2 : Hid (Below w.heap.size w hw) := by refine below_on ?_ hb; exact by have s0 := gb.out.size; (try simp only [World.heap_drewN, World.size_alloc] at s0); repeat (first | exact Below.refl _ _ | exact gb.out | refine Below.trans ?_ (Below.mono gb.out (by first | omega | (simp; done) | (simp; omega))) | refine Below.setCell ?_ (by first | omega | (simp; done) | (simp; omega)) _ | refine below_dN ?_ _ | refine Below.drew ?_ | refine Below.alloc ?_ (by first | omega | (simp; done) | (simp; omega)) _)
      clear C3 c0 c1 c2 c3 c4 c5 c6 c7 hb
      go_wp2
      go_ret2
      exact ⟨rfl, by have s0 := hb2.out.size; (try simp only [World.heap_drewN, World.size_alloc] at s0); repeat (first | exact Below.refl _ _ | exact hb2.out | refine Below.trans ?_ (Below.mono hb2.out (by first | omega | (simp; done) | (simp; omega))) | refine Below.setCell ?_ (by first | omega | (simp; done) | (simp; omega)) _ | refine below_dN ?_ _ | refine Below.drew ?_ | refine Below.alloc ?_ (by first | omega | (simp; done) | (simp; omega)) _)⟩
end Go.Proofs.YtcohodpaagpfgaaDoor
