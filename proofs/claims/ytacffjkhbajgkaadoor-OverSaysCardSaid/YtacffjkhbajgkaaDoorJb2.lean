/- Lists of jobs: All, End; what the statements ask first. -/
import Derived.Test.YtacffjkhbajgkaaDoorJb1
namespace Go.Proofs.YtacffjkhbajgkaaDoor
open Go.RowKit Go.Lib
set_option linter.unusedVariables false
set_option linter.unusedSimpArgs false

def allB (l : List Jb) : Bool := decide (l.length ≤ 200) && l.all Jb.good
def endM (e : Int) (l : List Jb) : Int := l.foldl (fun e j => max e j.dl) e
def endZ (l : List Jb) : Int := if allB l then endM 0 l else 0
theorem all_take_next {l : List Jb} {i : Nat} {x : Jb} (h : l[i]? = some x) : (l.take (i + 1)).all Jb.good = ((l.take i).all Jb.good && x.good) := by
  rw [List.take_add_one, h]; simp
theorem all_false {l : List Jb} {i : Nat} {x : Jb} (h : l[i]? = some x) (hx : x.good = false) : l.all Jb.good = false := by
  rw [List.all_eq_false]
  exact ⟨x, List.mem_of_getElem? h, by simp [hx]⟩
theorem endM_next {l : List Jb} {i : Nat} {x : Jb} (h : l[i]? = some x) : endM 0 (l.take (i + 1)) = max (endM 0 (l.take i)) x.dl := by
  unfold endM; rw [List.take_add_one, h]; simp
set_option maxHeartbeats 1600000 in
set_option maxRecDepth 100000 in
theorem all_any (A : Option Addr) (cap : Nat) (l : List Jb) (g : Bool) (w : World) (hcap : cap ≤ 9223372036854775807) (hlc : l.length ≤ cap) (hs : ∀ x ∈ l, x.name.size ≤ 1000000) (hL : Ltr w) (hR : RdJ w A l) (hg : allB l = g) :
    Calls Tryd.prog 17 #[.slice A l.length cap] w (RetB (.bool g) w) := by
  unfold allB at hg
  obtain ⟨n, hl⟩ : ∃ n, l.length = n := ⟨_, rfl⟩
  rw [hl] at hg hlc ⊢
  have H := Lib.hid (And.intro hl (And.intro hs (And.intro hL hR)))
  clear hl hs hL hR
  by_cases h200 : n ≤ 200
  · rw [decide_eq_true h200, Bool.true_and] at hg
    have d1 : decide ((n : Int) > 200) = false := decide_eq_false (by omega)
    replace hg := Lib.hid hg
    go_enter Tryd.func17, Tryd.ntmps17
    go_wp2
    clear d1
    go_loopw [10] (fun st wr => ∃ (i : Nat), st = .int .i64 (i : Int) ∧ i ≤ n ∧ Hid ((l.take i).all Jb.good = true ∧ Below w.heap.size w wr)) (fun st _ => n - (intOf st).toNat)
    case atStart => exact ⟨0, rfl, by omega, Lib.hid ⟨by simp, Below.refl _ _⟩⟩
    case round =>
      obtain ⟨i, rfl, hin, K⟩ := hrel
      rcases Nat.lt_or_ge i n with hlt | hge
      · have d1 : decide ((i : Int) < (n : Int)) = true := decide_eq_true (by omega)
        have e1 : IntKind.i64.wrap ((i : Int) + 1) = ((i + 1 : Nat) : Int) := by rw [IntKind.wrap_i64]; omega
        obtain ⟨x, hx⟩ : ∃ x, l[i]? = some x := ⟨_, List.getElem?_eq_getElem (by rw [H.out.1]; exact hlt)⟩
        obtain ⟨B, off, rfl, hJ⟩ := (H.out.2.2.2.below K.out.2) i x hx
        have hLr : Hid (Ltr wr) := H.out.2.2.1.below K.out.2
        have hss := H.out.2.1 x (List.mem_of_getElem? hx)
        have K2 : Hid (l[i]? = some x ∧ (l.take i).all Jb.good = true ∧ Below w.heap.size w wr) := ⟨hx, K.out⟩
        obtain ⟨gx, hgx⟩ : ∃ g, x.good = g := ⟨_, rfl⟩
        replace hgx := Lib.hid hgx
        clear hx K
        have C : Hid (∀ w', Below wr.heap.size wr w' → Calls Tryd.prog 27 #[.agg x.cells] w' (RetB (.bool gx) w')) := fun w' hb => by have := jgood_any x w' hss (hLr.out.below hb); rw [hgx.out] at this; exact this
        unfold Jb.cells at C
        unfold JAt at hJ
        obtain ⟨c0, c1, c2, c3, c4, c5, c6, c7⟩ := hJ
        clear hLr hss
        generalize x.name = s at *
        generalize x.rel = r at *
        generalize x.dl = d at *
        generalize x.bud = b at *
        generalize x.act = a at *
        generalize x.vl = v at *
        generalize x.cln = c at *
        generalize x.hard = h at *
        go_wp2_with fail
        refine (C.out _ (by repeat (first | exact Below.refl _ _ | refine Below.setCell ?_ (by first | omega | (simp; done) | (simp; omega)) _ | refine below_dN ?_ _ | refine Below.drew ?_ | refine Below.alloc ?_ (by first | omega | (simp; done) | (simp; omega)) _))).mono ?_; rintro e gw ⟨rfl, gb⟩
        replace gb : Hid (Below wr.heap.size wr gw) := by refine below_on ?_ gb; exact by repeat (first | exact Below.refl _ _ | refine Below.setCell ?_ (by first | omega | (simp; done) | (simp; omega)) _ | refine below_dN ?_ _ | refine Below.drew ?_ | refine Below.alloc ?_ (by first | omega | (simp; done) | (simp; omega)) _)
        clear C c0 c1 c2 c3 c4 c5 c6 c7
        cases gx
        · have hf : false = g := by rw [← hg.out]; exact (all_false K2.out.1 hgx.out).symm
          subst hf
          go_wp2
          go_ret
          exact ⟨rfl, below_on K2.out.2.2 gb.out⟩
        · go_wp2
          go_roundw
          case rel => exact ⟨i + 1, by first | rfl | simp, by omega, Lib.hid ⟨by rw [all_take_next K2.out.1, K2.out.2.1, hgx.out]; rfl, below_on K2.out.2.2 gb.out⟩⟩
          case measure => simp [intOf]; omega
      · have d1 : decide ((i : Int) < (n : Int)) = false := decide_eq_false (by omega)
        have hf : true = g := by
          rw [← hg.out, ← K.out.1, List.take_of_length_le (by rw [H.out.1]; exact hge)]
        subst hf
        go_wp2
        go_ret
        exact ⟨rfl, K.out.2⟩
  · rw [decide_eq_false h200, Bool.false_and] at hg
    subst hg
    have d1 : decide ((n : Int) > 200) = true := decide_eq_true (by omega)
    go_enter Tryd.func17, Tryd.ntmps17
    go_wp2
    go_ret
    exact ⟨rfl, by repeat (first | exact Below.refl _ _ | refine Below.setCell ?_ (by first | omega | (simp; done) | (simp; omega)) _ | refine below_dN ?_ _ | refine Below.drew ?_ | refine Below.alloc ?_ (by first | omega | (simp; done) | (simp; omega)) _)⟩
set_option maxHeartbeats 1600000 in
set_option maxRecDepth 100000 in
theorem end_any (A : Option Addr) (cap : Nat) (l : List Jb) (z : Int) (w : World) (hcap : cap ≤ 9223372036854775807) (hlc : l.length ≤ cap) (hs : ∀ x ∈ l, x.name.size ≤ 1000000) (hL : Ltr w) (hR : RdJ w A l) (hz : endZ l = z) :
    Calls Tryd.prog 18 #[.slice A l.length cap] w (RetB (.int .i64 z) w) := by
  unfold endZ at hz
  obtain ⟨g, hg⟩ : ∃ g, allB l = g := ⟨_, rfl⟩
  have C := Lib.hid (all_any A cap l g w hcap hlc hs hL hR hg)
  rw [hg] at hz
  replace hz := Lib.hid hz
  obtain ⟨n, hl⟩ : ∃ n, l.length = n := ⟨_, rfl⟩
  have hn : g = true → n ≤ 200 := by
    intro h
    rw [h] at hg
    unfold allB at hg
    have := (Bool.and_eq_true_iff.1 hg).1
    rw [hl] at this
    simpa using this
  rw [hl] at C hlc ⊢
  have H := Lib.hid (And.intro hl hR)
  clear hl hs hL hR hg
  cases g
  · have hf : 0 = z := by rw [← hz.out]; rfl
    subst hf
    go_enter Tryd.func18, Tryd.ntmps18
    go_wp2_with fail
    refine C.out.mono ?_; rintro e gw ⟨rfl, gb⟩
    go_wp2
    go_ret
    exact ⟨rfl, by have s0 := gb.size; (try simp only [World.heap_drewN, World.size_alloc] at s0); repeat (first | exact Below.refl _ _ | exact gb | refine Below.trans ?_ (Below.mono gb (by first | omega | (simp; done) | (simp; omega))) | refine Below.setCell ?_ (by first | omega | (simp; done) | (simp; omega)) _ | refine below_dN ?_ _ | refine Below.drew ?_ | refine Below.alloc ?_ (by first | omega | (simp; done) | (simp; omega)) _)⟩
  · replace hn := hn rfl
    have hf : Hid (endM 0 l = z) := by have := hz.out; rw [if_pos rfl] at this; exact this
    clear hz
    go_enter Tryd.func18, Tryd.ntmps18
    go_wp2_with fail
    refine C.out.mono ?_; rintro e gw ⟨rfl, gb⟩
    replace gb := Lib.hid gb
    clear C
    go_wp2
    go_loopw [3, 11] (fun s0 st wr => ∃ (i : Nat) (e : Int), s0 = .int .i64 e ∧ st = .int .i64 (i : Int) ∧ i ≤ n ∧ Hid (endM 0 (l.take i) = e ∧ Below w.heap.size w wr)) (fun _ st _ => n - (intOf st).toNat)
    case atStart => exact ⟨0, 0, rfl, rfl, by omega, Lib.hid ⟨rfl, gb.out⟩⟩
    case round =>
      obtain ⟨i, e, rfl, rfl, hin, K⟩ := hrel
      rcases Nat.lt_or_ge i n with hlt | hge
      · have d1 : decide ((i : Int) < (n : Int)) = true := decide_eq_true (by omega)
        have e1 : IntKind.i64.wrap ((i : Int) + 1) = ((i + 1 : Nat) : Int) := by rw [IntKind.wrap_i64]; omega
        obtain ⟨x, hx⟩ : ∃ x, l[i]? = some x := ⟨_, List.getElem?_eq_getElem (by rw [H.out.1]; exact hlt)⟩
        obtain ⟨B, off, rfl, hJ⟩ := (H.out.2.below K.out.2) i x hx
        have K2 : Hid (endM 0 (l.take (i + 1)) = max e x.dl ∧ Below w.heap.size w wr) := ⟨by rw [endM_next hx, K.out.1], K.out.2⟩
        clear hx K
        unfold JAt at hJ
        obtain ⟨c0, c1, c2, c3, c4, c5, c6, c7⟩ := hJ
        generalize x.name = s at *
        generalize x.rel = r at *
        generalize x.dl = d at *
        generalize x.bud = b at *
        generalize x.act = a at *
        generalize x.vl = v at *
        generalize x.cln = c at *
        generalize x.hard = h at *
        go_wp2
        all_goals
          go_roundw
          case rel => exact ⟨i + 1, _, rfl, by first | rfl | simp, by omega, Lib.hid ⟨by rw [K2.out.1] <;> omega, below_on K2.out.2 (by repeat (first | exact Below.refl _ _ | refine Below.setCell ?_ (by first | omega | (simp; done) | (simp; omega)) _ | refine below_dN ?_ _ | refine Below.drew ?_ | refine Below.alloc ?_ (by first | omega | (simp; done) | (simp; omega)) _))⟩⟩
          case measure => simp [intOf]; omega
      · have d1 : decide ((i : Int) < (n : Int)) = false := decide_eq_false (by omega)
        have hf2 : e = z := by
          rw [← hf.out, ← K.out.1, List.take_of_length_le (by rw [H.out.1]; exact hge)]
        subst hf2
        go_wp2
        go_ret
        exact ⟨rfl, K.out.2⟩

theorem rdJ_one (w : World) (t : TypeId) (j : Jb) : RdJ (w.alloc (.cells j.cells t)) (some ⟨w.heap.size, 0, none⟩) [j] := by
  intro k x hx
  match k, hx with
  | 0, hx =>
    simp at hx
    subst hx
    exact ⟨w.heap.size, 0, rfl, JAt.made w t _ _ _ _ _ _ _ _⟩
theorem RetB.to {v v' : Value} {w : World} {e : Ending} {w' : World} (h : RetB v w e w') (hv : v = v') : RetB v' w e w' := hv ▸ h
def jA : Jb := ⟨⟨#[97]⟩, 0, 9, 3, 5, 0, 2, false⟩
theorem jA_good : jA.good = true := by kernel_rfl
end Go.Proofs.YtacffjkhbajgkaaDoor
