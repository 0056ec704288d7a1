/- Package demand: legal, All, Frame, Holds. -/
import Derived.Test.YtmokbmhobglhfaaDm1
import Derived.Deep.OwnRows
import Derived.Laws.CopyRow
import Derived.Laws.IdiomCopy
namespace Go.Proofs.Ytmokbmhobglhfaa
open Go.RowKit Go.Lib
set_option linter.unusedVariables false
set_option linter.unusedSimpArgs false

theorem tk_next {l : List Tk} {i : Nat} {x : Tk} (h : l[i]? = some x) : (l.take (i + 1)).all Tk.good = ((l.take i).all Tk.good && x.good) := by
  rw [List.take_add_one, h]; simp
theorem tk_false {l : List Tk} {i : Nat} {x : Tk} (h : l[i]? = some x) (hx : x.good = false) : l.all Tk.good = false := by
  rw [List.all_eq_false]
  exact ⟨x, List.mem_of_getElem? h, by simp [hx]⟩
theorem sumO_next {l : List Tk} {i : Nat} {x : Tk} (h : l[i]? = some x) (s : Int) : sumO (l.take (i + 1)) s = sumO (l.take i) s + ofZ x s := by
  rw [List.take_add_one, h, sumO_app]
  simp [sumO]
theorem tasksB_eq (l : List Tk) : tasksB l = (decide (l.length ≤ 20) && l.all Tk.good) := rfl
set_option maxHeartbeats 1600000 in
set_option maxRecDepth 100000 in
theorem dlegal_any (A : Option Addr) (cap : Nat) (l : List Tk) (g : Bool) (w : World) (hcap : cap ≤ 9223372036854775807) (hlc : l.length ≤ cap) (hR : RdK w A l) (hg : tasksB l = g) :
    Calls Try.prog 19 #[.slice A l.length cap] w (RetB (.bool g) w) := by
  rw [tasksB_eq] at hg
  obtain ⟨n, hl⟩ : ∃ n, l.length = n := ⟨_, rfl⟩
  rw [hl] at hg hlc ⊢
  have H := Lib.hid (And.intro hl hR)
  clear hl hR
  by_cases h20 : n ≤ 20
  · rw [decide_eq_true h20, Bool.true_and] at hg
    have d1 : decide ((n : Int) > 20) = false := decide_eq_false (by omega)
    replace hg := Lib.hid hg
    go_enter Try.func19, Try.ntmps19
    go_wp2
    clear d1
    go_loopw [10] (fun st wr => ∃ (i : Nat), st = .int .i64 (i : Int) ∧ i ≤ n ∧ Hid ((l.take i).all Tk.good = true ∧ Below w.heap.size w wr)) (fun st _ => n - (intOf st).toNat)
    case atStart => exact ⟨0, rfl, by omega, Lib.hid ⟨by simp, Below.refl _ _⟩⟩
    case round =>
      obtain ⟨i, rfl, hin, K⟩ := hrel
      rcases Nat.lt_or_ge i n with hlt | hge
      · have d1 : decide ((i : Int) < (n : Int)) = true := decide_eq_true (by omega)
        have e1 : IntKind.i64.wrap ((i : Int) + 1) = ((i + 1 : Nat) : Int) := by rw [IntKind.wrap_i64]; omega
        obtain ⟨x, hx⟩ : ∃ x, l[i]? = some x := ⟨_, List.getElem?_eq_getElem (by rw [H.out.1]; exact hlt)⟩
        obtain ⟨B, off, rfl, c0, c1, c2⟩ := (H.out.2.below K.out.2) i x hx
        obtain ⟨q, hq⟩ : ∃ q, x.good = q := ⟨_, rfl⟩
        have C := Lib.hid (dgood_any x q · hq)
        have K2 : Hid (l[i]? = some x ∧ (l.take i).all Tk.good = true ∧ Below w.heap.size w wr ∧ x.good = q) := ⟨hx, K.out.1, K.out.2, hq⟩
        clear hx K hq
        obtain ⟨p, nd, s⟩ := x
        simp only at c0 c1 c2 C
        cases q
        · obtain rfl : false = g := by rw [← hg.out]; exact (tk_false K2.out.1 K2.out.2.2.2).symm
          go_wp2_with fail
          refine (C.out _).mono ?_; rintro e hw ⟨rfl, h⟩
          go_wp2
          go_ret
          exact ⟨rfl, below_on K2.out.2.2.1 (by have s0 := h.size; (try simp only [World.heap_drewN, World.size_alloc] at s0); repeat (first | exact Below.refl _ _ | exact h | refine Below.trans ?_ (Below.mono h (by first | omega | (simp; done) | (simp; omega))) | refine Below.setCell ?_ (by first | omega | (simp; done) | (simp; omega)) _ | refine below_dN ?_ _ | refine Below.drew ?_ | refine Below.alloc ?_ (by first | omega | (simp; done) | (simp; omega)) _))⟩
        · go_wp2_with fail
          refine (C.out _).mono ?_; rintro e hw ⟨rfl, h⟩
          go_wp2
          go_roundw
          case rel => exact ⟨i + 1, by first | rfl | simp, by omega, Lib.hid ⟨by rw [tk_next K2.out.1, K2.out.2.1, K2.out.2.2.2]; rfl, below_on K2.out.2.2.1 (by have s0 := h.size; (try simp only [World.heap_drewN, World.size_alloc] at s0); repeat (first | exact Below.refl _ _ | exact h | refine Below.trans ?_ (Below.mono h (by first | omega | (simp; done) | (simp; omega))) | refine Below.setCell ?_ (by first | omega | (simp; done) | (simp; omega)) _ | refine below_dN ?_ _ | refine Below.drew ?_ | refine Below.alloc ?_ (by first | omega | (simp; done) | (simp; omega)) _))⟩⟩
          case measure => simp [intOf]; omega
      · have d1 : decide ((i : Int) < (n : Int)) = false := decide_eq_false (by omega)
        obtain rfl : true = g := by rw [← hg.out, ← K.out.1, List.take_of_length_le (by rw [H.out.1]; exact hge)]
        go_wp2
        go_ret
        exact ⟨rfl, K.out.2⟩
  · rw [decide_eq_false h20, Bool.false_and] at hg
    subst hg
    have d1 : decide ((n : Int) > 20) = true := decide_eq_true (by omega)
    go_enter Try.func19, Try.ntmps19
    go_wp2
    go_ret
    exact ⟨rfl, by repeat (first | exact Below.refl _ _ | refine Below.setCell ?_ (by first | omega | (simp; done) | (simp; omega)) _ | refine below_dN ?_ _ | refine Below.drew ?_ | refine Below.alloc ?_ (by first | omega | (simp; done) | (simp; omega)) _)⟩
theorem allZ_small {l : List Tk} (h : l.length ≤ 20) (s : Int) : allZ l s = sumO l s := by unfold allZ; rw [if_pos h]
theorem allZ_big {l : List Tk} (h : ¬ l.length ≤ 20) (s : Int) : allZ l s = 0 := by unfold allZ; rw [if_neg h]
set_option maxHeartbeats 1600000 in
set_option maxRecDepth 100000 in
theorem dall_any (A : Option Addr) (cap : Nat) (l : List Tk) (long v : Int) (w : World) (hcap : cap ≤ 9223372036854775807) (hlc : l.length ≤ cap) (hf : fitB long = true) (hR : RdK w A l) (hv : allZ l long = v) :
    Calls Try.prog 12 #[.slice A l.length cap, .int .i64 long] w (RetB (.int .i64 v) w) := by
  by_cases h20 : l.length ≤ 20
  · rw [allZ_small h20] at hv
    obtain ⟨n, hl⟩ : ∃ n, l.length = n := ⟨_, rfl⟩
    rw [hl] at h20 hlc ⊢
    have d1 : decide ((n : Int) > 20) = false := decide_eq_false (by omega)
    have H := Lib.hid (And.intro hl (And.intro hR (And.intro hf hv)))
    clear hl hR hf hv
    go_enter Try.func12, Try.ntmps12
    go_wp2
    clear d1
    go_loopw [5, 13] (fun sv st wr => ∃ (i : Nat) (u : Int), sv = .int .i64 u ∧ st = .int .i64 (i : Int) ∧ i ≤ n ∧ Hid (sumO (l.take i) long = u ∧ Below w.heap.size w wr)) (fun _ st _ => n - (intOf st).toNat)
    case atStart => exact ⟨0, 0, rfl, rfl, by omega, Lib.hid ⟨by simp [sumO], Below.refl _ _⟩⟩
    case round =>
      obtain ⟨i, u, rfl, rfl, hin, K⟩ := hrel
      rcases Nat.lt_or_ge i n with hlt | hge
      · have d1 : decide ((i : Int) < (n : Int)) = true := decide_eq_true (by omega)
        have e1 : IntKind.i64.wrap ((i : Int) + 1) = ((i + 1 : Nat) : Int) := by rw [IntKind.wrap_i64]; omega
        obtain ⟨x, hx⟩ : ∃ x, l[i]? = some x := ⟨_, List.getElem?_eq_getElem (by rw [H.out.1]; exact hlt)⟩
        obtain ⟨B, off, rfl, c0, c1, c2⟩ := (H.out.2.1.below K.out.2) i x hx
        obtain ⟨q, hq⟩ : ∃ q, ofZ x long = q := ⟨_, rfl⟩
        have C := Lib.hid (dof_any x long q · H.out.2.2.1 hq)
        obtain ⟨u2, hu2⟩ : ∃ z, u + q = z := ⟨_, rfl⟩
        have e2 : wrap64 (u + q) = u2 := by
          have b1 := sumO_bound (l.take i) long
          rw [K.out.1, List.length_take] at b1
          have b2 := of_bound x long
          rw [hq] at b2
          unfold wrap64; omega
        have K2 : Hid (sumO (l.take (i + 1)) long = u2 ∧ Below w.heap.size w wr) := ⟨by rw [sumO_next hx, K.out.1, hq, hu2], K.out.2⟩
        clear hx K hq hu2
        obtain ⟨p, nd, s⟩ := x
        simp only at c0 c1 c2 C
        go_wp2_with fail
        refine (C.out _).mono ?_; rintro e hw ⟨rfl, h⟩
        go_wp2
        go_roundw
        case rel => exact ⟨i + 1, u2, by first | rfl | (simp; done) | rw [e2], by first | rfl | simp, by omega, Lib.hid ⟨K2.out.1, below_on K2.out.2 (by have s0 := h.size; (try simp only [World.heap_drewN, World.size_alloc] at s0); repeat (first | exact Below.refl _ _ | exact h | refine Below.trans ?_ (Below.mono h (by first | omega | (simp; done) | (simp; omega))) | refine Below.setCell ?_ (by first | omega | (simp; done) | (simp; omega)) _ | refine below_dN ?_ _ | refine Below.drew ?_ | refine Below.alloc ?_ (by first | omega | (simp; done) | (simp; omega)) _))⟩⟩
        case measure => simp [intOf]; omega
      · have d1 : decide ((i : Int) < (n : Int)) = false := decide_eq_false (by omega)
        obtain rfl : u = v := by rw [← H.out.2.2.2, ← K.out.1, List.take_of_length_le (by rw [H.out.1]; exact hge)]
        go_wp2
        go_ret
        exact ⟨rfl, K.out.2⟩
  · rw [allZ_big h20] at hv
    subst hv
    obtain ⟨n, hl⟩ : ∃ n, l.length = n := ⟨_, rfl⟩
    rw [hl] at h20 ⊢
    have d1 : decide ((n : Int) > 20) = true := decide_eq_true (by omega)
    go_enter Try.func12, Try.ntmps12
    go_wp2
    go_ret
    exact ⟨rfl, by repeat (first | exact Below.refl _ _ | refine Below.setCell ?_ (by first | omega | (simp; done) | (simp; omega)) _ | refine below_dN ?_ _ | refine Below.drew ?_ | refine Below.alloc ?_ (by first | omega | (simp; done) | (simp; omega)) _)⟩
end Go.Proofs.Ytmokbmhobglhfaa
