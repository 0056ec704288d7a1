/- Package edf: what is left of jobs, in memory; near, legal. -/
import Derived.Test.YtcohodpaagpfgaaDoorEdFit
namespace Go.Proofs.YtcohodpaagpfgaaDoor
open Go.RowKit Go.Lib
set_option linter.unusedVariables false
set_option linter.unusedSimpArgs false

/-- The cells at A hold these, two cells each. -/
def RdL (w : World) (A : Option Addr) (l : List Lf) : Prop := ∀ (k : Nat) (x : Lf), l[k]? = some x → ∃ b off, A = some ⟨b, off, none⟩ ∧ w.cell? ⟨b, off + k * 2, none⟩ = some (.int .i64 x.dl) ∧ w.cell? ⟨b, off + k * 2 + 1, none⟩ = some (.int .i64 x.need)
theorem RdL.below {w w' : World} {A : Option Addr} {l : List Lf} (h : RdL w A l) (hb : Below w.heap.size w w') : RdL w' A l := by
  intro k x hx
  obtain ⟨b, off, rfl, h0, h1⟩ := h k x hx
  exact ⟨b, off, rfl, by rw [hb.cell (p := ⟨b, off + k * 2, none⟩) (cell_lt h0)]; exact h0, by rw [hb.cell (p := ⟨b, off + k * 2 + 1, none⟩) (cell_lt h1)]; exact h1⟩
def okL (x : Lf) : Bool := numB x.dl && numB x.need
theorem bndB_eq (now : Int) (l : List Lf) : bndB now l = (decide (l.length ≤ 1000) && (numB now && l.all okL)) := rfl
theorem okL_next {l : List Lf} {i : Nat} {x : Lf} (h : l[i]? = some x) : (l.take (i + 1)).all okL = ((l.take i).all okL && okL x) := by
  rw [List.take_add_one, h]; simp
theorem okL_false {l : List Lf} {i : Nat} {x : Lf} (h : l[i]? = some x) (hx : okL x = false) : l.all okL = false := by
  rw [List.all_eq_false]
  exact ⟨x, List.mem_of_getElem? h, by simp [hx]⟩
theorem near_any (n : Int) (b : Bool) (w : World) (h : numB n = b) : Calls Tryd.prog 46 #[.int .i64 n] w (Ret (.bool b) w) := by
  unfold numB at h
  by_cases h1 : -1000000 ≤ n
  · have d1 : decide (-1000000 ≤ n) = true := decide_eq_true h1
    rw [d1, Bool.true_and] at h
    go_enter Tryd.func46, Tryd.ntmps46
    go_wp2
    go_ret
    exact ⟨by first | rfl | exact ret_b h, 0, rfl⟩
  · have d1 : decide (-1000000 ≤ n) = false := decide_eq_false h1
    rw [d1, Bool.false_and] at h
    subst h
    go_enter Tryd.func46, Tryd.ntmps46
    go_wp2
    go_ret
    first | exact ⟨rfl, 0, rfl⟩ | exact ⟨rfl, _, rfl⟩
set_option maxHeartbeats 1600000 in
set_option maxRecDepth 100000 in
theorem legal_any (A : Option Addr) (cap : Nat) (l : List Lf) (now : Int) (g : Bool) (w : World) (hcap : cap ≤ 9223372036854775807) (hlc : l.length ≤ cap) (hR : RdL w A l) (hg : bndB now l = g) :
    Calls Tryd.prog 27 #[.int .i64 now, .slice A l.length cap] w (RetB (.bool g) w) := by
  rw [bndB_eq] at hg
  obtain ⟨n, hl⟩ : ∃ n, l.length = n := ⟨_, rfl⟩
  rw [hl] at hg hlc ⊢
  have H := Lib.hid (And.intro hl hR)
  clear hl hR
  by_cases h1000 : n ≤ 1000
  · rw [decide_eq_true h1000, Bool.true_and] at hg
    have d1 : decide ((n : Int) > 1000) = false := decide_eq_false (by omega)
    obtain ⟨q, hq⟩ : ∃ q, numB now = q := ⟨_, rfl⟩
    have C := Lib.hid (near_any now q · hq)
    rw [hq] at hg
    clear hq
    cases q
    · rw [Bool.false_and] at hg
      subst hg
      go_enter Tryd.func27, Tryd.ntmps27
      go_wp2_with fail
      refine (C.out _).mono ?_; rintro e w' ⟨rfl, n1, rfl⟩
      go_wp2
      go_ret
      exact ⟨rfl, by repeat (first | exact Below.refl _ _ | refine Below.setCell ?_ (by first | omega | (simp; done) | (simp; omega)) _ | refine below_dN ?_ _ | refine Below.drew ?_ | refine Below.alloc ?_ (by first | omega | (simp; done) | (simp; omega)) _)⟩
    · rw [Bool.true_and] at hg
      replace hg := Lib.hid hg
      go_enter Tryd.func27, Tryd.ntmps27
      go_wp2_with fail
      refine (C.out _).mono ?_; rintro e w' ⟨rfl, n2, rfl⟩
      clear C
      go_wp2
      clear d1
      generalize hw0 : w.drewN _ = w0
      have b0 : Hid (Below w.heap.size w w0) := by rw [← hw0]; exact below_dN (Below.refl _ _) _
      clear hw0
      go_loopw [17] (fun st wr => ∃ (i : Nat), st = .int .i64 (i : Int) ∧ i ≤ n ∧ Hid ((l.take i).all okL = true ∧ Below w.heap.size w wr)) (fun st _ => n - (intOf st).toNat)
      case atStart => exact ⟨0, rfl, by omega, Lib.hid ⟨by simp, b0.out⟩⟩
      case round =>
        obtain ⟨i, rfl, hin, K⟩ := hrel
        rcases Nat.lt_or_ge i n with hlt | hge
        · have d1 : decide ((i : Int) < (n : Int)) = true := decide_eq_true (by omega)
          have e1 : IntKind.i64.wrap ((i : Int) + 1) = ((i + 1 : Nat) : Int) := by rw [IntKind.wrap_i64]; omega
          obtain ⟨x, hx⟩ : ∃ x, l[i]? = some x := ⟨_, List.getElem?_eq_getElem (by rw [H.out.1]; exact hlt)⟩
          obtain ⟨B, off, rfl, c0, c1⟩ := (H.out.2.below K.out.2) i x hx
          have K2 : Hid (l[i]? = some x ∧ (l.take i).all okL = true ∧ Below w.heap.size w wr) := ⟨hx, K.out⟩
          have hok : Hid (okL x = (numB x.dl && numB x.need)) := rfl
          clear hx K
          obtain ⟨d, nd⟩ := x
          simp only at c0 c1
          obtain ⟨q1, hq1⟩ : ∃ q, numB d = q := ⟨_, rfl⟩
          obtain ⟨q2, hq2⟩ : ∃ q, numB nd = q := ⟨_, rfl⟩
          have C1 := Lib.hid (near_any d q1 · hq1)
          have C2 := Lib.hid (near_any nd q2 · hq2)
          have hok2 : Hid (okL ⟨d, nd⟩ = (q1 && q2)) := by have := hok.out; simp only [hq1, hq2] at this; exact this
          clear hok hq1 hq2
          cases q1
          · obtain rfl : false = g := by rw [← hg.out]; exact (okL_false K2.out.1 hok2.out).symm
            go_wp2_with fail
            refine (C1.out _).mono ?_; rintro e w' ⟨rfl, n3, rfl⟩
            go_wp2
            go_ret
            exact ⟨rfl, below_on K2.out.2.2 (by repeat (first | exact Below.refl _ _ | refine Below.setCell ?_ (by first | omega | (simp; done) | (simp; omega)) _ | refine below_dN ?_ _ | refine Below.drew ?_ | refine Below.alloc ?_ (by first | omega | (simp; done) | (simp; omega)) _))⟩
          · cases q2
            · obtain rfl : false = g := by rw [← hg.out]; exact (okL_false K2.out.1 hok2.out).symm
              go_wp2_with fail
              refine (C1.out _).mono ?_; rintro e w' ⟨rfl, n4, rfl⟩
              go_wp2_with fail
              refine (C2.out _).mono ?_; rintro e w' ⟨rfl, n5, rfl⟩
              go_wp2
              go_ret
              exact ⟨rfl, below_on K2.out.2.2 (by repeat (first | exact Below.refl _ _ | refine Below.setCell ?_ (by first | omega | (simp; done) | (simp; omega)) _ | refine below_dN ?_ _ | refine Below.drew ?_ | refine Below.alloc ?_ (by first | omega | (simp; done) | (simp; omega)) _))⟩
            · go_wp2_with fail
              refine (C1.out _).mono ?_; rintro e w' ⟨rfl, n6, rfl⟩
              go_wp2_with fail
              refine (C2.out _).mono ?_; rintro e w' ⟨rfl, n7, rfl⟩
              go_wp2
              go_roundw
              case rel => exact ⟨i + 1, by first | rfl | simp, by omega, Lib.hid ⟨by rw [okL_next K2.out.1, K2.out.2.1, hok2.out]; rfl, below_on K2.out.2.2 (by repeat (first | exact Below.refl _ _ | refine Below.setCell ?_ (by first | omega | (simp; done) | (simp; omega)) _ | refine below_dN ?_ _ | refine Below.drew ?_ | refine Below.alloc ?_ (by first | omega | (simp; done) | (simp; omega)) _))⟩⟩
              case measure => simp [intOf]; omega
        · have d1 : decide ((i : Int) < (n : Int)) = false := decide_eq_false (by omega)
          obtain rfl : true = g := by rw [← hg.out, ← K.out.1, List.take_of_length_le (by rw [H.out.1]; exact hge)]
          go_wp2
          go_ret
          exact ⟨rfl, K.out.2⟩
  · rw [decide_eq_false h1000, Bool.false_and] at hg
    subst hg
    have d1 : decide ((n : Int) > 1000) = true := decide_eq_true (by omega)
    go_enter Tryd.func27, Tryd.ntmps27
    go_wp2
    go_ret
    exact ⟨rfl, by repeat (first | exact Below.refl _ _ | refine Below.setCell ?_ (by first | omega | (simp; done) | (simp; omega)) _ | refine below_dN ?_ _ | refine Below.drew ?_ | refine Below.alloc ?_ (by first | omega | (simp; done) | (simp; omega)) _)⟩
end Go.Proofs.YtcohodpaagpfgaaDoor
