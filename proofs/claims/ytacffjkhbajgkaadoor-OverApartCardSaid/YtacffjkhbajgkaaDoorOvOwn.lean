/- What is too much, and jobs as the document's own, of the statements of layer 18. (Written by genlaw.py from XJbLaw and XJbRef2.) -/
import Derived.Test.YtacffjkhbajgkaaDoorJbLaw
import Derived.Test.YtacffjkhbajgkaaDoorJbRef2
import Derived.OwnWalk
import Derived.Maps.AppendAt
namespace Go.Proofs.YtacffjkhbajgkaaDoor
open Go.RowKit Go.Lib Go.ChangeShapes Go.WideShapes Go.ChangeAt Go.Deep
set_option linter.unusedVariables false
set_option linter.unusedSimpArgs false

set_option maxHeartbeats 1600000 in
set_option maxRecDepth 100000 in
theorem heavy18_any (A : Option Addr) (cap : Nat) (l : List Jb) (m t : Int) (g : Bool) (w : World) (hcap : cap ≤ 9223372036854775807) (hlc : l.length ≤ cap) (hR : RdJ w A l) (hg : heavyB m t l = g) :
    Calls Tryd.prog 12 #[.slice A l.length cap, .int .i64 m, .int .i64 t] w (Ret (.bool g) w) := by
  unfold heavyB at hg
  obtain ⟨n, hl⟩ : ∃ n, l.length = n := ⟨_, rfl⟩
  rw [hl] at hg hlc ⊢
  have H := Lib.hid (And.intro hl hR)
  clear hl hR
  by_cases hm : (n : Int) > m
  · rw [decide_eq_true hm, Bool.true_or] at hg
    subst hg
    have d1 : decide ((n : Int) > m) = true := decide_eq_true hm
    go_enter Tryd.func12, Tryd.ntmps12
    go_wp2
    go_ret
    first | exact ⟨rfl, 0, rfl⟩ | exact ⟨rfl, _, rfl⟩
  · rw [decide_eq_false hm, Bool.false_or] at hg
    have d1 : decide ((n : Int) > m) = false := decide_eq_false hm
    replace hg := Lib.hid hg
    go_enter Tryd.func12, Tryd.ntmps12
    go_wp2
    clear d1 hm
    go_loopw [7] (fun st wr => ∃ (i : Nat), st = .int .i64 (i : Int) ∧ i ≤ n ∧ wr = w ∧ Hid (∀ k x, k < i → l[k]? = some x → hvB t x = false)) (fun st _ => n - (intOf st).toNat)
    case atStart => exact ⟨0, rfl, by omega, rfl, Lib.hid (fun k x hk => by omega)⟩
    case round =>
      obtain ⟨i, rfl, hin, rfl, K⟩ := hrel
      rcases Nat.lt_or_ge i n with hlt | hge
      · have d1 : decide ((i : Int) < (n : Int)) = true := decide_eq_true (by omega)
        have e1 : IntKind.i64.wrap ((i : Int) + 1) = ((i + 1 : Nat) : Int) := by rw [IntKind.wrap_i64]; omega
        have b1 : (i : Int) < (n : Int) := by omega
        obtain ⟨x, hx⟩ : ∃ x, l[i]? = some x := ⟨_, List.getElem?_eq_getElem (by rw [H.out.1]; exact hlt)⟩
        obtain ⟨B, off, rfl, hJ⟩ := H.out.2 i x hx
        have c0 := hJ.1
        have c2 := hJ.2.2.1
        have K2 : Hid (hvB t x = false → ∀ k y, k < i + 1 → l[k]? = some y → hvB t y = false) := by
          intro h k y hk hy
          by_cases e : k = i
          · subst e; rw [hx] at hy; injection hy with hy; subst hy; exact h
          · exact K.out k y (by omega) hy
        have K3 : Hid (hvB t x = true → g = true) := by
          intro h
          rw [← hg.out]
          exact List.any_eq_true.2 ⟨x, List.mem_of_getElem? hx, h⟩
        have hv : Hid (hvB t x = (decide (x.name.size > 100) || (decide (x.dl > t) && decide (x.dl ≤ 10000)))) := rfl
        clear hJ hx K
        generalize hvB t x = hb at *
        generalize x.name = s at *
        generalize x.dl = d at *
        by_cases h1 : s.size > 100
        · have d2 : decide ((s.size : Int) > 100) = true := decide_eq_true (by omega)
          have d3 : decide (100 < s.size) = true := decide_eq_true h1
          obtain rfl : g = true := K3.out (by rw [hv.out, decide_eq_true h1]; rfl)
          go_wp2
          go_ret
          first | exact ⟨rfl, 0, rfl⟩ | exact ⟨rfl, _, rfl⟩
        · have d2 : decide ((s.size : Int) > 100) = false := decide_eq_false (by omega)
          have d3 : decide (100 < s.size) = false := decide_eq_false h1
          by_cases h2 : d > t
          · have d4 : decide (d > t) = true := decide_eq_true h2
            by_cases h3 : d ≤ 10000
            · have d5 : decide (d ≤ 10000) = true := decide_eq_true h3
              obtain rfl : g = true := K3.out (by rw [hv.out, d4, d5]; simp)
              go_wp2
              go_ret
              first | exact ⟨rfl, 0, rfl⟩ | exact ⟨rfl, _, rfl⟩
            · have d5 : decide (d ≤ 10000) = false := decide_eq_false h3
              have K4 := Lib.hid (K2.out (by rw [hv.out, d5, decide_eq_false h1]; simp))
              clear K2 K3 hv
              go_wp2
              go_roundw
              case rel => exact ⟨i + 1, by first | rfl | simp, by omega, by first | rfl | trivial, K4⟩
              case measure => simp [intOf]; omega
          · have d4 : decide (d > t) = false := decide_eq_false h2
            have K4 := Lib.hid (K2.out (by rw [hv.out, d4, decide_eq_false h1]; simp))
            clear K2 K3 hv
            go_wp2
            go_roundw
            case rel => exact ⟨i + 1, by first | rfl | simp, by omega, by first | rfl | trivial, K4⟩
            case measure => simp [intOf]; omega
      · have d1 : decide ((i : Int) < (n : Int)) = false := decide_eq_false (by omega)
        have hf : g = false := by
          rw [← hg.out]
          refine List.any_eq_false.2 fun x hx => ?_
          obtain ⟨k, hk, he⟩ := List.mem_iff_getElem.1 hx
          have := K.out k x (by have := H.out.1; omega) (by rw [List.getElem?_eq_getElem hk, he])
          simp [this]
        subst hf
        go_wp2
        go_ret
        first | exact ⟨rfl, 0, rfl⟩ | exact ⟨rfl, _, rfl⟩
set_option maxHeartbeats 1600000 in
set_option maxRecDepth 100000 in
theorem ownJ18_any (A : Option Addr) (cap : Nat) (l : List Jb) (w : World) (hn : l.length ≤ 1000) (hcap : cap ≤ 9223372036854775807) (hlc : l.length ≤ cap) (hR : RdJ w A l) :
    Calls Tryd.prog 13 #[.slice A l.length cap] w (fun e w' => ∃ A' c, e = .returned (.slice A' l.length c) ∧ l.length ≤ c ∧ c ≤ 9223372036854775807 ∧ RdJ w' A' l ∧ Below w.heap.size w w') := by
  obtain ⟨i0, hi0, hz0, hz1, hz2⟩ := info_parts Tryd.infoRJ
  obtain ⟨n, hl⟩ : ∃ n, l.length = n := ⟨_, rfl⟩
  rw [hl] at hn hlc ⊢
  have H := Lib.hid (And.intro hl hR)
  clear hl hR
  go_enter Tryd.func13, Tryd.ntmps13
  go_wp2
  go_loopw [3, 4] (fun v st wr => ∃ (i : Nat), st = .int .i64 (i : Int) ∧ i ≤ n ∧ Hid (wr.ownsRow w.heap.size 55 8 v i (cellsJ (l.take i)) ∧ Below w.heap.size w wr)) (fun _ st _ => n - (intOf st).toNat)
  case atStart => exact ⟨0, rfl, by omega, Lib.hid ⟨World.ownsRow_nil _ _ _ _, Below.refl _ _⟩⟩
  case round =>
    obtain ⟨i, rfl, hin, K⟩ := hrel
    rcases Nat.lt_or_ge i n with hlt | hge
    · have d1 : decide ((i : Int) < (n : Int)) = true := decide_eq_true (by omega)
      have e1 : IntKind.i64.wrap ((i : Int) + 1) = ((i + 1 : Nat) : Int) := by rw [IntKind.wrap_i64]; omega
      have b1 : (i : Int) < (n : Int) := by omega
      obtain ⟨x, hx⟩ : ∃ x, l[i]? = some x := ⟨_, List.getElem?_eq_getElem (by rw [H.out.1]; exact hlt)⟩
      obtain ⟨B, off, rfl, hJ⟩ := (H.out.2.below K.out.2) i x hx
      have K2 : Hid (cellsJ (l.take (i + 1)) = cellsJ (l.take i) ++ x.cells.toList) := cellsJ_next hx
      clear hx
      unfold JAt at hJ
      obtain ⟨c0, c1, c2, c3, c4, c5, c6, c7⟩ := hJ
      have hbs := K.out.2.size
      have nw : Hid (∀ j u, x.cells.toList[j]? = some u → ((wr.alloc (.cells #[.string x.name, .int .i64 x.rel, .int .i64 x.dl, .int .i64 x.bud, .int .i64 x.act, .int .i64 x.vl, .int .i64 x.cln, .bool x.hard] 24)).alloc (.cells #[.string x.name, .int .i64 x.rel, .int .i64 x.dl, .int .i64 x.bud, .int .i64 x.act, .int .i64 x.vl, .int .i64 x.cln, .bool x.hard] 55)).cell? ((⟨wr.heap.size + 1, 0, none⟩ : Addr).add j) = some u) := by
        have := news_job (wr.alloc (.cells x.cells 24)) x 55
        rw [World.size_alloc] at this
        exact this
      go_wp2_with (at_builtin; refine wpList_append_own _ rfl (.tmp 16) (.tmp 34) 37 rfl w.heap.size 55 i0 _ 8 72 Tryd.underlying37 hi0 hz0 hz1 hz2 rfl (by decide) _ _ _ rfl ((K.out.1.alloc _).alloc _) ⟨wr.heap.size + 1, 0, none⟩ 1 1 x.cells.toList rfl rfl nw.out (ones_job x) (by unfold maxLen; omega) (by omega) (by simp; omega) ?_)
      intro v' w4 hown' hgrow' _
      have hb4 : Below w.heap.size w w4 := ((K.out.2.alloc hbs _).alloc (by simp; omega) _).grown hgrow' (by simp; omega) (fun j hj => (K.out.1.lt _ hj).1)
      rw [← K2.out] at hown'
      have T := Lib.hid (And.intro hown' hb4)
      clear hown' hgrow' hb4 K K2 c0 c1 c2 c3 c4 c5 c6 c7 nw
      go_wp2
      go_roundw
      case rel => exact ⟨i + 1, by first | rfl | simp, by omega, T⟩
      case measure => simp [intOf]; omega
    · have d1 : decide ((i : Int) < (n : Int)) = false := decide_eq_false (by omega)
      obtain rfl : i = n := by omega
      have T : Hid (∃ A' c, u3 = .slice A' i c ∧ i ≤ c ∧ c ≤ 9223372036854775807 ∧ RdJ wr A' l ∧ Below w.heap.size w wr) := by
        have h1 := K.out.1
        rw [List.take_of_length_le (by rw [H.out.1]; exact Nat.le_refl _)] at h1
        obtain ⟨A', c, rfl, k1, k2, k3⟩ := own_rdJ h1
        exact ⟨A', c, by rw [H.out.1], by rw [← H.out.1]; exact k1, k2, k3, K.out.2⟩
      clear K
      go_wp2
      go_ret
      obtain ⟨A', c, rfl, k1, k2, k3, k4⟩ := T.out
      exact ⟨A', c, rfl, k1, k2, k3, k4⟩
end Go.Proofs.YtacffjkhbajgkaaDoor
