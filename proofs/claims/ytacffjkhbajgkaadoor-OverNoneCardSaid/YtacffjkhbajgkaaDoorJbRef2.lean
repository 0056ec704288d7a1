/- The document's own jobs (chapter 8): All, End; jobs as the document's own. -/
import Derived.Test.YtacffjkhbajgkaaDoorJbRef1
import Derived.Test.YtacffjkhbajgkaaDoorJbLaw
import Derived.OwnWalk
import Derived.Maps.AppendAt
namespace Go.Proofs.YtacffjkhbajgkaaDoor
open Go.RowKit Go.Lib
set_option linter.unusedVariables false
set_option linter.unusedSimpArgs false

set_option maxHeartbeats 1600000 in
set_option maxRecDepth 100000 in
theorem rjall_any (A : Option Addr) (cap : Nat) (l : List Jb) (g : Bool) (w : World) (hn : l.length ≤ 1000000) (hcap : cap ≤ 9223372036854775807) (hlc : l.length ≤ cap) (hs : ∀ x ∈ l, x.name.size ≤ 1000000) (hL : Ltr w) (hR : RdJ w A l) (hg : allB l = g) :
    Calls Tryd.prog 24 #[.slice A l.length cap] w (RetB (.bool g) w) := by
  unfold allB at hg
  obtain ⟨n, hl⟩ : ∃ n, l.length = n := ⟨_, rfl⟩
  rw [hl] at hg hlc hn ⊢
  have H := Lib.hid (And.intro hl (And.intro hs (And.intro hL hR)))
  replace hg := Lib.hid hg
  clear hl hs hL hR
  go_enter Tryd.func24, Tryd.ntmps24
  go_wp2
  go_loopw [3] (fun st wr => ∃ (i : Nat), st = .int .i64 (i : Int) ∧ i ≤ n ∧ Hid ((l.take i).all Jb.good = true ∧ Below w.heap.size w wr)) (fun st _ => n - (intOf st).toNat)
  case atStart => exact ⟨0, rfl, by omega, Lib.hid ⟨by simp, Below.refl _ _⟩⟩
  case round =>
    obtain ⟨i, rfl, hin, K⟩ := hrel
    rcases Nat.lt_or_ge i n with hlt | hge
    · have d1 : decide ((i : Int) < (n : Int)) = true := decide_eq_true (by omega)
      have e1 : IntKind.i64.wrap ((i : Int) + 1) = ((i + 1 : Nat) : Int) := by rw [IntKind.wrap_i64]; omega
      have b1 : (i : Int) < (n : Int) := by omega
      obtain ⟨x, hx⟩ : ∃ x, l[i]? = some x := ⟨_, List.getElem?_eq_getElem (by rw [H.out.1]; exact hlt)⟩
      obtain ⟨B, off, rfl, hJ⟩ := (H.out.2.2.2.below K.out.2) i x hx
      have hLr : Hid (Ltr wr) := H.out.2.2.1.below K.out.2
      have hss := H.out.2.1 x (List.mem_of_getElem? hx)
      have K2 : Hid (l[i]? = some x ∧ (l.take i).all Jb.good = true ∧ Below w.heap.size w wr) := ⟨hx, K.out⟩
      obtain ⟨gx, hgx⟩ : ∃ g, x.good = g := ⟨_, rfl⟩
      replace hgx := Lib.hid hgx
      clear hx K
      have C : Hid (Calls Tryd.prog 32 #[.agg x.cells] wr (RetB (.bool gx) wr)) := by have := rjgood_any x wr hss hLr.out; rw [hgx.out] at this; exact this
      unfold Jb.cells at C
      unfold JAt at hJ
      obtain ⟨c0, c1, c2, c3, c4, c5, c6, c7⟩ := hJ
      clear hLr hss
      generalize x.name = s at *
      generalize x.rel = r at *
      generalize x.dl = d at *
      generalize x.bud = b at *
      generalize x.act = a at *
      generalize x.vl = v at *
      generalize x.cln = c at *
      generalize x.hard = h at *
      go_wp2_with fail
      refine C.out.mono ?_; rintro e gw ⟨rfl, gb⟩
      replace gb := Lib.hid gb
      clear C c0 c1 c2 c3 c4 c5 c6 c7
      cases gx
      · have hf : false = g := by rw [← hg.out, all_false K2.out.1 hgx.out, Bool.and_false]
        subst hf
        go_wp2
        go_ret
        exact ⟨rfl, below_on K2.out.2.2 gb.out⟩
      · go_wp2
        go_roundw
        case rel => exact ⟨i + 1, by first | rfl | simp, by omega, Lib.hid ⟨by rw [all_take_next K2.out.1, K2.out.2.1, hgx.out]; rfl, below_on K2.out.2.2 gb.out⟩⟩
        case measure => simp [intOf]; omega
    · have d1 : decide ((i : Int) < (n : Int)) = false := decide_eq_false (by omega)
      have hf : decide ((n : Int) ≤ 200) = g := by
        have ha : l.all Jb.good = true := by rw [← K.out.1, List.take_of_length_le (by rw [H.out.1]; exact hge)]
        rw [← hg.out, ha, Bool.and_true, decide_eq_decide]; omega
      have hf' : decide (n ≤ 200) = g := by rw [← hf, decide_eq_decide]; omega
      go_wp2
      go_ret
      exact ⟨by first | rfl | exact ret_b hf | exact ret_b hf' | simp [hf], K.out.2⟩
set_option maxHeartbeats 1600000 in
set_option maxRecDepth 100000 in
theorem rjend_any (A : Option Addr) (cap : Nat) (l : List Jb) (z : Int) (w : World) (hn : l.length ≤ 1000000) (hcap : cap ≤ 9223372036854775807) (hlc : l.length ≤ cap) (hs : ∀ x ∈ l, x.name.size ≤ 1000000) (hL : Ltr w) (hR : RdJ w A l) (hz : endZ l = z) :
    Calls Tryd.prog 25 #[.slice A l.length cap] w (RetB (.int .i64 z) w) := by
  unfold endZ at hz
  obtain ⟨g, hg⟩ : ∃ g, allB l = g := ⟨_, rfl⟩
  have C := Lib.hid (fun w' (hb : Below w.heap.size w w') => rjall_any A cap l g w' hn hcap hlc hs (hL.below hb) (hR.below hb) hg)
  rw [hg] at hz
  obtain ⟨n, hl⟩ : ∃ n, l.length = n := ⟨_, rfl⟩
  rw [hl] at C hlc hn ⊢
  have H := Lib.hid (And.intro hl hR)
  have hz0 : Hid (g = false → 0 = z) := fun h => by rw [← hz, h]; rfl
  have hz1 : Hid (g = true → endM 0 l = z) := fun h => by rw [← hz, h, if_pos rfl]
  clear hl hs hL hR hg hz
  go_enter Tryd.func25, Tryd.ntmps25
  go_wp2
  go_loopw [3, 4] (fun s0 st wr => ∃ (i : Nat) (e : Int), s0 = .int .i64 e ∧ st = .int .i64 (i : Int) ∧ i ≤ n ∧ Hid (endM 0 (l.take i) = e ∧ (g = false → i = 0) ∧ Below w.heap.size w wr)) (fun _ st _ => n - (intOf st).toNat)
  case atStart => exact ⟨0, 0, rfl, rfl, by omega, Lib.hid ⟨rfl, fun _ => rfl, Below.refl _ _⟩⟩
  case round =>
    obtain ⟨i, e, rfl, rfl, hin, K⟩ := hrel
    rcases Nat.lt_or_ge i n with hlt | hge
    · have d1 : decide ((i : Int) < (n : Int)) = true := decide_eq_true (by omega)
      have e1 : IntKind.i64.wrap ((i : Int) + 1) = ((i + 1 : Nat) : Int) := by rw [IntKind.wrap_i64]; omega
      have b1 : (i : Int) < (n : Int) := by omega
      go_wp2_with fail
      refine (C.out _ K.out.2.2).mono ?_; rintro _ gw ⟨rfl, gb⟩
      replace gb := Lib.hid (below_on K.out.2.2 gb)
      cases g
      · have hf : e = z := by
          rw [← hz0.out rfl, ← K.out.1, K.out.2.1 rfl]; rfl
        subst hf
        go_wp2
        go_ret
        exact ⟨rfl, gb.out⟩
      · obtain ⟨x, hx⟩ : ∃ x, l[i]? = some x := ⟨_, List.getElem?_eq_getElem (by rw [H.out.1]; exact hlt)⟩
        obtain ⟨B, off, rfl, hJ⟩ := (H.out.2.below gb.out) i x hx
        have K2 : Hid (endM 0 (l.take (i + 1)) = max e x.dl) := by show _ = _; rw [endM_next hx, K.out.1]
        have c2 := hJ.2.2.1
        clear hJ hx K C
        generalize x.dl = d at *
        by_cases hd : d > e
        · have d2 : decide (d > e) = true := decide_eq_true hd
          go_wp2
          go_roundw
          case rel => exact ⟨i + 1, d, rfl, by first | rfl | simp, by omega, Lib.hid ⟨by rw [K2.out]; omega, (fun h => Bool.noConfusion h), gb.out⟩⟩
          case measure => simp [intOf]; omega
        · have d2 : decide (d > e) = false := decide_eq_false hd
          go_wp2
          go_roundw
          case rel => exact ⟨i + 1, e, rfl, by first | rfl | simp, by omega, Lib.hid ⟨by rw [K2.out]; omega, (fun h => Bool.noConfusion h), gb.out⟩⟩
          case measure => simp [intOf]; omega
    · have d1 : decide ((i : Int) < (n : Int)) = false := decide_eq_false (by omega)
      have hf : e = z := by
        cases g
        · rw [← hz0.out rfl, ← K.out.1, K.out.2.1 rfl]; rfl
        · rw [← hz1.out rfl, ← K.out.1, List.take_of_length_le (by rw [H.out.1]; exact hge)]
      subst hf
      go_wp2
      go_ret
      exact ⟨rfl, K.out.2.2⟩

/-- The cells of jobs. -/
def cellsJ (l : List Jb) : List Value := l.flatMap fun x => x.cells.toList
theorem cellsJ_cons (x : Jb) (l : List Jb) : cellsJ (x :: l) = x.cells.toList ++ cellsJ l := by simp [cellsJ]
theorem cellsJ_len (l : List Jb) : (cellsJ l).length = l.length * 8 := by
  induction l with
  | nil => rfl
  | cons x l ih => rw [cellsJ_cons, List.length_append, ih]; simp [Jb.cells]; omega
theorem cellsJ_get : ∀ (l : List Jb) (k : Nat) (x : Jb), l[k]? = some x → ∀ j, j < 8 → (cellsJ l)[k * 8 + j]? = x.cells[j]?
  | [], k, x, h, _, _ => by simp at h
  | y :: l, 0, x, h, j, hj => by
    simp at h; subst h
    rw [cellsJ_cons, Nat.zero_mul, Nat.zero_add, List.getElem?_append_left (by simp [Jb.cells]; omega)]; simp
  | y :: l, k + 1, x, h, j, hj => by
    rw [cellsJ_cons, List.getElem?_append_right (by simp [Jb.cells]; omega)]
    rw [show (k + 1) * 8 + j - y.cells.toList.length = k * 8 + j by simp [Jb.cells]; omega]
    exact cellsJ_get l k x (by simpa using h) j hj
theorem own_rdJ {w : World} {base n : Nat} {e : TypeId} {v : Value} {l : List Jb} (h : w.ownsRow base e 8 v n (cellsJ l)) :
    ∃ A c, v = .slice A l.length c ∧ l.length ≤ c ∧ c ≤ 9223372036854775807 ∧ RdJ w A l := by
  have hn : n = l.length := by have := h.1; rw [cellsJ_len] at this; omega
  subst hn
  rcases h.2 with ⟨rfl, h0⟩ | ⟨g, cap, cur, rfl, _, _, h1, h2, _⟩
  · refine ⟨none, 0, by simp [h0], by omega, by decide, fun k x hx => ?_⟩
    rw [List.eq_nil_of_length_eq_zero h0] at hx; simp at hx
  · refine ⟨some ⟨g, 0, none⟩, cap, rfl, h1, by unfold maxLen at h2; omega, fun k x hx => ⟨g, 0, rfl, ?_⟩⟩
    have hk := (List.getElem?_eq_some_iff.1 hx).1
    have key : ∀ j, j < 8 → w.cell? ⟨g, 0 + k * 8 + j, none⟩ = x.cells[j]? := by
      intro j hj
      rw [Nat.zero_add, h.cellAt _ (by omega)]
      exact cellsJ_get l k x hx j hj
    exact ⟨key 0 (by decide), key 1 (by decide), key 2 (by decide), key 3 (by decide), key 4 (by decide), key 5 (by decide), key 6 (by decide), key 7 (by decide)⟩
theorem news_job (w : World) (x : Jb) (e : TypeId) : ∀ j u, x.cells.toList[j]? = some u → (w.alloc (.cells x.cells e)).cell? ((⟨w.heap.size, 0, none⟩ : Addr).add j) = some u := by
  intro j u hj
  rw [show (⟨w.heap.size, 0, none⟩ : Addr).add j = ⟨w.heap.size, j, none⟩ by unfold Addr.add; split <;> simp_all]
  simpa using hj
theorem ones_job (x : Jb) : ∀ u ∈ x.cells.toList, u.oneCell' = true := by
  intro u hu
  simp [Jb.cells] at hu
  rcases hu with rfl | rfl | rfl | rfl | rfl | rfl | rfl | rfl <;> rfl
theorem Tryd.infoRJ : (Tryd.prog.info? 55).map (fun i => (i.zero, i.size, i.bytes)) = some (some (.agg #[.string ⟨#[]⟩, .int .i64 0, .int .i64 0, .int .i64 0, .int .i64 0, .int .i64 0, .int .i64 0, .bool false]), 8, 72) := by kernel_rfl

theorem cellsJ_next {l : List Jb} {i : Nat} {x : Jb} (h : l[i]? = some x) : cellsJ (l.take (i + 1)) = cellsJ (l.take i) ++ x.cells.toList := by
  unfold cellsJ; rw [List.take_add_one, h]; simp
end Go.Proofs.YtacffjkhbajgkaaDoor
