/- Package fate: New, Say, Of, Count, Open, All. -/
import Derived.Test.YtcbnjjjnhlpklaaFtRow
import Derived.Maps.AppendAt
import Derived.Lib.SliceRun
namespace Go.Proofs.Ytcbnjjjnhlpklaa
open Go.RowKit
set_option linter.unusedVariables false
set_option linter.unusedSimpArgs false

/-- The jobs that wait, as numbers. -/
def openI (l : List Ft) : List Int := (openF l).map fun (n : Nat) => (n : Int)
theorem openI_len (l : List Ft) : (openI l).length = cntF l 0 := by unfold openI; rw [List.length_map, openF_len]
theorem openI_next {l : List Ft} {j : Nat} {x : Ft} (h : l[j]? = some x) : openI (l.take (j + 1)) = openI (l.take j) ++ (if x.1 = 0 then [(j : Int)] else []) := by
  unfold openI
  rw [openF_next h, List.map_append]
  split <;> rfl
theorem Try.infoIntF : (Try.prog.info? 3).map (fun i => (i.zero, i.size, i.bytes)) = some (some (.int .i64 0), 1, 8) := by kernel_rfl
theorem newsF (w : World) (x : Int) (e : TypeId) (B : Nat) (hB : w.heap.size = B) : ∀ j u, (cellsN [x])[j]? = some u → (w.alloc (.cells #[.int .i64 x] e)).cell? ((⟨B, 0, none⟩ : Addr).add j) = some u := by
  intro j u hj
  subst hB
  rw [Addr.add_lit]
  match j, hj with
  | 0, hj => simp [cellsN] at hj; subst hj; simp
theorem onesF (x : Int) : ∀ u ∈ cellsN [x], u.oneCell' = true := by intro u hu; simp [cellsN] at hu; subst hu; rfl
section
variable {o : Nat → Nat} {σ : Nat} {w : World} {a : Nat} {v : Value} {l : List Ft}
set_option maxHeartbeats 800000 in
theorem fnew_bad (w : World) (n : Int) (h : n < 0 ∨ 200 < n) : Calls Try.prog 7 #[.int .i64 n] w fun e w' => e = .returned (.tuple #[.pointer none, .int .i64 1]) ∧ w' = w := by
  go_enter Try.func7, Try.ntmps7
  by_cases h1 : n < 0
  · go_wp2
    go_ret2
    exact ⟨rfl, rfl⟩
  · have h1' : decide (n < 0) = false := decide_eq_false h1
    have h2 : n > 200 := by omega
    clear h
    go_wp2
    go_ret2
    exact ⟨rfl, rfl⟩
set_option maxHeartbeats 1600000 in
theorem fnew (o : Nat → Nat) (σ : Nat) (w : World) (n : Nat) (h : n ≤ 200) : Calls Try.prog 7 #[.int .i64 (n : Int)] w fun e w' => ∃ a, e = .returned (.tuple #[.pointer (some ⟨a, 0, none⟩), .int .i64 0]) ∧ w.heap.size ≤ a ∧
    ∃ o' v, Step o o' σ w w' ∧ Bk 49 o' σ w' a v (List.replicate n (0, 0)) := by
  have mk := make_fates n (by omega)
  have h0' : decide ((n : Int) < 0) = false := decide_eq_false (by omega)
  have h1' : decide ((n : Int) > 200) = false := decide_eq_false (by omega)
  have hr : Row (tag o w.heap.size σ) σ (w.alloc (.cells (cellsT (List.replicate n (0, 0))).toArray 29)) 29 2 (.slice (some ⟨w.heap.size, 0, none⟩) n n) (List.replicate n ((0, 0) : Ft)).length (cellsT (List.replicate n (0, 0))) := by
    have := World.ownsRow_lit (e := 29) (size := 2) (base := w.heap.size) w (cellsT (List.replicate n (0, 0))).toArray n (Nat.le_refl _) (by unfold maxLen; omega) (by rw [List.size_toArray, cellsT_length]; simp)
    rw [List.length_replicate]
    exact Row.fresh σ this o
  have hs : (cellsT (List.replicate n (0, 0))).toArray.size = n * 2 := by rw [List.size_toArray, cellsT_length]; simp
  replace hr := Lib.hid hr
  replace hs := Lib.hid hs
  generalize (cellsT (List.replicate n (0, 0))).toArray = cs at mk hs hr
  go_enter Try.func7, Try.ntmps7
  go_wp2
  go_ret2
  have hb := Blk.made (tag o w.heap.size σ) σ (w.alloc (.cells cs 29)) #[.slice (some ⟨w.heap.size, 0, none⟩) n n] 49
  have hbs : (w.alloc (.cells cs 29)).heap.size = w.heap.size + 1 := by simp
  refine ⟨w.heap.size + 1, rfl, by omega, _, .slice (some ⟨w.heap.size, 0, none⟩) n n, ((Step.refl o σ w).alloc σ _).alloc σ _, ?_, hr.out.alloc _ σ⟩
  rw [hbs] at hb ⊢
  exact hb
set_option maxHeartbeats 800000 in
theorem fhas (i : Int) (h : Bk 49 o σ w a v l) (hl : l.length ≤ 1000) {r : Bool} (hr : inB l i = r) :
    Calls Try.prog 17 #[.pointer (some ⟨a, 0, none⟩), .int .i64 i] w fun e w' => e = .returned (.bool r) ∧ w' = w := by
  obtain ⟨A, cap, rfl⟩ := h.row.any
  have c0 := h.cell0
  have hin : inB l i = decide (0 ≤ i ∧ i < (l.length : Int)) := rfl
  rw [hr] at hin
  obtain ⟨N, hN⟩ : ∃ N, l.length = N := ⟨_, rfl⟩
  rw [hN] at c0 hl hin
  clear h hN hr
  go_enter Try.func17, Try.ntmps17
  by_cases k1 : i ≥ 0
  · by_cases k2 : i < (N : Int)
    · obtain rfl : r = true := by rw [hin]; exact decide_eq_true ⟨k1, k2⟩
      clear hin
      go_wp2
      go_ret
      first | exact ⟨rfl, rfl⟩ | rfl
    · obtain rfl : r = false := by rw [hin]; exact decide_eq_false (fun e => k2 e.2)
      have k2' : decide (i < (N : Int)) = false := decide_eq_false k2
      clear hin k2
      go_wp2
      go_ret
      first | exact ⟨rfl, rfl⟩ | rfl
  · obtain rfl : r = false := by rw [hin]; exact decide_eq_false (fun e => k1 e.1)
    have k1' : decide (i ≥ 0) = false := decide_eq_false k1
    clear hin k1
    go_wp2
    go_ret
    first | exact ⟨rfl, rfl⟩ | rfl
set_option maxHeartbeats 3200000 in
theorem fsay (i k t c : Int) (L : List Ft) (h : Bk 49 o σ w a v l) (hl : l.length ≤ 1000) (hc : sayE l i k t = c) (hL : sayL l i k t = L) :
    Calls Try.prog 8 #[.pointer (some ⟨a, 0, none⟩), .int .i64 i, .int .i64 k, .int .i64 t] w fun e w' => e = .returned (.int .i64 c) ∧ ∃ o' v', Step o o' σ w w' ∧ Bk 49 o' σ w' a v' L := by
  obtain ⟨A, cap, rfl⟩ := h.row.any
  obtain ⟨hlc, hcap⟩ := h.row.capsF
  have c0 := h.cell0
  have CH := Lib.hid (fhas i h hl rfl)
  have H := Lib.hid h
  by_cases h1 : inB l i = false ∨ k < 1 ∨ 5 < k ∨ t < 0
  · obtain rfl : 1 = c := by rw [← hc]; unfold sayE; rw [if_pos h1]
    obtain rfl : l = L := by rw [← hL]; unfold sayL sayE; rw [if_pos h1]; rfl
    obtain ⟨ib, hib⟩ : ∃ ib, inB l i = ib := ⟨_, rfl⟩
    rw [hib] at CH h1
    clear h hc hL hl hib
    go_enter Try.func8, Try.ntmps8
    go_wp2_with fail
    refine CH.out.mono ?_
    rintro e w1 ⟨rfl, hw⟩
    subst w1
    clear CH
    cases ib with
    | false =>
      clear h1
      go_wp2
      go_ret
      first | exact ⟨rfl, o, _, Step.refl o σ w, H.out⟩ | exact ⟨rfl, o, Step.refl o σ w, _, H.out⟩
    | true =>
      simp only [Bool.true_eq_false, false_or] at h1
      by_cases k1 : k < 1
      · go_wp2
        go_ret
        first | exact ⟨rfl, o, _, Step.refl o σ w, H.out⟩ | exact ⟨rfl, o, Step.refl o σ w, _, H.out⟩
      have k1' : decide (k < 1) = false := decide_eq_false k1
      by_cases k2 : k > 5
      · go_wp2
        go_ret
        first | exact ⟨rfl, o, _, Step.refl o σ w, H.out⟩ | exact ⟨rfl, o, Step.refl o σ w, _, H.out⟩
      have k2' : decide (k > 5) = false := decide_eq_false k2
      by_cases k3 : t < 0
      · go_wp2
        go_ret
        first | exact ⟨rfl, o, _, Step.refl o σ w, H.out⟩ | exact ⟨rfl, o, Step.refl o σ w, _, H.out⟩
      have k3' : decide (t < 0) = false := decide_eq_false k3
      exfalso
      omega
  · have hin : inB l i = true := by
      cases hb : inB l i with
      | true => rfl
      | false => exact absurd (.inl hb) h1
    obtain ⟨n, rfl, hn, hx⟩ := inB_get hin
    rw [hin] at CH
    have k3 : decide (k < 1) = false := decide_eq_false (by omega)
    have k4 : decide (k > 5) = false := decide_eq_false (by omega)
    have k5 : decide (t < 0) = false := decide_eq_false (by omega)
    obtain ⟨⟨xk, xt⟩, hxo⟩ : ∃ x, ofV l (n : Int) = x := ⟨_, rfl⟩
    rw [hxo] at hx
    obtain ⟨g, cap', hv, _, hc2, hog, hgl⟩ := h.row.form (by omega)
    injection hv with hv1 hv2 hv3
    subst hv1 hv3
    have q := cellsT_get l n _ hx
    simp only at q
    have d0 : w.cell? ⟨g, n * 2, none⟩ = some (.int .i64 xk) := by rw [h.row.cellAt _ (by omega)]; exact q.1
    have d1 : w.cell? ⟨g, n * 2 + 1, none⟩ = some (.int .i64 xt) := by rw [h.row.cellAt _ (by omega)]; exact q.2
    have f0 : ∀ j, w.frozen? ⟨g, j, none⟩ = false := fun j => h.row.frozenAt j
    obtain ⟨N, hN⟩ : ∃ N, l.length = N := ⟨_, rfl⟩
    rw [hN] at c0 hl hlc hn
    have z1 : (n : Int) < (N : Int) := by omega
    have z2 : (0 : Int) ≤ (n : Int) := by omega
    have z3 : decide (n ≥ N) = false := decide_eq_false (by omega)
    have z4 : decide (N ≤ n) = false := decide_eq_false (by omega)
    by_cases hk : xk = 0
    · subst hk
      obtain rfl : 0 = c := by rw [← hc]; unfold sayE; rw [if_neg h1, hxo]; rfl
      obtain rfl : l.set n (k, t) = L := by rw [← hL]; unfold sayL; rw [hc]; simp
      have hng : a ≠ g := fun e => h.row.ne_blk h.box.at_ (by decide) (by rw [e]; rfl)
      clear h hc hL h1 hx hxo q hin
      go_enter Try.func8, Try.ntmps8
      go_wp2_with fail
      refine CH.out.mono ?_
      rintro e w1 ⟨rfl, hw⟩
      subst w1
      clear CH
      go_wp2
      go_ret
      have st := ((Step.refl o σ w).setCell (p := ⟨g, n * 2, none⟩) (.inr hog) (.int .i64 k)).setCell (p := ⟨g, n * 2 + 1, none⟩) (.inr hog) (.int .i64 t)
      have bk : Bk 49 o σ ((w.setCell ⟨g, n * 2, none⟩ (.int .i64 k)).setCell ⟨g, n * 2 + 1, none⟩ (.int .i64 t)) a (.slice (some ⟨g, 0, none⟩) N cap) (l.set n (k, t)) := by
        refine ⟨?_, ?_⟩
        · have := (H.out.box.other (p := ⟨g, n * 2, none⟩) hng (.int .i64 k)).other (p := ⟨g, n * 2 + 1, none⟩) hng (.int .i64 t)
          rw [hN] at this
          exact this
        · have := (H.out.row.set (n * 2) (.int .i64 k)).set (n * 2 + 1) (.int .i64 t)
          rw [cellsT_set l n (k, t)] at this
          rw [List.length_set]
          rw [hN] at this ⊢
          exact this
      first | exact ⟨rfl, o, _, st, bk⟩ | exact ⟨rfl, o, st, _, bk⟩
    · obtain rfl : 5 = c := by rw [← hc]; unfold sayE; rw [if_neg h1, hxo, if_pos hk]
      obtain rfl : l = L := by rw [← hL]; unfold sayL; rw [hc]; rfl
      have hk' : (xk != 0) = true := by simp [hk]
      clear h hc hL h1 hx hxo q hin hk
      go_enter Try.func8, Try.ntmps8
      go_wp2_with fail
      refine CH.out.mono ?_
      rintro e w1 ⟨rfl, hw⟩
      subst w1
      clear CH
      go_wp2
      go_ret
      first | exact ⟨rfl, o, _, Step.refl o σ w, H.out⟩ | exact ⟨rfl, o, Step.refl o σ w, _, H.out⟩
set_option maxHeartbeats 1600000 in
theorem fof (i : Int) (h : Bk 49 o σ w a v l) (hl : l.length ≤ 1000) {x1 x2 : Int} {r : Bool} (hx : ofV l i = (x1, x2)) (hr : inB l i = r) :
    Calls Try.prog 9 #[.pointer (some ⟨a, 0, none⟩), .int .i64 i] w (RetB (.tuple #[.agg #[.int .i64 x1, .int .i64 x2], .bool r]) w) := by
  obtain ⟨A, cap, rfl⟩ := h.row.any
  obtain ⟨hlc, hcap⟩ := h.row.capsF
  have c0 := (h.alloc (.cells #[.int .i64 0, .int .i64 0] 29) 0).cell0
  have CH := Lib.hid (fhas i (h.alloc (.cells #[.int .i64 0, .int .i64 0] 29) 0) hl hr)
  have RD := Lib.hid (h.alloc (.cells #[.int .i64 0, .int .i64 0] 29) 0).row.rdF
  cases r with
  | false =>
    have hn : ¬ (0 ≤ i ∧ i < (l.length : Int)) := fun e => by rw [inB_iff.2 e] at hr; cases hr
    unfold ofV at hx
    rw [hr] at hx
    simp only [Bool.false_eq_true, if_false, Prod.mk.injEq] at hx
    obtain ⟨rfl, rfl⟩ := hx
    clear h hr RD hn hl hlc hcap
    go_enter Try.func9, Try.ntmps9
    go_wp2_with fail
    refine CH.out.mono ?_
    rintro e w1 ⟨rfl, hw⟩
    subst w1
    clear CH
    go_wp2
    (try simp only [Exit.inBlock, Exit.then])
    refine bodyPost_ret (v := .tuple #[.agg #[.int .i64 0, .int .i64 0], .bool false]) ?_ rfl ⟨rfl, by repeat (first | exact Below.refl _ _ | refine Below.setCell ?_ (by first | omega | (simp; done) | (simp; omega)) _ | refine below_dN ?_ _ | refine Below.drew ?_ | refine Below.alloc ?_ (by first | omega | (simp; done) | (simp; omega)) _)⟩
    rw [results_cell_tmp rfl]; go_simp
  | true =>
    obtain ⟨n, rfl, hn, hxx⟩ := inB_get hr
    rw [hx] at hxx
    obtain ⟨g, rfl, hg, d0, d1⟩ := RD.out n _ hxx
    simp only at d0 d1
    obtain ⟨N, hN⟩ : ∃ N, l.length = N := ⟨_, rfl⟩
    rw [hN] at c0 hl hlc hn
    have z1 : (n : Int) < (N : Int) := by omega
    have z2 : (0 : Int) ≤ (n : Int) := by omega
    have z3 : decide (n ≥ N) = false := decide_eq_false (by omega)
    have z4 : decide (N ≤ n) = false := decide_eq_false (by omega)
    clear h hr RD hN hx hxx hg
    go_enter Try.func9, Try.ntmps9
    go_wp2_with fail
    refine CH.out.mono ?_
    rintro e w1 ⟨rfl, hw⟩
    subst w1
    clear CH
    go_wp2
    (try simp only [Exit.inBlock, Exit.then])
    refine bodyPost_ret (v := .tuple #[.agg #[.int .i64 x1, .int .i64 x2], .bool true]) ?_ rfl ⟨rfl, by repeat (first | exact Below.refl _ _ | refine Below.setCell ?_ (by first | omega | (simp; done) | (simp; omega)) _ | refine below_dN ?_ _ | refine Below.drew ?_ | refine Below.alloc ?_ (by first | omega | (simp; done) | (simp; omega)) _)⟩
    rw [results_cell_tmp rfl]; go_simp
set_option maxHeartbeats 1600000 in
theorem fcount (k : Int) (c : Nat) (h : Bk 49 o σ w a v l) (hl : l.length ≤ 1000) (hc : cntF l k = c) :
    Calls Try.prog 10 #[.pointer (some ⟨a, 0, none⟩), .int .i64 k] w (RetB (.int .i64 (c : Int)) w) := by
  obtain ⟨A, cap, rfl⟩ := h.row.any
  obtain ⟨hlc, hcap⟩ := h.row.capsF
  have c0 := h.cell0
  have RD := Lib.hid h.row.rdF
  obtain ⟨N, hN⟩ : ∃ N, l.length = N := ⟨_, rfl⟩
  rw [hN] at c0 hl hlc
  have Z := Lib.hid (And.intro hN hc)
  clear h hN hc
  go_enter Try.func10, Try.ntmps10
  go_wp2
  go_loopw [5, 13] (fun s5 s13 wr => ∃ (i q : Nat), s5 = .int .i64 (q : Int) ∧ s13 = .int .i64 (i : Int) ∧ i ≤ N ∧ q ≤ i ∧ Hid (cntF (l.take i) k = q) ∧ Below w.heap.size w wr) (fun _ st _ => N - (intOf st).toNat)
  case atStart => exact ⟨0, 0, rfl, rfl, by omega, by omega, Lib.hid rfl, Below.refl _ _⟩
  case round =>
    obtain ⟨i, q, rfl, rfl, hi2, hq, HQ, hb⟩ := hrel
    rcases Nat.lt_or_ge i N with hlt | hge
    · obtain ⟨⟨xk, xt⟩, hx⟩ : ∃ x, l[i]? = some x := ⟨_, List.getElem?_eq_getElem (by rw [Z.out.1]; exact hlt)⟩
      obtain ⟨g, rfl, hg, d0, d1⟩ := (RD.out.below hb) i _ hx
      simp only at d0 d1
      have q1 : (i : Int) < (N : Int) := by omega
      have q2 : (0 : Int) ≤ (i : Int) := by omega
      have B := Lib.hid hb
      have hn := cntF_next hx k
      rw [HQ.out] at hn
      by_cases hk : xk = k
      · have hk' : (xk == k) = true := by simp [hk]
        rw [if_pos hk] at hn
        have HN := Lib.hid hn
        clear hx hg HQ hb hn hk
        go_wp2
        go_roundw
        case rel => exact ⟨i + 1, q + 1, by simp, by simp, by omega, by omega, HN, by have s0 := B.out.size; (try simp only [World.heap_drewN, World.size_alloc] at s0); repeat (first | exact Below.refl _ _ | exact B.out | refine Below.trans ?_ (Below.mono B.out (by first | omega | (simp; done) | (simp; omega))) | refine Below.setCell ?_ (by first | omega | (simp; done) | (simp; omega)) _ | refine below_dN ?_ _ | refine Below.drew ?_ | refine Below.alloc ?_ (by first | omega | (simp; done) | (simp; omega)) _)⟩
        case measure => simp [intOf]; omega
      · have hk' : (xk == k) = false := by simpa using hk
        rw [if_neg hk, Nat.add_zero] at hn
        have HN := Lib.hid hn
        clear hx hg HQ hb hn hk
        go_wp2
        go_roundw
        case rel => exact ⟨i + 1, q, rfl, by simp, by omega, by omega, HN, by have s0 := B.out.size; (try simp only [World.heap_drewN, World.size_alloc] at s0); repeat (first | exact Below.refl _ _ | exact B.out | refine Below.trans ?_ (Below.mono B.out (by first | omega | (simp; done) | (simp; omega))) | refine Below.setCell ?_ (by first | omega | (simp; done) | (simp; omega)) _ | refine below_dN ?_ _ | refine Below.drew ?_ | refine Below.alloc ?_ (by first | omega | (simp; done) | (simp; omega)) _)⟩
        case measure => simp [intOf]; omega
    · obtain rfl : i = N := by omega
      obtain rfl : q = c := by rw [← HQ.out, ← Z.out.2, List.take_of_length_le (by rw [Z.out.1]; exact Nat.le_refl _)]
      have B := Lib.hid hb
      clear HQ hb
      go_wp2
      go_ret
      exact ⟨rfl, B.out⟩
end
end Go.Proofs.Ytcbnjjjnhlpklaa
