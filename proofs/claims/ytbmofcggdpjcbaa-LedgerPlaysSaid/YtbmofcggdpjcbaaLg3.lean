/- Package ledger: Till, By, Rows. -/
import Derived.Test.YtbmofcggdpjcbaaLg2
import Derived.Lib.SliceRun
namespace Go.Proofs.Ytbmofcggdpjcbaa
open Go.RowKit
set_option linter.unusedVariables false
set_option linter.unusedSimpArgs false

section
variable {o : Nat → Nat} {σ : Nat} {w : World} {a : Nat} {v : Value} {l : List Rw}
set_option maxHeartbeats 3200000 in
theorem ltill (t r : Int) (h : Lg o σ w a v l) (hi : LInv l) (hl : l.length ≤ 1000) (hr : sumF (tF t) l = r) :
    Calls Try.prog 14 #[.pointer (some ⟨a, 0, none⟩), .int .i64 t] w (RetB (.int .i64 r) w) := by
  obtain ⟨A, cap, rfl⟩ := h.row.any
  obtain ⟨hlc, hcap⟩ := h.row.capsW
  have c0 : w.cell? ⟨a, 0, none⟩ = some (.slice A l.length cap) := by rw [h.box.cell]; simp
  have RD := Lib.hid h.row.rdW
  obtain ⟨N, hN⟩ : ∃ N, l.length = N := ⟨_, rfl⟩
  rw [hN] at c0 hl hlc
  have Z := Lib.hid (And.intro hN (And.intro hi hr))
  clear h hi hr hN
  go_enter Try.func14, Try.ntmps14
  go_wp2
  go_loopw [5, 13] (fun s5 s13 wr => ∃ (i : Nat) (q : Int), s5 = .int .i64 q ∧ s13 = .int .i64 (i : Int) ∧ i ≤ N ∧ Hid (sumF (tF t) (l.take i) = q) ∧ Below w.heap.size w wr) (fun _ st _ => N - (intOf st).toNat)
  case atStart => exact ⟨0, 0, rfl, rfl, by omega, Lib.hid rfl, Below.refl _ _⟩
  case round =>
    obtain ⟨i, q, rfl, rfl, hi2, HQ, hb⟩ := hrel
    rcases Nat.lt_or_ge i N with hlt | hge
    · obtain ⟨⟨xt, xn, xv⟩, hx⟩ : ∃ x, l[i]? = some x := ⟨_, List.getElem?_eq_getElem (by rw [Z.out.1]; exact hlt)⟩
      obtain ⟨g, rfl, hg, d0, d1, d2⟩ := (RD.out.below hb) i _ hx
      simp only at d0 d1 d2
      have q1 : (i : Int) < (N : Int) := by omega
      have q2 : (0 : Int) ≤ (i : Int) := by omega
      have B := Lib.hid hb
      by_cases ht : xt > t
      · obtain rfl : q = r := by rw [← HQ.out, ← Z.out.2.2]; exact t_stop Z.out.2.1 hx ht
        clear hx hg HQ hb
        go_wp2
        go_ret
        exact ⟨rfl, by have s0 := B.out.size; (try simp only [World.heap_drewN, World.size_alloc] at s0); repeat (first | exact Below.refl _ _ | exact B.out | refine Below.trans ?_ (Below.mono B.out (by first | omega | (simp; done) | (simp; omega))) | refine Below.setCell ?_ (by first | omega | (simp; done) | (simp; omega)) _ | refine below_dN ?_ _ | refine Below.drew ?_ | refine Below.alloc ?_ (by first | omega | (simp; done) | (simp; omega)) _)⟩
      · have ht' : decide (xt > t) = false := decide_eq_false ht
        have hn := sumF_next (f := tF t) hx
        have hp := t_part Z.out.2.1 t (i + 1)
        have ht2 : tF t ⟨xt, xn, xv⟩ = xv := if_pos (by show xt ≤ t; omega)
        rw [ht2, HQ.out] at hn
        rw [hn] at hp
        obtain ⟨q', hq'⟩ : ∃ q', q + xv = q' := ⟨_, rfl⟩
        rw [hq'] at hp hn
        have e1 : wrap64 (q + xv) = q' := by unfold wrap64; omega
        have HN := Lib.hid hn
        clear hx hg HQ hb hn hp ht2 ht hq'
        go_wp2
        go_roundw
        case rel => exact ⟨i + 1, q', by first | rfl | simp [e1], by simp, by omega, HN, by have s0 := B.out.size; (try simp only [World.heap_drewN, World.size_alloc] at s0); repeat (first | exact Below.refl _ _ | exact B.out | refine Below.trans ?_ (Below.mono B.out (by first | omega | (simp; done) | (simp; omega))) | refine Below.setCell ?_ (by first | omega | (simp; done) | (simp; omega)) _ | refine below_dN ?_ _ | refine Below.drew ?_ | refine Below.alloc ?_ (by first | omega | (simp; done) | (simp; omega)) _)⟩
        case measure => simp [intOf]; omega
    · obtain rfl : i = N := by omega
      obtain rfl : q = r := by
        rw [← HQ.out, ← Z.out.2.2, List.take_of_length_le (by rw [Z.out.1]; exact Nat.le_refl _)]
      have B := Lib.hid hb
      clear HQ hb
      go_wp2
      go_ret
      exact ⟨rfl, B.out⟩
set_option maxHeartbeats 6400000 in
theorem lby (n : List UInt8) (r s : Int) (h : Lg o σ w a v l) (hi : LInv l) (hl : l.length ≤ 1000) (hr : sumF (eF (nameR n)) l = r) (hs : sumF (lF (nameR n)) l = s) :
    Calls Try.prog 12 #[.pointer (some ⟨a, 0, none⟩), .string (bs n)] w (RetB (.tuple #[.int .i64 r, .int .i64 s]) w) := by
  obtain ⟨A, cap, rfl⟩ := h.row.any
  obtain ⟨hlc, hcap⟩ := h.row.capsW
  have c0 : w.cell? ⟨a, 0, none⟩ = some (.slice A l.length cap) := by rw [h.box.cell]; simp
  have RD := Lib.hid h.row.rdW
  obtain ⟨N, hN⟩ : ∃ N, l.length = N := ⟨_, rfl⟩
  rw [hN] at c0 hl hlc
  have Z := Lib.hid (And.intro hN (And.intro hi (And.intro hr hs)))
  clear h hi hr hN hs
  go_enter Try.func12, Try.ntmps12
  go_wp2
  go_loopw [4, 5, 13] (fun s4 s5 s13 wr => ∃ (i : Nat) (q p : Int), s4 = .int .i64 q ∧ s5 = .int .i64 p ∧ s13 = .int .i64 (i : Int) ∧ i ≤ N ∧ Hid (sumF (eF (nameR n)) (l.take i) = q ∧ sumF (lF (nameR n)) (l.take i) = p) ∧ Below w.heap.size w wr) (fun _ _ st _ => N - (intOf st).toNat)
  case atStart => exact ⟨0, 0, 0, rfl, rfl, rfl, by omega, Lib.hid ⟨rfl, rfl⟩, Below.refl _ _⟩
  case round =>
    obtain ⟨i, q, p, rfl, rfl, rfl, hi2, HQ, hb⟩ := hrel
    rcases Nat.lt_or_ge i N with hlt | hge
    · obtain ⟨⟨xt, xn, xv⟩, hx⟩ : ∃ x, l[i]? = some x := ⟨_, List.getElem?_eq_getElem (by rw [Z.out.1]; exact hlt)⟩
      obtain ⟨g, rfl, hg, d0, d1, d2⟩ := (RD.out.below hb) i _ hx
      simp only at d0 d1 d2
      have q1 : (i : Int) < (N : Int) := by omega
      have q2 : (0 : Int) ≤ (i : Int) := by omega
      have B := Lib.hid hb
      have he := sumF_next (f := eF (nameR n)) hx
      have hl2 := sumF_next (f := lF (nameR n)) hx
      have hp1 := e_part Z.out.2.1 (nameR n) (i + 1)
      have hp2 := l_part Z.out.2.1 (nameR n) (i + 1)
      rw [HQ.out.1] at he
      rw [HQ.out.2] at hl2
      by_cases hn : xn = n
      · have hn' : ((bs xn).toList == (bs n).toList) = true := by rw [hn]; simp
        by_cases hv : 0 < xv
        · have e1 : eF (nameR n) ⟨xt, xn, xv⟩ = xv := if_pos ⟨decide_eq_true hn, hv⟩
          have e2 : lF (nameR n) ⟨xt, xn, xv⟩ = 0 := if_neg fun h => h.2 hv
          rw [e1] at he
          rw [e2, Int.add_zero] at hl2
          rw [he] at hp1
          obtain ⟨q', hq'⟩ : ∃ q', q + xv = q' := ⟨_, rfl⟩
          rw [hq'] at hp1 he
          have e3 : wrap64 (q + xv) = q' := by unfold wrap64; omega
          have hv' : xv > 0 := hv
          have HN := Lib.hid (And.intro he hl2)
          clear hx hg HQ hb hp1 hp2 he hl2 hn e1 e2 hq' hv
          go_wp2
          go_roundw
          case rel => exact ⟨i + 1, q', p, by first | rfl | simp [e3], rfl, by simp, by omega, HN, by have s0 := B.out.size; (try simp only [World.heap_drewN, World.size_alloc] at s0); repeat (first | exact Below.refl _ _ | exact B.out | refine Below.trans ?_ (Below.mono B.out (by first | omega | (simp; done) | (simp; omega))) | refine Below.setCell ?_ (by first | omega | (simp; done) | (simp; omega)) _ | refine below_dN ?_ _ | refine Below.drew ?_ | refine Below.alloc ?_ (by first | omega | (simp; done) | (simp; omega)) _)⟩
          case measure => simp [intOf]; omega
        · have e1 : eF (nameR n) ⟨xt, xn, xv⟩ = 0 := if_neg fun h => hv h.2
          have e2 : lF (nameR n) ⟨xt, xn, xv⟩ = -xv := if_pos ⟨decide_eq_true hn, hv⟩
          rw [e1, Int.add_zero] at he
          rw [e2] at hl2
          rw [hl2] at hp2
          obtain ⟨p', hp'⟩ : ∃ p', p + -xv = p' := ⟨_, rfl⟩
          rw [hp'] at hp2 hl2
          have e3 : wrap64 (p - xv) = p' := by unfold wrap64; omega
          have hv' : decide (xv > 0) = false := decide_eq_false hv
          have HN := Lib.hid (And.intro he hl2)
          clear hx hg HQ hb hp1 hp2 he hl2 hn e1 e2 hp' hv
          go_wp2
          go_roundw
          case rel => exact ⟨i + 1, q, p', rfl, by first | rfl | simp [e3], by simp, by omega, HN, by have s0 := B.out.size; (try simp only [World.heap_drewN, World.size_alloc] at s0); repeat (first | exact Below.refl _ _ | exact B.out | refine Below.trans ?_ (Below.mono B.out (by first | omega | (simp; done) | (simp; omega))) | refine Below.setCell ?_ (by first | omega | (simp; done) | (simp; omega)) _ | refine below_dN ?_ _ | refine Below.drew ?_ | refine Below.alloc ?_ (by first | omega | (simp; done) | (simp; omega)) _)⟩
          case measure => simp [intOf]; omega
      · have hn' : ((bs xn).toList == (bs n).toList) = false := by rw [bs_list, bs_list]; simpa using hn
        have e1 : eF (nameR n) ⟨xt, xn, xv⟩ = 0 := if_neg fun h => hn (of_decide_eq_true h.1)
        have e2 : lF (nameR n) ⟨xt, xn, xv⟩ = 0 := if_neg fun h => hn (of_decide_eq_true h.1)
        rw [e1, Int.add_zero] at he
        rw [e2, Int.add_zero] at hl2
        have HN := Lib.hid (And.intro he hl2)
        clear hx hg HQ hb hp1 hp2 he hl2 hn e1 e2
        go_wp2
        go_roundw
        case rel => exact ⟨i + 1, q, p, rfl, rfl, by simp, by omega, HN, by have s0 := B.out.size; (try simp only [World.heap_drewN, World.size_alloc] at s0); repeat (first | exact Below.refl _ _ | exact B.out | refine Below.trans ?_ (Below.mono B.out (by first | omega | (simp; done) | (simp; omega))) | refine Below.setCell ?_ (by first | omega | (simp; done) | (simp; omega)) _ | refine below_dN ?_ _ | refine Below.drew ?_ | refine Below.alloc ?_ (by first | omega | (simp; done) | (simp; omega)) _)⟩
        case measure => simp [intOf]; omega
    · obtain rfl : i = N := by omega
      have hk := List.take_of_length_le (l := l) (i := i) (by rw [Z.out.1]; exact Nat.le_refl _)
      obtain rfl : q = r := by rw [← HQ.out.1, ← Z.out.2.2.1, hk]
      obtain rfl : p = s := by rw [← HQ.out.2, ← Z.out.2.2.2, hk]
      have B := Lib.hid hb
      clear HQ hb hk
      go_wp2
      go_ret2
      exact ⟨rfl, B.out⟩
set_option maxHeartbeats 1600000 in
theorem cloneW_any (hr : Row o σ w 34 3 v l.length (cellsW l)) (hl : l.length ≤ 1000) :
    Calls Try.prog 26 #[v] w fun e w' => ∃ v', e = .returned v' ∧ w'.ownsRow w.heap.size 34 3 v' l.length (cellsW l) ∧ Below w.heap.size w w' := by
  obtain ⟨i0, hi0, hz0, hz1, hz2⟩ := info_parts Try.infoRow
  have q : ∀ (w : World) (a : Option Addr) (n c n' c' : Nat), (binOp .eql 31 (.slice a n c) (.slice none n' c')).run Try.prog w = .ok (.bool a.isNone) w := fun w a n c n' c' => Lib.run_eql_slice_nil w _ _ a n c n' c' Try.underlying31
  rcases hr.own.2 with ⟨rfl, h0⟩ | ⟨g, cap, cur, rfl, _, hg, h1, h2, h3, h4⟩
  · have hnil : l = [] := List.eq_nil_of_length_eq_zero h0
    subst hnil
    clear hr
    go_enter Try.func26, Try.ntmps26
    go_wp2
    go_ret
    exact ⟨_, rfl, World.ownsRow_nil _ _ _ _, Below.refl _ _⟩
  · have hc : ∀ (ob : Obj) j u, (cellsW l)[j]? = some u → (w.alloc ob).cell? ((⟨g, 0, none⟩ : Addr).add j) = some u := fun ob j u hj => by
      rw [Addr.add_lit, Nat.zero_add]
      exact Lib.cell?_alloc_some _ (by rw [hr.cellAt j (by have := (List.getElem?_eq_some_iff.1 hj).1; rwa [cellsW_length] at this)]; exact hj)
    have F := Lib.hid hc
    clear hc hr hg h3 h4
    go_enter Try.func26, Try.ntmps26
    go_wp2_with (at_builtin; refine wpList_append_own _ rfl _ _ 31 rfl w.heap.size 34 i0 (.agg #[.int .i64 0, .string ⟨#[]⟩, .int .i64 0]) 3 32 Try.underlying31 hi0 hz0 hz1 hz2 rfl (by decide) _ _ _ rfl (World.ownsRow_made w #[] 0 (Nat.le_refl _) (Nat.zero_le _) (by simp)) ⟨g, 0, none⟩ l.length cap (cellsW l) rfl (cellsW_length l) (F.out _) (cellsW_ones l) (by unfold maxLen; omega) (by omega) (by simp) ?_)
    intro v' w1 hown hgrow hnil
    have hb : Below w.heap.size w w1 := ((Below.refl _ w).alloc (Nat.le_refl _) _).grown hgrow (by simp) (by intro k hk; simp [Value.ownBlock] at hk; omega)
    have G := Lib.hid (And.intro hown hb)
    clear hown hgrow hnil hb
    go_wp2
    go_ret
    refine ⟨v', rfl, by simpa using G.out.1, G.out.2⟩
set_option maxHeartbeats 800000 in
theorem lrows (h : Lg o σ w a v l) (hl : l.length ≤ 1000) :
    Calls Try.prog 13 #[.pointer (some ⟨a, 0, none⟩)] w fun e w' => ∃ v', e = .returned v' ∧ w'.ownsRow w.heap.size 34 3 v' l.length (cellsW l) ∧ Below w.heap.size w w' := by
  have C := Lib.hid (cloneW_any h.row hl)
  have c1 : w.cell? ⟨a, 0, none⟩ = some v := by rw [h.box.cell]; simp
  obtain ⟨A, cap, rfl⟩ := h.row.any
  clear h
  go_enter Try.func13, Try.ntmps13
  go_wp2_with fail
  refine C.out.mono ?_
  rintro e w1 ⟨v', rfl, hown, hb⟩
  obtain ⟨A', c', rfl⟩ := own_any hown
  have G := Lib.hid (And.intro hown hb)
  clear hown hb C
  go_wp2
  go_ret
  exact ⟨_, rfl, G.out.1, G.out.2⟩
end
end Go.Proofs.Ytbmofcggdpjcbaa
