/- Package fate: Open, All. -/
import Derived.Test.YtcbnjjjnhlpklaaFt1
namespace Go.Proofs.Ytcbnjjjnhlpklaa
open Go.RowKit
set_option linter.unusedVariables false
set_option linter.unusedSimpArgs false

theorem openI_le (l : List Ft) (i : Nat) : (openI (l.take i)).length ≤ l.length := by
  rw [openI_len]
  exact Nat.le_trans (cntF_le _ _) (by simp; omega)
theorem cellsN_app (s t : List Int) : cellsN (s ++ t) = cellsN s ++ cellsN t := by simp [cellsN]
section
variable {o : Nat → Nat} {σ : Nat} {w : World} {a : Nat} {v : Value} {l : List Ft}
set_option maxHeartbeats 3200000 in
theorem fopen (h : Bk 49 o σ w a v l) (hl : l.length ≤ 1000) :
    Calls Try.prog 15 #[.pointer (some ⟨a, 0, none⟩)] w fun e w' => ∃ v', e = .returned v' ∧ w'.ownsRow w.heap.size 3 1 v' (openI l).length (cellsN (openI l)) ∧ Below w.heap.size w w' := by
  obtain ⟨A, cap, rfl⟩ := h.row.any
  obtain ⟨hlc, hcap⟩ := h.row.capsF
  have c0 := h.cell0
  have RD := Lib.hid h.row.rdF
  obtain ⟨i0, hi0, hz0, hz1, hz2⟩ := info_parts Try.infoIntF
  obtain ⟨N, hN⟩ : ∃ N, l.length = N := ⟨_, rfl⟩
  have OL := Lib.hid (fun i => (show (openI (l.take i)).length ≤ N from hN ▸ openI_le l i))
  rw [hN] at c0 hl hlc
  have Z := Lib.hid hN
  clear h hN
  go_enter Try.func15, Try.ntmps15
  go_wp2
  go_loopw [3, 11] (fun s3 s11 wr => ∃ (i : Nat), s11 = .int .i64 (i : Int) ∧ i ≤ N ∧ Hid (wr.ownsRow w.heap.size 3 1 s3 (openI (l.take i)).length (cellsN (openI (l.take i))) ∧ Below w.heap.size w wr)) (fun _ st _ => N - (intOf st).toNat)
  case atStart => exact ⟨0, rfl, by omega, Lib.hid ⟨World.ownsRow_nil _ _ _ _, Below.refl _ _⟩⟩
  case round =>
    obtain ⟨i, rfl, hi2, K⟩ := hrel
    obtain ⟨A3, c3, rfl⟩ := own_any K.out.1
    rcases Nat.lt_or_ge i N with hlt | hge
    · obtain ⟨⟨xk, xt⟩, hx⟩ : ∃ x, l[i]? = some x := ⟨_, List.getElem?_eq_getElem (by rw [Z.out]; exact hlt)⟩
      obtain ⟨g, rfl, hg, d0, d1⟩ := (RD.out.below K.out.2) i _ hx
      simp only at d0 d1
      have q1 : (i : Int) < (N : Int) := by omega
      have q2 : (0 : Int) ≤ (i : Int) := by omega
      have hn := openI_next hx
      have hsz := K.out.2.size
      have hol := OL.out i
      by_cases hk : xk = 0
      · have hk' : (xk == 0) = true := by simp [hk]
        rw [if_pos hk] at hn
        have HN := Lib.hid hn
        clear hx hg hn hk
        go_wp2_with (at_builtin; refine wpList_append_own_at _ rfl (.tmp 19) (.tmp 21) 42 rfl w.heap.size 3 i0 (.int .i64 0) 1 8 Try.underlying42 hi0 hz0 hz1 hz2 rfl (by decide) _ _ _ rfl ((K.out.1.alloc _).alloc _) ⟨wr.heap.size + 1, 0, none⟩ 1 1 (cellsN [(i : Int)]) rfl rfl (newsF _ _ _ _ (by simp)) (onesF _) (by unfold maxLen; omega) (by omega) (by simp; omega) ?_)
        intro v' w3 hown' hgrow' hnil hloc
        have hb3 : Below w.heap.size w w3 := ((K.out.2.alloc hsz _).alloc (by simp; omega) _).grown hgrow' (by simp; omega) (fun j hj => (K.out.1.lt _ hj).1)
        have G := Lib.hid (And.intro hown' hb3)
        obtain ⟨A4, c4, rfl⟩ := own_any hown'
        clear hown' hgrow' hnil hloc hb3 K d0 d1
        go_wp2
        go_roundw
        case rel => exact ⟨i + 1, by simp, by omega, Lib.hid ⟨by rw [HN.out, cellsN_app, List.length_append]; exact G.out.1, G.out.2⟩⟩
        case measure => simp [intOf]; omega
      · have hk' : (xk == 0) = false := by simpa using hk
        rw [if_neg hk, List.append_nil] at hn
        have HN := Lib.hid hn
        clear hx hg hn hk
        go_wp2
        go_roundw
        case rel => exact ⟨i + 1, by simp, by omega, Lib.hid ⟨by rw [HN.out]; exact K.out.1.alloc _, by have s0 := K.out.2.size; (try simp only [World.heap_drewN, World.size_alloc] at s0); repeat (first | exact Below.refl _ _ | exact K.out.2 | refine Below.trans ?_ (Below.mono K.out.2 (by first | omega | (simp; done) | (simp; omega))) | refine Below.setCell ?_ (by first | omega | (simp; done) | (simp; omega)) _ | refine below_dN ?_ _ | refine Below.drew ?_ | refine Below.alloc ?_ (by first | omega | (simp; done) | (simp; omega)) _)⟩⟩
        case measure => simp [intOf]; omega
    · obtain rfl : i = N := by omega
      have hk := List.take_of_length_le (l := l) (i := i) (by rw [Z.out]; exact Nat.le_refl _)
      rw [hk] at K
      rw [hk]
      clear hk
      go_wp2
      go_ret
      exact ⟨_, rfl, K.out.1, K.out.2⟩
set_option maxHeartbeats 1600000 in
theorem cloneF2_any (hr : Row o σ w 29 2 v l.length (cellsT l)) (hl : l.length ≤ 1000) :
    Calls Try.prog 18 #[v] w fun e w' => ∃ v', e = .returned v' ∧ w'.ownsRow w.heap.size 29 2 v' l.length (cellsT l) ∧ Below w.heap.size w w' := by
  obtain ⟨i0, hi0, hz0, hz1, hz2⟩ := info_parts Try.infoFate
  have q : ∀ (w : World) (a : Option Addr) (n c n' c' : Nat), (binOp .eql 33 (.slice a n c) (.slice none n' c')).run Try.prog w = .ok (.bool a.isNone) w := fun w a n c n' c' => Lib.run_eql_slice_nil w _ _ a n c n' c' Try.underlying33
  rcases hr.own.2 with ⟨rfl, h0⟩ | ⟨g, cap, cur, rfl, _, hg, h1, h2, h3, h4⟩
  · have hnil : l = [] := List.eq_nil_of_length_eq_zero h0
    subst hnil
    clear hr
    go_enter Try.func18, Try.ntmps18
    go_wp2
    go_ret
    exact ⟨_, rfl, World.ownsRow_nil _ _ _ _, Below.refl _ _⟩
  · have hc : ∀ (ob : Obj) j u, (cellsT l)[j]? = some u → (w.alloc ob).cell? ((⟨g, 0, none⟩ : Addr).add j) = some u := fun ob j u hj => by
      rw [Addr.add_lit, Nat.zero_add]
      exact Lib.cell?_alloc_some _ (by rw [hr.cellAt j (by have := (List.getElem?_eq_some_iff.1 hj).1; rwa [cellsT_length] at this)]; exact hj)
    have F := Lib.hid hc
    clear hc hr hg h3 h4
    go_enter Try.func18, Try.ntmps18
    go_wp2_with (at_builtin; refine wpList_append_own _ rfl _ _ 33 rfl w.heap.size 29 i0 (.agg #[.int .i64 0, .int .i64 0]) 2 16 Try.underlying33 hi0 hz0 hz1 hz2 rfl (by decide) _ _ _ rfl (World.ownsRow_made w #[] 0 (Nat.le_refl _) (Nat.zero_le _) (by simp)) ⟨g, 0, none⟩ l.length cap (cellsT l) rfl (cellsT_length l) (F.out _) (cellsT_ones l) (by unfold maxLen; omega) (by omega) (by simp) ?_)
    intro v' w1 hown hgrow hnil
    have hb : Below w.heap.size w w1 := ((Below.refl _ w).alloc (Nat.le_refl _) _).grown hgrow (by simp) (by intro k hk; simp [Value.ownBlock] at hk; omega)
    have G := Lib.hid (And.intro hown hb)
    clear hown hgrow hnil hb
    go_wp2
    go_ret
    refine ⟨v', rfl, by simpa using G.out.1, G.out.2⟩
set_option maxHeartbeats 800000 in
theorem fall (h : Bk 49 o σ w a v l) (hl : l.length ≤ 1000) :
    Calls Try.prog 11 #[.pointer (some ⟨a, 0, none⟩)] w fun e w' => ∃ v', e = .returned v' ∧ w'.ownsRow w.heap.size 29 2 v' l.length (cellsT l) ∧ Below w.heap.size w w' := by
  have C := Lib.hid (cloneF2_any h.row hl)
  have c1 := h.cell0
  obtain ⟨A, cap, rfl⟩ := h.row.any
  clear h
  go_enter Try.func11, Try.ntmps11
  go_wp2_with fail
  refine C.out.mono ?_
  rintro e w1 ⟨v', rfl, hown, hb⟩
  obtain ⟨A', c', rfl⟩ := own_any hown
  have G := Lib.hid (And.intro hown hb)
  clear hown hb C
  go_wp2
  go_ret
  exact ⟨_, rfl, G.out.1, G.out.2⟩
end
end Go.Proofs.Ytcbnjjjnhlpklaa
