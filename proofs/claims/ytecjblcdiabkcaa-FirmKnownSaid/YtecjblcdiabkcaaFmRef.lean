/- The document's monitor: Worst, Broken. -/
import Derived.Test.YtecjblcdiabkcaaFmAdd
namespace Go.Proofs.Ytecjblcdiabkcaa
open Go.RowKit
set_option linter.unusedVariables false
set_option linter.unusedSimpArgs false

/-- What Worst tells. -/
def wstV (k : Nat) (l : List Bool) : Nat := if l.length < k then 0 else wst k l l.length
def wstB (k : Nat) (l : List Bool) : Bool := decide (k ≤ l.length)
/-- Where it is broken, as numbers. -/
def brkI (m k : Nat) (l : List Bool) (n : Nat) : List Int := (brk m k l n).map fun (x : Nat) => (x : Int)
theorem brkI_len (m k : Nat) (l : List Bool) (n : Nat) : (brkI m k l n).length ≤ n := by unfold brkI; rw [List.length_map]; exact brk_len m k l n
theorem brkI_next (m k : Nat) (l : List Bool) (n : Nat) : brkI m k l (n + 1) = brkI m k l n ++ if k ≤ n + 1 ∧ mc k (n + 1) l < m then [(n : Int)] else [] := by
  unfold brkI
  rw [brk, List.map_append]
  split <;> rfl
theorem cellsN_appM (s t : List Int) : cellsN (s ++ t) = cellsN s ++ cellsN t := by simp [cellsN]
theorem Try.infoIntM : (Try.prog.info? 3).map (fun i => (i.zero, i.size, i.bytes)) = some (some (.int .i64 0), 1, 8) := by kernel_rfl
theorem newsI (w : World) (x : Int) (e : TypeId) (B : Nat) (hB : w.heap.size = B) : ∀ j u, (cellsN [x])[j]? = some u → (w.alloc (.cells #[.int .i64 x] e)).cell? ((⟨B, 0, none⟩ : Addr).add j) = some u := by
  intro j u hj
  subst hB
  rw [Addr.add_lit]
  match j, hj with
  | 0, hj => simp [cellsN] at hj; subst hj; simp
theorem onesI (x : Int) : ∀ u ∈ cellsN [x], u.oneCell' = true := by intro u hu; simp [cellsN] at hu; subst hu; rfl
section
variable {o : Nat → Nat} {σ : Nat} {w : World} {b m k : Nat} {L : List Bool} {v : Value}
set_option maxHeartbeats 3200000 in
theorem rmworst (q : Nat) (r : Bool) (h : Rm o σ w b m k v L) (hl : L.length ≤ 900) (hk1 : 1 ≤ k) (hk : k ≤ 64) (hq : wstV k L = q) (hr : wstB k L = r) :
    Calls Try.prog 13 #[.pointer (some ⟨b, 0, none⟩)] w (Ret (.tuple #[.int .i64 (q : Int), .bool r]) w) := by
  obtain ⟨A, cap, rfl⟩ := h.row.any
  obtain ⟨hlc, hcap⟩ := h.row.capsM
  have c1 := h.c1
  have c2 := h.c2
  obtain ⟨N, hN⟩ : ∃ N, L.length = N := ⟨_, rfl⟩
  have H := Lib.hid h
  rw [hN] at c2 hl hlc
  by_cases hs : N < k
  · obtain rfl : 0 = q := by rw [← hq]; unfold wstV; rw [if_pos (by omega)]
    obtain rfl : false = r := by rw [← hr]; exact (decide_eq_false (by omega)).symm
    have z1 : (N : Int) < (k : Int) := by omega
    clear h hN H hq hr
    go_enter Try.func13, Try.ntmps13
    go_wp2
    go_quiet (fail)
    go_wp2
    go_ret2
    exact ⟨rfl, _, rfl⟩
  · obtain rfl : true = r := by rw [← hr]; exact (decide_eq_true (by omega)).symm
    have z1 : decide ((N : Int) < (k : Int)) = false := decide_eq_false (by omega)
    have z2 : decide (N < k) = false := decide_eq_false hs
    have hw : wst k L N = q := by rw [← hq]; unfold wstV; rw [if_neg (by omega), hN]
    have Z := Lib.hid (And.intro hN hw)
    clear h hN hq hr hw
    go_enter Try.func13, Try.ntmps13
    go_wp2
    go_quiet (fail)
    obtain ⟨K, hK⟩ : ∃ K : Nat, K + 1 = k := ⟨k - 1, by omega⟩
    have e1 : (k : Int) - 1 = (K : Int) := by omega
    go_wp2
    go_loopw [4, 5] (fun s4 s5 wr => ∃ (i n j : Nat), s4 = .int .i64 (n : Int) ∧ s5 = .int .i64 (i : Int) ∧ k ≤ i + 1 ∧ i ≤ N ∧ n ≤ k ∧ Hid (wst k L i = n) ∧ wr = w.drewN j) (fun _ st _ => N - (intOf st).toNat)
    case atStart => exact ⟨K, k, _, rfl, by first | rfl | simp [e1], by omega, by omega, by omega, Lib.hid (wst_small (by omega)), rfl⟩
    case round =>
      obtain ⟨i, n, j, rfl, rfl, hi1, hi2, hn, HQ, rfl⟩ := hrel
      rcases Nat.lt_or_ge i N with hlt | hge
      · have q1 : (i : Int) < (N : Int) := by omega
        obtain ⟨q', hq'⟩ : ∃ q', mc k (i + 1) L = q' := ⟨_, rfl⟩
        have hq9 : q' ≤ k := by rw [← hq']; exact mc_le _ _ _
        have C := Lib.hid (fun j => rmet i q' (H.out.drewN j) (by rw [Z.out.1]; omega) (by rw [Z.out.1]; exact hlt) hi1 hq')
        have hnx : wst k L (i + 1) = min n q' := by rw [wst, if_pos hi1, HQ.out, hq']
        replace hnx := Lib.hid hnx
        clear hq' HQ
        by_cases ht : q' < n
        · have z3 : (q' : Int) < (n : Int) := by omega
          go_wp2_with fail
          refine (C.out j).mono ?_
          rintro e w1 ⟨rfl, rfl⟩
          go_wp2_with fail
          refine (C.out j).mono ?_
          rintro e w1 ⟨rfl, rfl⟩
          clear C
          go_wp2
          go_roundw
          case rel => exact ⟨i + 1, q', j, rfl, by simp, by omega, by omega, by omega, Lib.hid (by rw [hnx.out]; omega), by first | rfl | trivial⟩
          case measure => simp [intOf]; omega
        · have z3 : decide ((q' : Int) < (n : Int)) = false := decide_eq_false (by omega)
          have z4 : decide (q' < n) = false := decide_eq_false (by omega)
          go_wp2_with fail
          refine (C.out j).mono ?_
          rintro e w1 ⟨rfl, rfl⟩
          clear C
          go_wp2
          go_roundw
          case rel => exact ⟨i + 1, n, j, rfl, by simp, by omega, by omega, by omega, Lib.hid (by rw [hnx.out]; omega), by first | rfl | trivial⟩
          case measure => simp [intOf]; omega
      · obtain rfl : i = N := by omega
        obtain rfl : n = q := by rw [← HQ.out, ← Z.out.2]
        have q1 : decide ((i : Int) < (i : Int)) = false := decide_eq_false (by omega)
        clear HQ
        go_wp2
        go_ret2
        exact ⟨rfl, _, rfl⟩
set_option maxHeartbeats 3200000 in
theorem rmbroken (h : Rm o σ w b m k v L) (hl : L.length ≤ 900) (hm : m ≤ 64) (hk1 : 1 ≤ k) (hk : k ≤ 64) :
    Calls Try.prog 17 #[.pointer (some ⟨b, 0, none⟩)] w fun e w' => ∃ v', e = .returned v' ∧ w'.ownsRow w.heap.size 3 1 v' (brkI m k L L.length).length (cellsN (brkI m k L L.length)) ∧ Below w.heap.size w w' := by
  obtain ⟨A, cap, rfl⟩ := h.row.any
  obtain ⟨hlc, hcap⟩ := h.row.capsM
  obtain ⟨i0, hi0, hz0, hz1, hz2⟩ := info_parts Try.infoIntM
  obtain ⟨N, hN⟩ : ∃ N, L.length = N := ⟨_, rfl⟩
  have BL := Lib.hid (brkI_len m k L)
  have C0 : ∀ w', Below w.heap.size w w' → w'.cell? ⟨b, 0, none⟩ = some (.int .i64 (m : Int)) ∧ w'.cell? ⟨b, 2, none⟩ = some (.slice A N cap) := fun w' hb => ⟨(h.below hb).c0, by rw [(h.below hb).c2, ← hN]⟩
  have c1 := h.c1
  obtain ⟨K, hK⟩ : ∃ K : Nat, K + 1 = k := ⟨k - 1, by omega⟩
  have e1 : (k : Int) - 1 = (K : Int) := by omega
  replace C0 := Lib.hid C0
  rw [hN] at hl hlc ⊢
  have Z := Lib.hid hN
  have H := Lib.hid h
  have HK : Hid (K + 1 = k) := hK
  clear h hN
  by_cases hs : N < k
  · go_enter Try.func17, Try.ntmps17
    go_wp2
    go_loopw [3, 4] (fun s3 s4 wr => s3 = .slice none 0 0 ∧ s4 = .int .i64 (K : Int) ∧ wr = w) (fun _ st _ => 0)
    case atStart => exact ⟨rfl, by first | rfl | simp [e1], rfl⟩
    case round =>
      obtain ⟨rfl, rfl, rfl⟩ := hrel
      have c2 := (C0.out wr (Below.refl _ _)).2
      have z1 : decide ((K : Int) < (N : Int)) = false := decide_eq_false (by omega)
      have z2 : decide (K < N) = false := decide_eq_false (by omega)
      go_wp2
      go_ret
      refine ⟨_, rfl, ?_, Below.refl _ _⟩
      rw [show brkI m k L N = [] by unfold brkI; rw [brk_small hs]; rfl]
      exact World.ownsRow_nil _ _ _ _
  · go_enter Try.func17, Try.ntmps17
    go_wp2
    go_loopw [3, 4] (fun s3 s4 wr => ∃ (i : Nat), s4 = .int .i64 (i : Int) ∧ k ≤ i + 1 ∧ i ≤ N ∧ Hid (wr.ownsRow w.heap.size 3 1 s3 (brkI m k L i).length (cellsN (brkI m k L i)) ∧ Below w.heap.size w wr)) (fun _ st _ => N - (intOf st).toNat)
    case atStart => exact ⟨K, by first | rfl | simp [e1], by omega, by omega, Lib.hid ⟨by rw [show brkI m k L K = [] by unfold brkI; rw [brk_small (by omega)]; rfl]; exact World.ownsRow_nil _ _ _ _, Below.refl _ _⟩⟩
    case round =>
      obtain ⟨i, rfl, hi1, hi2, G⟩ := hrel
      obtain ⟨A3, c3, rfl⟩ := own_any G.out.1
      obtain ⟨c0, c2⟩ := C0.out wr G.out.2
      rcases Nat.lt_or_ge i N with hlt | hge
      · have q1 : (i : Int) < (N : Int) := by omega
        obtain ⟨q', hq'⟩ : ∃ q', mc k (i + 1) L = q' := ⟨_, rfl⟩
        have hq9 : q' ≤ k := by rw [← hq']; exact mc_le _ _ _
        have C := Lib.hid (fun j => rmet i q' ((H.out.below G.out.2).drewN j) (by rw [Z.out]; omega) (by rw [Z.out]; exact hlt) hi1 hq')
        have hnx := brkI_next m k L i
        rw [hq'] at hnx
        have hsz := G.out.2.size
        have hol := BL.out i
        clear hq'
        by_cases ht : q' < m
        · have z3 : (q' : Int) < (m : Int) := by omega
          rw [if_pos ⟨hi1, ht⟩] at hnx
          have HN := Lib.hid hnx
          clear hnx
          go_wp2
          go_quiet (first | (go_at_call 24; refine Calls.quiet_of_same (C.out _)))
          obtain ⟨m1, hm1⟩ : ∃ v, v = nq := ⟨nq, rfl⟩
          subst hm1
          have G4 : Hid ((wr.drewN m1).ownsRow w.heap.size 3 1 (.slice A3 (brkI m k L i).length c3) (brkI m k L i).length (cellsN (brkI m k L i)) ∧ Below w.heap.size w (wr.drewN m1)) := ⟨G.out.1, below_dN G.out.2 _⟩
          have hsz4 : w.heap.size ≤ (wr.drewN m1).heap.size := hsz
          generalize wr.drewN m1 = w4 at *
          clear G C c0 c2 hsz
          go_wp2_with (at_builtin; refine wpList_append_own_at _ rfl (.tmp 27) (.tmp 29) 36 rfl w.heap.size 3 i0 (.int .i64 0) 1 8 Try.underlying36 hi0 hz0 hz1 hz2 rfl (by decide) _ _ _ rfl (G4.out.1.alloc _) ⟨w4.heap.size, 0, none⟩ 1 1 (cellsN [(i : Int)]) rfl rfl (newsI _ _ _ _ rfl) (onesI _) (by unfold maxLen; omega) (by omega) (by simp; omega) ?_)
          intro v' w3 hown' hgrow' hnil hloc
          have hb3 : Below w.heap.size w w3 := (G4.out.2.alloc hsz4 _).grown hgrow' (by simp; omega) (fun j hj => (G4.out.1.lt _ hj).1)
          have G5 := Lib.hid (And.intro hown' hb3)
          obtain ⟨A4, c4, rfl⟩ := own_any hown'
          clear hown' hgrow' hnil hloc hb3 G4
          go_wp2
          go_roundw
          case rel => exact ⟨i + 1, by simp, by omega, by omega, Lib.hid ⟨by rw [HN.out, cellsN_appM, List.length_append]; exact G5.out.1, G5.out.2⟩⟩
          case measure => simp [intOf]; omega
        · have z3 : decide ((q' : Int) < (m : Int)) = false := decide_eq_false (by omega)
          have z4 : decide (q' < m) = false := decide_eq_false (by omega)
          rw [if_neg (fun h => ht h.2), List.append_nil] at hnx
          have HN := Lib.hid hnx
          clear hnx
          go_wp2
          go_quiet (first | (go_at_call 24; refine Calls.quiet_of_same (C.out _)))
          go_wp2
          go_roundw
          case rel => exact ⟨i + 1, by simp, by omega, by omega, Lib.hid ⟨by rw [HN.out]; exact G.out.1, below_dN G.out.2 _⟩⟩
          case measure => simp [intOf]; omega
      · obtain rfl : i = N := by omega
        have z1 : decide ((i : Int) < (i : Int)) = false := decide_eq_false (by omega)
        go_wp2
        go_ret
        exact ⟨_, rfl, G.out.1, G.out.2⟩
end
end Go.Proofs.Ytecjblcdiabkcaa
