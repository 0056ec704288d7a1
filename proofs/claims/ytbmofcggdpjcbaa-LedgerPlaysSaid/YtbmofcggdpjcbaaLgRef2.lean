/- The document's own ledger: Best, Write. -/
import Derived.Test.YtbmofcggdpjcbaaLgRef
import Derived.Sort.Walk0
namespace Go.Proofs.Ytbmofcggdpjcbaa
open Go.RowKit
set_option linter.unusedVariables false
set_option linter.unusedSimpArgs false

theorem less_bs (x y : List UInt8) : Op.bytesLess (bs x).toList (bs y).toList = decide (x < y) := by rw [bs_list, bs_list]; exact bytesLess_eq x y
theorem names_next {l : List Rw} {i : Nat} {x : Rw} (h : l[i]? = some x) : namesR (l.take (i + 1)) = namesR (l.take i) ++ [x.name] := by rw [List.take_add_one, h]; simp [namesR]
section
variable {o o' : Nat → Nat} {σ τ : Nat} {w w' : World} {b : Nat} {v : Value} {l : List Rw}
set_option maxHeartbeats 6400000 in
theorem rbest (c : List UInt8) (m : Int) (h : Lr o σ w b v l) (hi : LInv l) (hl : l.length ≤ 1000) (hv : bestV l = (c, m)) :
    Calls Try.prog 17 #[.pointer (some ⟨b, 0, none⟩)] w (RetB (.tuple #[.string (bs c), .bool (decide (0 < m))]) w) := by
  obtain ⟨A, cap, rfl⟩ := h.row.any
  obtain ⟨hlc, hcap⟩ := h.row.capsW
  obtain ⟨N, hN⟩ : ∃ N, l.length = N := ⟨_, rfl⟩
  have C0 : ∀ w', Below w.heap.size w w' → w'.cell? ⟨b, 0, none⟩ = some (.slice A N cap) := fun w' hb => by rw [(h.box.below hb).cell, ← hN]; simp
  have BY := Lib.hid (fun (w' : World) (n : List UInt8) (r s : Int) (hb : Below w.heap.size w w') (hr : sumF (eF (nameR n)) l = r) (hs : sumF (lF (nameR n)) l = s) => rby n r s (h.below hb) hi hl hr hs)
  have RD := Lib.hid h.row.rdW
  rw [hN] at hl hlc
  have Z := Lib.hid (And.intro hN hv)
  clear h hi hN hv
  have c0 := C0 w (Below.refl _ _)
  replace C0 := Lib.hid C0
  go_enter Try.func17, Try.ntmps17
  go_wp2
  go_loopw [4, 5, 6] (fun s4 s5 s6 wr => ∃ (i : Nat) (b2 : List UInt8) (m2 : Int), s4 = .string (bs b2) ∧ s5 = .int .i64 m2 ∧ s6 = .int .i64 (i : Int) ∧ i ≤ N ∧ Hid (BestOn (sumN l) (namesR (l.take i)) b2 m2) ∧ Below w.heap.size w wr) (fun _ _ st _ => N - (intOf st).toNat)
  case atStart => exact ⟨0, [], 0, rfl, rfl, rfl, by omega, Lib.hid BestOn.nil, Below.refl _ _⟩
  case round =>
    obtain ⟨i, b2, m2, rfl, rfl, rfl, hi2, HB, hb⟩ := hrel
    have c0 := C0.out wr hb
    rcases Nat.lt_or_ge i N with hlt | hge
    · obtain ⟨⟨xt, xn, xv⟩, hx⟩ : ∃ x, l[i]? = some x := ⟨_, List.getElem?_eq_getElem (by rw [Z.out.1]; exact hlt)⟩
      obtain ⟨g, rfl, hg, d0, d1, d2⟩ := (RD.out.below hb) i _ hx
      simp only at d0 d1 d2
      have q1 : (i : Int) < (N : Int) := by omega
      have q2 : (0 : Int) ≤ (i : Int) := by omega
      obtain ⟨e, he⟩ : ∃ e, sumN l xn = e := ⟨_, rfl⟩
      obtain ⟨lo, hlo⟩ : ∃ lo, sumF (lF (nameR xn)) l = lo := ⟨_, rfl⟩
      have C := Lib.hid (BY.out wr xn e lo hb he hlo)
      have HT := Lib.hid (fun (hc : m2 < e ∨ (e = m2 ∧ 0 < m2 ∧ xn < b2)) => (show BestOn (sumN l) (namesR (l.take (i + 1))) xn e from by
        rw [names_next hx]; exact he ▸ HB.out.take (n := xn) (sumN_nn l xn) (by rw [he]; exact hc)))
      have HK := Lib.hid (fun (hc : ¬ (m2 < e ∨ (e = m2 ∧ 0 < m2 ∧ xn < b2))) => (show BestOn (sumN l) (namesR (l.take (i + 1))) b2 m2 from by
        rw [names_next hx]; exact HB.out.keep (n := xn) (sumN_nn l xn) (by rw [he]; exact hc)))
      have RX := Lib.hid (fun w' (hb' : Below w.heap.size w w') => (show w'.cell? ⟨g, i * 3 + 1, none⟩ = some (.string (bs xn)) from by
        obtain ⟨g', hg', _, _, r1, _⟩ := (RD.out.below hb') i _ hx
        injection hg' with hg'
        injection hg' with hg'
        subst hg'
        exact r1))
      have hls := less_bs xn b2
      have B := Lib.hid hb
      have m2nn := HB.out.nonneg
      clear hx hg HB hb he hlo d0 d2
      go_wp2_with fail
      refine C.out.mono ?_
      rintro e1 w2 ⟨rfl, h2⟩
      have b3 := below_on B.out h2
      have c0 := C0.out w2 b3
      have d1 := RX.out w2 b3
      replace b3 := Lib.hid b3
      clear C h2 B
      by_cases k1 : m2 < e
      · have k1' : e > m2 := k1
        have HN := Lib.hid (HT.out (.inl k1))
        clear HT HK k1
        go_wp2
        go_roundw
        case rel => exact ⟨i + 1, xn, e, rfl, rfl, by simp, by omega, HN, b3.out⟩
        case measure => simp [intOf]; omega
      · have k1' : decide (e > m2) = false := decide_eq_false k1
        by_cases k2 : e = m2
        · subst k2
          have k2' : (e == e) = true := by simp
          by_cases k3 : 0 < e
          · have k3' : e > 0 := k3
            by_cases k4 : xn < b2
            · have k4' : Op.bytesLess (bs xn).toList (bs b2).toList = true := by rw [hls]; exact decide_eq_true k4
              have HN := Lib.hid (HT.out (.inr ⟨rfl, k3, k4⟩))
              clear HT HK k1 k3 k4 hls
              go_wp2
              go_roundw
              case rel => exact ⟨i + 1, xn, e, rfl, rfl, by simp, by omega, HN, b3.out⟩
              case measure => simp [intOf]; omega
            · have k4' : Op.bytesLess (bs xn).toList (bs b2).toList = false := by rw [hls]; exact decide_eq_false k4
              have HN := Lib.hid (HK.out (fun hc => by rcases hc with hc | hc; exact k1 hc; exact k4 hc.2.2))
              clear HT HK k1 k3 k4 hls
              go_wp2
              go_roundw
              case rel => exact ⟨i + 1, b2, e, rfl, rfl, by simp, by omega, HN, b3.out⟩
              case measure => simp [intOf]; omega
          · have k3' : decide (e > 0) = false := decide_eq_false k3
            have HN := Lib.hid (HK.out (fun hc => by rcases hc with hc | hc; exact k1 hc; exact k3 hc.2.1))
            clear HT HK k1 k3 hls
            go_wp2
            go_roundw
            case rel => exact ⟨i + 1, b2, e, rfl, rfl, by simp, by omega, HN, b3.out⟩
            case measure => simp [intOf]; omega
        · have k2' : (e == m2) = false := by simpa using k2
          have HN := Lib.hid (HK.out (fun hc => by rcases hc with hc | hc; exact k1 hc; exact k2 hc.1))
          clear HT HK k1 hls
          go_wp2
          go_roundw
          case rel => exact ⟨i + 1, b2, m2, rfl, rfl, by simp, by omega, HN, b3.out⟩
          case measure => simp [intOf]; omega
    · obtain rfl : i = N := by omega
      have hk := List.take_of_length_le (l := l) (i := i) (by rw [Z.out.1]; exact Nat.le_refl _)
      have HF := HB.out
      rw [hk] at HF
      have hbv := bestV_uniq HF
      rw [Z.out.2] at hbv
      injection hbv with hb1 hb2
      subst hb1 hb2
      have B := Lib.hid hb
      obtain ⟨d, hd⟩ : ∃ d, decide (0 < m) = d := ⟨_, rfl⟩
      have hd' : decide (m > 0) = d := hd
      rw [hd]
      clear hk HF HB hb hd
      go_wp2
      go_ret2
      exact ⟨by first | rfl | simp [hd'], B.out⟩
end
end Go.Proofs.Ytbmofcggdpjcbaa
