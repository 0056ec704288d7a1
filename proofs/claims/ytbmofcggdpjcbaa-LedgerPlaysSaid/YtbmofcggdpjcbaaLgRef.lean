/- The document's own ledger in memory: sum, Earned, Lost, By, Till, Best. -/
import Derived.Test.YtbmofcggdpjcbaaLgRow
import Derived.Laws.AppendOwnNone
import Derived.Maps.AppendAt
namespace Go.Proofs.Ytbmofcggdpjcbaa
open Go.RowKit
set_option linter.unusedVariables false
set_option linter.unusedSimpArgs false

/-- Block b is the document's ledger that holds the rows l. -/
structure Lr (o : Nat → Nat) (σ : Nat) (w : World) (b : Nat) (v : Value) (l : List Rw) : Prop where
  box : Blk o σ w b #[v] 40
  row : Row o σ w 45 3 v l.length (cellsW l)
section
variable {o o' : Nat → Nat} {σ τ : Nat} {w w' : World} {b : Nat} {v : Value} {l : List Rw}
theorem Lr.alloc (h : Lr o σ w b v l) (x : Obj) (τ' : Nat) : Lr (tag o w.heap.size τ') σ (w.alloc x) b v l := ⟨h.box.alloc x τ', h.row.alloc x τ'⟩
theorem Lr.drewN (h : Lr o σ w b v l) (n : Nat) : Lr o σ (w.drewN n) b v l := ⟨⟨h.box.at_, h.box.mine⟩, ⟨h.row.own, h.row.mine⟩⟩
theorem Lr.below (h : Lr o σ w b v l) (hb : Below w.heap.size w w') : Lr o σ w' b v l := ⟨h.box.below hb, h.row.below hb⟩
theorem Lr.step (h : Lr o σ w b v l) (st : Step o o' τ w w') (hne : σ ≠ τ) : Lr o' σ w' b v l := ⟨h.box.step st hne, h.row.step st hne⟩
set_option maxHeartbeats 6400000 in
theorem rsum (n : List UInt8) (all : Bool) (r s : Int) (h : Lr o σ w b v l) (hi : LInv l) (hl : l.length ≤ 1000) (hr : sumF (eF (if all then allR else nameR n)) l = r) (hs : sumF (lF (if all then allR else nameR n)) l = s) :
    Calls Try.prog 27 #[.pointer (some ⟨b, 0, none⟩), .string (bs n), .bool all] w (RetB (.tuple #[.int .i64 r, .int .i64 s]) w) := by
  obtain ⟨A, cap, rfl⟩ := h.row.any
  obtain ⟨hlc, hcap⟩ := h.row.capsW
  have c0 : w.cell? ⟨b, 0, none⟩ = some (.slice A l.length cap) := by rw [h.box.cell]; simp
  have hbl := h.box.lt
  have RD := Lib.hid h.row.rdW
  obtain ⟨N, hN⟩ : ∃ N, l.length = N := ⟨_, rfl⟩
  rw [hN] at c0 hl hlc
  obtain ⟨P, hP⟩ : ∃ P, (if all then allR else nameR n) = P := ⟨_, rfl⟩
  rw [hP] at hr hs
  have hPt : ∀ x : Rw, all = true → P x = true := fun x e => by rw [← hP, e]; rfl
  have hPf : ∀ x : Rw, all = false → P x = decide (x.name = n) := fun x e => by rw [← hP, e]; rfl
  have Z := Lib.hid (And.intro hN (And.intro hi (And.intro hr (And.intro hs (And.intro hPt (And.intro hPf (And.intro hbl c0)))))))
  clear h hi hr hN hs hP hPt hPf hbl c0
  go_enter Try.func27, Try.ntmps27
  go_wp2
  go_loopw [8, 9, 10] (fun s8 s9 s10 wr => ∃ (i : Nat) (q p : Int), s8 = .int .i64 q ∧ s9 = .int .i64 p ∧ s10 = .int .i64 (i : Int) ∧ i ≤ N ∧ Hid (sumF (eF P) (l.take i) = q ∧ sumF (lF P) (l.take i) = p) ∧ Below w.heap.size w wr) (fun _ _ st _ => N - (intOf st).toNat)
  case atStart => exact ⟨0, 0, 0, rfl, rfl, rfl, by omega, Lib.hid ⟨rfl, rfl⟩, Below.refl _ _⟩
  case round =>
    obtain ⟨i, q, p, rfl, rfl, rfl, hi2, HQ, hb⟩ := hrel
    have c0 : wr.cell? ⟨b, 0, none⟩ = some (.slice A N cap) := by rw [hb.cell (p := ⟨b, 0, none⟩) Z.out.2.2.2.2.2.2.1]; exact Z.out.2.2.2.2.2.2.2
    rcases Nat.lt_or_ge i N with hlt | hge
    · obtain ⟨⟨xt, xn, xv⟩, hx⟩ : ∃ x, l[i]? = some x := ⟨_, List.getElem?_eq_getElem (by rw [Z.out.1]; exact hlt)⟩
      obtain ⟨g, rfl, hg, d0, d1, d2⟩ := (RD.out.below hb) i _ hx
      simp only at d0 d1 d2
      have q1 : (i : Int) < (N : Int) := by omega
      have q2 : (0 : Int) ≤ (i : Int) := by omega
      have B := Lib.hid hb
      have he := sumF_next (f := eF P) hx
      have hl2 := sumF_next (f := lF P) hx
      have hp1 := e_part Z.out.2.1 P (i + 1)
      have hp2 := l_part Z.out.2.1 P (i + 1)
      rw [HQ.out.1] at he
      rw [HQ.out.2] at hl2
      have hsk : (all = false ∧ xn ≠ n) ∨ (P ⟨xt, xn, xv⟩ = true ∧ (all = true ∨ xn = n)) := by
        cases hall : all with
        | true => exact .inr ⟨Z.out.2.2.2.2.1 _ hall, .inl rfl⟩
        | false =>
          have e := Z.out.2.2.2.2.2.1 ⟨xt, xn, xv⟩ hall
          by_cases hn : xn = n
          · exact .inr ⟨by rw [e]; exact decide_eq_true hn, .inr hn⟩
          · exact .inl ⟨rfl, hn⟩
      rcases hsk with ⟨rfl, hn⟩ | ⟨hP, hn⟩
      · have hn' : ((bs xn).toList == (bs n).toList) = false := by rw [bs_list, bs_list]; simpa using hn
        have hPn : P ⟨xt, xn, xv⟩ = false := by rw [Z.out.2.2.2.2.2.1 _ rfl]; exact decide_eq_false hn
        have e1 : eF P ⟨xt, xn, xv⟩ = 0 := if_neg fun h => by rw [hPn] at h; cases h.1
        have e2 : lF P ⟨xt, xn, xv⟩ = 0 := if_neg fun h => by rw [hPn] at h; cases h.1
        rw [e1, Int.add_zero] at he
        rw [e2, Int.add_zero] at hl2
        have HN := Lib.hid (And.intro he hl2)
        clear hx hg HQ hb hp1 hp2 he hl2 hn e1 e2 hPn
        go_wp2
        go_roundw
        case rel => exact ⟨i + 1, q, p, rfl, rfl, by simp, by omega, HN, by have s0 := B.out.size; (try simp only [World.heap_drewN, World.size_alloc] at s0); repeat (first | exact Below.refl _ _ | exact B.out | refine Below.trans ?_ (Below.mono B.out (by first | omega | (simp; done) | (simp; omega))) | refine Below.setCell ?_ (by first | omega | (simp; done) | (simp; omega)) _ | refine below_dN ?_ _ | refine Below.drew ?_ | refine Below.alloc ?_ (by first | omega | (simp; done) | (simp; omega)) _)⟩
        case measure => simp [intOf]; omega
      · by_cases hv : 0 < xv
        · have e1 : eF P ⟨xt, xn, xv⟩ = xv := if_pos ⟨hP, hv⟩
          have e2 : lF P ⟨xt, xn, xv⟩ = 0 := if_neg fun h => h.2 hv
          rw [e1] at he
          rw [e2, Int.add_zero] at hl2
          rw [he] at hp1
          obtain ⟨q', hq'⟩ : ∃ q', q + xv = q' := ⟨_, rfl⟩
          rw [hq'] at hp1 he
          have e3 : wrap64 (q + xv) = q' := by unfold wrap64; omega
          have hv' : xv > 0 := hv
          have HN := Lib.hid (And.intro he hl2)
          clear hx hg HQ hb hp1 hp2 he hl2 e1 e2 hq' hv hP
          rcases hn with rfl | rfl
          · go_wp2
            go_roundw
            case rel => exact ⟨i + 1, q', p, by first | rfl | simp [e3], rfl, by simp, by omega, HN, by have s0 := B.out.size; (try simp only [World.heap_drewN, World.size_alloc] at s0); repeat (first | exact Below.refl _ _ | exact B.out | refine Below.trans ?_ (Below.mono B.out (by first | omega | (simp; done) | (simp; omega))) | refine Below.setCell ?_ (by first | omega | (simp; done) | (simp; omega)) _ | refine below_dN ?_ _ | refine Below.drew ?_ | refine Below.alloc ?_ (by first | omega | (simp; done) | (simp; omega)) _)⟩
            case measure => simp [intOf]; omega
          · have hn' : ((bs xn).toList == (bs xn).toList) = true := by simp
            cases all
            all_goals
              go_wp2
              go_roundw
              case rel => exact ⟨i + 1, q', p, by first | rfl | simp [e3], rfl, by simp, by omega, HN, by have s0 := B.out.size; (try simp only [World.heap_drewN, World.size_alloc] at s0); repeat (first | exact Below.refl _ _ | exact B.out | refine Below.trans ?_ (Below.mono B.out (by first | omega | (simp; done) | (simp; omega))) | refine Below.setCell ?_ (by first | omega | (simp; done) | (simp; omega)) _ | refine below_dN ?_ _ | refine Below.drew ?_ | refine Below.alloc ?_ (by first | omega | (simp; done) | (simp; omega)) _)⟩
              case measure => simp [intOf]; omega
        · have e1 : eF P ⟨xt, xn, xv⟩ = 0 := if_neg fun h => hv h.2
          have e2 : lF P ⟨xt, xn, xv⟩ = -xv := if_pos ⟨hP, hv⟩
          rw [e1, Int.add_zero] at he
          rw [e2] at hl2
          rw [hl2] at hp2
          obtain ⟨p', hp'⟩ : ∃ p', p + -xv = p' := ⟨_, rfl⟩
          rw [hp'] at hp2 hl2
          have e3 : wrap64 (p - xv) = p' := by unfold wrap64; omega
          have hv' : decide (xv > 0) = false := decide_eq_false hv
          have HN := Lib.hid (And.intro he hl2)
          clear hx hg HQ hb hp1 hp2 he hl2 e1 e2 hp' hv hP
          rcases hn with rfl | rfl
          · go_wp2
            go_roundw
            case rel => exact ⟨i + 1, q, p', rfl, by first | rfl | simp [e3], by simp, by omega, HN, by have s0 := B.out.size; (try simp only [World.heap_drewN, World.size_alloc] at s0); repeat (first | exact Below.refl _ _ | exact B.out | refine Below.trans ?_ (Below.mono B.out (by first | omega | (simp; done) | (simp; omega))) | refine Below.setCell ?_ (by first | omega | (simp; done) | (simp; omega)) _ | refine below_dN ?_ _ | refine Below.drew ?_ | refine Below.alloc ?_ (by first | omega | (simp; done) | (simp; omega)) _)⟩
            case measure => simp [intOf]; omega
          · have hn' : ((bs xn).toList == (bs xn).toList) = true := by simp
            cases all
            all_goals
              go_wp2
              go_roundw
              case rel => exact ⟨i + 1, q, p', rfl, by first | rfl | simp [e3], by simp, by omega, HN, by have s0 := B.out.size; (try simp only [World.heap_drewN, World.size_alloc] at s0); repeat (first | exact Below.refl _ _ | exact B.out | refine Below.trans ?_ (Below.mono B.out (by first | omega | (simp; done) | (simp; omega))) | refine Below.setCell ?_ (by first | omega | (simp; done) | (simp; omega)) _ | refine below_dN ?_ _ | refine Below.drew ?_ | refine Below.alloc ?_ (by first | omega | (simp; done) | (simp; omega)) _)⟩
              case measure => simp [intOf]; omega
    · obtain rfl : i = N := by omega
      have hk := List.take_of_length_le (l := l) (i := i) (by rw [Z.out.1]; exact Nat.le_refl _)
      obtain rfl : q = r := by rw [← HQ.out.1, ← Z.out.2.2.1, hk]
      obtain rfl : p = s := by rw [← HQ.out.2, ← Z.out.2.2.2.1, hk]
      have B := Lib.hid hb
      clear HQ hb hk
      go_wp2
      go_ret2
      exact ⟨rfl, B.out⟩
set_option maxHeartbeats 800000 in
theorem rearned (h : Lr o σ w b v l) (hi : LInv l) (hl : l.length ≤ 1000) : Calls Try.prog 19 #[.pointer (some ⟨b, 0, none⟩)] w (RetB (.int .i64 (earned l)) w) := by
  have C : Hid (Calls Try.prog 27 #[.pointer (some ⟨b, 0, none⟩), .string ⟨#[]⟩, .bool true] w (RetB (.tuple #[.int .i64 (earned l), .int .i64 (lost l)]) w)) := rsum [] true _ _ h hi hl rfl rfl
  clear h hi
  go_enter Try.func19, Try.ntmps19
  go_wp2_with fail
  refine (C.out).mono ?_; rintro e gw ⟨rfl, g⟩
  go_wp2
  go_ret
  exact ⟨rfl, by have s0 := g.size; (try simp only [World.heap_drewN, World.size_alloc] at s0); repeat (first | exact Below.refl _ _ | exact g | refine Below.trans ?_ (Below.mono g (by first | omega | (simp; done) | (simp; omega))) | refine Below.setCell ?_ (by first | omega | (simp; done) | (simp; omega)) _ | refine below_dN ?_ _ | refine Below.drew ?_ | refine Below.alloc ?_ (by first | omega | (simp; done) | (simp; omega)) _)⟩
set_option maxHeartbeats 800000 in
theorem rlost (h : Lr o σ w b v l) (hi : LInv l) (hl : l.length ≤ 1000) : Calls Try.prog 21 #[.pointer (some ⟨b, 0, none⟩)] w (RetB (.int .i64 (lost l)) w) := by
  have C : Hid (Calls Try.prog 27 #[.pointer (some ⟨b, 0, none⟩), .string ⟨#[]⟩, .bool true] w (RetB (.tuple #[.int .i64 (earned l), .int .i64 (lost l)]) w)) := rsum [] true _ _ h hi hl rfl rfl
  clear h hi
  go_enter Try.func21, Try.ntmps21
  go_wp2_with fail
  refine (C.out).mono ?_; rintro e gw ⟨rfl, g⟩
  go_wp2
  go_ret
  exact ⟨rfl, by have s0 := g.size; (try simp only [World.heap_drewN, World.size_alloc] at s0); repeat (first | exact Below.refl _ _ | exact g | refine Below.trans ?_ (Below.mono g (by first | omega | (simp; done) | (simp; omega))) | refine Below.setCell ?_ (by first | omega | (simp; done) | (simp; omega)) _ | refine below_dN ?_ _ | refine Below.drew ?_ | refine Below.alloc ?_ (by first | omega | (simp; done) | (simp; omega)) _)⟩
set_option maxHeartbeats 800000 in
theorem rby (n : List UInt8) (r s : Int) (h : Lr o σ w b v l) (hi : LInv l) (hl : l.length ≤ 1000) (hr : sumF (eF (nameR n)) l = r) (hs : sumF (lF (nameR n)) l = s) :
    Calls Try.prog 16 #[.pointer (some ⟨b, 0, none⟩), .string (bs n)] w (RetB (.tuple #[.int .i64 r, .int .i64 s]) w) := by
  have C := Lib.hid (rsum n false r s h hi hl hr hs)
  clear h hi hr hs
  go_enter Try.func16, Try.ntmps16
  go_wp2_with fail
  refine (C.out).mono ?_; rintro e gw ⟨rfl, g⟩
  go_wp2
  go_ret2
  exact ⟨rfl, by have s0 := g.size; (try simp only [World.heap_drewN, World.size_alloc] at s0); repeat (first | exact Below.refl _ _ | exact g | refine Below.trans ?_ (Below.mono g (by first | omega | (simp; done) | (simp; omega))) | refine Below.setCell ?_ (by first | omega | (simp; done) | (simp; omega)) _ | refine below_dN ?_ _ | refine Below.drew ?_ | refine Below.alloc ?_ (by first | omega | (simp; done) | (simp; omega)) _)⟩
set_option maxHeartbeats 3200000 in
theorem rtill (t r : Int) (h : Lr o σ w b v l) (hi : LInv l) (hl : l.length ≤ 1000) (hr : sumF (tF t) l = r) :
    Calls Try.prog 22 #[.pointer (some ⟨b, 0, none⟩), .int .i64 t] w fun e w' => e = .returned (.int .i64 r) ∧ w' = w := by
  obtain ⟨A, cap, rfl⟩ := h.row.any
  obtain ⟨hlc, hcap⟩ := h.row.capsW
  have c0 : w.cell? ⟨b, 0, none⟩ = some (.slice A l.length cap) := by rw [h.box.cell]; simp
  have RD := Lib.hid h.row.rdW
  obtain ⟨N, hN⟩ : ∃ N, l.length = N := ⟨_, rfl⟩
  rw [hN] at c0 hl hlc
  have Z := Lib.hid (And.intro hN (And.intro hi hr))
  clear h hi hr hN
  go_enter Try.func22, Try.ntmps22
  go_wp2
  go_loopw [5, 6] (fun s5 s6 wr => ∃ (i : Nat) (q : Int), s5 = .int .i64 q ∧ s6 = .int .i64 (i : Int) ∧ i ≤ N ∧ Hid (sumF (tF t) (l.take i) = q) ∧ wr = w) (fun _ st _ => N - (intOf st).toNat)
  case atStart => exact ⟨0, 0, rfl, rfl, by omega, Lib.hid rfl, rfl⟩
  case round =>
    obtain ⟨i, q, rfl, rfl, hi2, HQ, rfl⟩ := hrel
    rcases Nat.lt_or_ge i N with hlt | hge
    · obtain ⟨⟨xt, xn, xv⟩, hx⟩ : ∃ x, l[i]? = some x := ⟨_, List.getElem?_eq_getElem (by rw [Z.out.1]; exact hlt)⟩
      obtain ⟨g, rfl, hg, d0, d1, d2⟩ := RD.out i _ hx
      simp only at d0 d1 d2
      have q1 : (i : Int) < (N : Int) := by omega
      have q2 : (0 : Int) ≤ (i : Int) := by omega
      have hn := sumF_next (f := tF t) hx
      rw [HQ.out] at hn
      by_cases ht : xt ≤ t
      · have hp := t_part Z.out.2.1 t (i + 1)
        have ht2 : tF t ⟨xt, xn, xv⟩ = xv := if_pos ht
        rw [ht2] at hn
        rw [hn] at hp
        obtain ⟨q', hq'⟩ : ∃ q', q + xv = q' := ⟨_, rfl⟩
        rw [hq'] at hp hn
        have e1 : wrap64 (q + xv) = q' := by unfold wrap64; omega
        have HN := Lib.hid hn
        clear hx hg HQ hn hp ht2 hq'
        go_wp2
        go_roundw
        case rel => exact ⟨i + 1, q', by first | rfl | simp [e1], by simp, by omega, HN, by first | rfl | trivial⟩
        case measure => simp [intOf]; omega
      · have ht' : decide (xt ≤ t) = false := decide_eq_false ht
        rw [show tF t ⟨xt, xn, xv⟩ = 0 from if_neg ht, Int.add_zero] at hn
        have HN := Lib.hid hn
        clear hx hg HQ hn ht
        go_wp2
        go_roundw
        case rel => exact ⟨i + 1, q, rfl, by simp, by omega, HN, by first | rfl | trivial⟩
        case measure => simp [intOf]; omega
    · obtain rfl : i = N := by omega
      obtain rfl : q = r := by
        rw [← HQ.out, ← Z.out.2.2, List.take_of_length_le (by rw [Z.out.1]; exact Nat.le_refl _)]
      clear HQ
      go_wp2
      go_ret
      exact ⟨rfl, rfl⟩
end
end Go.Proofs.Ytbmofcggdpjcbaa
