/- Package ledger: Best. -/
import Derived.Test.YtbmofcggdpjcbaaLg3
import Derived.Test.YtbmofcggdpjcbaaLgSort
namespace Go.Proofs.Ytbmofcggdpjcbaa
open Go.RowKit
set_option linter.unusedVariables false
set_option linter.unusedSimpArgs false

theorem take_nextW {l : List Rw} {i : Nat} {x : Rw} (h : l[i]? = some x) : l.take (i + 1) = l.take i ++ [x] := by rw [List.take_add_one, h]; rfl
theorem take_nextK {l : List (List UInt8)} {i : Nat} {x : List UInt8} (h : l[i]? = some x) : l.take (i + 1) = l.take i ++ [x] := by rw [List.take_add_one, h]; rfl
section
variable {o : Nat → Nat} {σ : Nat} {w : World} {a : Nat} {v : Value} {l : List Rw}
theorem sumN_take (h : LInv l) (n : List UInt8) (i : Nat) : 0 ≤ sumN (l.take i) n ∧ sumN (l.take i) n ≤ 4611686018427387904 := e_part h (nameR n) i
theorem up_take {ks : List (List UInt8)} (h : ks.Pairwise (fun x y => x ≤ y)) {j : Nat} {k : List UInt8} (hk : ks[j]? = some k) : ∀ x ∈ ks.take j, x ≤ k := by
  intro x hx
  obtain ⟨i, hi, rfl⟩ := List.mem_iff_getElem.1 hx
  rw [List.length_take] at hi
  obtain ⟨hj, hke⟩ := List.getElem?_eq_some_iff.1 hk
  rw [List.getElem_take, ← hke]
  exact List.pairwise_iff_getElem.1 h i j (by omega) hj (by omega)
set_option maxHeartbeats 6400000 in
theorem lbest (b : List UInt8) (m : Int) (h : Lg o σ w a v l) (hi : LInv l) (hl : l.length ≤ 1000) (hn : ∀ x ∈ l, x.name.length ≤ maxLen) (hv : bestV l = (b, m)) :
    Calls Try.prog 9 #[.pointer (some ⟨a, 0, none⟩)] w (RetB (.tuple #[.string (bs b), .bool (decide (0 < m))]) w) := by
  obtain ⟨A, cap, rfl⟩ := h.row.any
  obtain ⟨hlc, hcap⟩ := h.row.capsW
  have c0 : (w.alloc (.map #[] 0)).cell? ⟨a, 0, none⟩ = some (.slice A l.length cap) := by rw [(h.box.alloc _ 0).cell]; simp
  have RD := Lib.hid h.row.rdW
  have MD := Lib.hid (MapE.made w)
  obtain ⟨N, hN⟩ : ∃ N, l.length = N := ⟨_, rfl⟩
  rw [hN] at c0 hl hlc
  have Z := Lib.hid (And.intro hN (And.intro hi (And.intro hn hv)))
  clear h hi hn hN hv
  have hmm := @run_makeMap Try.prog
  go_enter Try.func9, Try.ntmps9
  go_wp2
  clear hmm
  go_loopw [17] (fun s17 wr => ∃ (i : Nat), s17 = .int .i64 (i : Int) ∧ i ≤ N ∧ MapE wr w.heap.size (l.take i) ∧ Below w.heap.size w wr) (fun st _ => N - (intOf st).toNat)
  case atStart => exact ⟨0, rfl, by omega, by simpa using MD.out, by repeat (first | exact Below.refl _ _ | refine Below.setCell ?_ (by first | omega | (simp; done) | (simp; omega)) _ | refine below_dN ?_ _ | refine Below.drew ?_ | refine Below.alloc ?_ (by first | omega | (simp; done) | (simp; omega)) _)⟩
  case round =>
    obtain ⟨i, rfl, hi2, hm, hb⟩ := hrel
    rcases Nat.lt_or_ge i N with hlt | hge
    · obtain ⟨⟨xt, xn, xv⟩, hx⟩ : ∃ x, l[i]? = some x := ⟨_, List.getElem?_eq_getElem (by rw [Z.out.1]; exact hlt)⟩
      obtain ⟨g, rfl, hg, d0, d1, d2⟩ := (RD.out.below hb) i _ hx
      simp only at d0 d1 d2
      have q1 : (i : Int) < (N : Int) := by omega
      have q2 : (0 : Int) ≤ (i : Int) := by omega
      have B := Lib.hid hb
      have hm2 : MapE (wr.alloc (.cells #[.int .i64 xt, .string (bs xn), .int .i64 xv] 34)) w.heap.size (l.take i) := hm.below ((Below.refl _ _).alloc (Nat.le_refl _) _)
      by_cases hv : 0 < xv
      · have hln : xn.length ≤ maxLen := Z.out.2.2.1 _ (List.mem_of_getElem? hx)
        have hp := sumN_take Z.out.2.1 xn i
        have hp2 := sumN_take Z.out.2.1 xn (i + 1)
        have hs2 : sumN (l.take (i + 1)) xn = sumN (l.take i) xn + xv := by
          rw [take_nextW hx, sumN_snoc]
          show _ + eF (nameR xn) ⟨xt, xn, xv⟩ = _
          rw [show eF (nameR xn) ⟨xt, xn, xv⟩ = xv from if_pos ⟨by simp [nameR], hv⟩]
        rw [hs2] at hp2
        obtain ⟨s, hs⟩ : ∃ s, sumN (l.take i) xn = s := ⟨_, rfl⟩
        rw [hs] at hp hp2
        obtain ⟨s2, hss⟩ : ∃ s2, s + xv = s2 := ⟨_, rfl⟩
        rw [hss] at hp2
        have L := hm2.look hln hs
        obtain ⟨w2, hup, hm3, hgr⟩ := hm2.add ⟨xt, xn, xv⟩ hv hln (by rw [List.length_take]; omega) (s := s2) (by rw [← hss, ← hs]) (fitB_true (by omega))
        rw [← take_nextW hx] at hm3
        simp only at hup
        have e1 : wrap64 (s + xv) = s2 := by unfold wrap64; omega
        have hv' : xv > 0 := hv
        have hb2 : Below w.heap.size w w2 := (hb.alloc hb.size (.cells #[.int .i64 xt, .string (bs xn), .int .i64 xv] 34)).grown hgr (by have := hb.size; simp; omega) (fun k hk => by injection hk with hk; omega)
        have G := Lib.hid (And.intro hm3 hb2)
        clear hm hm2 hm3 hgr hb2 hx hg hb hp hp2 hs2 hs hss hln hv MD
        go_wp2
        go_roundw
        case rel => exact ⟨i + 1, by simp, by omega, G.out.1, G.out.2⟩
        case measure => simp [intOf]; omega
      · have hv' : decide (xv > 0) = false := decide_eq_false hv
        have hm3 := hm2.skip ⟨xt, xn, xv⟩ hv
        rw [← take_nextW hx] at hm3
        have G := Lib.hid hm3
        clear hm hm2 hm3 hx hg hb hv MD
        go_wp2
        go_roundw
        case rel => exact ⟨i + 1, by simp, by omega, G.out, by have s0 := B.out.size; (try simp only [World.heap_drewN, World.size_alloc] at s0); repeat (first | exact Below.refl _ _ | exact B.out | refine Below.trans ?_ (Below.mono B.out (by first | omega | (simp; done) | (simp; omega))) | refine Below.setCell ?_ (by first | omega | (simp; done) | (simp; omega)) _ | refine below_dN ?_ _ | refine Below.drew ?_ | refine Below.alloc ?_ (by first | omega | (simp; done) | (simp; omega)) _)⟩
        case measure => simp [intOf]; omega
    · obtain rfl : i = N := by omega
      have hk := List.take_of_length_le (l := l) (i := i) (by rw [Z.out.1]; exact Nat.le_refl _)
      rw [hk] at hm
      have C1 := Lib.hid (mkeys_any (some w.heap.size) wr)
      have C2 := Lib.hid (msortedE hm (by rw [Z.out.1]; exact hl))
      have G := Lib.hid (And.intro hm hb)
      clear hm hb hk MD
      go_wp2_with fail
      refine C1.out.mono ?_
      rintro e w1 ⟨rfl, rfl⟩
      go_wp2_with fail
      refine C2.out.mono ?_
      rintro e w3 ⟨A2, c2, ks, rfl, hk1, hk2, hk3, hrd, hup, hmem, hb3⟩
      obtain ⟨wo, hwo⟩ : ∃ v, v = wr := ⟨wr, rfl⟩
      subst hwo
      obtain ⟨hm, hb⟩ := G.out
      have hm3 := Lib.hid (hm.below hb3)
      have hb4 := Lib.hid (below_on hb hb3)
      obtain ⟨K, hK⟩ : ∃ K, ks.length = K := ⟨_, rfl⟩
      rw [hK] at hk1 hk2
      have Y := Lib.hid (And.intro hK (And.intro hrd (And.intro hup hmem)))
      clear C1 C2 G hm hb hb3 hrd hup hmem
      rw [hK]
      replace hK := Lib.hid hK
      go_wp2
      go_loopw [7, 8, 36] (fun s7 s8 s36 wx => ∃ (j : Nat) (b2 : List UInt8) (m2 : Int), s7 = .string (bs b2) ∧ s8 = .int .i64 m2 ∧ s36 = .int .i64 (j : Int) ∧ j ≤ K ∧ Hid (BestOn (sumN l) (ks.take j) b2 m2) ∧ Below w3.heap.size w3 wx) (fun _ _ st _ => K - (intOf st).toNat)
      case atStart => exact ⟨0, [], 0, rfl, rfl, rfl, by omega, Lib.hid (by simpa using BestOn.nil), Below.refl _ _⟩
      case round =>
        obtain ⟨j, b2, m2, rfl, rfl, rfl, hj2, HB, hbx⟩ := hrel
        rcases Nat.lt_or_ge j K with hlt | hge
        · obtain ⟨k, hkj⟩ : ∃ k, ks[j]? = some k := ⟨_, List.getElem?_eq_getElem (by rw [hK.out]; exact hlt)⟩
          obtain ⟨g2, rfl, hg2, e0⟩ := Y.out.2.1 j k hkj
          have e0 : wr.cell? ⟨g2, j, none⟩ = some (.string (bs k)) := by rw [hbx.cell (p := ⟨g2, j, none⟩) hg2]; exact e0
          have hkm := List.mem_of_getElem? hkj
          obtain ⟨x0, hx0, hxn, _⟩ := (Y.out.2.2.2 k).1 hkm
          have hln : k.length ≤ maxLen := by rw [← hxn]; exact Z.out.2.2.1 _ hx0
          obtain ⟨s, hs⟩ : ∃ s, sumN l k = s := ⟨_, rfl⟩
          have L : ∀ n, (Instr.lookup 51 (.map (some w.heap.size)) (.string (bs k)) false).run Try.prog (wr.drewN n) = .ok (.int .i64 s) (wr.drewN n) := fun n => ((hm3.out.below hbx).same (w' := wr.drewN n) rfl).look hln hs
          have L0 : (Instr.lookup 51 (.map (some w.heap.size)) (.string (bs k)) false).run Try.prog wr = .ok (.int .i64 s) wr := (hm3.out.below hbx).look hln hs
          have q1 : (j : Int) < (K : Int) := by omega
          have q2 : (0 : Int) ≤ (j : Int) := by omega
          have Bx := Lib.hid hbx
          by_cases hgt : m2 < s
          · have HN := HB.out.take (n := k) (sumN_nn l k) (.inl (by rw [hs]; exact hgt))
            rw [← take_nextK hkj, hs] at HN
            replace HN := Lib.hid HN
            have hgt' : s > m2 := hgt
            clear hkj hg2 hkm hx0 hxn hln hs HB hgt hbx
            go_wp2
            go_quiet (fail)
            go_wp2
            go_roundw
            case rel => exact ⟨j + 1, k, s, by first | rfl | simp, by first | rfl | simp, by simp, by omega, HN, by have s0 := Bx.out.size; (try simp only [World.heap_drewN, World.size_alloc] at s0); repeat (first | exact Below.refl _ _ | exact Bx.out | refine Below.trans ?_ (Below.mono Bx.out (by first | omega | (simp; done) | (simp; omega))) | refine Below.setCell ?_ (by first | omega | (simp; done) | (simp; omega)) _ | refine below_dN ?_ _ | refine Below.drew ?_ | refine Below.alloc ?_ (by first | omega | (simp; done) | (simp; omega)) _)⟩
            case measure => simp [intOf]; omega
          · have HN := HB.out.keepUp (n := k) (sumN_nn l k) (up_take Y.out.2.2.1 hkj) (by rw [hs]; exact hgt)
            rw [← take_nextK hkj] at HN
            replace HN := Lib.hid HN
            have hgt' : decide (s > m2) = false := decide_eq_false hgt
            clear hkj hg2 hkm hx0 hxn hln hs HB hgt hbx
            go_wp2
            go_roundw
            case rel => exact ⟨j + 1, b2, m2, rfl, rfl, by simp, by omega, HN, Bx.out⟩
            case measure => simp [intOf]; omega
        · obtain rfl : j = K := by omega
          have hk9 := List.take_of_length_le (l := ks) (i := j) (by rw [hK.out]; exact Nat.le_refl _)
          have HF := HB.out
          rw [hk9] at HF
          have HF2 : BestOn (sumN l) (namesR l) b2 m2 := HF.wider (fun k hk => by
            obtain ⟨x0, hx0, hxn, _⟩ := (Y.out.2.2.2 k).1 hk
            exact List.mem_map.2 ⟨x0, hx0, hxn⟩) (fun k _ hkn => sumF_zero _ fun x hx => by
              by_cases hxe : x.name = k
              · by_cases hxv : 0 < x.val
                · exact absurd ((Y.out.2.2.2 k).2 ⟨x, hx, hxe, hxv⟩) hkn
                · exact if_neg fun q => hxv q.2
              · exact if_neg fun q => hxe (of_decide_eq_true q.1))
          have hbv := bestV_uniq HF2
          rw [Z.out.2.2.2] at hbv
          injection hbv with hb1 hb2
          subst hb1 hb2
          have Bx := Lib.hid (below_on hb4.out hbx)
          obtain ⟨d, hd⟩ : ∃ d, decide (0 < m) = d := ⟨_, rfl⟩
          have hd' : decide (m > 0) = d := hd
          rw [hd]
          clear hk9 HF HF2 HB hbx hd
          go_wp2
          go_ret2
          exact ⟨by first | rfl | simp [hd'], Bx.out⟩
end
end Go.Proofs.Ytbmofcggdpjcbaa
