/- Package elastic: fixLow, compress, Press. -/
import Derived.Test.YtkjgpidiompmlaaEl3
namespace Go.Proofs.Ytkjgpidiompmlaa
open Go.RowKit Go.Deep
open Go.Lib hiding intOf
set_option linter.unusedVariables false
set_option linter.unusedSimpArgs false

/-- Who gets less than may be. -/
theorem low_chg {D S : Int} {p : Sp × Bool} (hg : p.1.good = true) (hS : 0 < S) : decide (spS D S p < p.1.least) = chg D S p := by
  have hsp := sp_iff.1 hg
  unfold chg spS
  cases p.2
  · rw [if_neg (by simp), Bool.not_false, Bool.true_and, Bool.eq_iff_iff, decide_eq_true_eq, decide_eq_true_eq]
    have := up_le_iff (x := D * p.1.soft) (y := p.1.want - p.1.least) hS
    omega
  · rw [if_pos rfl, Bool.not_true, Bool.false_and]
    refine decide_eq_false ?_
    unfold fixS
    split <;> omega
set_option maxHeartbeats 6400000 in
set_option maxRecDepth 100000 in
theorem efix_any (A : Option Addr) (cap X Y c c2 : Nat) (l : List Sp) (st : List (Sp × Bool)) (D S : Int) (w0 w : World) (hcap : cap ≤ 9223372036854775807) (hlc : l.length ≤ cap) (h20 : l.length ≤ 20) (hc : l.length ≤ c) (hc1 : c ≤ 9223372036854775807) (hc2 : l.length ≤ c2) (hc3 : c2 ≤ 9223372036854775807)
    (hR : RdSp w0 A l) (hst : st.map (·.1) = l) (hg : ∀ p ∈ st, p.1.good = true) (hf : ∀ p ∈ st, p.2 = false → 0 < p.1.soft) (hS : 0 < S) (hP : PBl w0 X Y l.length (spA D S st) (hA st) w) :
    Calls Try.prog 32 #[.slice A l.length cap, .slice (some ⟨Y, 0, none⟩) l.length c, .slice (some ⟨X, 0, none⟩) l.length c2] w (fun en w' => en = .returned (.bool (st.any (chg D S))) ∧ PBl w0 X Y l.length (spA D S st) (hA (st.map (holdNow D S))) w') := by
  obtain ⟨n, hl⟩ : ∃ n, l.length = n := ⟨_, rfl⟩
  have hln : st.length = n := by rw [← hl, ← hst, List.length_map]
  have At := Lib.hid hR.ats
  rw [hl] at hlc h20 hc hc2 hP ⊢
  have H := Lib.hid (And.intro hln (And.intro hst (And.intro hg (And.intro hf hS))))
  have K0 : Hid (anyC D S st 0 = false ∧ PBl w0 X Y n (spA D S st) (hA (mixS D S st 0)) w) := ⟨rfl, by rw [mix_zero]; exact hP⟩
  clear hl hln hR hst hg hf hS hP
  go_enter Try.func32, Try.ntmps32
  go_wp2
  go_loopw [7, 12] (fun mv iv wr => ∃ (i : Nat) (m : Bool), mv = .bool m ∧ iv = .int .i64 (i : Int) ∧ i ≤ n ∧ Hid (anyC D S st i = m ∧ PBl w0 X Y n (spA D S st) (hA (mixS D S st i)) wr)) (fun _ iv _ => n - (intOf iv).toNat)
  case atStart => exact ⟨0, false, rfl, rfl, by omega, K0⟩
  case round =>
    clear K0
    obtain ⟨i, m, rfl, rfl, hin, K⟩ := hrel
    rcases Nat.lt_or_ge i n with hlt | hge
    · have d1 : decide ((i : Int) < (n : Int)) = true := decide_eq_true (by omega)
      have e1 : IntKind.i64.wrap ((i : Int) + 1) = ((i + 1 : Nat) : Int) := by rw [IntKind.wrap_i64]; omega
      have b1 : (i : Int) < (n : Int) := by omega
      have b0 : (0 : Int) ≤ (i : Int) := by omega
      obtain ⟨p, hp⟩ : ∃ p, st[i]? = some p := ⟨_, List.getElem?_eq_getElem (by rw [H.out.1]; exact hlt)⟩
      have hx : l[i]? = some p.1 := by rw [← H.out.2.1, List.getElem?_map, hp]; rfl
      obtain ⟨B, off, rfl, hBw, hat⟩ := At.out i p.1 hx
      obtain ⟨c0, c1, c2⟩ := hat _ K.out.2.below
      have hm := List.mem_of_getElem? hp
      have hgp := H.out.2.2.1 p hm
      have hlow := low_chg (D := D) hgp H.out.2.2.2.2
      have hfree := H.out.2.2.2.1 p hm
      have hany := anyC_next (D := D) (S := S) hp
      rw [K.out.1] at hany
      obtain ⟨v, hv⟩ : ∃ v, spS D S p = v := ⟨_, rfl⟩
      rw [hv] at hlow
      have fx : ∀ cs, (wr.alloc cs).cell? ⟨X, i, none⟩ = some (.int .i64 v) := fun cs => by
        have := (K.out.2.on ((Below.refl _ _).alloc (Nat.le_refl _) cs)).x.cell i hlt
        rw [spA_of hp, hv] at this
        exact this
      obtain ⟨cg, hcg⟩ : ∃ cg, chg D S p = cg := ⟨_, rfl⟩
      rw [hcg] at hlow hany
      cases cg
      · have K2 : Hid (∀ W, Below wr.heap.size wr W → anyC D S st (i + 1) = m ∧ PBl w0 X Y n (spA D S st) (hA (mixS D S st (i + 1))) W) := fun W hW => ⟨by rw [hany, Bool.or_false], (K.out.2.on hW).to (fun q _ => rfl) (fun q _ => ((xA_same hp hcg q).2).symm)⟩
        clear hp hx hat hm hgp hfree hany hv K hcg
        obtain ⟨⟨a, nd, sf⟩, b⟩ := p
        simp only at c0 c1 c2 hlow
        go_wp2
        go_quiet (fail)
        go_wp2
        go_roundw
        case rel => exact ⟨i + 1, m, by first | rfl | simp, by first | rfl | simp, by omega, Lib.hid (K2.out _ (by repeat (first | exact Below.refl _ _ | refine Below.setCell ?_ (by first | omega | (simp; done) | (simp; omega)) _ | refine below_dN ?_ _ | refine Below.drew ?_ | refine Below.alloc ?_ (by first | omega | (simp; done) | (simp; omega)) _)))⟩
        case measure => simp [intOf]; omega
      · have hb : p.2 = false := by
          unfold chg at hcg
          rw [Bool.and_eq_true] at hcg
          simpa using hcg.1
        have hs0 : p.1.soft ≠ 0 := by have := hfree hb; omega
        have f1 : ∀ cs, (wr.alloc cs).frozen? ⟨Y, i, none⟩ = false := fun cs => (K.out.2.on ((Below.refl _ _).alloc (Nat.le_refl _) cs)).y.frz i hlt
        have f2 : ∀ cs, (wr.alloc cs).cell? ⟨Y, i, none⟩ = some (.bool (hA (mixS D S st i) i)) := fun cs => (K.out.2.on ((Below.refl _ _).alloc (Nat.le_refl _) cs)).y.cell i hlt
        have K2 : Hid (∀ W, Below wr.heap.size wr W → anyC D S st (i + 1) = true ∧ PBl w0 X Y n (spA D S st) (hA (mixS D S st (i + 1))) (W.setCell ⟨Y, i, none⟩ (.bool true))) := fun W hW => ⟨by rw [hany, Bool.or_true], (K.out.2.on hW).setY hlt (xA_chg hp hcg hs0).2⟩
        clear hp hx hat hm hgp hfree hany hv K hcg hb hs0
        obtain ⟨⟨a, nd, sf⟩, b⟩ := p
        simp only at c0 c1 c2 hlow
        go_wp2
        go_quiet (fail)
        clear fx hlow
        go_wp2
        go_roundw
        case rel => exact ⟨i + 1, true, by first | rfl | simp, by first | rfl | simp, by omega, Lib.hid (K2.out _ (by repeat (first | exact Below.refl _ _ | refine Below.setCell ?_ (by first | omega | (simp; done) | (simp; omega)) _ | refine below_dN ?_ _ | refine Below.drew ?_ | refine Below.alloc ?_ (by first | omega | (simp; done) | (simp; omega)) _)))⟩
        case measure => simp [intOf]; omega
    · have d1 : decide ((i : Int) < (n : Int)) = false := decide_eq_false (by omega)
      obtain rfl : i = n := by omega
      have hmix := mix_end (D := D) (S := S) (st := st) (i := i) (by rw [H.out.1]; exact Nat.le_refl _)
      have hany := anyC_end (D := D) (S := S) (st := st) (i := i) (by rw [H.out.1]; exact Nat.le_refl _)
      have K2 := K.out
      rw [hmix, hany] at K2
      obtain ⟨rfl, K3⟩ := K2
      clear K hmix hany
      go_wp2
      go_ret
      exact ⟨rfl, K3⟩
end Go.Proofs.Ytkjgpidiompmlaa
