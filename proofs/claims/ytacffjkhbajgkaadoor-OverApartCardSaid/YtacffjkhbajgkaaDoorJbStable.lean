/- The library's stable sort of a row of indices (at most forty): blocks of twenty, then their merge. -/
import Derived.Test.YtacffjkhbajgkaaDoorJbSym
namespace Go.Proofs.YtacffjkhbajgkaaDoor
open Go.RowKit
set_option linter.unusedVariables false
set_option linter.unusedSimpArgs false

/-- Behind i blocks: the first ones sorted, the rest as laid. -/
def Blks (dl : Int → Int) (g : Nat → Int) (n i : Nat) : Prop := (1 ≤ i → Run dl g 0 20) ∧ (2 ≤ i → Run dl g 20 40) ∧ IdF g (20 * i) n
theorem Blks.next {dl : Int → Int} {g g' : Nat → Int} {n i : Nat} (h : Blks dl g n i) (hi : i ≤ 1) (hn : 20 * i + 20 ≤ n) (s : Same g g' (20 * i) (20 * i + 20)) (o : Srt dl g' (20 * i) (20 * i + 20)) : Blks dl g' n (i + 1) := by
  have hI : IdF g (20 * i) (20 * i + 20) := fun k k1 k2 => h.2.2 k k1 (by omega)
  have R := hI.run s o
  refine ⟨fun _ => ?_, fun h2 => ?_, ?_⟩
  · by_cases e : i = 0
    · subst e; exact R
    · exact (h.1 (by omega)).keep s (by omega)
  · obtain rfl : i = 1 := by omega
    exact R
  · have := IdF.keep (c := 20 * i + 20) (d := n) (fun k k1 k2 => h.2.2 k (by omega) k2) s (by omega)
    exact this
/-- What stands behind the blocks: two runs, or one. -/
def Two (dl : Int → Int) (g : Nat → Int) (n : Nat) : Prop := (n ≤ 20 ∧ Run dl g 0 n) ∨ (20 < n ∧ Run dl g 0 20 ∧ Run dl g 20 n)
theorem Blks.two {dl : Int → Int} {g g' : Nat → Int} {n i : Nat} (h : Blks dl g n i) (hi : 20 * i ≤ n) (hn : n < 20 * i + 20) (h40 : n ≤ 40) (s : Same g g' (20 * i) n) (o : Srt dl g' (20 * i) n) : Two dl g' n := by
  have R := IdF.run h.2.2 s o
  by_cases e0 : i = 0
  · subst e0; exact .inl ⟨by omega, R⟩
  · by_cases e1 : i = 1
    · subst e1
      by_cases e2 : n = 20
      · subst e2; exact .inl ⟨by omega, (h.1 (by omega)).keep s (by omega)⟩
      · exact .inr ⟨by omega, (h.1 (by omega)).keep s (by omega), R⟩
    · obtain rfl : i = 2 := by omega
      obtain rfl : n = 40 := by omega
      exact .inr ⟨by omega, (h.1 (by omega)).keep s (by omega), (h.2.1 (by omega)).keep s (by omega)⟩
theorem Run.idx {dl : Int → Int} {g : Nat → Int} {a m b : Nat} (h1 : Run dl g a m) (h2 : Run dl g m b) : ∀ p q, a ≤ p → p < m → m ≤ q → q < b → g p < g q := by
  intro p q p1 p2 p3 p4
  have := h1.to p p1 p2
  have := h2.to q p3 p4
  omega

set_option maxHeartbeats 4000000 in
set_option maxRecDepth 100000 in
theorem stable_any (dl : Int → Int) (w0 : World) (B o n cap X : Nat) (f : Nat → Int) (w : World) (hn : n ≤ 40) (hcap : cap ≤ 9223372036854775807) (hC : Cmp dl w0 B n X) (h : At w0 B o n f w) (hf : IdF f 0 n) :
    Calls Tryd.prog 43 #[.slice (some ⟨B, o, none⟩) n cap, .int .i64 (n : Int), .func (.func 36) #[] #[.pointer (some ⟨X, 0, none⟩)]] w (fun e w' => e = .returned (.tuple #[]) ∧ ∃ g, Run dl g 0 n ∧ At w0 B o n g w') := by
  have HC := Lib.hid hC
  have H := Lib.hid (And.intro h hf)
  clear hC h hf
  go_enter Tryd.func43, Tryd.ntmps43
  go_wp2
  go_loopw [7, 8] (fun s1 s2 wr => ∃ (i a b : Nat) (g : Nat → Int), s1 = .int .i64 (a : Int) ∧ s2 = .int .i64 (b : Int) ∧ 20 * i = a ∧ 20 * i + 20 = b ∧ a ≤ n ∧ Hid (Blks dl g n i ∧ At w0 B o n g wr)) (fun s1 s2 _ => 100 - (intOf s1).toNat)
  case atStart => exact ⟨0, 0, 20, f, by first | rfl | simp, by first | rfl | simp, rfl, rfl, by omega, Lib.hid ⟨⟨fun h => by omega, fun h => by omega, by simpa using H.out.2⟩, H.out.1⟩⟩
  case round =>
    clear H
    obtain ⟨i, a, b, g, rfl, rfl, ha, hb, hin, K⟩ := hrel
    rcases Nat.lt_or_ge n b with hlt | hge
    · have d1 : decide ((b : Int) ≤ (n : Int)) = false := decide_eq_false (by omega)
      have C := Lib.hid (insertion_any dl w0 B o n cap X a n g wr (by omega) hcap HC.out K.out.2 (by omega) (Nat.le_refl _) (fun p q p1 p2 p3 => by rw [K.out.1.2.2 p (by omega) (by omega), K.out.1.2.2 q (by omega) (by omega)]; omega))
      have K2 := Lib.hid K.out.1
      clear K
      go_wp2_with fail
      refine C.out.mono ?_
      rintro _ W ⟨rfl, g2, hS, hO, hA⟩
      have T := Lib.hid (And.intro (K2.out.two (by omega) (by omega) hn (by rw [ha]; exact hS) (by rw [ha]; exact hO)) hA)
      clear C K2 hS hO hA
      replace ha := Lib.hid ha
      replace hb := Lib.hid hb
      clear d1 hlt
      go_wp2
      go_loopw [6, 7, 8] (fun s0 s1 s2 wr => ∃ (bs : Nat) (g : Nat → Int) (x y : Int), s0 = .int .i64 (bs : Int) ∧ s1 = .int .i64 x ∧ s2 = .int .i64 y ∧ Hid ((bs = 20 ∧ Two dl g n) ∨ (bs = 40 ∧ Run dl g 0 n)) ∧ Hid (At w0 B o n g wr)) (fun s0 s1 s2 _ => 100 - (intOf s0).toNat)
      case atStart => exact ⟨20, g2, _, _, by first | rfl | simp, rfl, rfl, Lib.hid (.inl ⟨rfl, T.out.1⟩), Lib.hid T.out.2⟩
      case round =>
        clear T
        obtain ⟨bs, g3, x, y, rfl, rfl, rfl, D, K⟩ := hrel
        by_cases hbn : bs < n
        · obtain ⟨hbs, R1, R2⟩ : Hid (bs = 20) ∧ Run dl g3 0 20 ∧ Run dl g3 20 n := by
            rcases D.out with ⟨h1, h2⟩ | ⟨h1, h2⟩
            · rcases h2 with ⟨h3, h4⟩ | ⟨h3, h4, h5⟩
              · omega
              · exact ⟨h1, h4, h5⟩
            · omega
          have R := Lib.hid (And.intro R1 R2)
          clear D R1 R2
          have d2 : decide ((bs : Int) < (n : Int)) = true := decide_eq_true (by omega)
          obtain ⟨b0, e2, hb0⟩ : ∃ b0 : Nat, IntKind.i64.wrap (2 * (bs : Int)) = (b0 : Int) ∧ Hid (b0 = 40) := ⟨40, by rw [IntKind.wrap_i64, hbs.out]; rfl, rfl⟩
          have e3 : IntKind.i64.wrap ((bs : Int) * 2) = (b0 : Int) := by rw [Int.mul_comm]; exact e2
          go_wp2
          go_loopw [7, 8] (fun s1 s2 wr => ∃ (p q : Nat) (g4 : Nat → Int), s1 = .int .i64 (p : Int) ∧ s2 = .int .i64 (q : Int) ∧ Hid ((p = 0 ∧ q = 40 ∧ Run dl g4 0 20 ∧ Run dl g4 20 n) ∨ (p = 40 ∧ q = 80 ∧ n = 40 ∧ Run dl g4 0 n)) ∧ Hid (At w0 B o n g4 wr)) (fun s1 s2 _ => 100 - (intOf s1).toNat)
          case atStart => exact ⟨0, b0, g3, by first | rfl | simp, rfl, Lib.hid (.inl ⟨rfl, hb0.out, R.out.1, R.out.2⟩), K⟩
          case round =>
            clear R K
            obtain ⟨p, q, g4, rfl, rfl, D, K⟩ := hrel
            obtain ⟨m, e4, hm⟩ : ∃ m : Nat, IntKind.i64.wrap ((p : Int) + (bs : Int)) = (m : Int) ∧ Hid (m = p + 20) := ⟨p + 20, by rw [IntKind.wrap_i64, hbs.out]; rcases D.out with h | h <;> omega, rfl⟩
            by_cases hqn : q ≤ n
            · have d3 : decide ((q : Int) ≤ (n : Int)) = true := decide_eq_true (by omega)
              obtain ⟨hp, hq, R1, R2⟩ : Hid (p = 0) ∧ Hid (q = 40) ∧ Run dl g4 0 20 ∧ Run dl g4 20 n := by
                rcases D.out with ⟨h1, h2, h3, h4⟩ | ⟨h1, h2, h3, h4⟩
                · exact ⟨h1, h2, h3, h4⟩
                · omega
              have hn40 : Hid (n = 40) := by have := hq.out; show n = 40; omega
              have e5 : IntKind.i64.wrap ((q : Int) + (b0 : Int)) = ((q + b0 : Nat) : Int) := by rw [IntKind.wrap_i64, hb0.out, hq.out]; rfl
              have M : Hid (SymP dl w0 B o n cap X p m q g4 wr) := by
                rw [hm.out, hp.out, hq.out]
                rw [hn40.out] at R2
                exact sym_any dl w0 B o n cap X (by omega) hcap HC.out 40 0 20 40 g4 wr (by omega) K.out (by omega) (by omega) (by have := hn40.out; omega) R1.srt R2.srt (R1.idx R2)
              have R := Lib.hid (And.intro R1 R2)
              clear D R1 R2 K
              unfold SymP at M
              go_wp2_with fail
              refine M.out.mono ?_
              rintro _ W5 ⟨rfl, g5, hS, hO, hA⟩
              have T : Hid (Run dl g5 0 n ∧ At w0 B o n g5 W5) := by
                refine ⟨?_, hA⟩
                have R2 := R.out.2
                rw [hn40.out] at R2 ⊢
                rw [hp.out, hq.out] at hS hO
                exact Run.join R.out.1 R2 (by omega) (by omega) hS hO
              clear M R hS hO hA
              go_wp2
              go_roundw
              case rel => exact ⟨q, q + b0, g5, rfl, by first | rfl | simp, Lib.hid (.inr ⟨hq.out, by rw [hq.out, hb0.out], hn40.out, T.out.1⟩), Lib.hid T.out.2⟩
              case measure => have := hp.out; have := hq.out; simp [intOf]; omega
            · have d3 : decide ((q : Int) ≤ (n : Int)) = false := decide_eq_false (by omega)
              by_cases hmn : m < n
              · have d4 : decide ((m : Int) < (n : Int)) = true := decide_eq_true (by omega)
                obtain ⟨hp, R1, R2⟩ : Hid (p = 0) ∧ Run dl g4 0 20 ∧ Run dl g4 20 n := by
                  rcases D.out with ⟨h1, h2, h3, h4⟩ | ⟨h1, h2, h3, h4⟩
                  · exact ⟨h1, h3, h4⟩
                  · have := hm.out; omega
                have M : Hid (SymP dl w0 B o n cap X p m n g4 wr) := by
                  have hmn' := hmn
                  rw [hm.out, hp.out] at hmn' ⊢
                  exact sym_any dl w0 B o n cap X (by omega) hcap HC.out n 0 20 n g4 wr (by omega) K.out (by omega) hmn' (Nat.le_refl _) R1.srt R2.srt (R1.idx R2)
                have R := Lib.hid (And.intro R1 R2)
                clear D R1 R2 K
                unfold SymP at M
                go_wp2_with fail
                refine M.out.mono ?_
                rintro _ W5 ⟨rfl, g5, hS, hO, hA⟩
                have T : Hid (Run dl g5 0 n ∧ At w0 B o n g5 W5) := by
                  refine ⟨?_, hA⟩
                  rw [hp.out] at hS hO
                  exact Run.join R.out.1 R.out.2 (by omega) (by have := hm.out; omega) hS hO
                clear M R hS hO hA
                go_wp2
                go_roundw
                case rel => exact ⟨b0, g5, _, _, by first | rfl | simp, rfl, rfl, Lib.hid (.inr ⟨hb0.out, T.out.1⟩), Lib.hid T.out.2⟩
                case measure => have := hbs.out; have := hb0.out; simp [intOf]; omega
              · have d4 : decide ((m : Int) < (n : Int)) = false := decide_eq_false (by omega)
                have T : Hid (Run dl g4 0 n) := by
                  rcases D.out with ⟨h1, h2, h3, h4⟩ | ⟨h1, h2, h3, h4⟩
                  · have := hm.out; have := hbs.out; omega
                  · exact h4
                clear D
                go_wp2
                go_roundw
                case rel => exact ⟨b0, g4, _, _, by first | rfl | simp, rfl, rfl, Lib.hid (.inr ⟨hb0.out, T.out⟩), K⟩
                case measure => have := hbs.out; have := hb0.out; simp [intOf]; omega
        · have d2 : decide ((bs : Int) < (n : Int)) = false := decide_eq_false (by omega)
          have K2 : Hid (Run dl g3 0 n) := by
            rcases D.out with ⟨h1, h2⟩ | ⟨h1, h2⟩
            · rcases h2 with ⟨h3, h4⟩ | ⟨h3, h4, h5⟩
              · exact h4
              · omega
            · exact h2
          clear D
          go_wp2
          go_end0
          exact ⟨rfl, _, K2.out, K.out⟩
    · have d1 : decide ((b : Int) ≤ (n : Int)) = true := decide_eq_true (by omega)
      have C := Lib.hid (insertion_any dl w0 B o n cap X a b g wr (by omega) hcap HC.out K.out.2 (by omega) (by omega) (fun p q p1 p2 p3 => by rw [K.out.1.2.2 p (by omega) (by omega), K.out.1.2.2 q (by omega) (by omega)]; omega))
      have K2 := Lib.hid K.out.1
      have e1 : IntKind.i64.wrap ((b : Int) + 20) = ((b + 20 : Nat) : Int) := by rw [IntKind.wrap_i64]; omega
      clear K
      go_wp2_with fail
      refine C.out.mono ?_
      rintro _ W ⟨rfl, g2, hS, hO, hA⟩
      have T := Lib.hid (And.intro (K2.out.next (by omega) (by omega) (by rw [hb, ha]; exact hS) (by rw [hb, ha]; exact hO)) hA)
      clear C K2 hS hO hA
      go_wp2
      go_roundw
      case rel => exact ⟨i + 1, b, b + 20, g2, rfl, by first | rfl | simp, by omega, by omega, by omega, T⟩
      case measure => simp [intOf]; omega
end Go.Proofs.YtacffjkhbajgkaaDoor
