/- DemandSays: demand, frames, what can be held: as the document says. -/
import Derived.Test.YtmokbmhobglhfaaDmAwake
namespace Go.Proofs.Ytmokbmhobglhfaa
open Go.RowKit Go.Lib
set_option linter.unusedVariables false
set_option linter.unusedSimpArgs false

set_option maxHeartbeats 6400000 in
set_option maxRecDepth 100000 in
theorem DemandSays_ret (A : Option Addr) (cap : Nat) (l : List Tk) (long : Int) (w : World) (hlc : l.length ≤ cap) (hcap : cap ≤ 9223372036854775807) (hR : RdK w A l) (hf : fitB long = true) :
    Calls Try.prog 4 #[.slice A l.length cap, .int .i64 long] w (RetB (.bool true) w) := by
  have A0 := Lib.hid awake11_any
  obtain ⟨n, hl⟩ : ∃ n, l.length = n := ⟨_, rfl⟩
  by_cases h25 : n ≤ 25
  · have d1 : decide ((n : Int) > 25) = false := decide_eq_false (by omega)
    obtain ⟨v, hv⟩ : ∃ v, frameN l = v := ⟨_, rfl⟩
    obtain ⟨e, he⟩ : ∃ e, frameE l = e := ⟨_, rfl⟩
    obtain ⟨a, ha⟩ : ∃ a, allZ l long = a := ⟨_, rfl⟩
    obtain ⟨g, hg⟩ : ∃ g, holdsB l = g := ⟨_, rfl⟩
    have O : Hid (∀ w', Below w.heap.size w w' → Calls Try.prog 14 #[.slice A n cap] w' (fun e w2 => ∃ A' c, e = .returned (.slice A' n c) ∧ n ≤ c ∧ c ≤ 9223372036854775807 ∧ RdK w2 A' l ∧ Below w'.heap.size w' w2)) := fun w' hb => by
      have := own11_any A cap l w' (by omega) hcap hlc (hR.below hb)
      rw [hl] at this
      exact this
    have F1 : Hid (∀ w', Below w.heap.size w w' → Calls Try.prog 8 #[.slice A n cap] w' (RetB (.tuple #[.int .i64 v, .int .i64 e]) w')) := fun w' hb => hl ▸ dframe_any A cap l v e w' hcap hlc (hR.below hb) hv he
    have F2 : Hid (∀ A' c w', n ≤ c → c ≤ 9223372036854775807 → RdK w' A' l → Calls Try.prog 13 #[.slice A' n c] w' (RetB (.tuple #[.int .i64 v, .int .i64 e]) w')) := fun A' c w' h1 h2 h3 => by
      have := rframe_any A' c l v e w' h2 (by omega) h3 hv he
      rw [hl] at this
      exact this
    have D1 : Hid (∀ w', Below w.heap.size w w' → Calls Try.prog 12 #[.slice A n cap, .int .i64 long] w' (RetB (.int .i64 a) w')) := fun w' hb => hl ▸ dall_any A cap l long a w' hcap hlc hf (hR.below hb) ha
    have D2 : Hid (∀ A' c w', n ≤ c → c ≤ 9223372036854775807 → RdK w' A' l → Calls Try.prog 15 #[.slice A' n c, .int .i64 long] w' (RetB (.int .i64 a) w')) := fun A' c w' h1 h2 h3 => by
      have := rallz_any A' c l long a w' h2 (by omega) hf h3 ha
      rw [hl] at this
      exact this
    have H1 : Hid (∀ w', Below w.heap.size w w' → Calls Try.prog 9 #[.slice A n cap] w' (RetB (.tuple #[.bool g, .int .i64 e]) w')) := fun w' hb => hl ▸ dholds_any A cap l g e w' hcap hlc (hR.below hb) hg he
    have H2 : Hid (∀ A' c w', n ≤ c → c ≤ 9223372036854775807 → RdK w' A' l → Calls Try.prog 18 #[.slice A' n c] w' (RetB (.tuple #[.bool g, .int .i64 e]) w')) := fun A' c w' h1 h2 h3 => by
      have := rholds_any A' c l g e w' h2 (by omega) h3 hg he
      rw [hl] at this
      exact this
    have L := Lib.hid (And.intro hl (And.intro hR hf))
    have v1 : (v != v) = false := by simp
    have v2 : (e != e) = false := by simp
    have v3 : (a != a) = false := by simp
    rw [hl] at hlc ⊢
    clear hl hR hf hv he ha hg
    go_enter Try.func4, Try.ntmps4
    go_wp2_with fail
    refine (A0.out _).mono ?_; rintro x w0 ⟨rfl, b0⟩
    replace b0 := Lib.hid b0
    clear A0
    go_wp2_with fail
    refine (F1.out _ b0.out).mono ?_; rintro x w1 ⟨rfl, b1⟩
    replace b1 := Lib.hid (below_on b0.out b1)
    clear F1 b0
    go_wp2_with fail
    refine (O.out _ b1.out).mono ?_; rintro x w2 ⟨A2, c2, rfl, h1, h2, h3, b2⟩
    replace b2 := Lib.hid (below_on b1.out b2)
    have C := Lib.hid (F2.out A2 c2 w2 h1 h2 h3)
    clear F2 b1 h1 h2 h3
    go_wp2_with fail
    refine C.out.mono ?_; rintro x w3 ⟨rfl, b3⟩
    replace b3 := Lib.hid (below_on b2.out b3)
    clear C b2
    go_wp2_with fail
    refine (D1.out _ b3.out).mono ?_; rintro x w4 ⟨rfl, b4⟩
    replace b4 := Lib.hid (below_on b3.out b4)
    clear D1 b3
    go_wp2_with fail
    refine (O.out _ b4.out).mono ?_; rintro x w5 ⟨A5, c5, rfl, h1, h2, h3, b5⟩
    replace b5 := Lib.hid (below_on b4.out b5)
    have C := Lib.hid (D2.out A5 c5 w5 h1 h2 h3)
    clear D2 b4 h1 h2 h3
    go_wp2_with fail
    refine C.out.mono ?_; rintro x w6 ⟨rfl, b6⟩
    replace b6 := Lib.hid (below_on b5.out b6)
    clear C b5 v3
    go_wp2
    clear v1 v2 d1
    go_loopw [9] (fun st wr => ∃ (i : Nat), st = .int .i64 (i : Int) ∧ i ≤ n ∧ Hid (Below w.heap.size w wr)) (fun st _ => n - (intOf st).toNat)
    case atStart => exact ⟨0, by first | rfl | simp, by omega, b6⟩
    case round =>
      obtain ⟨i, rfl, hin, K⟩ := hrel
      clear b6
      rcases Nat.lt_or_ge i n with hlt | hge
      · have d1 : decide ((i : Int) < (n : Int)) = true := decide_eq_true (by omega)
        have e1 : IntKind.i64.wrap ((i : Int) + 1) = ((i + 1 : Nat) : Int) := by rw [IntKind.wrap_i64]; omega
        have e1' : wrap64 ((i : Int) + 1) = ((i + 1 : Nat) : Int) := by unfold wrap64; omega
        have q1 : (i : Int) < (n : Int) := by omega
        obtain ⟨x, hx⟩ : ∃ x, l[i]? = some x := ⟨_, List.getElem?_eq_getElem (by rw [L.out.1]; exact hlt)⟩
        obtain ⟨B, off, rfl, _⟩ := L.out.2.1 i x hx
        have At : Hid (∀ w', Below w.heap.size w w' → w'.cell? ⟨B, off + i * 3, none⟩ = some (.int .i64 x.per) ∧ w'.cell? ⟨B, off + i * 3 + 1, none⟩ = some (.int .i64 x.need) ∧ w'.cell? ⟨B, off + i * 3 + 2, none⟩ = some (.int .i64 x.skip)) := fun w' hb => by
          obtain ⟨B', off', he, c⟩ := (L.out.2.1.below hb) i x hx
          cases he
          exact c
        have At2 : Hid (∀ A' w', RdK w' A' l → ∃ b o, A' = some ⟨b, o, none⟩ ∧ w'.cell? ⟨b, o + i * 3, none⟩ = some (.int .i64 x.per) ∧ w'.cell? ⟨b, o + i * 3 + 1, none⟩ = some (.int .i64 x.need) ∧ w'.cell? ⟨b, o + i * 3 + 2, none⟩ = some (.int .i64 x.skip)) := fun A' w' h => h i x hx
        obtain ⟨gd, hgd⟩ : ∃ q, x.good = q := ⟨_, rfl⟩
        obtain ⟨o, ho⟩ : ∃ q, ofZ x long = q := ⟨_, rfl⟩
        have G1 := Lib.hid (dgood_any x gd · hgd)
        have G2 := Lib.hid (rgoodtask_any x gd · hgd)
        have Q1 := Lib.hid (dof_any x long o · L.out.2.2 ho)
        have Q2 := Lib.hid (rof_any x long o · L.out.2.2 ho)
        have v1 : (gd != gd) = false := by simp
        have v2 : (o != o) = false := by simp
        clear hx hgd ho
        obtain ⟨p, nd, s⟩ := x
        simp only at At At2 G1 G2 Q1 Q2
        obtain ⟨c0, c1, c2'⟩ := At.out wr K.out
        go_wp2_with fail
        refine (G1.out _).mono ?_; rintro x w1 ⟨rfl, b1⟩
        replace b1 := Lib.hid (below_on K.out b1)
        clear G1 K c0 c1 c2'
        obtain ⟨z0, z1, z2⟩ := At.out _ b1.out
        go_wp2_with fail
        refine (O.out _ b1.out).mono ?_; rintro x w2 ⟨A2, k2, rfl, h1, h2, h3, b2⟩
        replace b2 := Lib.hid (below_on b1.out b2)
        obtain ⟨b, o2, rfl, c0, c1, c2'⟩ := At2.out A2 w2 h3
        clear b1 z0 z1 z2
        obtain ⟨z0, z1, z2⟩ := At.out _ b2.out
        go_wp2_with fail
        refine (G2.out _).mono ?_; rintro x w3 ⟨rfl, b3⟩
        replace b3 := Lib.hid (below_on b2.out b3)
        clear G2 b2 h1 h2 h3 c0 c1 c2' z0 z1 z2
        obtain ⟨z0, z1, z2⟩ := At.out _ b3.out
        go_wp2_with fail
        refine (Q1.out _).mono ?_; rintro x w4 ⟨rfl, b4⟩
        replace b4 := Lib.hid (below_on b3.out b4)
        clear Q1 b3 z0 z1 z2
        go_wp2_with fail
        refine (O.out _ b4.out).mono ?_; rintro x w5 ⟨A5, k5, rfl, h1, h2, h3, b5⟩
        replace b5 := Lib.hid (below_on b4.out b5)
        obtain ⟨b', o5, rfl, c0, c1, c2'⟩ := At2.out A5 w5 h3
        clear b4
        go_wp2_with fail
        refine (Q2.out _).mono ?_; rintro x w6 ⟨rfl, b6⟩
        replace b6 := Lib.hid (below_on b5.out b6)
        clear Q2 b5 h1 h2 h3 c0 c1 c2' O At At2
        go_wp2
        go_roundw
        case rel => exact ⟨i + 1, by first | rfl | (simp; done) | rw [e1] | rw [e1'], by omega, b6⟩
        case measure => simp [intOf]; omega
      · have d1 : decide ((i : Int) < (n : Int)) = false := decide_eq_false (by omega)
        obtain ⟨ez, hez⟩ : ∃ z, (e == 0) = z := ⟨_, rfl⟩
        obtain ⟨vz, hvz⟩ : ∃ z, decide (v > 5000) = z := ⟨_, rfl⟩
        have g1 : (g == g) = true := by simp
        have g2 : (e == e) = true := by simp
        by_cases hb : ez = true ∧ vz = true
        · obtain ⟨rfl, rfl⟩ := hb
          clear H1 H2 O
          go_wp2
          go_ret
          exact ⟨rfl, by have s0 := K.out.size; (try simp only [World.heap_drewN, World.size_alloc] at s0); repeat (first | exact Below.refl _ _ | exact K.out | refine Below.trans ?_ (Below.mono K.out (by first | omega | (simp; done) | (simp; omega))) | refine Below.setCell ?_ (by first | omega | (simp; done) | (simp; omega)) _ | refine below_dN ?_ _ | refine Below.drew ?_ | refine Below.alloc ?_ (by first | omega | (simp; done) | (simp; omega)) _)⟩
        · have hh : ez = false ∨ ez = true ∧ vz = false := by
            cases ez
            · exact .inl rfl
            · cases vz
              · exact .inr ⟨rfl, rfl⟩
              · exact absurd ⟨rfl, rfl⟩ hb
          clear hb
          rcases hh with rfl | ⟨rfl, rfl⟩
          all_goals
            go_wp2_with fail
            refine (H1.out _ K.out).mono ?_; rintro x w1 ⟨rfl, b1⟩
            replace b1 := Lib.hid (below_on K.out b1)
            clear H1
            go_wp2_with fail
            refine (O.out _ b1.out).mono ?_; rintro x w2 ⟨A2, k2, rfl, h1, h2, h3, b2⟩
            replace b2 := Lib.hid (below_on b1.out b2)
            have C := Lib.hid (H2.out A2 k2 w2 h1 h2 h3)
            clear H2 b1 h1 h2 h3 O K
            go_wp2_with fail
            refine C.out.mono ?_; rintro x w3 ⟨rfl, b3⟩
            replace b3 := Lib.hid (below_on b2.out b3)
            clear C b2
            go_wp2
            go_ret
            exact ⟨rfl, by have s0 := b3.out.size; (try simp only [World.heap_drewN, World.size_alloc] at s0); repeat (first | exact Below.refl _ _ | exact b3.out | refine Below.trans ?_ (Below.mono b3.out (by first | omega | (simp; done) | (simp; omega))) | refine Below.setCell ?_ (by first | omega | (simp; done) | (simp; omega)) _ | refine below_dN ?_ _ | refine Below.drew ?_ | refine Below.alloc ?_ (by first | omega | (simp; done) | (simp; omega)) _)⟩
  · have d1 : decide ((n : Int) > 25) = true := decide_eq_true (by omega)
    rw [hl]
    clear hR hl
    go_enter Try.func4, Try.ntmps4
    go_wp2_with fail
    refine (A0.out _).mono ?_; rintro x w0 ⟨rfl, b0⟩
    clear A0
    go_wp2
    go_ret
    exact ⟨rfl, by have s0 := b0.size; (try simp only [World.heap_drewN, World.size_alloc] at s0); repeat (first | exact Below.refl _ _ | exact b0 | refine Below.trans ?_ (Below.mono b0 (by first | omega | (simp; done) | (simp; omega))) | refine Below.setCell ?_ (by first | omega | (simp; done) | (simp; omega)) _ | refine below_dN ?_ _ | refine Below.drew ?_ | refine Below.alloc ?_ (by first | omega | (simp; done) | (simp; omega)) _)⟩
end Go.Proofs.Ytmokbmhobglhfaa
