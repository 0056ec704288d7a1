/- The document's own bounded, Slack, Fits. -/
import Derived.Test.YtcohodpaagpfgaaDoorEdLeast
import Derived.Test.YtcohodpaagpfgaaDoorEd1
import Derived.Deep.DeepCutAuto
import Derived.Deep.CutRange
namespace Go.Proofs.YtcohodpaagpfgaaDoor
open Go.RowKit Go.Lib
set_option linter.unusedVariables false
set_option linter.unusedSimpArgs false

theorem okL_eq (x : Lf) : okL x = ((decide (-1000000 ≤ x.dl) && decide (x.dl ≤ 1000000)) && (decide (-1000000 ≤ x.need) && decide (x.need ≤ 1000000))) := rfl
set_option maxHeartbeats 1600000 in
set_option maxRecDepth 100000 in
theorem rbounded_any (A : Option Addr) (cap : Nat) (l : List Lf) (now : Int) (g : Bool) (w : World) (hn : l.length ≤ 1000000) (hcap : cap ≤ 9223372036854775807) (hlc : l.length ≤ cap) (hR : RdL w A l) (hg : bndB now l = g) :
    Calls Tryd.prog 33 #[.int .i64 now, .slice A l.length cap] w (Ret (.bool g) w) := by
  rw [bndB_eq] at hg
  unfold numB at hg
  obtain ⟨n, hl⟩ : ∃ n, l.length = n := ⟨_, rfl⟩
  rw [hl] at hg hlc hn ⊢
  have H := Lib.hid (And.intro hl hR)
  clear hl hR
  obtain ⟨q0, hq0⟩ : ∃ q, (decide (n ≤ 1000) && (decide (-1000000 ≤ now) && decide (now ≤ 1000000))) = q := ⟨_, rfl⟩
  have hg2 : Hid ((q0 && l.all okL) = g) := by show _ = g; rw [← hq0, ← hg]; simp [Bool.and_assoc]
  clear hg
  go_enter Tryd.func33, Tryd.ntmps33
  go_upto_region 1 with fail
  go_cut [5] (fun s5 wx => s5 = .bool q0 ∧ wx = w)
  case first =>
    by_cases h1 : n ≤ 1000
    · have d1 : decide ((n : Int) ≤ 1000) = true := decide_eq_true (by omega)
      have d1' : decide (n ≤ 1000) = true := decide_eq_true h1
      by_cases h2 : -1000000 ≤ now
      · have d2 : decide (-1000000 ≤ now) = true := decide_eq_true h2
        rw [d1', d2, Bool.true_and, Bool.true_and] at hq0
        clear h1 h2 hg2
        go_wp2
        go_meet
        exact ⟨by first | rfl | exact congrArg Value.bool hq0, rfl⟩
      · have d2 : decide (-1000000 ≤ now) = false := decide_eq_false h2
        rw [d1', d2] at hq0
        obtain rfl : false = q0 := hq0
        clear h1 h2 hg2
        go_wp2
        go_meet
        exact ⟨rfl, rfl⟩
    · have d1 : decide ((n : Int) ≤ 1000) = false := decide_eq_false (by omega)
      have d1' : decide (n ≤ 1000) = false := decide_eq_false h1
      rw [d1'] at hq0
      obtain rfl : false = q0 := hq0
      clear h1 hg2
      go_wp2
      go_meet
      exact ⟨rfl, rfl⟩
  case rest =>
    obtain ⟨rfl, hw⟩ := hcut
    subst wc
    clear hq0
    go_wp2
    go_loopw [5, 6] (fun s5 st wr => ∃ (i : Nat) (ok : Bool), s5 = .bool ok ∧ st = .int .i64 (i : Int) ∧ i ≤ n ∧ wr = w ∧ Hid ((q0 && (l.take i).all okL) = ok)) (fun _ st _ => n - (intOf st).toNat)
    case atStart => exact ⟨0, q0, rfl, rfl, by omega, rfl, Lib.hid (by simp)⟩
    case round =>
      obtain ⟨i, ok, rfl, rfl, hin, rfl, K⟩ := hrel
      rcases Nat.lt_or_ge i n with hlt | hge
      · have d1 : decide ((i : Int) < (n : Int)) = true := decide_eq_true (by omega)
        have e1 : IntKind.i64.wrap ((i : Int) + 1) = ((i + 1 : Nat) : Int) := by rw [IntKind.wrap_i64]; omega
        have b1 : (i : Int) < (n : Int) := by omega
        cases ok
        · obtain rfl : false = g := by
            rw [← hg2.out]
            have := K.out
            cases q0
            · rfl
            · rw [Bool.true_and] at this ⊢
              symm
              rw [List.all_eq_false] at this ⊢
              obtain ⟨x, hx, hf⟩ := this
              exact ⟨x, List.mem_of_mem_take hx, hf⟩
          clear K
          go_wp2
          go_ret
          first | exact ⟨rfl, 0, rfl⟩ | exact ⟨rfl, _, rfl⟩
        · obtain ⟨x, hx⟩ : ∃ x, l[i]? = some x := ⟨_, List.getElem?_eq_getElem (by rw [H.out.1]; exact hlt)⟩
          obtain ⟨B, off, rfl, c0, c1⟩ := H.out.2 i x hx
          have K2 : Hid ((q0 && (l.take (i + 1)).all okL) = okL x) := by show _ = _; rw [okL_next hx, ← Bool.and_assoc, K.out, Bool.true_and]
          have hok := okL_eq x
          clear hx K
          obtain ⟨d, nd⟩ := x
          simp only at c0 c1 hok
          generalize okL ⟨d, nd⟩ = ok at *
          by_cases h1 : -1000000 ≤ d
          · have t1 : decide (d ≥ -1000000) = true := decide_eq_true h1
            have t1' : decide (-1000000 ≤ d) = true := t1
            by_cases h2 : d ≤ 1000000
            · have t2 : decide (d ≤ 1000000) = true := decide_eq_true h2
              by_cases h3 : -1000000 ≤ nd
              · have t3 : decide (-1000000 ≤ nd) = true := decide_eq_true h3
                obtain ⟨q4, t4⟩ : ∃ q, decide (nd ≤ 1000000) = q := ⟨_, rfl⟩
                rw [t1', t2, t3, t4] at hok
                obtain rfl : ok = q4 := hok
                clear h1 h2 h3
                go_wp2
                go_roundw
                case rel => exact ⟨i + 1, ok, by first | rfl | exact congrArg Value.bool t4, by first | rfl | simp, by omega, by first | rfl | trivial, K2⟩
                case measure => simp [intOf]; omega
              · have t3 : decide (-1000000 ≤ nd) = false := decide_eq_false h3
                rw [t1', t2, t3] at hok
                obtain rfl : ok = false := hok
                clear h1 h2 h3
                go_wp2
                go_roundw
                case rel => exact ⟨i + 1, false, rfl, by first | rfl | simp, by omega, by first | rfl | trivial, K2⟩
                case measure => simp [intOf]; omega
            · have t2 : decide (d ≤ 1000000) = false := decide_eq_false h2
              rw [t1', t2] at hok
              obtain rfl : ok = false := hok
              clear h1 h2
              go_wp2
              go_roundw
              case rel => exact ⟨i + 1, false, rfl, by first | rfl | simp, by omega, by first | rfl | trivial, K2⟩
              case measure => simp [intOf]; omega
          · have t1' : decide (-1000000 ≤ d) = false := decide_eq_false h1
            rw [t1'] at hok
            obtain rfl : ok = false := hok
            clear h1
            go_wp2
            go_roundw
            case rel => exact ⟨i + 1, false, rfl, by first | rfl | simp, by omega, by first | rfl | trivial, K2⟩
            case measure => simp [intOf]; omega
      · have d1 : decide ((i : Int) < (n : Int)) = false := decide_eq_false (by omega)
        obtain rfl : ok = g := by
          rw [← hg2.out, ← K.out, List.take_of_length_le (by rw [H.out.1]; exact hge)]
        clear K
        go_wp2
        go_ret
        first | exact ⟨rfl, 0, rfl⟩ | exact ⟨rfl, _, rfl⟩

def stepO (o : Option Int) (s : Int) : Int := match o with | none => s | some b => if s < b then s else b
theorem slackGo_at {now : Int} {l : List Lf} {i : Nat} {x : Lf} (h : l[i]? = some x) (o : Option Int) : slackGo now l o (l.drop i) = slackGo now l (some (stepO o (slackOf now l x))) (l.drop (i + 1)) := by
  rw [dropT_at h]
  cases o <;> rfl
theorem slackGo_end {now : Int} {l : List Lf} {i : Nat} (h : l.length ≤ i) (o : Option Int) : slackGo now l o (l.drop i) = o := by
  rw [List.drop_eq_nil_of_le h]
  cases o <;> rfl
theorem needs_next {l : List Lf} {k : Nat} {x : Lf} (h : l[k]? = some x) (d : Int) : needs (l.take (k + 1)) d = needs (l.take k) d + (if x.dl ≤ d then x.pos else 0) := by
  rw [List.take_add_one, h, needs_app]
  simp [needs]
theorem stepO_none (s : Int) : stepO none s = s := rfl
theorem stepO_some (b s : Int) : stepO (some b) s = if s < b then s else b := rfl
set_option maxHeartbeats 3200000 in
set_option maxRecDepth 100000 in
theorem rslack_any (A : Option Addr) (cap : Nat) (l : List Lf) (now z : Int) (g : Bool) (w : World) (hn : l.length ≤ 1000000) (hcap : cap ≤ 9223372036854775807) (hlc : l.length ≤ cap) (hR : RdL w A l) (hz : oZ (slackO now l) = z) (hg : oB (slackO now l) = g) :
    Calls Tryd.prog 16 #[.int .i64 now, .slice A l.length cap] w (Ret (.tuple #[.int .i64 z, .bool g]) w) := by
  obtain ⟨q, hq⟩ : ∃ q, bndB now l = q := ⟨_, rfl⟩
  have C1 := Lib.hid (rbounded_any A cap l now q w hn hcap hlc hR hq)
  cases q
  · have e : slackO now l = none := by unfold slackO; rw [hq]; rfl
    rw [e] at hz hg
    obtain rfl : 0 = z := hz
    obtain rfl : false = g := hg
    generalize l.length = n at *
    clear hR hq e
    go_enter Tryd.func16, Tryd.ntmps16
    go_wp2_with fail
    refine C1.out.mono ?_; rintro e w' ⟨rfl, n1, rfl⟩
    clear C1
    go_wp2
    go_ret2
    first | exact ⟨rfl, 0, rfl⟩ | exact ⟨rfl, _, rfl⟩
  · by_cases hl : l = []
    · subst hl
      have e : slackO now [] = none := by unfold slackO slackGo; rw [hq]; rfl
      rw [e] at hz hg
      obtain rfl : 0 = z := hz
      obtain rfl : false = g := hg
      simp only [List.length_nil] at *
      clear hR hq e
      go_enter Tryd.func16, Tryd.ntmps16
      go_wp2_with fail
      refine C1.out.mono ?_; rintro e w' ⟨rfl, n1, rfl⟩
      clear C1
      go_wp2
      go_ret2
      first | exact ⟨rfl, 0, rfl⟩ | exact ⟨rfl, _, rfl⟩
    · obtain ⟨c, hc, _⟩ := slackO_iff hq hl
      rw [hc] at hz hg
      obtain rfl : c = z := hz
      obtain rfl : true = g := hg
      have E : Hid (slackGo now l none l = some c) := by have := hc; unfold slackO at this; rw [if_pos hq] at this; exact this
      obtain ⟨hn1, ⟨hnow1, hnow2⟩, hnum⟩ := bndB_iff.1 hq
      obtain ⟨n, hnl⟩ : ∃ n, l.length = n := ⟨_, rfl⟩
      have hpos : 0 < n := by have := List.length_pos_iff.2 hl; omega
      have d0 : ((n : Int) == 0) = false := by rw [beq_eq_false_iff_ne]; omega
      have N : Hid (∀ (k : Nat) (x : Lf), l[k]? = some x → (-1000000 ≤ x.dl ∧ x.dl ≤ 1000000) ∧ (-1000000 ≤ x.need ∧ x.need ≤ 1000000)) := fun k x hx => hnum x (List.mem_of_getElem? hx)
      have H := Lib.hid (And.intro hnl hR)
      have hn2 : n ≤ 1000 := by omega
      rw [hnl] at C1 hlc ⊢
      clear hR hq hl hc hnum hn1 hn hnl
      go_enter Tryd.func16, Tryd.ntmps16
      go_wp2_with fail
      refine C1.out.mono ?_; rintro e w' ⟨rfl, n1, rfl⟩
      clear C1
      go_wp2
      clear d0
      go_loopw [6, 7, 8] (fun s6 s7 st wr => ∃ (i : Nat) (o : Option Int) (m : Nat), s6 = .int .i64 (oZ o) ∧ s7 = .bool (oB o) ∧ st = .int .i64 (i : Int) ∧ i ≤ n ∧ wr = w.drewN m ∧ Hid (slackGo now l o (l.drop i) = some c)) (fun _ _ st _ => n - (intOf st).toNat)
      case atStart => exact ⟨0, none, _, rfl, rfl, rfl, by omega, rfl, Lib.hid (by simpa using E.out)⟩
      case round =>
        clear E
        obtain ⟨i, o, m, rfl, rfl, rfl, hin, rfl, K⟩ := hrel
        rcases Nat.lt_or_ge i n with hlt | hge
        · have d1 : decide ((i : Int) < (n : Int)) = true := decide_eq_true (by omega)
          have e1 : IntKind.i64.wrap ((i : Int) + 1) = ((i + 1 : Nat) : Int) := by rw [IntKind.wrap_i64]; omega
          have b1 : (i : Int) < (n : Int) := by omega
          obtain ⟨x, hx⟩ : ∃ x, l[i]? = some x := ⟨_, List.getElem?_eq_getElem (by rw [H.out.1]; exact hlt)⟩
          obtain ⟨B, off, he, c0, c1⟩ := H.out.2 i x hx
          subst he
          have hxn := N.out i x hx
          have K2 : Hid (slackGo now l (some (stepO o (slackOf now l x))) (l.drop (i + 1)) = some c) := by show _ = _; rw [← slackGo_at hx]; exact K.out
          obtain ⟨S, hS⟩ : ∃ z, slackOf now l x = z := ⟨_, rfl⟩
          have hS2 : Hid (x.dl - now - needs l x.dl = S) := hS
          rw [hS] at K2
          clear hx K c1 hS
          generalize x.dl = D at *
          generalize x.need = ND at *
          go_wp2
          go_loopw [9, 10] (fun s9 st wr => ∃ (k : Nat) (nd : Int) (p : Nat), s9 = .int .i64 nd ∧ st = .int .i64 (k : Int) ∧ k ≤ n ∧ wr = w.drewN p ∧ Hid (needs (l.take k) D = nd ∧ 0 ≤ nd ∧ nd ≤ 1000000 * (k : Int))) (fun _ st _ => n - (intOf st).toNat)
          case atStart => exact ⟨0, 0, _, rfl, rfl, by omega, rfl, Lib.hid ⟨by simp [needs], by omega, by omega⟩⟩
          case round =>
            obtain ⟨k, nd, p, rfl, rfl, hkn, rfl, J⟩ := hrel
            rcases Nat.lt_or_ge k n with hlt2 | hge2
            · have d2 : decide ((k : Int) < (n : Int)) = true := decide_eq_true (by omega)
              have e2 : IntKind.i64.wrap ((k : Int) + 1) = ((k + 1 : Nat) : Int) := by rw [IntKind.wrap_i64]; omega
              have b2 : (k : Int) < (n : Int) := by omega
              obtain ⟨y, hy⟩ : ∃ x, l[k]? = some x := ⟨_, List.getElem?_eq_getElem (by rw [H.out.1]; exact hlt2)⟩
              obtain ⟨B', off', he, y0, y1⟩ := H.out.2 k y hy
              cases he
              have hyn := N.out k y hy
              have J2 : Hid (needs (l.take (k + 1)) D = nd + (if y.dl ≤ D then y.pos else 0)) := by show _ = _; rw [needs_next hy, J.out.1]
              have jb := J.out.2
              have hpp : y.pos = if 0 < y.need then y.need else 0 := rfl
              clear hy J
              obtain ⟨d, need⟩ := y
              simp only at y0 y1 hyn J2 hpp
              generalize Lf.pos ⟨d, need⟩ = pp at *
              have hk3 : (k : Int) < 1000 := by omega
              by_cases t1 : d ≤ D
              · have d3 : decide (d ≤ D) = true := decide_eq_true t1
                rw [if_pos t1] at J2
                by_cases t2 : 0 < need
                · have d4 : decide (0 < need) = true := decide_eq_true t2
                  rw [if_pos t2] at hpp
                  subst hpp
                  obtain ⟨nd2, hnd2⟩ : ∃ q, nd + pp = q := ⟨_, rfl⟩
                  have e3 : IntKind.i64.wrap (nd + pp) = nd2 := by rw [IntKind.wrap_i64]; omega
                  have e3' : wrap64 (nd + pp) = nd2 := by unfold wrap64; omega
                  have J3 : Hid (needs (l.take (k + 1)) D = nd2 ∧ 0 ≤ nd2 ∧ nd2 ≤ 1000000 * ((k + 1 : Nat) : Int)) := ⟨by rw [J2.out, hnd2], by omega, by omega⟩
                  clear t1 t2 hyn jb hnd2 J2 hk3
                  go_wp2
                  go_quiet (fail)
                  go_wp2
                  go_roundw
                  case rel => exact ⟨k + 1, nd2, _, by first | rfl | simp, by first | rfl | simp, by clear e3 e3'; omega, rfl, J3⟩
                  case measure => simp [intOf]; clear e3 e3'; omega
                · have d4 : decide (0 < need) = false := decide_eq_false t2
                  rw [if_neg t2] at hpp
                  subst hpp
                  have J3 : Hid (needs (l.take (k + 1)) D = nd ∧ 0 ≤ nd ∧ nd ≤ 1000000 * ((k + 1 : Nat) : Int)) := ⟨by rw [J2.out]; omega, by omega, by omega⟩
                  clear t1 t2 hyn jb J2 hk3
                  go_wp2
                  go_quiet (fail)
                  go_wp2
                  go_roundw
                  case rel => exact ⟨k + 1, nd, _, by first | rfl | simp, by first | rfl | simp, by omega, rfl, J3⟩
                  case measure => simp [intOf]; omega
              · have d3 : decide (d ≤ D) = false := decide_eq_false t1
                rw [if_neg t1] at J2
                have J3 : Hid (needs (l.take (k + 1)) D = nd ∧ 0 ≤ nd ∧ nd ≤ 1000000 * ((k + 1 : Nat) : Int)) := ⟨by rw [J2.out]; omega, by omega, by omega⟩
                clear t1 hyn jb J2 hk3 hpp
                go_wp2
                go_quiet (fail)
                go_wp2
                go_roundw
                case rel => exact ⟨k + 1, nd, _, by first | rfl | simp, by first | rfl | simp, by omega, rfl, J3⟩
                case measure => simp [intOf]; omega
            · have d2 : decide ((k : Int) < (n : Int)) = false := decide_eq_false (by omega)
              have hf : needs l D = nd := by have := J.out.1; rw [List.take_of_length_le (by rw [H.out.1]; exact hge2)] at this; exact this
              have jb := J.out.2
              have hk3 : (k : Int) ≤ 1000 := by omega
              have hS3 : D - now - nd = S := by rw [← hf]; exact hS2.out
              obtain ⟨a, ha⟩ : ∃ q, D - now = q := ⟨_, rfl⟩
              rw [ha] at hS3
              have e3 : IntKind.i64.wrap (D - now) = a := by rw [IntKind.wrap_i64]; omega
              have e3' : wrap64 (D - now) = a := by unfold wrap64; omega
              have e4 : IntKind.i64.wrap (a - nd) = S := by rw [IntKind.wrap_i64]; omega
              have e4' : wrap64 (a - nd) = S := by unfold wrap64; omega
              have hk1 : i + 1 ≤ n := by omega
              have hm : n - (i + 1) < n - i := by omega
              clear hxn jb hk3 hS3 ha hf J hS2
              cases o with
              | none =>
                rw [stepO_none] at K2
                go_wp2
                go_roundw
                case rel => exact ⟨i + 1, some S, _, by first | rfl | simp, by first | rfl | simp, by first | rfl | simp, hk1, rfl, K2⟩
                case measure => simp [intOf]; clear e3 e3' e4 e4'; omega
              | some b =>
                rw [stepO_some] at K2
                by_cases t5 : S < b
                · have d5 : decide (S < b) = true := decide_eq_true t5
                  rw [if_pos t5] at K2
                  unfold oZ oB
                  simp only [Option.getD_some, Option.isSome_some]
                  clear t5
                  go_wp2
                  go_roundw
                  case rel => exact ⟨i + 1, some S, _, by first | rfl | simp, by first | rfl | simp, by first | rfl | simp, hk1, rfl, K2⟩
                  case measure => simp [intOf]; clear e3 e3' e4 e4'; omega
                · have d5 : decide (S < b) = false := decide_eq_false t5
                  rw [if_neg t5] at K2
                  unfold oZ oB
                  simp only [Option.getD_some, Option.isSome_some]
                  clear t5
                  go_wp2
                  go_roundw
                  case rel => exact ⟨i + 1, some b, _, by first | rfl | simp, by first | rfl | simp, by first | rfl | simp, hk1, rfl, K2⟩
                  case measure => simp [intOf]; clear e3 e3' e4 e4'; omega
        · have d1 : decide ((i : Int) < (n : Int)) = false := decide_eq_false (by omega)
          obtain rfl : o = some c := by have := K.out; rw [slackGo_end (by rw [H.out.1]; exact hge)] at this; exact this
          clear K
          go_wp2
          go_ret2
          exact ⟨rfl, _, rfl⟩
theorem rfits_any (A : Option Addr) (cap : Nat) (l : List Lf) (now : Int) (g : Bool) (w : World) (hn : l.length ≤ 1000000) (hcap : cap ≤ 9223372036854775807) (hlc : l.length ≤ cap) (hR : RdL w A l) (hg : fitsB now l = g) :
    Calls Tryd.prog 18 #[.int .i64 now, .slice A l.length cap] w (Ret (.bool g) w) := by
  rw [fits_slack] at hg
  obtain ⟨q, hq⟩ : ∃ q, bndB now l = q := ⟨_, rfl⟩
  obtain ⟨z, hz⟩ : ∃ q, oZ (slackO now l) = q := ⟨_, rfl⟩
  obtain ⟨b, hb⟩ : ∃ q, oB (slackO now l) = q := ⟨_, rfl⟩
  have C1 := Lib.hid (rbounded_any A cap l now q w hn hcap hlc hR hq)
  have C2 : Hid (∀ w', (∃ k, w' = w.drewN k) → Calls Tryd.prog 16 #[.int .i64 now, .slice A l.length cap] w' (Ret (.tuple #[.int .i64 z, .bool b]) w')) := fun w' h => rslack_any A cap l now z b w' hn hcap hlc (by obtain ⟨k, rfl⟩ := h; exact hR) hz hb
  rw [hq, hz, hb] at hg
  generalize l.length = n at *
  clear hR hq hz hb
  cases q
  · obtain rfl : false = g := hg
    go_enter Tryd.func18, Tryd.ntmps18
    go_wp2_with fail
    refine C1.out.mono ?_; rintro e w' ⟨rfl, n1, rfl⟩
    clear C1
    go_wp2
    go_ret
    first | exact ⟨rfl, 0, rfl⟩ | exact ⟨rfl, _, rfl⟩
  · rw [Bool.true_and] at hg
    go_enter Tryd.func18, Tryd.ntmps18
    go_wp2_with fail
    refine C1.out.mono ?_; rintro e w' ⟨rfl, n1, rfl⟩
    clear C1
    go_wp2_with fail
    refine (C2.out _ ⟨n1, rfl⟩).mono ?_; rintro e w' ⟨rfl, n2, rfl⟩
    clear C2
    cases b
    · obtain rfl : true = g := hg
      go_wp2
      go_ret
      first | exact ⟨rfl, 0, rfl⟩ | exact ⟨rfl, _, rfl⟩
    · have hg2 : decide (z ≥ 0) = g := hg
      clear hg
      go_wp2
      go_ret
      exact ⟨by first | rfl | exact ret_b hg2, _, by first | rfl | rw [drewN_two]⟩
end Go.Proofs.YtcohodpaagpfgaaDoor
