/- The document's own Load (chapter 18). -/
import Derived.Test.YtacffjkhbajgkaaDoorOvJb
import Derived.Test.YtacffjkhbajgkaaDoorJbRef2
namespace Go.Proofs.YtacffjkhbajgkaaDoor
open Go.RowKit Go.Lib
set_option linter.unusedVariables false
set_option linter.unusedSimpArgs false

set_option maxHeartbeats 3200000 in
set_option maxRecDepth 100000 in
theorem rload_any (A : Option Addr) (cap : Nat) (l : List Jb) (f t z : Int) (w : World) (hn : l.length ≤ 1000) (hcap : cap ≤ 9223372036854775807) (hlc : l.length ≤ cap) (hs : ∀ x ∈ l, x.name.size ≤ 1000000) (hL : Ltr w) (hR : RdJ w A l) (hz : loadB l f t = z) :
    Calls Tryd.prog 16 #[.slice A l.length cap, .int .i64 f, .int .i64 t] w (RetB (.int .i64 z) w) := by
  obtain ⟨g, hg⟩ : ∃ g, allB l = g := ⟨_, rfl⟩
  have C := Lib.hid (fun w' (hb : Below w.heap.size w w') => rjall_any A cap l g w' (by omega) hcap hlc hs (hL.below hb) (hR.below hb) hg)
  have C2 : Hid (∀ (x : Jb) w', x ∈ l → Below w.heap.size w w' → Calls Tryd.prog 26 #[.agg x.cells] w' (RetB (.int .i64 x.charge) w')) := fun x w' hx hb => rjcharge_any x w' (hs x hx) (hL.below hb)
  obtain ⟨n, hl⟩ : ∃ n, l.length = n := ⟨_, rfl⟩
  have H := Lib.hid (And.intro hl hR)
  have hz0 : Hid (g = false → 0 = z) := fun h => by rw [← hz, loadB_none (by rw [hg, h])]
  have hz1 : Hid (g = true → loadW f t (wds l) = z) := fun h => by rw [← hz, loadB_all (by rw [hg, h])]
  rw [hl] at C hlc hn ⊢
  clear hl hs hL hR hg hz
  go_enter Tryd.func16, Tryd.ntmps16
  go_wp2
  go_loopw [7, 8] (fun s0 st wr => ∃ (i : Nat) (e : Int), s0 = .int .i64 e ∧ st = .int .i64 (i : Int) ∧ i ≤ n ∧ Hid (loadW f t (wds (l.take i)) = e ∧ (g = false → i = 0) ∧ Below w.heap.size w wr)) (fun _ st _ => n - (intOf st).toNat)
  case atStart => exact ⟨0, 0, rfl, rfl, by omega, Lib.hid ⟨rfl, fun _ => rfl, Below.refl _ _⟩⟩
  case round =>
    obtain ⟨i, e, rfl, rfl, hin, K⟩ := hrel
    rcases Nat.lt_or_ge i n with hlt | hge
    · have d1 : decide ((i : Int) < (n : Int)) = true := decide_eq_true (by omega)
      have e1 : IntKind.i64.wrap ((i : Int) + 1) = ((i + 1 : Nat) : Int) := by rw [IntKind.wrap_i64]; omega
      have b1 : (i : Int) < (n : Int) := by omega
      have bd := loadW_bound (l.take i) f t
      rw [K.out.1] at bd
      have hlen : (l.take i).length ≤ i := by rw [List.length_take]; omega
      have bd2 : 0 ≤ e ∧ e ≤ 1100000 := by omega
      clear bd hlen
      go_wp2_with fail
      refine (C.out _ K.out.2.2).mono ?_; rintro _ gw ⟨rfl, gb⟩
      replace gb := Lib.hid (below_on K.out.2.2 gb)
      cases g
      · have hf : e = z := by
          rw [← hz0.out rfl, ← K.out.1, K.out.2.1 rfl]; rfl
        subst hf
        go_wp2
        go_ret
        exact ⟨rfl, gb.out⟩
      · obtain ⟨x, hx⟩ : ∃ x, l[i]? = some x := ⟨_, List.getElem?_eq_getElem (by rw [H.out.1]; exact hlt)⟩
        obtain ⟨B, off, rfl, hJ⟩ := (H.out.2.below gb.out) i x hx
        have K2 : Hid (loadW f t (wds (l.take (i + 1))) = e + (if f ≤ x.rel ∧ x.dl ≤ t then x.charge else 0)) := by show _ = _; rw [wds_next hx, loadW_snoc, K.out.1]; rfl
        have C3 : Hid (Calls Tryd.prog 26 #[.agg x.cells] gw (RetB (.int .i64 x.charge) gw)) := C2.out x gw (List.mem_of_getElem? hx) gb.out
        obtain ⟨ch, hch⟩ : ∃ ch, x.charge = ch := ⟨_, rfl⟩
        have hcb := charge_pos x
        rw [show x.wd.c = x.charge from rfl, hch] at hcb
        rw [hch] at C3 K2
        unfold Jb.cells at C3
        unfold JAt at hJ
        obtain ⟨c0, c1, c2, c3, c4, c5, c6, c7⟩ := hJ
        clear hx K C hch
        generalize x.name = xs at *
        generalize x.rel = xr at *
        generalize x.dl = xd at *
        generalize x.bud = xb at *
        generalize x.act = xa at *
        generalize x.vl = xv at *
        generalize x.cln = xc at *
        generalize x.hard = xh at *
        by_cases h1 : xr ≥ f
        · have d2 : decide (xr ≥ f) = true := decide_eq_true h1
          have d2' : decide (f ≤ xr) = true := decide_eq_true h1
          by_cases h2 : xd ≤ t
          · have d3 : decide (xd ≤ t) = true := decide_eq_true h2
            rw [if_pos ⟨h1, h2⟩] at K2
            obtain ⟨q, hq⟩ : ∃ q, e + ch = q := ⟨_, rfl⟩
            have e2 : IntKind.i64.wrap (e + ch) = q := by rw [IntKind.wrap_i64]; omega
            have e2' : wrap64 (e + ch) = q := by unfold wrap64; omega
            have K3 : Hid (loadW f t (wds (l.take (i + 1))) = q) := by show _ = _; rw [K2.out, hq]
            clear K2 hq bd2 hcb h1 h2
            go_wp2_with fail
            refine C3.out.mono ?_; rintro _ hw ⟨rfl, hb⟩
            have hb2 : Hid (Below w.heap.size w hw) := below_on gb.out hb
            clear C3 gb hb c0 c1 c2 c3 c4 c5 c6 c7
            go_wp2
            go_roundw
            case rel => exact ⟨i + 1, q, by first | rfl | simp, by first | rfl | simp, by clear e2 e2'; omega, Lib.hid ⟨K3.out, (fun h => Bool.noConfusion h), hb2.out⟩⟩
            case measure => simp [intOf]; clear e2 e2'; omega
          · have d3 : decide (xd ≤ t) = false := decide_eq_false h2
            rw [if_neg (fun h => h2 h.2), Int.add_zero] at K2
            clear bd2 hcb h1 h2 C3
            go_wp2
            go_roundw
            case rel => exact ⟨i + 1, e, rfl, by first | rfl | simp, by omega, Lib.hid ⟨K2.out, (fun h => Bool.noConfusion h), gb.out⟩⟩
            case measure => simp [intOf]; omega
        · have d2 : decide (xr ≥ f) = false := decide_eq_false h1
          have d2' : decide (f ≤ xr) = false := decide_eq_false h1
          rw [if_neg (fun h => h1 h.1), Int.add_zero] at K2
          clear bd2 hcb h1 C3
          go_wp2
          go_roundw
          case rel => exact ⟨i + 1, e, rfl, by first | rfl | simp, by omega, Lib.hid ⟨K2.out, (fun h => Bool.noConfusion h), gb.out⟩⟩
          case measure => simp [intOf]; omega
    · have d1 : decide ((i : Int) < (n : Int)) = false := decide_eq_false (by omega)
      have hf : e = z := by
        cases g
        · rw [← hz0.out rfl, ← K.out.1, K.out.2.1 rfl]; rfl
        · rw [← hz1.out rfl, ← K.out.1, List.take_of_length_le (by rw [H.out.1]; exact hge)]
      subst hf
      go_wp2
      go_ret
      exact ⟨rfl, K.out.2.2⟩
end Go.Proofs.YtacffjkhbajgkaaDoor
