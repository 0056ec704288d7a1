/- OverApart: spans rise, lie apart, within all jobs; more jobs make no tick less much. (Written by genovap.py.) -/
import Derived.Test.YtacffjkhbajgkaaDoorOvAwake
import Derived.Test.YtacffjkhbajgkaaDoorOvOwn
import Derived.Deep.RegionHeld
namespace Go.Proofs.YtacffjkhbajgkaaDoor
open Go.RowKit Go.Lib
set_option linter.unusedVariables false
set_option linter.unusedSimpArgs false

theorem spansB_eq {l : List Jb} (h : allB l = true) : spansB l = spansW (wds l) (endZ l).toNat := by
  have g := wds_good h
  have hE := endZ_all h
  unfold spansB
  rw [if_pos h]
  exact spansW_ext (wds l) (E := (endZ l).toNat + 1) (F := (endZ l).toNat) (fun v hv => (g v hv).1) (fun v hv => by have := hE.2.2 v hv; omega) (fun v hv => by have := hE.2.2 v hv; omega)
theorem spansB_rise {l : List Jb} (h : allB l = true) : (∀ (k : Nat) (s : Int × Int), (spansB l)[k]? = some s → 0 ≤ s.1 ∧ s.1 < s.2 ∧ s.2 ≤ endZ l) ∧ ∀ (k : Nat) (s u : Int × Int), (spansB l)[k]? = some s → (spansB l)[k + 1]? = some u → s.2 < u.1 := by
  have hE := endZ_all h
  obtain ⟨r1, r2⟩ := spansW_rise (wds l) (endZ l).toNat
  rw [← spansB_eq h] at r1 r2
  refine ⟨fun k s hs => ?_, fun k s u hs hu => ?_⟩
  · have := r2 s (List.mem_of_getElem? hs)
    omega
  · obtain ⟨h1, e1⟩ := List.getElem?_eq_some_iff.1 hs
    obtain ⟨h2, e2⟩ := List.getElem?_eq_some_iff.1 hu
    have := List.pairwise_iff_getElem.1 r1 k (k + 1) h1 h2 (by omega)
    rw [e1, e2] at this
    exact this
theorem allB_take {l : List Jb} (h : allB l = true) (m : Nat) : allB (l.take m) = true := by
  obtain ⟨h1, h2⟩ := Bool.and_eq_true_iff.1 h
  have h1 := of_decide_eq_true h1
  refine Bool.and_eq_true_iff.2 ⟨decide_eq_true (by rw [List.length_take]; omega), List.all_eq_true.2 fun x hx => List.all_eq_true.1 h2 x (List.mem_of_mem_take hx)⟩
def insideB (s : Int × Int) (u : Int × Int) : Bool := decide (u.1 ≤ s.1) && decide (s.2 ≤ u.2)
theorem spansB_sub {l : List Jb} (h : allB l = true) (m : Nat) {s : Int × Int} (hs : s ∈ spansB (l.take m)) : (spansB l).any (insideB s) = true := by
  have h' := allB_take h m
  have g := wds_good h
  have hE := endZ_all h
  rw [spansB_eq h'] at hs
  have e : wds l = wds (l.take m) ++ wds (l.drop m) := by unfold wds; rw [← List.map_append, List.take_append_drop]
  obtain ⟨u, hu, h1, h2⟩ := spansW_sub (l := wds (l.take m)) (m := wds (l.drop m)) (E := (endZ (l.take m)).toNat) (F := (endZ l).toNat)
    (fun v hv => by rw [← e] at hv; exact (g v hv).1) (fun v hv => by rw [← e] at hv; have := hE.2.2 v hv; omega) (fun v hv => by have := g v (by rw [e]; exact List.mem_append_right _ hv); omega) s hs
  rw [← e, ← spansB_eq h] at hu
  exact List.any_eq_true.2 ⟨u, hu, by unfold insideB; rw [decide_eq_true h1, decide_eq_true h2]; rfl⟩
theorem any_next {α : Type} {p : α → Bool} {l : List α} {k : Nat} {x : α} (h : l[k]? = some x) : (l.take (k + 1)).any p = ((l.take k).any p || p x) := by
  rw [List.take_add_one, h]; simp
theorem slice_lowJ18 (A : Option Addr) (n cap k : Nat) (hA : ∃ ad, A = some ad) (h1 : k ≤ n) (h2 : n ≤ cap) (h3 : cap ≤ 9223372036854775807) (w' : World) : (Instr.slice 25 (.slice A n cap) none (some (.int .i64 (k : Int))) none).run Tryd.prog w' = .ok (.slice A k cap) w' := by
  obtain ⟨ad, rfl⟩ := hA
  have q1 : (k : Int) ≤ (cap : Int) := by omega
  have q2 : k ≤ cap := by omega
  go_simp
theorem rdJ_take {w : World} {A : Option Addr} {l : List Jb} (h : RdJ w A l) (m : Nat) : RdJ w A (l.take m) := fun k x hx => h k x (by
  rw [List.getElem?_take] at hx
  split at hx
  · exact hx
  · cases hx)
set_option maxHeartbeats 6400000 in
set_option maxRecDepth 100000 in
theorem OverApart_ret (A : Option Addr) (cap : Nat) (l : List Jb) (w : World) (hL : Ltr w) (hlc : l.length ≤ cap) (hcap : cap ≤ 9223372036854775807) (hR : RdJ w A l) :
    Calls Tryd.prog 6 #[.slice A l.length cap] w (RetB (.bool true) w) := by
  have A0 := Lib.hid (awake18_any w hL)
  obtain ⟨gh, hgh⟩ : ∃ g, heavyB 10 300 l = g := ⟨_, rfl⟩
  have A1 := Lib.hid (fun w' (hb : Below w.heap.size w w') => heavy18_any A cap l 10 300 gh w' hcap hlc (hR.below hb) hgh)
  obtain ⟨n, hl⟩ : ∃ n, l.length = n := ⟨_, rfl⟩
  cases gh
  · obtain ⟨h10, hns⟩ := heavy_none hgh
    have hss : ∀ x ∈ l, x.name.size ≤ 1000000 := fun x hx => by have := (hns x hx).1; omega
    obtain ⟨ga, hga⟩ : ∃ g, allB l = g := ⟨_, rfl⟩
    have A2 : Hid (∀ w', Below w.heap.size w w' → Calls Tryd.prog 17 #[.slice A l.length cap] w' (RetB (.bool ga) w')) := fun w' hb => all_any A cap l ga w' hcap hlc hss (hL.below hb) (hR.below hb) hga
    by_cases hgo : ga = true ∧ 1 ≤ n
    · obtain ⟨rfl, hn1⟩ := hgo
      obtain ⟨E, hE⟩ : ∃ E, endZ l = E := ⟨_, rfl⟩
      have E1 : Hid (∀ w', Below w.heap.size w w' → Calls Tryd.prog 18 #[.slice A l.length cap] w' (RetB (.int .i64 E) w')) := fun w' hb => end_any A cap l E w' hcap hlc hss (hL.below hb) (hR.below hb) hE
      obtain ⟨m, hm⟩ : ∃ m, m + 1 = n := ⟨n - 1, by omega⟩
      obtain ⟨HS, HP⟩ := spansB_rise hga
      have HT : ∀ (k : Nat) (s : Int × Int), (spansB (l.take m))[k]? = some s → (spansB l).any (insideB s) = true := fun k s hs => spansB_sub hga m (List.mem_of_getElem? hs)
      rw [hE] at HS
      have hq9 : (spansB l).length ≤ 10001 := by
        unfold spansB
        rw [if_pos hga]
        have := endZ_all hga
        have := segR_len (hotW (wds l)) ((endZ l).toNat + 1)
        omega
      have hr9 : (spansB (l.take m)).length ≤ 10001 := by
        unfold spansB
        rw [if_pos (allB_take hga m)]
        have := endZ_all (allB_take hga m)
        have := segR_len (hotW (wds (l.take m))) ((endZ (l.take m)).toNat + 1)
        omega
      have hlm : (l.take m).length = m := by rw [List.length_take]; omega
      obtain ⟨sp, hsp⟩ : ∃ s, spansB l = s := ⟨_, rfl⟩
      obtain ⟨tp, htp⟩ : ∃ s, spansB (l.take m) = s := ⟨_, rfl⟩
      rw [hsp] at HS HP HT hq9
      rw [htp] at HT hr9
      have S1 : Hid (∀ w', Below w.heap.size w w' → Calls Tryd.prog 8 #[.slice A l.length cap] w' (fun e w2 => ∃ X c, e = .returned (.slice X sp.length c) ∧ RdS w2 X sp ∧ Below w'.heap.size w' w2)) := fun w' hb => (spans_any A cap l w' (by omega) hcap hlc hss (hL.below hb) (hR.below hb)).mono fun e w2 ⟨v, h1, h2, h3⟩ => by
        rw [hsp] at h2
        obtain ⟨X, c, rfl, _, _, h4⟩ := own_rdS h2
        exact ⟨X, c, h1, h4, h3⟩
      have S2 : Hid (∀ w', Below w.heap.size w w' → Calls Tryd.prog 8 #[.slice A m cap] w' (fun e w2 => ∃ X c, e = .returned (.slice X tp.length c) ∧ RdS w2 X tp ∧ Below w'.heap.size w' w2)) := fun w' hb => by
        have h := spans_any A cap (l.take m) w' (by omega) hcap (by omega) (fun x hx => hss x (List.mem_of_mem_take hx)) (hL.below hb) ((rdJ_take hR m).below hb)
        rw [hlm] at h
        exact h.mono fun e w2 ⟨v, h1, h2, h3⟩ => by
          rw [htp] at h2
          obtain ⟨X, c, rfl, _, _, h4⟩ := own_rdS h2
          exact ⟨X, c, h1, h4, h3⟩
      have hAs : ∃ ad, A = some ad := by
        obtain ⟨x, hx⟩ : ∃ x, l[0]? = some x := ⟨_, List.getElem?_eq_getElem (by omega)⟩
        obtain ⟨b, off, h, _⟩ := hR 0 x hx
        exact ⟨_, h⟩
      have hsl := Lib.hid (fun w' => slice_lowJ18 A n cap m hAs (by omega) (by omega) hcap w')
      obtain ⟨q, hq⟩ : ∃ q, sp.length = q := ⟨_, rfl⟩
      obtain ⟨r, hr⟩ : ∃ q, tp.length = q := ⟨_, rfl⟩
      have HQ := Lib.hid (And.intro hq hr)
      rw [hq] at S1 hq9
      rw [hr] at S2 hr9
      rw [hl] at A1 A2 hlc S1 E1 ⊢
      have e0 : IntKind.i64.wrap ((n : Int) - 1) = (m : Int) := by rw [IntKind.wrap_i64]; omega
      have e0' : wrap64 ((n : Int) - 1) = (m : Int) := by unfold wrap64; omega
      replace e0 := Lib.hid e0
      replace e0' := Lib.hid e0'
      replace HS := Lib.hid HS
      replace HP := Lib.hid HP
      replace HT := Lib.hid HT
      have d0 : decide ((n : Int) < 1) = false := decide_eq_false (by omega)
      replace hm := Lib.hid hm
      replace hn1 := Lib.hid hn1
      clear hL hR hgh hl hns hss hsp htp hq hr hga h10 hAs hlm hE
      go_enter Tryd.func6, Tryd.ntmps6
      go_wp2_with fail
      refine A0.out.mono ?_; rintro e w0 ⟨rfl, b0⟩
      replace b0 := Lib.hid b0
      clear A0
      go_wp2_with fail
      refine (A1.out _ b0.out).mono ?_; rintro e w1 ⟨rfl, p1, rfl⟩
      replace b0 : Hid (Below w.heap.size w (w0.drewN p1)) := below_dN b0.out p1
      generalize w0.drewN p1 = w1 at *
      clear A1
      go_wp2_with fail
      refine (A2.out _ b0.out).mono ?_; rintro e w2 ⟨rfl, hb⟩
      have b2 := Lib.hid (below_on b0.out hb)
      clear A2 hb b0
      go_wp2_with fail
      refine (S1.out _ b2.out).mono ?_; rintro e w3 ⟨X, cx, rfl, hX, hb⟩
      have b3 := Lib.hid (below_on b2.out hb)
      replace hX := Lib.hid hX
      clear S1 hb b2 d0
      go_wp2
      go_loopw [4] (fun st wr => ∃ (i : Nat), st = .int .i64 (i : Int) ∧ i ≤ q ∧ Hid (Below w.heap.size w wr ∧ RdS wr X sp)) (fun st _ => q - (intOf st).toNat)
      case atStart => exact ⟨0, rfl, by omega, Lib.hid ⟨b3.out, hX.out⟩⟩
      case round =>
        clear b3 hX
        obtain ⟨i, rfl, hiq, K⟩ := hrel
        rcases Nat.lt_or_ge i q with hlt | hge
        · have k1 : decide ((i : Int) < (q : Int)) = true := decide_eq_true (by omega)
          have e1 : IntKind.i64.wrap ((i : Int) + 1) = ((i + 1 : Nat) : Int) := by rw [IntKind.wrap_i64]; omega
          have n1 : (i : Int) < (q : Int) := by omega
          have n0 : (0 : Int) ≤ (i : Int) := by omega
          obtain ⟨⟨a, b⟩, hx⟩ : ∃ x, sp[i]? = some x := ⟨_, List.getElem?_eq_getElem (by rw [HQ.out.1]; exact hlt)⟩
          obtain ⟨gx, rfl, hgx, x0, x1⟩ := K.out.2 i _ hx
          have hab := HS.out i _ hx
          simp only at hab x0 x1
          have t1 : decide (a < 0) = false := decide_eq_false (by omega)
          have t2 : decide (a ≥ b) = false := decide_eq_false (by omega)
          have t2' : decide (b ≤ a) = false := t2
          have t3 : decide (b > E) = false := decide_eq_false (by omega)
          have t3' : decide (E < b) = false := t3
          rcases Nat.eq_zero_or_pos i with hi0 | hi0
          · have t4 : decide ((i : Int) > 0) = false := decide_eq_false (by omega)
            have t4' : decide (0 < (i : Int)) = false := t4
            subst hi0
            rw [Nat.zero_mul] at x0 x1
            clear hab hx t4 t4'
            go_wp2
            refine wp_region_held_drew (S := fun W => Below w.heap.size w W ∧ RdS W (some ⟨gx, 0, none⟩) sp ∧ W.cell? ⟨gx, 0, none⟩ = some (.int .i64 a) ∧ W.cell? ⟨gx, 0 + 1, none⟩ = some (.int .i64 b) ∧ True) (by kernel_rfl) ⟨K.out.1.drew, K.out.2, x0, x1, trivial⟩ (fun hHeld => ?_)
            have hw9 : Below w.heap.size w wr.drew ∧ RdS wr.drew (some ⟨gx, 0, none⟩) sp ∧ wr.drew.cell? ⟨gx, 0, none⟩ = some (.int .i64 a) ∧ wr.drew.cell? ⟨gx, 0 + 1, none⟩ = some (.int .i64 b) ∧ True := ⟨K.out.1.drew, K.out.2, x0, x1, trivial⟩
            have hgx9 : gx < wr.drew.heap.size := hgx
            generalize wr.drew = w9 at *
            clear K x0 x1 hgx
            refine wpAnyH_take (i := 0) (v := (.slice (some ⟨gx, 0, none⟩) q cx)) rfl (by kernel_rfl) (by kernel_rfl) (by kernel_rfl) (fun _ _ _ h => h) (Or.inl ⟨by rfl, ?_⟩) hHeld ?_
            · intro w hSw; go_simp
            try simp only [List.getElem_toArray, List.getElem_cons_zero, List.getElem_cons_succ, Act.put, List.setIfInBounds_toArray, List.set_cons_zero, List.set_cons_succ]
            refine wpAnyH_take (i := 1) (v := (.int .i64 ((0 : Nat) : Int))) rfl (by kernel_rfl) (by kernel_rfl) (by kernel_rfl) (fun _ _ _ h => h) (Or.inl ⟨by rfl, ?_⟩) hHeld ?_
            · intro w hSw; go_simp
            try simp only [List.getElem_toArray, List.getElem_cons_zero, List.getElem_cons_succ, Act.put, List.setIfInBounds_toArray, List.set_cons_zero, List.set_cons_succ]
            refine wpAnyH_take (i := 2) (v := (.pointer (some ⟨gx, 0, none⟩))) rfl (by kernel_rfl) (by kernel_rfl) (by kernel_rfl) (fun _ _ _ h => h) (Or.inl ⟨by rfl, ?_⟩) hHeld ?_
            · intro w hSw; go_simp
            try simp only [List.getElem_toArray, List.getElem_cons_zero, List.getElem_cons_succ, Act.put, List.setIfInBounds_toArray, List.set_cons_zero, List.set_cons_succ]
            refine wpAnyH_take (i := 3) (v := (.pointer (some ⟨gx, 0, none⟩))) rfl (by kernel_rfl) (by kernel_rfl) (by kernel_rfl) (fun _ _ _ h => h) (Or.inl ⟨by rfl, ?_⟩) hHeld ?_
            · intro w hSw; go_simp
            try simp only [List.getElem_toArray, List.getElem_cons_zero, List.getElem_cons_succ, Act.put, List.setIfInBounds_toArray, List.set_cons_zero, List.set_cons_succ]
            refine wpAnyH_take (i := 4) (v := (.int .i64 a)) rfl (by kernel_rfl) (by kernel_rfl) (by kernel_rfl) (fun _ _ _ h => h) (Or.inl ⟨by rfl, ?_⟩) hHeld ?_
            · intro w hSw; obtain ⟨_, _, s0, s1, s2⟩ := hSw; go_simp
            try simp only [List.getElem_toArray, List.getElem_cons_zero, List.getElem_cons_succ, Act.put, List.setIfInBounds_toArray, List.set_cons_zero, List.set_cons_succ]
            refine wpAnyH_take (i := 5) (v := (.bool false)) rfl (by kernel_rfl) (by kernel_rfl) (by kernel_rfl) (fun _ _ _ h => h) (Or.inl ⟨by rfl, ?_⟩) hHeld ?_
            · intro w hSw; go_simp
            try simp only [List.getElem_toArray, List.getElem_cons_zero, List.getElem_cons_succ, Act.put, List.setIfInBounds_toArray, List.set_cons_zero, List.set_cons_succ]
            refine wpAnyH_take (i := 6) (v := (.bool false)) rfl (by kernel_rfl) (by kernel_rfl) (by kernel_rfl) (fun _ _ _ h => h) (Or.inl ⟨by rfl, ?_⟩) hHeld ?_
            · intro w hSw; go_simp
            try simp only [List.getElem_toArray, List.getElem_cons_zero, List.getElem_cons_succ, Act.put, List.setIfInBounds_toArray, List.set_cons_zero, List.set_cons_succ]
            refine wpAnyH_take (i := 7) (v := (.slice (some ⟨gx, 0, none⟩) q cx)) rfl (by kernel_rfl) (by kernel_rfl) (by kernel_rfl) (fun _ _ _ h => h) (Or.inl ⟨by rfl, ?_⟩) hHeld ?_
            · intro w hSw; go_simp
            try simp only [List.getElem_toArray, List.getElem_cons_zero, List.getElem_cons_succ, Act.put, List.setIfInBounds_toArray, List.set_cons_zero, List.set_cons_succ]
            refine wpAnyH_take (i := 8) (v := (.int .i64 ((0 : Nat) : Int))) rfl (by kernel_rfl) (by kernel_rfl) (by kernel_rfl) (fun _ _ _ h => h) (Or.inl ⟨by rfl, ?_⟩) hHeld ?_
            · intro w hSw; go_simp
            try simp only [List.getElem_toArray, List.getElem_cons_zero, List.getElem_cons_succ, Act.put, List.setIfInBounds_toArray, List.set_cons_zero, List.set_cons_succ]
            refine wpAnyH_take (i := 9) (v := (.pointer (some ⟨gx, 0, none⟩))) rfl (by kernel_rfl) (by kernel_rfl) (by kernel_rfl) (fun _ _ _ h => h) (Or.inl ⟨by rfl, ?_⟩) hHeld ?_
            · intro w hSw; go_simp
            try simp only [List.getElem_toArray, List.getElem_cons_zero, List.getElem_cons_succ, Act.put, List.setIfInBounds_toArray, List.set_cons_zero, List.set_cons_succ]
            refine wpAnyH_take (i := 10) (v := (.pointer (some ⟨gx, 0, none⟩))) rfl (by kernel_rfl) (by kernel_rfl) (by kernel_rfl) (fun _ _ _ h => h) (Or.inl ⟨by rfl, ?_⟩) hHeld ?_
            · intro w hSw; go_simp
            try simp only [List.getElem_toArray, List.getElem_cons_zero, List.getElem_cons_succ, Act.put, List.setIfInBounds_toArray, List.set_cons_zero, List.set_cons_succ]
            refine wpAnyH_take (i := 11) (v := (.int .i64 a)) rfl (by kernel_rfl) (by kernel_rfl) (by kernel_rfl) (fun _ _ _ h => h) (Or.inl ⟨by rfl, ?_⟩) hHeld ?_
            · intro w hSw; obtain ⟨_, _, s0, s1, s2⟩ := hSw; go_simp
            try simp only [List.getElem_toArray, List.getElem_cons_zero, List.getElem_cons_succ, Act.put, List.setIfInBounds_toArray, List.set_cons_zero, List.set_cons_succ]
            refine wpAnyH_take (i := 12) (v := (.slice (some ⟨gx, 0, none⟩) q cx)) rfl (by kernel_rfl) (by kernel_rfl) (by kernel_rfl) (fun _ _ _ h => h) (Or.inl ⟨by rfl, ?_⟩) hHeld ?_
            · intro w hSw; go_simp
            try simp only [List.getElem_toArray, List.getElem_cons_zero, List.getElem_cons_succ, Act.put, List.setIfInBounds_toArray, List.set_cons_zero, List.set_cons_succ]
            refine wpAnyH_take (i := 13) (v := (.int .i64 ((0 : Nat) : Int))) rfl (by kernel_rfl) (by kernel_rfl) (by kernel_rfl) (fun _ _ _ h => h) (Or.inl ⟨by rfl, ?_⟩) hHeld ?_
            · intro w hSw; go_simp
            try simp only [List.getElem_toArray, List.getElem_cons_zero, List.getElem_cons_succ, Act.put, List.setIfInBounds_toArray, List.set_cons_zero, List.set_cons_succ]
            refine wpAnyH_take (i := 14) (v := (.pointer (some ⟨gx, 0, none⟩))) rfl (by kernel_rfl) (by kernel_rfl) (by kernel_rfl) (fun _ _ _ h => h) (Or.inl ⟨by rfl, ?_⟩) hHeld ?_
            · intro w hSw; go_simp
            try simp only [List.getElem_toArray, List.getElem_cons_zero, List.getElem_cons_succ, Act.put, List.setIfInBounds_toArray, List.set_cons_zero, List.set_cons_succ]
            refine wpAnyH_take (i := 15) (v := (.pointer (some ⟨gx, 0 + 1, none⟩))) rfl (by kernel_rfl) (by kernel_rfl) (by kernel_rfl) (fun _ _ _ h => h) (Or.inl ⟨by rfl, ?_⟩) hHeld ?_
            · intro w hSw; go_simp
            try simp only [List.getElem_toArray, List.getElem_cons_zero, List.getElem_cons_succ, Act.put, List.setIfInBounds_toArray, List.set_cons_zero, List.set_cons_succ]
            refine wpAnyH_take (i := 16) (v := (.int .i64 b)) rfl (by kernel_rfl) (by kernel_rfl) (by kernel_rfl) (fun _ _ _ h => h) (Or.inl ⟨by rfl, ?_⟩) hHeld ?_
            · intro w hSw; obtain ⟨_, _, s0, s1, s2⟩ := hSw; go_simp
            try simp only [List.getElem_toArray, List.getElem_cons_zero, List.getElem_cons_succ, Act.put, List.setIfInBounds_toArray, List.set_cons_zero, List.set_cons_succ]
            refine wpAnyH_take (i := 17) (v := (.bool false)) rfl (by kernel_rfl) (by kernel_rfl) (by kernel_rfl) (fun _ _ _ h => h) (Or.inl ⟨by rfl, ?_⟩) hHeld ?_
            · intro w hSw; go_simp
            try simp only [List.getElem_toArray, List.getElem_cons_zero, List.getElem_cons_succ, Act.put, List.setIfInBounds_toArray, List.set_cons_zero, List.set_cons_succ]
            refine wpAnyH_take (i := 18) (v := (.bool false)) rfl (by kernel_rfl) (by kernel_rfl) (by kernel_rfl) (fun _ _ _ h => h) (Or.inl ⟨by rfl, ?_⟩) hHeld ?_
            · intro w hSw; go_simp
            try simp only [List.getElem_toArray, List.getElem_cons_zero, List.getElem_cons_succ, Act.put, List.setIfInBounds_toArray, List.set_cons_zero, List.set_cons_succ]
            refine wpAnyH_take (i := 19) (v := (.bool false)) rfl (by kernel_rfl) (by kernel_rfl) (by kernel_rfl) (fun _ _ _ h => h) (Or.inl ⟨by rfl, ?_⟩) hHeld ?_
            · intro w hSw; go_simp
            try simp only [List.getElem_toArray, List.getElem_cons_zero, List.getElem_cons_succ, Act.put, List.setIfInBounds_toArray, List.set_cons_zero, List.set_cons_succ]
            refine wpAnyH_take (i := 20) (v := (.slice (some ⟨gx, 0, none⟩) q cx)) rfl (by kernel_rfl) (by kernel_rfl) (by kernel_rfl) (fun _ _ _ h => h) (Or.inl ⟨by rfl, ?_⟩) hHeld ?_
            · intro w hSw; go_simp
            try simp only [List.getElem_toArray, List.getElem_cons_zero, List.getElem_cons_succ, Act.put, List.setIfInBounds_toArray, List.set_cons_zero, List.set_cons_succ]
            refine wpAnyH_take (i := 21) (v := (.int .i64 ((0 : Nat) : Int))) rfl (by kernel_rfl) (by kernel_rfl) (by kernel_rfl) (fun _ _ _ h => h) (Or.inl ⟨by rfl, ?_⟩) hHeld ?_
            · intro w hSw; go_simp
            try simp only [List.getElem_toArray, List.getElem_cons_zero, List.getElem_cons_succ, Act.put, List.setIfInBounds_toArray, List.set_cons_zero, List.set_cons_succ]
            refine wpAnyH_take (i := 22) (v := (.pointer (some ⟨gx, 0, none⟩))) rfl (by kernel_rfl) (by kernel_rfl) (by kernel_rfl) (fun _ _ _ h => h) (Or.inl ⟨by rfl, ?_⟩) hHeld ?_
            · intro w hSw; go_simp
            try simp only [List.getElem_toArray, List.getElem_cons_zero, List.getElem_cons_succ, Act.put, List.setIfInBounds_toArray, List.set_cons_zero, List.set_cons_succ]
            refine wpAnyH_take (i := 23) (v := (.pointer (some ⟨gx, 0 + 1, none⟩))) rfl (by kernel_rfl) (by kernel_rfl) (by kernel_rfl) (fun _ _ _ h => h) (Or.inl ⟨by rfl, ?_⟩) hHeld ?_
            · intro w hSw; go_simp
            try simp only [List.getElem_toArray, List.getElem_cons_zero, List.getElem_cons_succ, Act.put, List.setIfInBounds_toArray, List.set_cons_zero, List.set_cons_succ]
            refine wpAnyH_take (i := 24) (v := (.int .i64 b)) rfl (by kernel_rfl) (by kernel_rfl) (by kernel_rfl) (fun _ _ _ h => h) (Or.inl ⟨by rfl, ?_⟩) hHeld ?_
            · intro w hSw; obtain ⟨_, _, s0, s1, s2⟩ := hSw; go_simp
            try simp only [List.getElem_toArray, List.getElem_cons_zero, List.getElem_cons_succ, Act.put, List.setIfInBounds_toArray, List.set_cons_zero, List.set_cons_succ]
            refine wpAnyH_take (i := 25) (v := (.slice A n cap)) rfl (by kernel_rfl) (by kernel_rfl) (by kernel_rfl) (fun _ _ _ h => h) (Or.inl ⟨by rfl, ?_⟩) hHeld ?_
            · intro w hSw; go_simp
            try simp only [List.getElem_toArray, List.getElem_cons_zero, List.getElem_cons_succ, Act.put, List.setIfInBounds_toArray, List.set_cons_zero, List.set_cons_succ]
            refine wpAnyH_ready (rs := [26]) (by kernel_rfl) (by simp) ?_
            refine AllReadyH.cons rfl (fun K hK => ?_) AllReadyH.nil
            clear hHeld
            go_simp
            refine (E1.out _ hw9.1).mono ?_; rintro e w8 ⟨rfl, hb⟩
            have k8 : Hid (Below w.heap.size w w8 ∧ RdS w8 (some ⟨gx, 0, none⟩) sp) := ⟨below_on hw9.1 hb, hw9.2.1.below hb⟩
            have h8 : Below w.heap.size w w8 ∧ RdS w8 (some ⟨gx, 0, none⟩) sp ∧ w8.cell? ⟨gx, 0, none⟩ = some (.int .i64 a) ∧ w8.cell? ⟨gx, 0 + 1, none⟩ = some (.int .i64 b) ∧ True := ⟨k8.out.1, k8.out.2, by rw [hb.cell (p := ⟨gx, 0, none⟩) hgx9]; exact hw9.2.2.1, by rw [hb.cell (p := ⟨gx, 0 + 1, none⟩) hgx9]; exact hw9.2.2.2.1, trivial⟩
            refine hK.out _ _ h8 (fun hHeld => ?_)
            clear hK K hb h8 hw9 hgx9
            try simp only [List.getElem_toArray, List.getElem_cons_zero, List.getElem_cons_succ, Act.put, List.setIfInBounds_toArray, List.set_cons_zero, List.set_cons_succ]
            refine wpAnyH_take (i := 27) (v := (.bool false)) rfl (by kernel_rfl) (by kernel_rfl) (by kernel_rfl) (fun _ _ _ h => h) (Or.inl ⟨by rfl, ?_⟩) hHeld ?_
            · intro w hSw; go_simp
            try simp only [List.getElem_toArray, List.getElem_cons_zero, List.getElem_cons_succ, Act.put, List.setIfInBounds_toArray, List.set_cons_zero, List.set_cons_succ]
            refine wpAnyH_take (i := 28) (v := (.bool false)) rfl (by kernel_rfl) (by kernel_rfl) (by kernel_rfl) (fun _ _ _ h => h) (Or.inl ⟨by rfl, ?_⟩) hHeld ?_
            · intro w hSw; go_simp
            try simp only [List.getElem_toArray, List.getElem_cons_zero, List.getElem_cons_succ, Act.put, List.setIfInBounds_toArray, List.set_cons_zero, List.set_cons_succ]
            refine wpAnyH_take (i := 29) (v := (.bool false)) rfl (by kernel_rfl) (by kernel_rfl) (by kernel_rfl) (fun _ _ _ h => h) (Or.inl ⟨by rfl, ?_⟩) hHeld ?_
            · intro w hSw; go_simp
            try simp only [List.getElem_toArray, List.getElem_cons_zero, List.getElem_cons_succ, Act.put, List.setIfInBounds_toArray, List.set_cons_zero, List.set_cons_succ]
            refine wpAnyH_take (i := 30) (v := (.int .i64 ((0 : Nat) : Int))) rfl (by kernel_rfl) (by kernel_rfl) (by kernel_rfl) (fun _ _ _ h => h) (Or.inl ⟨by rfl, ?_⟩) hHeld ?_
            · intro w hSw; go_simp
            try simp only [List.getElem_toArray, List.getElem_cons_zero, List.getElem_cons_succ, Act.put, List.setIfInBounds_toArray, List.set_cons_zero, List.set_cons_succ]
            refine wpAnyH_take (i := 31) (v := (.bool false)) rfl (by kernel_rfl) (by kernel_rfl) (by kernel_rfl) (fun _ _ _ h => h) (Or.inl ⟨by rfl, ?_⟩) hHeld ?_
            · intro w hSw; go_simp
            try simp only [List.getElem_toArray, List.getElem_cons_zero, List.getElem_cons_succ, Act.put, List.setIfInBounds_toArray, List.set_cons_zero, List.set_cons_succ]
            refine wpAnyH_take (i := 32) (v := (.bool false)) rfl (by kernel_rfl) (by kernel_rfl) (by kernel_rfl) (fun _ _ _ h => h) (Or.inl ⟨by rfl, ?_⟩) hHeld ?_
            · intro w hSw; go_simp
            try simp only [List.getElem_toArray, List.getElem_cons_zero, List.getElem_cons_succ, Act.put, List.setIfInBounds_toArray, List.set_cons_zero, List.set_cons_succ]
            refine wpAnyH_take (i := 33) (v := undef) rfl (by kernel_rfl) (by kernel_rfl) (by kernel_rfl) (fun _ _ _ h => h) (Or.inr ⟨by rfl, rfl⟩) hHeld ?_
            try simp only [List.getElem_toArray, List.getElem_cons_zero, List.getElem_cons_succ, Act.put, List.setIfInBounds_toArray, List.set_cons_zero, List.set_cons_succ]
            refine wpAnyH_take (i := 34) (v := undef) rfl (by kernel_rfl) (by kernel_rfl) (by kernel_rfl) (fun _ _ _ h => h) (Or.inr ⟨by rfl, rfl⟩) hHeld ?_
            try simp only [List.getElem_toArray, List.getElem_cons_zero, List.getElem_cons_succ, Act.put, List.setIfInBounds_toArray, List.set_cons_zero, List.set_cons_succ]
            refine wpAnyH_take (i := 35) (v := undef) rfl (by kernel_rfl) (by kernel_rfl) (by kernel_rfl) (fun _ _ _ h => h) (Or.inr ⟨by rfl, rfl⟩) hHeld ?_
            try simp only [List.getElem_toArray, List.getElem_cons_zero, List.getElem_cons_succ, Act.put, List.setIfInBounds_toArray, List.set_cons_zero, List.set_cons_succ]
            refine wpAnyH_take (i := 36) (v := undef) rfl (by kernel_rfl) (by kernel_rfl) (by kernel_rfl) (fun _ _ _ h => h) (Or.inr ⟨by rfl, rfl⟩) hHeld ?_
            try simp only [List.getElem_toArray, List.getElem_cons_zero, List.getElem_cons_succ, Act.put, List.setIfInBounds_toArray, List.set_cons_zero, List.set_cons_succ]
            refine wpAnyH_take (i := 37) (v := undef) rfl (by kernel_rfl) (by kernel_rfl) (by kernel_rfl) (fun _ _ _ h => h) (Or.inr ⟨by rfl, rfl⟩) hHeld ?_
            try simp only [List.getElem_toArray, List.getElem_cons_zero, List.getElem_cons_succ, Act.put, List.setIfInBounds_toArray, List.set_cons_zero, List.set_cons_succ]
            refine wpAnyH_take (i := 38) (v := undef) rfl (by kernel_rfl) (by kernel_rfl) (by kernel_rfl) (fun _ _ _ h => h) (Or.inr ⟨by rfl, rfl⟩) hHeld ?_
            try simp only [List.getElem_toArray, List.getElem_cons_zero, List.getElem_cons_succ, Act.put, List.setIfInBounds_toArray, List.set_cons_zero, List.set_cons_succ]
            refine wpAnyH_take (i := 39) (v := undef) rfl (by kernel_rfl) (by kernel_rfl) (by kernel_rfl) (fun _ _ _ h => h) (Or.inr ⟨by rfl, rfl⟩) hHeld ?_
            try simp only [List.getElem_toArray, List.getElem_cons_zero, List.getElem_cons_succ, Act.put, List.setIfInBounds_toArray, List.set_cons_zero, List.set_cons_succ]
            refine wpAnyH_take (i := 40) (v := undef) rfl (by kernel_rfl) (by kernel_rfl) (by kernel_rfl) (fun _ _ _ h => h) (Or.inr ⟨by rfl, rfl⟩) hHeld ?_
            try simp only [List.getElem_toArray, List.getElem_cons_zero, List.getElem_cons_succ, Act.put, List.setIfInBounds_toArray, List.set_cons_zero, List.set_cons_succ]
            refine wpAnyH_take (i := 41) (v := undef) rfl (by kernel_rfl) (by kernel_rfl) (by kernel_rfl) (fun _ _ _ h => h) (Or.inr ⟨by rfl, rfl⟩) hHeld ?_
            try simp only [List.getElem_toArray, List.getElem_cons_zero, List.getElem_cons_succ, Act.put, List.setIfInBounds_toArray, List.set_cons_zero, List.set_cons_succ]
            refine wpAnyH_take (i := 42) (v := undef) rfl (by kernel_rfl) (by kernel_rfl) (by kernel_rfl) (fun _ _ _ h => h) (Or.inr ⟨by rfl, rfl⟩) hHeld ?_
            try simp only [List.getElem_toArray, List.getElem_cons_zero, List.getElem_cons_succ, Act.put, List.setIfInBounds_toArray, List.set_cons_zero, List.set_cons_succ]
            refine wpAnyH_take (i := 43) (v := undef) rfl (by kernel_rfl) (by kernel_rfl) (by kernel_rfl) (fun _ _ _ h => h) (Or.inr ⟨by rfl, rfl⟩) hHeld ?_
            try simp only [List.getElem_toArray, List.getElem_cons_zero, List.getElem_cons_succ, Act.put, List.setIfInBounds_toArray, List.set_cons_zero, List.set_cons_succ]
            refine wpAnyH_take (i := 44) (v := undef) rfl (by kernel_rfl) (by kernel_rfl) (by kernel_rfl) (fun _ _ _ h => h) (Or.inr ⟨by rfl, rfl⟩) hHeld ?_
            try simp only [List.getElem_toArray, List.getElem_cons_zero, List.getElem_cons_succ, Act.put, List.setIfInBounds_toArray, List.set_cons_zero, List.set_cons_succ]
            refine wpAnyH_take (i := 45) (v := (.bool false)) rfl (by kernel_rfl) (by kernel_rfl) (by kernel_rfl) (fun _ _ _ h => h) (Or.inl ⟨by rfl, ?_⟩) hHeld ?_
            · intro w hSw; go_simp
            try simp only [List.getElem_toArray, List.getElem_cons_zero, List.getElem_cons_succ, Act.put, List.setIfInBounds_toArray, List.set_cons_zero, List.set_cons_succ]
            refine wpAnyH_take (i := 46) (v := (.bool false)) rfl (by kernel_rfl) (by kernel_rfl) (by kernel_rfl) (fun _ _ _ h => h) (Or.inl ⟨by rfl, ?_⟩) hHeld ?_
            · intro w hSw; go_simp
            try simp only [List.getElem_toArray, List.getElem_cons_zero, List.getElem_cons_succ, Act.put, List.setIfInBounds_toArray, List.set_cons_zero, List.set_cons_succ]
            refine wpAnyH_done (by kernel_rfl) ?_ _
            clear hHeld
            go_wp2
            go_roundw
            case rel => exact ⟨0 + 1, by first | rfl | simp, by clear e1 ; omega, k8⟩
            case measure => simp [intOf]; clear e1 ; omega
          · obtain ⟨j, hj⟩ : ∃ j, j + 1 = i := ⟨i - 1, by omega⟩
            have t4 : decide ((i : Int) > 0) = true := decide_eq_true (by omega)
            have t4' : decide (0 < (i : Int)) = true := t4
            obtain ⟨⟨pa, pb⟩, hy⟩ : ∃ x, sp[j]? = some x := ⟨_, List.getElem?_eq_getElem (by rw [HQ.out.1]; omega)⟩
            have hpp := HP.out j _ _ hy (by rw [hj]; exact hx)
            obtain ⟨gy, hgy, _, _, z1⟩ := K.out.2 j _ hy
            simp only [Option.some.injEq, Addr.mk.injEq, and_true] at hgy
            subst hgy
            simp only at hpp z1
            have t5 : decide (pb ≥ a) = false := decide_eq_false (by omega)
            have t5' : decide (a ≤ pb) = false := t5
            have e5 : IntKind.i64.wrap ((i : Int) - 1) = (j : Int) := by rw [IntKind.wrap_i64]; omega
            have m0 : (0 : Int) ≤ (j : Int) := by omega
            have m1 : (j : Int) < (q : Int) := by omega
            have m2 : (0 : Int) < (i : Int) := by omega
            clear hab hx hy hpp hj
            go_wp2
            refine wp_region_held_drew (S := fun W => Below w.heap.size w W ∧ RdS W (some ⟨gx, 0, none⟩) sp ∧ W.cell? ⟨gx, i * 2, none⟩ = some (.int .i64 a) ∧ W.cell? ⟨gx, i * 2 + 1, none⟩ = some (.int .i64 b) ∧ W.cell? ⟨gx, j * 2 + 1, none⟩ = some (.int .i64 pb)) (by kernel_rfl) ⟨K.out.1.drew, K.out.2, x0, x1, z1⟩ (fun hHeld => ?_)
            have hw9 : Below w.heap.size w wr.drew ∧ RdS wr.drew (some ⟨gx, 0, none⟩) sp ∧ wr.drew.cell? ⟨gx, i * 2, none⟩ = some (.int .i64 a) ∧ wr.drew.cell? ⟨gx, i * 2 + 1, none⟩ = some (.int .i64 b) ∧ wr.drew.cell? ⟨gx, j * 2 + 1, none⟩ = some (.int .i64 pb) := ⟨K.out.1.drew, K.out.2, x0, x1, z1⟩
            have hgx9 : gx < wr.drew.heap.size := hgx
            generalize wr.drew = w9 at *
            clear K x0 x1 hgx
            refine wpAnyH_take (i := 0) (v := (.slice (some ⟨gx, 0, none⟩) q cx)) rfl (by kernel_rfl) (by kernel_rfl) (by kernel_rfl) (fun _ _ _ h => h) (Or.inl ⟨by rfl, ?_⟩) hHeld ?_
            · intro w hSw; go_simp
            try simp only [List.getElem_toArray, List.getElem_cons_zero, List.getElem_cons_succ, Act.put, List.setIfInBounds_toArray, List.set_cons_zero, List.set_cons_succ]
            refine wpAnyH_take (i := 1) (v := (.int .i64 (i : Int))) rfl (by kernel_rfl) (by kernel_rfl) (by kernel_rfl) (fun _ _ _ h => h) (Or.inl ⟨by rfl, ?_⟩) hHeld ?_
            · intro w hSw; go_simp
            try simp only [List.getElem_toArray, List.getElem_cons_zero, List.getElem_cons_succ, Act.put, List.setIfInBounds_toArray, List.set_cons_zero, List.set_cons_succ]
            refine wpAnyH_take (i := 2) (v := (.pointer (some ⟨gx, i * 2, none⟩))) rfl (by kernel_rfl) (by kernel_rfl) (by kernel_rfl) (fun _ _ _ h => h) (Or.inl ⟨by rfl, ?_⟩) hHeld ?_
            · intro w hSw; go_simp
            try simp only [List.getElem_toArray, List.getElem_cons_zero, List.getElem_cons_succ, Act.put, List.setIfInBounds_toArray, List.set_cons_zero, List.set_cons_succ]
            refine wpAnyH_take (i := 3) (v := (.pointer (some ⟨gx, i * 2, none⟩))) rfl (by kernel_rfl) (by kernel_rfl) (by kernel_rfl) (fun _ _ _ h => h) (Or.inl ⟨by rfl, ?_⟩) hHeld ?_
            · intro w hSw; go_simp
            try simp only [List.getElem_toArray, List.getElem_cons_zero, List.getElem_cons_succ, Act.put, List.setIfInBounds_toArray, List.set_cons_zero, List.set_cons_succ]
            refine wpAnyH_take (i := 4) (v := (.int .i64 a)) rfl (by kernel_rfl) (by kernel_rfl) (by kernel_rfl) (fun _ _ _ h => h) (Or.inl ⟨by rfl, ?_⟩) hHeld ?_
            · intro w hSw; obtain ⟨_, _, s0, s1, s2⟩ := hSw; go_simp
            try simp only [List.getElem_toArray, List.getElem_cons_zero, List.getElem_cons_succ, Act.put, List.setIfInBounds_toArray, List.set_cons_zero, List.set_cons_succ]
            refine wpAnyH_take (i := 5) (v := (.bool false)) rfl (by kernel_rfl) (by kernel_rfl) (by kernel_rfl) (fun _ _ _ h => h) (Or.inl ⟨by rfl, ?_⟩) hHeld ?_
            · intro w hSw; go_simp
            try simp only [List.getElem_toArray, List.getElem_cons_zero, List.getElem_cons_succ, Act.put, List.setIfInBounds_toArray, List.set_cons_zero, List.set_cons_succ]
            refine wpAnyH_take (i := 6) (v := (.bool false)) rfl (by kernel_rfl) (by kernel_rfl) (by kernel_rfl) (fun _ _ _ h => h) (Or.inl ⟨by rfl, ?_⟩) hHeld ?_
            · intro w hSw; go_simp
            try simp only [List.getElem_toArray, List.getElem_cons_zero, List.getElem_cons_succ, Act.put, List.setIfInBounds_toArray, List.set_cons_zero, List.set_cons_succ]
            refine wpAnyH_take (i := 7) (v := (.slice (some ⟨gx, 0, none⟩) q cx)) rfl (by kernel_rfl) (by kernel_rfl) (by kernel_rfl) (fun _ _ _ h => h) (Or.inl ⟨by rfl, ?_⟩) hHeld ?_
            · intro w hSw; go_simp
            try simp only [List.getElem_toArray, List.getElem_cons_zero, List.getElem_cons_succ, Act.put, List.setIfInBounds_toArray, List.set_cons_zero, List.set_cons_succ]
            refine wpAnyH_take (i := 8) (v := (.int .i64 (i : Int))) rfl (by kernel_rfl) (by kernel_rfl) (by kernel_rfl) (fun _ _ _ h => h) (Or.inl ⟨by rfl, ?_⟩) hHeld ?_
            · intro w hSw; go_simp
            try simp only [List.getElem_toArray, List.getElem_cons_zero, List.getElem_cons_succ, Act.put, List.setIfInBounds_toArray, List.set_cons_zero, List.set_cons_succ]
            refine wpAnyH_take (i := 9) (v := (.pointer (some ⟨gx, i * 2, none⟩))) rfl (by kernel_rfl) (by kernel_rfl) (by kernel_rfl) (fun _ _ _ h => h) (Or.inl ⟨by rfl, ?_⟩) hHeld ?_
            · intro w hSw; go_simp
            try simp only [List.getElem_toArray, List.getElem_cons_zero, List.getElem_cons_succ, Act.put, List.setIfInBounds_toArray, List.set_cons_zero, List.set_cons_succ]
            refine wpAnyH_take (i := 10) (v := (.pointer (some ⟨gx, i * 2, none⟩))) rfl (by kernel_rfl) (by kernel_rfl) (by kernel_rfl) (fun _ _ _ h => h) (Or.inl ⟨by rfl, ?_⟩) hHeld ?_
            · intro w hSw; go_simp
            try simp only [List.getElem_toArray, List.getElem_cons_zero, List.getElem_cons_succ, Act.put, List.setIfInBounds_toArray, List.set_cons_zero, List.set_cons_succ]
            refine wpAnyH_take (i := 11) (v := (.int .i64 a)) rfl (by kernel_rfl) (by kernel_rfl) (by kernel_rfl) (fun _ _ _ h => h) (Or.inl ⟨by rfl, ?_⟩) hHeld ?_
            · intro w hSw; obtain ⟨_, _, s0, s1, s2⟩ := hSw; go_simp
            try simp only [List.getElem_toArray, List.getElem_cons_zero, List.getElem_cons_succ, Act.put, List.setIfInBounds_toArray, List.set_cons_zero, List.set_cons_succ]
            refine wpAnyH_take (i := 12) (v := (.slice (some ⟨gx, 0, none⟩) q cx)) rfl (by kernel_rfl) (by kernel_rfl) (by kernel_rfl) (fun _ _ _ h => h) (Or.inl ⟨by rfl, ?_⟩) hHeld ?_
            · intro w hSw; go_simp
            try simp only [List.getElem_toArray, List.getElem_cons_zero, List.getElem_cons_succ, Act.put, List.setIfInBounds_toArray, List.set_cons_zero, List.set_cons_succ]
            refine wpAnyH_take (i := 13) (v := (.int .i64 (i : Int))) rfl (by kernel_rfl) (by kernel_rfl) (by kernel_rfl) (fun _ _ _ h => h) (Or.inl ⟨by rfl, ?_⟩) hHeld ?_
            · intro w hSw; go_simp
            try simp only [List.getElem_toArray, List.getElem_cons_zero, List.getElem_cons_succ, Act.put, List.setIfInBounds_toArray, List.set_cons_zero, List.set_cons_succ]
            refine wpAnyH_take (i := 14) (v := (.pointer (some ⟨gx, i * 2, none⟩))) rfl (by kernel_rfl) (by kernel_rfl) (by kernel_rfl) (fun _ _ _ h => h) (Or.inl ⟨by rfl, ?_⟩) hHeld ?_
            · intro w hSw; go_simp
            try simp only [List.getElem_toArray, List.getElem_cons_zero, List.getElem_cons_succ, Act.put, List.setIfInBounds_toArray, List.set_cons_zero, List.set_cons_succ]
            refine wpAnyH_take (i := 15) (v := (.pointer (some ⟨gx, i * 2 + 1, none⟩))) rfl (by kernel_rfl) (by kernel_rfl) (by kernel_rfl) (fun _ _ _ h => h) (Or.inl ⟨by rfl, ?_⟩) hHeld ?_
            · intro w hSw; go_simp
            try simp only [List.getElem_toArray, List.getElem_cons_zero, List.getElem_cons_succ, Act.put, List.setIfInBounds_toArray, List.set_cons_zero, List.set_cons_succ]
            refine wpAnyH_take (i := 16) (v := (.int .i64 b)) rfl (by kernel_rfl) (by kernel_rfl) (by kernel_rfl) (fun _ _ _ h => h) (Or.inl ⟨by rfl, ?_⟩) hHeld ?_
            · intro w hSw; obtain ⟨_, _, s0, s1, s2⟩ := hSw; go_simp
            try simp only [List.getElem_toArray, List.getElem_cons_zero, List.getElem_cons_succ, Act.put, List.setIfInBounds_toArray, List.set_cons_zero, List.set_cons_succ]
            refine wpAnyH_take (i := 17) (v := (.bool false)) rfl (by kernel_rfl) (by kernel_rfl) (by kernel_rfl) (fun _ _ _ h => h) (Or.inl ⟨by rfl, ?_⟩) hHeld ?_
            · intro w hSw; go_simp
            try simp only [List.getElem_toArray, List.getElem_cons_zero, List.getElem_cons_succ, Act.put, List.setIfInBounds_toArray, List.set_cons_zero, List.set_cons_succ]
            refine wpAnyH_take (i := 18) (v := (.bool false)) rfl (by kernel_rfl) (by kernel_rfl) (by kernel_rfl) (fun _ _ _ h => h) (Or.inl ⟨by rfl, ?_⟩) hHeld ?_
            · intro w hSw; go_simp
            try simp only [List.getElem_toArray, List.getElem_cons_zero, List.getElem_cons_succ, Act.put, List.setIfInBounds_toArray, List.set_cons_zero, List.set_cons_succ]
            refine wpAnyH_take (i := 19) (v := (.bool false)) rfl (by kernel_rfl) (by kernel_rfl) (by kernel_rfl) (fun _ _ _ h => h) (Or.inl ⟨by rfl, ?_⟩) hHeld ?_
            · intro w hSw; go_simp
            try simp only [List.getElem_toArray, List.getElem_cons_zero, List.getElem_cons_succ, Act.put, List.setIfInBounds_toArray, List.set_cons_zero, List.set_cons_succ]
            refine wpAnyH_take (i := 20) (v := (.slice (some ⟨gx, 0, none⟩) q cx)) rfl (by kernel_rfl) (by kernel_rfl) (by kernel_rfl) (fun _ _ _ h => h) (Or.inl ⟨by rfl, ?_⟩) hHeld ?_
            · intro w hSw; go_simp
            try simp only [List.getElem_toArray, List.getElem_cons_zero, List.getElem_cons_succ, Act.put, List.setIfInBounds_toArray, List.set_cons_zero, List.set_cons_succ]
            refine wpAnyH_take (i := 21) (v := (.int .i64 (i : Int))) rfl (by kernel_rfl) (by kernel_rfl) (by kernel_rfl) (fun _ _ _ h => h) (Or.inl ⟨by rfl, ?_⟩) hHeld ?_
            · intro w hSw; go_simp
            try simp only [List.getElem_toArray, List.getElem_cons_zero, List.getElem_cons_succ, Act.put, List.setIfInBounds_toArray, List.set_cons_zero, List.set_cons_succ]
            refine wpAnyH_take (i := 22) (v := (.pointer (some ⟨gx, i * 2, none⟩))) rfl (by kernel_rfl) (by kernel_rfl) (by kernel_rfl) (fun _ _ _ h => h) (Or.inl ⟨by rfl, ?_⟩) hHeld ?_
            · intro w hSw; go_simp
            try simp only [List.getElem_toArray, List.getElem_cons_zero, List.getElem_cons_succ, Act.put, List.setIfInBounds_toArray, List.set_cons_zero, List.set_cons_succ]
            refine wpAnyH_take (i := 23) (v := (.pointer (some ⟨gx, i * 2 + 1, none⟩))) rfl (by kernel_rfl) (by kernel_rfl) (by kernel_rfl) (fun _ _ _ h => h) (Or.inl ⟨by rfl, ?_⟩) hHeld ?_
            · intro w hSw; go_simp
            try simp only [List.getElem_toArray, List.getElem_cons_zero, List.getElem_cons_succ, Act.put, List.setIfInBounds_toArray, List.set_cons_zero, List.set_cons_succ]
            refine wpAnyH_take (i := 24) (v := (.int .i64 b)) rfl (by kernel_rfl) (by kernel_rfl) (by kernel_rfl) (fun _ _ _ h => h) (Or.inl ⟨by rfl, ?_⟩) hHeld ?_
            · intro w hSw; obtain ⟨_, _, s0, s1, s2⟩ := hSw; go_simp
            try simp only [List.getElem_toArray, List.getElem_cons_zero, List.getElem_cons_succ, Act.put, List.setIfInBounds_toArray, List.set_cons_zero, List.set_cons_succ]
            refine wpAnyH_take (i := 25) (v := (.slice A n cap)) rfl (by kernel_rfl) (by kernel_rfl) (by kernel_rfl) (fun _ _ _ h => h) (Or.inl ⟨by rfl, ?_⟩) hHeld ?_
            · intro w hSw; go_simp
            try simp only [List.getElem_toArray, List.getElem_cons_zero, List.getElem_cons_succ, Act.put, List.setIfInBounds_toArray, List.set_cons_zero, List.set_cons_succ]
            refine wpAnyH_ready (rs := [26]) (by kernel_rfl) (by simp) ?_
            refine AllReadyH.cons rfl (fun K hK => ?_) AllReadyH.nil
            clear hHeld
            go_simp
            refine (E1.out _ hw9.1).mono ?_; rintro e w8 ⟨rfl, hb⟩
            have k8 : Hid (Below w.heap.size w w8 ∧ RdS w8 (some ⟨gx, 0, none⟩) sp) := ⟨below_on hw9.1 hb, hw9.2.1.below hb⟩
            have h8 : Below w.heap.size w w8 ∧ RdS w8 (some ⟨gx, 0, none⟩) sp ∧ w8.cell? ⟨gx, i * 2, none⟩ = some (.int .i64 a) ∧ w8.cell? ⟨gx, i * 2 + 1, none⟩ = some (.int .i64 b) ∧ w8.cell? ⟨gx, j * 2 + 1, none⟩ = some (.int .i64 pb) := ⟨k8.out.1, k8.out.2, by rw [hb.cell (p := ⟨gx, i * 2, none⟩) hgx9]; exact hw9.2.2.1, by rw [hb.cell (p := ⟨gx, i * 2 + 1, none⟩) hgx9]; exact hw9.2.2.2.1, by rw [hb.cell (p := ⟨gx, j * 2 + 1, none⟩) hgx9]; exact hw9.2.2.2.2⟩
            refine hK.out _ _ h8 (fun hHeld => ?_)
            clear hK K hb h8 hw9 hgx9
            try simp only [List.getElem_toArray, List.getElem_cons_zero, List.getElem_cons_succ, Act.put, List.setIfInBounds_toArray, List.set_cons_zero, List.set_cons_succ]
            refine wpAnyH_take (i := 27) (v := (.bool false)) rfl (by kernel_rfl) (by kernel_rfl) (by kernel_rfl) (fun _ _ _ h => h) (Or.inl ⟨by rfl, ?_⟩) hHeld ?_
            · intro w hSw; go_simp
            try simp only [List.getElem_toArray, List.getElem_cons_zero, List.getElem_cons_succ, Act.put, List.setIfInBounds_toArray, List.set_cons_zero, List.set_cons_succ]
            refine wpAnyH_take (i := 28) (v := (.bool false)) rfl (by kernel_rfl) (by kernel_rfl) (by kernel_rfl) (fun _ _ _ h => h) (Or.inl ⟨by rfl, ?_⟩) hHeld ?_
            · intro w hSw; go_simp
            try simp only [List.getElem_toArray, List.getElem_cons_zero, List.getElem_cons_succ, Act.put, List.setIfInBounds_toArray, List.set_cons_zero, List.set_cons_succ]
            refine wpAnyH_take (i := 29) (v := (.bool false)) rfl (by kernel_rfl) (by kernel_rfl) (by kernel_rfl) (fun _ _ _ h => h) (Or.inl ⟨by rfl, ?_⟩) hHeld ?_
            · intro w hSw; go_simp
            try simp only [List.getElem_toArray, List.getElem_cons_zero, List.getElem_cons_succ, Act.put, List.setIfInBounds_toArray, List.set_cons_zero, List.set_cons_succ]
            refine wpAnyH_take (i := 30) (v := (.int .i64 (i : Int))) rfl (by kernel_rfl) (by kernel_rfl) (by kernel_rfl) (fun _ _ _ h => h) (Or.inl ⟨by rfl, ?_⟩) hHeld ?_
            · intro w hSw; go_simp
            try simp only [List.getElem_toArray, List.getElem_cons_zero, List.getElem_cons_succ, Act.put, List.setIfInBounds_toArray, List.set_cons_zero, List.set_cons_succ]
            refine wpAnyH_take (i := 31) (v := (.bool true)) rfl (by kernel_rfl) (by kernel_rfl) (by kernel_rfl) (fun _ _ _ h => h) (Or.inl ⟨by rfl, ?_⟩) hHeld ?_
            · intro w hSw; go_simp
            try simp only [List.getElem_toArray, List.getElem_cons_zero, List.getElem_cons_succ, Act.put, List.setIfInBounds_toArray, List.set_cons_zero, List.set_cons_succ]
            refine wpAnyH_take (i := 32) (v := (.bool true)) rfl (by kernel_rfl) (by kernel_rfl) (by kernel_rfl) (fun _ _ _ h => h) (Or.inl ⟨by rfl, ?_⟩) hHeld ?_
            · intro w hSw; go_simp
            try simp only [List.getElem_toArray, List.getElem_cons_zero, List.getElem_cons_succ, Act.put, List.setIfInBounds_toArray, List.set_cons_zero, List.set_cons_succ]
            refine wpAnyH_take (i := 33) (v := (.slice (some ⟨gx, 0, none⟩) q cx)) rfl (by kernel_rfl) (by kernel_rfl) (by kernel_rfl) (fun _ _ _ h => h) (Or.inl ⟨by rfl, ?_⟩) hHeld ?_
            · intro w hSw; go_simp
            try simp only [List.getElem_toArray, List.getElem_cons_zero, List.getElem_cons_succ, Act.put, List.setIfInBounds_toArray, List.set_cons_zero, List.set_cons_succ]
            refine wpAnyH_take (i := 34) (v := (.int .i64 (i : Int))) rfl (by kernel_rfl) (by kernel_rfl) (by kernel_rfl) (fun _ _ _ h => h) (Or.inl ⟨by rfl, ?_⟩) hHeld ?_
            · intro w hSw; go_simp
            try simp only [List.getElem_toArray, List.getElem_cons_zero, List.getElem_cons_succ, Act.put, List.setIfInBounds_toArray, List.set_cons_zero, List.set_cons_succ]
            refine wpAnyH_take (i := 35) (v := (.int .i64 (j : Int))) rfl (by kernel_rfl) (by kernel_rfl) (by kernel_rfl) (fun _ _ _ h => h) (Or.inl ⟨by rfl, ?_⟩) hHeld ?_
            · intro w hSw; go_simp
            try simp only [List.getElem_toArray, List.getElem_cons_zero, List.getElem_cons_succ, Act.put, List.setIfInBounds_toArray, List.set_cons_zero, List.set_cons_succ]
            refine wpAnyH_take (i := 36) (v := (.pointer (some ⟨gx, j * 2, none⟩))) rfl (by kernel_rfl) (by kernel_rfl) (by kernel_rfl) (fun _ _ _ h => h) (Or.inl ⟨by rfl, ?_⟩) hHeld ?_
            · intro w hSw; go_simp
            try simp only [List.getElem_toArray, List.getElem_cons_zero, List.getElem_cons_succ, Act.put, List.setIfInBounds_toArray, List.set_cons_zero, List.set_cons_succ]
            refine wpAnyH_take (i := 37) (v := (.pointer (some ⟨gx, j * 2 + 1, none⟩))) rfl (by kernel_rfl) (by kernel_rfl) (by kernel_rfl) (fun _ _ _ h => h) (Or.inl ⟨by rfl, ?_⟩) hHeld ?_
            · intro w hSw; go_simp
            try simp only [List.getElem_toArray, List.getElem_cons_zero, List.getElem_cons_succ, Act.put, List.setIfInBounds_toArray, List.set_cons_zero, List.set_cons_succ]
            refine wpAnyH_take (i := 38) (v := (.int .i64 pb)) rfl (by kernel_rfl) (by kernel_rfl) (by kernel_rfl) (fun _ _ _ h => h) (Or.inl ⟨by rfl, ?_⟩) hHeld ?_
            · intro w hSw; obtain ⟨_, _, s0, s1, s2⟩ := hSw; go_simp
            try simp only [List.getElem_toArray, List.getElem_cons_zero, List.getElem_cons_succ, Act.put, List.setIfInBounds_toArray, List.set_cons_zero, List.set_cons_succ]
            refine wpAnyH_take (i := 39) (v := (.slice (some ⟨gx, 0, none⟩) q cx)) rfl (by kernel_rfl) (by kernel_rfl) (by kernel_rfl) (fun _ _ _ h => h) (Or.inl ⟨by rfl, ?_⟩) hHeld ?_
            · intro w hSw; go_simp
            try simp only [List.getElem_toArray, List.getElem_cons_zero, List.getElem_cons_succ, Act.put, List.setIfInBounds_toArray, List.set_cons_zero, List.set_cons_succ]
            refine wpAnyH_take (i := 40) (v := (.int .i64 (i : Int))) rfl (by kernel_rfl) (by kernel_rfl) (by kernel_rfl) (fun _ _ _ h => h) (Or.inl ⟨by rfl, ?_⟩) hHeld ?_
            · intro w hSw; go_simp
            try simp only [List.getElem_toArray, List.getElem_cons_zero, List.getElem_cons_succ, Act.put, List.setIfInBounds_toArray, List.set_cons_zero, List.set_cons_succ]
            refine wpAnyH_take (i := 41) (v := (.pointer (some ⟨gx, i * 2, none⟩))) rfl (by kernel_rfl) (by kernel_rfl) (by kernel_rfl) (fun _ _ _ h => h) (Or.inl ⟨by rfl, ?_⟩) hHeld ?_
            · intro w hSw; go_simp
            try simp only [List.getElem_toArray, List.getElem_cons_zero, List.getElem_cons_succ, Act.put, List.setIfInBounds_toArray, List.set_cons_zero, List.set_cons_succ]
            refine wpAnyH_take (i := 42) (v := (.pointer (some ⟨gx, i * 2, none⟩))) rfl (by kernel_rfl) (by kernel_rfl) (by kernel_rfl) (fun _ _ _ h => h) (Or.inl ⟨by rfl, ?_⟩) hHeld ?_
            · intro w hSw; go_simp
            try simp only [List.getElem_toArray, List.getElem_cons_zero, List.getElem_cons_succ, Act.put, List.setIfInBounds_toArray, List.set_cons_zero, List.set_cons_succ]
            refine wpAnyH_take (i := 43) (v := (.int .i64 a)) rfl (by kernel_rfl) (by kernel_rfl) (by kernel_rfl) (fun _ _ _ h => h) (Or.inl ⟨by rfl, ?_⟩) hHeld ?_
            · intro w hSw; obtain ⟨_, _, s0, s1, s2⟩ := hSw; go_simp
            try simp only [List.getElem_toArray, List.getElem_cons_zero, List.getElem_cons_succ, Act.put, List.setIfInBounds_toArray, List.set_cons_zero, List.set_cons_succ]
            refine wpAnyH_take (i := 44) (v := (.bool false)) rfl (by kernel_rfl) (by kernel_rfl) (by kernel_rfl) (fun _ _ _ h => h) (Or.inl ⟨by rfl, ?_⟩) hHeld ?_
            · intro w hSw; go_simp
            try simp only [List.getElem_toArray, List.getElem_cons_zero, List.getElem_cons_succ, Act.put, List.setIfInBounds_toArray, List.set_cons_zero, List.set_cons_succ]
            refine wpAnyH_take (i := 45) (v := (.bool false)) rfl (by kernel_rfl) (by kernel_rfl) (by kernel_rfl) (fun _ _ _ h => h) (Or.inl ⟨by rfl, ?_⟩) hHeld ?_
            · intro w hSw; go_simp
            try simp only [List.getElem_toArray, List.getElem_cons_zero, List.getElem_cons_succ, Act.put, List.setIfInBounds_toArray, List.set_cons_zero, List.set_cons_succ]
            refine wpAnyH_take (i := 46) (v := (.bool false)) rfl (by kernel_rfl) (by kernel_rfl) (by kernel_rfl) (fun _ _ _ h => h) (Or.inl ⟨by rfl, ?_⟩) hHeld ?_
            · intro w hSw; go_simp
            try simp only [List.getElem_toArray, List.getElem_cons_zero, List.getElem_cons_succ, Act.put, List.setIfInBounds_toArray, List.set_cons_zero, List.set_cons_succ]
            refine wpAnyH_done (by kernel_rfl) ?_ _
            clear hHeld
            go_wp2
            go_roundw
            case rel => exact ⟨i + 1, by first | rfl | simp, by clear e1 e5; omega, k8⟩
            case measure => simp [intOf]; clear e1 e5; omega
        · have k1 : decide ((i : Int) < (q : Int)) = false := decide_eq_false (by omega)
          have b4 := Lib.hid K.out.1
          have hX4 := Lib.hid K.out.2
          have hsl2 := hsl.out
          have f0 := e0.out
          have f0' := e0'.out
          have hnn := hn1.out
          have hnn2 : (0 : Int) < (n : Int) := by omega
          clear K HS HP E1 hsl e0 e0'
          go_wp2_with fail
          refine (S2.out _ b4.out).mono ?_; rintro e w5 ⟨Y, cy, rfl, hY, hb⟩
          have b5 := Lib.hid (below_on b4.out hb)
          have hX5 := Lib.hid (hX4.out.below hb)
          replace hY := Lib.hid hY
          clear S2 hb b4 hX4 hsl2 f0 f0' hnn hnn2
          go_wp2
          go_loopw [6] (fun st wr => ∃ (i : Nat), st = .int .i64 (i : Int) ∧ i ≤ r ∧ Hid (∃ m, wr = w5.drewN m)) (fun st _ => r - (intOf st).toNat)
          case atStart => exact ⟨0, rfl, by omega, Lib.hid ⟨0, rfl⟩⟩
          case round =>
            obtain ⟨k, rfl, hkr, K⟩ := hrel
            rcases Nat.lt_or_ge k r with hlt2 | hge2
            · have k2 : decide ((k : Int) < (r : Int)) = true := decide_eq_true (by omega)
              have e2 : IntKind.i64.wrap ((k : Int) + 1) = ((k + 1 : Nat) : Int) := by rw [IntKind.wrap_i64]; omega
              have n2 : (k : Int) < (r : Int) := by omega
              obtain ⟨⟨x, y⟩, hx⟩ : ∃ x, tp[k]? = some x := ⟨_, List.getElem?_eq_getElem (by rw [HQ.out.2]; exact hlt2)⟩
              obtain ⟨gy, rfl, _, y0, y1⟩ := hY.out k _ hx
              have hin := Lib.hid (HT.out k _ hx)
              simp only at y0 y1
              have Y0 := Lib.hid (And.intro y0 y1)
              obtain ⟨m1, hm1⟩ := K.out
              subst hm1
              clear hx y0 y1 K
              go_wp2
              go_loopw [7, 8] (fun s7 st wr => ∃ (j : Nat) (g : Bool), s7 = .bool g ∧ st = .int .i64 (j : Int) ∧ j ≤ q ∧ Hid ((sp.take j).any (insideB (x, y)) = g ∧ ∃ m, wr = w5.drewN m)) (fun _ st _ => q - (intOf st).toNat)
              case atStart => exact ⟨0, false, rfl, rfl, by omega, Lib.hid ⟨rfl, m1, rfl⟩⟩
              case round =>
                obtain ⟨j, g, rfl, rfl, hjq, J⟩ := hrel
                rcases Nat.lt_or_ge j q with hlt3 | hge3
                · have k3 : decide ((j : Int) < (q : Int)) = true := decide_eq_true (by omega)
                  have e3 : IntKind.i64.wrap ((j : Int) + 1) = ((j + 1 : Nat) : Int) := by rw [IntKind.wrap_i64]; omega
                  have n3 : (j : Int) < (q : Int) := by omega
                  obtain ⟨⟨a, b⟩, hx⟩ : ∃ x, sp[j]? = some x := ⟨_, List.getElem?_eq_getElem (by rw [HQ.out.1]; exact hlt3)⟩
                  obtain ⟨gx, rfl, _, x0, x1⟩ := hX5.out j _ hx
                  have hnx : Hid ((sp.take (j + 1)).any (insideB (x, y)) = (g || (decide (a ≤ x) && decide (y ≤ b)))) := by show _ = _; rw [any_next hx, J.out.1]; rfl
                  have JM : Hid (∃ m, wr = w5.drewN m) := J.out.2
                  simp only at x0 x1
                  have x0' : wr.cell? ⟨gx, j * 2, none⟩ = some (.int .i64 a) := by obtain ⟨m, rfl⟩ := JM.out; exact x0
                  have x1' : wr.cell? ⟨gx, j * 2 + 1, none⟩ = some (.int .i64 b) := by obtain ⟨m, rfl⟩ := JM.out; exact x1
                  have y0' : wr.cell? ⟨gy, k * 2, none⟩ = some (.int .i64 x) := by obtain ⟨m, rfl⟩ := JM.out; exact Y0.out.1
                  have y1' : wr.cell? ⟨gy, k * 2 + 1, none⟩ = some (.int .i64 y) := by obtain ⟨m, rfl⟩ := JM.out; exact Y0.out.2
                  clear hx x0 x1 J
                  cases g
                  · by_cases u1 : a ≤ x
                    · have v1 : decide (a ≤ x) = true := decide_eq_true u1
                      obtain ⟨g2, v2⟩ : ∃ g, decide (y ≤ b) = g := ⟨_, rfl⟩
                      have hnx2 : Hid ((sp.take (j + 1)).any (insideB (x, y)) = g2) := by show _ = _; rw [hnx.out, v1, v2]; rfl
                      clear u1 hnx
                      go_wp2
                      go_quiet (fail)
                      obtain ⟨p1, hp1⟩ : ∃ v, v = nq := ⟨nq, rfl⟩
                      subst hp1
                      have K9 : Hid (∃ m, wr.drewN p1 = w5.drewN m) := by obtain ⟨m, hm⟩ := JM.out; exact ⟨m + p1, by rw [hm, drewN_two]⟩
                      generalize wr.drewN p1 = w9 at *
                      go_wp2
                      go_roundw
                      case rel => exact ⟨j + 1, g2, by first | rfl | exact congrArg Value.bool v2 | simp [v2] | simp, by first | rfl | simp, by omega, Lib.hid ⟨hnx2.out, K9.out⟩⟩
                      case measure => simp [intOf]; omega
                    · have v1 : decide (a ≤ x) = false := decide_eq_false u1
                      have hnx2 : Hid ((sp.take (j + 1)).any (insideB (x, y)) = false) := by show _ = _; rw [hnx.out, v1]; rfl
                      clear u1 hnx
                      go_wp2
                      go_quiet (fail)
                      obtain ⟨p1, hp1⟩ : ∃ v, v = nq := ⟨nq, rfl⟩
                      subst hp1
                      have K9 : Hid (∃ m, wr.drewN p1 = w5.drewN m) := by obtain ⟨m, hm⟩ := JM.out; exact ⟨m + p1, by rw [hm, drewN_two]⟩
                      generalize wr.drewN p1 = w9 at *
                      go_wp2
                      go_roundw
                      case rel => exact ⟨j + 1, false, by first | rfl | exact congrArg Value.bool v2 | simp [v2] | simp, by first | rfl | simp, by omega, Lib.hid ⟨hnx2.out, K9.out⟩⟩
                      case measure => simp [intOf]; omega
                  · have hnx2 : Hid ((sp.take (j + 1)).any (insideB (x, y)) = true) := by show _ = _; rw [hnx.out, Bool.true_or]
                    clear hnx
                    go_wp2
                    go_quiet (fail)
                    obtain ⟨p1, hp1⟩ : ∃ v, v = nq := ⟨nq, rfl⟩
                    subst hp1
                    have K9 : Hid (∃ m, wr.drewN p1 = w5.drewN m) := by obtain ⟨m, hm⟩ := JM.out; exact ⟨m + p1, by rw [hm, drewN_two]⟩
                    generalize wr.drewN p1 = w9 at *
                    go_wp2
                    go_roundw
                    case rel => exact ⟨j + 1, true, by first | rfl | exact congrArg Value.bool v2 | simp [v2] | simp, by first | rfl | simp, by omega, Lib.hid ⟨hnx2.out, K9.out⟩⟩
                    case measure => simp [intOf]; omega
                · have k3 : decide ((j : Int) < (q : Int)) = false := decide_eq_false (by omega)
                  obtain rfl : g = true := by rw [← J.out.1, List.take_of_length_le (by rw [HQ.out.1]; exact hge3)]; exact hin.out
                  have K9 : Hid (∃ m, wr = w5.drewN m) := J.out.2
                  clear J
                  go_wp2
                  go_roundw
                  case rel => exact ⟨k + 1, by first | rfl | simp, by omega, K9⟩
                  case measure => simp [intOf]; omega
            · have k2 : decide ((k : Int) < (r : Int)) = false := decide_eq_false (by omega)
              have b9 : Hid (Below w.heap.size w wr) := by obtain ⟨m, rfl⟩ := K.out; exact below_dN b5.out m
              go_wp2
              go_ret
              exact ⟨rfl, by have s0 := b9.out.size; (try simp only [World.heap_drewN, World.size_alloc] at s0); repeat (first | exact Below.refl _ _ | exact b9.out | refine Below.trans ?_ (Below.mono b9.out (by first | omega | (simp; done) | (simp; omega))) | refine Below.setCell ?_ (by first | omega | (simp; done) | (simp; omega)) _ | refine below_dN ?_ _ | refine Below.drew ?_ | refine Below.alloc ?_ (by first | omega | (simp; done) | (simp; omega)) _)⟩
    · rw [hl] at A1 A2 hlc ⊢
      clear hL hR hgh hl hns hss hga h10
      go_enter Tryd.func6, Tryd.ntmps6
      go_wp2_with fail
      refine A0.out.mono ?_; rintro e w0 ⟨rfl, b0⟩
      replace b0 := Lib.hid b0
      clear A0
      go_wp2_with fail
      refine (A1.out _ b0.out).mono ?_; rintro e w1 ⟨rfl, p1, rfl⟩
      replace b0 : Hid (Below w.heap.size w (w0.drewN p1)) := below_dN b0.out p1
      generalize w0.drewN p1 = w1 at *
      clear A1
      go_wp2_with fail
      refine (A2.out _ b0.out).mono ?_; rintro e w2 ⟨rfl, hb⟩
      have b2 := Lib.hid (below_on b0.out hb)
      clear A2 hb b0
      cases ga
      · clear hgo
        go_wp2
        go_ret
        exact ⟨rfl, by have s0 := b2.out.size; (try simp only [World.heap_drewN, World.size_alloc] at s0); repeat (first | exact Below.refl _ _ | exact b2.out | refine Below.trans ?_ (Below.mono b2.out (by first | omega | (simp; done) | (simp; omega))) | refine Below.setCell ?_ (by first | omega | (simp; done) | (simp; omega)) _ | refine below_dN ?_ _ | refine Below.drew ?_ | refine Below.alloc ?_ (by first | omega | (simp; done) | (simp; omega)) _)⟩
      · obtain rfl : n = 0 := by
          rcases Nat.eq_zero_or_pos n with h | h
          · exact h
          · exact absurd ⟨rfl, h⟩ hgo
        clear hgo
        go_wp2
        go_ret
        exact ⟨rfl, by have s0 := b2.out.size; (try simp only [World.heap_drewN, World.size_alloc] at s0); repeat (first | exact Below.refl _ _ | exact b2.out | refine Below.trans ?_ (Below.mono b2.out (by first | omega | (simp; done) | (simp; omega))) | refine Below.setCell ?_ (by first | omega | (simp; done) | (simp; omega)) _ | refine below_dN ?_ _ | refine Below.drew ?_ | refine Below.alloc ?_ (by first | omega | (simp; done) | (simp; omega)) _)⟩
  · rw [hl] at A1 hlc ⊢
    clear hL hR hgh hl
    go_enter Tryd.func6, Tryd.ntmps6
    go_wp2_with fail
    refine A0.out.mono ?_; rintro e w0 ⟨rfl, b0⟩
    replace b0 := Lib.hid b0
    clear A0
    go_wp2_with fail
    refine (A1.out _ b0.out).mono ?_; rintro e w1 ⟨rfl, q1, rfl⟩
    clear A1
    go_wp2
    go_ret
    exact ⟨rfl, by have s0 := b0.out.size; (try simp only [World.heap_drewN, World.size_alloc] at s0); repeat (first | exact Below.refl _ _ | exact b0.out | refine Below.trans ?_ (Below.mono b0.out (by first | omega | (simp; done) | (simp; omega))) | refine Below.setCell ?_ (by first | omega | (simp; done) | (simp; omega)) _ | refine below_dN ?_ _ | refine Below.drew ?_ | refine Below.alloc ?_ (by first | omega | (simp; done) | (simp; omega)) _)⟩
end Go.Proofs.YtacffjkhbajgkaaDoor
