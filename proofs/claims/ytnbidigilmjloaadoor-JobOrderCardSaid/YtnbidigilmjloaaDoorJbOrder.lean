/- JobOrder: each deadline is at most the next one's, each job is there once; work is at most what is charged. -/
import Derived.Test.YtnbidigilmjloaaDoorJbBy
import Derived.Test.YtnbidigilmjloaaDoorJbLaw
namespace Go.Proofs.YtnbidigilmjloaaDoor
open Go.RowKit Go.Lib Go.Maps
set_option linter.unusedVariables false
set_option linter.unusedSimpArgs false

theorem Tryd.lawInt : Keyed Tryd.prog 3 := int_keyed Tryd.underlying3
theorem Tryd.zeroBool (w : World) : (zeroValue 4).run Tryd.prog w = .ok (.bool false) w := by kernel_rfl
/-- Block b is a map whose keys are all among T. -/
def SeenM (w : World) (b n : Nat) (T : List Int) : Prop := ∃ D : DataW Unit, w.ownsMap Tryd.prog 3 (plainElem Tryd.prog 4) b n D ∧ ∀ kl, Maps.has D kl = true → ∃ q ∈ T, kl = .int .i64 q
section
variable {w w' : World} {b n : Nat} {T : List Int}
theorem SeenM.made (w : World) : SeenM (w.alloc (.map #[] 0)) w.heap.size 0 [] := ⟨.map [], World.ownsMap_made _ _ _ _, fun kl h => by simp [Maps.has] at h⟩
theorem SeenM.drewN (h : SeenM w b n T) (k : Nat) : SeenM (w.drewN k) b n T := h
theorem plainElem_bool_inv {v : Value} {x : Bool} {ps : List MemPlace} (h : plainElem (H := Unit) Tryd.prog 4 v = some (.lit (.bool x), ps)) : v = .bool x := by
  unfold plainElem at h
  rw [Tryd.underlying4] at h
  cases v <;> simp at h
  rw [h.1]
theorem SeenM.lt (h : SeenM w b n T) : b < w.heap.size := by
  obtain ⟨D, hD, _⟩ := h
  exact hD.lt
theorem SeenM.look (h : SeenM w b n T) {s : Int} (hw : (Lit.int .i64 s).wf = true) (hn : s ∉ T) :
    (Instr.lookup 43 (.map (some b)) (.int .i64 s) false).run Tryd.prog w = .ok (.bool false) w := by
  have hkl := keyOf_int_mk Tryd.underlying3 hw
  obtain ⟨D, hD, hh⟩ := h
  have hno : Maps.has D (.int .i64 s) = false := by
    cases hc : Maps.has D (.int .i64 s) with
    | false => rfl
    | true =>
      obtain ⟨q, hq, hk⟩ := hh _ hc
      injection hk with _ hk
      exact absurd (hk ▸ hq) hn
  obtain ⟨v, ps, hrun, hv⟩ := hD.lookup Tryd.lawInt Tryd.underlying43 (Tryd.zeroBool w) (plainElem_bool Tryd.underlying4 false) hkl
  rw [Maps.atKey_of_not_has hno] at hv
  rw [plainElem_bool_inv hv] at hrun
  exact hrun
theorem SeenM.told (h : SeenM w b n T) {s : Int} (hw : (Lit.int .i64 s).wf = true) (hn : n < maxLen) :
    ∃ w', (Instr.mapUpdate 43 (.map (some b)) (.int .i64 s) (.bool true)).run Tryd.prog w = .ok () w' ∧ SeenM w' b (n + 1) (T ++ [s]) ∧ w.grownBy w' (some b) := by
  have hkl := keyOf_int_mk Tryd.underlying3 hw
  obtain ⟨D, hD, hh⟩ := h
  obtain ⟨w', hrun, hD', hg'⟩ := hD.update Tryd.lawInt Tryd.underlying43 hn hkl (plainElem_bool Tryd.underlying4 true)
  refine ⟨w', hrun, ⟨_, hD', fun k' hk' => ?_⟩, hg'⟩
  by_cases e : k' = .int .i64 s
  · subst e; exact ⟨s, by simp, rfl⟩
  · rw [Maps.has_put_other e] at hk'
    obtain ⟨q, hq, hk⟩ := hh k' hk'
    exact ⟨q, by simp [hq], hk⟩
end
theorem wf_nat {i : Nat} (h : i ≤ 1000000) : (Lit.int .i64 (i : Int)).wf = true := by
  have : IntKind.i64.min ≤ (i : Int) ∧ (i : Int) ≤ 9223372036854775807 := ⟨by show (-9223372036854775808 : Int) ≤ (i : Int); omega, by omega⟩
  simpa [Lit.wf] using this
theorem srt_new {dl : Int → Int} {g : Nat → Int} {n k : Nat} (h : Srt dl g 0 n) (hk : k < n) : g k ∉ (List.range k).map g := by
  intro hm
  obtain ⟨p, hp, he⟩ := List.mem_map.1 hm
  have t := h p k (Nat.zero_le _) (List.mem_range.1 hp) hk
  rw [he] at t
  exact TT.irr t
theorem seen_range (g : Nat → Int) (k : Nat) : (List.range k).map g ++ [g k] = (List.range (k + 1)).map g := by rw [List.range_succ]; simp
theorem work_le (x : Jb) : x.work ≤ x.charge := by
  unfold Jb.work Jb.charge
  cases hg : x.good
  · simp
  · simp only [if_true]
    unfold Jb.good at hg
    have hj := jnum_iff.1 (Bool.and_eq_true_iff.1 hg).2
    split <;> omega
theorem work_pos {x : Jb} (hg : x.good = true) : 1 ≤ x.work := by
  unfold Jb.work
  rw [if_pos hg]
  unfold Jb.good at hg
  have hj := jnum_iff.1 (Bool.and_eq_true_iff.1 hg).2
  split <;> omega

theorem held_job {wr W W2 : World} {B o : Nat} {s : ByteArray} {r d b a v c : Int} {h : Bool} (k : Below wr.heap.size wr W ∧ (W.cell? ⟨B, o, none⟩ = some (.string s) ∧ W.cell? ⟨B, o + 1, none⟩ = some (.int .i64 r) ∧ W.cell? ⟨B, o + 2, none⟩ = some (.int .i64 d) ∧ W.cell? ⟨B, o + 3, none⟩ = some (.int .i64 b) ∧ W.cell? ⟨B, o + 4, none⟩ = some (.int .i64 a) ∧ W.cell? ⟨B, o + 5, none⟩ = some (.int .i64 v) ∧ W.cell? ⟨B, o + 6, none⟩ = some (.int .i64 c) ∧ W.cell? ⟨B, o + 7, none⟩ = some (.bool h))) (hb : Below W.heap.size W W2) : Below wr.heap.size wr W2 ∧ (W2.cell? ⟨B, o, none⟩ = some (.string s) ∧ W2.cell? ⟨B, o + 1, none⟩ = some (.int .i64 r) ∧ W2.cell? ⟨B, o + 2, none⟩ = some (.int .i64 d) ∧ W2.cell? ⟨B, o + 3, none⟩ = some (.int .i64 b) ∧ W2.cell? ⟨B, o + 4, none⟩ = some (.int .i64 a) ∧ W2.cell? ⟨B, o + 5, none⟩ = some (.int .i64 v) ∧ W2.cell? ⟨B, o + 6, none⟩ = some (.int .i64 c) ∧ W2.cell? ⟨B, o + 7, none⟩ = some (.bool h)) := by
  have j : JAt W B o ⟨s, r, d, b, a, v, c, h⟩ := k.2
  exact ⟨below_on k.1 hb, j.below j.lt hb⟩

set_option maxHeartbeats 6400000 in
set_option maxRecDepth 100000 in
theorem JobOrder_ret (A : Option Addr) (cap : Nat) (l : List Jb) (w : World) (hL : Ltr w) (hlc : l.length ≤ cap) (hcap : cap ≤ 9223372036854775807) (hR : RdJ w A l) :
    Calls Tryd.prog 5 #[.slice A l.length cap] w (RetB (.bool true) w) := by
  have A0 := Lib.hid (awake_any w hL)
  obtain ⟨g, hg⟩ : ∃ g, heavyB 40 10000 l = g := ⟨_, rfl⟩
  have A1 := Lib.hid (fun w' (hb : Below w.heap.size w w') => heavy_any A cap l 40 10000 g w' hcap hlc (hR.below hb) hg)
  cases g
  · obtain ⟨h40, hnm⟩ := heavy_none hg
    have A2 := Lib.hid (fun w' (hb : Below w.heap.size w w') => by_any A cap l w' (by omega) hcap hlc (hR.below hb))
    obtain ⟨n, hl⟩ : ∃ n, l.length = n := ⟨_, rfl⟩
    rw [hl] at A1 A2 hlc h40 ⊢
    have H := Lib.hid (And.intro hl (And.intro hnm (And.intro hL hR)))
    clear hL hR hg hl hnm
    go_enter Tryd.func5, Tryd.ntmps5
    go_wp2_with fail
    refine A0.out.mono ?_; rintro e w0 ⟨rfl, b0⟩
    go_wp2_with fail
    refine (A1.out _ b0).mono ?_; rintro e w1 ⟨rfl, q1, rfl⟩
    go_wp2_with fail
    refine (A2.out _ (below_dN b0 _)).mono ?_; rintro e w2 ⟨B, f, rfl, hB1, hB2, b2, hRun, hcell⟩
    have b2' := below_on (below_dN b0 q1) b2
    have F := Lib.hid (And.intro b2' (And.intro hB2 (And.intro hRun hcell)))
    clear A0 A1 A2 b0 hB1 hB2 b2 b2' hRun hcell
    have K0 := Lib.hid (SeenM.made w2)
    have hmm := fun w' => run_makeMap (P := Tryd.prog) 43 w'
    go_wp2
    clear hmm
    obtain ⟨w3, hw3⟩ : ∃ w3, w2.alloc (.map #[] 0) = w3 := ⟨_, rfl⟩
    have b3 : Hid (Below w2.heap.size w2 w3) := by rw [← hw3]; exact (Below.refl _ _).alloc (Nat.le_refl _) _
    rw [hw3] at K0
    (try rw [hw3])
    clear hw3
    obtain ⟨M, hM⟩ : ∃ M, w2.heap.size = M := ⟨_, rfl⟩
    rw [hM] at K0 b3 ⊢
    replace hM := Lib.hid hM
    go_loopw [5] (fun st wr => ∃ (k : Nat), st = .int .i64 (k : Int) ∧ k ≤ n ∧ Hid (SeenM wr M k ((List.range k).map f) ∧ Below M w2 wr)) (fun st _ => n - (intOf st).toNat)
    case atStart => exact ⟨0, rfl, by omega, Lib.hid ⟨K0.out, b3.out⟩⟩
    case round =>
      clear K0 b3
      obtain ⟨k, rfl, hkn, K⟩ := hrel
      have hMs : M ≤ wr.heap.size := by have := K.out.2.size; have := hM.out; omega
      rcases Nat.lt_or_ge k n with hlt | hge
      · have d1 : decide ((k : Int) < (n : Int)) = true := decide_eq_true (by omega)
        have e1 : IntKind.i64.wrap ((k : Int) + 1) = ((k + 1 : Nat) : Int) := by rw [IntKind.wrap_i64]; omega
        have b1 : (k : Int) < (n : Int) := by omega
        obtain ⟨i, hfi, hin⟩ : ∃ i : Nat, f k = (i : Int) ∧ i < n := by
          have := F.out.2.2.1.to k (Nat.zero_le _) hlt
          exact ⟨(f k).toNat, by omega, by omega⟩
        have bw : Hid (Below w.heap.size w wr) := F.out.1.trans (K.out.2.mono (by have := hM.out; have := F.out.1.size; omega))
        have rc : Hid (∀ q, q < n → wr.cell? ⟨B, q, none⟩ = some (.int .i64 (f q))) := fun q hq => (K.out.2.cell (p := ⟨B, q, none⟩) (by have := hM.out; have := F.out.2.1; show B < M; omega)).trans (F.out.2.2.2 q hq)
        have c1 := rc.out k hlt
        rw [hfi] at c1
        have hne : Hid ((i : Int) ∉ (List.range k).map f) := by rw [← hfi]; exact srt_new F.out.2.2.1.srt hlt
        have hlook : ∀ q, (Instr.lookup 43 (.map (some M)) (.int .i64 (i : Int)) false).run Tryd.prog (wr.drewN q) = .ok (.bool false) (wr.drewN q) := fun q => (K.out.1.drewN q).look (wf_nat (by omega)) hne.out
        obtain ⟨x, hx⟩ : ∃ x, l[i]? = some x := ⟨_, List.getElem?_eq_getElem (by rw [H.out.1]; exact hin)⟩
        obtain ⟨B', off, rfl, hJ⟩ := (H.out.2.2.2.below bw.out) i x hx
        have c2 := hJ.2.2.1
        have p1 : decide ((i : Int) < 0) = false := decide_eq_false (by omega)
        have p2 : decide ((i : Int) ≥ (n : Int)) = false := decide_eq_false (by omega)
        have p2' : decide ((n : Int) ≤ (i : Int)) = false := decide_eq_false (by omega)
        have p2'' : decide (n ≤ i) = false := decide_eq_false (by omega)
        have p3 : (0 : Int) ≤ (i : Int) := by omega
        have p4 : (i : Int) < (n : Int) := by omega
        have T : Hid (∀ W, (∃ q, W = wr.drewN q) → ∃ w', (Instr.mapUpdate 43 (.map (some M)) (.int .i64 (i : Int)) (.bool true)).run Tryd.prog W = .ok () w' ∧ SeenM w' M (k + 1) ((List.range (k + 1)).map f) ∧ Below M w2 w') := by
          rintro W ⟨q, rfl⟩
          obtain ⟨w', hr, hS, hG⟩ := (K.out.1.drewN q).told (s := (i : Int)) (wf_nat (by omega)) (by unfold maxLen; omega)
          exact ⟨w', hr, by rw [← seen_range, hfi]; exact hS, (below_dN K.out.2 q).grown hG hMs (fun j hj => by injection hj with hj; omega)⟩
        by_cases hk0 : k = 0
        · have p5 : decide ((k : Int) > 0) = false := decide_eq_false (by omega)
          have p5' : decide (0 < k) = false := decide_eq_false (by omega)
          replace hk0 := Lib.hid hk0
          clear hJ hx K rc hfi
          go_wp2_with fail
          go_quiet (fail)
          obtain ⟨w', hupd, T2⟩ := T.out _ ⟨nq, rfl⟩
          replace T2 := Lib.hid T2
          clear T hlook c1 c2
          generalize World.drewN _ _ = W at hupd ⊢
          go_wp2
          go_roundw
          case rel => exact ⟨k + 1, by first | rfl | simp, by omega, T2⟩
          case measure => simp [intOf]; omega
        · have p5 : decide ((k : Int) > 0) = true := decide_eq_true (by omega)
          have p5' : decide (0 < k) = true := decide_eq_true (by omega)
          obtain ⟨kp, hkp, e2⟩ : ∃ kp : Nat, kp + 1 = k ∧ IntKind.i64.wrap ((k : Int) - 1) = (kp : Int) := ⟨k - 1, by omega, by rw [IntKind.wrap_i64]; omega⟩
          obtain ⟨i2, hfi2, hin2⟩ : ∃ i : Nat, f kp = (i : Int) ∧ i < n := by
            have := F.out.2.2.1.to kp (Nat.zero_le _) (by omega)
            exact ⟨(f kp).toNat, by omega, by omega⟩
          have c3 := rc.out kp (by omega)
          rw [hfi2] at c3
          obtain ⟨y, hy⟩ : ∃ x, l[i2]? = some x := ⟨_, List.getElem?_eq_getElem (by rw [H.out.1]; exact hin2)⟩
          obtain ⟨B2, off2, hA2, hJ2⟩ := (H.out.2.2.2.below bw.out) i2 y hy
          simp only [Option.some.injEq, Addr.mk.injEq, and_true] at hA2
          obtain ⟨rfl, rfl⟩ := hA2
          have c4 := hJ2.2.2.1
          have p6 : decide (y.dl > x.dl) = false := by
            have t := F.out.2.2.1.srt kp k (Nat.zero_le _) (by omega) hlt
            rw [hfi, hfi2] at t
            unfold TT at t
            rw [dlOf_at hx, dlOf_at hy] at t
            exact decide_eq_false (by omega)
          have b2 : (kp : Int) < (n : Int) := by omega
          have b3 : (i2 : Int) < (n : Int) := by omega
          replace hkp := Lib.hid hkp
          clear hJ hx K rc hfi hJ2 hy hfi2 hk0
          generalize x.dl = xd at *
          generalize y.dl = yd at *
          go_wp2_with fail
          go_quiet (fail)
          obtain ⟨w', hupd, T2⟩ := T.out _ ⟨nq, rfl⟩
          replace T2 := Lib.hid T2
          clear T hlook c1 c2 c3 c4
          generalize World.drewN _ _ = W at hupd ⊢
          go_wp2
          go_roundw
          case rel => exact ⟨k + 1, by first | rfl | simp, by omega, T2⟩
          case measure => simp [intOf]; omega
      · have d1 : decide ((k : Int) < (n : Int)) = false := decide_eq_false (by omega)
        have d1' : decide (k < n) = false := decide_eq_false (by omega)
        have bw : Hid (Below w.heap.size w wr) := F.out.1.trans (K.out.2.mono (by have := hM.out; have := F.out.1.size; omega))
        clear K
        go_wp2
        clear d1 d1' hge hMs
        clear hkn
        go_loopw [7] (fun st wr => ∃ (i : Nat), st = .int .i64 (i : Int) ∧ i ≤ n ∧ Hid (Below w.heap.size w wr)) (fun st _ => n - (intOf st).toNat)
        case atStart => exact ⟨0, rfl, by omega, bw⟩
        case round =>
          clear bw
          obtain ⟨i, rfl, hin, bw⟩ := hrel
          rcases Nat.lt_or_ge i n with hlt | hge
          · have d1 : decide ((i : Int) < (n : Int)) = true := decide_eq_true (by omega)
            have e1 : IntKind.i64.wrap ((i : Int) + 1) = ((i + 1 : Nat) : Int) := by rw [IntKind.wrap_i64]; omega
            have b1 : (i : Int) < (n : Int) := by omega
            obtain ⟨x, hx⟩ : ∃ x, l[i]? = some x := ⟨_, List.getElem?_eq_getElem (by rw [H.out.1]; exact hlt)⟩
            obtain ⟨B', off, rfl, r1⟩ := (H.out.2.2.2.below bw.out) i x hx
            have hss : x.name.size ≤ 1000000 := by have := (H.out.2.1 x (List.mem_of_getElem? hx)).1; omega
            have hLr : Hid (Ltr wr) := H.out.2.2.1.below bw.out
            obtain ⟨wk, hwk⟩ : ∃ z, x.work = z := ⟨_, rfl⟩
            obtain ⟨ch, hch⟩ : ∃ z, x.charge = z := ⟨_, rfl⟩
            obtain ⟨gx, hgx⟩ : ∃ z, x.good = z := ⟨_, rfl⟩
            have p1 : decide (wk > ch) = false := decide_eq_false (by have := work_le x; omega)
            have p2 : gx = true → decide (wk < 1) = false := fun h => decide_eq_false (by have := work_pos (hgx.trans h); omega)
            have C1 : Hid (∀ w', Below wr.heap.size wr w' → Calls Tryd.prog 9 #[.agg x.cells] w' (RetB (.int .i64 wk) w')) := fun w' hb => hwk ▸ jwork_any x w' hss (hLr.out.below hb)
            have C2 : Hid (∀ w', Below wr.heap.size wr w' → Calls Tryd.prog 10 #[.agg x.cells] w' (RetB (.int .i64 ch) w')) := fun w' hb => hch ▸ jcharge_any x w' hss (hLr.out.below hb)
            have C3 : Hid (∀ w', Below wr.heap.size wr w' → Calls Tryd.prog 8 #[.agg x.cells] w' (RetB (.bool gx) w')) := fun w' hb => hgx ▸ jgood_any x w' hss (hLr.out.below hb)
            unfold Jb.cells at C1 C2 C3
            unfold JAt at r1
            clear hwk hch hgx hss hx hLr
            generalize x.name = s at *
            generalize x.rel = r at *
            generalize x.dl = d at *
            generalize x.bud = b at *
            generalize x.act = a at *
            generalize x.vl = v at *
            generalize x.cln = c at *
            generalize x.hard = h at *
            cases gx
            · clear p2
              go_wp2_with fail
              refine wp_region_held_drew (S := (fun W => Below wr.heap.size wr W ∧ (W.cell? ⟨B', off + i * 8, none⟩ = some (.string s) ∧ W.cell? ⟨B', off + i * 8 + 1, none⟩ = some (.int .i64 r) ∧ W.cell? ⟨B', off + i * 8 + 2, none⟩ = some (.int .i64 d) ∧ W.cell? ⟨B', off + i * 8 + 3, none⟩ = some (.int .i64 b) ∧ W.cell? ⟨B', off + i * 8 + 4, none⟩ = some (.int .i64 a) ∧ W.cell? ⟨B', off + i * 8 + 5, none⟩ = some (.int .i64 v) ∧ W.cell? ⟨B', off + i * 8 + 6, none⟩ = some (.int .i64 c) ∧ W.cell? ⟨B', off + i * 8 + 7, none⟩ = some (.bool h)))) (by kernel_rfl) ⟨Below.drew (Below.refl _ _), r1⟩ (fun hHeld => ?_)
              refine wpAnyH_take (i := 0) (v := (.slice (some ⟨B', off, none⟩) n cap)) rfl (by kernel_rfl) (by kernel_rfl) (by kernel_rfl) (fun _ _ _ h => h) (Or.inl ⟨by rfl, ?_⟩) hHeld ?_
              · intro w hSw; go_simp
              try simp only [List.getElem_toArray, List.getElem_cons_zero, List.getElem_cons_succ, Act.put, List.setIfInBounds_toArray, List.set_cons_zero, List.set_cons_succ]
              refine wpAnyH_take (i := 1) (v := (.int .i64 (i : Int))) rfl (by kernel_rfl) (by kernel_rfl) (by kernel_rfl) (fun _ _ _ h => h) (Or.inl ⟨by rfl, ?_⟩) hHeld ?_
              · intro w hSw; go_simp
              try simp only [List.getElem_toArray, List.getElem_cons_zero, List.getElem_cons_succ, Act.put, List.setIfInBounds_toArray, List.set_cons_zero, List.set_cons_succ]
              refine wpAnyH_take (i := 2) (v := (.pointer (some ⟨B', off + i * 8, none⟩))) rfl (by kernel_rfl) (by kernel_rfl) (by kernel_rfl) (fun _ _ _ h => h) (Or.inl ⟨by rfl, ?_⟩) hHeld ?_
              · intro w hSw; go_simp
              try simp only [List.getElem_toArray, List.getElem_cons_zero, List.getElem_cons_succ, Act.put, List.setIfInBounds_toArray, List.set_cons_zero, List.set_cons_succ]
              refine wpAnyH_take (i := 3) (v := (.agg #[.string s, .int .i64 r, .int .i64 d, .int .i64 b, .int .i64 a, .int .i64 v, .int .i64 c, .bool h])) rfl (by kernel_rfl) (by kernel_rfl) (by kernel_rfl) (fun _ _ _ h => h) (Or.inl ⟨by rfl, ?_⟩) hHeld ?_
              · intro w hSw; obtain ⟨sb, s0, s1, s2, s3, s4, s5, s6, s7⟩ := hSw; go_simp
              try simp only [List.getElem_toArray, List.getElem_cons_zero, List.getElem_cons_succ, Act.put, List.setIfInBounds_toArray, List.set_cons_zero, List.set_cons_succ]
              refine wpAnyH_take (i := 5) (v := (.slice (some ⟨B', off, none⟩) n cap)) rfl (by kernel_rfl) (by kernel_rfl) (by kernel_rfl) (fun _ _ _ h => h) (Or.inl ⟨by rfl, ?_⟩) hHeld ?_
              · intro w hSw; go_simp
              try simp only [List.getElem_toArray, List.getElem_cons_zero, List.getElem_cons_succ, Act.put, List.setIfInBounds_toArray, List.set_cons_zero, List.set_cons_succ]
              refine wpAnyH_take (i := 6) (v := (.int .i64 (i : Int))) rfl (by kernel_rfl) (by kernel_rfl) (by kernel_rfl) (fun _ _ _ h => h) (Or.inl ⟨by rfl, ?_⟩) hHeld ?_
              · intro w hSw; go_simp
              try simp only [List.getElem_toArray, List.getElem_cons_zero, List.getElem_cons_succ, Act.put, List.setIfInBounds_toArray, List.set_cons_zero, List.set_cons_succ]
              refine wpAnyH_take (i := 7) (v := (.pointer (some ⟨B', off + i * 8, none⟩))) rfl (by kernel_rfl) (by kernel_rfl) (by kernel_rfl) (fun _ _ _ h => h) (Or.inl ⟨by rfl, ?_⟩) hHeld ?_
              · intro w hSw; go_simp
              try simp only [List.getElem_toArray, List.getElem_cons_zero, List.getElem_cons_succ, Act.put, List.setIfInBounds_toArray, List.set_cons_zero, List.set_cons_succ]
              refine wpAnyH_take (i := 8) (v := (.agg #[.string s, .int .i64 r, .int .i64 d, .int .i64 b, .int .i64 a, .int .i64 v, .int .i64 c, .bool h])) rfl (by kernel_rfl) (by kernel_rfl) (by kernel_rfl) (fun _ _ _ h => h) (Or.inl ⟨by rfl, ?_⟩) hHeld ?_
              · intro w hSw; obtain ⟨sb, s0, s1, s2, s3, s4, s5, s6, s7⟩ := hSw; go_simp
              try simp only [List.getElem_toArray, List.getElem_cons_zero, List.getElem_cons_succ, Act.put, List.setIfInBounds_toArray, List.set_cons_zero, List.set_cons_succ]
              have hSS := hHeld
              refine wpAnyH_ready (rs := [4]) (by kernel_rfl) (by simp) ?_
              refine AllReadyH.cons rfl (fun K hK => ?_) AllReadyH.nil
              clear hHeld
              go_simp
              refine (C1.out _ hSS.1).mono ?_
              rintro e wa ⟨rfl, hb⟩
              have hSS := held_job hSS hb
              refine hK.out _ _ hSS (fun hHeld => ?_)
              clear hK K hb
              refine wpAnyH_ready (rs := [9]) (by kernel_rfl) (by simp) ?_
              refine AllReadyH.cons rfl (fun K hK => ?_) AllReadyH.nil
              clear hHeld
              go_simp
              refine (C2.out _ hSS.1).mono ?_
              rintro e wb ⟨rfl, hb⟩
              have hSS := held_job hSS hb
              refine hK.out _ _ hSS (fun hHeld => ?_)
              clear hK K hb
              refine wpAnyH_take (i := 10) (v := (.bool false)) rfl (by kernel_rfl) (by kernel_rfl) (by kernel_rfl) (fun _ _ _ h => h) (Or.inl ⟨by rfl, ?_⟩) hHeld ?_
              · intro w hSw; go_simp
              try simp only [List.getElem_toArray, List.getElem_cons_zero, List.getElem_cons_succ, Act.put, List.setIfInBounds_toArray, List.set_cons_zero, List.set_cons_succ]
              refine wpAnyH_take (i := 11) (v := (.bool false)) rfl (by kernel_rfl) (by kernel_rfl) (by kernel_rfl) (fun _ _ _ h => h) (Or.inl ⟨by rfl, ?_⟩) hHeld ?_
              · intro w hSw; go_simp
              try simp only [List.getElem_toArray, List.getElem_cons_zero, List.getElem_cons_succ, Act.put, List.setIfInBounds_toArray, List.set_cons_zero, List.set_cons_succ]
              refine wpAnyH_take (i := 12) (v := (.slice (some ⟨B', off, none⟩) n cap)) rfl (by kernel_rfl) (by kernel_rfl) (by kernel_rfl) (fun _ _ _ h => h) (Or.inl ⟨by rfl, ?_⟩) hHeld ?_
              · intro w hSw; go_simp
              try simp only [List.getElem_toArray, List.getElem_cons_zero, List.getElem_cons_succ, Act.put, List.setIfInBounds_toArray, List.set_cons_zero, List.set_cons_succ]
              refine wpAnyH_take (i := 13) (v := (.int .i64 (i : Int))) rfl (by kernel_rfl) (by kernel_rfl) (by kernel_rfl) (fun _ _ _ h => h) (Or.inl ⟨by rfl, ?_⟩) hHeld ?_
              · intro w hSw; go_simp
              try simp only [List.getElem_toArray, List.getElem_cons_zero, List.getElem_cons_succ, Act.put, List.setIfInBounds_toArray, List.set_cons_zero, List.set_cons_succ]
              refine wpAnyH_take (i := 14) (v := (.pointer (some ⟨B', off + i * 8, none⟩))) rfl (by kernel_rfl) (by kernel_rfl) (by kernel_rfl) (fun _ _ _ h => h) (Or.inl ⟨by rfl, ?_⟩) hHeld ?_
              · intro w hSw; go_simp
              try simp only [List.getElem_toArray, List.getElem_cons_zero, List.getElem_cons_succ, Act.put, List.setIfInBounds_toArray, List.set_cons_zero, List.set_cons_succ]
              refine wpAnyH_take (i := 15) (v := (.agg #[.string s, .int .i64 r, .int .i64 d, .int .i64 b, .int .i64 a, .int .i64 v, .int .i64 c, .bool h])) rfl (by kernel_rfl) (by kernel_rfl) (by kernel_rfl) (fun _ _ _ h => h) (Or.inl ⟨by rfl, ?_⟩) hHeld ?_
              · intro w hSw; obtain ⟨sb, s0, s1, s2, s3, s4, s5, s6, s7⟩ := hSw; go_simp
              try simp only [List.getElem_toArray, List.getElem_cons_zero, List.getElem_cons_succ, Act.put, List.setIfInBounds_toArray, List.set_cons_zero, List.set_cons_succ]
              have hSS := hHeld
              refine wpAnyH_ready (rs := [16]) (by kernel_rfl) (by simp) ?_
              refine AllReadyH.cons rfl (fun K hK => ?_) AllReadyH.nil
              clear hHeld
              go_simp
              refine (C3.out _ hSS.1).mono ?_
              rintro e wc ⟨rfl, hb⟩
              have hSS := held_job hSS hb
              refine hK.out _ _ hSS (fun hHeld => ?_)
              clear hK K hb
              refine wpAnyH_take (i := 17) (v := (.bool false)) rfl (by kernel_rfl) (by kernel_rfl) (by kernel_rfl) (fun _ _ _ h => h) (Or.inl ⟨by rfl, ?_⟩) hHeld ?_
              · intro w hSw; go_simp
              try simp only [List.getElem_toArray, List.getElem_cons_zero, List.getElem_cons_succ, Act.put, List.setIfInBounds_toArray, List.set_cons_zero, List.set_cons_succ]
              refine wpAnyH_take (i := 18) (v := undef) rfl (by kernel_rfl) (by kernel_rfl) (by kernel_rfl) (fun _ _ _ h => h) (Or.inr ⟨by rfl, rfl⟩) hHeld ?_
              try simp only [List.getElem_toArray, List.getElem_cons_zero, List.getElem_cons_succ, Act.put, List.setIfInBounds_toArray, List.set_cons_zero, List.set_cons_succ]
              refine wpAnyH_take (i := 19) (v := undef) rfl (by kernel_rfl) (by kernel_rfl) (by kernel_rfl) (fun _ _ _ h => h) (Or.inr ⟨by rfl, rfl⟩) hHeld ?_
              try simp only [List.getElem_toArray, List.getElem_cons_zero, List.getElem_cons_succ, Act.put, List.setIfInBounds_toArray, List.set_cons_zero, List.set_cons_succ]
              refine wpAnyH_take (i := 20) (v := undef) rfl (by kernel_rfl) (by kernel_rfl) (by kernel_rfl) (fun _ _ _ h => h) (Or.inr ⟨by rfl, rfl⟩) hHeld ?_
              try simp only [List.getElem_toArray, List.getElem_cons_zero, List.getElem_cons_succ, Act.put, List.setIfInBounds_toArray, List.set_cons_zero, List.set_cons_succ]
              refine wpAnyH_take (i := 21) (v := undef) rfl (by kernel_rfl) (by kernel_rfl) (by kernel_rfl) (fun _ _ _ h => h) (Or.inr ⟨by rfl, rfl⟩) hHeld ?_
              try simp only [List.getElem_toArray, List.getElem_cons_zero, List.getElem_cons_succ, Act.put, List.setIfInBounds_toArray, List.set_cons_zero, List.set_cons_succ]
              refine wpAnyH_take (i := 22) (v := undef) rfl (by kernel_rfl) (by kernel_rfl) (by kernel_rfl) (fun _ _ _ h => h) (Or.inr ⟨by rfl, rfl⟩) hHeld ?_
              try simp only [List.getElem_toArray, List.getElem_cons_zero, List.getElem_cons_succ, Act.put, List.setIfInBounds_toArray, List.set_cons_zero, List.set_cons_succ]
              refine wpAnyH_take (i := 23) (v := undef) rfl (by kernel_rfl) (by kernel_rfl) (by kernel_rfl) (fun _ _ _ h => h) (Or.inr ⟨by rfl, rfl⟩) hHeld ?_
              try simp only [List.getElem_toArray, List.getElem_cons_zero, List.getElem_cons_succ, Act.put, List.setIfInBounds_toArray, List.set_cons_zero, List.set_cons_succ]
              refine wpAnyH_take (i := 24) (v := (.bool false)) rfl (by kernel_rfl) (by kernel_rfl) (by kernel_rfl) (fun _ _ _ h => h) (Or.inl ⟨by rfl, ?_⟩) hHeld ?_
              · intro w hSw; go_simp
              try simp only [List.getElem_toArray, List.getElem_cons_zero, List.getElem_cons_succ, Act.put, List.setIfInBounds_toArray, List.set_cons_zero, List.set_cons_succ]
              refine wpAnyH_take (i := 25) (v := (.bool false)) rfl (by kernel_rfl) (by kernel_rfl) (by kernel_rfl) (fun _ _ _ h => h) (Or.inl ⟨by rfl, ?_⟩) hHeld ?_
              · intro w hSw; go_simp
              try simp only [List.getElem_toArray, List.getElem_cons_zero, List.getElem_cons_succ, Act.put, List.setIfInBounds_toArray, List.set_cons_zero, List.set_cons_succ]
              refine wpAnyH_done (by kernel_rfl) ?_ _
              clear hHeld
              go_wp2
              go_roundw
              case rel => exact ⟨i + 1, by first | rfl | simp, by omega, Lib.hid (below_on bw.out hSS.1)⟩
              case measure => simp [intOf]; omega
            · replace p2 := p2 rfl
              go_wp2_with fail
              go_region_held3 (fun W => Below wr.heap.size wr W ∧ (W.cell? ⟨B', off + i * 8, none⟩ = some (.string s) ∧ W.cell? ⟨B', off + i * 8 + 1, none⟩ = some (.int .i64 r) ∧ W.cell? ⟨B', off + i * 8 + 2, none⟩ = some (.int .i64 d) ∧ W.cell? ⟨B', off + i * 8 + 3, none⟩ = some (.int .i64 b) ∧ W.cell? ⟨B', off + i * 8 + 4, none⟩ = some (.int .i64 a) ∧ W.cell? ⟨B', off + i * 8 + 5, none⟩ = some (.int .i64 v) ∧ W.cell? ⟨B', off + i * 8 + 6, none⟩ = some (.int .i64 c) ∧ W.cell? ⟨B', off + i * 8 + 7, none⟩ = some (.bool h)))
                (first | assumption | exact ⟨Below.drew (Below.refl _ _), r1⟩ | (refine held_job ?_ hb; assumption))
                (first
                  | (go_at_call 9; refine (C1.out _ (And.left (by assumption))).mono ?_; rintro e w2 ⟨rfl, hb⟩)
                  | (go_at_call 10; refine (C2.out _ (And.left (by assumption))).mono ?_; rintro e w2 ⟨rfl, hb⟩)
                  | (go_at_call 8; refine (C3.out _ (And.left (by assumption))).mono ?_; rintro e w2 ⟨rfl, hb⟩))
              all_goals
                go_wp2
                go_roundw
                case rel => exact ⟨i + 1, by first | rfl | simp, by omega, Lib.hid (below_on bw.out (And.left (by assumption)))⟩
                case measure => simp [intOf]; omega
          · have d1 : decide ((i : Int) < (n : Int)) = false := decide_eq_false (by omega)
            have q1 : ((n : Int) == (n : Int)) = true := by simp
            go_wp2
            go_ret
            exact ⟨rfl, bw.out⟩
  · obtain ⟨n, hl⟩ : ∃ n, l.length = n := ⟨_, rfl⟩
    rw [hl] at A1 hlc ⊢
    clear hL hR hg hl
    go_enter Tryd.func5, Tryd.ntmps5
    go_wp2_with fail
    refine A0.out.mono ?_; rintro e w0 ⟨rfl, b0⟩
    go_wp2_with fail
    refine (A1.out _ b0).mono ?_; rintro e w1 ⟨rfl, q1, rfl⟩
    go_wp2
    go_ret
    exact ⟨rfl, by have s0 := b0.size; (try simp only [World.heap_drewN, World.size_alloc] at s0); repeat (first | exact Below.refl _ _ | exact b0 | refine Below.trans ?_ (Below.mono b0 (by first | omega | (simp; done) | (simp; omega))) | refine Below.setCell ?_ (by first | omega | (simp; done) | (simp; omega)) _ | refine below_dN ?_ _ | refine Below.drew ?_ | refine Below.alloc ?_ (by first | omega | (simp; done) | (simp; omega)) _)⟩
end Go.Proofs.YtnbidigilmjloaaDoor
