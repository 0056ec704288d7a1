/- The document's arena: All. -/
import Derived.Test.YtenokhdfbomkkaaRefOps2
namespace Go.Proofs.Ytenokhdfbomkkaa
open Go.RowKit
set_option linter.unusedVariables false
set_option linter.unusedSimpArgs false
attribute [local go_sem ↓] Go.wp_at_zero Go.wp_at_succ

theorem news_heap {w : World} {B : Nat} {x : Value} {e : TypeId} (t : w.heap[B]? = some (.cells #[x] e (0, 0))) : ∀ j u, ([x] : List Value)[j]? = some u → w.cell? ((⟨B, 0, none⟩ : Addr).add j) = some u := by
  intro j u hj
  match j, hj with
  | 0, hj => simp at hj; subst hj; simp [Addr.add, World.cell?, t]
theorem own_ne_blk {w : World} {base e size n b : Nat} {v : Value} {xs : List Value} {cs : Array Value} {t : TypeId} (h : w.ownsRow base e size v n xs) (hb : w.heap[b]? = some (.cells cs t (0, 0))) (ht : e ≠ t) : some b ≠ v.ownBlock := by
  intro hk
  rcases h.2 with ⟨rfl, _⟩ | ⟨g, cap, cur, rfl, _, hg, _⟩
  · cases hk
  · cases hk; rw [hb] at hg; cases hg; exact ht rfl
theorem own_ne {w : World} {base base' e e' size size' n n' : Nat} {v v' : Value} {xs xs' : List Value} (h : w.ownsRow base e size v n xs) (h' : w.ownsRow base' e' size' v' n' xs') (hne : e ≠ e') : v.ownBlock = none ∨ v.ownBlock ≠ v'.ownBlock := by
  rcases h.2 with ⟨rfl, _⟩ | ⟨g, cap, cur, rfl, _, hg, _⟩
  · exact .inl rfl
  · exact .inr fun hk => own_ne_blk h' hg (fun q => hne q.symm) hk
section
variable {P : Program} (w : World)
theorem step_app {ops : Array Oper} {o : Oper} {a : Act} {K : Act → World → Prop} {Q : Exit → Act → World → Prop} {E : Prop} (hgd : o.guard = none) (s x : Operand) (t : TypeId)
    (ho : o.op = .call { callee := .builtin .append, args := #[s, x], argTypes := #[t, t] })
    (base : Nat) (e : TypeId) (i : TypeInfo) (z : Value) (size bytes : Nat) (ht : P.underlying t = some (.slice e)) (hi : P.info? e = some i) (hz : i.zero = some z)
    (hsize : i.size = size) (hby : i.bytes = bytes) (hzs : z.cells.size = size) (hsz : 0 < size)
    (v : Value) (n : Nat) (xs : List Value) (hs : a.eval s = v) (hown : w.ownsRow base e size v n xs)
    (ad : Addr) (m c : Nat) (news : List Value) (hx : a.eval x = .slice (some ad) m c) (hl : news.length = m * size) (hnews : ∀ j u, news[j]? = some u → w.cell? (ad.add j) = some u) (h1 : ∀ u ∈ news, u.oneCell' = true)
    (h63 : n + m ≤ maxLen) (hbytes : (n + m) * bytes ≤ 140737488355328) (hbase : base ≤ w.heap.size)
    (h : ∀ v' w', w'.ownsRow base e size v' (n + m) (xs ++ news) → w.grownBy w' v.ownBlock → K (a.put o.dst v') w') :
    if Region.wanted o (yielded ops a.tmps) = true then Oper.wp P o a w K Q else E := by
  have hw : Region.wanted o (yielded ops a.tmps) = true := by simp [Region.wanted, hgd]
  rw [if_pos hw]
  obtain ⟨v', w', hr, h2, h3, h4, h5⟩ := run_append_own_at (P := P) w base t o.type e i z size bytes ht hi hz hsize hby hzs hsz v n xs hown ad m c news hl hnews h1 h63 hbytes hbase
  unfold Oper.wp execOp
  simp only [ho, resolve, invoke, builtin, Sem.run_bind, Sem.run_pure, Result.andThen_ok, List.map_toArray, List.map_cons, List.map_nil, hs, hx, hr]
  exact h v' w' h2 h3
end
def slotC (l : List (Nat × Int)) : List Value := l.map fun p => .int .i64 (p.1 : Int)
def genC (l : List (Nat × Int)) : List Value := l.map fun p => .int .i64 p.2
section
variable {o : Nat → Nat} {σ : Nat} {w : World} {b room : Nat} {vi vg vv vf : Value} {ss : List (ByteArray × Int × Bool)} {fr : List Nat}
set_option maxHeartbeats 6400000 in
set_option maxRecDepth 100000 in
theorem rall (h : RefA o σ w b room vi vg vv vf ss fr) (hl : ss.length ≤ 1000) :
    Calls Try.prog 25 #[.pointer (some ⟨b, 0, none⟩)] w fun e w' => ∃ v1 v2, e = .returned (.tuple #[v1, v2]) ∧ w'.ownsRow w.heap.size 3 1 v1 (allFrom 0 ss).length (slotC (allFrom 0 ss)) ∧ w'.ownsRow w.heap.size 2 1 v2 (allFrom 0 ss).length (genC (allFrom 0 ss)) ∧ Below w.heap.size w w' := by
  obtain ⟨j0, hj0, hz0, hz1, hz2⟩ := info_parts Try.infoInt
  obtain ⟨j1, hj1, hy0, hy1, hy2⟩ := info_parts Try.infoI64
  obtain ⟨⟨Ai, ci, rfl⟩, ⟨Ag, cg, rfl⟩, ⟨Av, cv, rfl⟩, ⟨Af, cf, rfl⟩⟩ := h.any
  obtain ⟨n, hn⟩ : ∃ n, ss.length = n := ⟨_, rfl⟩
  rw [hn] at h hl
  replace h := Lib.hid h
  replace hn := Lib.hid hn
  go_enter Try.func25, Try.ntmps25
  go_wp2
  go_loopw [4, 5, 6] (fun v1 v2 st wr => ∃ i : Nat, st = .int .i64 (i : Int) ∧ i ≤ n ∧ wr.ownsRow w.heap.size 3 1 v1 (allFrom 0 (ss.take i)).length (slotC (allFrom 0 (ss.take i))) ∧ wr.ownsRow w.heap.size 2 1 v2 (allFrom 0 (ss.take i)).length (genC (allFrom 0 (ss.take i))) ∧ Below w.heap.size w wr) (fun _ _ st _ => n - (intOf st).toNat)
  case atStart => exact ⟨0, rfl, by omega, World.ownsRow_nil _ _ _ _, World.ownsRow_nil _ _ _ _, Below.refl _ _⟩
  case round =>
    obtain ⟨i, rfl, hi, hown1, hown2, hbr⟩ := hrel
    have hr := h.out.below hbr
    have e1 : wr.cell? ⟨b, 1, none⟩ = some (.slice Ai n ci) := by rw [hr.box.cell]; simp
    have e2 : wr.cell? ⟨b, 2, none⟩ = some (.slice Ag n cg) := by rw [hr.box.cell]; simp
    have e3 : wr.cell? ⟨b, 3, none⟩ = some (.slice Av n cv) := by rw [hr.box.cell]; simp
    rcases Nat.lt_or_ge i n with hlt | hge
    · obtain ⟨⟨sv, sg, sh⟩, hs⟩ : ∃ s, ss[i]? = some s := ⟨_, List.getElem?_eq_getElem (by rw [hn.out]; exact hlt)⟩
      have hst := allFrom_take ss i _ hs
      have hle := allFrom_le (ss.take i) 0
      simp only [List.length_take, hn.out, Nat.min_eq_left hi] at hle
      generalize allFrom 0 (ss.take i) = acc at *
      have hf := hr
      rw [← hn.out] at hf
      obtain ⟨gi, ci', gg, cg', gv, cv', q1, q2, q3, l1, m1, l2, m2, l3, m3, o1, o2, o3⟩ := RefA.form hf (by rw [hn.out]; omega)
      cases q1; cases q2; cases q3
      rw [hn.out] at l1 l2 l3
      have hri := hf.ri
      have hrg := hf.rg
      rw [List.length_map] at hri hrg
      have d1 : wr.cell? ⟨gi, i, none⟩ = some (.bool sh) := by rw [hri.cellAt i (by rw [hn.out]; omega)]; simp [hs]
      have d2 : wr.cell? ⟨gg, i, none⟩ = some (.int .i64 sg) := by rw [hrg.cellAt i (by rw [hn.out]; omega)]; simp [hs]
      unfold maxLen at m1 m2 m3
      clear hf hri hrg hr
      have F := Lib.hid (And.intro hown1 (And.intro hown2 (And.intro hbr hst)))
      clear hown1 hown2 hbr hst
      cases sh with
      | false =>
        go_wp2
        go_roundw
        case rel =>
          have hst := F.out.2.2.2
          simp only [Bool.false_eq_true, if_false, List.append_nil] at hst
          exact ⟨i + 1, by simp, by omega, by rw [hst]; exact F.out.1, by rw [hst]; exact F.out.2.1, F.out.2.2.1⟩
        case measure => simp [intOf]; omega
      | true =>
        go_wp2
        obtain ⟨O1, O2, bel, hst⟩ := F.out
        have HS := Lib.hid hst
        have zb : b < w.heap.size := h.out.box.lt
        have z2 : w.cell? ⟨b, 2, none⟩ = some (.slice (some ⟨gg, 0, none⟩) n cg) := by rw [h.out.box.cell]; simp
        have hrg := h.out.rg
        rw [List.length_map, hn.out] at hrg
        have zgl : gg < w.heap.size := hrg.lt (k := gg) rfl
        have zg : w.cell? ⟨gg, i, none⟩ = some (.int .i64 sg) := by rw [hrg.cellAt i (by omega)]; simp [hs]
        have hi0 : (0 : Int) ≤ (i : Int) := by omega
        have hi1 : (i : Int) < (n : Int) := by omega
        clear F hst hrg e1 e2 e3 d1 d2
        refine wp_region_T (fun w' => w'.cell? ⟨b, 2, none⟩ = some (.slice (some ⟨gg, 0, none⟩) n cg) ∧ w'.cell? ⟨gg, i, none⟩ = some (.int .i64 sg)) 15 (by kernel_rfl) ?_
        replace O1 := O1.drew
        replace O2 := O2.drew
        replace bel := bel.drew
        generalize wr.drew = wA at *
        refine wpAnyT_free (i := 0) (v := u4) rfl (by kernel_rfl) (fun _ _ _ h => h) (Or.inl ⟨by rfl, ?_⟩) (fun _ => ⟨(bel.cell (p := ⟨b, 2, none⟩) zb).trans z2, (bel.cell (p := ⟨gg, i, none⟩) zgl).trans zg⟩) ?_
        · intro w _; go_simp
        simp only [List.getElem_toArray, List.getElem_cons_zero, List.getElem_cons_succ, Act.put, List.setIfInBounds_toArray, List.set_cons_zero, List.set_cons_succ]
        refine wpAnyT_free (i := 1) (v := (.int .i64 (i : Int))) rfl (by kernel_rfl) (fun _ _ _ h => h) (Or.inl ⟨by rfl, ?_⟩) (fun _ => ⟨(bel.cell (p := ⟨b, 2, none⟩) zb).trans z2, (bel.cell (p := ⟨gg, i, none⟩) zgl).trans zg⟩) ?_
        · intro w _; go_simp
        simp only [List.getElem_toArray, List.getElem_cons_zero, List.getElem_cons_succ, Act.put, List.setIfInBounds_toArray, List.set_cons_zero, List.set_cons_succ]
        refine wpAnyT_free (i := 4) (v := u5) rfl (by kernel_rfl) (fun _ _ _ h => h) (Or.inl ⟨by rfl, ?_⟩) (fun _ => ⟨(bel.cell (p := ⟨b, 2, none⟩) zb).trans z2, (bel.cell (p := ⟨gg, i, none⟩) zgl).trans zg⟩) ?_
        · intro w _; go_simp
        simp only [List.getElem_toArray, List.getElem_cons_zero, List.getElem_cons_succ, Act.put, List.setIfInBounds_toArray, List.set_cons_zero, List.set_cons_succ]
        refine wpAnyT_free (i := 5) (v := (.pointer (some ⟨b, 0, none⟩))) rfl (by kernel_rfl) (fun _ _ _ h => h) (Or.inl ⟨by rfl, ?_⟩) (fun _ => ⟨(bel.cell (p := ⟨b, 2, none⟩) zb).trans z2, (bel.cell (p := ⟨gg, i, none⟩) zgl).trans zg⟩) ?_
        · intro w _; go_simp
        simp only [List.getElem_toArray, List.getElem_cons_zero, List.getElem_cons_succ, Act.put, List.setIfInBounds_toArray, List.set_cons_zero, List.set_cons_succ]
        refine wpAnyT_free (i := 6) (v := (.pointer (some ⟨b, 0, none⟩))) rfl (by kernel_rfl) (fun _ _ _ h => h) (Or.inl ⟨by rfl, ?_⟩) (fun _ => ⟨(bel.cell (p := ⟨b, 2, none⟩) zb).trans z2, (bel.cell (p := ⟨gg, i, none⟩) zgl).trans zg⟩) ?_
        · intro w _; go_simp
        simp only [List.getElem_toArray, List.getElem_cons_zero, List.getElem_cons_succ, Act.put, List.setIfInBounds_toArray, List.set_cons_zero, List.set_cons_succ]
        refine wpAnyT_free (i := 7) (v := (.pointer (some ⟨b, 2, none⟩))) rfl (by kernel_rfl) (fun _ _ _ h => h) (Or.inl ⟨by rfl, ?_⟩) (fun _ => ⟨(bel.cell (p := ⟨b, 2, none⟩) zb).trans z2, (bel.cell (p := ⟨gg, i, none⟩) zgl).trans zg⟩) ?_
        · intro w _; go_simp
        simp only [List.getElem_toArray, List.getElem_cons_zero, List.getElem_cons_succ, Act.put, List.setIfInBounds_toArray, List.set_cons_zero, List.set_cons_succ]
        refine wpAnyT_take (i := 8) (v := (.slice (some ⟨gg, 0, none⟩) n cg)) rfl (by kernel_rfl) (fun _ _ _ h => h) (Or.inl ⟨by rfl, ?_⟩) ⟨(bel.cell (p := ⟨b, 2, none⟩) zb).trans z2, (bel.cell (p := ⟨gg, i, none⟩) zgl).trans zg⟩ ?_
        · intro w hSw; obtain ⟨s1, s2⟩ := hSw; go_simp
        simp only [List.getElem_toArray, List.getElem_cons_zero, List.getElem_cons_succ, Act.put, List.setIfInBounds_toArray, List.set_cons_zero, List.set_cons_succ]
        refine wpAnyT_free (i := 9) (v := (.int .i64 (i : Int))) rfl (by kernel_rfl) (fun _ _ _ h => h) (Or.inl ⟨by rfl, ?_⟩) (fun _ => ⟨(bel.cell (p := ⟨b, 2, none⟩) zb).trans z2, (bel.cell (p := ⟨gg, i, none⟩) zgl).trans zg⟩) ?_
        · intro w _; go_simp
        simp only [List.getElem_toArray, List.getElem_cons_zero, List.getElem_cons_succ, Act.put, List.setIfInBounds_toArray, List.set_cons_zero, List.set_cons_succ]
        refine wpAnyT_free (i := 10) (v := (.pointer (some ⟨gg, i, none⟩))) rfl (by kernel_rfl) (fun _ _ _ h => h) (Or.inl ⟨by rfl, ?_⟩) (fun _ => ⟨(bel.cell (p := ⟨b, 2, none⟩) zb).trans z2, (bel.cell (p := ⟨gg, i, none⟩) zgl).trans zg⟩) ?_
        · intro w _; go_simp
        simp only [List.getElem_toArray, List.getElem_cons_zero, List.getElem_cons_succ, Act.put, List.setIfInBounds_toArray, List.set_cons_zero, List.set_cons_succ]
        refine wpAnyT_take (i := 11) (v := (.int .i64 sg)) rfl (by kernel_rfl) (fun _ _ _ h => h) (Or.inl ⟨by rfl, ?_⟩) ⟨(bel.cell (p := ⟨b, 2, none⟩) zb).trans z2, (bel.cell (p := ⟨gg, i, none⟩) zgl).trans zg⟩ ?_
        · intro w hSw; obtain ⟨s1, s2⟩ := hSw; go_simp
        simp only [List.getElem_toArray, List.getElem_cons_zero, List.getElem_cons_succ, Act.put, List.setIfInBounds_toArray, List.set_cons_zero, List.set_cons_succ]
        refine wpAnyT_ready (rs := [2, 12]) (by kernel_rfl) (by simp) ?_
        refine AllT.cons rfl (fun K hK => ?_) (AllT.cons rfl (fun K hK => ?_) (AllT.nil))
        · have O1 := O1.alloc (.cells #[.int .i64 (i : Int)] 3)
          have O2 := O2.alloc (.cells #[.int .i64 (i : Int)] 3)
          have t1 := heap_alloc_new wA (.cells #[.int .i64 (i : Int)] 3)
          have bel := bel.alloc bel.size (.cells #[.int .i64 (i : Int)] 3)
          have F := Lib.hid (And.intro O1 (And.intro O2 (And.intro bel (t1))))
          clear O1 O2 bel t1
          go_simp
          obtain ⟨O1, O2, bel, t1⟩ := F.out
          clear F
          generalize wA.heap.size = B1 at *
          generalize wA.alloc (.cells #[.int .i64 (i : Int)] 3) = w1 at *
          refine hK _ _ (fun _ => ⟨(bel.cell (p := ⟨b, 2, none⟩) zb).trans z2, (bel.cell (p := ⟨gg, i, none⟩) zgl).trans zg⟩) ?_
          clear hK K
          try simp only [List.getElem_toArray, List.getElem_cons_zero, List.getElem_cons_succ, Act.put, List.setIfInBounds_toArray, List.set_cons_zero, List.set_cons_succ]
          refine wpAnyT_ready (rs := [3, 12]) (by kernel_rfl) (by simp) ?_
          refine AllT.cons rfl (fun K hK => ?_) (AllT.cons rfl (fun K hK => ?_) (AllT.nil))
          · refine step_app _ (by rfl) (.tmp 23) (.tmp 25) 46 (by rfl) w.heap.size 3 j0 (.int .i64 0) 1 8 Try.underlying46 hj0 hz0 hz1 hz2 rfl (by decide) u4 acc.length (slotC acc) (by rfl) O1 ⟨B1, 0, none⟩ 1 1 [.int .i64 (i : Int)] (by rfl) rfl (news_heap t1) (one_int _) (by unfold maxLen; omega) (by omega) bel.size ?_
            intro y1 w2 P1 hgrow
            have O2 := O2.kept hgrow (own_ne O2 O1 (by decide))
            have bel := bel.grown hgrow bel.size (fun k hk => (O1.lt k hk).1)
            clear hgrow O1 t1
            refine hK _ _ (fun _ => ⟨(bel.cell (p := ⟨b, 2, none⟩) zb).trans z2, (bel.cell (p := ⟨gg, i, none⟩) zgl).trans zg⟩) ?_
            clear hK K
            try simp only [List.getElem_toArray, List.getElem_cons_zero, List.getElem_cons_succ, Act.put, List.setIfInBounds_toArray, List.set_cons_zero, List.set_cons_succ]
            refine wpAnyT_ready (rs := [12]) (by kernel_rfl) (by simp) ?_
            refine AllT.cons rfl (fun K hK => ?_) (AllT.nil)
            · have P1 := P1.alloc (.cells #[.int .i64 sg] 2)
              have O2 := O2.alloc (.cells #[.int .i64 sg] 2)
              have t2 := heap_alloc_new w2 (.cells #[.int .i64 sg] 2)
              have bel := bel.alloc bel.size (.cells #[.int .i64 sg] 2)
              have F := Lib.hid (And.intro P1 (And.intro O2 (And.intro bel (t2))))
              clear P1 O2 bel t2
              go_simp
              obtain ⟨P1, O2, bel, t2⟩ := F.out
              clear F
              generalize w2.heap.size = B2 at *
              generalize w2.alloc (.cells #[.int .i64 sg] 2) = w3 at *
              refine hK _ _ (fun _ => ⟨(bel.cell (p := ⟨b, 2, none⟩) zb).trans z2, (bel.cell (p := ⟨gg, i, none⟩) zgl).trans zg⟩) ?_
              clear hK K
              try simp only [List.getElem_toArray, List.getElem_cons_zero, List.getElem_cons_succ, Act.put, List.setIfInBounds_toArray, List.set_cons_zero, List.set_cons_succ]
              refine wpAnyT_ready (rs := [13]) (by kernel_rfl) (by simp) ?_
              refine AllT.cons rfl (fun K hK => ?_) (AllT.nil)
              · refine step_app _ (by rfl) (.tmp 27) (.tmp 35) 44 (by rfl) w.heap.size 2 j1 (.int .i64 0) 1 8 Try.underlying44 hj1 hy0 hy1 hy2 rfl (by decide) u5 acc.length (genC acc) (by rfl) O2 ⟨B2, 0, none⟩ 1 1 [.int .i64 sg] (by rfl) rfl (news_heap t2) (one_int _) (by unfold maxLen; omega) (by omega) bel.size ?_
                intro y2 w4 P2 hgrow
                have P1 := P1.kept hgrow (own_ne P1 O2 (by decide))
                have bel := bel.grown hgrow bel.size (fun k hk => (O2.lt k hk).1)
                clear hgrow O2 t2
                refine hK _ _ (fun _ => ⟨(bel.cell (p := ⟨b, 2, none⟩) zb).trans z2, (bel.cell (p := ⟨gg, i, none⟩) zgl).trans zg⟩) ?_
                clear hK K
                try simp only [List.getElem_toArray, List.getElem_cons_zero, List.getElem_cons_succ, Act.put, List.setIfInBounds_toArray, List.set_cons_zero, List.set_cons_succ]
                refine wpAnyT_free (i := 14) (v := y1) rfl (by kernel_rfl) (fun _ _ _ h => h) (Or.inl ⟨by rfl, ?_⟩) (fun _ => ⟨(bel.cell (p := ⟨b, 2, none⟩) zb).trans z2, (bel.cell (p := ⟨gg, i, none⟩) zgl).trans zg⟩) ?_
                · intro w _; go_simp
                simp only [List.getElem_toArray, List.getElem_cons_zero, List.getElem_cons_succ, Act.put, List.setIfInBounds_toArray, List.set_cons_zero, List.set_cons_succ]
                refine wpAnyT_ready (rs := [15]) (by kernel_rfl) (by simp) ?_
                refine AllT.cons rfl (fun K hK => ?_) AllT.nil
                have G := Lib.hid (And.intro P1 (And.intro P2 bel))
                go_simp
                refine hK _ _ (fun _ => ⟨(bel.cell (p := ⟨b, 2, none⟩) zb).trans z2, (bel.cell (p := ⟨gg, i, none⟩) zgl).trans zg⟩) ?_
                clear hK K P1 P2 bel
                try simp only [List.getElem_toArray, List.getElem_cons_zero, List.getElem_cons_succ, Act.put, List.setIfInBounds_toArray, List.set_cons_zero, List.set_cons_succ]
                refine wpAnyT_done (by kernel_rfl) ?_ _
                go_wp2
                go_roundw
                case rel =>
                  have hst := HS.out
                  refine ⟨i + 1, by simp, by omega, ?_, ?_, G.out.2.2⟩
                  · rw [hst, if_pos trivial, List.length_append]; exact (by have := G.out.1; simpa [slotC] using this)
                  · rw [hst, if_pos trivial, List.length_append]; exact (by have := G.out.2.1; simpa [genC] using this)
                case measure => simp [intOf]; omega
          · have O1 := O1.alloc (.cells #[.int .i64 sg] 2)
            have O2 := O2.alloc (.cells #[.int .i64 sg] 2)
            have t1 := (Below.heap_alloc w1 (.cells #[.int .i64 sg] 2) B1 (Array.getElem?_eq_some_iff.1 t1).1).trans t1
            have t2 := heap_alloc_new w1 (.cells #[.int .i64 sg] 2)
            have bel := bel.alloc bel.size (.cells #[.int .i64 sg] 2)
            have F := Lib.hid (And.intro O1 (And.intro O2 (And.intro bel (And.intro t1 (t2)))))
            clear O1 O2 bel t1 t2
            go_simp
            obtain ⟨O1, O2, bel, t1, t2⟩ := F.out
            clear F
            generalize w1.heap.size = B2 at *
            generalize w1.alloc (.cells #[.int .i64 sg] 2) = w5 at *
            refine hK _ _ (fun _ => ⟨(bel.cell (p := ⟨b, 2, none⟩) zb).trans z2, (bel.cell (p := ⟨gg, i, none⟩) zgl).trans zg⟩) ?_
            clear hK K
            try simp only [List.getElem_toArray, List.getElem_cons_zero, List.getElem_cons_succ, Act.put, List.setIfInBounds_toArray, List.set_cons_zero, List.set_cons_succ]
            refine wpAnyT_ready (rs := [3]) (by kernel_rfl) (by simp) ?_
            refine AllT.cons rfl (fun K hK => ?_) (AllT.nil)
            · refine step_app _ (by rfl) (.tmp 23) (.tmp 25) 46 (by rfl) w.heap.size 3 j0 (.int .i64 0) 1 8 Try.underlying46 hj0 hz0 hz1 hz2 rfl (by decide) u4 acc.length (slotC acc) (by rfl) O1 ⟨B1, 0, none⟩ 1 1 [.int .i64 (i : Int)] (by rfl) rfl (news_heap t1) (one_int _) (by unfold maxLen; omega) (by omega) bel.size ?_
              intro y1 w6 P1 hgrow
              have t2 := (hgrow.block B2 (Array.getElem?_eq_some_iff.1 t2).1 (own_ne_blk O1 t2 (by decide))).trans t2
              have O2 := O2.kept hgrow (own_ne O2 O1 (by decide))
              have bel := bel.grown hgrow bel.size (fun k hk => (O1.lt k hk).1)
              clear hgrow O1 t1
              refine hK _ _ (fun _ => ⟨(bel.cell (p := ⟨b, 2, none⟩) zb).trans z2, (bel.cell (p := ⟨gg, i, none⟩) zgl).trans zg⟩) ?_
              clear hK K
              try simp only [List.getElem_toArray, List.getElem_cons_zero, List.getElem_cons_succ, Act.put, List.setIfInBounds_toArray, List.set_cons_zero, List.set_cons_succ]
              refine wpAnyT_ready (rs := [13]) (by kernel_rfl) (by simp) ?_
              refine AllT.cons rfl (fun K hK => ?_) (AllT.nil)
              · refine step_app _ (by rfl) (.tmp 27) (.tmp 35) 44 (by rfl) w.heap.size 2 j1 (.int .i64 0) 1 8 Try.underlying44 hj1 hy0 hy1 hy2 rfl (by decide) u5 acc.length (genC acc) (by rfl) O2 ⟨B2, 0, none⟩ 1 1 [.int .i64 sg] (by rfl) rfl (news_heap t2) (one_int _) (by unfold maxLen; omega) (by omega) bel.size ?_
                intro y2 w7 P2 hgrow
                have P1 := P1.kept hgrow (own_ne P1 O2 (by decide))
                have bel := bel.grown hgrow bel.size (fun k hk => (O2.lt k hk).1)
                clear hgrow O2 t2
                refine hK _ _ (fun _ => ⟨(bel.cell (p := ⟨b, 2, none⟩) zb).trans z2, (bel.cell (p := ⟨gg, i, none⟩) zgl).trans zg⟩) ?_
                clear hK K
                try simp only [List.getElem_toArray, List.getElem_cons_zero, List.getElem_cons_succ, Act.put, List.setIfInBounds_toArray, List.set_cons_zero, List.set_cons_succ]
                refine wpAnyT_free (i := 14) (v := y1) rfl (by kernel_rfl) (fun _ _ _ h => h) (Or.inl ⟨by rfl, ?_⟩) (fun _ => ⟨(bel.cell (p := ⟨b, 2, none⟩) zb).trans z2, (bel.cell (p := ⟨gg, i, none⟩) zgl).trans zg⟩) ?_
                · intro w _; go_simp
                simp only [List.getElem_toArray, List.getElem_cons_zero, List.getElem_cons_succ, Act.put, List.setIfInBounds_toArray, List.set_cons_zero, List.set_cons_succ]
                refine wpAnyT_ready (rs := [15]) (by kernel_rfl) (by simp) ?_
                refine AllT.cons rfl (fun K hK => ?_) AllT.nil
                have G := Lib.hid (And.intro P1 (And.intro P2 bel))
                go_simp
                refine hK _ _ (fun _ => ⟨(bel.cell (p := ⟨b, 2, none⟩) zb).trans z2, (bel.cell (p := ⟨gg, i, none⟩) zgl).trans zg⟩) ?_
                clear hK K P1 P2 bel
                try simp only [List.getElem_toArray, List.getElem_cons_zero, List.getElem_cons_succ, Act.put, List.setIfInBounds_toArray, List.set_cons_zero, List.set_cons_succ]
                refine wpAnyT_done (by kernel_rfl) ?_ _
                go_wp2
                go_roundw
                case rel =>
                  have hst := HS.out
                  refine ⟨i + 1, by simp, by omega, ?_, ?_, G.out.2.2⟩
                  · rw [hst, if_pos trivial, List.length_append]; exact (by have := G.out.1; simpa [slotC] using this)
                  · rw [hst, if_pos trivial, List.length_append]; exact (by have := G.out.2.1; simpa [genC] using this)
                case measure => simp [intOf]; omega
        · have O1 := O1.alloc (.cells #[.int .i64 sg] 2)
          have O2 := O2.alloc (.cells #[.int .i64 sg] 2)
          have t2 := heap_alloc_new wA (.cells #[.int .i64 sg] 2)
          have bel := bel.alloc bel.size (.cells #[.int .i64 sg] 2)
          have F := Lib.hid (And.intro O1 (And.intro O2 (And.intro bel (t2))))
          clear O1 O2 bel t2
          go_simp
          obtain ⟨O1, O2, bel, t2⟩ := F.out
          clear F
          generalize wA.heap.size = B2 at *
          generalize wA.alloc (.cells #[.int .i64 sg] 2) = w8 at *
          refine hK _ _ (fun _ => ⟨(bel.cell (p := ⟨b, 2, none⟩) zb).trans z2, (bel.cell (p := ⟨gg, i, none⟩) zgl).trans zg⟩) ?_
          clear hK K
          try simp only [List.getElem_toArray, List.getElem_cons_zero, List.getElem_cons_succ, Act.put, List.setIfInBounds_toArray, List.set_cons_zero, List.set_cons_succ]
          refine wpAnyT_ready (rs := [2]) (by kernel_rfl) (by simp) ?_
          refine AllT.cons rfl (fun K hK => ?_) (AllT.nil)
          · have O1 := O1.alloc (.cells #[.int .i64 (i : Int)] 3)
            have O2 := O2.alloc (.cells #[.int .i64 (i : Int)] 3)
            have t2 := (Below.heap_alloc w8 (.cells #[.int .i64 (i : Int)] 3) B2 (Array.getElem?_eq_some_iff.1 t2).1).trans t2
            have t1 := heap_alloc_new w8 (.cells #[.int .i64 (i : Int)] 3)
            have bel := bel.alloc bel.size (.cells #[.int .i64 (i : Int)] 3)
            have F := Lib.hid (And.intro O1 (And.intro O2 (And.intro bel (And.intro t2 (t1)))))
            clear O1 O2 bel t2 t1
            go_simp
            obtain ⟨O1, O2, bel, t2, t1⟩ := F.out
            clear F
            generalize w8.heap.size = B1 at *
            generalize w8.alloc (.cells #[.int .i64 (i : Int)] 3) = w9 at *
            refine hK _ _ (fun _ => ⟨(bel.cell (p := ⟨b, 2, none⟩) zb).trans z2, (bel.cell (p := ⟨gg, i, none⟩) zgl).trans zg⟩) ?_
            clear hK K
            try simp only [List.getElem_toArray, List.getElem_cons_zero, List.getElem_cons_succ, Act.put, List.setIfInBounds_toArray, List.set_cons_zero, List.set_cons_succ]
            refine wpAnyT_ready (rs := [3]) (by kernel_rfl) (by simp) ?_
            refine AllT.cons rfl (fun K hK => ?_) (AllT.nil)
            · refine step_app _ (by rfl) (.tmp 23) (.tmp 25) 46 (by rfl) w.heap.size 3 j0 (.int .i64 0) 1 8 Try.underlying46 hj0 hz0 hz1 hz2 rfl (by decide) u4 acc.length (slotC acc) (by rfl) O1 ⟨B1, 0, none⟩ 1 1 [.int .i64 (i : Int)] (by rfl) rfl (news_heap t1) (one_int _) (by unfold maxLen; omega) (by omega) bel.size ?_
              intro y1 w10 P1 hgrow
              have t2 := (hgrow.block B2 (Array.getElem?_eq_some_iff.1 t2).1 (own_ne_blk O1 t2 (by decide))).trans t2
              have O2 := O2.kept hgrow (own_ne O2 O1 (by decide))
              have bel := bel.grown hgrow bel.size (fun k hk => (O1.lt k hk).1)
              clear hgrow O1 t1
              refine hK _ _ (fun _ => ⟨(bel.cell (p := ⟨b, 2, none⟩) zb).trans z2, (bel.cell (p := ⟨gg, i, none⟩) zgl).trans zg⟩) ?_
              clear hK K
              try simp only [List.getElem_toArray, List.getElem_cons_zero, List.getElem_cons_succ, Act.put, List.setIfInBounds_toArray, List.set_cons_zero, List.set_cons_succ]
              refine wpAnyT_ready (rs := [13]) (by kernel_rfl) (by simp) ?_
              refine AllT.cons rfl (fun K hK => ?_) (AllT.nil)
              · refine step_app _ (by rfl) (.tmp 27) (.tmp 35) 44 (by rfl) w.heap.size 2 j1 (.int .i64 0) 1 8 Try.underlying44 hj1 hy0 hy1 hy2 rfl (by decide) u5 acc.length (genC acc) (by rfl) O2 ⟨B2, 0, none⟩ 1 1 [.int .i64 sg] (by rfl) rfl (news_heap t2) (one_int _) (by unfold maxLen; omega) (by omega) bel.size ?_
                intro y2 w11 P2 hgrow
                have P1 := P1.kept hgrow (own_ne P1 O2 (by decide))
                have bel := bel.grown hgrow bel.size (fun k hk => (O2.lt k hk).1)
                clear hgrow O2 t2
                refine hK _ _ (fun _ => ⟨(bel.cell (p := ⟨b, 2, none⟩) zb).trans z2, (bel.cell (p := ⟨gg, i, none⟩) zgl).trans zg⟩) ?_
                clear hK K
                try simp only [List.getElem_toArray, List.getElem_cons_zero, List.getElem_cons_succ, Act.put, List.setIfInBounds_toArray, List.set_cons_zero, List.set_cons_succ]
                refine wpAnyT_free (i := 14) (v := y1) rfl (by kernel_rfl) (fun _ _ _ h => h) (Or.inl ⟨by rfl, ?_⟩) (fun _ => ⟨(bel.cell (p := ⟨b, 2, none⟩) zb).trans z2, (bel.cell (p := ⟨gg, i, none⟩) zgl).trans zg⟩) ?_
                · intro w _; go_simp
                simp only [List.getElem_toArray, List.getElem_cons_zero, List.getElem_cons_succ, Act.put, List.setIfInBounds_toArray, List.set_cons_zero, List.set_cons_succ]
                refine wpAnyT_ready (rs := [15]) (by kernel_rfl) (by simp) ?_
                refine AllT.cons rfl (fun K hK => ?_) AllT.nil
                have G := Lib.hid (And.intro P1 (And.intro P2 bel))
                go_simp
                refine hK _ _ (fun _ => ⟨(bel.cell (p := ⟨b, 2, none⟩) zb).trans z2, (bel.cell (p := ⟨gg, i, none⟩) zgl).trans zg⟩) ?_
                clear hK K P1 P2 bel
                try simp only [List.getElem_toArray, List.getElem_cons_zero, List.getElem_cons_succ, Act.put, List.setIfInBounds_toArray, List.set_cons_zero, List.set_cons_succ]
                refine wpAnyT_done (by kernel_rfl) ?_ _
                go_wp2
                go_roundw
                case rel =>
                  have hst := HS.out
                  refine ⟨i + 1, by simp, by omega, ?_, ?_, G.out.2.2⟩
                  · rw [hst, if_pos trivial, List.length_append]; exact (by have := G.out.1; simpa [slotC] using this)
                  · rw [hst, if_pos trivial, List.length_append]; exact (by have := G.out.2.1; simpa [genC] using this)
                case measure => simp [intOf]; omega
    · obtain rfl : n = i := by omega
      rw [← hn.out, List.take_length] at hown1 hown2
      have F := Lib.hid (And.intro hown1 (And.intro hown2 hbr))
      clear hown1 hown2 hbr hr
      go_wp2
      go_ret2
      exact ⟨_, _, rfl, F.out.1, F.out.2.1, F.out.2.2⟩
end
end Go.Proofs.Ytenokhdfbomkkaa
