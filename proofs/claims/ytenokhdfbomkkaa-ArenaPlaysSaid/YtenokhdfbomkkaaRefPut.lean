/- The document's arena: Put where there is no place to use again. -/
import Derived.Test.YtenokhdfbomkkaaRefA1
import Derived.Deep.AppendLies
import Derived.Deep.DrawnRows
namespace Go.Proofs.Ytenokhdfbomkkaa
open Go.RowKit
set_option linter.unusedVariables false
set_option linter.unusedSimpArgs false
attribute [local go_sem ↓] Go.wp_at_zero Go.wp_at_succ

theorem news_blk {o : Nat → Nat} {τ : Nat} {w : World} {B : Nat} {x : Value} {e : TypeId} (t : Blk o τ w B #[x] e) : ∀ j u, ([x] : List Value)[j]? = some u → w.cell? ((⟨B, 0, none⟩ : Addr).add j) = some u := by
  intro j u hj
  match j, hj with
  | 0, hj => simp at hj; subst hj; simpa [Addr.add] using t.cell 0
theorem rput_shut {o : Nat → Nat} {σ : Nat} {w : World} {b room n : Nat} {vi vg vv : Value} {Af : Option Addr} {cf : Nat} {ss : List (ByteArray × Int × Bool)} {v : ByteArray} {xi xg xv : List Value} (hn : ss.length = n)
    (hx : xi = (ss.map fun s => .bool s.2.2) ∧ xg = (ss.map fun s => .int .i64 s.2.1) ∧ xv = (ss.map fun s => .string s.1))
    (h : RefX o σ w b (.int .i64 (room : Int)) vi vg vv (.slice Af 0 cf) vi (xi ++ [.bool true]) vg (xg ++ [.int .i64 1]) vv (xv ++ [.string v]) (.slice Af 0 cf) (natCells [])) :
    RefA o σ w b room vi vg vv (.slice Af 0 cf) (ss ++ [(v, 1, true)]) [] := by
  obtain ⟨rfl, rfl, rfl⟩ := hx
  unfold RefA
  simp only [List.map_append, List.map_cons, List.map_nil]
  exact h

set_option maxHeartbeats 25600000 in
set_option maxRecDepth 100000 in
theorem rput_new {o : Nat → Nat} {σ : Nat} {w : World} {b room : Nat} {vi vg vv vf : Value} {ss : List (ByteArray × Int × Bool)} (v : ByteArray)
    (h : RefA o σ w b room vi vg vv vf ss []) (hl : ss.length < room) (hr : room ≤ 1000) :
    Calls Try.prog 18 #[.pointer (some ⟨b, 0, none⟩), .string v] w fun e w' => e = .returned (.tuple #[.int .i64 (ss.length : Int), .int .i64 1, .int .i64 0]) ∧
      ∃ o' vi' vg' vv' vf', Step o o' σ w w' ∧ RefA o' σ w' b room vi' vg' vv' vf' (ss ++ [(v, 1, true)]) [] := by
  obtain ⟨jb, hjb, hb0, hb1, hb2⟩ := info_parts Try.infoBool
  obtain ⟨jg, hjg, hg0, hg1, hg2⟩ := info_parts Try.infoI64
  obtain ⟨jv, hjv, hv0, hv1, hv2⟩ := info_parts Try.infoStr
  obtain ⟨⟨Ai, ci, rfl⟩, ⟨Ag, cg, rfl⟩, ⟨Av, cv, rfl⟩, ⟨Af, cf, rfl⟩⟩ := h.any
  obtain ⟨n, hn⟩ : ∃ n, ss.length = n := ⟨_, rfl⟩
  rw [hn] at h hl ⊢
  have e0 : w.cell? ⟨b, 0, none⟩ = some (.int .i64 (room : Int)) := by rw [h.box.cell]; simp
  have e3 : w.cell? ⟨b, 3, none⟩ = some (.slice Av n cv) := by rw [h.box.cell]; simp
  have e4 : w.cell? ⟨b, 4, none⟩ = some (.slice Af 0 cf) := by rw [h.box.cell]; simp
  have hne : ((n : Int) == (room : Int)) = false := by rw [beq_eq_false_iff_ne]; omega
  replace h := Lib.hid h
  replace hn := Lib.hid hn
  go_enter Try.func18, Try.ntmps18
  go_wp2
  go_quiet (fail)
  go_wp2
  have X := (h.out.drewN nq).drew
  have st := ((Step.refl o σ w).drewN nq).drew
  clear h e0 e3 e4 hne
  refine wp_region_T (fun w' => w'.cell? ⟨b, 1, none⟩ = some (.slice Ai n ci) ∧ w'.cell? ⟨b, 2, none⟩ = some (.slice Ag n cg) ∧ w'.cell? ⟨b, 3, none⟩ = some (.slice Av n cv)) 24 (by kernel_rfl) ?_
  generalize (w.drewN nq).drew = wA at *
  have hxi : (ss.map fun s => Value.bool s.2.2).length = n := by rw [List.length_map]; exact hn.out
  have hxg : (ss.map fun s => Value.int .i64 s.2.1).length = n := by rw [List.length_map]; exact hn.out
  have hxv : (ss.map fun s => Value.string s.1).length = n := by rw [List.length_map]; exact hn.out
  obtain ⟨xi, hi⟩ : ∃ x, x = (ss.map fun s => Value.bool s.2.2) := ⟨_, rfl⟩
  obtain ⟨xg, hg⟩ : ∃ x, x = (ss.map fun s => Value.int .i64 s.2.1) := ⟨_, rfl⟩
  obtain ⟨xv, hv⟩ : ∃ x, x = (ss.map fun s => Value.string s.1) := ⟨_, rfl⟩
  rw [← hi] at hxi X
  rw [← hg] at hxg X
  rw [← hv] at hxv X
  have HX := Lib.hid (And.intro hi (And.intro hg hv))
  clear hi hg hv
  refine wpAnyT_free (i := 0) (v := (.pointer (some ⟨b, 0, none⟩))) rfl (by kernel_rfl) (fun _ _ _ h => h) (Or.inl ⟨by rfl, ?_⟩) (fun _ => ⟨by rw [X.box.cell]; rfl, by rw [X.box.cell]; rfl, by rw [X.box.cell]; rfl⟩) ?_
  · intro w _; go_simp
  simp only [List.getElem_toArray, List.getElem_cons_zero, List.getElem_cons_succ, Act.put, List.setIfInBounds_toArray, List.set_cons_zero, List.set_cons_succ]
  refine wpAnyT_free (i := 1) (v := (.pointer (some ⟨b, 0, none⟩))) rfl (by kernel_rfl) (fun _ _ _ h => h) (Or.inl ⟨by rfl, ?_⟩) (fun _ => ⟨by rw [X.box.cell]; rfl, by rw [X.box.cell]; rfl, by rw [X.box.cell]; rfl⟩) ?_
  · intro w _; go_simp
  simp only [List.getElem_toArray, List.getElem_cons_zero, List.getElem_cons_succ, Act.put, List.setIfInBounds_toArray, List.set_cons_zero, List.set_cons_succ]
  refine wpAnyT_free (i := 2) (v := (.pointer (some ⟨b, 0, none⟩))) rfl (by kernel_rfl) (fun _ _ _ h => h) (Or.inl ⟨by rfl, ?_⟩) (fun _ => ⟨by rw [X.box.cell]; rfl, by rw [X.box.cell]; rfl, by rw [X.box.cell]; rfl⟩) ?_
  · intro w _; go_simp
  simp only [List.getElem_toArray, List.getElem_cons_zero, List.getElem_cons_succ, Act.put, List.setIfInBounds_toArray, List.set_cons_zero, List.set_cons_succ]
  refine wpAnyT_free (i := 3) (v := (.pointer (some ⟨b, 0, none⟩))) rfl (by kernel_rfl) (fun _ _ _ h => h) (Or.inl ⟨by rfl, ?_⟩) (fun _ => ⟨by rw [X.box.cell]; rfl, by rw [X.box.cell]; rfl, by rw [X.box.cell]; rfl⟩) ?_
  · intro w _; go_simp
  simp only [List.getElem_toArray, List.getElem_cons_zero, List.getElem_cons_succ, Act.put, List.setIfInBounds_toArray, List.set_cons_zero, List.set_cons_succ]
  refine wpAnyT_free (i := 4) (v := (.pointer (some ⟨b, 0, none⟩))) rfl (by kernel_rfl) (fun _ _ _ h => h) (Or.inl ⟨by rfl, ?_⟩) (fun _ => ⟨by rw [X.box.cell]; rfl, by rw [X.box.cell]; rfl, by rw [X.box.cell]; rfl⟩) ?_
  · intro w _; go_simp
  simp only [List.getElem_toArray, List.getElem_cons_zero, List.getElem_cons_succ, Act.put, List.setIfInBounds_toArray, List.set_cons_zero, List.set_cons_succ]
  refine wpAnyT_free (i := 5) (v := (.pointer (some ⟨b, 1, none⟩))) rfl (by kernel_rfl) (fun _ _ _ h => h) (Or.inl ⟨by rfl, ?_⟩) (fun _ => ⟨by rw [X.box.cell]; rfl, by rw [X.box.cell]; rfl, by rw [X.box.cell]; rfl⟩) ?_
  · intro w _; go_simp
  simp only [List.getElem_toArray, List.getElem_cons_zero, List.getElem_cons_succ, Act.put, List.setIfInBounds_toArray, List.set_cons_zero, List.set_cons_succ]
  refine wpAnyT_take (i := 6) (v := (.slice Ai n ci)) rfl (by kernel_rfl) (fun _ _ _ h => h) (Or.inl ⟨by rfl, ?_⟩) ⟨by rw [X.box.cell]; rfl, by rw [X.box.cell]; rfl, by rw [X.box.cell]; rfl⟩ ?_
  · intro w hSw; obtain ⟨s1, s2, s3⟩ := hSw; go_simp
  simp only [List.getElem_toArray, List.getElem_cons_zero, List.getElem_cons_succ, Act.put, List.setIfInBounds_toArray, List.set_cons_zero, List.set_cons_succ]
  refine wpAnyT_free (i := 9) (v := (.pointer (some ⟨b, 0, none⟩))) rfl (by kernel_rfl) (fun _ _ _ h => h) (Or.inl ⟨by rfl, ?_⟩) (fun _ => ⟨by rw [X.box.cell]; rfl, by rw [X.box.cell]; rfl, by rw [X.box.cell]; rfl⟩) ?_
  · intro w _; go_simp
  simp only [List.getElem_toArray, List.getElem_cons_zero, List.getElem_cons_succ, Act.put, List.setIfInBounds_toArray, List.set_cons_zero, List.set_cons_succ]
  refine wpAnyT_free (i := 10) (v := (.pointer (some ⟨b, 0, none⟩))) rfl (by kernel_rfl) (fun _ _ _ h => h) (Or.inl ⟨by rfl, ?_⟩) (fun _ => ⟨by rw [X.box.cell]; rfl, by rw [X.box.cell]; rfl, by rw [X.box.cell]; rfl⟩) ?_
  · intro w _; go_simp
  simp only [List.getElem_toArray, List.getElem_cons_zero, List.getElem_cons_succ, Act.put, List.setIfInBounds_toArray, List.set_cons_zero, List.set_cons_succ]
  refine wpAnyT_free (i := 11) (v := (.pointer (some ⟨b, 2, none⟩))) rfl (by kernel_rfl) (fun _ _ _ h => h) (Or.inl ⟨by rfl, ?_⟩) (fun _ => ⟨by rw [X.box.cell]; rfl, by rw [X.box.cell]; rfl, by rw [X.box.cell]; rfl⟩) ?_
  · intro w _; go_simp
  simp only [List.getElem_toArray, List.getElem_cons_zero, List.getElem_cons_succ, Act.put, List.setIfInBounds_toArray, List.set_cons_zero, List.set_cons_succ]
  refine wpAnyT_take (i := 12) (v := (.slice Ag n cg)) rfl (by kernel_rfl) (fun _ _ _ h => h) (Or.inl ⟨by rfl, ?_⟩) ⟨by rw [X.box.cell]; rfl, by rw [X.box.cell]; rfl, by rw [X.box.cell]; rfl⟩ ?_
  · intro w hSw; obtain ⟨s1, s2, s3⟩ := hSw; go_simp
  simp only [List.getElem_toArray, List.getElem_cons_zero, List.getElem_cons_succ, Act.put, List.setIfInBounds_toArray, List.set_cons_zero, List.set_cons_succ]
  refine wpAnyT_free (i := 15) (v := (.pointer (some ⟨b, 0, none⟩))) rfl (by kernel_rfl) (fun _ _ _ h => h) (Or.inl ⟨by rfl, ?_⟩) (fun _ => ⟨by rw [X.box.cell]; rfl, by rw [X.box.cell]; rfl, by rw [X.box.cell]; rfl⟩) ?_
  · intro w _; go_simp
  simp only [List.getElem_toArray, List.getElem_cons_zero, List.getElem_cons_succ, Act.put, List.setIfInBounds_toArray, List.set_cons_zero, List.set_cons_succ]
  refine wpAnyT_free (i := 16) (v := (.pointer (some ⟨b, 0, none⟩))) rfl (by kernel_rfl) (fun _ _ _ h => h) (Or.inl ⟨by rfl, ?_⟩) (fun _ => ⟨by rw [X.box.cell]; rfl, by rw [X.box.cell]; rfl, by rw [X.box.cell]; rfl⟩) ?_
  · intro w _; go_simp
  simp only [List.getElem_toArray, List.getElem_cons_zero, List.getElem_cons_succ, Act.put, List.setIfInBounds_toArray, List.set_cons_zero, List.set_cons_succ]
  refine wpAnyT_free (i := 17) (v := (.pointer (some ⟨b, 3, none⟩))) rfl (by kernel_rfl) (fun _ _ _ h => h) (Or.inl ⟨by rfl, ?_⟩) (fun _ => ⟨by rw [X.box.cell]; rfl, by rw [X.box.cell]; rfl, by rw [X.box.cell]; rfl⟩) ?_
  · intro w _; go_simp
  simp only [List.getElem_toArray, List.getElem_cons_zero, List.getElem_cons_succ, Act.put, List.setIfInBounds_toArray, List.set_cons_zero, List.set_cons_succ]
  refine wpAnyT_take (i := 18) (v := (.slice Av n cv)) rfl (by kernel_rfl) (fun _ _ _ h => h) (Or.inl ⟨by rfl, ?_⟩) ⟨by rw [X.box.cell]; rfl, by rw [X.box.cell]; rfl, by rw [X.box.cell]; rfl⟩ ?_
  · intro w hSw; obtain ⟨s1, s2, s3⟩ := hSw; go_simp
  simp only [List.getElem_toArray, List.getElem_cons_zero, List.getElem_cons_succ, Act.put, List.setIfInBounds_toArray, List.set_cons_zero, List.set_cons_succ]
  refine wpAnyT_free (i := 19) (v := (.string v)) rfl (by kernel_rfl) (fun _ _ _ h => h) (Or.inl ⟨by rfl, ?_⟩) (fun _ => ⟨by rw [X.box.cell]; rfl, by rw [X.box.cell]; rfl, by rw [X.box.cell]; rfl⟩) ?_
  · intro w _; go_simp
  simp only [List.getElem_toArray, List.getElem_cons_zero, List.getElem_cons_succ, Act.put, List.setIfInBounds_toArray, List.set_cons_zero, List.set_cons_succ]
  refine wpAnyT_ready (rs := [7, 13, 20]) (by kernel_rfl) (by simp) ?_
  refine AllT.cons rfl (fun K hK => ?_) (AllT.cons rfl (fun K hK => ?_) (AllT.cons rfl (fun K hK => ?_) (AllT.nil)))
  · have X := X.alloc (.cells #[.bool true] 4) (σ + 1)
    have st := st.alloc (σ + 1) (.cells #[.bool true] 4)
    have t1 := Blk.made o (σ + 1) wA #[.bool true] 4
    have F := Lib.hid (And.intro X (And.intro st t1))
    clear X st t1
    go_simp
    obtain ⟨X, st, t1⟩ := F.out
    clear F
    generalize wA.heap.size = B1 at *
    generalize wA.alloc (.cells #[.bool true] 4) = w1 at *
    generalize tag o B1 (σ + 1) = o1 at *
    refine hK _ _ (fun _ => ⟨by rw [X.box.cell]; rfl, by rw [X.box.cell]; rfl, by rw [X.box.cell]; rfl⟩) ?_
    clear hK K
    try simp only [List.getElem_toArray, List.getElem_cons_zero, List.getElem_cons_succ, Act.put, List.setIfInBounds_toArray, List.set_cons_zero, List.set_cons_succ]
    refine wpAnyT_ready (rs := [8, 13, 20]) (by kernel_rfl) (by simp) ?_
    refine AllT.cons rfl (fun K hK => ?_) (AllT.cons rfl (fun K hK => ?_) (AllT.cons rfl (fun K hK => ?_) (AllT.nil)))
    · have R : w1.ownsRow 0 4 1 (.slice Ai n ci) n xi := by have := X.ri.own; rwa [hxi] at this
      refine step_append_lies _ (by rfl) (.tmp 82) (.tmp 83) 43 (by rfl) 0 4 jb (.bool false) 1 1 Try.underlying43 hjb hb0 hb1 hb2 rfl (by decide) (.slice Ai n ci) n xi (by rfl) R ⟨B1, 0, none⟩ 1 1 [.bool true] (by rfl) rfl (news_blk t1) (one_bool _) (by omega) (by unfold maxLen; omega) (by omega) (Nat.zero_le _) w1.heap.size rfl ?_
      intro g1 d1 w2 hown hgrow hat _
      have hloc : (Value.slice (some ⟨g1, 0, none⟩) (n + 1) d1).ownBlock = ((.slice Ai n ci) : Value).ownBlock ∨ (Value.slice (some ⟨g1, 0, none⟩) (n + 1) d1).ownBlock = some w1.heap.size := hat.imp (fun h => h.symm) (fun h => by rw [h]; rfl)
      have st := st.grown hgrow (fun k hk => .inr (X.ri.mine k hk)) σ
      have X := X.app_i (by rw [hxi]; exact hown) hgrow hloc
      clear t1 R hown hgrow hat hloc
      generalize tag o1 w1.heap.size σ = o2 at *
      refine hK _ _ (fun _ => ⟨by rw [X.box.cell]; rfl, by rw [X.box.cell]; rfl, by rw [X.box.cell]; rfl⟩) ?_
      clear hK K
      try simp only [List.getElem_toArray, List.getElem_cons_zero, List.getElem_cons_succ, Act.put, List.setIfInBounds_toArray, List.set_cons_zero, List.set_cons_succ]
      refine wpAnyT_ready (rs := [13, 20]) (by kernel_rfl) (by simp) ?_
      refine AllT.cons rfl (fun K hK => ?_) (AllT.cons rfl (fun K hK => ?_) (AllT.nil))
      · have X := X.alloc (.cells #[.int .i64 1] 2) (σ + 1)
        have st := st.alloc (σ + 1) (.cells #[.int .i64 1] 2)
        have t2 := Blk.made o2 (σ + 1) w2 #[.int .i64 1] 2
        have F := Lib.hid (And.intro X (And.intro st t2))
        clear X st t2
        go_simp
        obtain ⟨X, st, t2⟩ := F.out
        clear F
        generalize w2.heap.size = B2 at *
        generalize w2.alloc (.cells #[.int .i64 1] 2) = w3 at *
        generalize tag o2 B2 (σ + 1) = o3 at *
        refine hK _ _ (fun _ => ⟨by rw [X.box.cell]; rfl, by rw [X.box.cell]; rfl, by rw [X.box.cell]; rfl⟩) ?_
        clear hK K
        try simp only [List.getElem_toArray, List.getElem_cons_zero, List.getElem_cons_succ, Act.put, List.setIfInBounds_toArray, List.set_cons_zero, List.set_cons_succ]
        refine wpAnyT_ready (rs := [14, 20]) (by kernel_rfl) (by simp) ?_
        refine AllT.cons rfl (fun K hK => ?_) (AllT.cons rfl (fun K hK => ?_) (AllT.nil))
        · have R : w3.ownsRow 0 2 1 (.slice Ag n cg) n xg := by have := X.rg.own; rwa [hxg] at this
          refine step_append_lies _ (by rfl) (.tmp 88) (.tmp 89) 44 (by rfl) 0 2 jg (.int .i64 0) 1 8 Try.underlying44 hjg hg0 hg1 hg2 rfl (by decide) (.slice Ag n cg) n xg (by rfl) R ⟨B2, 0, none⟩ 1 1 [.int .i64 1] (by rfl) rfl (news_blk t2) (one_int _) (by omega) (by unfold maxLen; omega) (by omega) (Nat.zero_le _) w3.heap.size rfl ?_
          intro g2 d2 w4 hown hgrow hat _
          have hloc : (Value.slice (some ⟨g2, 0, none⟩) (n + 1) d2).ownBlock = ((.slice Ag n cg) : Value).ownBlock ∨ (Value.slice (some ⟨g2, 0, none⟩) (n + 1) d2).ownBlock = some w3.heap.size := hat.imp (fun h => h.symm) (fun h => by rw [h]; rfl)
          have st := st.grown hgrow (fun k hk => .inr (X.rg.mine k hk)) σ
          have X := X.app_g (by rw [hxg]; exact hown) hgrow hloc
          clear t2 R hown hgrow hat hloc
          generalize tag o3 w3.heap.size σ = o4 at *
          refine hK _ _ (fun _ => ⟨by rw [X.box.cell]; rfl, by rw [X.box.cell]; rfl, by rw [X.box.cell]; rfl⟩) ?_
          clear hK K
          try simp only [List.getElem_toArray, List.getElem_cons_zero, List.getElem_cons_succ, Act.put, List.setIfInBounds_toArray, List.set_cons_zero, List.set_cons_succ]
          refine wpAnyT_ready (rs := [20]) (by kernel_rfl) (by simp) ?_
          refine AllT.cons rfl (fun K hK => ?_) (AllT.nil)
          · have X := X.alloc (.cells #[.string v] 9) (σ + 1)
            have st := st.alloc (σ + 1) (.cells #[.string v] 9)
            have t3 := Blk.made o4 (σ + 1) w4 #[.string v] 9
            have F := Lib.hid (And.intro X (And.intro st t3))
            clear X st t3
            go_simp
            obtain ⟨X, st, t3⟩ := F.out
            clear F
            generalize w4.heap.size = B3 at *
            generalize w4.alloc (.cells #[.string v] 9) = w5 at *
            generalize tag o4 B3 (σ + 1) = o5 at *
            refine hK _ _ (fun _ => ⟨by rw [X.box.cell]; rfl, by rw [X.box.cell]; rfl, by rw [X.box.cell]; rfl⟩) ?_
            clear hK K
            try simp only [List.getElem_toArray, List.getElem_cons_zero, List.getElem_cons_succ, Act.put, List.setIfInBounds_toArray, List.set_cons_zero, List.set_cons_succ]
            refine wpAnyT_ready (rs := [21]) (by kernel_rfl) (by simp) ?_
            refine AllT.cons rfl (fun K hK => ?_) (AllT.nil)
            · have R : w5.ownsRow 0 9 1 (.slice Av n cv) n xv := by have := X.rv.own; rwa [hxv] at this
              refine step_append_lies _ (by rfl) (.tmp 94) (.tmp 96) 45 (by rfl) 0 9 jv (.string ⟨#[]⟩) 1 16 Try.underlying45 hjv hv0 hv1 hv2 rfl (by decide) (.slice Av n cv) n xv (by rfl) R ⟨B3, 0, none⟩ 1 1 [.string v] (by rfl) rfl (news_blk t3) (one_str _) (by omega) (by unfold maxLen; omega) (by omega) (Nat.zero_le _) w5.heap.size rfl ?_
              intro g3 d3 w6 hown hgrow hat _
              have hloc : (Value.slice (some ⟨g3, 0, none⟩) (n + 1) d3).ownBlock = ((.slice Av n cv) : Value).ownBlock ∨ (Value.slice (some ⟨g3, 0, none⟩) (n + 1) d3).ownBlock = some w5.heap.size := hat.imp (fun h => h.symm) (fun h => by rw [h]; rfl)
              have st := st.grown hgrow (fun k hk => .inr (X.rv.mine k hk)) σ
              have X := X.app_v (by rw [hxv]; exact hown) hgrow hloc
              clear t3 R hown hgrow hat hloc
              generalize tag o5 w5.heap.size σ = o6 at *
              refine hK _ _ (fun _ => ⟨by rw [X.box.cell]; rfl, by rw [X.box.cell]; rfl, by rw [X.box.cell]; rfl⟩) ?_
              clear hK K
              try simp only [List.getElem_toArray, List.getElem_cons_zero, List.getElem_cons_succ, Act.put, List.setIfInBounds_toArray, List.set_cons_zero, List.set_cons_succ]
              refine wpAnyT_free (i := 22) (v := (.pointer (some ⟨b, 0, none⟩))) rfl (by kernel_rfl) (fun _ _ _ h => h) (Or.inl ⟨by rfl, ?_⟩) (fun _ => ⟨by rw [X.box.cell]; rfl, by rw [X.box.cell]; rfl, by rw [X.box.cell]; rfl⟩) ?_
              · intro w _; go_simp
              simp only [List.getElem_toArray, List.getElem_cons_zero, List.getElem_cons_succ, Act.put, List.setIfInBounds_toArray, List.set_cons_zero, List.set_cons_succ]
              refine wpAnyT_free (i := 23) (v := (.pointer (some ⟨b, 1, none⟩))) rfl (by kernel_rfl) (fun _ _ _ h => h) (Or.inl ⟨by rfl, ?_⟩) (fun _ => ⟨by rw [X.box.cell]; rfl, by rw [X.box.cell]; rfl, by rw [X.box.cell]; rfl⟩) ?_
              · intro w _; go_simp
              simp only [List.getElem_toArray, List.getElem_cons_zero, List.getElem_cons_succ, Act.put, List.setIfInBounds_toArray, List.set_cons_zero, List.set_cons_succ]
              refine wpAnyT_ready (rs := [24]) (by kernel_rfl) (by simp) ?_
              refine AllT.cons rfl (fun K hK => ?_) AllT.nil
              have z1 : ∃ u, w6.cell? ⟨b, 1, none⟩ = some u := ⟨_, by rw [X.box.cell]; rfl⟩
              obtain ⟨u1, z1⟩ := z1
              have y1 : w6.frozen? ⟨b, 1, none⟩ = false := X.box.frozen 1
              have st := st.setCell (p := ⟨b, 1, none⟩) (.inr X.box.mine) (.slice (some ⟨g1, 0, none⟩) (n + 1) d1)
              have X := X.set1 (.slice (some ⟨g1, 0, none⟩) (n + 1) d1)
              have G := Lib.hid (And.intro X st)
              clear X st
              go_simp
              obtain ⟨X, st⟩ := G.out
              clear G z1 y1
              generalize w6.setCell ⟨b, 1, none⟩ (.slice (some ⟨g1, 0, none⟩) (n + 1) d1) = w7 at *
              refine hK _ _ (fun h => absurd (h.symm.trans (by kernel_rfl)) Bool.false_ne_true) ?_
              clear hK K
              try simp only [List.getElem_toArray, List.getElem_cons_zero, List.getElem_cons_succ, Act.put, List.setIfInBounds_toArray, List.set_cons_zero, List.set_cons_succ]
              refine wpAnyT_free (i := 25) (v := (.pointer (some ⟨b, 0, none⟩))) rfl (by kernel_rfl) (fun _ _ _ h => h) (Or.inl ⟨by rfl, ?_⟩) (fun h => absurd (h.symm.trans (by kernel_rfl)) Bool.false_ne_true) ?_
              · intro w _; go_simp
              simp only [List.getElem_toArray, List.getElem_cons_zero, List.getElem_cons_succ, Act.put, List.setIfInBounds_toArray, List.set_cons_zero, List.set_cons_succ]
              refine wpAnyT_free (i := 26) (v := (.pointer (some ⟨b, 2, none⟩))) rfl (by kernel_rfl) (fun _ _ _ h => h) (Or.inl ⟨by rfl, ?_⟩) (fun h => absurd (h.symm.trans (by kernel_rfl)) Bool.false_ne_true) ?_
              · intro w _; go_simp
              simp only [List.getElem_toArray, List.getElem_cons_zero, List.getElem_cons_succ, Act.put, List.setIfInBounds_toArray, List.set_cons_zero, List.set_cons_succ]
              refine wpAnyT_ready (rs := [27]) (by kernel_rfl) (by simp) ?_
              refine AllT.cons rfl (fun K hK => ?_) AllT.nil
              have z2 : ∃ u, w7.cell? ⟨b, 2, none⟩ = some u := ⟨_, by rw [X.box.cell]; rfl⟩
              obtain ⟨u2, z2⟩ := z2
              have y2 : w7.frozen? ⟨b, 2, none⟩ = false := X.box.frozen 2
              have st := st.setCell (p := ⟨b, 2, none⟩) (.inr X.box.mine) (.slice (some ⟨g2, 0, none⟩) (n + 1) d2)
              have X := X.set2 (.slice (some ⟨g2, 0, none⟩) (n + 1) d2)
              have G := Lib.hid (And.intro X st)
              clear X st
              go_simp
              obtain ⟨X, st⟩ := G.out
              clear G z2 y2
              generalize w7.setCell ⟨b, 2, none⟩ (.slice (some ⟨g2, 0, none⟩) (n + 1) d2) = w8 at *
              refine hK _ _ (fun h => absurd (h.symm.trans (by kernel_rfl)) Bool.false_ne_true) ?_
              clear hK K
              try simp only [List.getElem_toArray, List.getElem_cons_zero, List.getElem_cons_succ, Act.put, List.setIfInBounds_toArray, List.set_cons_zero, List.set_cons_succ]
              refine wpAnyT_free (i := 28) (v := (.pointer (some ⟨b, 0, none⟩))) rfl (by kernel_rfl) (fun _ _ _ h => h) (Or.inl ⟨by rfl, ?_⟩) (fun h => absurd (h.symm.trans (by kernel_rfl)) Bool.false_ne_true) ?_
              · intro w _; go_simp
              simp only [List.getElem_toArray, List.getElem_cons_zero, List.getElem_cons_succ, Act.put, List.setIfInBounds_toArray, List.set_cons_zero, List.set_cons_succ]
              refine wpAnyT_free (i := 29) (v := (.pointer (some ⟨b, 3, none⟩))) rfl (by kernel_rfl) (fun _ _ _ h => h) (Or.inl ⟨by rfl, ?_⟩) (fun h => absurd (h.symm.trans (by kernel_rfl)) Bool.false_ne_true) ?_
              · intro w _; go_simp
              simp only [List.getElem_toArray, List.getElem_cons_zero, List.getElem_cons_succ, Act.put, List.setIfInBounds_toArray, List.set_cons_zero, List.set_cons_succ]
              refine wpAnyT_ready (rs := [30]) (by kernel_rfl) (by simp) ?_
              refine AllT.cons rfl (fun K hK => ?_) AllT.nil
              have z3 : ∃ u, w8.cell? ⟨b, 3, none⟩ = some u := ⟨_, by rw [X.box.cell]; rfl⟩
              obtain ⟨u3, z3⟩ := z3
              have y3 : w8.frozen? ⟨b, 3, none⟩ = false := X.box.frozen 3
              have st := st.setCell (p := ⟨b, 3, none⟩) (.inr X.box.mine) (.slice (some ⟨g3, 0, none⟩) (n + 1) d3)
              have X := X.set3 (.slice (some ⟨g3, 0, none⟩) (n + 1) d3)
              have G := Lib.hid (And.intro X st)
              clear X st
              go_simp
              obtain ⟨X, st⟩ := G.out
              clear G z3 y3
              generalize w8.setCell ⟨b, 3, none⟩ (.slice (some ⟨g3, 0, none⟩) (n + 1) d3) = w9 at *
              refine hK _ _ (fun h => absurd (h.symm.trans (by kernel_rfl)) Bool.false_ne_true) ?_
              clear hK K
              try simp only [List.getElem_toArray, List.getElem_cons_zero, List.getElem_cons_succ, Act.put, List.setIfInBounds_toArray, List.set_cons_zero, List.set_cons_succ]
              refine wpAnyT_done (by kernel_rfl) ?_ _
              have z3 : w9.cell? ⟨b, 3, none⟩ = some (.slice (some ⟨g3, 0, none⟩) (n + 1) d3) := by rw [X.box.cell]; rfl
              have G := Lib.hid (And.intro X st)
              clear X st
              go_wp2
              go_ret3
              exact ⟨by simp, _, _, _, _, _, G.out.2, rput_shut hn.out HX.out G.out.1⟩
        · have X := X.alloc (.cells #[.string v] 9) (σ + 1)
          have st := st.alloc (σ + 1) (.cells #[.string v] 9)
          have t2 := t2.alloc (.cells #[.string v] 9) (σ + 1)
          have t3 := Blk.made o3 (σ + 1) w3 #[.string v] 9
          have F := Lib.hid (And.intro X (And.intro st (And.intro t2 t3)))
          clear X st t2 t3
          go_simp
          obtain ⟨X, st, t2, t3⟩ := F.out
          clear F
          generalize w3.heap.size = B3 at *
          generalize w3.alloc (.cells #[.string v] 9) = w10 at *
          generalize tag o3 B3 (σ + 1) = o10 at *
          refine hK _ _ (fun _ => ⟨by rw [X.box.cell]; rfl, by rw [X.box.cell]; rfl, by rw [X.box.cell]; rfl⟩) ?_
          clear hK K
          try simp only [List.getElem_toArray, List.getElem_cons_zero, List.getElem_cons_succ, Act.put, List.setIfInBounds_toArray, List.set_cons_zero, List.set_cons_succ]
          refine wpAnyT_ready (rs := [14]) (by kernel_rfl) (by simp) ?_
          refine AllT.cons rfl (fun K hK => ?_) (AllT.nil)
          · have R : w10.ownsRow 0 2 1 (.slice Ag n cg) n xg := by have := X.rg.own; rwa [hxg] at this
            refine step_append_lies _ (by rfl) (.tmp 88) (.tmp 89) 44 (by rfl) 0 2 jg (.int .i64 0) 1 8 Try.underlying44 hjg hg0 hg1 hg2 rfl (by decide) (.slice Ag n cg) n xg (by rfl) R ⟨B2, 0, none⟩ 1 1 [.int .i64 1] (by rfl) rfl (news_blk t2) (one_int _) (by omega) (by unfold maxLen; omega) (by omega) (Nat.zero_le _) w10.heap.size rfl ?_
            intro g2 d2 w11 hown hgrow hat _
            have hloc : (Value.slice (some ⟨g2, 0, none⟩) (n + 1) d2).ownBlock = ((.slice Ag n cg) : Value).ownBlock ∨ (Value.slice (some ⟨g2, 0, none⟩) (n + 1) d2).ownBlock = some w10.heap.size := hat.imp (fun h => h.symm) (fun h => by rw [h]; rfl)
            have t3 := t3.grown hgrow (fun e => by have q1 := X.rg.mine _ e; have q2 := t3.mine; omega) σ
            have st := st.grown hgrow (fun k hk => .inr (X.rg.mine k hk)) σ
            have X := X.app_g (by rw [hxg]; exact hown) hgrow hloc
            clear t2 R hown hgrow hat hloc
            generalize tag o10 w10.heap.size σ = o11 at *
            refine hK _ _ (fun _ => ⟨by rw [X.box.cell]; rfl, by rw [X.box.cell]; rfl, by rw [X.box.cell]; rfl⟩) ?_
            clear hK K
            try simp only [List.getElem_toArray, List.getElem_cons_zero, List.getElem_cons_succ, Act.put, List.setIfInBounds_toArray, List.set_cons_zero, List.set_cons_succ]
            refine wpAnyT_ready (rs := [21]) (by kernel_rfl) (by simp) ?_
            refine AllT.cons rfl (fun K hK => ?_) (AllT.nil)
            · have R : w11.ownsRow 0 9 1 (.slice Av n cv) n xv := by have := X.rv.own; rwa [hxv] at this
              refine step_append_lies _ (by rfl) (.tmp 94) (.tmp 96) 45 (by rfl) 0 9 jv (.string ⟨#[]⟩) 1 16 Try.underlying45 hjv hv0 hv1 hv2 rfl (by decide) (.slice Av n cv) n xv (by rfl) R ⟨B3, 0, none⟩ 1 1 [.string v] (by rfl) rfl (news_blk t3) (one_str _) (by omega) (by unfold maxLen; omega) (by omega) (Nat.zero_le _) w11.heap.size rfl ?_
              intro g3 d3 w12 hown hgrow hat _
              have hloc : (Value.slice (some ⟨g3, 0, none⟩) (n + 1) d3).ownBlock = ((.slice Av n cv) : Value).ownBlock ∨ (Value.slice (some ⟨g3, 0, none⟩) (n + 1) d3).ownBlock = some w11.heap.size := hat.imp (fun h => h.symm) (fun h => by rw [h]; rfl)
              have st := st.grown hgrow (fun k hk => .inr (X.rv.mine k hk)) σ
              have X := X.app_v (by rw [hxv]; exact hown) hgrow hloc
              clear t3 R hown hgrow hat hloc
              generalize tag o11 w11.heap.size σ = o12 at *
              refine hK _ _ (fun _ => ⟨by rw [X.box.cell]; rfl, by rw [X.box.cell]; rfl, by rw [X.box.cell]; rfl⟩) ?_
              clear hK K
              try simp only [List.getElem_toArray, List.getElem_cons_zero, List.getElem_cons_succ, Act.put, List.setIfInBounds_toArray, List.set_cons_zero, List.set_cons_succ]
              refine wpAnyT_free (i := 22) (v := (.pointer (some ⟨b, 0, none⟩))) rfl (by kernel_rfl) (fun _ _ _ h => h) (Or.inl ⟨by rfl, ?_⟩) (fun _ => ⟨by rw [X.box.cell]; rfl, by rw [X.box.cell]; rfl, by rw [X.box.cell]; rfl⟩) ?_
              · intro w _; go_simp
              simp only [List.getElem_toArray, List.getElem_cons_zero, List.getElem_cons_succ, Act.put, List.setIfInBounds_toArray, List.set_cons_zero, List.set_cons_succ]
              refine wpAnyT_free (i := 23) (v := (.pointer (some ⟨b, 1, none⟩))) rfl (by kernel_rfl) (fun _ _ _ h => h) (Or.inl ⟨by rfl, ?_⟩) (fun _ => ⟨by rw [X.box.cell]; rfl, by rw [X.box.cell]; rfl, by rw [X.box.cell]; rfl⟩) ?_
              · intro w _; go_simp
              simp only [List.getElem_toArray, List.getElem_cons_zero, List.getElem_cons_succ, Act.put, List.setIfInBounds_toArray, List.set_cons_zero, List.set_cons_succ]
              refine wpAnyT_ready (rs := [24]) (by kernel_rfl) (by simp) ?_
              refine AllT.cons rfl (fun K hK => ?_) AllT.nil
              have z1 : ∃ u, w12.cell? ⟨b, 1, none⟩ = some u := ⟨_, by rw [X.box.cell]; rfl⟩
              obtain ⟨u1, z1⟩ := z1
              have y1 : w12.frozen? ⟨b, 1, none⟩ = false := X.box.frozen 1
              have st := st.setCell (p := ⟨b, 1, none⟩) (.inr X.box.mine) (.slice (some ⟨g1, 0, none⟩) (n + 1) d1)
              have X := X.set1 (.slice (some ⟨g1, 0, none⟩) (n + 1) d1)
              have G := Lib.hid (And.intro X st)
              clear X st
              go_simp
              obtain ⟨X, st⟩ := G.out
              clear G z1 y1
              generalize w12.setCell ⟨b, 1, none⟩ (.slice (some ⟨g1, 0, none⟩) (n + 1) d1) = w13 at *
              refine hK _ _ (fun h => absurd (h.symm.trans (by kernel_rfl)) Bool.false_ne_true) ?_
              clear hK K
              try simp only [List.getElem_toArray, List.getElem_cons_zero, List.getElem_cons_succ, Act.put, List.setIfInBounds_toArray, List.set_cons_zero, List.set_cons_succ]
              refine wpAnyT_free (i := 25) (v := (.pointer (some ⟨b, 0, none⟩))) rfl (by kernel_rfl) (fun _ _ _ h => h) (Or.inl ⟨by rfl, ?_⟩) (fun h => absurd (h.symm.trans (by kernel_rfl)) Bool.false_ne_true) ?_
              · intro w _; go_simp
              simp only [List.getElem_toArray, List.getElem_cons_zero, List.getElem_cons_succ, Act.put, List.setIfInBounds_toArray, List.set_cons_zero, List.set_cons_succ]
              refine wpAnyT_free (i := 26) (v := (.pointer (some ⟨b, 2, none⟩))) rfl (by kernel_rfl) (fun _ _ _ h => h) (Or.inl ⟨by rfl, ?_⟩) (fun h => absurd (h.symm.trans (by kernel_rfl)) Bool.false_ne_true) ?_
              · intro w _; go_simp
              simp only [List.getElem_toArray, List.getElem_cons_zero, List.getElem_cons_succ, Act.put, List.setIfInBounds_toArray, List.set_cons_zero, List.set_cons_succ]
              refine wpAnyT_ready (rs := [27]) (by kernel_rfl) (by simp) ?_
              refine AllT.cons rfl (fun K hK => ?_) AllT.nil
              have z2 : ∃ u, w13.cell? ⟨b, 2, none⟩ = some u := ⟨_, by rw [X.box.cell]; rfl⟩
              obtain ⟨u2, z2⟩ := z2
              have y2 : w13.frozen? ⟨b, 2, none⟩ = false := X.box.frozen 2
              have st := st.setCell (p := ⟨b, 2, none⟩) (.inr X.box.mine) (.slice (some ⟨g2, 0, none⟩) (n + 1) d2)
              have X := X.set2 (.slice (some ⟨g2, 0, none⟩) (n + 1) d2)
              have G := Lib.hid (And.intro X st)
              clear X st
              go_simp
              obtain ⟨X, st⟩ := G.out
              clear G z2 y2
              generalize w13.setCell ⟨b, 2, none⟩ (.slice (some ⟨g2, 0, none⟩) (n + 1) d2) = w14 at *
              refine hK _ _ (fun h => absurd (h.symm.trans (by kernel_rfl)) Bool.false_ne_true) ?_
              clear hK K
              try simp only [List.getElem_toArray, List.getElem_cons_zero, List.getElem_cons_succ, Act.put, List.setIfInBounds_toArray, List.set_cons_zero, List.set_cons_succ]
              refine wpAnyT_free (i := 28) (v := (.pointer (some ⟨b, 0, none⟩))) rfl (by kernel_rfl) (fun _ _ _ h => h) (Or.inl ⟨by rfl, ?_⟩) (fun h => absurd (h.symm.trans (by kernel_rfl)) Bool.false_ne_true) ?_
              · intro w _; go_simp
              simp only [List.getElem_toArray, List.getElem_cons_zero, List.getElem_cons_succ, Act.put, List.setIfInBounds_toArray, List.set_cons_zero, List.set_cons_succ]
              refine wpAnyT_free (i := 29) (v := (.pointer (some ⟨b, 3, none⟩))) rfl (by kernel_rfl) (fun _ _ _ h => h) (Or.inl ⟨by rfl, ?_⟩) (fun h => absurd (h.symm.trans (by kernel_rfl)) Bool.false_ne_true) ?_
              · intro w _; go_simp
              simp only [List.getElem_toArray, List.getElem_cons_zero, List.getElem_cons_succ, Act.put, List.setIfInBounds_toArray, List.set_cons_zero, List.set_cons_succ]
              refine wpAnyT_ready (rs := [30]) (by kernel_rfl) (by simp) ?_
              refine AllT.cons rfl (fun K hK => ?_) AllT.nil
              have z3 : ∃ u, w14.cell? ⟨b, 3, none⟩ = some u := ⟨_, by rw [X.box.cell]; rfl⟩
              obtain ⟨u3, z3⟩ := z3
              have y3 : w14.frozen? ⟨b, 3, none⟩ = false := X.box.frozen 3
              have st := st.setCell (p := ⟨b, 3, none⟩) (.inr X.box.mine) (.slice (some ⟨g3, 0, none⟩) (n + 1) d3)
              have X := X.set3 (.slice (some ⟨g3, 0, none⟩) (n + 1) d3)
              have G := Lib.hid (And.intro X st)
              clear X st
              go_simp
              obtain ⟨X, st⟩ := G.out
              clear G z3 y3
              generalize w14.setCell ⟨b, 3, none⟩ (.slice (some ⟨g3, 0, none⟩) (n + 1) d3) = w15 at *
              refine hK _ _ (fun h => absurd (h.symm.trans (by kernel_rfl)) Bool.false_ne_true) ?_
              clear hK K
              try simp only [List.getElem_toArray, List.getElem_cons_zero, List.getElem_cons_succ, Act.put, List.setIfInBounds_toArray, List.set_cons_zero, List.set_cons_succ]
              refine wpAnyT_done (by kernel_rfl) ?_ _
              have z3 : w15.cell? ⟨b, 3, none⟩ = some (.slice (some ⟨g3, 0, none⟩) (n + 1) d3) := by rw [X.box.cell]; rfl
              have G := Lib.hid (And.intro X st)
              clear X st
              go_wp2
              go_ret3
              exact ⟨by simp, _, _, _, _, _, G.out.2, rput_shut hn.out HX.out G.out.1⟩
      · have X := X.alloc (.cells #[.string v] 9) (σ + 1)
        have st := st.alloc (σ + 1) (.cells #[.string v] 9)
        have t3 := Blk.made o2 (σ + 1) w2 #[.string v] 9
        have F := Lib.hid (And.intro X (And.intro st t3))
        clear X st t3
        go_simp
        obtain ⟨X, st, t3⟩ := F.out
        clear F
        generalize w2.heap.size = B3 at *
        generalize w2.alloc (.cells #[.string v] 9) = w16 at *
        generalize tag o2 B3 (σ + 1) = o16 at *
        refine hK _ _ (fun _ => ⟨by rw [X.box.cell]; rfl, by rw [X.box.cell]; rfl, by rw [X.box.cell]; rfl⟩) ?_
        clear hK K
        try simp only [List.getElem_toArray, List.getElem_cons_zero, List.getElem_cons_succ, Act.put, List.setIfInBounds_toArray, List.set_cons_zero, List.set_cons_succ]
        refine wpAnyT_ready (rs := [13]) (by kernel_rfl) (by simp) ?_
        refine AllT.cons rfl (fun K hK => ?_) (AllT.nil)
        · have X := X.alloc (.cells #[.int .i64 1] 2) (σ + 1)
          have st := st.alloc (σ + 1) (.cells #[.int .i64 1] 2)
          have t3 := t3.alloc (.cells #[.int .i64 1] 2) (σ + 1)
          have t2 := Blk.made o16 (σ + 1) w16 #[.int .i64 1] 2
          have F := Lib.hid (And.intro X (And.intro st (And.intro t3 t2)))
          clear X st t3 t2
          go_simp
          obtain ⟨X, st, t3, t2⟩ := F.out
          clear F
          generalize w16.heap.size = B2 at *
          generalize w16.alloc (.cells #[.int .i64 1] 2) = w17 at *
          generalize tag o16 B2 (σ + 1) = o17 at *
          refine hK _ _ (fun _ => ⟨by rw [X.box.cell]; rfl, by rw [X.box.cell]; rfl, by rw [X.box.cell]; rfl⟩) ?_
          clear hK K
          try simp only [List.getElem_toArray, List.getElem_cons_zero, List.getElem_cons_succ, Act.put, List.setIfInBounds_toArray, List.set_cons_zero, List.set_cons_succ]
          refine wpAnyT_ready (rs := [14]) (by kernel_rfl) (by simp) ?_
          refine AllT.cons rfl (fun K hK => ?_) (AllT.nil)
          · have R : w17.ownsRow 0 2 1 (.slice Ag n cg) n xg := by have := X.rg.own; rwa [hxg] at this
            refine step_append_lies _ (by rfl) (.tmp 88) (.tmp 89) 44 (by rfl) 0 2 jg (.int .i64 0) 1 8 Try.underlying44 hjg hg0 hg1 hg2 rfl (by decide) (.slice Ag n cg) n xg (by rfl) R ⟨B2, 0, none⟩ 1 1 [.int .i64 1] (by rfl) rfl (news_blk t2) (one_int _) (by omega) (by unfold maxLen; omega) (by omega) (Nat.zero_le _) w17.heap.size rfl ?_
            intro g2 d2 w18 hown hgrow hat _
            have hloc : (Value.slice (some ⟨g2, 0, none⟩) (n + 1) d2).ownBlock = ((.slice Ag n cg) : Value).ownBlock ∨ (Value.slice (some ⟨g2, 0, none⟩) (n + 1) d2).ownBlock = some w17.heap.size := hat.imp (fun h => h.symm) (fun h => by rw [h]; rfl)
            have t3 := t3.grown hgrow (fun e => by have q1 := X.rg.mine _ e; have q2 := t3.mine; omega) σ
            have st := st.grown hgrow (fun k hk => .inr (X.rg.mine k hk)) σ
            have X := X.app_g (by rw [hxg]; exact hown) hgrow hloc
            clear t2 R hown hgrow hat hloc
            generalize tag o17 w17.heap.size σ = o18 at *
            refine hK _ _ (fun _ => ⟨by rw [X.box.cell]; rfl, by rw [X.box.cell]; rfl, by rw [X.box.cell]; rfl⟩) ?_
            clear hK K
            try simp only [List.getElem_toArray, List.getElem_cons_zero, List.getElem_cons_succ, Act.put, List.setIfInBounds_toArray, List.set_cons_zero, List.set_cons_succ]
            refine wpAnyT_ready (rs := [21]) (by kernel_rfl) (by simp) ?_
            refine AllT.cons rfl (fun K hK => ?_) (AllT.nil)
            · have R : w18.ownsRow 0 9 1 (.slice Av n cv) n xv := by have := X.rv.own; rwa [hxv] at this
              refine step_append_lies _ (by rfl) (.tmp 94) (.tmp 96) 45 (by rfl) 0 9 jv (.string ⟨#[]⟩) 1 16 Try.underlying45 hjv hv0 hv1 hv2 rfl (by decide) (.slice Av n cv) n xv (by rfl) R ⟨B3, 0, none⟩ 1 1 [.string v] (by rfl) rfl (news_blk t3) (one_str _) (by omega) (by unfold maxLen; omega) (by omega) (Nat.zero_le _) w18.heap.size rfl ?_
              intro g3 d3 w19 hown hgrow hat _
              have hloc : (Value.slice (some ⟨g3, 0, none⟩) (n + 1) d3).ownBlock = ((.slice Av n cv) : Value).ownBlock ∨ (Value.slice (some ⟨g3, 0, none⟩) (n + 1) d3).ownBlock = some w18.heap.size := hat.imp (fun h => h.symm) (fun h => by rw [h]; rfl)
              have st := st.grown hgrow (fun k hk => .inr (X.rv.mine k hk)) σ
              have X := X.app_v (by rw [hxv]; exact hown) hgrow hloc
              clear t3 R hown hgrow hat hloc
              generalize tag o18 w18.heap.size σ = o19 at *
              refine hK _ _ (fun _ => ⟨by rw [X.box.cell]; rfl, by rw [X.box.cell]; rfl, by rw [X.box.cell]; rfl⟩) ?_
              clear hK K
              try simp only [List.getElem_toArray, List.getElem_cons_zero, List.getElem_cons_succ, Act.put, List.setIfInBounds_toArray, List.set_cons_zero, List.set_cons_succ]
              refine wpAnyT_free (i := 22) (v := (.pointer (some ⟨b, 0, none⟩))) rfl (by kernel_rfl) (fun _ _ _ h => h) (Or.inl ⟨by rfl, ?_⟩) (fun _ => ⟨by rw [X.box.cell]; rfl, by rw [X.box.cell]; rfl, by rw [X.box.cell]; rfl⟩) ?_
              · intro w _; go_simp
              simp only [List.getElem_toArray, List.getElem_cons_zero, List.getElem_cons_succ, Act.put, List.setIfInBounds_toArray, List.set_cons_zero, List.set_cons_succ]
              refine wpAnyT_free (i := 23) (v := (.pointer (some ⟨b, 1, none⟩))) rfl (by kernel_rfl) (fun _ _ _ h => h) (Or.inl ⟨by rfl, ?_⟩) (fun _ => ⟨by rw [X.box.cell]; rfl, by rw [X.box.cell]; rfl, by rw [X.box.cell]; rfl⟩) ?_
              · intro w _; go_simp
              simp only [List.getElem_toArray, List.getElem_cons_zero, List.getElem_cons_succ, Act.put, List.setIfInBounds_toArray, List.set_cons_zero, List.set_cons_succ]
              refine wpAnyT_ready (rs := [24]) (by kernel_rfl) (by simp) ?_
              refine AllT.cons rfl (fun K hK => ?_) AllT.nil
              have z1 : ∃ u, w19.cell? ⟨b, 1, none⟩ = some u := ⟨_, by rw [X.box.cell]; rfl⟩
              obtain ⟨u1, z1⟩ := z1
              have y1 : w19.frozen? ⟨b, 1, none⟩ = false := X.box.frozen 1
              have st := st.setCell (p := ⟨b, 1, none⟩) (.inr X.box.mine) (.slice (some ⟨g1, 0, none⟩) (n + 1) d1)
              have X := X.set1 (.slice (some ⟨g1, 0, none⟩) (n + 1) d1)
              have G := Lib.hid (And.intro X st)
              clear X st
              go_simp
              obtain ⟨X, st⟩ := G.out
              clear G z1 y1
              generalize w19.setCell ⟨b, 1, none⟩ (.slice (some ⟨g1, 0, none⟩) (n + 1) d1) = w20 at *
              refine hK _ _ (fun h => absurd (h.symm.trans (by kernel_rfl)) Bool.false_ne_true) ?_
              clear hK K
              try simp only [List.getElem_toArray, List.getElem_cons_zero, List.getElem_cons_succ, Act.put, List.setIfInBounds_toArray, List.set_cons_zero, List.set_cons_succ]
              refine wpAnyT_free (i := 25) (v := (.pointer (some ⟨b, 0, none⟩))) rfl (by kernel_rfl) (fun _ _ _ h => h) (Or.inl ⟨by rfl, ?_⟩) (fun h => absurd (h.symm.trans (by kernel_rfl)) Bool.false_ne_true) ?_
              · intro w _; go_simp
              simp only [List.getElem_toArray, List.getElem_cons_zero, List.getElem_cons_succ, Act.put, List.setIfInBounds_toArray, List.set_cons_zero, List.set_cons_succ]
              refine wpAnyT_free (i := 26) (v := (.pointer (some ⟨b, 2, none⟩))) rfl (by kernel_rfl) (fun _ _ _ h => h) (Or.inl ⟨by rfl, ?_⟩) (fun h => absurd (h.symm.trans (by kernel_rfl)) Bool.false_ne_true) ?_
              · intro w _; go_simp
              simp only [List.getElem_toArray, List.getElem_cons_zero, List.getElem_cons_succ, Act.put, List.setIfInBounds_toArray, List.set_cons_zero, List.set_cons_succ]
              refine wpAnyT_ready (rs := [27]) (by kernel_rfl) (by simp) ?_
              refine AllT.cons rfl (fun K hK => ?_) AllT.nil
              have z2 : ∃ u, w20.cell? ⟨b, 2, none⟩ = some u := ⟨_, by rw [X.box.cell]; rfl⟩
              obtain ⟨u2, z2⟩ := z2
              have y2 : w20.frozen? ⟨b, 2, none⟩ = false := X.box.frozen 2
              have st := st.setCell (p := ⟨b, 2, none⟩) (.inr X.box.mine) (.slice (some ⟨g2, 0, none⟩) (n + 1) d2)
              have X := X.set2 (.slice (some ⟨g2, 0, none⟩) (n + 1) d2)
              have G := Lib.hid (And.intro X st)
              clear X st
              go_simp
              obtain ⟨X, st⟩ := G.out
              clear G z2 y2
              generalize w20.setCell ⟨b, 2, none⟩ (.slice (some ⟨g2, 0, none⟩) (n + 1) d2) = w21 at *
              refine hK _ _ (fun h => absurd (h.symm.trans (by kernel_rfl)) Bool.false_ne_true) ?_
              clear hK K
              try simp only [List.getElem_toArray, List.getElem_cons_zero, List.getElem_cons_succ, Act.put, List.setIfInBounds_toArray, List.set_cons_zero, List.set_cons_succ]
              refine wpAnyT_free (i := 28) (v := (.pointer (some ⟨b, 0, none⟩))) rfl (by kernel_rfl) (fun _ _ _ h => h) (Or.inl ⟨by rfl, ?_⟩) (fun h => absurd (h.symm.trans (by kernel_rfl)) Bool.false_ne_true) ?_
              · intro w _; go_simp
              simp only [List.getElem_toArray, List.getElem_cons_zero, List.getElem_cons_succ, Act.put, List.setIfInBounds_toArray, List.set_cons_zero, List.set_cons_succ]
              refine wpAnyT_free (i := 29) (v := (.pointer (some ⟨b, 3, none⟩))) rfl (by kernel_rfl) (fun _ _ _ h => h) (Or.inl ⟨by rfl, ?_⟩) (fun h => absurd (h.symm.trans (by kernel_rfl)) Bool.false_ne_true) ?_
              · intro w _; go_simp
              simp only [List.getElem_toArray, List.getElem_cons_zero, List.getElem_cons_succ, Act.put, List.setIfInBounds_toArray, List.set_cons_zero, List.set_cons_succ]
              refine wpAnyT_ready (rs := [30]) (by kernel_rfl) (by simp) ?_
              refine AllT.cons rfl (fun K hK => ?_) AllT.nil
              have z3 : ∃ u, w21.cell? ⟨b, 3, none⟩ = some u := ⟨_, by rw [X.box.cell]; rfl⟩
              obtain ⟨u3, z3⟩ := z3
              have y3 : w21.frozen? ⟨b, 3, none⟩ = false := X.box.frozen 3
              have st := st.setCell (p := ⟨b, 3, none⟩) (.inr X.box.mine) (.slice (some ⟨g3, 0, none⟩) (n + 1) d3)
              have X := X.set3 (.slice (some ⟨g3, 0, none⟩) (n + 1) d3)
              have G := Lib.hid (And.intro X st)
              clear X st
              go_simp
              obtain ⟨X, st⟩ := G.out
              clear G z3 y3
              generalize w21.setCell ⟨b, 3, none⟩ (.slice (some ⟨g3, 0, none⟩) (n + 1) d3) = w22 at *
              refine hK _ _ (fun h => absurd (h.symm.trans (by kernel_rfl)) Bool.false_ne_true) ?_
              clear hK K
              try simp only [List.getElem_toArray, List.getElem_cons_zero, List.getElem_cons_succ, Act.put, List.setIfInBounds_toArray, List.set_cons_zero, List.set_cons_succ]
              refine wpAnyT_done (by kernel_rfl) ?_ _
              have z3 : w22.cell? ⟨b, 3, none⟩ = some (.slice (some ⟨g3, 0, none⟩) (n + 1) d3) := by rw [X.box.cell]; rfl
              have G := Lib.hid (And.intro X st)
              clear X st
              go_wp2
              go_ret3
              exact ⟨by simp, _, _, _, _, _, G.out.2, rput_shut hn.out HX.out G.out.1⟩
    · have X := X.alloc (.cells #[.int .i64 1] 2) (σ + 1)
      have st := st.alloc (σ + 1) (.cells #[.int .i64 1] 2)
      have t1 := t1.alloc (.cells #[.int .i64 1] 2) (σ + 1)
      have t2 := Blk.made o1 (σ + 1) w1 #[.int .i64 1] 2
      have F := Lib.hid (And.intro X (And.intro st (And.intro t1 t2)))
      clear X st t1 t2
      go_simp
      obtain ⟨X, st, t1, t2⟩ := F.out
      clear F
      generalize w1.heap.size = B2 at *
      generalize w1.alloc (.cells #[.int .i64 1] 2) = w23 at *
      generalize tag o1 B2 (σ + 1) = o23 at *
      refine hK _ _ (fun _ => ⟨by rw [X.box.cell]; rfl, by rw [X.box.cell]; rfl, by rw [X.box.cell]; rfl⟩) ?_
      clear hK K
      try simp only [List.getElem_toArray, List.getElem_cons_zero, List.getElem_cons_succ, Act.put, List.setIfInBounds_toArray, List.set_cons_zero, List.set_cons_succ]
      refine wpAnyT_ready (rs := [8, 20]) (by kernel_rfl) (by simp) ?_
      refine AllT.cons rfl (fun K hK => ?_) (AllT.cons rfl (fun K hK => ?_) (AllT.nil))
      · have R : w23.ownsRow 0 4 1 (.slice Ai n ci) n xi := by have := X.ri.own; rwa [hxi] at this
        refine step_append_lies _ (by rfl) (.tmp 82) (.tmp 83) 43 (by rfl) 0 4 jb (.bool false) 1 1 Try.underlying43 hjb hb0 hb1 hb2 rfl (by decide) (.slice Ai n ci) n xi (by rfl) R ⟨B1, 0, none⟩ 1 1 [.bool true] (by rfl) rfl (news_blk t1) (one_bool _) (by omega) (by unfold maxLen; omega) (by omega) (Nat.zero_le _) w23.heap.size rfl ?_
        intro g1 d1 w24 hown hgrow hat _
        have hloc : (Value.slice (some ⟨g1, 0, none⟩) (n + 1) d1).ownBlock = ((.slice Ai n ci) : Value).ownBlock ∨ (Value.slice (some ⟨g1, 0, none⟩) (n + 1) d1).ownBlock = some w23.heap.size := hat.imp (fun h => h.symm) (fun h => by rw [h]; rfl)
        have t2 := t2.grown hgrow (fun e => by have q1 := X.ri.mine _ e; have q2 := t2.mine; omega) σ
        have st := st.grown hgrow (fun k hk => .inr (X.ri.mine k hk)) σ
        have X := X.app_i (by rw [hxi]; exact hown) hgrow hloc
        clear t1 R hown hgrow hat hloc
        generalize tag o23 w23.heap.size σ = o24 at *
        refine hK _ _ (fun _ => ⟨by rw [X.box.cell]; rfl, by rw [X.box.cell]; rfl, by rw [X.box.cell]; rfl⟩) ?_
        clear hK K
        try simp only [List.getElem_toArray, List.getElem_cons_zero, List.getElem_cons_succ, Act.put, List.setIfInBounds_toArray, List.set_cons_zero, List.set_cons_succ]
        refine wpAnyT_ready (rs := [14, 20]) (by kernel_rfl) (by simp) ?_
        refine AllT.cons rfl (fun K hK => ?_) (AllT.cons rfl (fun K hK => ?_) (AllT.nil))
        · have R : w24.ownsRow 0 2 1 (.slice Ag n cg) n xg := by have := X.rg.own; rwa [hxg] at this
          refine step_append_lies _ (by rfl) (.tmp 88) (.tmp 89) 44 (by rfl) 0 2 jg (.int .i64 0) 1 8 Try.underlying44 hjg hg0 hg1 hg2 rfl (by decide) (.slice Ag n cg) n xg (by rfl) R ⟨B2, 0, none⟩ 1 1 [.int .i64 1] (by rfl) rfl (news_blk t2) (one_int _) (by omega) (by unfold maxLen; omega) (by omega) (Nat.zero_le _) w24.heap.size rfl ?_
          intro g2 d2 w25 hown hgrow hat _
          have hloc : (Value.slice (some ⟨g2, 0, none⟩) (n + 1) d2).ownBlock = ((.slice Ag n cg) : Value).ownBlock ∨ (Value.slice (some ⟨g2, 0, none⟩) (n + 1) d2).ownBlock = some w24.heap.size := hat.imp (fun h => h.symm) (fun h => by rw [h]; rfl)
          have st := st.grown hgrow (fun k hk => .inr (X.rg.mine k hk)) σ
          have X := X.app_g (by rw [hxg]; exact hown) hgrow hloc
          clear t2 R hown hgrow hat hloc
          generalize tag o24 w24.heap.size σ = o25 at *
          refine hK _ _ (fun _ => ⟨by rw [X.box.cell]; rfl, by rw [X.box.cell]; rfl, by rw [X.box.cell]; rfl⟩) ?_
          clear hK K
          try simp only [List.getElem_toArray, List.getElem_cons_zero, List.getElem_cons_succ, Act.put, List.setIfInBounds_toArray, List.set_cons_zero, List.set_cons_succ]
          refine wpAnyT_ready (rs := [20]) (by kernel_rfl) (by simp) ?_
          refine AllT.cons rfl (fun K hK => ?_) (AllT.nil)
          · have X := X.alloc (.cells #[.string v] 9) (σ + 1)
            have st := st.alloc (σ + 1) (.cells #[.string v] 9)
            have t3 := Blk.made o25 (σ + 1) w25 #[.string v] 9
            have F := Lib.hid (And.intro X (And.intro st t3))
            clear X st t3
            go_simp
            obtain ⟨X, st, t3⟩ := F.out
            clear F
            generalize w25.heap.size = B3 at *
            generalize w25.alloc (.cells #[.string v] 9) = w26 at *
            generalize tag o25 B3 (σ + 1) = o26 at *
            refine hK _ _ (fun _ => ⟨by rw [X.box.cell]; rfl, by rw [X.box.cell]; rfl, by rw [X.box.cell]; rfl⟩) ?_
            clear hK K
            try simp only [List.getElem_toArray, List.getElem_cons_zero, List.getElem_cons_succ, Act.put, List.setIfInBounds_toArray, List.set_cons_zero, List.set_cons_succ]
            refine wpAnyT_ready (rs := [21]) (by kernel_rfl) (by simp) ?_
            refine AllT.cons rfl (fun K hK => ?_) (AllT.nil)
            · have R : w26.ownsRow 0 9 1 (.slice Av n cv) n xv := by have := X.rv.own; rwa [hxv] at this
              refine step_append_lies _ (by rfl) (.tmp 94) (.tmp 96) 45 (by rfl) 0 9 jv (.string ⟨#[]⟩) 1 16 Try.underlying45 hjv hv0 hv1 hv2 rfl (by decide) (.slice Av n cv) n xv (by rfl) R ⟨B3, 0, none⟩ 1 1 [.string v] (by rfl) rfl (news_blk t3) (one_str _) (by omega) (by unfold maxLen; omega) (by omega) (Nat.zero_le _) w26.heap.size rfl ?_
              intro g3 d3 w27 hown hgrow hat _
              have hloc : (Value.slice (some ⟨g3, 0, none⟩) (n + 1) d3).ownBlock = ((.slice Av n cv) : Value).ownBlock ∨ (Value.slice (some ⟨g3, 0, none⟩) (n + 1) d3).ownBlock = some w26.heap.size := hat.imp (fun h => h.symm) (fun h => by rw [h]; rfl)
              have st := st.grown hgrow (fun k hk => .inr (X.rv.mine k hk)) σ
              have X := X.app_v (by rw [hxv]; exact hown) hgrow hloc
              clear t3 R hown hgrow hat hloc
              generalize tag o26 w26.heap.size σ = o27 at *
              refine hK _ _ (fun _ => ⟨by rw [X.box.cell]; rfl, by rw [X.box.cell]; rfl, by rw [X.box.cell]; rfl⟩) ?_
              clear hK K
              try simp only [List.getElem_toArray, List.getElem_cons_zero, List.getElem_cons_succ, Act.put, List.setIfInBounds_toArray, List.set_cons_zero, List.set_cons_succ]
              refine wpAnyT_free (i := 22) (v := (.pointer (some ⟨b, 0, none⟩))) rfl (by kernel_rfl) (fun _ _ _ h => h) (Or.inl ⟨by rfl, ?_⟩) (fun _ => ⟨by rw [X.box.cell]; rfl, by rw [X.box.cell]; rfl, by rw [X.box.cell]; rfl⟩) ?_
              · intro w _; go_simp
              simp only [List.getElem_toArray, List.getElem_cons_zero, List.getElem_cons_succ, Act.put, List.setIfInBounds_toArray, List.set_cons_zero, List.set_cons_succ]
              refine wpAnyT_free (i := 23) (v := (.pointer (some ⟨b, 1, none⟩))) rfl (by kernel_rfl) (fun _ _ _ h => h) (Or.inl ⟨by rfl, ?_⟩) (fun _ => ⟨by rw [X.box.cell]; rfl, by rw [X.box.cell]; rfl, by rw [X.box.cell]; rfl⟩) ?_
              · intro w _; go_simp
              simp only [List.getElem_toArray, List.getElem_cons_zero, List.getElem_cons_succ, Act.put, List.setIfInBounds_toArray, List.set_cons_zero, List.set_cons_succ]
              refine wpAnyT_ready (rs := [24]) (by kernel_rfl) (by simp) ?_
              refine AllT.cons rfl (fun K hK => ?_) AllT.nil
              have z1 : ∃ u, w27.cell? ⟨b, 1, none⟩ = some u := ⟨_, by rw [X.box.cell]; rfl⟩
              obtain ⟨u1, z1⟩ := z1
              have y1 : w27.frozen? ⟨b, 1, none⟩ = false := X.box.frozen 1
              have st := st.setCell (p := ⟨b, 1, none⟩) (.inr X.box.mine) (.slice (some ⟨g1, 0, none⟩) (n + 1) d1)
              have X := X.set1 (.slice (some ⟨g1, 0, none⟩) (n + 1) d1)
              have G := Lib.hid (And.intro X st)
              clear X st
              go_simp
              obtain ⟨X, st⟩ := G.out
              clear G z1 y1
              generalize w27.setCell ⟨b, 1, none⟩ (.slice (some ⟨g1, 0, none⟩) (n + 1) d1) = w28 at *
              refine hK _ _ (fun h => absurd (h.symm.trans (by kernel_rfl)) Bool.false_ne_true) ?_
              clear hK K
              try simp only [List.getElem_toArray, List.getElem_cons_zero, List.getElem_cons_succ, Act.put, List.setIfInBounds_toArray, List.set_cons_zero, List.set_cons_succ]
              refine wpAnyT_free (i := 25) (v := (.pointer (some ⟨b, 0, none⟩))) rfl (by kernel_rfl) (fun _ _ _ h => h) (Or.inl ⟨by rfl, ?_⟩) (fun h => absurd (h.symm.trans (by kernel_rfl)) Bool.false_ne_true) ?_
              · intro w _; go_simp
              simp only [List.getElem_toArray, List.getElem_cons_zero, List.getElem_cons_succ, Act.put, List.setIfInBounds_toArray, List.set_cons_zero, List.set_cons_succ]
              refine wpAnyT_free (i := 26) (v := (.pointer (some ⟨b, 2, none⟩))) rfl (by kernel_rfl) (fun _ _ _ h => h) (Or.inl ⟨by rfl, ?_⟩) (fun h => absurd (h.symm.trans (by kernel_rfl)) Bool.false_ne_true) ?_
              · intro w _; go_simp
              simp only [List.getElem_toArray, List.getElem_cons_zero, List.getElem_cons_succ, Act.put, List.setIfInBounds_toArray, List.set_cons_zero, List.set_cons_succ]
              refine wpAnyT_ready (rs := [27]) (by kernel_rfl) (by simp) ?_
              refine AllT.cons rfl (fun K hK => ?_) AllT.nil
              have z2 : ∃ u, w28.cell? ⟨b, 2, none⟩ = some u := ⟨_, by rw [X.box.cell]; rfl⟩
              obtain ⟨u2, z2⟩ := z2
              have y2 : w28.frozen? ⟨b, 2, none⟩ = false := X.box.frozen 2
              have st := st.setCell (p := ⟨b, 2, none⟩) (.inr X.box.mine) (.slice (some ⟨g2, 0, none⟩) (n + 1) d2)
              have X := X.set2 (.slice (some ⟨g2, 0, none⟩) (n + 1) d2)
              have G := Lib.hid (And.intro X st)
              clear X st
              go_simp
              obtain ⟨X, st⟩ := G.out
              clear G z2 y2
              generalize w28.setCell ⟨b, 2, none⟩ (.slice (some ⟨g2, 0, none⟩) (n + 1) d2) = w29 at *
              refine hK _ _ (fun h => absurd (h.symm.trans (by kernel_rfl)) Bool.false_ne_true) ?_
              clear hK K
              try simp only [List.getElem_toArray, List.getElem_cons_zero, List.getElem_cons_succ, Act.put, List.setIfInBounds_toArray, List.set_cons_zero, List.set_cons_succ]
              refine wpAnyT_free (i := 28) (v := (.pointer (some ⟨b, 0, none⟩))) rfl (by kernel_rfl) (fun _ _ _ h => h) (Or.inl ⟨by rfl, ?_⟩) (fun h => absurd (h.symm.trans (by kernel_rfl)) Bool.false_ne_true) ?_
              · intro w _; go_simp
              simp only [List.getElem_toArray, List.getElem_cons_zero, List.getElem_cons_succ, Act.put, List.setIfInBounds_toArray, List.set_cons_zero, List.set_cons_succ]
              refine wpAnyT_free (i := 29) (v := (.pointer (some ⟨b, 3, none⟩))) rfl (by kernel_rfl) (fun _ _ _ h => h) (Or.inl ⟨by rfl, ?_⟩) (fun h => absurd (h.symm.trans (by kernel_rfl)) Bool.false_ne_true) ?_
              · intro w _; go_simp
              simp only [List.getElem_toArray, List.getElem_cons_zero, List.getElem_cons_succ, Act.put, List.setIfInBounds_toArray, List.set_cons_zero, List.set_cons_succ]
              refine wpAnyT_ready (rs := [30]) (by kernel_rfl) (by simp) ?_
              refine AllT.cons rfl (fun K hK => ?_) AllT.nil
              have z3 : ∃ u, w29.cell? ⟨b, 3, none⟩ = some u := ⟨_, by rw [X.box.cell]; rfl⟩
              obtain ⟨u3, z3⟩ := z3
              have y3 : w29.frozen? ⟨b, 3, none⟩ = false := X.box.frozen 3
              have st := st.setCell (p := ⟨b, 3, none⟩) (.inr X.box.mine) (.slice (some ⟨g3, 0, none⟩) (n + 1) d3)
              have X := X.set3 (.slice (some ⟨g3, 0, none⟩) (n + 1) d3)
              have G := Lib.hid (And.intro X st)
              clear X st
              go_simp
              obtain ⟨X, st⟩ := G.out
              clear G z3 y3
              generalize w29.setCell ⟨b, 3, none⟩ (.slice (some ⟨g3, 0, none⟩) (n + 1) d3) = w30 at *
              refine hK _ _ (fun h => absurd (h.symm.trans (by kernel_rfl)) Bool.false_ne_true) ?_
              clear hK K
              try simp only [List.getElem_toArray, List.getElem_cons_zero, List.getElem_cons_succ, Act.put, List.setIfInBounds_toArray, List.set_cons_zero, List.set_cons_succ]
              refine wpAnyT_done (by kernel_rfl) ?_ _
              have z3 : w30.cell? ⟨b, 3, none⟩ = some (.slice (some ⟨g3, 0, none⟩) (n + 1) d3) := by rw [X.box.cell]; rfl
              have G := Lib.hid (And.intro X st)
              clear X st
              go_wp2
              go_ret3
              exact ⟨by simp, _, _, _, _, _, G.out.2, rput_shut hn.out HX.out G.out.1⟩
        · have X := X.alloc (.cells #[.string v] 9) (σ + 1)
          have st := st.alloc (σ + 1) (.cells #[.string v] 9)
          have t2 := t2.alloc (.cells #[.string v] 9) (σ + 1)
          have t3 := Blk.made o24 (σ + 1) w24 #[.string v] 9
          have F := Lib.hid (And.intro X (And.intro st (And.intro t2 t3)))
          clear X st t2 t3
          go_simp
          obtain ⟨X, st, t2, t3⟩ := F.out
          clear F
          generalize w24.heap.size = B3 at *
          generalize w24.alloc (.cells #[.string v] 9) = w31 at *
          generalize tag o24 B3 (σ + 1) = o31 at *
          refine hK _ _ (fun _ => ⟨by rw [X.box.cell]; rfl, by rw [X.box.cell]; rfl, by rw [X.box.cell]; rfl⟩) ?_
          clear hK K
          try simp only [List.getElem_toArray, List.getElem_cons_zero, List.getElem_cons_succ, Act.put, List.setIfInBounds_toArray, List.set_cons_zero, List.set_cons_succ]
          refine wpAnyT_ready (rs := [14]) (by kernel_rfl) (by simp) ?_
          refine AllT.cons rfl (fun K hK => ?_) (AllT.nil)
          · have R : w31.ownsRow 0 2 1 (.slice Ag n cg) n xg := by have := X.rg.own; rwa [hxg] at this
            refine step_append_lies _ (by rfl) (.tmp 88) (.tmp 89) 44 (by rfl) 0 2 jg (.int .i64 0) 1 8 Try.underlying44 hjg hg0 hg1 hg2 rfl (by decide) (.slice Ag n cg) n xg (by rfl) R ⟨B2, 0, none⟩ 1 1 [.int .i64 1] (by rfl) rfl (news_blk t2) (one_int _) (by omega) (by unfold maxLen; omega) (by omega) (Nat.zero_le _) w31.heap.size rfl ?_
            intro g2 d2 w32 hown hgrow hat _
            have hloc : (Value.slice (some ⟨g2, 0, none⟩) (n + 1) d2).ownBlock = ((.slice Ag n cg) : Value).ownBlock ∨ (Value.slice (some ⟨g2, 0, none⟩) (n + 1) d2).ownBlock = some w31.heap.size := hat.imp (fun h => h.symm) (fun h => by rw [h]; rfl)
            have t3 := t3.grown hgrow (fun e => by have q1 := X.rg.mine _ e; have q2 := t3.mine; omega) σ
            have st := st.grown hgrow (fun k hk => .inr (X.rg.mine k hk)) σ
            have X := X.app_g (by rw [hxg]; exact hown) hgrow hloc
            clear t2 R hown hgrow hat hloc
            generalize tag o31 w31.heap.size σ = o32 at *
            refine hK _ _ (fun _ => ⟨by rw [X.box.cell]; rfl, by rw [X.box.cell]; rfl, by rw [X.box.cell]; rfl⟩) ?_
            clear hK K
            try simp only [List.getElem_toArray, List.getElem_cons_zero, List.getElem_cons_succ, Act.put, List.setIfInBounds_toArray, List.set_cons_zero, List.set_cons_succ]
            refine wpAnyT_ready (rs := [21]) (by kernel_rfl) (by simp) ?_
            refine AllT.cons rfl (fun K hK => ?_) (AllT.nil)
            · have R : w32.ownsRow 0 9 1 (.slice Av n cv) n xv := by have := X.rv.own; rwa [hxv] at this
              refine step_append_lies _ (by rfl) (.tmp 94) (.tmp 96) 45 (by rfl) 0 9 jv (.string ⟨#[]⟩) 1 16 Try.underlying45 hjv hv0 hv1 hv2 rfl (by decide) (.slice Av n cv) n xv (by rfl) R ⟨B3, 0, none⟩ 1 1 [.string v] (by rfl) rfl (news_blk t3) (one_str _) (by omega) (by unfold maxLen; omega) (by omega) (Nat.zero_le _) w32.heap.size rfl ?_
              intro g3 d3 w33 hown hgrow hat _
              have hloc : (Value.slice (some ⟨g3, 0, none⟩) (n + 1) d3).ownBlock = ((.slice Av n cv) : Value).ownBlock ∨ (Value.slice (some ⟨g3, 0, none⟩) (n + 1) d3).ownBlock = some w32.heap.size := hat.imp (fun h => h.symm) (fun h => by rw [h]; rfl)
              have st := st.grown hgrow (fun k hk => .inr (X.rv.mine k hk)) σ
              have X := X.app_v (by rw [hxv]; exact hown) hgrow hloc
              clear t3 R hown hgrow hat hloc
              generalize tag o32 w32.heap.size σ = o33 at *
              refine hK _ _ (fun _ => ⟨by rw [X.box.cell]; rfl, by rw [X.box.cell]; rfl, by rw [X.box.cell]; rfl⟩) ?_
              clear hK K
              try simp only [List.getElem_toArray, List.getElem_cons_zero, List.getElem_cons_succ, Act.put, List.setIfInBounds_toArray, List.set_cons_zero, List.set_cons_succ]
              refine wpAnyT_free (i := 22) (v := (.pointer (some ⟨b, 0, none⟩))) rfl (by kernel_rfl) (fun _ _ _ h => h) (Or.inl ⟨by rfl, ?_⟩) (fun _ => ⟨by rw [X.box.cell]; rfl, by rw [X.box.cell]; rfl, by rw [X.box.cell]; rfl⟩) ?_
              · intro w _; go_simp
              simp only [List.getElem_toArray, List.getElem_cons_zero, List.getElem_cons_succ, Act.put, List.setIfInBounds_toArray, List.set_cons_zero, List.set_cons_succ]
              refine wpAnyT_free (i := 23) (v := (.pointer (some ⟨b, 1, none⟩))) rfl (by kernel_rfl) (fun _ _ _ h => h) (Or.inl ⟨by rfl, ?_⟩) (fun _ => ⟨by rw [X.box.cell]; rfl, by rw [X.box.cell]; rfl, by rw [X.box.cell]; rfl⟩) ?_
              · intro w _; go_simp
              simp only [List.getElem_toArray, List.getElem_cons_zero, List.getElem_cons_succ, Act.put, List.setIfInBounds_toArray, List.set_cons_zero, List.set_cons_succ]
              refine wpAnyT_ready (rs := [24]) (by kernel_rfl) (by simp) ?_
              refine AllT.cons rfl (fun K hK => ?_) AllT.nil
              have z1 : ∃ u, w33.cell? ⟨b, 1, none⟩ = some u := ⟨_, by rw [X.box.cell]; rfl⟩
              obtain ⟨u1, z1⟩ := z1
              have y1 : w33.frozen? ⟨b, 1, none⟩ = false := X.box.frozen 1
              have st := st.setCell (p := ⟨b, 1, none⟩) (.inr X.box.mine) (.slice (some ⟨g1, 0, none⟩) (n + 1) d1)
              have X := X.set1 (.slice (some ⟨g1, 0, none⟩) (n + 1) d1)
              have G := Lib.hid (And.intro X st)
              clear X st
              go_simp
              obtain ⟨X, st⟩ := G.out
              clear G z1 y1
              generalize w33.setCell ⟨b, 1, none⟩ (.slice (some ⟨g1, 0, none⟩) (n + 1) d1) = w34 at *
              refine hK _ _ (fun h => absurd (h.symm.trans (by kernel_rfl)) Bool.false_ne_true) ?_
              clear hK K
              try simp only [List.getElem_toArray, List.getElem_cons_zero, List.getElem_cons_succ, Act.put, List.setIfInBounds_toArray, List.set_cons_zero, List.set_cons_succ]
              refine wpAnyT_free (i := 25) (v := (.pointer (some ⟨b, 0, none⟩))) rfl (by kernel_rfl) (fun _ _ _ h => h) (Or.inl ⟨by rfl, ?_⟩) (fun h => absurd (h.symm.trans (by kernel_rfl)) Bool.false_ne_true) ?_
              · intro w _; go_simp
              simp only [List.getElem_toArray, List.getElem_cons_zero, List.getElem_cons_succ, Act.put, List.setIfInBounds_toArray, List.set_cons_zero, List.set_cons_succ]
              refine wpAnyT_free (i := 26) (v := (.pointer (some ⟨b, 2, none⟩))) rfl (by kernel_rfl) (fun _ _ _ h => h) (Or.inl ⟨by rfl, ?_⟩) (fun h => absurd (h.symm.trans (by kernel_rfl)) Bool.false_ne_true) ?_
              · intro w _; go_simp
              simp only [List.getElem_toArray, List.getElem_cons_zero, List.getElem_cons_succ, Act.put, List.setIfInBounds_toArray, List.set_cons_zero, List.set_cons_succ]
              refine wpAnyT_ready (rs := [27]) (by kernel_rfl) (by simp) ?_
              refine AllT.cons rfl (fun K hK => ?_) AllT.nil
              have z2 : ∃ u, w34.cell? ⟨b, 2, none⟩ = some u := ⟨_, by rw [X.box.cell]; rfl⟩
              obtain ⟨u2, z2⟩ := z2
              have y2 : w34.frozen? ⟨b, 2, none⟩ = false := X.box.frozen 2
              have st := st.setCell (p := ⟨b, 2, none⟩) (.inr X.box.mine) (.slice (some ⟨g2, 0, none⟩) (n + 1) d2)
              have X := X.set2 (.slice (some ⟨g2, 0, none⟩) (n + 1) d2)
              have G := Lib.hid (And.intro X st)
              clear X st
              go_simp
              obtain ⟨X, st⟩ := G.out
              clear G z2 y2
              generalize w34.setCell ⟨b, 2, none⟩ (.slice (some ⟨g2, 0, none⟩) (n + 1) d2) = w35 at *
              refine hK _ _ (fun h => absurd (h.symm.trans (by kernel_rfl)) Bool.false_ne_true) ?_
              clear hK K
              try simp only [List.getElem_toArray, List.getElem_cons_zero, List.getElem_cons_succ, Act.put, List.setIfInBounds_toArray, List.set_cons_zero, List.set_cons_succ]
              refine wpAnyT_free (i := 28) (v := (.pointer (some ⟨b, 0, none⟩))) rfl (by kernel_rfl) (fun _ _ _ h => h) (Or.inl ⟨by rfl, ?_⟩) (fun h => absurd (h.symm.trans (by kernel_rfl)) Bool.false_ne_true) ?_
              · intro w _; go_simp
              simp only [List.getElem_toArray, List.getElem_cons_zero, List.getElem_cons_succ, Act.put, List.setIfInBounds_toArray, List.set_cons_zero, List.set_cons_succ]
              refine wpAnyT_free (i := 29) (v := (.pointer (some ⟨b, 3, none⟩))) rfl (by kernel_rfl) (fun _ _ _ h => h) (Or.inl ⟨by rfl, ?_⟩) (fun h => absurd (h.symm.trans (by kernel_rfl)) Bool.false_ne_true) ?_
              · intro w _; go_simp
              simp only [List.getElem_toArray, List.getElem_cons_zero, List.getElem_cons_succ, Act.put, List.setIfInBounds_toArray, List.set_cons_zero, List.set_cons_succ]
              refine wpAnyT_ready (rs := [30]) (by kernel_rfl) (by simp) ?_
              refine AllT.cons rfl (fun K hK => ?_) AllT.nil
              have z3 : ∃ u, w35.cell? ⟨b, 3, none⟩ = some u := ⟨_, by rw [X.box.cell]; rfl⟩
              obtain ⟨u3, z3⟩ := z3
              have y3 : w35.frozen? ⟨b, 3, none⟩ = false := X.box.frozen 3
              have st := st.setCell (p := ⟨b, 3, none⟩) (.inr X.box.mine) (.slice (some ⟨g3, 0, none⟩) (n + 1) d3)
              have X := X.set3 (.slice (some ⟨g3, 0, none⟩) (n + 1) d3)
              have G := Lib.hid (And.intro X st)
              clear X st
              go_simp
              obtain ⟨X, st⟩ := G.out
              clear G z3 y3
              generalize w35.setCell ⟨b, 3, none⟩ (.slice (some ⟨g3, 0, none⟩) (n + 1) d3) = w36 at *
              refine hK _ _ (fun h => absurd (h.symm.trans (by kernel_rfl)) Bool.false_ne_true) ?_
              clear hK K
              try simp only [List.getElem_toArray, List.getElem_cons_zero, List.getElem_cons_succ, Act.put, List.setIfInBounds_toArray, List.set_cons_zero, List.set_cons_succ]
              refine wpAnyT_done (by kernel_rfl) ?_ _
              have z3 : w36.cell? ⟨b, 3, none⟩ = some (.slice (some ⟨g3, 0, none⟩) (n + 1) d3) := by rw [X.box.cell]; rfl
              have G := Lib.hid (And.intro X st)
              clear X st
              go_wp2
              go_ret3
              exact ⟨by simp, _, _, _, _, _, G.out.2, rput_shut hn.out HX.out G.out.1⟩
      · have X := X.alloc (.cells #[.string v] 9) (σ + 1)
        have st := st.alloc (σ + 1) (.cells #[.string v] 9)
        have t1 := t1.alloc (.cells #[.string v] 9) (σ + 1)
        have t2 := t2.alloc (.cells #[.string v] 9) (σ + 1)
        have t3 := Blk.made o23 (σ + 1) w23 #[.string v] 9
        have F := Lib.hid (And.intro X (And.intro st (And.intro t1 (And.intro t2 t3))))
        clear X st t1 t2 t3
        go_simp
        obtain ⟨X, st, t1, t2, t3⟩ := F.out
        clear F
        generalize w23.heap.size = B3 at *
        generalize w23.alloc (.cells #[.string v] 9) = w37 at *
        generalize tag o23 B3 (σ + 1) = o37 at *
        refine hK _ _ (fun _ => ⟨by rw [X.box.cell]; rfl, by rw [X.box.cell]; rfl, by rw [X.box.cell]; rfl⟩) ?_
        clear hK K
        try simp only [List.getElem_toArray, List.getElem_cons_zero, List.getElem_cons_succ, Act.put, List.setIfInBounds_toArray, List.set_cons_zero, List.set_cons_succ]
        refine wpAnyT_ready (rs := [8]) (by kernel_rfl) (by simp) ?_
        refine AllT.cons rfl (fun K hK => ?_) (AllT.nil)
        · have R : w37.ownsRow 0 4 1 (.slice Ai n ci) n xi := by have := X.ri.own; rwa [hxi] at this
          refine step_append_lies _ (by rfl) (.tmp 82) (.tmp 83) 43 (by rfl) 0 4 jb (.bool false) 1 1 Try.underlying43 hjb hb0 hb1 hb2 rfl (by decide) (.slice Ai n ci) n xi (by rfl) R ⟨B1, 0, none⟩ 1 1 [.bool true] (by rfl) rfl (news_blk t1) (one_bool _) (by omega) (by unfold maxLen; omega) (by omega) (Nat.zero_le _) w37.heap.size rfl ?_
          intro g1 d1 w38 hown hgrow hat _
          have hloc : (Value.slice (some ⟨g1, 0, none⟩) (n + 1) d1).ownBlock = ((.slice Ai n ci) : Value).ownBlock ∨ (Value.slice (some ⟨g1, 0, none⟩) (n + 1) d1).ownBlock = some w37.heap.size := hat.imp (fun h => h.symm) (fun h => by rw [h]; rfl)
          have t2 := t2.grown hgrow (fun e => by have q1 := X.ri.mine _ e; have q2 := t2.mine; omega) σ
          have t3 := t3.grown hgrow (fun e => by have q1 := X.ri.mine _ e; have q2 := t3.mine; omega) σ
          have st := st.grown hgrow (fun k hk => .inr (X.ri.mine k hk)) σ
          have X := X.app_i (by rw [hxi]; exact hown) hgrow hloc
          clear t1 R hown hgrow hat hloc
          generalize tag o37 w37.heap.size σ = o38 at *
          refine hK _ _ (fun _ => ⟨by rw [X.box.cell]; rfl, by rw [X.box.cell]; rfl, by rw [X.box.cell]; rfl⟩) ?_
          clear hK K
          try simp only [List.getElem_toArray, List.getElem_cons_zero, List.getElem_cons_succ, Act.put, List.setIfInBounds_toArray, List.set_cons_zero, List.set_cons_succ]
          refine wpAnyT_ready (rs := [14]) (by kernel_rfl) (by simp) ?_
          refine AllT.cons rfl (fun K hK => ?_) (AllT.nil)
          · have R : w38.ownsRow 0 2 1 (.slice Ag n cg) n xg := by have := X.rg.own; rwa [hxg] at this
            refine step_append_lies _ (by rfl) (.tmp 88) (.tmp 89) 44 (by rfl) 0 2 jg (.int .i64 0) 1 8 Try.underlying44 hjg hg0 hg1 hg2 rfl (by decide) (.slice Ag n cg) n xg (by rfl) R ⟨B2, 0, none⟩ 1 1 [.int .i64 1] (by rfl) rfl (news_blk t2) (one_int _) (by omega) (by unfold maxLen; omega) (by omega) (Nat.zero_le _) w38.heap.size rfl ?_
            intro g2 d2 w39 hown hgrow hat _
            have hloc : (Value.slice (some ⟨g2, 0, none⟩) (n + 1) d2).ownBlock = ((.slice Ag n cg) : Value).ownBlock ∨ (Value.slice (some ⟨g2, 0, none⟩) (n + 1) d2).ownBlock = some w38.heap.size := hat.imp (fun h => h.symm) (fun h => by rw [h]; rfl)
            have t3 := t3.grown hgrow (fun e => by have q1 := X.rg.mine _ e; have q2 := t3.mine; omega) σ
            have st := st.grown hgrow (fun k hk => .inr (X.rg.mine k hk)) σ
            have X := X.app_g (by rw [hxg]; exact hown) hgrow hloc
            clear t2 R hown hgrow hat hloc
            generalize tag o38 w38.heap.size σ = o39 at *
            refine hK _ _ (fun _ => ⟨by rw [X.box.cell]; rfl, by rw [X.box.cell]; rfl, by rw [X.box.cell]; rfl⟩) ?_
            clear hK K
            try simp only [List.getElem_toArray, List.getElem_cons_zero, List.getElem_cons_succ, Act.put, List.setIfInBounds_toArray, List.set_cons_zero, List.set_cons_succ]
            refine wpAnyT_ready (rs := [21]) (by kernel_rfl) (by simp) ?_
            refine AllT.cons rfl (fun K hK => ?_) (AllT.nil)
            · have R : w39.ownsRow 0 9 1 (.slice Av n cv) n xv := by have := X.rv.own; rwa [hxv] at this
              refine step_append_lies _ (by rfl) (.tmp 94) (.tmp 96) 45 (by rfl) 0 9 jv (.string ⟨#[]⟩) 1 16 Try.underlying45 hjv hv0 hv1 hv2 rfl (by decide) (.slice Av n cv) n xv (by rfl) R ⟨B3, 0, none⟩ 1 1 [.string v] (by rfl) rfl (news_blk t3) (one_str _) (by omega) (by unfold maxLen; omega) (by omega) (Nat.zero_le _) w39.heap.size rfl ?_
              intro g3 d3 w40 hown hgrow hat _
              have hloc : (Value.slice (some ⟨g3, 0, none⟩) (n + 1) d3).ownBlock = ((.slice Av n cv) : Value).ownBlock ∨ (Value.slice (some ⟨g3, 0, none⟩) (n + 1) d3).ownBlock = some w39.heap.size := hat.imp (fun h => h.symm) (fun h => by rw [h]; rfl)
              have st := st.grown hgrow (fun k hk => .inr (X.rv.mine k hk)) σ
              have X := X.app_v (by rw [hxv]; exact hown) hgrow hloc
              clear t3 R hown hgrow hat hloc
              generalize tag o39 w39.heap.size σ = o40 at *
              refine hK _ _ (fun _ => ⟨by rw [X.box.cell]; rfl, by rw [X.box.cell]; rfl, by rw [X.box.cell]; rfl⟩) ?_
              clear hK K
              try simp only [List.getElem_toArray, List.getElem_cons_zero, List.getElem_cons_succ, Act.put, List.setIfInBounds_toArray, List.set_cons_zero, List.set_cons_succ]
              refine wpAnyT_free (i := 22) (v := (.pointer (some ⟨b, 0, none⟩))) rfl (by kernel_rfl) (fun _ _ _ h => h) (Or.inl ⟨by rfl, ?_⟩) (fun _ => ⟨by rw [X.box.cell]; rfl, by rw [X.box.cell]; rfl, by rw [X.box.cell]; rfl⟩) ?_
              · intro w _; go_simp
              simp only [List.getElem_toArray, List.getElem_cons_zero, List.getElem_cons_succ, Act.put, List.setIfInBounds_toArray, List.set_cons_zero, List.set_cons_succ]
              refine wpAnyT_free (i := 23) (v := (.pointer (some ⟨b, 1, none⟩))) rfl (by kernel_rfl) (fun _ _ _ h => h) (Or.inl ⟨by rfl, ?_⟩) (fun _ => ⟨by rw [X.box.cell]; rfl, by rw [X.box.cell]; rfl, by rw [X.box.cell]; rfl⟩) ?_
              · intro w _; go_simp
              simp only [List.getElem_toArray, List.getElem_cons_zero, List.getElem_cons_succ, Act.put, List.setIfInBounds_toArray, List.set_cons_zero, List.set_cons_succ]
              refine wpAnyT_ready (rs := [24]) (by kernel_rfl) (by simp) ?_
              refine AllT.cons rfl (fun K hK => ?_) AllT.nil
              have z1 : ∃ u, w40.cell? ⟨b, 1, none⟩ = some u := ⟨_, by rw [X.box.cell]; rfl⟩
              obtain ⟨u1, z1⟩ := z1
              have y1 : w40.frozen? ⟨b, 1, none⟩ = false := X.box.frozen 1
              have st := st.setCell (p := ⟨b, 1, none⟩) (.inr X.box.mine) (.slice (some ⟨g1, 0, none⟩) (n + 1) d1)
              have X := X.set1 (.slice (some ⟨g1, 0, none⟩) (n + 1) d1)
              have G := Lib.hid (And.intro X st)
              clear X st
              go_simp
              obtain ⟨X, st⟩ := G.out
              clear G z1 y1
              generalize w40.setCell ⟨b, 1, none⟩ (.slice (some ⟨g1, 0, none⟩) (n + 1) d1) = w41 at *
              refine hK _ _ (fun h => absurd (h.symm.trans (by kernel_rfl)) Bool.false_ne_true) ?_
              clear hK K
              try simp only [List.getElem_toArray, List.getElem_cons_zero, List.getElem_cons_succ, Act.put, List.setIfInBounds_toArray, List.set_cons_zero, List.set_cons_succ]
              refine wpAnyT_free (i := 25) (v := (.pointer (some ⟨b, 0, none⟩))) rfl (by kernel_rfl) (fun _ _ _ h => h) (Or.inl ⟨by rfl, ?_⟩) (fun h => absurd (h.symm.trans (by kernel_rfl)) Bool.false_ne_true) ?_
              · intro w _; go_simp
              simp only [List.getElem_toArray, List.getElem_cons_zero, List.getElem_cons_succ, Act.put, List.setIfInBounds_toArray, List.set_cons_zero, List.set_cons_succ]
              refine wpAnyT_free (i := 26) (v := (.pointer (some ⟨b, 2, none⟩))) rfl (by kernel_rfl) (fun _ _ _ h => h) (Or.inl ⟨by rfl, ?_⟩) (fun h => absurd (h.symm.trans (by kernel_rfl)) Bool.false_ne_true) ?_
              · intro w _; go_simp
              simp only [List.getElem_toArray, List.getElem_cons_zero, List.getElem_cons_succ, Act.put, List.setIfInBounds_toArray, List.set_cons_zero, List.set_cons_succ]
              refine wpAnyT_ready (rs := [27]) (by kernel_rfl) (by simp) ?_
              refine AllT.cons rfl (fun K hK => ?_) AllT.nil
              have z2 : ∃ u, w41.cell? ⟨b, 2, none⟩ = some u := ⟨_, by rw [X.box.cell]; rfl⟩
              obtain ⟨u2, z2⟩ := z2
              have y2 : w41.frozen? ⟨b, 2, none⟩ = false := X.box.frozen 2
              have st := st.setCell (p := ⟨b, 2, none⟩) (.inr X.box.mine) (.slice (some ⟨g2, 0, none⟩) (n + 1) d2)
              have X := X.set2 (.slice (some ⟨g2, 0, none⟩) (n + 1) d2)
              have G := Lib.hid (And.intro X st)
              clear X st
              go_simp
              obtain ⟨X, st⟩ := G.out
              clear G z2 y2
              generalize w41.setCell ⟨b, 2, none⟩ (.slice (some ⟨g2, 0, none⟩) (n + 1) d2) = w42 at *
              refine hK _ _ (fun h => absurd (h.symm.trans (by kernel_rfl)) Bool.false_ne_true) ?_
              clear hK K
              try simp only [List.getElem_toArray, List.getElem_cons_zero, List.getElem_cons_succ, Act.put, List.setIfInBounds_toArray, List.set_cons_zero, List.set_cons_succ]
              refine wpAnyT_free (i := 28) (v := (.pointer (some ⟨b, 0, none⟩))) rfl (by kernel_rfl) (fun _ _ _ h => h) (Or.inl ⟨by rfl, ?_⟩) (fun h => absurd (h.symm.trans (by kernel_rfl)) Bool.false_ne_true) ?_
              · intro w _; go_simp
              simp only [List.getElem_toArray, List.getElem_cons_zero, List.getElem_cons_succ, Act.put, List.setIfInBounds_toArray, List.set_cons_zero, List.set_cons_succ]
              refine wpAnyT_free (i := 29) (v := (.pointer (some ⟨b, 3, none⟩))) rfl (by kernel_rfl) (fun _ _ _ h => h) (Or.inl ⟨by rfl, ?_⟩) (fun h => absurd (h.symm.trans (by kernel_rfl)) Bool.false_ne_true) ?_
              · intro w _; go_simp
              simp only [List.getElem_toArray, List.getElem_cons_zero, List.getElem_cons_succ, Act.put, List.setIfInBounds_toArray, List.set_cons_zero, List.set_cons_succ]
              refine wpAnyT_ready (rs := [30]) (by kernel_rfl) (by simp) ?_
              refine AllT.cons rfl (fun K hK => ?_) AllT.nil
              have z3 : ∃ u, w42.cell? ⟨b, 3, none⟩ = some u := ⟨_, by rw [X.box.cell]; rfl⟩
              obtain ⟨u3, z3⟩ := z3
              have y3 : w42.frozen? ⟨b, 3, none⟩ = false := X.box.frozen 3
              have st := st.setCell (p := ⟨b, 3, none⟩) (.inr X.box.mine) (.slice (some ⟨g3, 0, none⟩) (n + 1) d3)
              have X := X.set3 (.slice (some ⟨g3, 0, none⟩) (n + 1) d3)
              have G := Lib.hid (And.intro X st)
              clear X st
              go_simp
              obtain ⟨X, st⟩ := G.out
              clear G z3 y3
              generalize w42.setCell ⟨b, 3, none⟩ (.slice (some ⟨g3, 0, none⟩) (n + 1) d3) = w43 at *
              refine hK _ _ (fun h => absurd (h.symm.trans (by kernel_rfl)) Bool.false_ne_true) ?_
              clear hK K
              try simp only [List.getElem_toArray, List.getElem_cons_zero, List.getElem_cons_succ, Act.put, List.setIfInBounds_toArray, List.set_cons_zero, List.set_cons_succ]
              refine wpAnyT_done (by kernel_rfl) ?_ _
              have z3 : w43.cell? ⟨b, 3, none⟩ = some (.slice (some ⟨g3, 0, none⟩) (n + 1) d3) := by rw [X.box.cell]; rfl
              have G := Lib.hid (And.intro X st)
              clear X st
              go_wp2
              go_ret3
              exact ⟨by simp, _, _, _, _, _, G.out.2, rput_shut hn.out HX.out G.out.1⟩
    · have X := X.alloc (.cells #[.string v] 9) (σ + 1)
      have st := st.alloc (σ + 1) (.cells #[.string v] 9)
      have t1 := t1.alloc (.cells #[.string v] 9) (σ + 1)
      have t3 := Blk.made o1 (σ + 1) w1 #[.string v] 9
      have F := Lib.hid (And.intro X (And.intro st (And.intro t1 t3)))
      clear X st t1 t3
      go_simp
      obtain ⟨X, st, t1, t3⟩ := F.out
      clear F
      generalize w1.heap.size = B3 at *
      generalize w1.alloc (.cells #[.string v] 9) = w44 at *
      generalize tag o1 B3 (σ + 1) = o44 at *
      refine hK _ _ (fun _ => ⟨by rw [X.box.cell]; rfl, by rw [X.box.cell]; rfl, by rw [X.box.cell]; rfl⟩) ?_
      clear hK K
      try simp only [List.getElem_toArray, List.getElem_cons_zero, List.getElem_cons_succ, Act.put, List.setIfInBounds_toArray, List.set_cons_zero, List.set_cons_succ]
      refine wpAnyT_ready (rs := [8, 13]) (by kernel_rfl) (by simp) ?_
      refine AllT.cons rfl (fun K hK => ?_) (AllT.cons rfl (fun K hK => ?_) (AllT.nil))
      · have R : w44.ownsRow 0 4 1 (.slice Ai n ci) n xi := by have := X.ri.own; rwa [hxi] at this
        refine step_append_lies _ (by rfl) (.tmp 82) (.tmp 83) 43 (by rfl) 0 4 jb (.bool false) 1 1 Try.underlying43 hjb hb0 hb1 hb2 rfl (by decide) (.slice Ai n ci) n xi (by rfl) R ⟨B1, 0, none⟩ 1 1 [.bool true] (by rfl) rfl (news_blk t1) (one_bool _) (by omega) (by unfold maxLen; omega) (by omega) (Nat.zero_le _) w44.heap.size rfl ?_
        intro g1 d1 w45 hown hgrow hat _
        have hloc : (Value.slice (some ⟨g1, 0, none⟩) (n + 1) d1).ownBlock = ((.slice Ai n ci) : Value).ownBlock ∨ (Value.slice (some ⟨g1, 0, none⟩) (n + 1) d1).ownBlock = some w44.heap.size := hat.imp (fun h => h.symm) (fun h => by rw [h]; rfl)
        have t3 := t3.grown hgrow (fun e => by have q1 := X.ri.mine _ e; have q2 := t3.mine; omega) σ
        have st := st.grown hgrow (fun k hk => .inr (X.ri.mine k hk)) σ
        have X := X.app_i (by rw [hxi]; exact hown) hgrow hloc
        clear t1 R hown hgrow hat hloc
        generalize tag o44 w44.heap.size σ = o45 at *
        refine hK _ _ (fun _ => ⟨by rw [X.box.cell]; rfl, by rw [X.box.cell]; rfl, by rw [X.box.cell]; rfl⟩) ?_
        clear hK K
        try simp only [List.getElem_toArray, List.getElem_cons_zero, List.getElem_cons_succ, Act.put, List.setIfInBounds_toArray, List.set_cons_zero, List.set_cons_succ]
        refine wpAnyT_ready (rs := [13]) (by kernel_rfl) (by simp) ?_
        refine AllT.cons rfl (fun K hK => ?_) (AllT.nil)
        · have X := X.alloc (.cells #[.int .i64 1] 2) (σ + 1)
          have st := st.alloc (σ + 1) (.cells #[.int .i64 1] 2)
          have t3 := t3.alloc (.cells #[.int .i64 1] 2) (σ + 1)
          have t2 := Blk.made o45 (σ + 1) w45 #[.int .i64 1] 2
          have F := Lib.hid (And.intro X (And.intro st (And.intro t3 t2)))
          clear X st t3 t2
          go_simp
          obtain ⟨X, st, t3, t2⟩ := F.out
          clear F
          generalize w45.heap.size = B2 at *
          generalize w45.alloc (.cells #[.int .i64 1] 2) = w46 at *
          generalize tag o45 B2 (σ + 1) = o46 at *
          refine hK _ _ (fun _ => ⟨by rw [X.box.cell]; rfl, by rw [X.box.cell]; rfl, by rw [X.box.cell]; rfl⟩) ?_
          clear hK K
          try simp only [List.getElem_toArray, List.getElem_cons_zero, List.getElem_cons_succ, Act.put, List.setIfInBounds_toArray, List.set_cons_zero, List.set_cons_succ]
          refine wpAnyT_ready (rs := [14]) (by kernel_rfl) (by simp) ?_
          refine AllT.cons rfl (fun K hK => ?_) (AllT.nil)
          · have R : w46.ownsRow 0 2 1 (.slice Ag n cg) n xg := by have := X.rg.own; rwa [hxg] at this
            refine step_append_lies _ (by rfl) (.tmp 88) (.tmp 89) 44 (by rfl) 0 2 jg (.int .i64 0) 1 8 Try.underlying44 hjg hg0 hg1 hg2 rfl (by decide) (.slice Ag n cg) n xg (by rfl) R ⟨B2, 0, none⟩ 1 1 [.int .i64 1] (by rfl) rfl (news_blk t2) (one_int _) (by omega) (by unfold maxLen; omega) (by omega) (Nat.zero_le _) w46.heap.size rfl ?_
            intro g2 d2 w47 hown hgrow hat _
            have hloc : (Value.slice (some ⟨g2, 0, none⟩) (n + 1) d2).ownBlock = ((.slice Ag n cg) : Value).ownBlock ∨ (Value.slice (some ⟨g2, 0, none⟩) (n + 1) d2).ownBlock = some w46.heap.size := hat.imp (fun h => h.symm) (fun h => by rw [h]; rfl)
            have t3 := t3.grown hgrow (fun e => by have q1 := X.rg.mine _ e; have q2 := t3.mine; omega) σ
            have st := st.grown hgrow (fun k hk => .inr (X.rg.mine k hk)) σ
            have X := X.app_g (by rw [hxg]; exact hown) hgrow hloc
            clear t2 R hown hgrow hat hloc
            generalize tag o46 w46.heap.size σ = o47 at *
            refine hK _ _ (fun _ => ⟨by rw [X.box.cell]; rfl, by rw [X.box.cell]; rfl, by rw [X.box.cell]; rfl⟩) ?_
            clear hK K
            try simp only [List.getElem_toArray, List.getElem_cons_zero, List.getElem_cons_succ, Act.put, List.setIfInBounds_toArray, List.set_cons_zero, List.set_cons_succ]
            refine wpAnyT_ready (rs := [21]) (by kernel_rfl) (by simp) ?_
            refine AllT.cons rfl (fun K hK => ?_) (AllT.nil)
            · have R : w47.ownsRow 0 9 1 (.slice Av n cv) n xv := by have := X.rv.own; rwa [hxv] at this
              refine step_append_lies _ (by rfl) (.tmp 94) (.tmp 96) 45 (by rfl) 0 9 jv (.string ⟨#[]⟩) 1 16 Try.underlying45 hjv hv0 hv1 hv2 rfl (by decide) (.slice Av n cv) n xv (by rfl) R ⟨B3, 0, none⟩ 1 1 [.string v] (by rfl) rfl (news_blk t3) (one_str _) (by omega) (by unfold maxLen; omega) (by omega) (Nat.zero_le _) w47.heap.size rfl ?_
              intro g3 d3 w48 hown hgrow hat _
              have hloc : (Value.slice (some ⟨g3, 0, none⟩) (n + 1) d3).ownBlock = ((.slice Av n cv) : Value).ownBlock ∨ (Value.slice (some ⟨g3, 0, none⟩) (n + 1) d3).ownBlock = some w47.heap.size := hat.imp (fun h => h.symm) (fun h => by rw [h]; rfl)
              have st := st.grown hgrow (fun k hk => .inr (X.rv.mine k hk)) σ
              have X := X.app_v (by rw [hxv]; exact hown) hgrow hloc
              clear t3 R hown hgrow hat hloc
              generalize tag o47 w47.heap.size σ = o48 at *
              refine hK _ _ (fun _ => ⟨by rw [X.box.cell]; rfl, by rw [X.box.cell]; rfl, by rw [X.box.cell]; rfl⟩) ?_
              clear hK K
              try simp only [List.getElem_toArray, List.getElem_cons_zero, List.getElem_cons_succ, Act.put, List.setIfInBounds_toArray, List.set_cons_zero, List.set_cons_succ]
              refine wpAnyT_free (i := 22) (v := (.pointer (some ⟨b, 0, none⟩))) rfl (by kernel_rfl) (fun _ _ _ h => h) (Or.inl ⟨by rfl, ?_⟩) (fun _ => ⟨by rw [X.box.cell]; rfl, by rw [X.box.cell]; rfl, by rw [X.box.cell]; rfl⟩) ?_
              · intro w _; go_simp
              simp only [List.getElem_toArray, List.getElem_cons_zero, List.getElem_cons_succ, Act.put, List.setIfInBounds_toArray, List.set_cons_zero, List.set_cons_succ]
              refine wpAnyT_free (i := 23) (v := (.pointer (some ⟨b, 1, none⟩))) rfl (by kernel_rfl) (fun _ _ _ h => h) (Or.inl ⟨by rfl, ?_⟩) (fun _ => ⟨by rw [X.box.cell]; rfl, by rw [X.box.cell]; rfl, by rw [X.box.cell]; rfl⟩) ?_
              · intro w _; go_simp
              simp only [List.getElem_toArray, List.getElem_cons_zero, List.getElem_cons_succ, Act.put, List.setIfInBounds_toArray, List.set_cons_zero, List.set_cons_succ]
              refine wpAnyT_ready (rs := [24]) (by kernel_rfl) (by simp) ?_
              refine AllT.cons rfl (fun K hK => ?_) AllT.nil
              have z1 : ∃ u, w48.cell? ⟨b, 1, none⟩ = some u := ⟨_, by rw [X.box.cell]; rfl⟩
              obtain ⟨u1, z1⟩ := z1
              have y1 : w48.frozen? ⟨b, 1, none⟩ = false := X.box.frozen 1
              have st := st.setCell (p := ⟨b, 1, none⟩) (.inr X.box.mine) (.slice (some ⟨g1, 0, none⟩) (n + 1) d1)
              have X := X.set1 (.slice (some ⟨g1, 0, none⟩) (n + 1) d1)
              have G := Lib.hid (And.intro X st)
              clear X st
              go_simp
              obtain ⟨X, st⟩ := G.out
              clear G z1 y1
              generalize w48.setCell ⟨b, 1, none⟩ (.slice (some ⟨g1, 0, none⟩) (n + 1) d1) = w49 at *
              refine hK _ _ (fun h => absurd (h.symm.trans (by kernel_rfl)) Bool.false_ne_true) ?_
              clear hK K
              try simp only [List.getElem_toArray, List.getElem_cons_zero, List.getElem_cons_succ, Act.put, List.setIfInBounds_toArray, List.set_cons_zero, List.set_cons_succ]
              refine wpAnyT_free (i := 25) (v := (.pointer (some ⟨b, 0, none⟩))) rfl (by kernel_rfl) (fun _ _ _ h => h) (Or.inl ⟨by rfl, ?_⟩) (fun h => absurd (h.symm.trans (by kernel_rfl)) Bool.false_ne_true) ?_
              · intro w _; go_simp
              simp only [List.getElem_toArray, List.getElem_cons_zero, List.getElem_cons_succ, Act.put, List.setIfInBounds_toArray, List.set_cons_zero, List.set_cons_succ]
              refine wpAnyT_free (i := 26) (v := (.pointer (some ⟨b, 2, none⟩))) rfl (by kernel_rfl) (fun _ _ _ h => h) (Or.inl ⟨by rfl, ?_⟩) (fun h => absurd (h.symm.trans (by kernel_rfl)) Bool.false_ne_true) ?_
              · intro w _; go_simp
              simp only [List.getElem_toArray, List.getElem_cons_zero, List.getElem_cons_succ, Act.put, List.setIfInBounds_toArray, List.set_cons_zero, List.set_cons_succ]
              refine wpAnyT_ready (rs := [27]) (by kernel_rfl) (by simp) ?_
              refine AllT.cons rfl (fun K hK => ?_) AllT.nil
              have z2 : ∃ u, w49.cell? ⟨b, 2, none⟩ = some u := ⟨_, by rw [X.box.cell]; rfl⟩
              obtain ⟨u2, z2⟩ := z2
              have y2 : w49.frozen? ⟨b, 2, none⟩ = false := X.box.frozen 2
              have st := st.setCell (p := ⟨b, 2, none⟩) (.inr X.box.mine) (.slice (some ⟨g2, 0, none⟩) (n + 1) d2)
              have X := X.set2 (.slice (some ⟨g2, 0, none⟩) (n + 1) d2)
              have G := Lib.hid (And.intro X st)
              clear X st
              go_simp
              obtain ⟨X, st⟩ := G.out
              clear G z2 y2
              generalize w49.setCell ⟨b, 2, none⟩ (.slice (some ⟨g2, 0, none⟩) (n + 1) d2) = w50 at *
              refine hK _ _ (fun h => absurd (h.symm.trans (by kernel_rfl)) Bool.false_ne_true) ?_
              clear hK K
              try simp only [List.getElem_toArray, List.getElem_cons_zero, List.getElem_cons_succ, Act.put, List.setIfInBounds_toArray, List.set_cons_zero, List.set_cons_succ]
              refine wpAnyT_free (i := 28) (v := (.pointer (some ⟨b, 0, none⟩))) rfl (by kernel_rfl) (fun _ _ _ h => h) (Or.inl ⟨by rfl, ?_⟩) (fun h => absurd (h.symm.trans (by kernel_rfl)) Bool.false_ne_true) ?_
              · intro w _; go_simp
              simp only [List.getElem_toArray, List.getElem_cons_zero, List.getElem_cons_succ, Act.put, List.setIfInBounds_toArray, List.set_cons_zero, List.set_cons_succ]
              refine wpAnyT_free (i := 29) (v := (.pointer (some ⟨b, 3, none⟩))) rfl (by kernel_rfl) (fun _ _ _ h => h) (Or.inl ⟨by rfl, ?_⟩) (fun h => absurd (h.symm.trans (by kernel_rfl)) Bool.false_ne_true) ?_
              · intro w _; go_simp
              simp only [List.getElem_toArray, List.getElem_cons_zero, List.getElem_cons_succ, Act.put, List.setIfInBounds_toArray, List.set_cons_zero, List.set_cons_succ]
              refine wpAnyT_ready (rs := [30]) (by kernel_rfl) (by simp) ?_
              refine AllT.cons rfl (fun K hK => ?_) AllT.nil
              have z3 : ∃ u, w50.cell? ⟨b, 3, none⟩ = some u := ⟨_, by rw [X.box.cell]; rfl⟩
              obtain ⟨u3, z3⟩ := z3
              have y3 : w50.frozen? ⟨b, 3, none⟩ = false := X.box.frozen 3
              have st := st.setCell (p := ⟨b, 3, none⟩) (.inr X.box.mine) (.slice (some ⟨g3, 0, none⟩) (n + 1) d3)
              have X := X.set3 (.slice (some ⟨g3, 0, none⟩) (n + 1) d3)
              have G := Lib.hid (And.intro X st)
              clear X st
              go_simp
              obtain ⟨X, st⟩ := G.out
              clear G z3 y3
              generalize w50.setCell ⟨b, 3, none⟩ (.slice (some ⟨g3, 0, none⟩) (n + 1) d3) = w51 at *
              refine hK _ _ (fun h => absurd (h.symm.trans (by kernel_rfl)) Bool.false_ne_true) ?_
              clear hK K
              try simp only [List.getElem_toArray, List.getElem_cons_zero, List.getElem_cons_succ, Act.put, List.setIfInBounds_toArray, List.set_cons_zero, List.set_cons_succ]
              refine wpAnyT_done (by kernel_rfl) ?_ _
              have z3 : w51.cell? ⟨b, 3, none⟩ = some (.slice (some ⟨g3, 0, none⟩) (n + 1) d3) := by rw [X.box.cell]; rfl
              have G := Lib.hid (And.intro X st)
              clear X st
              go_wp2
              go_ret3
              exact ⟨by simp, _, _, _, _, _, G.out.2, rput_shut hn.out HX.out G.out.1⟩
      · have X := X.alloc (.cells #[.int .i64 1] 2) (σ + 1)
        have st := st.alloc (σ + 1) (.cells #[.int .i64 1] 2)
        have t1 := t1.alloc (.cells #[.int .i64 1] 2) (σ + 1)
        have t3 := t3.alloc (.cells #[.int .i64 1] 2) (σ + 1)
        have t2 := Blk.made o44 (σ + 1) w44 #[.int .i64 1] 2
        have F := Lib.hid (And.intro X (And.intro st (And.intro t1 (And.intro t3 t2))))
        clear X st t1 t3 t2
        go_simp
        obtain ⟨X, st, t1, t3, t2⟩ := F.out
        clear F
        generalize w44.heap.size = B2 at *
        generalize w44.alloc (.cells #[.int .i64 1] 2) = w52 at *
        generalize tag o44 B2 (σ + 1) = o52 at *
        refine hK _ _ (fun _ => ⟨by rw [X.box.cell]; rfl, by rw [X.box.cell]; rfl, by rw [X.box.cell]; rfl⟩) ?_
        clear hK K
        try simp only [List.getElem_toArray, List.getElem_cons_zero, List.getElem_cons_succ, Act.put, List.setIfInBounds_toArray, List.set_cons_zero, List.set_cons_succ]
        refine wpAnyT_ready (rs := [8]) (by kernel_rfl) (by simp) ?_
        refine AllT.cons rfl (fun K hK => ?_) (AllT.nil)
        · have R : w52.ownsRow 0 4 1 (.slice Ai n ci) n xi := by have := X.ri.own; rwa [hxi] at this
          refine step_append_lies _ (by rfl) (.tmp 82) (.tmp 83) 43 (by rfl) 0 4 jb (.bool false) 1 1 Try.underlying43 hjb hb0 hb1 hb2 rfl (by decide) (.slice Ai n ci) n xi (by rfl) R ⟨B1, 0, none⟩ 1 1 [.bool true] (by rfl) rfl (news_blk t1) (one_bool _) (by omega) (by unfold maxLen; omega) (by omega) (Nat.zero_le _) w52.heap.size rfl ?_
          intro g1 d1 w53 hown hgrow hat _
          have hloc : (Value.slice (some ⟨g1, 0, none⟩) (n + 1) d1).ownBlock = ((.slice Ai n ci) : Value).ownBlock ∨ (Value.slice (some ⟨g1, 0, none⟩) (n + 1) d1).ownBlock = some w52.heap.size := hat.imp (fun h => h.symm) (fun h => by rw [h]; rfl)
          have t3 := t3.grown hgrow (fun e => by have q1 := X.ri.mine _ e; have q2 := t3.mine; omega) σ
          have t2 := t2.grown hgrow (fun e => by have q1 := X.ri.mine _ e; have q2 := t2.mine; omega) σ
          have st := st.grown hgrow (fun k hk => .inr (X.ri.mine k hk)) σ
          have X := X.app_i (by rw [hxi]; exact hown) hgrow hloc
          clear t1 R hown hgrow hat hloc
          generalize tag o52 w52.heap.size σ = o53 at *
          refine hK _ _ (fun _ => ⟨by rw [X.box.cell]; rfl, by rw [X.box.cell]; rfl, by rw [X.box.cell]; rfl⟩) ?_
          clear hK K
          try simp only [List.getElem_toArray, List.getElem_cons_zero, List.getElem_cons_succ, Act.put, List.setIfInBounds_toArray, List.set_cons_zero, List.set_cons_succ]
          refine wpAnyT_ready (rs := [14]) (by kernel_rfl) (by simp) ?_
          refine AllT.cons rfl (fun K hK => ?_) (AllT.nil)
          · have R : w53.ownsRow 0 2 1 (.slice Ag n cg) n xg := by have := X.rg.own; rwa [hxg] at this
            refine step_append_lies _ (by rfl) (.tmp 88) (.tmp 89) 44 (by rfl) 0 2 jg (.int .i64 0) 1 8 Try.underlying44 hjg hg0 hg1 hg2 rfl (by decide) (.slice Ag n cg) n xg (by rfl) R ⟨B2, 0, none⟩ 1 1 [.int .i64 1] (by rfl) rfl (news_blk t2) (one_int _) (by omega) (by unfold maxLen; omega) (by omega) (Nat.zero_le _) w53.heap.size rfl ?_
            intro g2 d2 w54 hown hgrow hat _
            have hloc : (Value.slice (some ⟨g2, 0, none⟩) (n + 1) d2).ownBlock = ((.slice Ag n cg) : Value).ownBlock ∨ (Value.slice (some ⟨g2, 0, none⟩) (n + 1) d2).ownBlock = some w53.heap.size := hat.imp (fun h => h.symm) (fun h => by rw [h]; rfl)
            have t3 := t3.grown hgrow (fun e => by have q1 := X.rg.mine _ e; have q2 := t3.mine; omega) σ
            have st := st.grown hgrow (fun k hk => .inr (X.rg.mine k hk)) σ
            have X := X.app_g (by rw [hxg]; exact hown) hgrow hloc
            clear t2 R hown hgrow hat hloc
            generalize tag o53 w53.heap.size σ = o54 at *
            refine hK _ _ (fun _ => ⟨by rw [X.box.cell]; rfl, by rw [X.box.cell]; rfl, by rw [X.box.cell]; rfl⟩) ?_
            clear hK K
            try simp only [List.getElem_toArray, List.getElem_cons_zero, List.getElem_cons_succ, Act.put, List.setIfInBounds_toArray, List.set_cons_zero, List.set_cons_succ]
            refine wpAnyT_ready (rs := [21]) (by kernel_rfl) (by simp) ?_
            refine AllT.cons rfl (fun K hK => ?_) (AllT.nil)
            · have R : w54.ownsRow 0 9 1 (.slice Av n cv) n xv := by have := X.rv.own; rwa [hxv] at this
              refine step_append_lies _ (by rfl) (.tmp 94) (.tmp 96) 45 (by rfl) 0 9 jv (.string ⟨#[]⟩) 1 16 Try.underlying45 hjv hv0 hv1 hv2 rfl (by decide) (.slice Av n cv) n xv (by rfl) R ⟨B3, 0, none⟩ 1 1 [.string v] (by rfl) rfl (news_blk t3) (one_str _) (by omega) (by unfold maxLen; omega) (by omega) (Nat.zero_le _) w54.heap.size rfl ?_
              intro g3 d3 w55 hown hgrow hat _
              have hloc : (Value.slice (some ⟨g3, 0, none⟩) (n + 1) d3).ownBlock = ((.slice Av n cv) : Value).ownBlock ∨ (Value.slice (some ⟨g3, 0, none⟩) (n + 1) d3).ownBlock = some w54.heap.size := hat.imp (fun h => h.symm) (fun h => by rw [h]; rfl)
              have st := st.grown hgrow (fun k hk => .inr (X.rv.mine k hk)) σ
              have X := X.app_v (by rw [hxv]; exact hown) hgrow hloc
              clear t3 R hown hgrow hat hloc
              generalize tag o54 w54.heap.size σ = o55 at *
              refine hK _ _ (fun _ => ⟨by rw [X.box.cell]; rfl, by rw [X.box.cell]; rfl, by rw [X.box.cell]; rfl⟩) ?_
              clear hK K
              try simp only [List.getElem_toArray, List.getElem_cons_zero, List.getElem_cons_succ, Act.put, List.setIfInBounds_toArray, List.set_cons_zero, List.set_cons_succ]
              refine wpAnyT_free (i := 22) (v := (.pointer (some ⟨b, 0, none⟩))) rfl (by kernel_rfl) (fun _ _ _ h => h) (Or.inl ⟨by rfl, ?_⟩) (fun _ => ⟨by rw [X.box.cell]; rfl, by rw [X.box.cell]; rfl, by rw [X.box.cell]; rfl⟩) ?_
              · intro w _; go_simp
              simp only [List.getElem_toArray, List.getElem_cons_zero, List.getElem_cons_succ, Act.put, List.setIfInBounds_toArray, List.set_cons_zero, List.set_cons_succ]
              refine wpAnyT_free (i := 23) (v := (.pointer (some ⟨b, 1, none⟩))) rfl (by kernel_rfl) (fun _ _ _ h => h) (Or.inl ⟨by rfl, ?_⟩) (fun _ => ⟨by rw [X.box.cell]; rfl, by rw [X.box.cell]; rfl, by rw [X.box.cell]; rfl⟩) ?_
              · intro w _; go_simp
              simp only [List.getElem_toArray, List.getElem_cons_zero, List.getElem_cons_succ, Act.put, List.setIfInBounds_toArray, List.set_cons_zero, List.set_cons_succ]
              refine wpAnyT_ready (rs := [24]) (by kernel_rfl) (by simp) ?_
              refine AllT.cons rfl (fun K hK => ?_) AllT.nil
              have z1 : ∃ u, w55.cell? ⟨b, 1, none⟩ = some u := ⟨_, by rw [X.box.cell]; rfl⟩
              obtain ⟨u1, z1⟩ := z1
              have y1 : w55.frozen? ⟨b, 1, none⟩ = false := X.box.frozen 1
              have st := st.setCell (p := ⟨b, 1, none⟩) (.inr X.box.mine) (.slice (some ⟨g1, 0, none⟩) (n + 1) d1)
              have X := X.set1 (.slice (some ⟨g1, 0, none⟩) (n + 1) d1)
              have G := Lib.hid (And.intro X st)
              clear X st
              go_simp
              obtain ⟨X, st⟩ := G.out
              clear G z1 y1
              generalize w55.setCell ⟨b, 1, none⟩ (.slice (some ⟨g1, 0, none⟩) (n + 1) d1) = w56 at *
              refine hK _ _ (fun h => absurd (h.symm.trans (by kernel_rfl)) Bool.false_ne_true) ?_
              clear hK K
              try simp only [List.getElem_toArray, List.getElem_cons_zero, List.getElem_cons_succ, Act.put, List.setIfInBounds_toArray, List.set_cons_zero, List.set_cons_succ]
              refine wpAnyT_free (i := 25) (v := (.pointer (some ⟨b, 0, none⟩))) rfl (by kernel_rfl) (fun _ _ _ h => h) (Or.inl ⟨by rfl, ?_⟩) (fun h => absurd (h.symm.trans (by kernel_rfl)) Bool.false_ne_true) ?_
              · intro w _; go_simp
              simp only [List.getElem_toArray, List.getElem_cons_zero, List.getElem_cons_succ, Act.put, List.setIfInBounds_toArray, List.set_cons_zero, List.set_cons_succ]
              refine wpAnyT_free (i := 26) (v := (.pointer (some ⟨b, 2, none⟩))) rfl (by kernel_rfl) (fun _ _ _ h => h) (Or.inl ⟨by rfl, ?_⟩) (fun h => absurd (h.symm.trans (by kernel_rfl)) Bool.false_ne_true) ?_
              · intro w _; go_simp
              simp only [List.getElem_toArray, List.getElem_cons_zero, List.getElem_cons_succ, Act.put, List.setIfInBounds_toArray, List.set_cons_zero, List.set_cons_succ]
              refine wpAnyT_ready (rs := [27]) (by kernel_rfl) (by simp) ?_
              refine AllT.cons rfl (fun K hK => ?_) AllT.nil
              have z2 : ∃ u, w56.cell? ⟨b, 2, none⟩ = some u := ⟨_, by rw [X.box.cell]; rfl⟩
              obtain ⟨u2, z2⟩ := z2
              have y2 : w56.frozen? ⟨b, 2, none⟩ = false := X.box.frozen 2
              have st := st.setCell (p := ⟨b, 2, none⟩) (.inr X.box.mine) (.slice (some ⟨g2, 0, none⟩) (n + 1) d2)
              have X := X.set2 (.slice (some ⟨g2, 0, none⟩) (n + 1) d2)
              have G := Lib.hid (And.intro X st)
              clear X st
              go_simp
              obtain ⟨X, st⟩ := G.out
              clear G z2 y2
              generalize w56.setCell ⟨b, 2, none⟩ (.slice (some ⟨g2, 0, none⟩) (n + 1) d2) = w57 at *
              refine hK _ _ (fun h => absurd (h.symm.trans (by kernel_rfl)) Bool.false_ne_true) ?_
              clear hK K
              try simp only [List.getElem_toArray, List.getElem_cons_zero, List.getElem_cons_succ, Act.put, List.setIfInBounds_toArray, List.set_cons_zero, List.set_cons_succ]
              refine wpAnyT_free (i := 28) (v := (.pointer (some ⟨b, 0, none⟩))) rfl (by kernel_rfl) (fun _ _ _ h => h) (Or.inl ⟨by rfl, ?_⟩) (fun h => absurd (h.symm.trans (by kernel_rfl)) Bool.false_ne_true) ?_
              · intro w _; go_simp
              simp only [List.getElem_toArray, List.getElem_cons_zero, List.getElem_cons_succ, Act.put, List.setIfInBounds_toArray, List.set_cons_zero, List.set_cons_succ]
              refine wpAnyT_free (i := 29) (v := (.pointer (some ⟨b, 3, none⟩))) rfl (by kernel_rfl) (fun _ _ _ h => h) (Or.inl ⟨by rfl, ?_⟩) (fun h => absurd (h.symm.trans (by kernel_rfl)) Bool.false_ne_true) ?_
              · intro w _; go_simp
              simp only [List.getElem_toArray, List.getElem_cons_zero, List.getElem_cons_succ, Act.put, List.setIfInBounds_toArray, List.set_cons_zero, List.set_cons_succ]
              refine wpAnyT_ready (rs := [30]) (by kernel_rfl) (by simp) ?_
              refine AllT.cons rfl (fun K hK => ?_) AllT.nil
              have z3 : ∃ u, w57.cell? ⟨b, 3, none⟩ = some u := ⟨_, by rw [X.box.cell]; rfl⟩
              obtain ⟨u3, z3⟩ := z3
              have y3 : w57.frozen? ⟨b, 3, none⟩ = false := X.box.frozen 3
              have st := st.setCell (p := ⟨b, 3, none⟩) (.inr X.box.mine) (.slice (some ⟨g3, 0, none⟩) (n + 1) d3)
              have X := X.set3 (.slice (some ⟨g3, 0, none⟩) (n + 1) d3)
              have G := Lib.hid (And.intro X st)
              clear X st
              go_simp
              obtain ⟨X, st⟩ := G.out
              clear G z3 y3
              generalize w57.setCell ⟨b, 3, none⟩ (.slice (some ⟨g3, 0, none⟩) (n + 1) d3) = w58 at *
              refine hK _ _ (fun h => absurd (h.symm.trans (by kernel_rfl)) Bool.false_ne_true) ?_
              clear hK K
              try simp only [List.getElem_toArray, List.getElem_cons_zero, List.getElem_cons_succ, Act.put, List.setIfInBounds_toArray, List.set_cons_zero, List.set_cons_succ]
              refine wpAnyT_done (by kernel_rfl) ?_ _
              have z3 : w58.cell? ⟨b, 3, none⟩ = some (.slice (some ⟨g3, 0, none⟩) (n + 1) d3) := by rw [X.box.cell]; rfl
              have G := Lib.hid (And.intro X st)
              clear X st
              go_wp2
              go_ret3
              exact ⟨by simp, _, _, _, _, _, G.out.2, rput_shut hn.out HX.out G.out.1⟩
  · have X := X.alloc (.cells #[.int .i64 1] 2) (σ + 1)
    have st := st.alloc (σ + 1) (.cells #[.int .i64 1] 2)
    have t2 := Blk.made o (σ + 1) wA #[.int .i64 1] 2
    have F := Lib.hid (And.intro X (And.intro st t2))
    clear X st t2
    go_simp
    obtain ⟨X, st, t2⟩ := F.out
    clear F
    generalize wA.heap.size = B2 at *
    generalize wA.alloc (.cells #[.int .i64 1] 2) = w59 at *
    generalize tag o B2 (σ + 1) = o59 at *
    refine hK _ _ (fun _ => ⟨by rw [X.box.cell]; rfl, by rw [X.box.cell]; rfl, by rw [X.box.cell]; rfl⟩) ?_
    clear hK K
    try simp only [List.getElem_toArray, List.getElem_cons_zero, List.getElem_cons_succ, Act.put, List.setIfInBounds_toArray, List.set_cons_zero, List.set_cons_succ]
    refine wpAnyT_ready (rs := [7, 20]) (by kernel_rfl) (by simp) ?_
    refine AllT.cons rfl (fun K hK => ?_) (AllT.cons rfl (fun K hK => ?_) (AllT.nil))
    · have X := X.alloc (.cells #[.bool true] 4) (σ + 1)
      have st := st.alloc (σ + 1) (.cells #[.bool true] 4)
      have t2 := t2.alloc (.cells #[.bool true] 4) (σ + 1)
      have t1 := Blk.made o59 (σ + 1) w59 #[.bool true] 4
      have F := Lib.hid (And.intro X (And.intro st (And.intro t2 t1)))
      clear X st t2 t1
      go_simp
      obtain ⟨X, st, t2, t1⟩ := F.out
      clear F
      generalize w59.heap.size = B1 at *
      generalize w59.alloc (.cells #[.bool true] 4) = w60 at *
      generalize tag o59 B1 (σ + 1) = o60 at *
      refine hK _ _ (fun _ => ⟨by rw [X.box.cell]; rfl, by rw [X.box.cell]; rfl, by rw [X.box.cell]; rfl⟩) ?_
      clear hK K
      try simp only [List.getElem_toArray, List.getElem_cons_zero, List.getElem_cons_succ, Act.put, List.setIfInBounds_toArray, List.set_cons_zero, List.set_cons_succ]
      refine wpAnyT_ready (rs := [8, 20]) (by kernel_rfl) (by simp) ?_
      refine AllT.cons rfl (fun K hK => ?_) (AllT.cons rfl (fun K hK => ?_) (AllT.nil))
      · have R : w60.ownsRow 0 4 1 (.slice Ai n ci) n xi := by have := X.ri.own; rwa [hxi] at this
        refine step_append_lies _ (by rfl) (.tmp 82) (.tmp 83) 43 (by rfl) 0 4 jb (.bool false) 1 1 Try.underlying43 hjb hb0 hb1 hb2 rfl (by decide) (.slice Ai n ci) n xi (by rfl) R ⟨B1, 0, none⟩ 1 1 [.bool true] (by rfl) rfl (news_blk t1) (one_bool _) (by omega) (by unfold maxLen; omega) (by omega) (Nat.zero_le _) w60.heap.size rfl ?_
        intro g1 d1 w61 hown hgrow hat _
        have hloc : (Value.slice (some ⟨g1, 0, none⟩) (n + 1) d1).ownBlock = ((.slice Ai n ci) : Value).ownBlock ∨ (Value.slice (some ⟨g1, 0, none⟩) (n + 1) d1).ownBlock = some w60.heap.size := hat.imp (fun h => h.symm) (fun h => by rw [h]; rfl)
        have t2 := t2.grown hgrow (fun e => by have q1 := X.ri.mine _ e; have q2 := t2.mine; omega) σ
        have st := st.grown hgrow (fun k hk => .inr (X.ri.mine k hk)) σ
        have X := X.app_i (by rw [hxi]; exact hown) hgrow hloc
        clear t1 R hown hgrow hat hloc
        generalize tag o60 w60.heap.size σ = o61 at *
        refine hK _ _ (fun _ => ⟨by rw [X.box.cell]; rfl, by rw [X.box.cell]; rfl, by rw [X.box.cell]; rfl⟩) ?_
        clear hK K
        try simp only [List.getElem_toArray, List.getElem_cons_zero, List.getElem_cons_succ, Act.put, List.setIfInBounds_toArray, List.set_cons_zero, List.set_cons_succ]
        refine wpAnyT_ready (rs := [14, 20]) (by kernel_rfl) (by simp) ?_
        refine AllT.cons rfl (fun K hK => ?_) (AllT.cons rfl (fun K hK => ?_) (AllT.nil))
        · have R : w61.ownsRow 0 2 1 (.slice Ag n cg) n xg := by have := X.rg.own; rwa [hxg] at this
          refine step_append_lies _ (by rfl) (.tmp 88) (.tmp 89) 44 (by rfl) 0 2 jg (.int .i64 0) 1 8 Try.underlying44 hjg hg0 hg1 hg2 rfl (by decide) (.slice Ag n cg) n xg (by rfl) R ⟨B2, 0, none⟩ 1 1 [.int .i64 1] (by rfl) rfl (news_blk t2) (one_int _) (by omega) (by unfold maxLen; omega) (by omega) (Nat.zero_le _) w61.heap.size rfl ?_
          intro g2 d2 w62 hown hgrow hat _
          have hloc : (Value.slice (some ⟨g2, 0, none⟩) (n + 1) d2).ownBlock = ((.slice Ag n cg) : Value).ownBlock ∨ (Value.slice (some ⟨g2, 0, none⟩) (n + 1) d2).ownBlock = some w61.heap.size := hat.imp (fun h => h.symm) (fun h => by rw [h]; rfl)
          have st := st.grown hgrow (fun k hk => .inr (X.rg.mine k hk)) σ
          have X := X.app_g (by rw [hxg]; exact hown) hgrow hloc
          clear t2 R hown hgrow hat hloc
          generalize tag o61 w61.heap.size σ = o62 at *
          refine hK _ _ (fun _ => ⟨by rw [X.box.cell]; rfl, by rw [X.box.cell]; rfl, by rw [X.box.cell]; rfl⟩) ?_
          clear hK K
          try simp only [List.getElem_toArray, List.getElem_cons_zero, List.getElem_cons_succ, Act.put, List.setIfInBounds_toArray, List.set_cons_zero, List.set_cons_succ]
          refine wpAnyT_ready (rs := [20]) (by kernel_rfl) (by simp) ?_
          refine AllT.cons rfl (fun K hK => ?_) (AllT.nil)
          · have X := X.alloc (.cells #[.string v] 9) (σ + 1)
            have st := st.alloc (σ + 1) (.cells #[.string v] 9)
            have t3 := Blk.made o62 (σ + 1) w62 #[.string v] 9
            have F := Lib.hid (And.intro X (And.intro st t3))
            clear X st t3
            go_simp
            obtain ⟨X, st, t3⟩ := F.out
            clear F
            generalize w62.heap.size = B3 at *
            generalize w62.alloc (.cells #[.string v] 9) = w63 at *
            generalize tag o62 B3 (σ + 1) = o63 at *
            refine hK _ _ (fun _ => ⟨by rw [X.box.cell]; rfl, by rw [X.box.cell]; rfl, by rw [X.box.cell]; rfl⟩) ?_
            clear hK K
            try simp only [List.getElem_toArray, List.getElem_cons_zero, List.getElem_cons_succ, Act.put, List.setIfInBounds_toArray, List.set_cons_zero, List.set_cons_succ]
            refine wpAnyT_ready (rs := [21]) (by kernel_rfl) (by simp) ?_
            refine AllT.cons rfl (fun K hK => ?_) (AllT.nil)
            · have R : w63.ownsRow 0 9 1 (.slice Av n cv) n xv := by have := X.rv.own; rwa [hxv] at this
              refine step_append_lies _ (by rfl) (.tmp 94) (.tmp 96) 45 (by rfl) 0 9 jv (.string ⟨#[]⟩) 1 16 Try.underlying45 hjv hv0 hv1 hv2 rfl (by decide) (.slice Av n cv) n xv (by rfl) R ⟨B3, 0, none⟩ 1 1 [.string v] (by rfl) rfl (news_blk t3) (one_str _) (by omega) (by unfold maxLen; omega) (by omega) (Nat.zero_le _) w63.heap.size rfl ?_
              intro g3 d3 w64 hown hgrow hat _
              have hloc : (Value.slice (some ⟨g3, 0, none⟩) (n + 1) d3).ownBlock = ((.slice Av n cv) : Value).ownBlock ∨ (Value.slice (some ⟨g3, 0, none⟩) (n + 1) d3).ownBlock = some w63.heap.size := hat.imp (fun h => h.symm) (fun h => by rw [h]; rfl)
              have st := st.grown hgrow (fun k hk => .inr (X.rv.mine k hk)) σ
              have X := X.app_v (by rw [hxv]; exact hown) hgrow hloc
              clear t3 R hown hgrow hat hloc
              generalize tag o63 w63.heap.size σ = o64 at *
              refine hK _ _ (fun _ => ⟨by rw [X.box.cell]; rfl, by rw [X.box.cell]; rfl, by rw [X.box.cell]; rfl⟩) ?_
              clear hK K
              try simp only [List.getElem_toArray, List.getElem_cons_zero, List.getElem_cons_succ, Act.put, List.setIfInBounds_toArray, List.set_cons_zero, List.set_cons_succ]
              refine wpAnyT_free (i := 22) (v := (.pointer (some ⟨b, 0, none⟩))) rfl (by kernel_rfl) (fun _ _ _ h => h) (Or.inl ⟨by rfl, ?_⟩) (fun _ => ⟨by rw [X.box.cell]; rfl, by rw [X.box.cell]; rfl, by rw [X.box.cell]; rfl⟩) ?_
              · intro w _; go_simp
              simp only [List.getElem_toArray, List.getElem_cons_zero, List.getElem_cons_succ, Act.put, List.setIfInBounds_toArray, List.set_cons_zero, List.set_cons_succ]
              refine wpAnyT_free (i := 23) (v := (.pointer (some ⟨b, 1, none⟩))) rfl (by kernel_rfl) (fun _ _ _ h => h) (Or.inl ⟨by rfl, ?_⟩) (fun _ => ⟨by rw [X.box.cell]; rfl, by rw [X.box.cell]; rfl, by rw [X.box.cell]; rfl⟩) ?_
              · intro w _; go_simp
              simp only [List.getElem_toArray, List.getElem_cons_zero, List.getElem_cons_succ, Act.put, List.setIfInBounds_toArray, List.set_cons_zero, List.set_cons_succ]
              refine wpAnyT_ready (rs := [24]) (by kernel_rfl) (by simp) ?_
              refine AllT.cons rfl (fun K hK => ?_) AllT.nil
              have z1 : ∃ u, w64.cell? ⟨b, 1, none⟩ = some u := ⟨_, by rw [X.box.cell]; rfl⟩
              obtain ⟨u1, z1⟩ := z1
              have y1 : w64.frozen? ⟨b, 1, none⟩ = false := X.box.frozen 1
              have st := st.setCell (p := ⟨b, 1, none⟩) (.inr X.box.mine) (.slice (some ⟨g1, 0, none⟩) (n + 1) d1)
              have X := X.set1 (.slice (some ⟨g1, 0, none⟩) (n + 1) d1)
              have G := Lib.hid (And.intro X st)
              clear X st
              go_simp
              obtain ⟨X, st⟩ := G.out
              clear G z1 y1
              generalize w64.setCell ⟨b, 1, none⟩ (.slice (some ⟨g1, 0, none⟩) (n + 1) d1) = w65 at *
              refine hK _ _ (fun h => absurd (h.symm.trans (by kernel_rfl)) Bool.false_ne_true) ?_
              clear hK K
              try simp only [List.getElem_toArray, List.getElem_cons_zero, List.getElem_cons_succ, Act.put, List.setIfInBounds_toArray, List.set_cons_zero, List.set_cons_succ]
              refine wpAnyT_free (i := 25) (v := (.pointer (some ⟨b, 0, none⟩))) rfl (by kernel_rfl) (fun _ _ _ h => h) (Or.inl ⟨by rfl, ?_⟩) (fun h => absurd (h.symm.trans (by kernel_rfl)) Bool.false_ne_true) ?_
              · intro w _; go_simp
              simp only [List.getElem_toArray, List.getElem_cons_zero, List.getElem_cons_succ, Act.put, List.setIfInBounds_toArray, List.set_cons_zero, List.set_cons_succ]
              refine wpAnyT_free (i := 26) (v := (.pointer (some ⟨b, 2, none⟩))) rfl (by kernel_rfl) (fun _ _ _ h => h) (Or.inl ⟨by rfl, ?_⟩) (fun h => absurd (h.symm.trans (by kernel_rfl)) Bool.false_ne_true) ?_
              · intro w _; go_simp
              simp only [List.getElem_toArray, List.getElem_cons_zero, List.getElem_cons_succ, Act.put, List.setIfInBounds_toArray, List.set_cons_zero, List.set_cons_succ]
              refine wpAnyT_ready (rs := [27]) (by kernel_rfl) (by simp) ?_
              refine AllT.cons rfl (fun K hK => ?_) AllT.nil
              have z2 : ∃ u, w65.cell? ⟨b, 2, none⟩ = some u := ⟨_, by rw [X.box.cell]; rfl⟩
              obtain ⟨u2, z2⟩ := z2
              have y2 : w65.frozen? ⟨b, 2, none⟩ = false := X.box.frozen 2
              have st := st.setCell (p := ⟨b, 2, none⟩) (.inr X.box.mine) (.slice (some ⟨g2, 0, none⟩) (n + 1) d2)
              have X := X.set2 (.slice (some ⟨g2, 0, none⟩) (n + 1) d2)
              have G := Lib.hid (And.intro X st)
              clear X st
              go_simp
              obtain ⟨X, st⟩ := G.out
              clear G z2 y2
              generalize w65.setCell ⟨b, 2, none⟩ (.slice (some ⟨g2, 0, none⟩) (n + 1) d2) = w66 at *
              refine hK _ _ (fun h => absurd (h.symm.trans (by kernel_rfl)) Bool.false_ne_true) ?_
              clear hK K
              try simp only [List.getElem_toArray, List.getElem_cons_zero, List.getElem_cons_succ, Act.put, List.setIfInBounds_toArray, List.set_cons_zero, List.set_cons_succ]
              refine wpAnyT_free (i := 28) (v := (.pointer (some ⟨b, 0, none⟩))) rfl (by kernel_rfl) (fun _ _ _ h => h) (Or.inl ⟨by rfl, ?_⟩) (fun h => absurd (h.symm.trans (by kernel_rfl)) Bool.false_ne_true) ?_
              · intro w _; go_simp
              simp only [List.getElem_toArray, List.getElem_cons_zero, List.getElem_cons_succ, Act.put, List.setIfInBounds_toArray, List.set_cons_zero, List.set_cons_succ]
              refine wpAnyT_free (i := 29) (v := (.pointer (some ⟨b, 3, none⟩))) rfl (by kernel_rfl) (fun _ _ _ h => h) (Or.inl ⟨by rfl, ?_⟩) (fun h => absurd (h.symm.trans (by kernel_rfl)) Bool.false_ne_true) ?_
              · intro w _; go_simp
              simp only [List.getElem_toArray, List.getElem_cons_zero, List.getElem_cons_succ, Act.put, List.setIfInBounds_toArray, List.set_cons_zero, List.set_cons_succ]
              refine wpAnyT_ready (rs := [30]) (by kernel_rfl) (by simp) ?_
              refine AllT.cons rfl (fun K hK => ?_) AllT.nil
              have z3 : ∃ u, w66.cell? ⟨b, 3, none⟩ = some u := ⟨_, by rw [X.box.cell]; rfl⟩
              obtain ⟨u3, z3⟩ := z3
              have y3 : w66.frozen? ⟨b, 3, none⟩ = false := X.box.frozen 3
              have st := st.setCell (p := ⟨b, 3, none⟩) (.inr X.box.mine) (.slice (some ⟨g3, 0, none⟩) (n + 1) d3)
              have X := X.set3 (.slice (some ⟨g3, 0, none⟩) (n + 1) d3)
              have G := Lib.hid (And.intro X st)
              clear X st
              go_simp
              obtain ⟨X, st⟩ := G.out
              clear G z3 y3
              generalize w66.setCell ⟨b, 3, none⟩ (.slice (some ⟨g3, 0, none⟩) (n + 1) d3) = w67 at *
              refine hK _ _ (fun h => absurd (h.symm.trans (by kernel_rfl)) Bool.false_ne_true) ?_
              clear hK K
              try simp only [List.getElem_toArray, List.getElem_cons_zero, List.getElem_cons_succ, Act.put, List.setIfInBounds_toArray, List.set_cons_zero, List.set_cons_succ]
              refine wpAnyT_done (by kernel_rfl) ?_ _
              have z3 : w67.cell? ⟨b, 3, none⟩ = some (.slice (some ⟨g3, 0, none⟩) (n + 1) d3) := by rw [X.box.cell]; rfl
              have G := Lib.hid (And.intro X st)
              clear X st
              go_wp2
              go_ret3
              exact ⟨by simp, _, _, _, _, _, G.out.2, rput_shut hn.out HX.out G.out.1⟩
        · have X := X.alloc (.cells #[.string v] 9) (σ + 1)
          have st := st.alloc (σ + 1) (.cells #[.string v] 9)
          have t2 := t2.alloc (.cells #[.string v] 9) (σ + 1)
          have t3 := Blk.made o61 (σ + 1) w61 #[.string v] 9
          have F := Lib.hid (And.intro X (And.intro st (And.intro t2 t3)))
          clear X st t2 t3
          go_simp
          obtain ⟨X, st, t2, t3⟩ := F.out
          clear F
          generalize w61.heap.size = B3 at *
          generalize w61.alloc (.cells #[.string v] 9) = w68 at *
          generalize tag o61 B3 (σ + 1) = o68 at *
          refine hK _ _ (fun _ => ⟨by rw [X.box.cell]; rfl, by rw [X.box.cell]; rfl, by rw [X.box.cell]; rfl⟩) ?_
          clear hK K
          try simp only [List.getElem_toArray, List.getElem_cons_zero, List.getElem_cons_succ, Act.put, List.setIfInBounds_toArray, List.set_cons_zero, List.set_cons_succ]
          refine wpAnyT_ready (rs := [14]) (by kernel_rfl) (by simp) ?_
          refine AllT.cons rfl (fun K hK => ?_) (AllT.nil)
          · have R : w68.ownsRow 0 2 1 (.slice Ag n cg) n xg := by have := X.rg.own; rwa [hxg] at this
            refine step_append_lies _ (by rfl) (.tmp 88) (.tmp 89) 44 (by rfl) 0 2 jg (.int .i64 0) 1 8 Try.underlying44 hjg hg0 hg1 hg2 rfl (by decide) (.slice Ag n cg) n xg (by rfl) R ⟨B2, 0, none⟩ 1 1 [.int .i64 1] (by rfl) rfl (news_blk t2) (one_int _) (by omega) (by unfold maxLen; omega) (by omega) (Nat.zero_le _) w68.heap.size rfl ?_
            intro g2 d2 w69 hown hgrow hat _
            have hloc : (Value.slice (some ⟨g2, 0, none⟩) (n + 1) d2).ownBlock = ((.slice Ag n cg) : Value).ownBlock ∨ (Value.slice (some ⟨g2, 0, none⟩) (n + 1) d2).ownBlock = some w68.heap.size := hat.imp (fun h => h.symm) (fun h => by rw [h]; rfl)
            have t3 := t3.grown hgrow (fun e => by have q1 := X.rg.mine _ e; have q2 := t3.mine; omega) σ
            have st := st.grown hgrow (fun k hk => .inr (X.rg.mine k hk)) σ
            have X := X.app_g (by rw [hxg]; exact hown) hgrow hloc
            clear t2 R hown hgrow hat hloc
            generalize tag o68 w68.heap.size σ = o69 at *
            refine hK _ _ (fun _ => ⟨by rw [X.box.cell]; rfl, by rw [X.box.cell]; rfl, by rw [X.box.cell]; rfl⟩) ?_
            clear hK K
            try simp only [List.getElem_toArray, List.getElem_cons_zero, List.getElem_cons_succ, Act.put, List.setIfInBounds_toArray, List.set_cons_zero, List.set_cons_succ]
            refine wpAnyT_ready (rs := [21]) (by kernel_rfl) (by simp) ?_
            refine AllT.cons rfl (fun K hK => ?_) (AllT.nil)
            · have R : w69.ownsRow 0 9 1 (.slice Av n cv) n xv := by have := X.rv.own; rwa [hxv] at this
              refine step_append_lies _ (by rfl) (.tmp 94) (.tmp 96) 45 (by rfl) 0 9 jv (.string ⟨#[]⟩) 1 16 Try.underlying45 hjv hv0 hv1 hv2 rfl (by decide) (.slice Av n cv) n xv (by rfl) R ⟨B3, 0, none⟩ 1 1 [.string v] (by rfl) rfl (news_blk t3) (one_str _) (by omega) (by unfold maxLen; omega) (by omega) (Nat.zero_le _) w69.heap.size rfl ?_
              intro g3 d3 w70 hown hgrow hat _
              have hloc : (Value.slice (some ⟨g3, 0, none⟩) (n + 1) d3).ownBlock = ((.slice Av n cv) : Value).ownBlock ∨ (Value.slice (some ⟨g3, 0, none⟩) (n + 1) d3).ownBlock = some w69.heap.size := hat.imp (fun h => h.symm) (fun h => by rw [h]; rfl)
              have st := st.grown hgrow (fun k hk => .inr (X.rv.mine k hk)) σ
              have X := X.app_v (by rw [hxv]; exact hown) hgrow hloc
              clear t3 R hown hgrow hat hloc
              generalize tag o69 w69.heap.size σ = o70 at *
              refine hK _ _ (fun _ => ⟨by rw [X.box.cell]; rfl, by rw [X.box.cell]; rfl, by rw [X.box.cell]; rfl⟩) ?_
              clear hK K
              try simp only [List.getElem_toArray, List.getElem_cons_zero, List.getElem_cons_succ, Act.put, List.setIfInBounds_toArray, List.set_cons_zero, List.set_cons_succ]
              refine wpAnyT_free (i := 22) (v := (.pointer (some ⟨b, 0, none⟩))) rfl (by kernel_rfl) (fun _ _ _ h => h) (Or.inl ⟨by rfl, ?_⟩) (fun _ => ⟨by rw [X.box.cell]; rfl, by rw [X.box.cell]; rfl, by rw [X.box.cell]; rfl⟩) ?_
              · intro w _; go_simp
              simp only [List.getElem_toArray, List.getElem_cons_zero, List.getElem_cons_succ, Act.put, List.setIfInBounds_toArray, List.set_cons_zero, List.set_cons_succ]
              refine wpAnyT_free (i := 23) (v := (.pointer (some ⟨b, 1, none⟩))) rfl (by kernel_rfl) (fun _ _ _ h => h) (Or.inl ⟨by rfl, ?_⟩) (fun _ => ⟨by rw [X.box.cell]; rfl, by rw [X.box.cell]; rfl, by rw [X.box.cell]; rfl⟩) ?_
              · intro w _; go_simp
              simp only [List.getElem_toArray, List.getElem_cons_zero, List.getElem_cons_succ, Act.put, List.setIfInBounds_toArray, List.set_cons_zero, List.set_cons_succ]
              refine wpAnyT_ready (rs := [24]) (by kernel_rfl) (by simp) ?_
              refine AllT.cons rfl (fun K hK => ?_) AllT.nil
              have z1 : ∃ u, w70.cell? ⟨b, 1, none⟩ = some u := ⟨_, by rw [X.box.cell]; rfl⟩
              obtain ⟨u1, z1⟩ := z1
              have y1 : w70.frozen? ⟨b, 1, none⟩ = false := X.box.frozen 1
              have st := st.setCell (p := ⟨b, 1, none⟩) (.inr X.box.mine) (.slice (some ⟨g1, 0, none⟩) (n + 1) d1)
              have X := X.set1 (.slice (some ⟨g1, 0, none⟩) (n + 1) d1)
              have G := Lib.hid (And.intro X st)
              clear X st
              go_simp
              obtain ⟨X, st⟩ := G.out
              clear G z1 y1
              generalize w70.setCell ⟨b, 1, none⟩ (.slice (some ⟨g1, 0, none⟩) (n + 1) d1) = w71 at *
              refine hK _ _ (fun h => absurd (h.symm.trans (by kernel_rfl)) Bool.false_ne_true) ?_
              clear hK K
              try simp only [List.getElem_toArray, List.getElem_cons_zero, List.getElem_cons_succ, Act.put, List.setIfInBounds_toArray, List.set_cons_zero, List.set_cons_succ]
              refine wpAnyT_free (i := 25) (v := (.pointer (some ⟨b, 0, none⟩))) rfl (by kernel_rfl) (fun _ _ _ h => h) (Or.inl ⟨by rfl, ?_⟩) (fun h => absurd (h.symm.trans (by kernel_rfl)) Bool.false_ne_true) ?_
              · intro w _; go_simp
              simp only [List.getElem_toArray, List.getElem_cons_zero, List.getElem_cons_succ, Act.put, List.setIfInBounds_toArray, List.set_cons_zero, List.set_cons_succ]
              refine wpAnyT_free (i := 26) (v := (.pointer (some ⟨b, 2, none⟩))) rfl (by kernel_rfl) (fun _ _ _ h => h) (Or.inl ⟨by rfl, ?_⟩) (fun h => absurd (h.symm.trans (by kernel_rfl)) Bool.false_ne_true) ?_
              · intro w _; go_simp
              simp only [List.getElem_toArray, List.getElem_cons_zero, List.getElem_cons_succ, Act.put, List.setIfInBounds_toArray, List.set_cons_zero, List.set_cons_succ]
              refine wpAnyT_ready (rs := [27]) (by kernel_rfl) (by simp) ?_
              refine AllT.cons rfl (fun K hK => ?_) AllT.nil
              have z2 : ∃ u, w71.cell? ⟨b, 2, none⟩ = some u := ⟨_, by rw [X.box.cell]; rfl⟩
              obtain ⟨u2, z2⟩ := z2
              have y2 : w71.frozen? ⟨b, 2, none⟩ = false := X.box.frozen 2
              have st := st.setCell (p := ⟨b, 2, none⟩) (.inr X.box.mine) (.slice (some ⟨g2, 0, none⟩) (n + 1) d2)
              have X := X.set2 (.slice (some ⟨g2, 0, none⟩) (n + 1) d2)
              have G := Lib.hid (And.intro X st)
              clear X st
              go_simp
              obtain ⟨X, st⟩ := G.out
              clear G z2 y2
              generalize w71.setCell ⟨b, 2, none⟩ (.slice (some ⟨g2, 0, none⟩) (n + 1) d2) = w72 at *
              refine hK _ _ (fun h => absurd (h.symm.trans (by kernel_rfl)) Bool.false_ne_true) ?_
              clear hK K
              try simp only [List.getElem_toArray, List.getElem_cons_zero, List.getElem_cons_succ, Act.put, List.setIfInBounds_toArray, List.set_cons_zero, List.set_cons_succ]
              refine wpAnyT_free (i := 28) (v := (.pointer (some ⟨b, 0, none⟩))) rfl (by kernel_rfl) (fun _ _ _ h => h) (Or.inl ⟨by rfl, ?_⟩) (fun h => absurd (h.symm.trans (by kernel_rfl)) Bool.false_ne_true) ?_
              · intro w _; go_simp
              simp only [List.getElem_toArray, List.getElem_cons_zero, List.getElem_cons_succ, Act.put, List.setIfInBounds_toArray, List.set_cons_zero, List.set_cons_succ]
              refine wpAnyT_free (i := 29) (v := (.pointer (some ⟨b, 3, none⟩))) rfl (by kernel_rfl) (fun _ _ _ h => h) (Or.inl ⟨by rfl, ?_⟩) (fun h => absurd (h.symm.trans (by kernel_rfl)) Bool.false_ne_true) ?_
              · intro w _; go_simp
              simp only [List.getElem_toArray, List.getElem_cons_zero, List.getElem_cons_succ, Act.put, List.setIfInBounds_toArray, List.set_cons_zero, List.set_cons_succ]
              refine wpAnyT_ready (rs := [30]) (by kernel_rfl) (by simp) ?_
              refine AllT.cons rfl (fun K hK => ?_) AllT.nil
              have z3 : ∃ u, w72.cell? ⟨b, 3, none⟩ = some u := ⟨_, by rw [X.box.cell]; rfl⟩
              obtain ⟨u3, z3⟩ := z3
              have y3 : w72.frozen? ⟨b, 3, none⟩ = false := X.box.frozen 3
              have st := st.setCell (p := ⟨b, 3, none⟩) (.inr X.box.mine) (.slice (some ⟨g3, 0, none⟩) (n + 1) d3)
              have X := X.set3 (.slice (some ⟨g3, 0, none⟩) (n + 1) d3)
              have G := Lib.hid (And.intro X st)
              clear X st
              go_simp
              obtain ⟨X, st⟩ := G.out
              clear G z3 y3
              generalize w72.setCell ⟨b, 3, none⟩ (.slice (some ⟨g3, 0, none⟩) (n + 1) d3) = w73 at *
              refine hK _ _ (fun h => absurd (h.symm.trans (by kernel_rfl)) Bool.false_ne_true) ?_
              clear hK K
              try simp only [List.getElem_toArray, List.getElem_cons_zero, List.getElem_cons_succ, Act.put, List.setIfInBounds_toArray, List.set_cons_zero, List.set_cons_succ]
              refine wpAnyT_done (by kernel_rfl) ?_ _
              have z3 : w73.cell? ⟨b, 3, none⟩ = some (.slice (some ⟨g3, 0, none⟩) (n + 1) d3) := by rw [X.box.cell]; rfl
              have G := Lib.hid (And.intro X st)
              clear X st
              go_wp2
              go_ret3
              exact ⟨by simp, _, _, _, _, _, G.out.2, rput_shut hn.out HX.out G.out.1⟩
      · have X := X.alloc (.cells #[.string v] 9) (σ + 1)
        have st := st.alloc (σ + 1) (.cells #[.string v] 9)
        have t2 := t2.alloc (.cells #[.string v] 9) (σ + 1)
        have t1 := t1.alloc (.cells #[.string v] 9) (σ + 1)
        have t3 := Blk.made o60 (σ + 1) w60 #[.string v] 9
        have F := Lib.hid (And.intro X (And.intro st (And.intro t2 (And.intro t1 t3))))
        clear X st t2 t1 t3
        go_simp
        obtain ⟨X, st, t2, t1, t3⟩ := F.out
        clear F
        generalize w60.heap.size = B3 at *
        generalize w60.alloc (.cells #[.string v] 9) = w74 at *
        generalize tag o60 B3 (σ + 1) = o74 at *
        refine hK _ _ (fun _ => ⟨by rw [X.box.cell]; rfl, by rw [X.box.cell]; rfl, by rw [X.box.cell]; rfl⟩) ?_
        clear hK K
        try simp only [List.getElem_toArray, List.getElem_cons_zero, List.getElem_cons_succ, Act.put, List.setIfInBounds_toArray, List.set_cons_zero, List.set_cons_succ]
        refine wpAnyT_ready (rs := [8]) (by kernel_rfl) (by simp) ?_
        refine AllT.cons rfl (fun K hK => ?_) (AllT.nil)
        · have R : w74.ownsRow 0 4 1 (.slice Ai n ci) n xi := by have := X.ri.own; rwa [hxi] at this
          refine step_append_lies _ (by rfl) (.tmp 82) (.tmp 83) 43 (by rfl) 0 4 jb (.bool false) 1 1 Try.underlying43 hjb hb0 hb1 hb2 rfl (by decide) (.slice Ai n ci) n xi (by rfl) R ⟨B1, 0, none⟩ 1 1 [.bool true] (by rfl) rfl (news_blk t1) (one_bool _) (by omega) (by unfold maxLen; omega) (by omega) (Nat.zero_le _) w74.heap.size rfl ?_
          intro g1 d1 w75 hown hgrow hat _
          have hloc : (Value.slice (some ⟨g1, 0, none⟩) (n + 1) d1).ownBlock = ((.slice Ai n ci) : Value).ownBlock ∨ (Value.slice (some ⟨g1, 0, none⟩) (n + 1) d1).ownBlock = some w74.heap.size := hat.imp (fun h => h.symm) (fun h => by rw [h]; rfl)
          have t2 := t2.grown hgrow (fun e => by have q1 := X.ri.mine _ e; have q2 := t2.mine; omega) σ
          have t3 := t3.grown hgrow (fun e => by have q1 := X.ri.mine _ e; have q2 := t3.mine; omega) σ
          have st := st.grown hgrow (fun k hk => .inr (X.ri.mine k hk)) σ
          have X := X.app_i (by rw [hxi]; exact hown) hgrow hloc
          clear t1 R hown hgrow hat hloc
          generalize tag o74 w74.heap.size σ = o75 at *
          refine hK _ _ (fun _ => ⟨by rw [X.box.cell]; rfl, by rw [X.box.cell]; rfl, by rw [X.box.cell]; rfl⟩) ?_
          clear hK K
          try simp only [List.getElem_toArray, List.getElem_cons_zero, List.getElem_cons_succ, Act.put, List.setIfInBounds_toArray, List.set_cons_zero, List.set_cons_succ]
          refine wpAnyT_ready (rs := [14]) (by kernel_rfl) (by simp) ?_
          refine AllT.cons rfl (fun K hK => ?_) (AllT.nil)
          · have R : w75.ownsRow 0 2 1 (.slice Ag n cg) n xg := by have := X.rg.own; rwa [hxg] at this
            refine step_append_lies _ (by rfl) (.tmp 88) (.tmp 89) 44 (by rfl) 0 2 jg (.int .i64 0) 1 8 Try.underlying44 hjg hg0 hg1 hg2 rfl (by decide) (.slice Ag n cg) n xg (by rfl) R ⟨B2, 0, none⟩ 1 1 [.int .i64 1] (by rfl) rfl (news_blk t2) (one_int _) (by omega) (by unfold maxLen; omega) (by omega) (Nat.zero_le _) w75.heap.size rfl ?_
            intro g2 d2 w76 hown hgrow hat _
            have hloc : (Value.slice (some ⟨g2, 0, none⟩) (n + 1) d2).ownBlock = ((.slice Ag n cg) : Value).ownBlock ∨ (Value.slice (some ⟨g2, 0, none⟩) (n + 1) d2).ownBlock = some w75.heap.size := hat.imp (fun h => h.symm) (fun h => by rw [h]; rfl)
            have t3 := t3.grown hgrow (fun e => by have q1 := X.rg.mine _ e; have q2 := t3.mine; omega) σ
            have st := st.grown hgrow (fun k hk => .inr (X.rg.mine k hk)) σ
            have X := X.app_g (by rw [hxg]; exact hown) hgrow hloc
            clear t2 R hown hgrow hat hloc
            generalize tag o75 w75.heap.size σ = o76 at *
            refine hK _ _ (fun _ => ⟨by rw [X.box.cell]; rfl, by rw [X.box.cell]; rfl, by rw [X.box.cell]; rfl⟩) ?_
            clear hK K
            try simp only [List.getElem_toArray, List.getElem_cons_zero, List.getElem_cons_succ, Act.put, List.setIfInBounds_toArray, List.set_cons_zero, List.set_cons_succ]
            refine wpAnyT_ready (rs := [21]) (by kernel_rfl) (by simp) ?_
            refine AllT.cons rfl (fun K hK => ?_) (AllT.nil)
            · have R : w76.ownsRow 0 9 1 (.slice Av n cv) n xv := by have := X.rv.own; rwa [hxv] at this
              refine step_append_lies _ (by rfl) (.tmp 94) (.tmp 96) 45 (by rfl) 0 9 jv (.string ⟨#[]⟩) 1 16 Try.underlying45 hjv hv0 hv1 hv2 rfl (by decide) (.slice Av n cv) n xv (by rfl) R ⟨B3, 0, none⟩ 1 1 [.string v] (by rfl) rfl (news_blk t3) (one_str _) (by omega) (by unfold maxLen; omega) (by omega) (Nat.zero_le _) w76.heap.size rfl ?_
              intro g3 d3 w77 hown hgrow hat _
              have hloc : (Value.slice (some ⟨g3, 0, none⟩) (n + 1) d3).ownBlock = ((.slice Av n cv) : Value).ownBlock ∨ (Value.slice (some ⟨g3, 0, none⟩) (n + 1) d3).ownBlock = some w76.heap.size := hat.imp (fun h => h.symm) (fun h => by rw [h]; rfl)
              have st := st.grown hgrow (fun k hk => .inr (X.rv.mine k hk)) σ
              have X := X.app_v (by rw [hxv]; exact hown) hgrow hloc
              clear t3 R hown hgrow hat hloc
              generalize tag o76 w76.heap.size σ = o77 at *
              refine hK _ _ (fun _ => ⟨by rw [X.box.cell]; rfl, by rw [X.box.cell]; rfl, by rw [X.box.cell]; rfl⟩) ?_
              clear hK K
              try simp only [List.getElem_toArray, List.getElem_cons_zero, List.getElem_cons_succ, Act.put, List.setIfInBounds_toArray, List.set_cons_zero, List.set_cons_succ]
              refine wpAnyT_free (i := 22) (v := (.pointer (some ⟨b, 0, none⟩))) rfl (by kernel_rfl) (fun _ _ _ h => h) (Or.inl ⟨by rfl, ?_⟩) (fun _ => ⟨by rw [X.box.cell]; rfl, by rw [X.box.cell]; rfl, by rw [X.box.cell]; rfl⟩) ?_
              · intro w _; go_simp
              simp only [List.getElem_toArray, List.getElem_cons_zero, List.getElem_cons_succ, Act.put, List.setIfInBounds_toArray, List.set_cons_zero, List.set_cons_succ]
              refine wpAnyT_free (i := 23) (v := (.pointer (some ⟨b, 1, none⟩))) rfl (by kernel_rfl) (fun _ _ _ h => h) (Or.inl ⟨by rfl, ?_⟩) (fun _ => ⟨by rw [X.box.cell]; rfl, by rw [X.box.cell]; rfl, by rw [X.box.cell]; rfl⟩) ?_
              · intro w _; go_simp
              simp only [List.getElem_toArray, List.getElem_cons_zero, List.getElem_cons_succ, Act.put, List.setIfInBounds_toArray, List.set_cons_zero, List.set_cons_succ]
              refine wpAnyT_ready (rs := [24]) (by kernel_rfl) (by simp) ?_
              refine AllT.cons rfl (fun K hK => ?_) AllT.nil
              have z1 : ∃ u, w77.cell? ⟨b, 1, none⟩ = some u := ⟨_, by rw [X.box.cell]; rfl⟩
              obtain ⟨u1, z1⟩ := z1
              have y1 : w77.frozen? ⟨b, 1, none⟩ = false := X.box.frozen 1
              have st := st.setCell (p := ⟨b, 1, none⟩) (.inr X.box.mine) (.slice (some ⟨g1, 0, none⟩) (n + 1) d1)
              have X := X.set1 (.slice (some ⟨g1, 0, none⟩) (n + 1) d1)
              have G := Lib.hid (And.intro X st)
              clear X st
              go_simp
              obtain ⟨X, st⟩ := G.out
              clear G z1 y1
              generalize w77.setCell ⟨b, 1, none⟩ (.slice (some ⟨g1, 0, none⟩) (n + 1) d1) = w78 at *
              refine hK _ _ (fun h => absurd (h.symm.trans (by kernel_rfl)) Bool.false_ne_true) ?_
              clear hK K
              try simp only [List.getElem_toArray, List.getElem_cons_zero, List.getElem_cons_succ, Act.put, List.setIfInBounds_toArray, List.set_cons_zero, List.set_cons_succ]
              refine wpAnyT_free (i := 25) (v := (.pointer (some ⟨b, 0, none⟩))) rfl (by kernel_rfl) (fun _ _ _ h => h) (Or.inl ⟨by rfl, ?_⟩) (fun h => absurd (h.symm.trans (by kernel_rfl)) Bool.false_ne_true) ?_
              · intro w _; go_simp
              simp only [List.getElem_toArray, List.getElem_cons_zero, List.getElem_cons_succ, Act.put, List.setIfInBounds_toArray, List.set_cons_zero, List.set_cons_succ]
              refine wpAnyT_free (i := 26) (v := (.pointer (some ⟨b, 2, none⟩))) rfl (by kernel_rfl) (fun _ _ _ h => h) (Or.inl ⟨by rfl, ?_⟩) (fun h => absurd (h.symm.trans (by kernel_rfl)) Bool.false_ne_true) ?_
              · intro w _; go_simp
              simp only [List.getElem_toArray, List.getElem_cons_zero, List.getElem_cons_succ, Act.put, List.setIfInBounds_toArray, List.set_cons_zero, List.set_cons_succ]
              refine wpAnyT_ready (rs := [27]) (by kernel_rfl) (by simp) ?_
              refine AllT.cons rfl (fun K hK => ?_) AllT.nil
              have z2 : ∃ u, w78.cell? ⟨b, 2, none⟩ = some u := ⟨_, by rw [X.box.cell]; rfl⟩
              obtain ⟨u2, z2⟩ := z2
              have y2 : w78.frozen? ⟨b, 2, none⟩ = false := X.box.frozen 2
              have st := st.setCell (p := ⟨b, 2, none⟩) (.inr X.box.mine) (.slice (some ⟨g2, 0, none⟩) (n + 1) d2)
              have X := X.set2 (.slice (some ⟨g2, 0, none⟩) (n + 1) d2)
              have G := Lib.hid (And.intro X st)
              clear X st
              go_simp
              obtain ⟨X, st⟩ := G.out
              clear G z2 y2
              generalize w78.setCell ⟨b, 2, none⟩ (.slice (some ⟨g2, 0, none⟩) (n + 1) d2) = w79 at *
              refine hK _ _ (fun h => absurd (h.symm.trans (by kernel_rfl)) Bool.false_ne_true) ?_
              clear hK K
              try simp only [List.getElem_toArray, List.getElem_cons_zero, List.getElem_cons_succ, Act.put, List.setIfInBounds_toArray, List.set_cons_zero, List.set_cons_succ]
              refine wpAnyT_free (i := 28) (v := (.pointer (some ⟨b, 0, none⟩))) rfl (by kernel_rfl) (fun _ _ _ h => h) (Or.inl ⟨by rfl, ?_⟩) (fun h => absurd (h.symm.trans (by kernel_rfl)) Bool.false_ne_true) ?_
              · intro w _; go_simp
              simp only [List.getElem_toArray, List.getElem_cons_zero, List.getElem_cons_succ, Act.put, List.setIfInBounds_toArray, List.set_cons_zero, List.set_cons_succ]
              refine wpAnyT_free (i := 29) (v := (.pointer (some ⟨b, 3, none⟩))) rfl (by kernel_rfl) (fun _ _ _ h => h) (Or.inl ⟨by rfl, ?_⟩) (fun h => absurd (h.symm.trans (by kernel_rfl)) Bool.false_ne_true) ?_
              · intro w _; go_simp
              simp only [List.getElem_toArray, List.getElem_cons_zero, List.getElem_cons_succ, Act.put, List.setIfInBounds_toArray, List.set_cons_zero, List.set_cons_succ]
              refine wpAnyT_ready (rs := [30]) (by kernel_rfl) (by simp) ?_
              refine AllT.cons rfl (fun K hK => ?_) AllT.nil
              have z3 : ∃ u, w79.cell? ⟨b, 3, none⟩ = some u := ⟨_, by rw [X.box.cell]; rfl⟩
              obtain ⟨u3, z3⟩ := z3
              have y3 : w79.frozen? ⟨b, 3, none⟩ = false := X.box.frozen 3
              have st := st.setCell (p := ⟨b, 3, none⟩) (.inr X.box.mine) (.slice (some ⟨g3, 0, none⟩) (n + 1) d3)
              have X := X.set3 (.slice (some ⟨g3, 0, none⟩) (n + 1) d3)
              have G := Lib.hid (And.intro X st)
              clear X st
              go_simp
              obtain ⟨X, st⟩ := G.out
              clear G z3 y3
              generalize w79.setCell ⟨b, 3, none⟩ (.slice (some ⟨g3, 0, none⟩) (n + 1) d3) = w80 at *
              refine hK _ _ (fun h => absurd (h.symm.trans (by kernel_rfl)) Bool.false_ne_true) ?_
              clear hK K
              try simp only [List.getElem_toArray, List.getElem_cons_zero, List.getElem_cons_succ, Act.put, List.setIfInBounds_toArray, List.set_cons_zero, List.set_cons_succ]
              refine wpAnyT_done (by kernel_rfl) ?_ _
              have z3 : w80.cell? ⟨b, 3, none⟩ = some (.slice (some ⟨g3, 0, none⟩) (n + 1) d3) := by rw [X.box.cell]; rfl
              have G := Lib.hid (And.intro X st)
              clear X st
              go_wp2
              go_ret3
              exact ⟨by simp, _, _, _, _, _, G.out.2, rput_shut hn.out HX.out G.out.1⟩
    · have X := X.alloc (.cells #[.string v] 9) (σ + 1)
      have st := st.alloc (σ + 1) (.cells #[.string v] 9)
      have t2 := t2.alloc (.cells #[.string v] 9) (σ + 1)
      have t3 := Blk.made o59 (σ + 1) w59 #[.string v] 9
      have F := Lib.hid (And.intro X (And.intro st (And.intro t2 t3)))
      clear X st t2 t3
      go_simp
      obtain ⟨X, st, t2, t3⟩ := F.out
      clear F
      generalize w59.heap.size = B3 at *
      generalize w59.alloc (.cells #[.string v] 9) = w81 at *
      generalize tag o59 B3 (σ + 1) = o81 at *
      refine hK _ _ (fun _ => ⟨by rw [X.box.cell]; rfl, by rw [X.box.cell]; rfl, by rw [X.box.cell]; rfl⟩) ?_
      clear hK K
      try simp only [List.getElem_toArray, List.getElem_cons_zero, List.getElem_cons_succ, Act.put, List.setIfInBounds_toArray, List.set_cons_zero, List.set_cons_succ]
      refine wpAnyT_ready (rs := [7]) (by kernel_rfl) (by simp) ?_
      refine AllT.cons rfl (fun K hK => ?_) (AllT.nil)
      · have X := X.alloc (.cells #[.bool true] 4) (σ + 1)
        have st := st.alloc (σ + 1) (.cells #[.bool true] 4)
        have t2 := t2.alloc (.cells #[.bool true] 4) (σ + 1)
        have t3 := t3.alloc (.cells #[.bool true] 4) (σ + 1)
        have t1 := Blk.made o81 (σ + 1) w81 #[.bool true] 4
        have F := Lib.hid (And.intro X (And.intro st (And.intro t2 (And.intro t3 t1))))
        clear X st t2 t3 t1
        go_simp
        obtain ⟨X, st, t2, t3, t1⟩ := F.out
        clear F
        generalize w81.heap.size = B1 at *
        generalize w81.alloc (.cells #[.bool true] 4) = w82 at *
        generalize tag o81 B1 (σ + 1) = o82 at *
        refine hK _ _ (fun _ => ⟨by rw [X.box.cell]; rfl, by rw [X.box.cell]; rfl, by rw [X.box.cell]; rfl⟩) ?_
        clear hK K
        try simp only [List.getElem_toArray, List.getElem_cons_zero, List.getElem_cons_succ, Act.put, List.setIfInBounds_toArray, List.set_cons_zero, List.set_cons_succ]
        refine wpAnyT_ready (rs := [8]) (by kernel_rfl) (by simp) ?_
        refine AllT.cons rfl (fun K hK => ?_) (AllT.nil)
        · have R : w82.ownsRow 0 4 1 (.slice Ai n ci) n xi := by have := X.ri.own; rwa [hxi] at this
          refine step_append_lies _ (by rfl) (.tmp 82) (.tmp 83) 43 (by rfl) 0 4 jb (.bool false) 1 1 Try.underlying43 hjb hb0 hb1 hb2 rfl (by decide) (.slice Ai n ci) n xi (by rfl) R ⟨B1, 0, none⟩ 1 1 [.bool true] (by rfl) rfl (news_blk t1) (one_bool _) (by omega) (by unfold maxLen; omega) (by omega) (Nat.zero_le _) w82.heap.size rfl ?_
          intro g1 d1 w83 hown hgrow hat _
          have hloc : (Value.slice (some ⟨g1, 0, none⟩) (n + 1) d1).ownBlock = ((.slice Ai n ci) : Value).ownBlock ∨ (Value.slice (some ⟨g1, 0, none⟩) (n + 1) d1).ownBlock = some w82.heap.size := hat.imp (fun h => h.symm) (fun h => by rw [h]; rfl)
          have t2 := t2.grown hgrow (fun e => by have q1 := X.ri.mine _ e; have q2 := t2.mine; omega) σ
          have t3 := t3.grown hgrow (fun e => by have q1 := X.ri.mine _ e; have q2 := t3.mine; omega) σ
          have st := st.grown hgrow (fun k hk => .inr (X.ri.mine k hk)) σ
          have X := X.app_i (by rw [hxi]; exact hown) hgrow hloc
          clear t1 R hown hgrow hat hloc
          generalize tag o82 w82.heap.size σ = o83 at *
          refine hK _ _ (fun _ => ⟨by rw [X.box.cell]; rfl, by rw [X.box.cell]; rfl, by rw [X.box.cell]; rfl⟩) ?_
          clear hK K
          try simp only [List.getElem_toArray, List.getElem_cons_zero, List.getElem_cons_succ, Act.put, List.setIfInBounds_toArray, List.set_cons_zero, List.set_cons_succ]
          refine wpAnyT_ready (rs := [14]) (by kernel_rfl) (by simp) ?_
          refine AllT.cons rfl (fun K hK => ?_) (AllT.nil)
          · have R : w83.ownsRow 0 2 1 (.slice Ag n cg) n xg := by have := X.rg.own; rwa [hxg] at this
            refine step_append_lies _ (by rfl) (.tmp 88) (.tmp 89) 44 (by rfl) 0 2 jg (.int .i64 0) 1 8 Try.underlying44 hjg hg0 hg1 hg2 rfl (by decide) (.slice Ag n cg) n xg (by rfl) R ⟨B2, 0, none⟩ 1 1 [.int .i64 1] (by rfl) rfl (news_blk t2) (one_int _) (by omega) (by unfold maxLen; omega) (by omega) (Nat.zero_le _) w83.heap.size rfl ?_
            intro g2 d2 w84 hown hgrow hat _
            have hloc : (Value.slice (some ⟨g2, 0, none⟩) (n + 1) d2).ownBlock = ((.slice Ag n cg) : Value).ownBlock ∨ (Value.slice (some ⟨g2, 0, none⟩) (n + 1) d2).ownBlock = some w83.heap.size := hat.imp (fun h => h.symm) (fun h => by rw [h]; rfl)
            have t3 := t3.grown hgrow (fun e => by have q1 := X.rg.mine _ e; have q2 := t3.mine; omega) σ
            have st := st.grown hgrow (fun k hk => .inr (X.rg.mine k hk)) σ
            have X := X.app_g (by rw [hxg]; exact hown) hgrow hloc
            clear t2 R hown hgrow hat hloc
            generalize tag o83 w83.heap.size σ = o84 at *
            refine hK _ _ (fun _ => ⟨by rw [X.box.cell]; rfl, by rw [X.box.cell]; rfl, by rw [X.box.cell]; rfl⟩) ?_
            clear hK K
            try simp only [List.getElem_toArray, List.getElem_cons_zero, List.getElem_cons_succ, Act.put, List.setIfInBounds_toArray, List.set_cons_zero, List.set_cons_succ]
            refine wpAnyT_ready (rs := [21]) (by kernel_rfl) (by simp) ?_
            refine AllT.cons rfl (fun K hK => ?_) (AllT.nil)
            · have R : w84.ownsRow 0 9 1 (.slice Av n cv) n xv := by have := X.rv.own; rwa [hxv] at this
              refine step_append_lies _ (by rfl) (.tmp 94) (.tmp 96) 45 (by rfl) 0 9 jv (.string ⟨#[]⟩) 1 16 Try.underlying45 hjv hv0 hv1 hv2 rfl (by decide) (.slice Av n cv) n xv (by rfl) R ⟨B3, 0, none⟩ 1 1 [.string v] (by rfl) rfl (news_blk t3) (one_str _) (by omega) (by unfold maxLen; omega) (by omega) (Nat.zero_le _) w84.heap.size rfl ?_
              intro g3 d3 w85 hown hgrow hat _
              have hloc : (Value.slice (some ⟨g3, 0, none⟩) (n + 1) d3).ownBlock = ((.slice Av n cv) : Value).ownBlock ∨ (Value.slice (some ⟨g3, 0, none⟩) (n + 1) d3).ownBlock = some w84.heap.size := hat.imp (fun h => h.symm) (fun h => by rw [h]; rfl)
              have st := st.grown hgrow (fun k hk => .inr (X.rv.mine k hk)) σ
              have X := X.app_v (by rw [hxv]; exact hown) hgrow hloc
              clear t3 R hown hgrow hat hloc
              generalize tag o84 w84.heap.size σ = o85 at *
              refine hK _ _ (fun _ => ⟨by rw [X.box.cell]; rfl, by rw [X.box.cell]; rfl, by rw [X.box.cell]; rfl⟩) ?_
              clear hK K
              try simp only [List.getElem_toArray, List.getElem_cons_zero, List.getElem_cons_succ, Act.put, List.setIfInBounds_toArray, List.set_cons_zero, List.set_cons_succ]
              refine wpAnyT_free (i := 22) (v := (.pointer (some ⟨b, 0, none⟩))) rfl (by kernel_rfl) (fun _ _ _ h => h) (Or.inl ⟨by rfl, ?_⟩) (fun _ => ⟨by rw [X.box.cell]; rfl, by rw [X.box.cell]; rfl, by rw [X.box.cell]; rfl⟩) ?_
              · intro w _; go_simp
              simp only [List.getElem_toArray, List.getElem_cons_zero, List.getElem_cons_succ, Act.put, List.setIfInBounds_toArray, List.set_cons_zero, List.set_cons_succ]
              refine wpAnyT_free (i := 23) (v := (.pointer (some ⟨b, 1, none⟩))) rfl (by kernel_rfl) (fun _ _ _ h => h) (Or.inl ⟨by rfl, ?_⟩) (fun _ => ⟨by rw [X.box.cell]; rfl, by rw [X.box.cell]; rfl, by rw [X.box.cell]; rfl⟩) ?_
              · intro w _; go_simp
              simp only [List.getElem_toArray, List.getElem_cons_zero, List.getElem_cons_succ, Act.put, List.setIfInBounds_toArray, List.set_cons_zero, List.set_cons_succ]
              refine wpAnyT_ready (rs := [24]) (by kernel_rfl) (by simp) ?_
              refine AllT.cons rfl (fun K hK => ?_) AllT.nil
              have z1 : ∃ u, w85.cell? ⟨b, 1, none⟩ = some u := ⟨_, by rw [X.box.cell]; rfl⟩
              obtain ⟨u1, z1⟩ := z1
              have y1 : w85.frozen? ⟨b, 1, none⟩ = false := X.box.frozen 1
              have st := st.setCell (p := ⟨b, 1, none⟩) (.inr X.box.mine) (.slice (some ⟨g1, 0, none⟩) (n + 1) d1)
              have X := X.set1 (.slice (some ⟨g1, 0, none⟩) (n + 1) d1)
              have G := Lib.hid (And.intro X st)
              clear X st
              go_simp
              obtain ⟨X, st⟩ := G.out
              clear G z1 y1
              generalize w85.setCell ⟨b, 1, none⟩ (.slice (some ⟨g1, 0, none⟩) (n + 1) d1) = w86 at *
              refine hK _ _ (fun h => absurd (h.symm.trans (by kernel_rfl)) Bool.false_ne_true) ?_
              clear hK K
              try simp only [List.getElem_toArray, List.getElem_cons_zero, List.getElem_cons_succ, Act.put, List.setIfInBounds_toArray, List.set_cons_zero, List.set_cons_succ]
              refine wpAnyT_free (i := 25) (v := (.pointer (some ⟨b, 0, none⟩))) rfl (by kernel_rfl) (fun _ _ _ h => h) (Or.inl ⟨by rfl, ?_⟩) (fun h => absurd (h.symm.trans (by kernel_rfl)) Bool.false_ne_true) ?_
              · intro w _; go_simp
              simp only [List.getElem_toArray, List.getElem_cons_zero, List.getElem_cons_succ, Act.put, List.setIfInBounds_toArray, List.set_cons_zero, List.set_cons_succ]
              refine wpAnyT_free (i := 26) (v := (.pointer (some ⟨b, 2, none⟩))) rfl (by kernel_rfl) (fun _ _ _ h => h) (Or.inl ⟨by rfl, ?_⟩) (fun h => absurd (h.symm.trans (by kernel_rfl)) Bool.false_ne_true) ?_
              · intro w _; go_simp
              simp only [List.getElem_toArray, List.getElem_cons_zero, List.getElem_cons_succ, Act.put, List.setIfInBounds_toArray, List.set_cons_zero, List.set_cons_succ]
              refine wpAnyT_ready (rs := [27]) (by kernel_rfl) (by simp) ?_
              refine AllT.cons rfl (fun K hK => ?_) AllT.nil
              have z2 : ∃ u, w86.cell? ⟨b, 2, none⟩ = some u := ⟨_, by rw [X.box.cell]; rfl⟩
              obtain ⟨u2, z2⟩ := z2
              have y2 : w86.frozen? ⟨b, 2, none⟩ = false := X.box.frozen 2
              have st := st.setCell (p := ⟨b, 2, none⟩) (.inr X.box.mine) (.slice (some ⟨g2, 0, none⟩) (n + 1) d2)
              have X := X.set2 (.slice (some ⟨g2, 0, none⟩) (n + 1) d2)
              have G := Lib.hid (And.intro X st)
              clear X st
              go_simp
              obtain ⟨X, st⟩ := G.out
              clear G z2 y2
              generalize w86.setCell ⟨b, 2, none⟩ (.slice (some ⟨g2, 0, none⟩) (n + 1) d2) = w87 at *
              refine hK _ _ (fun h => absurd (h.symm.trans (by kernel_rfl)) Bool.false_ne_true) ?_
              clear hK K
              try simp only [List.getElem_toArray, List.getElem_cons_zero, List.getElem_cons_succ, Act.put, List.setIfInBounds_toArray, List.set_cons_zero, List.set_cons_succ]
              refine wpAnyT_free (i := 28) (v := (.pointer (some ⟨b, 0, none⟩))) rfl (by kernel_rfl) (fun _ _ _ h => h) (Or.inl ⟨by rfl, ?_⟩) (fun h => absurd (h.symm.trans (by kernel_rfl)) Bool.false_ne_true) ?_
              · intro w _; go_simp
              simp only [List.getElem_toArray, List.getElem_cons_zero, List.getElem_cons_succ, Act.put, List.setIfInBounds_toArray, List.set_cons_zero, List.set_cons_succ]
              refine wpAnyT_free (i := 29) (v := (.pointer (some ⟨b, 3, none⟩))) rfl (by kernel_rfl) (fun _ _ _ h => h) (Or.inl ⟨by rfl, ?_⟩) (fun h => absurd (h.symm.trans (by kernel_rfl)) Bool.false_ne_true) ?_
              · intro w _; go_simp
              simp only [List.getElem_toArray, List.getElem_cons_zero, List.getElem_cons_succ, Act.put, List.setIfInBounds_toArray, List.set_cons_zero, List.set_cons_succ]
              refine wpAnyT_ready (rs := [30]) (by kernel_rfl) (by simp) ?_
              refine AllT.cons rfl (fun K hK => ?_) AllT.nil
              have z3 : ∃ u, w87.cell? ⟨b, 3, none⟩ = some u := ⟨_, by rw [X.box.cell]; rfl⟩
              obtain ⟨u3, z3⟩ := z3
              have y3 : w87.frozen? ⟨b, 3, none⟩ = false := X.box.frozen 3
              have st := st.setCell (p := ⟨b, 3, none⟩) (.inr X.box.mine) (.slice (some ⟨g3, 0, none⟩) (n + 1) d3)
              have X := X.set3 (.slice (some ⟨g3, 0, none⟩) (n + 1) d3)
              have G := Lib.hid (And.intro X st)
              clear X st
              go_simp
              obtain ⟨X, st⟩ := G.out
              clear G z3 y3
              generalize w87.setCell ⟨b, 3, none⟩ (.slice (some ⟨g3, 0, none⟩) (n + 1) d3) = w88 at *
              refine hK _ _ (fun h => absurd (h.symm.trans (by kernel_rfl)) Bool.false_ne_true) ?_
              clear hK K
              try simp only [List.getElem_toArray, List.getElem_cons_zero, List.getElem_cons_succ, Act.put, List.setIfInBounds_toArray, List.set_cons_zero, List.set_cons_succ]
              refine wpAnyT_done (by kernel_rfl) ?_ _
              have z3 : w88.cell? ⟨b, 3, none⟩ = some (.slice (some ⟨g3, 0, none⟩) (n + 1) d3) := by rw [X.box.cell]; rfl
              have G := Lib.hid (And.intro X st)
              clear X st
              go_wp2
              go_ret3
              exact ⟨by simp, _, _, _, _, _, G.out.2, rput_shut hn.out HX.out G.out.1⟩
  · have X := X.alloc (.cells #[.string v] 9) (σ + 1)
    have st := st.alloc (σ + 1) (.cells #[.string v] 9)
    have t3 := Blk.made o (σ + 1) wA #[.string v] 9
    have F := Lib.hid (And.intro X (And.intro st t3))
    clear X st t3
    go_simp
    obtain ⟨X, st, t3⟩ := F.out
    clear F
    generalize wA.heap.size = B3 at *
    generalize wA.alloc (.cells #[.string v] 9) = w89 at *
    generalize tag o B3 (σ + 1) = o89 at *
    refine hK _ _ (fun _ => ⟨by rw [X.box.cell]; rfl, by rw [X.box.cell]; rfl, by rw [X.box.cell]; rfl⟩) ?_
    clear hK K
    try simp only [List.getElem_toArray, List.getElem_cons_zero, List.getElem_cons_succ, Act.put, List.setIfInBounds_toArray, List.set_cons_zero, List.set_cons_succ]
    refine wpAnyT_ready (rs := [7, 13]) (by kernel_rfl) (by simp) ?_
    refine AllT.cons rfl (fun K hK => ?_) (AllT.cons rfl (fun K hK => ?_) (AllT.nil))
    · have X := X.alloc (.cells #[.bool true] 4) (σ + 1)
      have st := st.alloc (σ + 1) (.cells #[.bool true] 4)
      have t3 := t3.alloc (.cells #[.bool true] 4) (σ + 1)
      have t1 := Blk.made o89 (σ + 1) w89 #[.bool true] 4
      have F := Lib.hid (And.intro X (And.intro st (And.intro t3 t1)))
      clear X st t3 t1
      go_simp
      obtain ⟨X, st, t3, t1⟩ := F.out
      clear F
      generalize w89.heap.size = B1 at *
      generalize w89.alloc (.cells #[.bool true] 4) = w90 at *
      generalize tag o89 B1 (σ + 1) = o90 at *
      refine hK _ _ (fun _ => ⟨by rw [X.box.cell]; rfl, by rw [X.box.cell]; rfl, by rw [X.box.cell]; rfl⟩) ?_
      clear hK K
      try simp only [List.getElem_toArray, List.getElem_cons_zero, List.getElem_cons_succ, Act.put, List.setIfInBounds_toArray, List.set_cons_zero, List.set_cons_succ]
      refine wpAnyT_ready (rs := [8, 13]) (by kernel_rfl) (by simp) ?_
      refine AllT.cons rfl (fun K hK => ?_) (AllT.cons rfl (fun K hK => ?_) (AllT.nil))
      · have R : w90.ownsRow 0 4 1 (.slice Ai n ci) n xi := by have := X.ri.own; rwa [hxi] at this
        refine step_append_lies _ (by rfl) (.tmp 82) (.tmp 83) 43 (by rfl) 0 4 jb (.bool false) 1 1 Try.underlying43 hjb hb0 hb1 hb2 rfl (by decide) (.slice Ai n ci) n xi (by rfl) R ⟨B1, 0, none⟩ 1 1 [.bool true] (by rfl) rfl (news_blk t1) (one_bool _) (by omega) (by unfold maxLen; omega) (by omega) (Nat.zero_le _) w90.heap.size rfl ?_
        intro g1 d1 w91 hown hgrow hat _
        have hloc : (Value.slice (some ⟨g1, 0, none⟩) (n + 1) d1).ownBlock = ((.slice Ai n ci) : Value).ownBlock ∨ (Value.slice (some ⟨g1, 0, none⟩) (n + 1) d1).ownBlock = some w90.heap.size := hat.imp (fun h => h.symm) (fun h => by rw [h]; rfl)
        have t3 := t3.grown hgrow (fun e => by have q1 := X.ri.mine _ e; have q2 := t3.mine; omega) σ
        have st := st.grown hgrow (fun k hk => .inr (X.ri.mine k hk)) σ
        have X := X.app_i (by rw [hxi]; exact hown) hgrow hloc
        clear t1 R hown hgrow hat hloc
        generalize tag o90 w90.heap.size σ = o91 at *
        refine hK _ _ (fun _ => ⟨by rw [X.box.cell]; rfl, by rw [X.box.cell]; rfl, by rw [X.box.cell]; rfl⟩) ?_
        clear hK K
        try simp only [List.getElem_toArray, List.getElem_cons_zero, List.getElem_cons_succ, Act.put, List.setIfInBounds_toArray, List.set_cons_zero, List.set_cons_succ]
        refine wpAnyT_ready (rs := [13]) (by kernel_rfl) (by simp) ?_
        refine AllT.cons rfl (fun K hK => ?_) (AllT.nil)
        · have X := X.alloc (.cells #[.int .i64 1] 2) (σ + 1)
          have st := st.alloc (σ + 1) (.cells #[.int .i64 1] 2)
          have t3 := t3.alloc (.cells #[.int .i64 1] 2) (σ + 1)
          have t2 := Blk.made o91 (σ + 1) w91 #[.int .i64 1] 2
          have F := Lib.hid (And.intro X (And.intro st (And.intro t3 t2)))
          clear X st t3 t2
          go_simp
          obtain ⟨X, st, t3, t2⟩ := F.out
          clear F
          generalize w91.heap.size = B2 at *
          generalize w91.alloc (.cells #[.int .i64 1] 2) = w92 at *
          generalize tag o91 B2 (σ + 1) = o92 at *
          refine hK _ _ (fun _ => ⟨by rw [X.box.cell]; rfl, by rw [X.box.cell]; rfl, by rw [X.box.cell]; rfl⟩) ?_
          clear hK K
          try simp only [List.getElem_toArray, List.getElem_cons_zero, List.getElem_cons_succ, Act.put, List.setIfInBounds_toArray, List.set_cons_zero, List.set_cons_succ]
          refine wpAnyT_ready (rs := [14]) (by kernel_rfl) (by simp) ?_
          refine AllT.cons rfl (fun K hK => ?_) (AllT.nil)
          · have R : w92.ownsRow 0 2 1 (.slice Ag n cg) n xg := by have := X.rg.own; rwa [hxg] at this
            refine step_append_lies _ (by rfl) (.tmp 88) (.tmp 89) 44 (by rfl) 0 2 jg (.int .i64 0) 1 8 Try.underlying44 hjg hg0 hg1 hg2 rfl (by decide) (.slice Ag n cg) n xg (by rfl) R ⟨B2, 0, none⟩ 1 1 [.int .i64 1] (by rfl) rfl (news_blk t2) (one_int _) (by omega) (by unfold maxLen; omega) (by omega) (Nat.zero_le _) w92.heap.size rfl ?_
            intro g2 d2 w93 hown hgrow hat _
            have hloc : (Value.slice (some ⟨g2, 0, none⟩) (n + 1) d2).ownBlock = ((.slice Ag n cg) : Value).ownBlock ∨ (Value.slice (some ⟨g2, 0, none⟩) (n + 1) d2).ownBlock = some w92.heap.size := hat.imp (fun h => h.symm) (fun h => by rw [h]; rfl)
            have t3 := t3.grown hgrow (fun e => by have q1 := X.rg.mine _ e; have q2 := t3.mine; omega) σ
            have st := st.grown hgrow (fun k hk => .inr (X.rg.mine k hk)) σ
            have X := X.app_g (by rw [hxg]; exact hown) hgrow hloc
            clear t2 R hown hgrow hat hloc
            generalize tag o92 w92.heap.size σ = o93 at *
            refine hK _ _ (fun _ => ⟨by rw [X.box.cell]; rfl, by rw [X.box.cell]; rfl, by rw [X.box.cell]; rfl⟩) ?_
            clear hK K
            try simp only [List.getElem_toArray, List.getElem_cons_zero, List.getElem_cons_succ, Act.put, List.setIfInBounds_toArray, List.set_cons_zero, List.set_cons_succ]
            refine wpAnyT_ready (rs := [21]) (by kernel_rfl) (by simp) ?_
            refine AllT.cons rfl (fun K hK => ?_) (AllT.nil)
            · have R : w93.ownsRow 0 9 1 (.slice Av n cv) n xv := by have := X.rv.own; rwa [hxv] at this
              refine step_append_lies _ (by rfl) (.tmp 94) (.tmp 96) 45 (by rfl) 0 9 jv (.string ⟨#[]⟩) 1 16 Try.underlying45 hjv hv0 hv1 hv2 rfl (by decide) (.slice Av n cv) n xv (by rfl) R ⟨B3, 0, none⟩ 1 1 [.string v] (by rfl) rfl (news_blk t3) (one_str _) (by omega) (by unfold maxLen; omega) (by omega) (Nat.zero_le _) w93.heap.size rfl ?_
              intro g3 d3 w94 hown hgrow hat _
              have hloc : (Value.slice (some ⟨g3, 0, none⟩) (n + 1) d3).ownBlock = ((.slice Av n cv) : Value).ownBlock ∨ (Value.slice (some ⟨g3, 0, none⟩) (n + 1) d3).ownBlock = some w93.heap.size := hat.imp (fun h => h.symm) (fun h => by rw [h]; rfl)
              have st := st.grown hgrow (fun k hk => .inr (X.rv.mine k hk)) σ
              have X := X.app_v (by rw [hxv]; exact hown) hgrow hloc
              clear t3 R hown hgrow hat hloc
              generalize tag o93 w93.heap.size σ = o94 at *
              refine hK _ _ (fun _ => ⟨by rw [X.box.cell]; rfl, by rw [X.box.cell]; rfl, by rw [X.box.cell]; rfl⟩) ?_
              clear hK K
              try simp only [List.getElem_toArray, List.getElem_cons_zero, List.getElem_cons_succ, Act.put, List.setIfInBounds_toArray, List.set_cons_zero, List.set_cons_succ]
              refine wpAnyT_free (i := 22) (v := (.pointer (some ⟨b, 0, none⟩))) rfl (by kernel_rfl) (fun _ _ _ h => h) (Or.inl ⟨by rfl, ?_⟩) (fun _ => ⟨by rw [X.box.cell]; rfl, by rw [X.box.cell]; rfl, by rw [X.box.cell]; rfl⟩) ?_
              · intro w _; go_simp
              simp only [List.getElem_toArray, List.getElem_cons_zero, List.getElem_cons_succ, Act.put, List.setIfInBounds_toArray, List.set_cons_zero, List.set_cons_succ]
              refine wpAnyT_free (i := 23) (v := (.pointer (some ⟨b, 1, none⟩))) rfl (by kernel_rfl) (fun _ _ _ h => h) (Or.inl ⟨by rfl, ?_⟩) (fun _ => ⟨by rw [X.box.cell]; rfl, by rw [X.box.cell]; rfl, by rw [X.box.cell]; rfl⟩) ?_
              · intro w _; go_simp
              simp only [List.getElem_toArray, List.getElem_cons_zero, List.getElem_cons_succ, Act.put, List.setIfInBounds_toArray, List.set_cons_zero, List.set_cons_succ]
              refine wpAnyT_ready (rs := [24]) (by kernel_rfl) (by simp) ?_
              refine AllT.cons rfl (fun K hK => ?_) AllT.nil
              have z1 : ∃ u, w94.cell? ⟨b, 1, none⟩ = some u := ⟨_, by rw [X.box.cell]; rfl⟩
              obtain ⟨u1, z1⟩ := z1
              have y1 : w94.frozen? ⟨b, 1, none⟩ = false := X.box.frozen 1
              have st := st.setCell (p := ⟨b, 1, none⟩) (.inr X.box.mine) (.slice (some ⟨g1, 0, none⟩) (n + 1) d1)
              have X := X.set1 (.slice (some ⟨g1, 0, none⟩) (n + 1) d1)
              have G := Lib.hid (And.intro X st)
              clear X st
              go_simp
              obtain ⟨X, st⟩ := G.out
              clear G z1 y1
              generalize w94.setCell ⟨b, 1, none⟩ (.slice (some ⟨g1, 0, none⟩) (n + 1) d1) = w95 at *
              refine hK _ _ (fun h => absurd (h.symm.trans (by kernel_rfl)) Bool.false_ne_true) ?_
              clear hK K
              try simp only [List.getElem_toArray, List.getElem_cons_zero, List.getElem_cons_succ, Act.put, List.setIfInBounds_toArray, List.set_cons_zero, List.set_cons_succ]
              refine wpAnyT_free (i := 25) (v := (.pointer (some ⟨b, 0, none⟩))) rfl (by kernel_rfl) (fun _ _ _ h => h) (Or.inl ⟨by rfl, ?_⟩) (fun h => absurd (h.symm.trans (by kernel_rfl)) Bool.false_ne_true) ?_
              · intro w _; go_simp
              simp only [List.getElem_toArray, List.getElem_cons_zero, List.getElem_cons_succ, Act.put, List.setIfInBounds_toArray, List.set_cons_zero, List.set_cons_succ]
              refine wpAnyT_free (i := 26) (v := (.pointer (some ⟨b, 2, none⟩))) rfl (by kernel_rfl) (fun _ _ _ h => h) (Or.inl ⟨by rfl, ?_⟩) (fun h => absurd (h.symm.trans (by kernel_rfl)) Bool.false_ne_true) ?_
              · intro w _; go_simp
              simp only [List.getElem_toArray, List.getElem_cons_zero, List.getElem_cons_succ, Act.put, List.setIfInBounds_toArray, List.set_cons_zero, List.set_cons_succ]
              refine wpAnyT_ready (rs := [27]) (by kernel_rfl) (by simp) ?_
              refine AllT.cons rfl (fun K hK => ?_) AllT.nil
              have z2 : ∃ u, w95.cell? ⟨b, 2, none⟩ = some u := ⟨_, by rw [X.box.cell]; rfl⟩
              obtain ⟨u2, z2⟩ := z2
              have y2 : w95.frozen? ⟨b, 2, none⟩ = false := X.box.frozen 2
              have st := st.setCell (p := ⟨b, 2, none⟩) (.inr X.box.mine) (.slice (some ⟨g2, 0, none⟩) (n + 1) d2)
              have X := X.set2 (.slice (some ⟨g2, 0, none⟩) (n + 1) d2)
              have G := Lib.hid (And.intro X st)
              clear X st
              go_simp
              obtain ⟨X, st⟩ := G.out
              clear G z2 y2
              generalize w95.setCell ⟨b, 2, none⟩ (.slice (some ⟨g2, 0, none⟩) (n + 1) d2) = w96 at *
              refine hK _ _ (fun h => absurd (h.symm.trans (by kernel_rfl)) Bool.false_ne_true) ?_
              clear hK K
              try simp only [List.getElem_toArray, List.getElem_cons_zero, List.getElem_cons_succ, Act.put, List.setIfInBounds_toArray, List.set_cons_zero, List.set_cons_succ]
              refine wpAnyT_free (i := 28) (v := (.pointer (some ⟨b, 0, none⟩))) rfl (by kernel_rfl) (fun _ _ _ h => h) (Or.inl ⟨by rfl, ?_⟩) (fun h => absurd (h.symm.trans (by kernel_rfl)) Bool.false_ne_true) ?_
              · intro w _; go_simp
              simp only [List.getElem_toArray, List.getElem_cons_zero, List.getElem_cons_succ, Act.put, List.setIfInBounds_toArray, List.set_cons_zero, List.set_cons_succ]
              refine wpAnyT_free (i := 29) (v := (.pointer (some ⟨b, 3, none⟩))) rfl (by kernel_rfl) (fun _ _ _ h => h) (Or.inl ⟨by rfl, ?_⟩) (fun h => absurd (h.symm.trans (by kernel_rfl)) Bool.false_ne_true) ?_
              · intro w _; go_simp
              simp only [List.getElem_toArray, List.getElem_cons_zero, List.getElem_cons_succ, Act.put, List.setIfInBounds_toArray, List.set_cons_zero, List.set_cons_succ]
              refine wpAnyT_ready (rs := [30]) (by kernel_rfl) (by simp) ?_
              refine AllT.cons rfl (fun K hK => ?_) AllT.nil
              have z3 : ∃ u, w96.cell? ⟨b, 3, none⟩ = some u := ⟨_, by rw [X.box.cell]; rfl⟩
              obtain ⟨u3, z3⟩ := z3
              have y3 : w96.frozen? ⟨b, 3, none⟩ = false := X.box.frozen 3
              have st := st.setCell (p := ⟨b, 3, none⟩) (.inr X.box.mine) (.slice (some ⟨g3, 0, none⟩) (n + 1) d3)
              have X := X.set3 (.slice (some ⟨g3, 0, none⟩) (n + 1) d3)
              have G := Lib.hid (And.intro X st)
              clear X st
              go_simp
              obtain ⟨X, st⟩ := G.out
              clear G z3 y3
              generalize w96.setCell ⟨b, 3, none⟩ (.slice (some ⟨g3, 0, none⟩) (n + 1) d3) = w97 at *
              refine hK _ _ (fun h => absurd (h.symm.trans (by kernel_rfl)) Bool.false_ne_true) ?_
              clear hK K
              try simp only [List.getElem_toArray, List.getElem_cons_zero, List.getElem_cons_succ, Act.put, List.setIfInBounds_toArray, List.set_cons_zero, List.set_cons_succ]
              refine wpAnyT_done (by kernel_rfl) ?_ _
              have z3 : w97.cell? ⟨b, 3, none⟩ = some (.slice (some ⟨g3, 0, none⟩) (n + 1) d3) := by rw [X.box.cell]; rfl
              have G := Lib.hid (And.intro X st)
              clear X st
              go_wp2
              go_ret3
              exact ⟨by simp, _, _, _, _, _, G.out.2, rput_shut hn.out HX.out G.out.1⟩
      · have X := X.alloc (.cells #[.int .i64 1] 2) (σ + 1)
        have st := st.alloc (σ + 1) (.cells #[.int .i64 1] 2)
        have t3 := t3.alloc (.cells #[.int .i64 1] 2) (σ + 1)
        have t1 := t1.alloc (.cells #[.int .i64 1] 2) (σ + 1)
        have t2 := Blk.made o90 (σ + 1) w90 #[.int .i64 1] 2
        have F := Lib.hid (And.intro X (And.intro st (And.intro t3 (And.intro t1 t2))))
        clear X st t3 t1 t2
        go_simp
        obtain ⟨X, st, t3, t1, t2⟩ := F.out
        clear F
        generalize w90.heap.size = B2 at *
        generalize w90.alloc (.cells #[.int .i64 1] 2) = w98 at *
        generalize tag o90 B2 (σ + 1) = o98 at *
        refine hK _ _ (fun _ => ⟨by rw [X.box.cell]; rfl, by rw [X.box.cell]; rfl, by rw [X.box.cell]; rfl⟩) ?_
        clear hK K
        try simp only [List.getElem_toArray, List.getElem_cons_zero, List.getElem_cons_succ, Act.put, List.setIfInBounds_toArray, List.set_cons_zero, List.set_cons_succ]
        refine wpAnyT_ready (rs := [8]) (by kernel_rfl) (by simp) ?_
        refine AllT.cons rfl (fun K hK => ?_) (AllT.nil)
        · have R : w98.ownsRow 0 4 1 (.slice Ai n ci) n xi := by have := X.ri.own; rwa [hxi] at this
          refine step_append_lies _ (by rfl) (.tmp 82) (.tmp 83) 43 (by rfl) 0 4 jb (.bool false) 1 1 Try.underlying43 hjb hb0 hb1 hb2 rfl (by decide) (.slice Ai n ci) n xi (by rfl) R ⟨B1, 0, none⟩ 1 1 [.bool true] (by rfl) rfl (news_blk t1) (one_bool _) (by omega) (by unfold maxLen; omega) (by omega) (Nat.zero_le _) w98.heap.size rfl ?_
          intro g1 d1 w99 hown hgrow hat _
          have hloc : (Value.slice (some ⟨g1, 0, none⟩) (n + 1) d1).ownBlock = ((.slice Ai n ci) : Value).ownBlock ∨ (Value.slice (some ⟨g1, 0, none⟩) (n + 1) d1).ownBlock = some w98.heap.size := hat.imp (fun h => h.symm) (fun h => by rw [h]; rfl)
          have t3 := t3.grown hgrow (fun e => by have q1 := X.ri.mine _ e; have q2 := t3.mine; omega) σ
          have t2 := t2.grown hgrow (fun e => by have q1 := X.ri.mine _ e; have q2 := t2.mine; omega) σ
          have st := st.grown hgrow (fun k hk => .inr (X.ri.mine k hk)) σ
          have X := X.app_i (by rw [hxi]; exact hown) hgrow hloc
          clear t1 R hown hgrow hat hloc
          generalize tag o98 w98.heap.size σ = o99 at *
          refine hK _ _ (fun _ => ⟨by rw [X.box.cell]; rfl, by rw [X.box.cell]; rfl, by rw [X.box.cell]; rfl⟩) ?_
          clear hK K
          try simp only [List.getElem_toArray, List.getElem_cons_zero, List.getElem_cons_succ, Act.put, List.setIfInBounds_toArray, List.set_cons_zero, List.set_cons_succ]
          refine wpAnyT_ready (rs := [14]) (by kernel_rfl) (by simp) ?_
          refine AllT.cons rfl (fun K hK => ?_) (AllT.nil)
          · have R : w99.ownsRow 0 2 1 (.slice Ag n cg) n xg := by have := X.rg.own; rwa [hxg] at this
            refine step_append_lies _ (by rfl) (.tmp 88) (.tmp 89) 44 (by rfl) 0 2 jg (.int .i64 0) 1 8 Try.underlying44 hjg hg0 hg1 hg2 rfl (by decide) (.slice Ag n cg) n xg (by rfl) R ⟨B2, 0, none⟩ 1 1 [.int .i64 1] (by rfl) rfl (news_blk t2) (one_int _) (by omega) (by unfold maxLen; omega) (by omega) (Nat.zero_le _) w99.heap.size rfl ?_
            intro g2 d2 w100 hown hgrow hat _
            have hloc : (Value.slice (some ⟨g2, 0, none⟩) (n + 1) d2).ownBlock = ((.slice Ag n cg) : Value).ownBlock ∨ (Value.slice (some ⟨g2, 0, none⟩) (n + 1) d2).ownBlock = some w99.heap.size := hat.imp (fun h => h.symm) (fun h => by rw [h]; rfl)
            have t3 := t3.grown hgrow (fun e => by have q1 := X.rg.mine _ e; have q2 := t3.mine; omega) σ
            have st := st.grown hgrow (fun k hk => .inr (X.rg.mine k hk)) σ
            have X := X.app_g (by rw [hxg]; exact hown) hgrow hloc
            clear t2 R hown hgrow hat hloc
            generalize tag o99 w99.heap.size σ = o100 at *
            refine hK _ _ (fun _ => ⟨by rw [X.box.cell]; rfl, by rw [X.box.cell]; rfl, by rw [X.box.cell]; rfl⟩) ?_
            clear hK K
            try simp only [List.getElem_toArray, List.getElem_cons_zero, List.getElem_cons_succ, Act.put, List.setIfInBounds_toArray, List.set_cons_zero, List.set_cons_succ]
            refine wpAnyT_ready (rs := [21]) (by kernel_rfl) (by simp) ?_
            refine AllT.cons rfl (fun K hK => ?_) (AllT.nil)
            · have R : w100.ownsRow 0 9 1 (.slice Av n cv) n xv := by have := X.rv.own; rwa [hxv] at this
              refine step_append_lies _ (by rfl) (.tmp 94) (.tmp 96) 45 (by rfl) 0 9 jv (.string ⟨#[]⟩) 1 16 Try.underlying45 hjv hv0 hv1 hv2 rfl (by decide) (.slice Av n cv) n xv (by rfl) R ⟨B3, 0, none⟩ 1 1 [.string v] (by rfl) rfl (news_blk t3) (one_str _) (by omega) (by unfold maxLen; omega) (by omega) (Nat.zero_le _) w100.heap.size rfl ?_
              intro g3 d3 w101 hown hgrow hat _
              have hloc : (Value.slice (some ⟨g3, 0, none⟩) (n + 1) d3).ownBlock = ((.slice Av n cv) : Value).ownBlock ∨ (Value.slice (some ⟨g3, 0, none⟩) (n + 1) d3).ownBlock = some w100.heap.size := hat.imp (fun h => h.symm) (fun h => by rw [h]; rfl)
              have st := st.grown hgrow (fun k hk => .inr (X.rv.mine k hk)) σ
              have X := X.app_v (by rw [hxv]; exact hown) hgrow hloc
              clear t3 R hown hgrow hat hloc
              generalize tag o100 w100.heap.size σ = o101 at *
              refine hK _ _ (fun _ => ⟨by rw [X.box.cell]; rfl, by rw [X.box.cell]; rfl, by rw [X.box.cell]; rfl⟩) ?_
              clear hK K
              try simp only [List.getElem_toArray, List.getElem_cons_zero, List.getElem_cons_succ, Act.put, List.setIfInBounds_toArray, List.set_cons_zero, List.set_cons_succ]
              refine wpAnyT_free (i := 22) (v := (.pointer (some ⟨b, 0, none⟩))) rfl (by kernel_rfl) (fun _ _ _ h => h) (Or.inl ⟨by rfl, ?_⟩) (fun _ => ⟨by rw [X.box.cell]; rfl, by rw [X.box.cell]; rfl, by rw [X.box.cell]; rfl⟩) ?_
              · intro w _; go_simp
              simp only [List.getElem_toArray, List.getElem_cons_zero, List.getElem_cons_succ, Act.put, List.setIfInBounds_toArray, List.set_cons_zero, List.set_cons_succ]
              refine wpAnyT_free (i := 23) (v := (.pointer (some ⟨b, 1, none⟩))) rfl (by kernel_rfl) (fun _ _ _ h => h) (Or.inl ⟨by rfl, ?_⟩) (fun _ => ⟨by rw [X.box.cell]; rfl, by rw [X.box.cell]; rfl, by rw [X.box.cell]; rfl⟩) ?_
              · intro w _; go_simp
              simp only [List.getElem_toArray, List.getElem_cons_zero, List.getElem_cons_succ, Act.put, List.setIfInBounds_toArray, List.set_cons_zero, List.set_cons_succ]
              refine wpAnyT_ready (rs := [24]) (by kernel_rfl) (by simp) ?_
              refine AllT.cons rfl (fun K hK => ?_) AllT.nil
              have z1 : ∃ u, w101.cell? ⟨b, 1, none⟩ = some u := ⟨_, by rw [X.box.cell]; rfl⟩
              obtain ⟨u1, z1⟩ := z1
              have y1 : w101.frozen? ⟨b, 1, none⟩ = false := X.box.frozen 1
              have st := st.setCell (p := ⟨b, 1, none⟩) (.inr X.box.mine) (.slice (some ⟨g1, 0, none⟩) (n + 1) d1)
              have X := X.set1 (.slice (some ⟨g1, 0, none⟩) (n + 1) d1)
              have G := Lib.hid (And.intro X st)
              clear X st
              go_simp
              obtain ⟨X, st⟩ := G.out
              clear G z1 y1
              generalize w101.setCell ⟨b, 1, none⟩ (.slice (some ⟨g1, 0, none⟩) (n + 1) d1) = w102 at *
              refine hK _ _ (fun h => absurd (h.symm.trans (by kernel_rfl)) Bool.false_ne_true) ?_
              clear hK K
              try simp only [List.getElem_toArray, List.getElem_cons_zero, List.getElem_cons_succ, Act.put, List.setIfInBounds_toArray, List.set_cons_zero, List.set_cons_succ]
              refine wpAnyT_free (i := 25) (v := (.pointer (some ⟨b, 0, none⟩))) rfl (by kernel_rfl) (fun _ _ _ h => h) (Or.inl ⟨by rfl, ?_⟩) (fun h => absurd (h.symm.trans (by kernel_rfl)) Bool.false_ne_true) ?_
              · intro w _; go_simp
              simp only [List.getElem_toArray, List.getElem_cons_zero, List.getElem_cons_succ, Act.put, List.setIfInBounds_toArray, List.set_cons_zero, List.set_cons_succ]
              refine wpAnyT_free (i := 26) (v := (.pointer (some ⟨b, 2, none⟩))) rfl (by kernel_rfl) (fun _ _ _ h => h) (Or.inl ⟨by rfl, ?_⟩) (fun h => absurd (h.symm.trans (by kernel_rfl)) Bool.false_ne_true) ?_
              · intro w _; go_simp
              simp only [List.getElem_toArray, List.getElem_cons_zero, List.getElem_cons_succ, Act.put, List.setIfInBounds_toArray, List.set_cons_zero, List.set_cons_succ]
              refine wpAnyT_ready (rs := [27]) (by kernel_rfl) (by simp) ?_
              refine AllT.cons rfl (fun K hK => ?_) AllT.nil
              have z2 : ∃ u, w102.cell? ⟨b, 2, none⟩ = some u := ⟨_, by rw [X.box.cell]; rfl⟩
              obtain ⟨u2, z2⟩ := z2
              have y2 : w102.frozen? ⟨b, 2, none⟩ = false := X.box.frozen 2
              have st := st.setCell (p := ⟨b, 2, none⟩) (.inr X.box.mine) (.slice (some ⟨g2, 0, none⟩) (n + 1) d2)
              have X := X.set2 (.slice (some ⟨g2, 0, none⟩) (n + 1) d2)
              have G := Lib.hid (And.intro X st)
              clear X st
              go_simp
              obtain ⟨X, st⟩ := G.out
              clear G z2 y2
              generalize w102.setCell ⟨b, 2, none⟩ (.slice (some ⟨g2, 0, none⟩) (n + 1) d2) = w103 at *
              refine hK _ _ (fun h => absurd (h.symm.trans (by kernel_rfl)) Bool.false_ne_true) ?_
              clear hK K
              try simp only [List.getElem_toArray, List.getElem_cons_zero, List.getElem_cons_succ, Act.put, List.setIfInBounds_toArray, List.set_cons_zero, List.set_cons_succ]
              refine wpAnyT_free (i := 28) (v := (.pointer (some ⟨b, 0, none⟩))) rfl (by kernel_rfl) (fun _ _ _ h => h) (Or.inl ⟨by rfl, ?_⟩) (fun h => absurd (h.symm.trans (by kernel_rfl)) Bool.false_ne_true) ?_
              · intro w _; go_simp
              simp only [List.getElem_toArray, List.getElem_cons_zero, List.getElem_cons_succ, Act.put, List.setIfInBounds_toArray, List.set_cons_zero, List.set_cons_succ]
              refine wpAnyT_free (i := 29) (v := (.pointer (some ⟨b, 3, none⟩))) rfl (by kernel_rfl) (fun _ _ _ h => h) (Or.inl ⟨by rfl, ?_⟩) (fun h => absurd (h.symm.trans (by kernel_rfl)) Bool.false_ne_true) ?_
              · intro w _; go_simp
              simp only [List.getElem_toArray, List.getElem_cons_zero, List.getElem_cons_succ, Act.put, List.setIfInBounds_toArray, List.set_cons_zero, List.set_cons_succ]
              refine wpAnyT_ready (rs := [30]) (by kernel_rfl) (by simp) ?_
              refine AllT.cons rfl (fun K hK => ?_) AllT.nil
              have z3 : ∃ u, w103.cell? ⟨b, 3, none⟩ = some u := ⟨_, by rw [X.box.cell]; rfl⟩
              obtain ⟨u3, z3⟩ := z3
              have y3 : w103.frozen? ⟨b, 3, none⟩ = false := X.box.frozen 3
              have st := st.setCell (p := ⟨b, 3, none⟩) (.inr X.box.mine) (.slice (some ⟨g3, 0, none⟩) (n + 1) d3)
              have X := X.set3 (.slice (some ⟨g3, 0, none⟩) (n + 1) d3)
              have G := Lib.hid (And.intro X st)
              clear X st
              go_simp
              obtain ⟨X, st⟩ := G.out
              clear G z3 y3
              generalize w103.setCell ⟨b, 3, none⟩ (.slice (some ⟨g3, 0, none⟩) (n + 1) d3) = w104 at *
              refine hK _ _ (fun h => absurd (h.symm.trans (by kernel_rfl)) Bool.false_ne_true) ?_
              clear hK K
              try simp only [List.getElem_toArray, List.getElem_cons_zero, List.getElem_cons_succ, Act.put, List.setIfInBounds_toArray, List.set_cons_zero, List.set_cons_succ]
              refine wpAnyT_done (by kernel_rfl) ?_ _
              have z3 : w104.cell? ⟨b, 3, none⟩ = some (.slice (some ⟨g3, 0, none⟩) (n + 1) d3) := by rw [X.box.cell]; rfl
              have G := Lib.hid (And.intro X st)
              clear X st
              go_wp2
              go_ret3
              exact ⟨by simp, _, _, _, _, _, G.out.2, rput_shut hn.out HX.out G.out.1⟩
    · have X := X.alloc (.cells #[.int .i64 1] 2) (σ + 1)
      have st := st.alloc (σ + 1) (.cells #[.int .i64 1] 2)
      have t3 := t3.alloc (.cells #[.int .i64 1] 2) (σ + 1)
      have t2 := Blk.made o89 (σ + 1) w89 #[.int .i64 1] 2
      have F := Lib.hid (And.intro X (And.intro st (And.intro t3 t2)))
      clear X st t3 t2
      go_simp
      obtain ⟨X, st, t3, t2⟩ := F.out
      clear F
      generalize w89.heap.size = B2 at *
      generalize w89.alloc (.cells #[.int .i64 1] 2) = w105 at *
      generalize tag o89 B2 (σ + 1) = o105 at *
      refine hK _ _ (fun _ => ⟨by rw [X.box.cell]; rfl, by rw [X.box.cell]; rfl, by rw [X.box.cell]; rfl⟩) ?_
      clear hK K
      try simp only [List.getElem_toArray, List.getElem_cons_zero, List.getElem_cons_succ, Act.put, List.setIfInBounds_toArray, List.set_cons_zero, List.set_cons_succ]
      refine wpAnyT_ready (rs := [7]) (by kernel_rfl) (by simp) ?_
      refine AllT.cons rfl (fun K hK => ?_) (AllT.nil)
      · have X := X.alloc (.cells #[.bool true] 4) (σ + 1)
        have st := st.alloc (σ + 1) (.cells #[.bool true] 4)
        have t3 := t3.alloc (.cells #[.bool true] 4) (σ + 1)
        have t2 := t2.alloc (.cells #[.bool true] 4) (σ + 1)
        have t1 := Blk.made o105 (σ + 1) w105 #[.bool true] 4
        have F := Lib.hid (And.intro X (And.intro st (And.intro t3 (And.intro t2 t1))))
        clear X st t3 t2 t1
        go_simp
        obtain ⟨X, st, t3, t2, t1⟩ := F.out
        clear F
        generalize w105.heap.size = B1 at *
        generalize w105.alloc (.cells #[.bool true] 4) = w106 at *
        generalize tag o105 B1 (σ + 1) = o106 at *
        refine hK _ _ (fun _ => ⟨by rw [X.box.cell]; rfl, by rw [X.box.cell]; rfl, by rw [X.box.cell]; rfl⟩) ?_
        clear hK K
        try simp only [List.getElem_toArray, List.getElem_cons_zero, List.getElem_cons_succ, Act.put, List.setIfInBounds_toArray, List.set_cons_zero, List.set_cons_succ]
        refine wpAnyT_ready (rs := [8]) (by kernel_rfl) (by simp) ?_
        refine AllT.cons rfl (fun K hK => ?_) (AllT.nil)
        · have R : w106.ownsRow 0 4 1 (.slice Ai n ci) n xi := by have := X.ri.own; rwa [hxi] at this
          refine step_append_lies _ (by rfl) (.tmp 82) (.tmp 83) 43 (by rfl) 0 4 jb (.bool false) 1 1 Try.underlying43 hjb hb0 hb1 hb2 rfl (by decide) (.slice Ai n ci) n xi (by rfl) R ⟨B1, 0, none⟩ 1 1 [.bool true] (by rfl) rfl (news_blk t1) (one_bool _) (by omega) (by unfold maxLen; omega) (by omega) (Nat.zero_le _) w106.heap.size rfl ?_
          intro g1 d1 w107 hown hgrow hat _
          have hloc : (Value.slice (some ⟨g1, 0, none⟩) (n + 1) d1).ownBlock = ((.slice Ai n ci) : Value).ownBlock ∨ (Value.slice (some ⟨g1, 0, none⟩) (n + 1) d1).ownBlock = some w106.heap.size := hat.imp (fun h => h.symm) (fun h => by rw [h]; rfl)
          have t3 := t3.grown hgrow (fun e => by have q1 := X.ri.mine _ e; have q2 := t3.mine; omega) σ
          have t2 := t2.grown hgrow (fun e => by have q1 := X.ri.mine _ e; have q2 := t2.mine; omega) σ
          have st := st.grown hgrow (fun k hk => .inr (X.ri.mine k hk)) σ
          have X := X.app_i (by rw [hxi]; exact hown) hgrow hloc
          clear t1 R hown hgrow hat hloc
          generalize tag o106 w106.heap.size σ = o107 at *
          refine hK _ _ (fun _ => ⟨by rw [X.box.cell]; rfl, by rw [X.box.cell]; rfl, by rw [X.box.cell]; rfl⟩) ?_
          clear hK K
          try simp only [List.getElem_toArray, List.getElem_cons_zero, List.getElem_cons_succ, Act.put, List.setIfInBounds_toArray, List.set_cons_zero, List.set_cons_succ]
          refine wpAnyT_ready (rs := [14]) (by kernel_rfl) (by simp) ?_
          refine AllT.cons rfl (fun K hK => ?_) (AllT.nil)
          · have R : w107.ownsRow 0 2 1 (.slice Ag n cg) n xg := by have := X.rg.own; rwa [hxg] at this
            refine step_append_lies _ (by rfl) (.tmp 88) (.tmp 89) 44 (by rfl) 0 2 jg (.int .i64 0) 1 8 Try.underlying44 hjg hg0 hg1 hg2 rfl (by decide) (.slice Ag n cg) n xg (by rfl) R ⟨B2, 0, none⟩ 1 1 [.int .i64 1] (by rfl) rfl (news_blk t2) (one_int _) (by omega) (by unfold maxLen; omega) (by omega) (Nat.zero_le _) w107.heap.size rfl ?_
            intro g2 d2 w108 hown hgrow hat _
            have hloc : (Value.slice (some ⟨g2, 0, none⟩) (n + 1) d2).ownBlock = ((.slice Ag n cg) : Value).ownBlock ∨ (Value.slice (some ⟨g2, 0, none⟩) (n + 1) d2).ownBlock = some w107.heap.size := hat.imp (fun h => h.symm) (fun h => by rw [h]; rfl)
            have t3 := t3.grown hgrow (fun e => by have q1 := X.rg.mine _ e; have q2 := t3.mine; omega) σ
            have st := st.grown hgrow (fun k hk => .inr (X.rg.mine k hk)) σ
            have X := X.app_g (by rw [hxg]; exact hown) hgrow hloc
            clear t2 R hown hgrow hat hloc
            generalize tag o107 w107.heap.size σ = o108 at *
            refine hK _ _ (fun _ => ⟨by rw [X.box.cell]; rfl, by rw [X.box.cell]; rfl, by rw [X.box.cell]; rfl⟩) ?_
            clear hK K
            try simp only [List.getElem_toArray, List.getElem_cons_zero, List.getElem_cons_succ, Act.put, List.setIfInBounds_toArray, List.set_cons_zero, List.set_cons_succ]
            refine wpAnyT_ready (rs := [21]) (by kernel_rfl) (by simp) ?_
            refine AllT.cons rfl (fun K hK => ?_) (AllT.nil)
            · have R : w108.ownsRow 0 9 1 (.slice Av n cv) n xv := by have := X.rv.own; rwa [hxv] at this
              refine step_append_lies _ (by rfl) (.tmp 94) (.tmp 96) 45 (by rfl) 0 9 jv (.string ⟨#[]⟩) 1 16 Try.underlying45 hjv hv0 hv1 hv2 rfl (by decide) (.slice Av n cv) n xv (by rfl) R ⟨B3, 0, none⟩ 1 1 [.string v] (by rfl) rfl (news_blk t3) (one_str _) (by omega) (by unfold maxLen; omega) (by omega) (Nat.zero_le _) w108.heap.size rfl ?_
              intro g3 d3 w109 hown hgrow hat _
              have hloc : (Value.slice (some ⟨g3, 0, none⟩) (n + 1) d3).ownBlock = ((.slice Av n cv) : Value).ownBlock ∨ (Value.slice (some ⟨g3, 0, none⟩) (n + 1) d3).ownBlock = some w108.heap.size := hat.imp (fun h => h.symm) (fun h => by rw [h]; rfl)
              have st := st.grown hgrow (fun k hk => .inr (X.rv.mine k hk)) σ
              have X := X.app_v (by rw [hxv]; exact hown) hgrow hloc
              clear t3 R hown hgrow hat hloc
              generalize tag o108 w108.heap.size σ = o109 at *
              refine hK _ _ (fun _ => ⟨by rw [X.box.cell]; rfl, by rw [X.box.cell]; rfl, by rw [X.box.cell]; rfl⟩) ?_
              clear hK K
              try simp only [List.getElem_toArray, List.getElem_cons_zero, List.getElem_cons_succ, Act.put, List.setIfInBounds_toArray, List.set_cons_zero, List.set_cons_succ]
              refine wpAnyT_free (i := 22) (v := (.pointer (some ⟨b, 0, none⟩))) rfl (by kernel_rfl) (fun _ _ _ h => h) (Or.inl ⟨by rfl, ?_⟩) (fun _ => ⟨by rw [X.box.cell]; rfl, by rw [X.box.cell]; rfl, by rw [X.box.cell]; rfl⟩) ?_
              · intro w _; go_simp
              simp only [List.getElem_toArray, List.getElem_cons_zero, List.getElem_cons_succ, Act.put, List.setIfInBounds_toArray, List.set_cons_zero, List.set_cons_succ]
              refine wpAnyT_free (i := 23) (v := (.pointer (some ⟨b, 1, none⟩))) rfl (by kernel_rfl) (fun _ _ _ h => h) (Or.inl ⟨by rfl, ?_⟩) (fun _ => ⟨by rw [X.box.cell]; rfl, by rw [X.box.cell]; rfl, by rw [X.box.cell]; rfl⟩) ?_
              · intro w _; go_simp
              simp only [List.getElem_toArray, List.getElem_cons_zero, List.getElem_cons_succ, Act.put, List.setIfInBounds_toArray, List.set_cons_zero, List.set_cons_succ]
              refine wpAnyT_ready (rs := [24]) (by kernel_rfl) (by simp) ?_
              refine AllT.cons rfl (fun K hK => ?_) AllT.nil
              have z1 : ∃ u, w109.cell? ⟨b, 1, none⟩ = some u := ⟨_, by rw [X.box.cell]; rfl⟩
              obtain ⟨u1, z1⟩ := z1
              have y1 : w109.frozen? ⟨b, 1, none⟩ = false := X.box.frozen 1
              have st := st.setCell (p := ⟨b, 1, none⟩) (.inr X.box.mine) (.slice (some ⟨g1, 0, none⟩) (n + 1) d1)
              have X := X.set1 (.slice (some ⟨g1, 0, none⟩) (n + 1) d1)
              have G := Lib.hid (And.intro X st)
              clear X st
              go_simp
              obtain ⟨X, st⟩ := G.out
              clear G z1 y1
              generalize w109.setCell ⟨b, 1, none⟩ (.slice (some ⟨g1, 0, none⟩) (n + 1) d1) = w110 at *
              refine hK _ _ (fun h => absurd (h.symm.trans (by kernel_rfl)) Bool.false_ne_true) ?_
              clear hK K
              try simp only [List.getElem_toArray, List.getElem_cons_zero, List.getElem_cons_succ, Act.put, List.setIfInBounds_toArray, List.set_cons_zero, List.set_cons_succ]
              refine wpAnyT_free (i := 25) (v := (.pointer (some ⟨b, 0, none⟩))) rfl (by kernel_rfl) (fun _ _ _ h => h) (Or.inl ⟨by rfl, ?_⟩) (fun h => absurd (h.symm.trans (by kernel_rfl)) Bool.false_ne_true) ?_
              · intro w _; go_simp
              simp only [List.getElem_toArray, List.getElem_cons_zero, List.getElem_cons_succ, Act.put, List.setIfInBounds_toArray, List.set_cons_zero, List.set_cons_succ]
              refine wpAnyT_free (i := 26) (v := (.pointer (some ⟨b, 2, none⟩))) rfl (by kernel_rfl) (fun _ _ _ h => h) (Or.inl ⟨by rfl, ?_⟩) (fun h => absurd (h.symm.trans (by kernel_rfl)) Bool.false_ne_true) ?_
              · intro w _; go_simp
              simp only [List.getElem_toArray, List.getElem_cons_zero, List.getElem_cons_succ, Act.put, List.setIfInBounds_toArray, List.set_cons_zero, List.set_cons_succ]
              refine wpAnyT_ready (rs := [27]) (by kernel_rfl) (by simp) ?_
              refine AllT.cons rfl (fun K hK => ?_) AllT.nil
              have z2 : ∃ u, w110.cell? ⟨b, 2, none⟩ = some u := ⟨_, by rw [X.box.cell]; rfl⟩
              obtain ⟨u2, z2⟩ := z2
              have y2 : w110.frozen? ⟨b, 2, none⟩ = false := X.box.frozen 2
              have st := st.setCell (p := ⟨b, 2, none⟩) (.inr X.box.mine) (.slice (some ⟨g2, 0, none⟩) (n + 1) d2)
              have X := X.set2 (.slice (some ⟨g2, 0, none⟩) (n + 1) d2)
              have G := Lib.hid (And.intro X st)
              clear X st
              go_simp
              obtain ⟨X, st⟩ := G.out
              clear G z2 y2
              generalize w110.setCell ⟨b, 2, none⟩ (.slice (some ⟨g2, 0, none⟩) (n + 1) d2) = w111 at *
              refine hK _ _ (fun h => absurd (h.symm.trans (by kernel_rfl)) Bool.false_ne_true) ?_
              clear hK K
              try simp only [List.getElem_toArray, List.getElem_cons_zero, List.getElem_cons_succ, Act.put, List.setIfInBounds_toArray, List.set_cons_zero, List.set_cons_succ]
              refine wpAnyT_free (i := 28) (v := (.pointer (some ⟨b, 0, none⟩))) rfl (by kernel_rfl) (fun _ _ _ h => h) (Or.inl ⟨by rfl, ?_⟩) (fun h => absurd (h.symm.trans (by kernel_rfl)) Bool.false_ne_true) ?_
              · intro w _; go_simp
              simp only [List.getElem_toArray, List.getElem_cons_zero, List.getElem_cons_succ, Act.put, List.setIfInBounds_toArray, List.set_cons_zero, List.set_cons_succ]
              refine wpAnyT_free (i := 29) (v := (.pointer (some ⟨b, 3, none⟩))) rfl (by kernel_rfl) (fun _ _ _ h => h) (Or.inl ⟨by rfl, ?_⟩) (fun h => absurd (h.symm.trans (by kernel_rfl)) Bool.false_ne_true) ?_
              · intro w _; go_simp
              simp only [List.getElem_toArray, List.getElem_cons_zero, List.getElem_cons_succ, Act.put, List.setIfInBounds_toArray, List.set_cons_zero, List.set_cons_succ]
              refine wpAnyT_ready (rs := [30]) (by kernel_rfl) (by simp) ?_
              refine AllT.cons rfl (fun K hK => ?_) AllT.nil
              have z3 : ∃ u, w111.cell? ⟨b, 3, none⟩ = some u := ⟨_, by rw [X.box.cell]; rfl⟩
              obtain ⟨u3, z3⟩ := z3
              have y3 : w111.frozen? ⟨b, 3, none⟩ = false := X.box.frozen 3
              have st := st.setCell (p := ⟨b, 3, none⟩) (.inr X.box.mine) (.slice (some ⟨g3, 0, none⟩) (n + 1) d3)
              have X := X.set3 (.slice (some ⟨g3, 0, none⟩) (n + 1) d3)
              have G := Lib.hid (And.intro X st)
              clear X st
              go_simp
              obtain ⟨X, st⟩ := G.out
              clear G z3 y3
              generalize w111.setCell ⟨b, 3, none⟩ (.slice (some ⟨g3, 0, none⟩) (n + 1) d3) = w112 at *
              refine hK _ _ (fun h => absurd (h.symm.trans (by kernel_rfl)) Bool.false_ne_true) ?_
              clear hK K
              try simp only [List.getElem_toArray, List.getElem_cons_zero, List.getElem_cons_succ, Act.put, List.setIfInBounds_toArray, List.set_cons_zero, List.set_cons_succ]
              refine wpAnyT_done (by kernel_rfl) ?_ _
              have z3 : w112.cell? ⟨b, 3, none⟩ = some (.slice (some ⟨g3, 0, none⟩) (n + 1) d3) := by rw [X.box.cell]; rfl
              have G := Lib.hid (And.intro X st)
              clear X st
              go_wp2
              go_ret3
              exact ⟨by simp, _, _, _, _, _, G.out.2, rput_shut hn.out HX.out G.out.1⟩
end Go.Proofs.Ytenokhdfbomkkaa
