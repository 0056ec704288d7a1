/- The contracts of Arena[string]: the place for the next value. -/
import Derived.Test.YtenokhdfbomkkaaSlots
namespace Go.Proofs.Ytenokhdfbomkkaa
open Go.RowKit
set_option linter.unusedVariables false
set_option linter.unusedSimpArgs false

/-- Block a is an arena of room places, with these slots used so far and these freed. -/
structure ArS (o : Nat → Nat) (σ : Nat) (w : World) (a room : Nat) (vs vf : Value) (ss : List (ByteArray × Int × Bool)) (fr : List Nat) : Prop where
  box : Blk o σ w a #[.int .i64 (room : Int), vs, vf] 79
  rs : Row o σ w 82 3 vs ss.length (cells3 Value.string ss)
  rf : Row o σ w 3 1 vf fr.length (natCells fr)
section
variable {o o' : Nat → Nat} {σ τ : Nat} {w w' : World} {a room : Nat} {vs vf : Value} {ss : List (ByteArray × Int × Bool)} {fr : List Nat}
theorem ArS.alloc (h : ArS o σ w a room vs vf ss fr) (x : Obj) (τ' : Nat) : ArS (tag o w.heap.size τ') σ (w.alloc x) a room vs vf ss fr := ⟨h.box.alloc x τ', h.rs.alloc x τ', h.rf.alloc x τ'⟩
theorem ArS.drewN (h : ArS o σ w a room vs vf ss fr) (n : Nat) : ArS o σ (w.drewN n) a room vs vf ss fr := ⟨⟨h.box.at_, h.box.mine⟩, ⟨h.rs.own, h.rs.mine⟩, ⟨h.rf.own, h.rf.mine⟩⟩
theorem ArS.below (h : ArS o σ w a room vs vf ss fr) (hb : Below w.heap.size w w') : ArS o σ w' a room vs vf ss fr := ⟨h.box.below hb, h.rs.below hb, h.rf.below hb⟩
theorem ArS.step (h : ArS o σ w a room vs vf ss fr) (st : Step o o' τ w w') (hne : σ ≠ τ) : ArS o' σ w' a room vs vf ss fr := ⟨h.box.step st hne, h.rs.step st hne, h.rf.step st hne⟩
theorem ArS.setV {g n cap i : Nat} {s : ByteArray × Int × Bool} (h : ArS o σ w a room (.slice (some ⟨g, 0, none⟩) n cap) vf ss fr) (hs : ss[i]? = some s) (v : ByteArray) : ArS o σ (w.setCell ⟨g, i * 3, none⟩ (.string v)) a room (.slice (some ⟨g, 0, none⟩) n cap) vf (ss.set i (v, s.2)) fr := by
  obtain ⟨A, c, hv⟩ := h.rs.any
  cases hv
  refine ⟨h.box.other (fun e => h.rs.ne_blk h.box.at_ (by decide) (by rw [e]; rfl)) _, ?_, h.rf.other (fun e => h.rf.ne_row h.rs (by decide) g e rfl) _⟩
  have hr := h.rs.set (i * 3) (.string v)
  rw [(cells3_set ss i s hs v 0 false).1] at hr
  rw [List.length_set]
  exact hr
theorem ArS.setG {g n cap i : Nat} {s : ByteArray × Int × Bool} (h : ArS o σ w a room (.slice (some ⟨g, 0, none⟩) n cap) vf ss fr) (hs : ss[i]? = some s) (x : Int) : ArS o σ (w.setCell ⟨g, i * 3 + 1, none⟩ (.int .i64 x)) a room (.slice (some ⟨g, 0, none⟩) n cap) vf (ss.set i (s.1, x, s.2.2)) fr := by
  obtain ⟨A, c, hv⟩ := h.rs.any
  cases hv
  refine ⟨h.box.other (fun e => h.rs.ne_blk h.box.at_ (by decide) (by rw [e]; rfl)) _, ?_, h.rf.other (fun e => h.rf.ne_row h.rs (by decide) g e rfl) _⟩
  have hr := h.rs.set (i * 3 + 1) (.int .i64 x)
  rw [(cells3_set ss i s hs s.1 x false).2.1] at hr
  rw [List.length_set]
  exact hr
theorem ArS.setH {g n cap i : Nat} {s : ByteArray × Int × Bool} (h : ArS o σ w a room (.slice (some ⟨g, 0, none⟩) n cap) vf ss fr) (hs : ss[i]? = some s) (b : Bool) : ArS o σ (w.setCell ⟨g, i * 3 + 2, none⟩ (.bool b)) a room (.slice (some ⟨g, 0, none⟩) n cap) vf (ss.set i (s.1, s.2.1, b)) fr := by
  obtain ⟨A, c, hv⟩ := h.rs.any
  cases hv
  refine ⟨h.box.other (fun e => h.rs.ne_blk h.box.at_ (by decide) (by rw [e]; rfl)) _, ?_, h.rf.other (fun e => h.rf.ne_row h.rs (by decide) g e rfl) _⟩
  have hr := h.rs.set (i * 3 + 2) (.bool b)
  rw [(cells3_set ss i s hs s.1 0 b).2.2] at hr
  rw [List.length_set]
  exact hr
end
theorem Try.infoSlotS : (Try.prog.info? 82).map (fun i => (i.zero, i.size, i.bytes)) = some (some (.agg #[.string ⟨#[]⟩, .int .i64 0, .bool false]), 3, 32) := by kernel_rfl
set_option maxHeartbeats 800000 in
theorem take_pop_s {o : Nat → Nat} {σ : Nat} {w : World} {a room : Nat} {vs vf : Value} {ss : List (ByteArray × Int × Bool)} {fr : List Nat} {p : Nat}
    (h : ArS o σ w a room vs vf ss (fr ++ [p])) (hl : fr.length ≤ 1000) :
    Calls Try.prog 30 #[.pointer (some ⟨a, 0, none⟩)] w fun e w' => e = .returned (.tuple #[.int .i64 (p : Int), .bool true]) ∧
      ∃ o' vs' vf', Step o o' σ w w' ∧ ArS o' σ w' a room vs' vf' ss fr := by
  obtain ⟨gf, cap, rfl, hc1, hc2, _, _⟩ := h.rf.form (by simp)
  have c2 : w.cell? ⟨a, 2, none⟩ = some (.slice (some ⟨gf, 0, none⟩) (fr.length + 1) cap) := by rw [h.box.cell]; simp
  have f2 : w.frozen? ⟨a, 2, none⟩ = false := h.box.frozen 2
  have d : w.cell? ⟨gf, fr.length, none⟩ = some (.int .i64 (p : Int)) := by rw [h.rf.cellAt fr.length (by simp)]; exact natCells_get _ _ _ (by simp)
  simp only [List.length_append, List.length_cons, List.length_nil, Nat.zero_add] at hc1
  unfold maxLen at hc2
  replace h := Lib.hid h
  go_enter Try.func30, Try.ntmps30
  go_wp2
  go_ret2
  refine ⟨rfl, _, _, _, (Step.refl o σ w).setCell (.inr h.out.box.mine) _, h.out.box.set 2 _, h.out.rs.other (h.out.rs.ne_blk h.out.box.at_ (by decide)) _, ?_⟩
  have hr := (h.out.rf.cut (m := fr.length) (by simp)).other (p := ⟨a, 2, none⟩) (h.out.rf.ne_blk h.out.box.at_ (by decide)) (.slice (some ⟨gf, 0, none⟩) fr.length cap)
  rw [Nat.mul_one, natCells_take, List.take_left] at hr
  exact hr
set_option maxHeartbeats 800000 in
theorem take_full_s {o : Nat → Nat} {σ : Nat} {w : World} {a room : Nat} {vs vf : Value} {ss : List (ByteArray × Int × Bool)}
    (h : ArS o σ w a room vs vf ss []) (hl : ss.length = room) (hr : room ≤ 1000) :
    Calls Try.prog 30 #[.pointer (some ⟨a, 0, none⟩)] w fun e w' => e = .returned (.tuple #[.int .i64 0, .bool false]) ∧ ∃ n, w' = w.drewN n := by
  obtain ⟨Af, cf, rfl⟩ := h.rf.any
  obtain ⟨As, cs, rfl⟩ := h.rs.any
  rw [hl] at h
  have c0 : w.cell? ⟨a, 0, none⟩ = some (.int .i64 (room : Int)) := by rw [h.box.cell]; simp
  have c1 : w.cell? ⟨a, 1, none⟩ = some (.slice As room cs) := by rw [h.box.cell]; simp
  have c2 : w.cell? ⟨a, 2, none⟩ = some (.slice Af 0 cf) := by rw [h.box.cell]; simp
  clear h hl
  go_enter Try.func30, Try.ntmps30
  go_wp2
  go_quiet (fail)
  go_wp2
  go_ret2
  exact ⟨rfl, _, rfl⟩
set_option maxHeartbeats 800000 in
theorem take_new_s {o : Nat → Nat} {σ : Nat} {w : World} {a room : Nat} {vs vf : Value} {ss : List (ByteArray × Int × Bool)}
    (h : ArS o σ w a room vs vf ss []) (hl : ss.length < room) (hr : room ≤ 1000) :
    Calls Try.prog 30 #[.pointer (some ⟨a, 0, none⟩)] w fun e w' => e = .returned (.tuple #[.int .i64 (ss.length : Int), .bool true]) ∧
      ∃ o' vs' vf', Step o o' σ w w' ∧ ArS o' σ w' a room vs' vf' (ss ++ [(⟨#[]⟩, 0, false)]) [] := by
  obtain ⟨i0, hi, hz0, hz1, hz2⟩ := info_parts Try.infoSlotS
  obtain ⟨Af, cf, rfl⟩ := h.rf.any
  obtain ⟨As, cs, rfl⟩ := h.rs.any
  have c0 : w.cell? ⟨a, 0, none⟩ = some (.int .i64 (room : Int)) := by rw [h.box.cell]; simp
  have c1 : w.cell? ⟨a, 1, none⟩ = some (.slice As ss.length cs) := by rw [h.box.cell]; simp
  have c2 : w.cell? ⟨a, 2, none⟩ = some (.slice Af 0 cf) := by rw [h.box.cell]; simp
  have hne : ((ss.length : Int) == (room : Int)) = false := by simp; omega
  replace h := Lib.hid h
  go_enter Try.func30, Try.ntmps30
  go_wp2
  go_quiet (fail)
  go_wp2_with (at_builtin; refine wpList_append_own_at _ rfl (.tmp 45) (.tmp 47) 77 rfl 0 82 i0 (.agg #[.string ⟨#[]⟩, .int .i64 0, .bool false]) 3 32 Try.underlying77 hi hz0 hz1 hz2 rfl (by decide) _ _ _ rfl (h.out.rs.own.alloc _) ⟨w.heap.size, 0, none⟩ 1 1 [.string ⟨#[]⟩, .int .i64 0, .bool false] rfl rfl (news_three _ _ _ _ _) (by intro u hu; simp at hu; rcases hu with rfl | rfl | rfl <;> rfl) (by unfold maxLen; omega) (by omega) (Nat.zero_le _) ?_)
  intro v' w3 hown' hgrow' hnil hloc
  have h1 := (h.out.drewN nq).alloc (.cells #[.string ⟨#[]⟩, .int .i64 0, .bool false] 82) σ
  have st := ((((Step.refl o σ w).drewN nq).alloc σ _).grown hgrow' (fun k hk => .inr (h1.rs.mine k hk)) σ)
  have hb3 := h1.box.grown hgrow' (h1.rs.ne_blk h1.box.at_ (by decide)) σ
  have hf3 := h1.rf.grown hgrow' (fun k hk => h1.rf.ne_row h1.rs (by decide) k hk) σ
  have hs3 := h1.rs.appended hown' (by simpa using hloc)
  obtain ⟨g3, cap3, rfl, hc3, hc4, _, _⟩ := hs3.form (by omega)
  clear hloc hnil hgrow' hown'
  have e0 : w3.cell? ⟨a, 1, none⟩ = some (.slice As ss.length cs) := by rw [hb3.cell]; simp
  have e1 : w3.frozen? ⟨a, 1, none⟩ = false := hb3.frozen 1
  have F := Lib.hid (And.intro h1 (And.intro st (And.intro hb3 (And.intro hf3 hs3))))
  clear h1 st hb3 hf3 hs3
  go_wp2
  go_ret2
  obtain ⟨h1, st, hb3, hf3, hs3⟩ := F.out
  refine ⟨rfl, _, _, _, st.setCell (.inr hb3.mine) _, hb3.set 1 _, ?_, hf3.other (hf3.ne_blk hb3.at_ (by decide)) _⟩
  have := hs3.other (p := ⟨a, 1, none⟩) (hs3.ne_blk hb3.at_ (by decide)) (.slice (some ⟨g3, 0, none⟩) (ss.length + 1) cap3)
  rw [cells3_append, List.length_append]
  exact this
end Go.Proofs.Ytenokhdfbomkkaa
