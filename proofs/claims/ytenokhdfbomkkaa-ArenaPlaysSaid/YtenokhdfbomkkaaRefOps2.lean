/- The document's arena: Free; Put where a place is used again or none is left. -/
import Derived.Test.YtenokhdfbomkkaaRefOps
import Derived.Laws.AppendOwnNone
namespace Go.Proofs.Ytenokhdfbomkkaa
open Go.RowKit
set_option linter.unusedVariables false
set_option linter.unusedSimpArgs false
attribute [local go_sem ↓] Go.wp_at_zero Go.wp_at_succ

/-- An append whose source may be nil. -/
theorem wpList_append_seg {P : Program} (w : World) {ops : Array Oper} {rest : List Oper} {o : Oper} {a : Act} {Q : Exit → Act → World → Prop} (hgd : o.guard = none) (s x : Operand) (t : TypeId)
    (ho : o.op = .call { callee := .builtin .append, args := #[s, x], argTypes := #[t, t] })
    (base : Nat) (e : TypeId) (i : TypeInfo) (z : Value) (size bytes : Nat) (ht : P.underlying t = some (.slice e)) (hi : P.info? e = some i) (hz : i.zero = some z)
    (hsize : i.size = size) (hby : i.bytes = bytes) (hzs : z.cells.size = size) (hsz : 0 < size)
    (v : Value) (n : Nat) (xs : List Value) (hs : a.eval s = v) (hown : w.ownsRow base e size v n xs)
    (src : Value) (m : Nat) (news : List Value) (hx : a.eval x = src) (hsrc : (src = .slice none 0 0 ∧ m = 0 ∧ news = []) ∨ ∃ ad c, src = .slice (some ad) m c ∧ ∀ j u, news[j]? = some u → w.cell? (ad.add j) = some u)
    (hl : news.length = m * size) (h1 : ∀ u ∈ news, u.oneCell' = true)
    (h63 : n + m ≤ maxLen) (hbytes : (n + m) * bytes ≤ 140737488355328) (hbase : base ≤ w.heap.size)
    (h : ∀ v' w', w'.ownsRow base e size v' (n + m) (xs ++ news) → Below base w w' → wpList P ops Q rest (a.put o.dst v') w') : wpList P ops Q (o :: rest) a w := by
  rcases hsrc with ⟨rfl, rfl, rfl⟩ | ⟨ad, c, rfl, hn⟩
  · exact wpList_append_own_none hgd s x t ho base e i size ht hi v n xs hs hown hx (h v w (by simpa using hown) (Below.refl _ _))
  · refine wpList_append_own_at w hgd s x t ho base e i z size bytes ht hi hz hsize hby hzs hsz v n xs hs hown ad m c news hx hl hn h1 h63 hbytes hbase ?_
    intro v' w' h2 h3 _ _
    exact h v' w' h2 ((Below.refl base w).grown h3 hbase (fun k hk => (hown.lt k hk).1))
theorem cell_far_set {g b : Nat} (h : b ≠ g) (w : World) (j k : Nat) (u : Value) : (w.setCell ⟨g, j, none⟩ u).cell? ⟨b, k, none⟩ = w.cell? ⟨b, k, none⟩ := World.cell?_of_block (heap_setCell_other w ⟨g, j, none⟩ b u h)
theorem Step.made {w w' : World} (o : Nat → Nat) (σ : Nat) (hb : Below w.heap.size w w') (τ : Nat) : Step o (tag o w.heap.size τ) σ w w' :=
  ⟨hb.os, hb.tape, hb.output, hb.size, fun k hk => tag_old hk, fun k hk _ => hb.block k hk⟩
theorem natCells_ones (fr : List Nat) : ∀ u ∈ natCells fr, u.oneCell' = true := by
  intro u hu
  simp only [natCells, List.mem_map] at hu
  obtain ⟨p, _, rfl⟩ := hu
  rfl
section
variable {o : Nat → Nat} {σ : Nat} {w : World} {b room : Nat} {vi vg vv vf : Value} {ss : List (ByteArray × Int × Bool)} {fr : List Nat}
theorem Seg.src {e : TypeId} {v : Value} {n : Nat} {xs : List Value} (h : Seg o σ w e v n xs) : (v = .slice none 0 0 ∧ n = 0 ∧ xs = []) ∨ ∃ ad c, v = .slice (some ad) n c ∧ ∀ j u, xs[j]? = some u → w.cell? (ad.add j) = some u := by
  rcases h.at_ with ⟨rfl, h0⟩ | ⟨g, cap, cur, rfl, hg, h1, h2, h4⟩
  · exact .inl ⟨rfl, h0, List.eq_nil_of_length_eq_zero (by rw [h.len, h0])⟩
  · refine .inr ⟨⟨g, 0, none⟩, cap, rfl, fun j u hu => ?_⟩
    have hj : j < n := by have := (List.getElem?_eq_some_iff.1 hu).1; rw [h.len] at this; exact this
    have hadd : (⟨g, 0, none⟩ : Addr).add j = ⟨g, j, none⟩ := by unfold Addr.add; split <;> simp_all
    rw [hadd, h.cellAt j hj]; exact hu
set_option maxHeartbeats 1600000 in
theorem rfree_no (slot gen c : Int) (h : RefA o σ w b room vi vg vv vf ss fr) (hc : findE room ss slot gen = c) (hc0 : c ≠ 0) (hr : room ≤ 1000) (hl : ss.length ≤ room) :
    Calls Try.prog 24 #[.pointer (some ⟨b, 0, none⟩), .int .i64 slot, .int .i64 gen] w fun e w' => e = .returned (.int .i64 c) ∧ w' = w := by
  have C := Lib.hid (rfind slot gen c h hc hr hl)
  have hc0' : (c == 0) = false := by simp [hc0]
  clear h hc
  go_enter Try.func24, Try.ntmps24
  go_wp2_with fail
  refine C.out.mono ?_
  rintro e w2 ⟨rfl, rfl⟩
  go_wp2
  go_ret
  exact ⟨rfl, rfl⟩
set_option maxHeartbeats 3200000 in
theorem rfree_yes {i : Nat} {sv : ByteArray} {gen : Int} (h : RefA o σ w b room vi vg vv vf ss fr) (hs : ss[i]? = some (sv, gen, true)) (hr : room ≤ 1000) (hl : ss.length ≤ room) (hf : fr.length ≤ 1000) :
    Calls Try.prog 24 #[.pointer (some ⟨b, 0, none⟩), .int .i64 (i : Int), .int .i64 gen] w fun e w' => e = .returned (.int .i64 0) ∧
      ∃ o' vi' vg' vv' vf', Step o o' σ w w' ∧ RefA o' σ w' b room vi' vg' vv' vf' (ss.set i (⟨#[]⟩, gen, false)) (fr ++ [i]) := by
  obtain ⟨j0, hj0, hz0, hz1, hz2⟩ := info_parts Try.infoInt
  have C := Lib.hid (rfind (i : Int) gen 0 h (findE_yes hs hl) hr hl)
  have hi : i < ss.length := (List.getElem?_eq_some_iff.1 hs).1
  obtain ⟨gi, ci, gg, cg, gv, cv, rfl, rfl, rfl, l1, m1, l2, m2, l3, m3, o1, o2, o3⟩ := h.form (by omega)
  obtain ⟨Af, cf, rfl⟩ := h.any.2.2.2
  have e1 : w.cell? ⟨b, 1, none⟩ = some (.slice (some ⟨gi, 0, none⟩) ss.length ci) := by rw [h.box.cell]; simp
  have e3 : w.cell? ⟨b, 3, none⟩ = some (.slice (some ⟨gv, 0, none⟩) ss.length cv) := by rw [h.box.cell]; simp
  have hri := h.ri
  have hrv := h.rv
  rw [List.length_map] at hrv hri
  have d1 : w.cell? ⟨gi, i, none⟩ = some (.bool true) := by rw [hri.cellAt i (by omega)]; simp [hs]
  have f1 : w.frozen? ⟨gi, i, none⟩ = false := hri.frozenAt i
  have d3 : w.cell? ⟨gv, i, none⟩ = some (.string sv) := by rw [hrv.cellAt i (by omega)]; simp [hs]
  have f3 : w.frozen? ⟨gv, i, none⟩ = false := hrv.frozenAt i
  have n1 : gi ≠ gv := fun e => by subst e; exact hri.ne_row hrv (by decide) gi rfl rfl
  have n2 : b ≠ gi := fun e => by subst e; exact hri.ne_blk h.box.at_ (by decide) rfl
  have n3 : b ≠ gv := fun e => by subst e; exact hrv.ne_blk h.box.at_ (by decide) rfl
  have p1 : ∀ (w : World) (u : Value) (k : Nat), (w.setCell ⟨gi, i, none⟩ u).cell? ⟨b, k, none⟩ = w.cell? ⟨b, k, none⟩ := fun w u k => cell_far_set n2 w i k u
  have p3 : ∀ (w : World) (u : Value) (k : Nat), (w.setCell ⟨gv, i, none⟩ u).cell? ⟨b, k, none⟩ = w.cell? ⟨b, k, none⟩ := fun w u k => cell_far_set n3 w i k u
  have hi0 : (0 : Int) ≤ (i : Int) := by omega
  have hi1 : (i : Int) < (ss.length : Int) := by omega
  unfold maxLen at m1 m2 m3
  replace h := Lib.hid h
  clear hrv hri
  go_enter Try.func24, Try.ntmps24
  go_wp2_with fail
  refine C.out.mono ?_
  rintro e w2 ⟨rfl, rfl⟩
  clear C
  go_wp2
  go_region_held3 (fun w' => w'.cell? ⟨b, 1, none⟩ = some (.slice (some ⟨gi, 0, none⟩) ss.length ci) ∧ w'.cell? ⟨b, 3, none⟩ = some (.slice (some ⟨gv, 0, none⟩) ss.length cv)) (go_keep) (fail)
  have X := ((h.out.put_i i (.bool false)).put_v i (.string ⟨#[]⟩)).drew
  have st := ((((Step.refl o σ w2).setCell (p := ⟨gi, i, none⟩) (.inr o1) (.bool false)).setCell (p := ⟨gv, i, none⟩) (.inr o3) (.string ⟨#[]⟩))).drew
  clear h e1 e3 d1 f1 d3 f3 p1 p3
  generalize hwX : ((w2.setCell ⟨gi, i, none⟩ (.bool false)).setCell ⟨gv, i, none⟩ (.string ⟨#[]⟩)).drew = wX at *
  clear hwX
  have e4 : wX.cell? ⟨b, 4, none⟩ = some (.slice Af fr.length cf) := by rw [X.box.cell]; simp
  have e4a : ∀ x, (wX.alloc x).cell? ⟨b, 4, none⟩ = some (.slice Af fr.length cf) := fun x => by rw [(X.alloc x 0).box.cell]; simp
  have hsg := (X.rf.alloc (.cells #[] 3) 0).src
  rw [natCells_len] at hsg
  have E := World.ownsRow_made (base := wX.heap.size) (e := 3) (size := 1) wX #[] 0 (Nat.le_refl _) (by decide) rfl
  have F := Lib.hid (And.intro X (And.intro st (And.intro hsg E)))
  clear X st hsg E
  go_wp2_with (at_builtin; refine wpList_append_seg _ rfl (.tmp 27) (.tmp 31) 46 rfl wX.heap.size 3 j0 (.int .i64 0) 1 8 Try.underlying46 hj0 hz0 hz1 hz2 rfl (by decide) _ 0 [] rfl (F.out.2.2.2) (.slice Af fr.length cf) fr.length (natCells fr) rfl (F.out.2.2.1) (by rw [natCells_len]; omega) (natCells_ones fr) (by unfold maxLen; omega) (by omega) (by simp) ?_)
  intro v4 w4 hown4 b4
  have hw4 : wX.heap.size < w4.heap.size := by have := b4.size; simp at this; omega
  have G := Lib.hid (And.intro hown4 b4)
  clear hown4 b4
  go_wp2_with (at_builtin; refine wpList_append_own_at _ rfl (.tmp 32) (.tmp 34) 46 rfl wX.heap.size 3 j0 (.int .i64 0) 1 8 Try.underlying46 hj0 hz0 hz1 hz2 rfl (by decide) _ _ _ rfl (G.out.1.alloc _) ⟨w4.heap.size, 0, none⟩ 1 1 [.int .i64 (i : Int)] rfl rfl (news_one _ _ _) (one_int _) (by unfold maxLen; omega) (by omega) (by simp; omega) ?_)
  intro v5 w5 hown5 hgrow5 _ _
  obtain ⟨X, st, _, _⟩ := F.out
  obtain ⟨hown4, b4⟩ := G.out
  have b5 : Below wX.heap.size wX w5 := (((Below.refl _ wX).alloc (Nat.le_refl _) _).trans b4).alloc (by omega) (.cells #[.int .i64 (i : Int)] 3) |>.grown hgrow5 (by simp; omega) (fun k hk => (hown4.lt k hk).1)
  have X5 := X.step (Step.made o (σ + 1) b5 σ) (by omega)
  have st5 := st.trans (Step.made o σ b5 σ)
  have r5 := Row.fresh (w0 := wX) σ hown5 o
  obtain ⟨g5, c5, rfl, _, _, _, _⟩ := r5.form (by omega)
  have e5 : w5.cell? ⟨b, 4, none⟩ = some (.slice Af fr.length cf) := by rw [X5.box.cell]; simp
  have f5 : w5.frozen? ⟨b, 4, none⟩ = false := X5.box.frozen 4
  have K := Lib.hid (And.intro X5 (And.intro st5 r5))
  clear X st hown4 b4 b5 X5 st5 r5 hown5 hgrow5 F G e4 e4a
  go_wp2
  go_ret
  obtain ⟨X5, st5, r5⟩ := K.out
  try simp only [Nat.zero_add] at r5
  have el : natCells fr ++ [Value.int .i64 (i : Int)] = natCells (fr ++ [i]) := by rw [natCells_append]; rfl
  have hl6 : fr.length + 1 = (natCells (fr ++ [i])).length := by rw [natCells_len, List.length_append]; simp
  have r6 := Seg.of_row (r5.other (p := ⟨b, 4, none⟩) (r5.ne_blk X5.box.at_ (by decide)) (.slice (some ⟨g5, 0, none⟩) (fr.length + 1) c5))
  try simp only [List.nil_append] at r6
  rw [el] at r6
  refine ⟨rfl, _, .slice (some ⟨gi, 0, none⟩) ss.length ci, .slice (some ⟨gg, 0, none⟩) ss.length cg, .slice (some ⟨gv, 0, none⟩) ss.length cv, .slice (some ⟨g5, 0, none⟩) (fr.length + 1) c5, st5.setCell (.inr X5.box.mine) _, ?_⟩
  unfold RefA
  rw [map_set_v, map_set_g ss i _ hs, map_set_i']
  have X7 := (X5.set4 (.slice (some ⟨g5, 0, none⟩) (fr.length + 1) c5)).free (xf' := natCells (fr ++ [i])) (vf' := .slice (some ⟨g5, 0, none⟩) (fr.length + 1) c5) (by rw [← hl6]; exact r6)
  exact X7
set_option maxHeartbeats 1600000 in
theorem rput_full (v : ByteArray) (h : RefA o σ w b room vi vg vv vf ss []) (hl : ss.length = room) (hr : room ≤ 1000) :
    Calls Try.prog 18 #[.pointer (some ⟨b, 0, none⟩), .string v] w fun e w' => e = .returned (.tuple #[.int .i64 0, .int .i64 0, .int .i64 6]) ∧ ∃ n, w' = w.drewN n := by
  obtain ⟨⟨Ai, ci, rfl⟩, ⟨Ag, cg, rfl⟩, ⟨Av, cv, rfl⟩, ⟨Af, cf, rfl⟩⟩ := h.any
  rw [hl] at h
  have e0 : w.cell? ⟨b, 0, none⟩ = some (.int .i64 (room : Int)) := by rw [h.box.cell]; simp
  have e3 : w.cell? ⟨b, 3, none⟩ = some (.slice Av room cv) := by rw [h.box.cell]; simp
  have e4 : w.cell? ⟨b, 4, none⟩ = some (.slice Af 0 cf) := by rw [h.box.cell]; simp
  clear h hl
  go_enter Try.func18, Try.ntmps18
  go_wp2
  go_quiet (fail)
  go_wp2
  go_ret3
  exact ⟨rfl, _, rfl⟩
set_option maxHeartbeats 3200000 in
theorem rput_pop {p : Nat} {s : ByteArray × Int × Bool} (v : ByteArray) (h : RefA o σ w b room vi vg vv vf ss (fr ++ [p])) (hp : ss[p]? = some s) (hg0 : 0 ≤ s.2.1) (hg1 : s.2.1 ≤ 1000000) (hl : ss.length ≤ 1000) (hf : fr.length ≤ 1000) :
    Calls Try.prog 18 #[.pointer (some ⟨b, 0, none⟩), .string v] w fun e w' => e = .returned (.tuple #[.int .i64 (p : Int), .int .i64 (s.2.1 + 1), .int .i64 0]) ∧
      ∃ o' vi' vg' vv' vf', Step o o' σ w w' ∧ RefA o' σ w' b room vi' vg' vv' vf' (ss.set p (v, s.2.1 + 1, true)) fr := by
  obtain ⟨sv, sg, sh⟩ := s
  simp only at hg0 hg1 ⊢
  have hi : p < ss.length := (List.getElem?_eq_some_iff.1 hp).1
  obtain ⟨gi, ci, gg, cg, gv, cv, rfl, rfl, rfl, l1, m1, l2, m2, l3, m3, o1, o2, o3⟩ := h.form (by omega)
  have hrf := h.rf
  rw [natCells_len] at hrf
  obtain ⟨gf, cf, rfl, lf, mf, of, _⟩ := hrf.form (by simp)
  simp only [List.length_append, List.length_cons, List.length_nil, Nat.zero_add] at lf
  have e1 : w.cell? ⟨b, 1, none⟩ = some (.slice (some ⟨gi, 0, none⟩) ss.length ci) := by rw [h.box.cell]; simp
  have e2 : w.cell? ⟨b, 2, none⟩ = some (.slice (some ⟨gg, 0, none⟩) ss.length cg) := by rw [h.box.cell]; simp
  have e3 : w.cell? ⟨b, 3, none⟩ = some (.slice (some ⟨gv, 0, none⟩) ss.length cv) := by rw [h.box.cell]; simp
  have e4 : w.cell? ⟨b, 4, none⟩ = some (.slice (some ⟨gf, 0, none⟩) (fr.length + 1) cf) := by rw [h.box.cell]; simp
  have f4 : w.frozen? ⟨b, 4, none⟩ = false := h.box.frozen 4
  have dp : w.cell? ⟨gf, fr.length, none⟩ = some (.int .i64 (p : Int)) := by rw [hrf.cellAt fr.length (by simp)]; exact natCells_get _ _ _ (by simp)
  have hri := h.ri
  have hrg := h.rg
  have hrv := h.rv
  rw [List.length_map] at hrv hri hrg
  have n1 : gi ≠ gv := fun e => by subst e; exact hri.ne_row hrv (by decide) gi rfl rfl
  have n2 : b ≠ gi := fun e => by subst e; exact hri.ne_blk h.box.at_ (by decide) rfl
  have n3 : b ≠ gv := fun e => by subst e; exact hrv.ne_blk h.box.at_ (by decide) rfl
  have n4 : b ≠ gg := fun e => by subst e; exact hrg.ne_blk h.box.at_ (by decide) rfl
  have p1 : ∀ (w : World) (u : Value) (k : Nat), (w.setCell ⟨gi, p, none⟩ u).cell? ⟨b, k, none⟩ = w.cell? ⟨b, k, none⟩ := fun w u k => cell_far_set n2 w p k u
  have p3 : ∀ (w : World) (u : Value) (k : Nat), (w.setCell ⟨gv, p, none⟩ u).cell? ⟨b, k, none⟩ = w.cell? ⟨b, k, none⟩ := fun w u k => cell_far_set n3 w p k u
  have p2 : ∀ (w : World) (u : Value) (k : Nat), (w.setCell ⟨gg, p, none⟩ u).cell? ⟨b, k, none⟩ = w.cell? ⟨b, k, none⟩ := fun w u k => cell_far_set n4 w p k u
  unfold maxLen at m1 m2 m3 mf
  have hi0 : (0 : Int) ≤ (p : Int) := by omega
  have hi1 : (p : Int) < (ss.length : Int) := by omega
  have sg1 := hrf.cut (m := fr.length) (c := fr.length) (by simp) (Nat.le_refl _) (by unfold maxLen; omega)
  rw [natCells_take, List.take_left] at sg1
  have sg2 := sg1.other (p := ⟨b, 4, none⟩) (sg1.ne_blk h.box.at_ (by decide)) (.slice (some ⟨gf, 0, none⟩) fr.length fr.length)
  have sg3 : Seg o σ (w.setCell ⟨b, 4, none⟩ (.slice (some ⟨gf, 0, none⟩) fr.length fr.length)) 3 (.slice (some ⟨gf, 0, none⟩) fr.length fr.length) (natCells fr).length (natCells fr) := by rw [natCells_len]; exact sg2
  have X := (h.set4 (.slice (some ⟨gf, 0, none⟩) fr.length fr.length)).free sg3
  have st := (Step.refl o σ w).setCell (p := ⟨b, 4, none⟩) (.inr h.box.mine) (.slice (some ⟨gf, 0, none⟩) fr.length fr.length)
  have F := Lib.hid (And.intro X st)
  clear hri hrg hrv hrf h sg1 sg2 sg3 X st
  go_enter Try.func18, Try.ntmps18
  go_wp2
  obtain ⟨X, st⟩ := F.out
  generalize w.setCell ⟨b, 4, none⟩ (.slice (some ⟨gf, 0, none⟩) fr.length fr.length) = wX at *
  clear F e1 e2 e3 e4 f4 dp
  have hri := X.ri
  have hrg := X.rg
  have hrv := X.rv
  rw [List.length_map] at hrv hri hrg
  have e1 : wX.cell? ⟨b, 1, none⟩ = some (.slice (some ⟨gi, 0, none⟩) ss.length ci) := by rw [X.box.cell]; simp
  have e3 : wX.cell? ⟨b, 3, none⟩ = some (.slice (some ⟨gv, 0, none⟩) ss.length cv) := by rw [X.box.cell]; simp
  have d1 : wX.cell? ⟨gi, p, none⟩ = some (.bool sh) := by rw [hri.cellAt p (by omega)]; simp [hp]
  have f1 : wX.frozen? ⟨gi, p, none⟩ = false := hri.frozenAt p
  have d3 : wX.cell? ⟨gv, p, none⟩ = some (.string sv) := by rw [hrv.cellAt p (by omega)]; simp [hp]
  have f3 : wX.frozen? ⟨gv, p, none⟩ = false := hrv.frozenAt p
  have F := Lib.hid (And.intro X st)
  clear hri hrg hrv X st
  go_region_held3 (fun w' => w'.cell? ⟨b, 1, none⟩ = some (.slice (some ⟨gi, 0, none⟩) ss.length ci) ∧ w'.cell? ⟨b, 3, none⟩ = some (.slice (some ⟨gv, 0, none⟩) ss.length cv)) (go_keep) (fail)
  obtain ⟨X, st⟩ := F.out
  replace X := ((X.put_i p (.bool true)).put_v p (.string v)).drew
  replace st := ((st.setCell (p := ⟨gi, p, none⟩) (.inr o1) (.bool true)).setCell (p := ⟨gv, p, none⟩) (.inr o3) (.string v)).drew
  clear F e1 e3 d1 f1 d3 f3
  generalize ((wX.setCell ⟨gi, p, none⟩ (.bool true)).setCell ⟨gv, p, none⟩ (.string v)).drew = wY at *
  have hrg := X.rg
  rw [List.length_map] at hrg
  have e2 : wY.cell? ⟨b, 2, none⟩ = some (.slice (some ⟨gg, 0, none⟩) ss.length cg) := by rw [X.box.cell]; simp
  have d2 : wY.cell? ⟨gg, p, none⟩ = some (.int .i64 sg) := by rw [hrg.cellAt p (by omega)]; simp [hp]
  have f2 : wY.frozen? ⟨gg, p, none⟩ = false := hrg.frozenAt p
  have F := Lib.hid (And.intro X st)
  clear hrg X st
  go_wp2
  go_quiet (fail)
  go_wp2
  go_ret3
  obtain ⟨X, st⟩ := F.out
  refine ⟨rfl, o, .slice (some ⟨gi, 0, none⟩) ss.length ci, .slice (some ⟨gg, 0, none⟩) ss.length cg, .slice (some ⟨gv, 0, none⟩) ss.length cv, .slice (some ⟨gf, 0, none⟩) fr.length fr.length, (st.setCell (p := ⟨gg, p, none⟩) (.inr o2) (.int .i64 (sg + 1))).drewN _, ?_⟩
  unfold RefA
  rw [map_set_v, map_set_g', map_set_i']
  exact (X.put_g p (.int .i64 (sg + 1))).drewN _
end
end Go.Proofs.Ytenokhdfbomkkaa
