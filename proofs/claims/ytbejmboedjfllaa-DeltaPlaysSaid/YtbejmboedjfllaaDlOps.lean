/- The calls of a queue: New, Len, Now, Left, Stop, Set. -/
import Derived.Test.YtbejmboedjfllaaDlDf
import Derived.Deep.RegionHeld3
namespace Go.Proofs.Ytbejmboedjfllaa
open Go.RowKit
set_option linter.unusedVariables false
set_option linter.unusedSimpArgs false

section
variable {o : Nat → Nat} {σ : Nat} {w : World} {a room now : Nat} {v : Value} {l : List Tm}
set_option maxHeartbeats 800000 in
theorem qnew_bad (w : World) (r : Int) (h : r < 1 ∨ 1000 < r) : Calls Try.prog 9 #[.int .i64 r] w fun e w' => e = .returned (.tuple #[.pointer none, .int .i64 1]) ∧ w' = w := by
  go_enter Try.func9, Try.ntmps9
  by_cases h1 : r < 1
  · go_wp2
    go_ret2
    exact ⟨rfl, rfl⟩
  · have h1' : decide (r < 1) = false := decide_eq_false h1
    have h2 : r > 1000 := by omega
    clear h
    go_wp2
    go_ret2
    exact ⟨rfl, rfl⟩
set_option maxHeartbeats 800000 in
theorem qnew (o : Nat → Nat) (σ : Nat) (w : World) (room : Nat) (h0 : 1 ≤ room) (h1 : room ≤ 1000) : Calls Try.prog 9 #[.int .i64 (room : Int)] w fun e w' => e = .returned (.tuple #[.pointer (some ⟨w.heap.size, 0, none⟩), .int .i64 0]) ∧
    ∃ o' v, Step o o' σ w w' ∧ Qu o' σ w' w.heap.size room 0 v [] := by
  go_enter Try.func9, Try.ntmps9
  have h0' : decide ((room : Int) < 1) = false := decide_eq_false (by omega)
  have h1' : decide ((room : Int) > 1000) = false := decide_eq_false (by omega)
  go_wp2
  go_ret2
  exact ⟨rfl, _, _, (Step.refl o σ w).alloc σ _, Blk.made o σ w _ _, Row.nil _ _ _ _ _⟩
set_option maxHeartbeats 800000 in
theorem qlen (h : Qu o σ w a room now v l) (hl : l.length ≤ 1000) :
    Calls Try.prog 19 #[.pointer (some ⟨a, 0, none⟩)] w fun e w' => e = .returned (.int .i64 (l.length : Int)) ∧ w' = w := by
  obtain ⟨A, cap, rfl⟩ := h.row.any
  have c2 : w.cell? ⟨a, 2, none⟩ = some (.slice A l.length cap) := by rw [h.box.cell]; simp
  clear h
  go_enter Try.func19, Try.ntmps19
  go_wp2
  go_ret
  exact ⟨rfl, rfl⟩
set_option maxHeartbeats 800000 in
theorem qnow (h : Qu o σ w a room now v l) :
    Calls Try.prog 21 #[.pointer (some ⟨a, 0, none⟩)] w fun e w' => e = .returned (.int .i64 (now : Int)) ∧ w' = w := by
  have c1 : w.cell? ⟨a, 1, none⟩ = some (.int .i64 (now : Int)) := by rw [h.box.cell]; simp
  clear h
  go_enter Try.func21, Try.ntmps21
  go_wp2
  go_ret
  exact ⟨rfl, rfl⟩
set_option maxHeartbeats 1600000 in
theorem qleft (id x : Int) (b : Bool) (h : Qu o σ w a room now v l) (hi : QInv room now l) (hn : now ≤ 1000000) (hx : leftV now l id = (x, b)) :
    Calls Try.prog 11 #[.pointer (some ⟨a, 0, none⟩), .int .i64 id] w (RetB (.tuple #[.int .i64 x, .bool b]) w) := by
  have hl := Nat.le_trans hi.le hi.room2
  unfold leftV at hx
  cases hf : l.findIdx? (isId id) with
  | none =>
    rw [hf] at hx
    simp only [Prod.mk.injEq] at hx
    obtain ⟨rfl, rfl⟩ := hx
    have C := Lib.hid (qfind id (-1) h hl (idxP_none hf).1)
    clear h hi hf
    go_enter Try.func11, Try.ntmps11
    go_wp2_with fail
    refine C.out.mono ?_
    rintro e gw ⟨rfl, g⟩
    replace g := Lib.hid g
    go_wp2
    go_ret2
    exact ⟨rfl, g.out⟩
  | some i =>
    obtain ⟨hidx, hlt, ⟨y, hy, hye⟩, _⟩ := idxP_some hf
    have hgd : l.getD i (0, 0) = y := by rw [List.getD, hy]; rfl
    rw [hf] at hx
    simp only [hgd, Prod.mk.injEq] at hx
    obtain ⟨rfl, rfl⟩ := hx
    have C := Lib.hid (qfind id (i : Int) h hl hidx)
    obtain ⟨k1, k2⟩ := hi.at_ y (List.mem_of_getElem? hy)
    obtain ⟨yi, ya⟩ := y
    obtain ⟨A, cap, rfl⟩ := h.row.any
    obtain ⟨hlc, hcap⟩ := h.row.caps
    have hneg : decide ((i : Int) < 0) = false := decide_eq_false (by omega)
    have z1 : (i : Int) < (l.length : Int) := by omega
    have z2 : (0 : Int) ≤ (i : Int) := by omega
    simp only at k1 k2
    have z3 : IntKind.i64.wrap (ya - (now : Int)) = ya - (now : Int) := by rw [IntKind.wrap_i64]; omega
    have H := Lib.hid (And.intro h hy)
    clear h hi hf hidx hy hye hgd k1 k2
    go_enter Try.func11, Try.ntmps11
    go_wp2_with fail
    refine C.out.mono ?_
    rintro e gw ⟨rfl, g⟩
    have h2 := H.out.1.below g
    obtain ⟨gb, rfl, hg, d0, d1⟩ := h2.row.rdT i _ H.out.2
    have c1 : gw.cell? ⟨a, 1, none⟩ = some (.int .i64 (now : Int)) := by rw [h2.box.cell]; simp
    have c2 : gw.cell? ⟨a, 2, none⟩ = some (.slice (some ⟨gb, 0, none⟩) l.length cap) := by rw [h2.box.cell]; simp
    replace g := Lib.hid g
    simp only at d0 d1
    clear h2 H C
    go_wp2
    go_quiet (fail)
    go_wp2
    go_ret2
    exact ⟨rfl, below_dN g.out _⟩
set_option maxHeartbeats 1600000 in
theorem qstop (id : Int) (b : Bool) (L : List Tm) (h : Qu o σ w a room now v l) (hl : l.length ≤ 1000) (hb : stopB l id = b) (hL : stopL l id = L) :
    Calls Try.prog 13 #[.pointer (some ⟨a, 0, none⟩), .int .i64 id] w fun e w' => e = .returned (.bool b) ∧ ∃ o' v', Step o o' σ w w' ∧ Qu o' σ w' a room now v' L := by
  unfold stopB at hb
  unfold stopL at hL
  cases hf : l.findIdx? (isId id) with
  | none =>
    rw [hf] at hb hL
    simp only [Option.isSome] at hb hL
    subst hb hL
    have C := Lib.hid (qfind id (-1) h hl (idxP_none hf).1)
    replace h := Lib.hid h
    clear hf
    go_enter Try.func13, Try.ntmps13
    go_wp2_with fail
    refine C.out.mono ?_
    rintro e gw ⟨rfl, g⟩
    replace g := Lib.hid g
    go_wp2
    go_ret
    exact ⟨rfl, _, _, Step.of_below o σ g.out, h.out.below g.out⟩
  | some i =>
    obtain ⟨hidx, hlt, _, _⟩ := idxP_some hf
    rw [hf] at hb hL
    simp only [Option.isSome] at hb hL
    subst hb hL
    have C := Lib.hid (qfind id (i : Int) h hl hidx)
    have C2 := Lib.hid (fun (o' : Nat → Nat) (w' : World) (h' : Qu o' σ w' a room now v l) => delete_grown h'.row hl hlt)
    have hneg : decide ((i : Int) < 0) = false := decide_eq_false (by omega)
    have z : IntKind.i64.wrap ((i : Int) + 1) = ((i + 1 : Nat) : Int) := by rw [IntKind.wrap_i64]; omega
    obtain ⟨A, cap, rfl⟩ := h.row.any
    replace h := Lib.hid h
    clear hf hidx
    go_enter Try.func13, Try.ntmps13
    go_wp2_with fail
    refine C.out.mono ?_
    rintro e gw ⟨rfl, g⟩
    have h2 := h.out.below g
    have c2 : gw.cell? ⟨a, 2, none⟩ = some (.slice A l.length cap) := by rw [h2.box.cell]; simp
    have F := Lib.hid (And.intro h2 (Step.of_below o σ g))
    clear h2 g C h
    go_wp2_with fail
    refine (C2.out _ _ F.out.1).mono ?_
    rintro e w4 ⟨v', rfl, hg4, ho4, hl4⟩
    obtain ⟨h2, st2⟩ := F.out
    have hb4 := h2.box.grown hg4 (h2.row.ne_blk h2.box.at_ (by decide)) σ
    have x1 : w4.cell? ⟨a, 2, none⟩ = some (.slice A l.length cap) := by rw [hb4.cell]; simp
    have x2 : w4.frozen? ⟨a, 2, none⟩ = false := hb4.frozen 2
    obtain ⟨A4, c4, rfl⟩ := own_any ho4
    have G := Lib.hid (And.intro hb4 (And.intro hg4 (And.intro ho4 hl4)))
    clear hb4 hg4 ho4 hl4 c2 z h2 st2 C2
    go_wp2
    go_ret
    obtain ⟨h2, st2⟩ := F.out
    obtain ⟨hb4, hg4, ho4, hl4⟩ := G.out
    have r4 := h2.row.after ho4 hl4
    refine ⟨rfl, _, _, (st2.grown hg4 (fun k hk => .inr (h2.row.mine k hk)) σ).setCell (.inr hb4.mine) _, hb4.set 2 _, ?_⟩
    rw [List.length_eraseIdx_of_lt hlt]
    exact r4.other (r4.ne_blk hb4.at_ (by decide)) _
end
end Go.Proofs.Ytbejmboedjfllaa
