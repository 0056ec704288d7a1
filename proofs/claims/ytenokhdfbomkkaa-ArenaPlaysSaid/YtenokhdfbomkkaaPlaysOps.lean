/- ArenaPlays: each call on both arenas, in one lemma: they answer alike, and are in one state again. -/
import Derived.Test.YtenokhdfbomkkaaPlaysMath
import Derived.Test.YtenokhdfbomkkaaRefPut
import Derived.Test.YtenokhdfbomkkaaRefAll
import Derived.Test.YtenokhdfbomkkaaArS5
namespace Go.Proofs.Ytenokhdfbomkkaa
open Go.RowKit
set_option linter.unusedVariables false

/-- An arena of the program in this state, somewhere. -/
def InA (o : Nat → Nat) (W : World) (a room : Nat) (ss : List (ByteArray × Int × Bool)) (fr : List Nat) : Prop := ∃ vs vf, ArS o 1 W a room vs vf ss fr
/-- An arena of the document in this state. -/
def InR (o : Nat → Nat) (W : World) (b room : Nat) (ss : List (ByteArray × Int × Bool)) (fr : List Nat) : Prop := ∃ vi vg vv vf, RefA o 2 W b room vi vg vv vf ss fr
/-- What a call that may write leaves. -/
def RetA (r : Value) (o : Nat → Nat) (W : World) (a room : Nat) (ss : List (ByteArray × Int × Bool)) (fr : List Nat) (e : Ending) (W' : World) : Prop := e = .returned r ∧ ∃ o', Step o o' 1 W W' ∧ InA o' W' a room ss fr
def RetR (r : Value) (o : Nat → Nat) (W : World) (b room : Nat) (ss : List (ByteArray × Int × Bool)) (fr : List Nat) (e : Ending) (W' : World) : Prop := e = .returned r ∧ ∃ o', Step o o' 2 W W' ∧ InR o' W' b room ss fr
section
variable {a b room i : Nat} {ss : List (ByteArray × Int × Bool)} {fr : List Nat}
theorem plays_put (v : ByteArray) (hI : PInv room ss fr i) (hr : room ≤ 1000) (hi : i ≤ 1000) (hnf : ¬ (fr = [] ∧ ss.length = room)) :
    ∃ (p : Nat) (g : Int) (ss' : List (ByteArray × Int × Bool)) (fr' : List Nat), PInv room ss' fr' (i + 1) ∧
      (∀ o W, InA o W a room ss fr → Calls Try.prog 17 #[.pointer (some ⟨a, 0, none⟩), .string v] W (RetA (.tuple #[.agg #[.int .i64 (p : Int), .int .i64 g], .int .i64 0]) o W a room ss' fr')) ∧
      (∀ o W, InR o W b room ss fr → Calls Try.prog 18 #[.pointer (some ⟨b, 0, none⟩), .string v] W (RetR (.tuple #[.int .i64 (p : Int), .int .i64 g, .int .i64 0]) o W b room ss' fr')) := by
  have hle := hI.le
  have hcnt := hI.cnt
  rcases List.eq_nil_or_concat fr with rfl | ⟨fr0, p, rfl⟩
  · have hl : ss.length < room := by
      rcases Nat.lt_or_ge ss.length room with h1 | h1
      · exact h1
      · exact absurd ⟨rfl, by omega⟩ hnf
    refine ⟨ss.length, 1, _, _, hI.new (v := v) hl, ?_, ?_⟩
    · rintro o W ⟨vs, vf, h⟩
      refine (put_new_s v h hl hr).mono ?_
      rintro e W' ⟨he, o', vs', vf', st, h'⟩
      exact ⟨he, o', st, vs', vf', h'⟩
    · rintro o W ⟨vi, vg, vv, vf, h⟩
      refine (rput_new v h hl hr).mono ?_
      rintro e W' ⟨he, o', vi', vg', vv', vf', st, h'⟩
      exact ⟨he, o', st, vi', vg', vv', vf', h'⟩
  · rw [List.concat_eq_append] at *
    obtain ⟨x, g, hp⟩ := hI.frh p (by simp)
    have hg := hI.gen p _ hp
    simp at hcnt hg
    refine ⟨p, g + 1, _, _, hI.pop (v := v) hp, ?_, ?_⟩
    · rintro o W ⟨vs, vf, h⟩
      refine (put_pop_s v h hp hg.1 (by simp only; omega) (by omega) (by omega)).mono ?_
      rintro e W' ⟨he, o', vs', vf', st, h'⟩
      exact ⟨he, o', st, vs', vf', h'⟩
    · rintro o W ⟨vi, vg, vv, vf, h⟩
      refine (rput_pop v h hp hg.1 (by simp only; omega) (by omega) (by omega)).mono ?_
      rintro e W' ⟨he, o', vi', vg', vv', vf', st, h'⟩
      exact ⟨he, o', st, vi', vg', vv', vf', h'⟩
theorem plays_full (v : ByteArray) (hl : ss.length = room) (hr : room ≤ 1000) :
      (∀ o W, InA o W a room ss [] → Calls Try.prog 17 #[.pointer (some ⟨a, 0, none⟩), .string v] W (RetA (.tuple #[.agg #[.int .i64 0, .int .i64 0], .int .i64 6]) o W a room ss [])) ∧
      (∀ o W, InR o W b room ss [] → Calls Try.prog 18 #[.pointer (some ⟨b, 0, none⟩), .string v] W (RetR (.tuple #[.int .i64 0, .int .i64 0, .int .i64 6]) o W b room ss [])) := by
  constructor
  · rintro o W ⟨vs, vf, h⟩
    refine (put_full_s v h hl hr).mono ?_
    rintro e W' ⟨he, hb⟩
    exact ⟨he, o, Step.of_below o 1 hb, vs, vf, h.below hb⟩
  · rintro o W ⟨vi, vg, vv, vf, h⟩
    refine (rput_full v h hl hr).mono ?_
    rintro e W' ⟨he, n, rfl⟩
    exact ⟨he, o, (Step.refl o 2 W).drewN n, vi, vg, vv, vf, RefX.drewN h n⟩
theorem plays_get (slot gen : Int) (hI : PInv room ss fr i) (hr : room ≤ 1000) :
    ∃ (x : ByteArray) (c : Int),
      (∀ o W, InA o W a room ss fr → Calls Try.prog 19 #[.pointer (some ⟨a, 0, none⟩), .agg #[.int .i64 slot, .int .i64 gen]] W (RetA (.tuple #[.string x, .int .i64 c]) o W a room ss fr)) ∧
      (∀ o W, InR o W b room ss fr → Calls Try.prog 20 #[.pointer (some ⟨b, 0, none⟩), .int .i64 slot, .int .i64 gen] W (RetR (.tuple #[.string x, .int .i64 c]) o W b room ss fr)) := by
  by_cases hc : findE room ss slot gen = 0
  · obtain ⟨k, x, rfl, hs⟩ := findE_inv hc
    refine ⟨x, 0, ?_, ?_⟩
    · rintro o W ⟨vs, vf, h⟩
      refine (get_yes_s h hs hr hI.le).mono ?_
      rintro e W' ⟨he, hb⟩
      exact ⟨he, o, Step.of_below o 1 hb, vs, vf, h.below hb⟩
    · rintro o W ⟨vi, vg, vv, vf, h⟩
      refine (rget_yes h hs hr hI.le).mono ?_
      rintro e W' ⟨he, rfl⟩
      exact ⟨he, o, Step.refl o 2 _, vi, vg, vv, vf, h⟩
  · refine ⟨⟨#[]⟩, findE room ss slot gen, ?_, ?_⟩
    · rintro o W ⟨vs, vf, h⟩
      refine (get_no_s slot gen _ h rfl hc hr hI.le).mono ?_
      rintro e W' ⟨he, hb⟩
      exact ⟨he, o, Step.of_below o 1 hb, vs, vf, h.below hb⟩
    · rintro o W ⟨vi, vg, vv, vf, h⟩
      refine (rget_no slot gen _ h rfl hc hr hI.le).mono ?_
      rintro e W' ⟨he, rfl⟩
      exact ⟨he, o, Step.refl o 2 _, vi, vg, vv, vf, h⟩
theorem plays_set (slot gen : Int) (v : ByteArray) (hI : PInv room ss fr i) (hr : room ≤ 1000) :
    ∃ (c : Int) (ss' : List (ByteArray × Int × Bool)), PInv room ss' fr (i + 1) ∧
      (∀ o W, InA o W a room ss fr → Calls Try.prog 21 #[.pointer (some ⟨a, 0, none⟩), .agg #[.int .i64 slot, .int .i64 gen], .string v] W (RetA (.int .i64 c) o W a room ss' fr)) ∧
      (∀ o W, InR o W b room ss fr → Calls Try.prog 22 #[.pointer (some ⟨b, 0, none⟩), .int .i64 slot, .int .i64 gen, .string v] W (RetR (.int .i64 c) o W b room ss' fr)) := by
  by_cases hc : findE room ss slot gen = 0
  · obtain ⟨k, x, rfl, hs⟩ := findE_inv hc
    refine ⟨0, _, hI.setv (v := v) hs, ?_, ?_⟩
    · rintro o W ⟨vs, vf, h⟩
      refine (set_yes_s v h hs hr hI.le).mono ?_
      rintro e W' ⟨he, o', vs', vf', st, h'⟩
      exact ⟨he, o', st, vs', vf', h'⟩
    · rintro o W ⟨vi, vg, vv, vf, h⟩
      refine (rset_yes v h hs hr hI.le).mono ?_
      rintro e W' ⟨he, o', vi', vg', vv', vf', st, h'⟩
      exact ⟨he, o', st, vi', vg', vv', vf', h'⟩
  · refine ⟨findE room ss slot gen, _, hI.later, ?_, ?_⟩
    · rintro o W ⟨vs, vf, h⟩
      refine (set_no_s slot gen _ v h rfl hc hr hI.le).mono ?_
      rintro e W' ⟨he, hb⟩
      exact ⟨he, o, Step.of_below o 1 hb, vs, vf, h.below hb⟩
    · rintro o W ⟨vi, vg, vv, vf, h⟩
      refine (rset_no slot gen _ v h rfl hc hr hI.le).mono ?_
      rintro e W' ⟨he, rfl⟩
      exact ⟨he, o, Step.refl o 2 _, vi, vg, vv, vf, h⟩
theorem plays_free (slot gen : Int) (hI : PInv room ss fr i) (hr : room ≤ 1000) :
    ∃ (c : Int) (ss' : List (ByteArray × Int × Bool)) (fr' : List Nat), PInv room ss' fr' (i + 1) ∧
      (∀ o W, InA o W a room ss fr → Calls Try.prog 23 #[.pointer (some ⟨a, 0, none⟩), .agg #[.int .i64 slot, .int .i64 gen]] W (RetA (.int .i64 c) o W a room ss' fr')) ∧
      (∀ o W, InR o W b room ss fr → Calls Try.prog 24 #[.pointer (some ⟨b, 0, none⟩), .int .i64 slot, .int .i64 gen] W (RetR (.int .i64 c) o W b room ss' fr')) := by
  have hfl : fr.length ≤ 1000 := by have := hI.cnt; have := hI.le; omega
  by_cases hc : findE room ss slot gen = 0
  · obtain ⟨k, x, rfl, hs⟩ := findE_inv hc
    refine ⟨0, _, _, hI.free (z := ⟨#[]⟩) hs, ?_, ?_⟩
    · rintro o W ⟨vs, vf, h⟩
      refine (free_yes_s h hs hr hI.le hfl).mono ?_
      rintro e W' ⟨he, o', vs', vf', st, h'⟩
      exact ⟨he, o', st, vs', vf', h'⟩
    · rintro o W ⟨vi, vg, vv, vf, h⟩
      refine (rfree_yes h hs hr hI.le hfl).mono ?_
      rintro e W' ⟨he, o', vi', vg', vv', vf', st, h'⟩
      exact ⟨he, o', st, vi', vg', vv', vf', h'⟩
  · refine ⟨findE room ss slot gen, _, _, hI.later, ?_, ?_⟩
    · rintro o W ⟨vs, vf, h⟩
      refine (free_no_s slot gen _ h rfl hc hr hI.le).mono ?_
      rintro e W' ⟨he, hb⟩
      exact ⟨he, o, Step.of_below o 1 hb, vs, vf, h.below hb⟩
    · rintro o W ⟨vi, vg, vv, vf, h⟩
      refine (rfree_no slot gen _ h rfl hc hr hI.le).mono ?_
      rintro e W' ⟨he, rfl⟩
      exact ⟨he, o, Step.refl o 2 _, vi, vg, vv, vf, h⟩
end
end Go.Proofs.Ytenokhdfbomkkaa
