/- The contracts of Arena[string]: Len, All. -/
import Derived.Test.YtenokhdfbomkkaaArS4
namespace Go.Proofs.Ytenokhdfbomkkaa
open Go.RowKit
set_option linter.unusedVariables false
set_option linter.unusedSimpArgs false

set_option maxHeartbeats 1600000 in
theorem len_s {o : Nat → Nat} {σ : Nat} {w : World} {a room : Nat} {vs vf : Value} {ss : List (ByteArray × Int × Bool)} {fr : List Nat} (n : Nat)
    (h : ArS o σ w a room vs vf ss fr) (hn : n + fr.length = ss.length) (hl : ss.length ≤ 1000) :
    Calls Try.prog 27 #[.pointer (some ⟨a, 0, none⟩)] w (Ret (.int .i64 (n : Int)) w) := by
  obtain ⟨Af, cf, rfl⟩ := h.rf.any
  obtain ⟨As, cs, rfl⟩ := h.rs.any
  have c1 : w.cell? ⟨a, 1, none⟩ = some (.slice As ss.length cs) := by rw [h.box.cell]; simp
  have c2 : w.cell? ⟨a, 2, none⟩ = some (.slice Af fr.length cf) := by rw [h.box.cell]; simp
  have hw : IntKind.i64.wrap ((ss.length : Int) - (fr.length : Int)) = (n : Int) := by
    rw [IntKind.wrap_i64]; omega
  clear h
  go_enter Try.func27, Try.ntmps27
  go_wp2
  go_quiet (fail)
  go_wp2
  go_ret
  exact ⟨rfl, _, rfl⟩
theorem ArS.loopw {o : Nat → Nat} {σ : Nat} {w w' : World} {a room : Nat} {vs vf : Value} {ss : List (ByteArray × Int × Bool)} {fr : List Nat} (h : ArS o σ w a room vs vf ss fr) (hb : Below w.heap.size w w') : ArS o σ w' a room vs vf ss fr := h.below hb
set_option maxHeartbeats 3200000 in
theorem all_s {o : Nat → Nat} {σ : Nat} {w : World} {a room : Nat} {vs vf : Value} {ss : List (ByteArray × Int × Bool)} {fr : List Nat} (n : Nat)
    (h : ArS o σ w a room vs vf ss fr) (hn : n + fr.length = ss.length) (hl : ss.length ≤ 1000) :
    Calls Try.prog 26 #[.pointer (some ⟨a, 0, none⟩)] w fun e w' => ∃ v, e = .returned v ∧ w'.ownsRow w.heap.size 28 2 v (allFrom 0 ss).length (hCells (allFrom 0 ss)) ∧ Below w.heap.size w w' := by
  obtain ⟨i0, hi0, hz0, hz1, hz2⟩ := info_parts Try.infoHandle
  obtain ⟨As, cs, rfl⟩ := h.rs.any
  have C := Lib.hid (len_s n h hn hl)
  replace h := Lib.hid h
  go_enter Try.func26, Try.ntmps26
  go_wp2_with fail
  refine C.out.mono ?_
  rintro e w2 ⟨rfl, nd, rfl⟩
  go_wp2_with (at_make; refine wpList_make_own _ rfl _ _ 36 rfl w.heap.size 28 i0 (.agg #[.int .i64 0, .int .i64 0]) 2 Try.underlying36 hi0 hz0 hz1 _ _ _ n rfl rfl rfl (by rw [hz2]; omega) (by unfold maxLen; omega) (by simp) ?_)
  intro w3 hown3 hgrow3
  have hb3 : Below w.heap.size w w3 := (below_dN (Below.refl _ _) nd).grown hgrow3 (by simp) (fun k hk => by cases hk)
  have c1 : w3.cell? ⟨a, 1, none⟩ = some (.slice As ss.length cs) := by rw [(h.out.below hb3).box.cell]; simp
  clear hgrow3
  go_wp2
  go_loopw [3, 13] (fun v st wr => ∃ i : Nat, st = .int .i64 (i : Int) ∧ i ≤ ss.length ∧ wr.ownsRow w.heap.size 28 2 v (allFrom 0 (ss.take i)).length (hCells (allFrom 0 (ss.take i))) ∧ Below w.heap.size w wr) (fun _ st _ => ss.length - (intOf st).toNat)
  case atStart => exact ⟨0, rfl, by omega, hown3, hb3⟩
  case round =>
    obtain ⟨i, rfl, hi, hown, hbr⟩ := hrel
    clear hown3 hb3 c1
    have c1 : wr.cell? ⟨a, 1, none⟩ = some (.slice As ss.length cs) := by rw [(h.out.below hbr).box.cell]; simp
    rcases Nat.lt_or_ge i ss.length with hlt | hge
    · obtain ⟨⟨sv, sg, sh⟩, hs⟩ : ∃ s, ss[i]? = some s := ⟨_, List.getElem?_eq_getElem hlt⟩
      have hst := allFrom_take ss i _ hs
      have hle := allFrom_le (ss.take i) 0
      simp only [List.length_take, Nat.min_eq_left hi] at hle
      generalize allFrom 0 (ss.take i) = acc at *
      obtain ⟨g, cap, hv, hc1, hc2, hog, hgl⟩ := h.out.rs.form (by omega)
      cases hv
      have q := cells3_get (mk := Value.string) ss i _ hs
      have hr := h.out.below hbr
      have d1 : wr.cell? ⟨g, i * 3 + 1, none⟩ = some (.int .i64 sg) := by rw [hr.rs.cellAt _ (by omega)]; exact q.2.1
      have d2 : wr.cell? ⟨g, i * 3 + 2, none⟩ = some (.bool sh) := by rw [hr.rs.cellAt _ (by omega)]; exact q.2.2
      unfold maxLen at hc2
      have F := Lib.hid (And.intro hown (And.intro hbr hst))
      clear hr q hown hbr hst
      cases sh with
      | false =>
        go_wp2
        go_roundw
        case rel =>
          refine ⟨i + 1, by simp, by omega, ?_, F.out.2.1⟩
          have := F.out.2.2
          simp only [Bool.false_eq_true, if_false, List.append_nil] at this
          rw [this]; exact F.out.1
        case measure => simp [intOf]; omega
      | true =>
        go_wp2_with (at_builtin; refine wpList_append_own _ rfl (.tmp 24) (.tmp 35) 36 rfl w.heap.size 28 i0 (.agg #[.int .i64 0, .int .i64 0]) 2 16 Try.underlying36 hi0 hz0 hz1 hz2 rfl (by decide) _ _ _ rfl (F.out.1.alloc _) ⟨wr.heap.size, 0, none⟩ 1 1 [.int .i64 (i : Int), .int .i64 sg] rfl rfl (news_two _ _ _ _) (two_ints _ _) (by unfold maxLen; omega) (by omega) (by have := F.out.2.1.size; simp; omega) ?_)
        intro v' w4 hown' hgrow' _
        obtain ⟨hown, hbr, hst⟩ := F.out
        have hsz := hbr.size
        have hb4 : Below w.heap.size w w4 := (hbr.alloc hsz _).grown hgrow' (by simp; omega) (fun j hj => (hown.lt _ hj).1)
        have hown4 : w4.ownsRow w.heap.size 28 2 v' (allFrom 0 (ss.take (i + 1))).length (hCells (allFrom 0 (ss.take (i + 1)))) := by
          rw [hst, if_pos trivial, hCells_append, List.length_append, hCells_one]; exact hown'
        replace hown4 := Lib.hid hown4
        replace hb4 := Lib.hid hb4
        clear hown' hgrow' hown hbr hst F
        go_wp2
        go_roundw
        case rel => exact ⟨i + 1, by simp, by omega, hown4.out, hb4.out⟩
        case measure => simp [intOf]; omega
    · obtain rfl : i = ss.length := by omega
      rw [List.take_length] at hown
      replace hown := Lib.hid hown
      replace hbr := Lib.hid hbr
      go_wp2
      go_ret
      exact ⟨_, rfl, hown.out, hbr.out⟩
theorem get_at_s {o : Nat → Nat} {σ : Nat} {w : World} {a room i : Nat} {slot : Int} {vs vf : Value} {ss : List (ByteArray × Int × Bool)} {fr : List Nat} {sv : ByteArray} {gen : Int}
    (h : ArS o σ w a room vs vf ss fr) (hs : ss[i]? = some (sv, gen, true)) (he : slot = (i : Int)) (hr : room ≤ 1000) (hl : ss.length ≤ room) :
    Calls Try.prog 19 #[.pointer (some ⟨a, 0, none⟩), .agg #[.int .i64 slot, .int .i64 gen]] w (RetB (.tuple #[.string sv, .int .i64 0]) w) := by
  subst he; exact get_yes_s h hs hr hl
theorem set_at_s {o : Nat → Nat} {σ : Nat} {w : World} {a room i : Nat} {slot : Int} {vs vf : Value} {ss : List (ByteArray × Int × Bool)} {fr : List Nat} {sv : ByteArray} {gen : Int} (v : ByteArray)
    (h : ArS o σ w a room vs vf ss fr) (hs : ss[i]? = some (sv, gen, true)) (he : slot = (i : Int)) (hr : room ≤ 1000) (hl : ss.length ≤ room) :
    Calls Try.prog 21 #[.pointer (some ⟨a, 0, none⟩), .agg #[.int .i64 slot, .int .i64 gen], .string v] w fun e w' => e = .returned (.int .i64 0) ∧
      ∃ o' vs' vf', Step o o' σ w w' ∧ ArS o' σ w' a room vs' vf' (ss.set i (v, gen, true)) fr := by
  subst he; exact set_yes_s v h hs hr hl
theorem free_at_s {o : Nat → Nat} {σ : Nat} {w : World} {a room i : Nat} {slot : Int} {vs vf : Value} {ss : List (ByteArray × Int × Bool)} {fr : List Nat} {sv : ByteArray} {gen : Int}
    (h : ArS o σ w a room vs vf ss fr) (hs : ss[i]? = some (sv, gen, true)) (he : slot = (i : Int)) (hr : room ≤ 1000) (hl : ss.length ≤ room) (hf : fr.length ≤ 1000) :
    Calls Try.prog 23 #[.pointer (some ⟨a, 0, none⟩), .agg #[.int .i64 slot, .int .i64 gen]] w fun e w' => e = .returned (.int .i64 0) ∧
      ∃ o' vs' vf', Step o o' σ w w' ∧ ArS o' σ w' a room vs' vf' (ss.set i (⟨#[]⟩, gen, false)) (fr ++ [i]) := by
  subst he; exact free_yes_s h hs hr hl hf
end Go.Proofs.Ytenokhdfbomkkaa
