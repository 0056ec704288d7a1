/- The document's arena: find, Get, Set, Free, and Put where a place is used again or none is left. -/
import Derived.Test.YtenokhdfbomkkaaRefA1
import Derived.Deep.AppendLies
import Derived.Deep.DrawnRows
namespace Go.Proofs.Ytenokhdfbomkkaa
open Go.RowKit
set_option linter.unusedVariables false
set_option linter.unusedSimpArgs false
attribute [local go_sem ↓] Go.wp_at_zero Go.wp_at_succ

section
variable {o : Nat → Nat} {σ : Nat} {w : World} {b room : Nat} {vi vg vv vf : Value} {ss : List (ByteArray × Int × Bool)} {fr : List Nat}
set_option maxHeartbeats 1600000 in
theorem rfind (slot gen c : Int) (h : RefA o σ w b room vi vg vv vf ss fr) (hc : findE room ss slot gen = c) (hr : room ≤ 1000) (hl : ss.length ≤ room) :
    Calls Try.prog 32 #[.pointer (some ⟨b, 0, none⟩), .int .i64 slot, .int .i64 gen] w fun e w' => e = .returned (.int .i64 c) ∧ w' = w := by
  obtain ⟨⟨Ai, ci, rfl⟩, ⟨Ag, cg, rfl⟩, ⟨Av, cv, rfl⟩, ⟨Af, cf, rfl⟩⟩ := h.any
  have e0 : w.cell? ⟨b, 0, none⟩ = some (.int .i64 (room : Int)) := by rw [h.box.cell]; simp
  have e1 : w.cell? ⟨b, 1, none⟩ = some (.slice Ai ss.length ci) := by rw [h.box.cell]; simp
  have e2 : w.cell? ⟨b, 2, none⟩ = some (.slice Ag ss.length cg) := by rw [h.box.cell]; simp
  have e3 : w.cell? ⟨b, 3, none⟩ = some (.slice Av ss.length cv) := by rw [h.box.cell]; simp
  by_cases k1 : slot < 0
  · obtain rfl : c = 1 := by rw [← hc]; simp [findE, k1]
    clear hc h
    go_enter Try.func32, Try.ntmps32
    go_wp2
    go_ret
    exact ⟨rfl, rfl⟩
  have k1' : decide (slot < 0) = false := decide_eq_false k1
  by_cases k2 : (room : Int) ≤ slot
  · obtain rfl : c = 1 := by rw [← hc]; simp [findE, k1, k2]
    clear hc h
    go_enter Try.func32, Try.ntmps32
    go_wp2
    go_ret
    exact ⟨rfl, rfl⟩
  have k2' : decide ((room : Int) ≤ slot) = false := decide_eq_false k2
  by_cases k3 : (ss.length : Int) ≤ slot
  · obtain rfl : c = 7 := by rw [← hc]; simp [findE, k1, k2, k3]
    clear hc h
    go_enter Try.func32, Try.ntmps32
    go_wp2
    go_ret
    exact ⟨rfl, rfl⟩
  have k3' : decide ((ss.length : Int) ≤ slot) = false := decide_eq_false k3
  obtain ⟨i, rfl⟩ : ∃ i : Nat, slot = i := ⟨slot.toNat, by omega⟩
  have hi : i < ss.length := by omega
  obtain ⟨⟨sv, sg, sh⟩, hs⟩ : ∃ s, ss[i]? = some s := ⟨_, List.getElem?_eq_getElem hi⟩
  have hc' : c = if sh = true ∧ sg = gen then 0 else 7 := by
    rw [← hc, findE, if_neg (by omega), if_neg k3, Int.toNat_natCast, hs]
  obtain ⟨gi, ci', gg, cg', gv, cv', q1, q2, q3, l1, m1, l2, m2, l3, m3, o1, o2, o3⟩ := h.form (by omega)
  cases q1; cases q2; cases q3
  have d1 : w.cell? ⟨gi, i, none⟩ = some (.bool sh) := by
    have := h.ri; rw [List.length_map] at this; rw [this.cellAt i (by omega)]; simp [hs]
  have d2 : w.cell? ⟨gg, i, none⟩ = some (.int .i64 sg) := by
    have := h.rg; rw [List.length_map] at this; rw [this.cellAt i (by omega)]; simp [hs]
  unfold maxLen at m1 m2 m3
  clear h hc
  cases sh with
  | false =>
    obtain rfl : c = 7 := by rw [hc']; simp
    clear hc'
    go_enter Try.func32, Try.ntmps32
    go_wp2
    go_ret
    exact ⟨rfl, rfl⟩
  | true =>
    by_cases hg : sg = gen
    · obtain rfl : c = 0 := by rw [hc']; simp [hg]
      subst hg
      clear hc'
      go_enter Try.func32, Try.ntmps32
      go_wp2
      go_ret
      exact ⟨rfl, rfl⟩
    · obtain rfl : c = 7 := by rw [hc']; simp [hg]
      clear hc'
      have hne' : (sg != gen) = true := by simp [hg]
      go_enter Try.func32, Try.ntmps32
      go_wp2
      go_ret
      exact ⟨rfl, rfl⟩
theorem findE_yes {room : Nat} {ss : List (ByteArray × Int × Bool)} {i : Nat} {sv : ByteArray} {gen : Int} (hs : ss[i]? = some (sv, gen, true)) (hl : ss.length ≤ room) : findE room ss (i : Int) gen = 0 := by
  have hi : i < ss.length := (List.getElem?_eq_some_iff.1 hs).1
  rw [findE, if_neg (by omega), if_neg (by omega), Int.toNat_natCast, hs]; simp
theorem findE_inv {room : Nat} {ss : List (ByteArray × Int × Bool)} {slot gen : Int} (h : findE room ss slot gen = 0) : ∃ (i : Nat) (sv : ByteArray), slot = i ∧ ss[i]? = some (sv, gen, true) := by
  unfold findE at h
  split at h
  · cases h
  · split at h
    · cases h
    · split at h
      · rename_i h1 h2 s hs
        split at h
        · rename_i h3
          obtain ⟨sv, sg, sh⟩ := s
          simp only at h3
          exact ⟨slot.toNat, sv, by omega, by rw [hs, h3.1, h3.2]⟩
        · cases h
      · cases h
set_option maxHeartbeats 1600000 in
theorem rget_no (slot gen c : Int) (h : RefA o σ w b room vi vg vv vf ss fr) (hc : findE room ss slot gen = c) (hc0 : c ≠ 0) (hr : room ≤ 1000) (hl : ss.length ≤ room) :
    Calls Try.prog 20 #[.pointer (some ⟨b, 0, none⟩), .int .i64 slot, .int .i64 gen] w fun e w' => e = .returned (.tuple #[.string ⟨#[]⟩, .int .i64 c]) ∧ w' = w := by
  have C := Lib.hid (rfind slot gen c h hc hr hl)
  have hc0' : (c != 0) = true := by simp [hc0]
  clear h hc
  go_enter Try.func20, Try.ntmps20
  go_wp2_with fail
  refine C.out.mono ?_
  rintro e w2 ⟨rfl, rfl⟩
  go_wp2
  go_ret2
  exact ⟨rfl, rfl⟩
set_option maxHeartbeats 1600000 in
theorem rget_yes {i : Nat} {sv : ByteArray} {gen : Int} (h : RefA o σ w b room vi vg vv vf ss fr) (hs : ss[i]? = some (sv, gen, true)) (hr : room ≤ 1000) (hl : ss.length ≤ room) :
    Calls Try.prog 20 #[.pointer (some ⟨b, 0, none⟩), .int .i64 (i : Int), .int .i64 gen] w fun e w' => e = .returned (.tuple #[.string sv, .int .i64 0]) ∧ w' = w := by
  have C := Lib.hid (rfind (i : Int) gen 0 h (findE_yes hs hl) hr hl)
  have hi : i < ss.length := (List.getElem?_eq_some_iff.1 hs).1
  obtain ⟨gi, ci, gg, cg, gv, cv, rfl, rfl, rfl, l1, m1, l2, m2, l3, m3, o1, o2, o3⟩ := h.form (by omega)
  have e3 : w.cell? ⟨b, 3, none⟩ = some (.slice (some ⟨gv, 0, none⟩) ss.length cv) := by rw [h.box.cell]; simp
  have d3 : w.cell? ⟨gv, i, none⟩ = some (.string sv) := by
    have := h.rv; rw [List.length_map] at this; rw [this.cellAt i (by omega)]; simp [hs]
  unfold maxLen at m1 m2 m3
  clear h
  go_enter Try.func20, Try.ntmps20
  go_wp2_with fail
  refine C.out.mono ?_
  rintro e w2 ⟨rfl, rfl⟩
  go_wp2
  go_ret2
  exact ⟨rfl, rfl⟩
set_option maxHeartbeats 1600000 in
theorem rset_no (slot gen c : Int) (v : ByteArray) (h : RefA o σ w b room vi vg vv vf ss fr) (hc : findE room ss slot gen = c) (hc0 : c ≠ 0) (hr : room ≤ 1000) (hl : ss.length ≤ room) :
    Calls Try.prog 22 #[.pointer (some ⟨b, 0, none⟩), .int .i64 slot, .int .i64 gen, .string v] w fun e w' => e = .returned (.int .i64 c) ∧ w' = w := by
  have C := Lib.hid (rfind slot gen c h hc hr hl)
  have hc0' : (c == 0) = false := by simp [hc0]
  clear h hc
  go_enter Try.func22, Try.ntmps22
  go_wp2_with fail
  refine C.out.mono ?_
  rintro e w2 ⟨rfl, rfl⟩
  go_wp2
  go_ret
  exact ⟨rfl, rfl⟩
set_option maxHeartbeats 1600000 in
theorem rset_yes {i : Nat} {sv : ByteArray} {gen : Int} (v : ByteArray) (h : RefA o σ w b room vi vg vv vf ss fr) (hs : ss[i]? = some (sv, gen, true)) (hr : room ≤ 1000) (hl : ss.length ≤ room) :
    Calls Try.prog 22 #[.pointer (some ⟨b, 0, none⟩), .int .i64 (i : Int), .int .i64 gen, .string v] w fun e w' => e = .returned (.int .i64 0) ∧
      ∃ o' vi' vg' vv' vf', Step o o' σ w w' ∧ RefA o' σ w' b room vi' vg' vv' vf' (ss.set i (v, gen, true)) fr := by
  have C := Lib.hid (rfind (i : Int) gen 0 h (findE_yes hs hl) hr hl)
  have hi : i < ss.length := (List.getElem?_eq_some_iff.1 hs).1
  obtain ⟨gi, ci, gg, cg, gv, cv, rfl, rfl, rfl, l1, m1, l2, m2, l3, m3, o1, o2, o3⟩ := h.form (by omega)
  have e3 : w.cell? ⟨b, 3, none⟩ = some (.slice (some ⟨gv, 0, none⟩) ss.length cv) := by rw [h.box.cell]; simp
  have hrv := h.rv
  rw [List.length_map] at hrv
  have d3 : w.cell? ⟨gv, i, none⟩ = some (.string sv) := by rw [hrv.cellAt i (by omega)]; simp [hs]
  have f3 : w.frozen? ⟨gv, i, none⟩ = false := hrv.frozenAt i
  unfold maxLen at m1 m2 m3
  replace h := Lib.hid h
  clear hrv
  go_enter Try.func22, Try.ntmps22
  go_wp2_with fail
  refine C.out.mono ?_
  rintro e w2 ⟨rfl, rfl⟩
  go_wp2
  go_ret
  refine ⟨rfl, o, .slice (some ⟨gi, 0, none⟩) ss.length ci, .slice (some ⟨gg, 0, none⟩) ss.length cg, .slice (some ⟨gv, 0, none⟩) ss.length cv, vf, (Step.refl o σ _).setCell (.inr o3) _, ?_⟩
  have := h.out.put_v i (.string v)
  unfold RefA
  rw [map_set_i ss i _ hs, map_set_g ss i _ hs, map_set_v] <;> first | exact this | rfl
end
end Go.Proofs.Ytenokhdfbomkkaa
