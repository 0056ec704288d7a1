/- The contracts of Arena[string]: find, Get, Set. -/
import Derived.Test.YtenokhdfbomkkaaArS2
namespace Go.Proofs.Ytenokhdfbomkkaa
open Go.RowKit
set_option linter.unusedVariables false
set_option linter.unusedSimpArgs false

set_option maxHeartbeats 1600000 in
theorem find_no_s {o : Nat → Nat} {σ : Nat} {w : World} {a room : Nat} {vs vf : Value} {ss : List (ByteArray × Int × Bool)} {fr : List Nat} (slot gen c : Int)
    (h : ArS o σ w a room vs vf ss fr) (hc : findE room ss slot gen = c) (hc0 : c ≠ 0) (hr : room ≤ 1000) (hl : ss.length ≤ room) :
    Calls Try.prog 31 #[.pointer (some ⟨a, 0, none⟩), .agg #[.int .i64 slot, .int .i64 gen]] w fun e w' => e = .returned (.tuple #[.pointer none, .int .i64 c]) ∧
      ∃ n, w' = (w.alloc (.cells #[.int .i64 slot, .int .i64 gen] 28)).drewN n := by
  obtain ⟨As, cs, rfl⟩ := h.rs.any
  have c0 : w.cell? ⟨a, 0, none⟩ = some (.int .i64 (room : Int)) := by rw [h.box.cell]; simp
  have c1 : w.cell? ⟨a, 1, none⟩ = some (.slice As ss.length cs) := by rw [h.box.cell]; simp
  have hla := h.box.lt
  by_cases k1 : slot < 0
  · obtain rfl : c = 1 := by rw [← hc]; simp [findE, k1]
    clear hc h
    go_enter Try.func31, Try.ntmps31
    go_wp2
    go_quiet (fail)
    go_wp2
    go_ret2
    exact ⟨rfl, by first | exact ⟨_, rfl⟩ | (simp only [drewN_two]; exact ⟨_, rfl⟩)⟩
  have k1' : decide (slot < 0) = false := decide_eq_false k1
  by_cases k2 : (room : Int) ≤ slot
  · obtain rfl : c = 1 := by rw [← hc]; simp [findE, k1, k2]
    clear hc h
    go_enter Try.func31, Try.ntmps31
    go_wp2
    go_quiet (fail)
    go_wp2
    go_ret2
    exact ⟨rfl, by first | exact ⟨_, rfl⟩ | (simp only [drewN_two]; exact ⟨_, rfl⟩)⟩
  have k2' : decide ((room : Int) ≤ slot) = false := decide_eq_false k2
  by_cases k3 : (ss.length : Int) ≤ slot
  · obtain rfl : c = 7 := by rw [← hc]; simp [findE, k1, k2, k3]
    clear hc h
    go_enter Try.func31, Try.ntmps31
    go_wp2
    go_quiet (fail)
    go_wp2
    go_quiet (fail)
    go_wp2
    go_ret2
    exact ⟨rfl, by first | exact ⟨_, rfl⟩ | (simp only [drewN_two]; exact ⟨_, rfl⟩)⟩
  have k3' : decide ((ss.length : Int) ≤ slot) = false := decide_eq_false k3
  obtain ⟨i, rfl⟩ : ∃ i : Nat, slot = i := ⟨slot.toNat, by omega⟩
  have hi : i < ss.length := by omega
  obtain ⟨⟨sv, sg, sh⟩, hs⟩ : ∃ s, ss[i]? = some s := ⟨_, List.getElem?_eq_getElem hi⟩
  have hc' : c = if sh = true ∧ sg = gen then 0 else 7 := by
    rw [← hc, findE, if_neg (by omega), if_neg k3, Int.toNat_natCast, hs]
  obtain ⟨g, cap, hv, hc1, hc2, hog, hgl⟩ := h.rs.form (by omega)
  cases hv
  have q := cells3_get (mk := Value.string) ss i _ hs
  have d1 : w.cell? ⟨g, i * 3 + 1, none⟩ = some (.int .i64 sg) := by rw [h.rs.cellAt _ (by omega)]; exact q.2.1
  have d2 : w.cell? ⟨g, i * 3 + 2, none⟩ = some (.bool sh) := by rw [h.rs.cellAt _ (by omega)]; exact q.2.2
  unfold maxLen at hc2
  clear h q hc
  cases sh with
  | false =>
    obtain rfl : c = 7 := by rw [hc']; simp
    clear hc'
    go_enter Try.func31, Try.ntmps31
    go_wp2
    go_quiet (fail)
    go_wp2
    go_quiet (fail)
    go_wp2
    go_quiet (fail)
    go_wp2
    go_quiet (fail)
    go_wp2
    go_ret2
    exact ⟨rfl, by first | exact ⟨_, rfl⟩ | (simp only [drewN_two]; exact ⟨_, rfl⟩)⟩
  | true =>
    have hne : sg ≠ gen := fun e => hc0 (by rw [hc']; simp [e])
    obtain rfl : c = 7 := by rw [hc']; simp [hne]
    clear hc'
    have hne' : (sg != gen) = true := by simp [hne]
    go_enter Try.func31, Try.ntmps31
    go_wp2
    go_quiet (fail)
    go_wp2
    go_quiet (fail)
    go_wp2
    go_quiet (fail)
    go_wp2
    go_quiet (fail)
    go_wp2
    go_ret2
    exact ⟨rfl, by first | exact ⟨_, rfl⟩ | (simp only [drewN_two]; exact ⟨_, rfl⟩)⟩
set_option maxHeartbeats 1600000 in
theorem find_yes_s {o : Nat → Nat} {σ : Nat} {w : World} {a room i : Nat} {g cap : Nat} {vf : Value} {ss : List (ByteArray × Int × Bool)} {fr : List Nat} {sv : ByteArray} {gen : Int}
    (h : ArS o σ w a room (.slice (some ⟨g, 0, none⟩) ss.length cap) vf ss fr) (hs : ss[i]? = some (sv, gen, true)) (hr : room ≤ 1000) (hl : ss.length ≤ room) :
    Calls Try.prog 31 #[.pointer (some ⟨a, 0, none⟩), .agg #[.int .i64 (i : Int), .int .i64 gen]] w fun e w' => e = .returned (.tuple #[.pointer (some ⟨g, i * 3, none⟩), .int .i64 0]) ∧
      ∃ n, w' = (w.alloc (.cells #[.int .i64 (i : Int), .int .i64 gen] 28)).drewN n := by
  have c0 : w.cell? ⟨a, 0, none⟩ = some (.int .i64 (room : Int)) := by rw [h.box.cell]; simp
  have c1 : w.cell? ⟨a, 1, none⟩ = some (.slice (some ⟨g, 0, none⟩) ss.length cap) := by rw [h.box.cell]; simp
  have hla := h.box.lt
  have hi : i < ss.length := (List.getElem?_eq_some_iff.1 hs).1
  obtain ⟨g', cap', hv, hc1, hc2, hog, hgl⟩ := h.rs.form (by omega)
  cases hv
  have q := cells3_get (mk := Value.string) ss i _ hs
  have d1 : w.cell? ⟨g, i * 3 + 1, none⟩ = some (.int .i64 gen) := by rw [h.rs.cellAt _ (by omega)]; exact q.2.1
  have d2 : w.cell? ⟨g, i * 3 + 2, none⟩ = some (.bool true) := by rw [h.rs.cellAt _ (by omega)]; exact q.2.2
  have k1' : decide ((i : Int) < 0) = false := decide_eq_false (by omega)
  have k2' : decide ((room : Int) ≤ (i : Int)) = false := decide_eq_false (by omega)
  have k3' : decide ((ss.length : Int) ≤ (i : Int)) = false := decide_eq_false (by omega)
  unfold maxLen at hc2
  clear h q
  go_enter Try.func31, Try.ntmps31
  go_wp2
  go_quiet (fail)
  go_wp2
  go_quiet (fail)
  go_wp2
  go_quiet (fail)
  go_wp2
  go_quiet (fail)
  go_wp2
  go_ret2
  exact ⟨rfl, by first | exact ⟨_, rfl⟩ | (simp only [drewN_two]; exact ⟨_, rfl⟩)⟩
set_option maxHeartbeats 1600000 in
theorem get_no_s {o : Nat → Nat} {σ : Nat} {w : World} {a room : Nat} {vs vf : Value} {ss : List (ByteArray × Int × Bool)} {fr : List Nat} (slot gen c : Int)
    (h : ArS o σ w a room vs vf ss fr) (hc : findE room ss slot gen = c) (hc0 : c ≠ 0) (hr : room ≤ 1000) (hl : ss.length ≤ room) :
    Calls Try.prog 19 #[.pointer (some ⟨a, 0, none⟩), .agg #[.int .i64 slot, .int .i64 gen]] w (RetB (.tuple #[.string ⟨#[]⟩, .int .i64 c]) w) := by
  have C := Lib.hid (find_no_s slot gen c (h.alloc (.cells #[.int .i64 slot, .int .i64 gen] 28) 0) hc hc0 hr hl)
  clear h hc
  have hc0' : (c != 0) = true := by simp [hc0]
  go_enter Try.func19, Try.ntmps19
  go_wp2_with fail
  refine C.out.mono ?_
  rintro e w2 ⟨rfl, n, rfl⟩
  go_wp2
  go_ret2
  exact ⟨rfl, by repeat (first | exact Below.refl _ _ | refine Below.setCell ?_ (by first | omega | (simp; done) | (simp; omega)) _ | refine below_dN ?_ _ | refine Below.drew ?_ | refine Below.alloc ?_ (by first | omega | (simp; done) | (simp; omega)) _)⟩
set_option maxHeartbeats 1600000 in
theorem get_yes_s {o : Nat → Nat} {σ : Nat} {w : World} {a room i : Nat} {vs vf : Value} {ss : List (ByteArray × Int × Bool)} {fr : List Nat} {sv : ByteArray} {gen : Int}
    (h : ArS o σ w a room vs vf ss fr) (hs : ss[i]? = some (sv, gen, true)) (hr : room ≤ 1000) (hl : ss.length ≤ room) :
    Calls Try.prog 19 #[.pointer (some ⟨a, 0, none⟩), .agg #[.int .i64 (i : Int), .int .i64 gen]] w (RetB (.tuple #[.string sv, .int .i64 0]) w) := by
  have hi : i < ss.length := (List.getElem?_eq_some_iff.1 hs).1
  obtain ⟨g, cap, rfl, hc1, hc2, hog, hgl⟩ := h.rs.form (by omega)
  have q := cells3_get (mk := Value.string) ss i _ hs
  have d0 : w.cell? ⟨g, i * 3, none⟩ = some (.string sv) := by rw [h.rs.cellAt _ (by omega)]; exact q.1
  have C := Lib.hid (find_yes_s (h.alloc (.cells #[.int .i64 (i : Int), .int .i64 gen] 28) 0) hs hr hl)
  clear h q
  go_enter Try.func19, Try.ntmps19
  go_wp2_with fail
  refine C.out.mono ?_
  rintro e w2 ⟨rfl, n, rfl⟩
  go_wp2
  go_ret2
  exact ⟨rfl, by repeat (first | exact Below.refl _ _ | refine Below.setCell ?_ (by first | omega | (simp; done) | (simp; omega)) _ | refine below_dN ?_ _ | refine Below.drew ?_ | refine Below.alloc ?_ (by first | omega | (simp; done) | (simp; omega)) _)⟩
set_option maxHeartbeats 1600000 in
theorem set_no_s {o : Nat → Nat} {σ : Nat} {w : World} {a room : Nat} {vs vf : Value} {ss : List (ByteArray × Int × Bool)} {fr : List Nat} (slot gen c : Int) (v : ByteArray)
    (h : ArS o σ w a room vs vf ss fr) (hc : findE room ss slot gen = c) (hc0 : c ≠ 0) (hr : room ≤ 1000) (hl : ss.length ≤ room) :
    Calls Try.prog 21 #[.pointer (some ⟨a, 0, none⟩), .agg #[.int .i64 slot, .int .i64 gen], .string v] w (RetB (.int .i64 c) w) := by
  have C := Lib.hid (find_no_s slot gen c (h.alloc (.cells #[.int .i64 slot, .int .i64 gen] 28) 0) hc hc0 hr hl)
  clear h hc
  have hc0' : (c != 0) = true := by simp [hc0]
  go_enter Try.func21, Try.ntmps21
  go_wp2_with fail
  refine C.out.mono ?_
  rintro e w2 ⟨rfl, n, rfl⟩
  go_wp2
  go_ret
  exact ⟨rfl, by repeat (first | exact Below.refl _ _ | refine Below.setCell ?_ (by first | omega | (simp; done) | (simp; omega)) _ | refine below_dN ?_ _ | refine Below.drew ?_ | refine Below.alloc ?_ (by first | omega | (simp; done) | (simp; omega)) _)⟩
set_option maxHeartbeats 1600000 in
theorem set_yes_s {o : Nat → Nat} {σ : Nat} {w : World} {a room i : Nat} {vs vf : Value} {ss : List (ByteArray × Int × Bool)} {fr : List Nat} {sv : ByteArray} {gen : Int} (v : ByteArray)
    (h : ArS o σ w a room vs vf ss fr) (hs : ss[i]? = some (sv, gen, true)) (hr : room ≤ 1000) (hl : ss.length ≤ room) :
    Calls Try.prog 21 #[.pointer (some ⟨a, 0, none⟩), .agg #[.int .i64 (i : Int), .int .i64 gen], .string v] w fun e w' => e = .returned (.int .i64 0) ∧
      ∃ o' vs' vf', Step o o' σ w w' ∧ ArS o' σ w' a room vs' vf' (ss.set i (v, gen, true)) fr := by
  have hi : i < ss.length := (List.getElem?_eq_some_iff.1 hs).1
  obtain ⟨g, cap, rfl, hc1, hc2, hog, hgl⟩ := h.rs.form (by omega)
  have q := cells3_get (mk := Value.string) ss i _ hs
  have C := Lib.hid (find_yes_s (h.alloc (.cells #[.int .i64 (i : Int), .int .i64 gen] 28) 0) hs hr hl)
  have h2 := (h.alloc (.cells #[.int .i64 (i : Int), .int .i64 gen] 28) 0).alloc (.cells #[.int .i64 (i : Int), .int .i64 gen] 28) 0
  have d0 : w.cell? ⟨g, i * 3, none⟩ = some (.string sv) := by rw [h.rs.cellAt _ (by omega)]; exact q.1
  have f0 : w.frozen? ⟨g, i * 3, none⟩ = false := h.rs.frozenAt _
  replace h2 := Lib.hid h2
  clear h q
  go_enter Try.func21, Try.ntmps21
  go_wp2_with fail
  refine C.out.mono ?_
  rintro e w2 ⟨rfl, n, rfl⟩
  go_wp2
  go_ret
  refine ⟨rfl, _, .slice (some ⟨g, 0, none⟩) ss.length cap, vf, ?_, (h2.out.drewN n).setV hs v⟩
  exact ((((Step.refl o σ w).alloc 0 _).alloc 0 _).drewN n).setCell (.inr (by simpa using h2.out.rs.mine g rfl)) _
end Go.Proofs.Ytenokhdfbomkkaa
