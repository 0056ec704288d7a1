/- DemandKnown: the examples. -/
import Derived.Test.YtmokbmhobglhfaaDmAwake
namespace Go.Proofs.Ytmokbmhobglhfaa
open Go.RowKit Go.Lib
set_option linter.unusedVariables false
set_option linter.unusedSimpArgs false

theorem Try.infoTk2 : (Try.prog.info? 27).map (fun i => (i.zero, i.size, i.bytes)) = some (some (.agg #[.int .i64 0, .int .i64 0, .int .i64 0]), 3, 24) := by kernel_rfl
def zsK (n : Nat) : List Tk := List.replicate n ⟨0, 0, 0⟩
theorem known_frames : (frameN [⟨4, 1, 3⟩, ⟨6, 1, 0⟩] = 12 ∧ frameE [⟨4, 1, 3⟩, ⟨6, 1, 0⟩] = 0) ∧ (frameN [⟨9973, 1, 1000⟩] = 0 ∧ frameE [⟨9973, 1, 1000⟩] = 2) ∧ (frameN (zsK 1) = 0 ∧ frameE (zsK 1) = 1) ∧ (holdsB (zsK 21) = false ∧ frameE (zsK 21) = 1) ∧ (frameN [] = 1 ∧ frameE [] = 0) := by
  refine ⟨⟨?_, ?_⟩, ⟨?_, ?_⟩, ⟨?_, ?_⟩, ⟨?_, ?_⟩, ⟨?_, ?_⟩⟩ <;> kernel_rfl
theorem known_holds : (holdsB [⟨2, 1, 0⟩, ⟨3, 2, 0⟩] = false ∧ frameE [⟨2, 1, 0⟩, ⟨3, 2, 0⟩] = 0) ∧ (holdsB [⟨2, 1, 0⟩, ⟨4, 2, 0⟩] = true ∧ frameE [⟨2, 1, 0⟩, ⟨4, 2, 0⟩] = 0) ∧ (holdsB [⟨2, 2, 2⟩, ⟨4, 1, 0⟩] = true ∧ frameE [⟨2, 2, 2⟩, ⟨4, 1, 0⟩] = 0) := by
  refine ⟨⟨?_, ?_⟩, ⟨?_, ?_⟩, ⟨?_, ?_⟩⟩ <;> kernel_rfl
theorem known_of : ofZ ⟨2, 1, 0⟩ (-1) = 0 ∧ Tk.good ⟨1, 1, 1⟩ = false ∧ allZ (zsK 21) 5 = 0 ∧ ofZ ⟨1, 1000, 0⟩ 4611686018427387904 = 1000000000 := by
  refine ⟨?_, ?_, ?_, ?_⟩ <;> kernel_rfl
theorem cells21 : madeCells #[Value.int .i64 0, .int .i64 0, .int .i64 0] 63 = (cellsTk (zsK 21)).toArray := by kernel_rfl
theorem cells1K : madeCells #[Value.int .i64 0, .int .i64 0, .int .i64 0] 3 = (cellsTk (zsK 1)).toArray := by kernel_rfl
theorem makeK1 : ∀ w' : World, (Instr.makeSlice 28 (.int .i64 1) (.int .i64 1)).run Try.prog w' = .ok (.slice (some ⟨w'.heap.size, 0, none⟩) 1 1) (w'.alloc (.cells (madeCells #[.int .i64 0, .int .i64 0, .int .i64 0] 3) 27)) := by
  obtain ⟨i0, hi0, hz0, hz1, hz2⟩ := info_parts Try.infoTk2
  intro w'
  have h := run_make (P := Try.prog) w' 28 27 i0 _ Try.underlying28 hi0 hz0 .i64 .i64 1 1 (by decide) (by decide) (by rw [hz2]; decide) (by decide)
  rw [hz1] at h
  exact h
theorem makeK21 : ∀ w' : World, (Instr.makeSlice 28 (.int .i64 21) (.int .i64 21)).run Try.prog w' = .ok (.slice (some ⟨w'.heap.size, 0, none⟩) 21 21) (w'.alloc (.cells (madeCells #[.int .i64 0, .int .i64 0, .int .i64 0] 63) 27)) := by
  obtain ⟨i0, hi0, hz0, hz1, hz2⟩ := info_parts Try.infoTk2
  intro w'
  have h := run_make (P := Try.prog) w' 28 27 i0 _ Try.underlying28 hi0 hz0 .i64 .i64 21 21 (by decide) (by decide) (by rw [hz2]; decide) (by decide)
  rw [hz1] at h
  exact h
set_option maxHeartbeats 3200000 in
set_option maxRecDepth 100000 in
theorem DemandKnown_ret (w : World) : Calls Try.prog 3 #[] w (RetB (.bool true) w) := by
  have A0 := Lib.hid awake11_any
  obtain ⟨⟨f1, f2⟩, ⟨f3, f4⟩, ⟨f5, f6⟩, ⟨f7, f8⟩, ⟨f9, f10⟩⟩ := known_frames
  obtain ⟨⟨h1, h2⟩, ⟨h3, h4⟩, ⟨h5, h6⟩⟩ := known_holds
  obtain ⟨o1, o2, o3, o4⟩ := known_of
  have C1 := Lib.hid (frame_new [⟨4, 1, 3⟩, ⟨6, 1, 0⟩] 2 12 0 #[.int .i64 4, .int .i64 1, .int .i64 3, .int .i64 6, .int .i64 1, .int .i64 0] rfl (by decide) rfl f1 f2)
  have C2 := Lib.hid (frame_new [⟨9973, 1, 1000⟩] 1 0 2 #[.int .i64 9973, .int .i64 1, .int .i64 1000] rfl (by decide) rfl f3 f4)
  have C3 := Lib.hid (frame_new (zsK 1) 1 0 1 _ rfl (by decide) cells1K f5 f6)
  have C4 := Lib.hid (holds_new (zsK 21) 21 false 1 _ rfl (by decide) cells21 f7 f8)
  have C5 : Hid (∀ w', Calls Try.prog 8 #[.slice none 0 0] w' (RetB (.tuple #[.int .i64 1, .int .i64 0]) w')) := fun w' => dframe_any none 0 [] 1 0 w' (by decide) (by decide) (fun k x hx => by simp at hx) f9 f10
  have C6 := Lib.hid (holds_new [⟨2, 1, 0⟩, ⟨3, 2, 0⟩] 2 false 0 #[.int .i64 2, .int .i64 1, .int .i64 0, .int .i64 3, .int .i64 2, .int .i64 0] rfl (by decide) rfl h1 h2)
  have C7 := Lib.hid (holds_new [⟨2, 1, 0⟩, ⟨4, 2, 0⟩] 2 true 0 #[.int .i64 2, .int .i64 1, .int .i64 0, .int .i64 4, .int .i64 2, .int .i64 0] rfl (by decide) rfl h3 h4)
  have C8 := Lib.hid (holds_new [⟨2, 2, 2⟩, ⟨4, 1, 0⟩] 2 true 0 #[.int .i64 2, .int .i64 2, .int .i64 2, .int .i64 4, .int .i64 1, .int .i64 0] rfl (by decide) rfl h5 h6)
  have O1 := Lib.hid (dof_any ⟨2, 1, 0⟩ (-1) 0 · (by decide) o1)
  have O2 := Lib.hid (dgood_any ⟨1, 1, 1⟩ false · o2)
  have O3 : Hid (∀ (w' : World) (B : Nat), w'.heap.size = B → Calls Try.prog 12 #[.slice (some ⟨B, 0, none⟩) 21 21, .int .i64 5] (w'.alloc (.cells (madeCells #[.int .i64 0, .int .i64 0, .int .i64 0] 63) 27)) (RetB (.int .i64 0) (w'.alloc (.cells (madeCells #[.int .i64 0, .int .i64 0, .int .i64 0] 63) 27)))) := fun w' B hB => by
    subst hB
    exact dall_any _ 21 (zsK 21) 5 0 _ (by decide) (by decide) (by decide) (rdK_new w' _ (zsK 21) _ cells21) o3
  have O4 := Lib.hid (dof_any ⟨1, 1000, 0⟩ 4611686018427387904 1000000000 · (by decide) o4)
  have m1 := makeK1
  have m21 := makeK21
  clear f1 f2 f3 f4 f5 f6 f7 f8 f9 f10 h1 h2 h3 h4 h5 h6 o1 o2 o3 o4
  have al : ∀ (a b : World) (ob : Obj), Below (a.alloc ob).heap.size (a.alloc ob) b → Below a.heap.size a b := fun a b ob h => below_on ((Below.refl _ _).alloc (Nat.le_refl _) _) h
  replace al := Lib.hid al
  go_enter Try.func3, Try.ntmps3
  go_wp2_with fail
  refine (A0.out _).mono ?_; rintro x w0 ⟨rfl, b0⟩
  replace b0 := Lib.hid b0
  clear A0
  go_wp2_with fail
  refine (C1.out w0 _ rfl).mono ?_; rintro x w1 ⟨rfl, b1⟩
  replace b1 := Lib.hid (below_on b0.out (al.out _ _ _ b1))
  clear C1 b0
  go_wp2_with fail
  refine (C2.out w1 _ rfl).mono ?_; rintro x w2 ⟨rfl, b2⟩
  replace b2 := Lib.hid (below_on b1.out (al.out _ _ _ b2))
  clear C2 b1
  go_wp2_with fail
  refine (C3.out w2 _ rfl).mono ?_; rintro x w3 ⟨rfl, b3⟩
  replace b3 := Lib.hid (below_on b2.out (al.out _ _ _ b3))
  clear C3 b2 m1
  go_wp2_with fail
  refine (C4.out w3 _ rfl).mono ?_; rintro x w4 ⟨rfl, b4⟩
  replace b4 := Lib.hid (below_on b3.out (al.out _ _ _ b4))
  clear C4 b3
  go_wp2_with fail
  refine (C5.out _).mono ?_; rintro x w5 ⟨rfl, b5⟩
  replace b5 := Lib.hid (below_on b4.out b5)
  clear C5 b4
  go_wp2_with fail
  refine (C6.out w5 _ rfl).mono ?_; rintro x w6 ⟨rfl, b6⟩
  replace b6 := Lib.hid (below_on b5.out (al.out _ _ _ b6))
  clear C6 b5
  go_wp2_with fail
  refine (C7.out w6 _ rfl).mono ?_; rintro x w7 ⟨rfl, b7⟩
  replace b7 := Lib.hid (below_on b6.out (al.out _ _ _ b7))
  clear C7 b6
  go_wp2_with fail
  refine (C8.out w7 _ rfl).mono ?_; rintro x w8 ⟨rfl, b8⟩
  replace b8 := Lib.hid (below_on b7.out (al.out _ _ _ b8))
  clear C8 b7
  go_wp2_with fail
  refine (O1.out _).mono ?_; rintro x w9 ⟨rfl, b9⟩
  replace b9 := Lib.hid (below_on b8.out b9)
  clear O1 b8
  go_wp2_with fail
  refine (O2.out _).mono ?_; rintro x w10 ⟨rfl, b10⟩
  replace b10 := Lib.hid (below_on b9.out b10)
  clear O2 b9
  go_wp2_with fail
  refine (O3.out w10 _ rfl).mono ?_; rintro x w11 ⟨rfl, b11⟩
  replace b11 := Lib.hid (below_on b10.out (al.out _ _ _ b11))
  clear O3 b10
  go_wp2_with fail
  refine (O4.out _).mono ?_; rintro x w12 ⟨rfl, b12⟩
  replace b12 := Lib.hid (below_on b11.out b12)
  clear O4 b11
  go_wp2
  go_ret
  exact ⟨rfl, by have s0 := b12.out.size; (try simp only [World.heap_drewN, World.size_alloc] at s0); repeat (first | exact Below.refl _ _ | exact b12.out | refine Below.trans ?_ (Below.mono b12.out (by first | omega | (simp; done) | (simp; omega))) | refine Below.setCell ?_ (by first | omega | (simp; done) | (simp; omega)) _ | refine below_dN ?_ _ | refine Below.drew ?_ | refine Below.alloc ?_ (by first | omega | (simp; done) | (simp; omega)) _)⟩
end Go.Proofs.Ytmokbmhobglhfaa
