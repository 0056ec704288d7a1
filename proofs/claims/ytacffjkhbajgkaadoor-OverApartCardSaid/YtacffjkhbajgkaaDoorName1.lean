/- The contracts of package name: digits, lengths, letters, names. -/
import Derived.Test.YtacffjkhbajgkaaDoorBase
import Derived.Test.YtacffjkhbajgkaaDoorNameBytes
import Derived.Test.YtacffjkhbajgkaaDoorShelf
import Derived.Lib.OthersKept
namespace Go.Proofs.YtacffjkhbajgkaaDoor
open Go.RowKit Go.Lib
set_option linter.unusedVariables false
set_option linter.unusedSimpArgs false

/-- It returns v, and the world is the same. -/
def RetW (v : Value) (w : World) (e : Ending) (w' : World) : Prop := e = .returned v ∧ w' = w

/-- Go's tables of letters lie as they are laid. -/
def Ltr (w : World) : Prop := Lib.TabIs Tryd.prog w "unicode.properties" .u8 Lib.propertiesTab ∧ Lib.RVar 1 Lib.letterT w
theorem Ltr.below {w w' : World} (h : Ltr w) (hb : Below w.heap.size w w') : Ltr w' := ⟨TabIs_below (g := 0) (by kernel_rfl) h.1 hb, RVar_below h.2 hb⟩

theorem isDigit_ret (r : Int) (w : World) : Calls Tryd.prog 42 #[.int .i32 r] w (RetW (.bool (decide (48 ≤ r) && decide (r ≤ 57))) w) := by
  by_cases h1 : 48 ≤ r
  · have h1' : decide (48 ≤ r) = true := decide_eq_true h1
    by_cases h2 : r ≤ 57
    · have h2' : decide (r ≤ 57) = true := decide_eq_true h2
      go_enter Tryd.func42, Tryd.ntmps42
      go_wp2; go_ret
      exact ⟨ret_b (by simp [*]), rfl⟩
    · have h2' : decide (r ≤ 57) = false := decide_eq_false h2
      go_enter Tryd.func42, Tryd.ntmps42
      go_wp2; go_ret
      exact ⟨ret_b (by simp [*]), rfl⟩
  · have h1' : decide (48 ≤ r) = false := decide_eq_false h1
    go_enter Tryd.func42, Tryd.ntmps42
    go_wp2; go_ret
    exact ⟨ret_b (by simp [*]), rfl⟩

theorem below_iter (w : World) (s : ByteArray) (pos : Nat) : Below w.heap.size w (w.iter s pos) := (Below.refl _ w).alloc (Nat.le_refl _) _

set_option maxRecDepth 1000000 in
theorem rlen_any (s : ByteArray) (w : World) (hs : s.size ≤ 1000000) : Calls Tryd.prog 47 #[.string s] w (RetB (.int .i64 ((rsAt s 0).length : Nat)) w) := by
  have hlen := rsAt_len s s.size 0 (by omega) (by omega)
  go_enter Tryd.func47, Tryd.ntmps47
  go_wp2
  go_loopw [3] (fun n w' => ∃ pos c : Nat, w' = w.iter s pos ∧ n = .int .i64 (c : Nat) ∧ c + (rsAt s pos).length = (rsAt s 0).length ∧ pos ≤ s.size) (fun _ w' => s.size - w'.iterPos w.heap.size)
  case atStart => exact ⟨0, 0, rfl, rfl, by omega, by omega⟩
  case round =>
    obtain ⟨pos, c, rfl, rfl, hc, hps⟩ := hrel
    by_cases hp : pos < s.size
    · have hnx : ∀ ty, (Instr.next (.pointer (some ⟨w.heap.size, 0, none⟩)) true ty).run Tryd.prog (w.iter s pos) = _ := fun ty => run_next_any w s pos ty hp
      have hwd := dec_pos s pos
      have hwe := dec_end s pos hp
      rw [rsAt_step s pos hp] at hc
      simp only [List.length_cons] at hc
      go_wp2
      go_roundw
      case rel => exact ⟨pos + (Utf8.decode s pos).2, c + 1, rfl, by simp, by omega, hwe⟩
      case measure => simp; omega
    · have hnx : ∀ ty, (Instr.next (.pointer (some ⟨w.heap.size, 0, none⟩)) true ty).run Tryd.prog (w.iter s pos) = _ := fun ty => run_next_end w s pos ty hp
      rw [rsAt_end s pos hp] at hc
      simp only [List.length_nil, Nat.add_zero] at hc
      go_wp2
      go_ret
      exact ⟨ret_i (by omega), below_iter _ _ _⟩

theorem letter_any (r : Nat) (w : World) (hr : r ≤ 1114111) (hL : Ltr w) : Calls Tryd.prog 41 #[.int .i32 (r : Nat)] w (RetB (.bool (isLetterU r)) w) :=
  Tryd.unicode_IsLetter_all r w (by omega) (by omega) hL.1 hL.2

theorem all_step (s : ByteArray) (pos : Nat) (h : pos < s.size) : (rsAt s pos).all okR = (okR (pos, (Utf8.decode s pos).1) && (rsAt s (pos + (Utf8.decode s pos).2)).all okR) := by
  rw [rsAt_step s pos h]; rfl

set_option maxHeartbeats 1600000 in
set_option maxRecDepth 1000000 in
theorem good_any (s : ByteArray) (w : World) (hs : s.size ≤ 1000000) (hL : Ltr w) : Calls Tryd.prog 33 #[.string s] w (RetB (.bool (goodB s)) w) := by
  obtain ⟨g, hg⟩ : ∃ g, goodB s = g := ⟨_, rfl⟩
  obtain ⟨n, hn⟩ : ∃ n, (rsAt s 0).length = n := ⟨_, rfl⟩
  have hg0 : (decide (1 ≤ n) && (decide (n ≤ 20) && (rsAt s 0).all okR)) = g := by rw [← hg, ← hn]; rfl
  rw [hg]
  go_enter Tryd.func33, Tryd.ntmps33
  go_wp2
  go_loopw [3] (fun x wr => ∃ pos c : Nat, wr.heap[w.heap.size]? = some (.stringIter s pos) ∧ Below w.heap.size w wr ∧ x = .int .i64 (c : Nat) ∧ c + (rsAt s pos).length = n ∧ pos ≤ s.size ∧ c ≤ 20 ∧ (c = 0 ↔ pos = 0) ∧ (decide (1 ≤ n) && (decide (n ≤ 20) && (rsAt s pos).all okR)) = g) (fun _ wr => s.size - wr.iterPos w.heap.size)
  case atStart => exact ⟨0, 0, World.iter_heap w s 0, below_iter w s 0, rfl, by omega, by omega, by omega, by omega, hg0⟩
  case round =>
    obtain ⟨pos, c, hit, hbw, rfl, hc, hps, hc20, hc0, hgo⟩ := hrel
    have hszr : w.heap.size < wr.heap.size := (Array.getElem?_eq_some_iff.1 hit).1
    by_cases hp : pos < s.size
    · have hnx : ∀ ty, (Instr.next (.pointer (some ⟨w.heap.size, 0, none⟩)) true ty).run Tryd.prog wr = _ := fun ty => Lib.run_next_any_at wr w.heap.size s pos ty hit hp
      have hwd := dec_pos s pos
      have hwe := dec_end s pos hp
      have hdl := dec_le s pos
      rw [all_step s pos hp] at hgo
      rw [rsAt_step s pos hp, List.length_cons] at hc
      have hnx2 : ∀ ty, (Instr.next (.pointer (some ⟨w.heap.size, 0, none⟩)) true ty).run Tryd.prog wr = .ok (.tuple #[.bool true, .int .i64 (pos : Nat), .int .i32 ((Utf8.decode s pos).1 : Nat)]) (wr.iterAt w.heap.size s (pos + (Utf8.decode s pos).2)) := hnx
      clear hnx
      generalize (Utf8.decode s pos).1 = r at *
      generalize (Utf8.decode s pos).2 = k at *
      have hit2 := Lib.iterAt_heap wr w.heap.size s pos (pos + k) hit
      have hbw2 := Lib.below_iterAt hbw (k := w.heap.size) (Nat.le_refl _) s (pos + k)
      have hposr : wr.iterPos w.heap.size = pos := by simp only [World.iterPos, hit]
      clear hit hbw
      generalize wr.iterAt w.heap.size s (pos + k) = w2 at *
      have hsz2 : w.heap.size < w2.heap.size := (Array.getElem?_eq_some_iff.1 hit2).1
      have cL := letter_any r w2 hdl (hL.below (hbw2.mono (Nat.le_refl _)))
      have hokf : okR (pos, r) = ((isLetterU r || (decide (48 ≤ r) && decide (r ≤ 57) || r == 95)) && (pos != 0 || isLetterU r)) := rfl
      generalize isLetterU (r : Int) = b at *
      have cD := Lib.hid (fun w => isDigit_ret (r : Nat) w)
      replace cL := Lib.hid cL
      have F := Lib.hid (And.intro hgo (And.intro hc (And.intro hc0 (And.intro hokf (And.intro hit2 (And.intro hbw2 hsz2))))))
      clear hgo hc hc0 hokf hit2 hbw2 hsz2 hL hg0 hn hg hdl
      replace hs : (s.size : Int) ≤ 1000000 := by omega
      cases b with
      | true =>
        have hokr : okR (pos, r) = ((true || (decide (48 ≤ r) && decide (r ≤ 57) || r == 95)) && (pos != 0 || true)) → (c = 0 ↔ pos = 0) → okR (pos, r) = true := fun h _ => by rw [h]; simp
        go_wp2_with fail
        refine cL.out.mono ?_; rintro e gw ⟨rfl, gb⟩
        by_cases h20 : c + 1 > 20
        · go_wp2
          go_ret
          obtain ⟨hgo, hc, hc0, hokf, hit2, hbw2, hsz2⟩ := F.out
          exact ⟨ret_b (by rw [← hgo, decide_eq_false (show ¬ n ≤ 20 by omega)]; simp), below_on hbw2 gb⟩
        · go_wp2
          go_roundw
          case rel =>
            obtain ⟨hgo, hc, hc0, hokf, hit2, hbw2, hsz2⟩ := F.out
            exact ⟨pos + k, c + 1, (gb.block _ hsz2).trans hit2, below_on hbw2 gb, by simp, by omega, hwe, by omega, by omega, by rw [← hgo, hokr hokf hc0, Bool.true_and]⟩
          case measure =>
            obtain ⟨hgo, hc, hc0, hokf, hit2, hbw2, hsz2⟩ := F.out
            rw [hposr]; simp only [World.iterPos, (gb.block _ hsz2).trans hit2]; omega
      | false =>
        rcases Nat.eq_zero_or_pos c with hcz | hcz
        · have hokr : okR (pos, r) = ((false || (decide (48 ≤ r) && decide (r ≤ 57) || r == 95)) && (pos != 0 || false)) → (c = 0 ↔ pos = 0) → okR (pos, r) = false := fun h h0 => by rw [h, h0.1 hcz]; simp
          go_wp2_with fail
          refine cL.out.mono ?_; rintro e gw ⟨rfl, gb⟩
          go_wp2
          go_ret
          obtain ⟨hgo, hc, hc0, hokf, hit2, hbw2, hsz2⟩ := F.out
          exact ⟨ret_b (by rw [← hgo, hokr hokf hc0]; simp), below_on hbw2 gb⟩
        · by_cases hd : 48 ≤ r ∧ r ≤ 57
          · have hokr : okR (pos, r) = ((false || (decide (48 ≤ r) && decide (r ≤ 57) || r == 95)) && (pos != 0 || false)) → (c = 0 ↔ pos = 0) → okR (pos, r) = true := fun h h0 => by rw [h]; simp [hd]; omega
            have hde : (decide (48 ≤ (r : Int)) && decide ((r : Int) ≤ 57)) = true := by simp; omega
            rw [hde] at cD
            go_wp2_with fail
            refine cL.out.mono ?_; rintro e gw ⟨rfl, gb⟩
            go_wp2_with fail
            refine (cD.out _).mono ?_; rintro e w' ⟨rfl, rfl⟩
            by_cases h20 : c + 1 > 20
            · go_wp2
              go_ret
              obtain ⟨hgo, hc, hc0, hokf, hit2, hbw2, hsz2⟩ := F.out
              exact ⟨ret_b (by rw [← hgo, decide_eq_false (show ¬ n ≤ 20 by omega)]; simp), below_on hbw2 gb⟩
            · go_wp2
              go_roundw
              case rel =>
                obtain ⟨hgo, hc, hc0, hokf, hit2, hbw2, hsz2⟩ := F.out
                exact ⟨pos + k, c + 1, (gb.block _ hsz2).trans hit2, below_on hbw2 gb, by simp, by omega, hwe, by omega, by omega, by rw [← hgo, hokr hokf hc0, Bool.true_and]⟩
              case measure =>
                obtain ⟨hgo, hc, hc0, hokf, hit2, hbw2, hsz2⟩ := F.out
                rw [hposr]; simp only [World.iterPos, (gb.block _ hsz2).trans hit2]; omega
          · have hde : (decide (48 ≤ (r : Int)) && decide ((r : Int) ≤ 57)) = false := by simp; omega
            rw [hde] at cD
            by_cases hu : r = 95
            · have hokr : okR (pos, r) = ((false || (decide (48 ≤ r) && decide (r ≤ 57) || r == 95)) && (pos != 0 || false)) → (c = 0 ↔ pos = 0) → okR (pos, r) = true := fun h h0 => by rw [h]; simp [hu]; omega
              have hu' : ((r : Int) != 95) = false := by simp; omega
              replace hu := Lib.hid hu
              go_wp2_with fail
              refine cL.out.mono ?_; rintro e gw ⟨rfl, gb⟩
              go_wp2_with fail
              refine (cD.out _).mono ?_; rintro e w' ⟨rfl, rfl⟩
              by_cases h20 : c + 1 > 20
              · go_wp2
                go_ret
                obtain ⟨hgo, hc, hc0, hokf, hit2, hbw2, hsz2⟩ := F.out
                exact ⟨ret_b (by rw [← hgo, decide_eq_false (show ¬ n ≤ 20 by omega)]; simp), below_on hbw2 gb⟩
              · go_wp2
                go_roundw
                case rel =>
                  obtain ⟨hgo, hc, hc0, hokf, hit2, hbw2, hsz2⟩ := F.out
                  exact ⟨pos + k, c + 1, (gb.block _ hsz2).trans hit2, below_on hbw2 gb, by simp, by omega, hwe, by omega, by omega, by rw [← hgo, hokr hokf hc0, Bool.true_and]⟩
                case measure =>
                  obtain ⟨hgo, hc, hc0, hokf, hit2, hbw2, hsz2⟩ := F.out
                  rw [hposr]; simp only [World.iterPos, (gb.block _ hsz2).trans hit2]; omega
            · have hokr : okR (pos, r) = ((false || (decide (48 ≤ r) && decide (r ≤ 57) || r == 95)) && (pos != 0 || false)) → (c = 0 ↔ pos = 0) → okR (pos, r) = false := fun h h0 => by rw [h, show (decide (48 ≤ r) && decide (r ≤ 57)) = false by simp; omega]; simp [hu]
              have hu' : ((r : Int) != 95) = true := by simp; omega
              go_wp2_with fail
              refine cL.out.mono ?_; rintro e gw ⟨rfl, gb⟩
              go_wp2_with fail
              refine (cD.out _).mono ?_; rintro e w' ⟨rfl, rfl⟩
              go_wp2
              go_ret
              obtain ⟨hgo, hc, hc0, hokf, hit2, hbw2, hsz2⟩ := F.out
              exact ⟨ret_b (by rw [← hgo, hokr hokf hc0]; simp), below_on hbw2 gb⟩
    · have hnx : ∀ ty, (Instr.next (.pointer (some ⟨w.heap.size, 0, none⟩)) true ty).run Tryd.prog wr = _ := fun ty => Lib.run_next_end_at wr w.heap.size s pos ty hit hp
      rw [rsAt_end s pos hp] at hc hgo
      simp only [List.length_nil, Nat.add_zero, List.all_nil, Bool.and_true] at hc hgo
      subst hc
      by_cases h0 : (0 : Int) < (c : Nat)
      · have h0' : decide ((0 : Int) < (c : Nat)) = true := decide_eq_true h0
        go_wp2
        go_ret
        exact ⟨ret_b (by rw [← hgo, Bool.eq_iff_iff]; first | (simp only [Bool.and_eq_true, decide_eq_true_eq]; omega) | (simp; omega)), hbw⟩
      · have h0' : decide ((0 : Int) < (c : Nat)) = false := decide_eq_false h0
        go_wp2
        go_ret
        exact ⟨ret_b (by rw [← hgo, Bool.eq_iff_iff]; first | (simp only [Bool.and_eq_true, decide_eq_true_eq]; omega) | (simp; omega)), hbw⟩
end Go.Proofs.YtacffjkhbajgkaaDoor
