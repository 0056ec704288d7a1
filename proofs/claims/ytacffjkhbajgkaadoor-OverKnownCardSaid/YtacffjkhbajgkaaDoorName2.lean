/- The document's own answers on names: GoodName. -/
import Derived.Test.YtacffjkhbajgkaaDoorName1
import Derived.PlainAid
namespace Go.Proofs.YtacffjkhbajgkaaDoor
open Go.RowKit Go.Lib Go.PlainAid
set_option linter.unusedVariables false
set_option linter.unusedSimpArgs false

theorem letter_fffd : isLetterU 65533 = false := by kernel_rfl

set_option maxHeartbeats 1600000 in
set_option maxRecDepth 1000000 in
theorem rgood_any (s : ByteArray) (w : World) (hs : s.size ≤ 1000000) (hL : Ltr w) : Calls Tryd.prog 40 #[.string s] w (RetB (.bool (goodB s)) w) := by
  obtain ⟨g, hg⟩ : ∃ g, goodB s = g := ⟨_, rfl⟩
  obtain ⟨n, hn⟩ : ∃ n, (rsAt s 0).length = n := ⟨_, rfl⟩
  have hg0 : (decide (1 ≤ n) && (decide (n ≤ 20) && (rsAt s 0).all okR)) = g := by rw [← hg, ← hn]; rfl
  rw [hg]
  have C := rlen_any s w hs
  rw [hn] at C
  replace C := Lib.hid C
  clear hg hn
  go_enter Tryd.func40, Tryd.ntmps40
  go_wp2_with fail
  refine C.out.mono ?_; rintro e lw ⟨rfl, l⟩
  by_cases h1 : n < 1
  · go_wp2
    go_ret
    exact ⟨ret_b (by rw [← hg0, decide_eq_false (by omega)]; rfl), l⟩
  by_cases h2 : n > 20
  · go_wp2
    go_ret
    exact ⟨ret_b (by rw [← hg0, decide_eq_false (show ¬ n ≤ 20 by omega)]; simp), l⟩
  rw [decide_eq_true (by omega), decide_eq_true (show n ≤ 20 by omega), Bool.true_and, Bool.true_and] at hg0
  replace hL := hL.below l
  go_wp2
  go_loopw [] (fun wr => ∃ pos : Nat, wr.heap[lw.heap.size]? = some (.stringIter s pos) ∧ Below lw.heap.size lw wr ∧ pos ≤ s.size ∧ (rsAt s pos).all okR = g) (fun wr => s.size - wr.iterPos lw.heap.size)
  case atStart => exact ⟨0, World.iter_heap lw s 0, below_iter lw s 0, by omega, hg0⟩
  case round =>
    obtain ⟨pos, hit, hbw, hps, hgo⟩ := hrel
    have hszr : lw.heap.size < wr.heap.size := (Array.getElem?_eq_some_iff.1 hit).1
    by_cases hp : pos < s.size
    · have hnx : ∀ ty, (Instr.next (.pointer (some ⟨lw.heap.size, 0, none⟩)) true ty).run Tryd.prog wr = _ := fun ty => Lib.run_next_any_at wr lw.heap.size s pos ty hit hp
      have hwd := dec_pos s pos
      have hwe := dec_end s pos hp
      have hdl := dec_le s pos
      rw [all_step s pos hp] at hgo
      have hnx2 : ∀ ty, (Instr.next (.pointer (some ⟨lw.heap.size, 0, none⟩)) true ty).run Tryd.prog wr = .ok (.tuple #[.bool true, .int .i64 (pos : Nat), .int .i32 ((Utf8.decode s pos).1 : Nat)]) (wr.iterAt lw.heap.size s (pos + (Utf8.decode s pos).2)) := hnx
      clear hnx
      generalize (Utf8.decode s pos).1 = r at *
      generalize (Utf8.decode s pos).2 = k at *
      have hit2 := Lib.iterAt_heap wr lw.heap.size s pos (pos + k) hit
      have hbw2 := Lib.below_iterAt hbw (k := lw.heap.size) (Nat.le_refl _) s (pos + k)
      have hposr : wr.iterPos lw.heap.size = pos := by simp only [World.iterPos, hit]
      clear hit hbw
      generalize wr.iterAt lw.heap.size s (pos + k) = w2 at *
      have hsz2 : lw.heap.size < w2.heap.size := (Array.getElem?_eq_some_iff.1 hit2).1
      have cL := fun w' (hb : Below lw.heap.size lw w') => letter_any r w' hdl (hL.below hb)
      have hokf : okR (pos, r) = ((isLetterU r || (decide (48 ≤ r) && decide (r ≤ 57) || r == 95)) && (pos != 0 || isLetterU r)) := rfl
      have hbl : isLetterU r = true → r ≠ 65533 := fun h e => by rw [e] at h; exact absurd (h.symm.trans letter_fffd) (by decide)
      generalize isLetterU (r : Int) = b at *
      replace cL := Lib.hid cL
      have F := Lib.hid (And.intro hgo (And.intro hokf (And.intro hit2 (And.intro hbw2 hsz2))))
      clear hgo hokf hit2 hbw2 hsz2 hL hg0 hdl C
      replace hs : (s.size : Int) ≤ 1000000 := by omega
      have hgb := get_bt s
      have hL0 := Lib.hid l
      clear l
      by_cases hp0 : pos = 0
      · cases b with
        | false =>
          go_wp2_with fail
          refine (cL.out _ (F.out.2.2.2.1)).mono ?_; rintro e g1w ⟨rfl, g1⟩
          go_wp2
          go_ret
          obtain ⟨hgo, hokf, hit2, hbw2, hsz2⟩ := F.out
          exact ⟨ret_b (by rw [← hgo, (show okR (pos, r) = false by rw [hokf, hp0]; simp)]; simp), below_on hL0.out (below_on hbw2 g1)⟩
        | true =>
          have hne : ((r : Int) == 65533) = false := by have := hbl rfl; simp; omega
          go_wp2_with fail
          refine (cL.out _ (F.out.2.2.2.1)).mono ?_; rintro e g1w ⟨rfl, g1⟩
          by_cases hu : r = 95
          · have hu' : ((r : Int) != 95) = false := by simp; omega
            replace hu := Lib.hid hu
            go_wp2
            go_roundw
            case rel =>
              obtain ⟨hgo, hokf, hit2, hbw2, hsz2⟩ := F.out
              exact ⟨pos + k, ((g1.block _ hsz2).trans hit2), (below_on hbw2 g1), hwe, by rw [← hgo, (show okR (pos, r) = true by rw [hokf]; simp), Bool.true_and]⟩
            case measure =>
              obtain ⟨hgo, hokf, hit2, hbw2, hsz2⟩ := F.out
              rw [hposr]; simp only [World.iterPos, ((g1.block _ hsz2).trans hit2)]; omega
          have hu' : ((r : Int) != 95) = true := by simp; omega
          by_cases hd : 48 ≤ r ∧ r ≤ 57
          · obtain ⟨hd1, hd2⟩ := hd
            go_wp2
            go_roundw
            case rel =>
              obtain ⟨hgo, hokf, hit2, hbw2, hsz2⟩ := F.out
              exact ⟨pos + k, ((g1.block _ hsz2).trans hit2), (below_on hbw2 g1), hwe, by rw [← hgo, (show okR (pos, r) = true by rw [hokf]; simp), Bool.true_and]⟩
            case measure =>
              obtain ⟨hgo, hokf, hit2, hbw2, hsz2⟩ := F.out
              rw [hposr]; simp only [World.iterPos, ((g1.block _ hsz2).trans hit2)]; omega
          rcases (show r < 48 ∨ 57 < r by omega) with hlo | hhi
          · go_wp2_with fail
            refine (cL.out _ ((below_on F.out.2.2.2.1 g1))).mono ?_; rintro e g2w ⟨rfl, g2⟩
            go_wp2
            go_roundw
            case rel =>
              obtain ⟨hgo, hokf, hit2, hbw2, hsz2⟩ := F.out
              exact ⟨pos + k, ((g2.block _ (Nat.lt_of_lt_of_le hsz2 g1.size)).trans ((g1.block _ hsz2).trans hit2)), (below_on (below_on hbw2 g1) g2), hwe, by rw [← hgo, (show okR (pos, r) = true by rw [hokf]; simp), Bool.true_and]⟩
            case measure =>
              obtain ⟨hgo, hokf, hit2, hbw2, hsz2⟩ := F.out
              rw [hposr]; simp only [World.iterPos, ((g2.block _ (Nat.lt_of_lt_of_le hsz2 g1.size)).trans ((g1.block _ hsz2).trans hit2))]; omega
          · go_wp2_with fail
            refine (cL.out _ ((below_on F.out.2.2.2.1 g1))).mono ?_; rintro e g2w ⟨rfl, g2⟩
            go_wp2
            go_roundw
            case rel =>
              obtain ⟨hgo, hokf, hit2, hbw2, hsz2⟩ := F.out
              exact ⟨pos + k, ((g2.block _ (Nat.lt_of_lt_of_le hsz2 g1.size)).trans ((g1.block _ hsz2).trans hit2)), (below_on (below_on hbw2 g1) g2), hwe, by rw [← hgo, (show okR (pos, r) = true by rw [hokf]; simp), Bool.true_and]⟩
            case measure =>
              obtain ⟨hgo, hokf, hit2, hbw2, hsz2⟩ := F.out
              rw [hposr]; simp only [World.iterPos, ((g2.block _ (Nat.lt_of_lt_of_le hsz2 g1.size)).trans ((g1.block _ hsz2).trans hit2))]; omega
      · have hp0' : ((pos : Int) == 0) = false := by simp; omega
        by_cases hf : r = 65533
        · have hbf : b = false := by cases b with | false => rfl | true => exact absurd hf (hbl rfl)
          have hf' : ((r : Int) == 65533) = true := by simp; omega
          have hu' : ((r : Int) != 95) = true := by simp; omega
          have hlo : 57 < (r : Int) := by omega
          have hokr : okR (pos, r) = false := by rw [F.out.2.1, hbf, hf]; simp
          subst hbf
          replace hf := Lib.hid hf
          by_cases hx : bt s pos = 239
          · have hx' : (bt s pos != 239) = false := by rw [hx]; rfl
            go_wp2_with fail
            refine (cL.out _ (F.out.2.2.2.1)).mono ?_; rintro e g1w ⟨rfl, g1⟩
            go_wp2
            go_ret
            obtain ⟨hgo, hokf, hit2, hbw2, hsz2⟩ := F.out
            exact ⟨ret_b (by rw [← hgo, hokr]; simp), below_on hL0.out (below_on hbw2 g1)⟩
          · have hx' : (bt s pos != 239) = true := by simp [hx]
            go_wp2
            go_ret
            obtain ⟨hgo, hokf, hit2, hbw2, hsz2⟩ := F.out
            exact ⟨ret_b (by rw [← hgo, hokr]; simp), below_on hL0.out hbw2⟩
        · have hne : ((r : Int) == 65533) = false := by simp; omega
          by_cases hu : r = 95
          · have hu' : ((r : Int) != 95) = false := by simp; omega
            replace hu := Lib.hid hu
            go_wp2
            go_roundw
            case rel =>
              obtain ⟨hgo, hokf, hit2, hbw2, hsz2⟩ := F.out
              exact ⟨pos + k, hit2, hbw2, hwe, by rw [← hgo, (show okR (pos, r) = true by rw [hokf]; simp [hu.out]; omega), Bool.true_and]⟩
            case measure =>
              obtain ⟨hgo, hokf, hit2, hbw2, hsz2⟩ := F.out
              rw [hposr]; simp only [World.iterPos, hit2]; omega
          have hu' : ((r : Int) != 95) = true := by simp; omega
          by_cases hd : 48 ≤ r ∧ r ≤ 57
          · obtain ⟨hd1, hd2⟩ := hd
            go_wp2
            go_roundw
            case rel =>
              obtain ⟨hgo, hokf, hit2, hbw2, hsz2⟩ := F.out
              exact ⟨pos + k, hit2, hbw2, hwe, by rw [← hgo, (show okR (pos, r) = true by rw [hokf]; simp [hd1, hd2]; omega), Bool.true_and]⟩
            case measure =>
              obtain ⟨hgo, hokf, hit2, hbw2, hsz2⟩ := F.out
              rw [hposr]; simp only [World.iterPos, hit2]; omega
          rcases (show r < 48 ∨ 57 < r by omega) with hlo | hhi
          · cases b with
            | true =>
              go_wp2_with fail
              refine (cL.out _ (F.out.2.2.2.1)).mono ?_; rintro e g2w ⟨rfl, g2⟩
              go_wp2
              go_roundw
              case rel =>
                obtain ⟨hgo, hokf, hit2, hbw2, hsz2⟩ := F.out
                exact ⟨pos + k, ((g2.block _ hsz2).trans hit2), (below_on hbw2 g2), hwe, by rw [← hgo, (show okR (pos, r) = true by rw [hokf]; simp), Bool.true_and]⟩
              case measure =>
                obtain ⟨hgo, hokf, hit2, hbw2, hsz2⟩ := F.out
                rw [hposr]; simp only [World.iterPos, ((g2.block _ hsz2).trans hit2)]; omega
            | false =>
              go_wp2_with fail
              refine (cL.out _ (F.out.2.2.2.1)).mono ?_; rintro e g2w ⟨rfl, g2⟩
              go_wp2
              go_ret
              obtain ⟨hgo, hokf, hit2, hbw2, hsz2⟩ := F.out
              exact ⟨ret_b (by rw [← hgo, (show okR (pos, r) = false by rw [hokf, show (r == 95) = false by simpa using hu, show (decide (48 ≤ r) && decide (r ≤ 57)) = false by simp; omega]; simp)]; simp), below_on hL0.out (below_on hbw2 g2)⟩
          · cases b with
            | true =>
              go_wp2_with fail
              refine (cL.out _ (F.out.2.2.2.1)).mono ?_; rintro e g2w ⟨rfl, g2⟩
              go_wp2
              go_roundw
              case rel =>
                obtain ⟨hgo, hokf, hit2, hbw2, hsz2⟩ := F.out
                exact ⟨pos + k, ((g2.block _ hsz2).trans hit2), (below_on hbw2 g2), hwe, by rw [← hgo, (show okR (pos, r) = true by rw [hokf]; simp), Bool.true_and]⟩
              case measure =>
                obtain ⟨hgo, hokf, hit2, hbw2, hsz2⟩ := F.out
                rw [hposr]; simp only [World.iterPos, ((g2.block _ hsz2).trans hit2)]; omega
            | false =>
              go_wp2_with fail
              refine (cL.out _ (F.out.2.2.2.1)).mono ?_; rintro e g2w ⟨rfl, g2⟩
              go_wp2
              go_ret
              obtain ⟨hgo, hokf, hit2, hbw2, hsz2⟩ := F.out
              exact ⟨ret_b (by rw [← hgo, (show okR (pos, r) = false by rw [hokf, show (r == 95) = false by simpa using hu, show (decide (48 ≤ r) && decide (r ≤ 57)) = false by simp; omega]; simp)]; simp), below_on hL0.out (below_on hbw2 g2)⟩
    · have hnx : ∀ ty, (Instr.next (.pointer (some ⟨lw.heap.size, 0, none⟩)) true ty).run Tryd.prog wr = _ := fun ty => Lib.run_next_end_at wr lw.heap.size s pos ty hit hp
      rw [rsAt_end s pos hp] at hgo
      go_wp2
      go_ret
      exact ⟨ret_b (by rw [← hgo]; rfl), below_on l hbw⟩
end Go.Proofs.YtacffjkhbajgkaaDoor
