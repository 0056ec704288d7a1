/- The contracts of package name: words; and the document's own words. -/
import Derived.Test.YtkblddnnegkbfaaDoorName1
import Derived.PlainAid
namespace Go.Proofs.YtkblddnnegkbfaaDoor
open Go.RowKit Go.Lib Go.PlainAid
set_option linter.unusedVariables false
set_option linter.unusedSimpArgs false

/-- The cells at A hold the texts ss (nothing is said of A where ss is empty). -/
def ReadsS (w : World) (A : Option Addr) (ss : List ByteArray) : Prop :=
  ∀ k, k < ss.length → ∃ b off, A = some ⟨b, off, none⟩ ∧ w.cell? ⟨b, off + k, none⟩ = some (.string (ss.getD k ⟨#[]⟩))
theorem ReadsS.drewN {w : World} {A : Option Addr} {ss : List ByteArray} (h : ReadsS w A ss) (n : Nat) : ReadsS (w.drewN n) A ss := h
theorem ReadsS.below {w w' : World} {A : Option Addr} {ss : List ByteArray} (h : ReadsS w A ss) (hb : Below w.heap.size w w') : ReadsS w' A ss := by
  intro k hk
  obtain ⟨b, off, rfl, hc⟩ := h k hk
  exact ⟨b, off, rfl, (hb.cell (World.block_lt_of_cell? w _ hc)).trans hc⟩
/-- It returns a slice of these texts, and nothing that was there has changed. -/
def RetS (ss : List ByteArray) (w : World) (e : Ending) (w' : World) : Prop := ∃ A c, e = .returned (.slice A ss.length c) ∧ ReadsS w' A ss ∧ Below w.heap.size w w'

theorem own_iter {w : World} {base size n k pos : Nat} {e : TypeId} {v : Value} {xs : List Value} {s : ByteArray} (h : w.ownsRow base e size v n xs) (hk : k < base) : (w.iterAt k s pos).ownsRow base e size v n xs := by
  refine ⟨h.1, h.2.imp id ?_⟩
  rintro ⟨g, cap, cur, rfl, hb, hh, r⟩
  exact ⟨g, cap, cur, rfl, hb, (Lib.iterAt_other w k g s pos (by omega)).trans hh, r⟩
theorem own_reads {w : World} {base n : Nat} {e : TypeId} {v : Value} {ls : List (List UInt8)} (h : w.ownsRow base e 1 v n (ls.map fun l => Value.string (bs l))) :
    ∃ A c, v = .slice A (ls.map bs).length c ∧ ReadsS w A (ls.map bs) := by
  have hn : n = ls.length := by have := h.1; simp at this; omega
  subst hn
  rcases h.2 with ⟨rfl, h0⟩ | ⟨g, cap, cur, rfl, _⟩
  · refine ⟨none, 0, by simp [h0], fun k hk => ?_⟩
    simp at hk; omega
  · refine ⟨some ⟨g, 0, none⟩, cap, by simp, fun k hk => ⟨g, 0, rfl, ?_⟩⟩
    simp at hk
    rw [Nat.zero_add, h.cellAt k (by omega)]
    simp [hk, List.getD_eq_getElem?_getD]
theorem Tryd.info9 : (Tryd.prog.info? 9).map (fun i => (i.zero, i.size, i.bytes)) = some (some (.string ⟨#[]⟩), 1, 16) := by kernel_rfl

theorem news_one (w : World) (x : Value) (e : TypeId) : ∀ j u, ([x] : List Value)[j]? = some u → (w.alloc (.cells #[x] e)).cell? ((⟨w.heap.size, 0, none⟩ : Addr).add j) = some u := by
  intro j u hj
  match j, hj with
  | 0, hj => simp at hj; subst hj; simp [Addr.add]
theorem one_str (y : ByteArray) : ∀ u ∈ [Value.string y], u.oneCell' = true := by intro u hu; simp at hu; subst hu; rfl
theorem str_nil : (⟨#[]⟩ : ByteArray) = bs [] := rfl

/-- What an append leaves: a word more, the iterator, and all that was there. -/
theorem pushed {w wr w3 : World} {v v' : Value} {o : Obj} {acc : List (List UInt8)} {x : List UInt8} {s : ByteArray} {pos : Nat} {e : TypeId}
    (hown : wr.ownsRow (w.heap.size + 1) e 1 v acc.length (acc.map fun l => Value.string (bs l))) (hit : wr.heap[w.heap.size]? = some (.stringIter s pos)) (hbw : Below w.heap.size w wr)
    (hown' : w3.ownsRow (w.heap.size + 1) e 1 v' (acc.length + 1) ((acc.map fun l => Value.string (bs l)) ++ [.string (bs x)])) (hgrow : (wr.alloc o).grownBy w3 v.ownBlock) :
    w3.ownsRow (w.heap.size + 1) e 1 v' (acc ++ [x]).length ((acc ++ [x]).map fun l => Value.string (bs l)) ∧ w3.heap[w.heap.size]? = some (.stringIter s pos) ∧ Below w.heap.size w w3 := by
  have hlt : w.heap.size < wr.heap.size := (Array.getElem?_eq_some_iff.1 hit).1
  refine ⟨by simpa using hown', ?_, ?_⟩
  · rw [hgrow.block w.heap.size (by simp; omega) (fun h => by have := hown.lt _ h.symm; omega)]
    rw [Below.heap_alloc _ _ _ (by omega)]
    exact hit
  · exact (hbw.alloc (by omega) _).grown hgrow (by simp; omega) (fun j hj => by have := hown.lt _ hj; omega)
set_option maxHeartbeats 1600000 in
set_option maxRecDepth 1000000 in
theorem words_any (s : ByteArray) (w : World) (hs : s.size ≤ 1000000) : Calls Tryd.prog 14 #[.string s] w (RetS (wordsB s) w) := by
  obtain ⟨i0, hi, hz0, hz1, hz2⟩ := info_parts Tryd.info9
  unfold wordsB
  obtain ⟨W, hW⟩ : ∃ W, wordsL s.data.toList = W := ⟨_, rfl⟩
  rw [hW]
  replace hs : (s.size : Int) ≤ 1000000 := by omega
  have hW0 : [] ++ wgo (sub s 0 0) (s.data.toList.drop 0) = W := by rw [← hW, sub_self]; rfl
  clear hW
  go_enter Tryd.func14, Tryd.ntmps14
  go_wp2
  go_loopw [3, 4] (fun v st wr => ∃ (pos a : Nat) (acc : List (List UInt8)), st = .int .i64 (a : Nat) ∧ wr.ownsRow (w.heap.size + 1) 9 1 v acc.length (acc.map fun l => Value.string (bs l)) ∧ wr.heap[w.heap.size]? = some (.stringIter s pos) ∧ Below w.heap.size w wr ∧ a ≤ pos ∧ pos ≤ s.size ∧ acc.length ≤ a ∧ acc ++ wgo (sub s a pos) (s.data.toList.drop pos) = W) (fun _ _ wr => s.size - wr.iterPos w.heap.size)
  case atStart => exact ⟨0, 0, [], rfl, World.ownsRow_nil _ _ _ _, World.iter_heap w s 0, below_iter w s 0, by omega, by omega, by simp, hW0⟩
  case round =>
    obtain ⟨pos, a, acc, rfl, hown, hit, hbw, hap, hps, hal, hgo⟩ := hrel
    have hszr : w.heap.size < wr.heap.size := (Array.getElem?_eq_some_iff.1 hit).1
    clear hW0
    by_cases hp : pos < s.size
    · have hnx : ∀ ty, (Instr.next (.pointer (some ⟨w.heap.size, 0, none⟩)) true ty).run Tryd.prog wr = _ := fun ty => Lib.run_next_any_at wr w.heap.size s pos ty hit hp
      have hwd := dec_pos s pos
      have hwe := dec_end s pos hp
      have hnx2 : ∀ ty, (Instr.next (.pointer (some ⟨w.heap.size, 0, none⟩)) true ty).run Tryd.prog wr = .ok (.tuple #[.bool true, .int .i64 (pos : Nat), .int .i32 ((Utf8.decode s pos).1 : Nat)]) (wr.iterAt w.heap.size s (pos + (Utf8.decode s pos).2)) := hnx
      clear hnx
      have hit2 := Lib.iterAt_heap wr w.heap.size s pos (pos + (Utf8.decode s pos).2) hit
      have hbw2 := Lib.below_iterAt hbw (k := w.heap.size) (Nat.le_refl _) s (pos + (Utf8.decode s pos).2)
      have hown2 := own_iter (k := w.heap.size) (s := s) (pos := pos + (Utf8.decode s pos).2) hown (by omega)
      have hposr : wr.iterPos w.heap.size = pos := by simp only [World.iterPos, hit]
      have hlow : (s.get! pos).toNat < 128 → (Utf8.decode s pos).1 = (s.get! pos).toNat ∧ (Utf8.decode s pos).2 = 1 := fun h => by rw [dec_low s pos h]; exact ⟨rfl, rfl⟩
      have hhigh : 128 ≤ (s.get! pos).toNat → 128 ≤ (Utf8.decode s pos).1 ∧ ∀ j, j < (Utf8.decode s pos).2 → blank (s.get! (pos + j)) = false := fun h => ⟨dec_high s pos h, fun j hj => blank_high _ (dec_run s pos hp j hj h).2⟩
      clear hit hbw hown
      generalize (Utf8.decode s pos).1 = r at *
      generalize (Utf8.decode s pos).2 = k at *
      generalize wr.iterAt w.heap.size s (pos + k) = w2 at *
      have hsz2 : w.heap.size < w2.heap.size := (Array.getElem?_eq_some_iff.1 hit2).1
      have hrb : (r = 32 ∨ r = 9) ↔ blank (s.get! pos) = true := by
        rcases Nat.lt_or_ge (s.get! pos).toNat 128 with h | h
        · rw [(hlow h).1]; simp [blank]
        · have := (hhigh h).1; rw [blank_high _ h]; simp; omega
      have hk1 : blank (s.get! pos) = true → k = 1 := fun h => by
        rcases Nat.lt_or_ge (s.get! pos).toNat 128 with h1 | h1
        · exact (hlow h1).2
        · rw [blank_high _ h1] at h; cases h
      have hrun : blank (s.get! pos) = false → wgo (sub s a pos) (s.data.toList.drop pos) = wgo (sub s a (pos + k)) (s.data.toList.drop (pos + k)) := fun h => by
        refine wgo_run s a pos hap k hwe ?_
        rcases Nat.lt_or_ge (s.get! pos).toNat 128 with h1 | h1
        · rw [(hlow h1).2]; intro j hj; obtain rfl : j = 0 := by omega
          exact h
        · exact (hhigh h1).2
      clear hlow hhigh
      have hown := Lib.hid hown2
      have hit := Lib.hid hit2
      have hbw := Lib.hid hbw2
      have F := Lib.hid (And.intro hgo (And.intro hk1 hrun))
      clear hown2 hit2 hbw2 hgo hk1 hrun
      by_cases hb : blank (s.get! pos) = true
      · have hr := hrb.2 hb
        have hgo2 : (sub s a pos ≠ [] → acc ++ [sub s a pos] ++ wgo (sub s (pos + 1) (pos + 1)) (s.data.toList.drop (pos + 1)) = W) ∧ (sub s a pos = [] → acc ++ wgo (sub s (pos + 1) (pos + 1)) (s.data.toList.drop (pos + 1)) = W) := by
          have := F.out.1
          rw [wgo_blank _ s pos hp hb] at this
          rw [sub_self]
          refine ⟨fun h => by rw [if_neg h] at this; rw [← this]; simp, fun h => by rw [if_pos h] at this; rw [← this]; simp⟩
        obtain rfl : k = 1 := F.out.2.1 hb
        have hlen := sub_len s a pos hps
        have hex := ext_sub s a pos
        generalize sub s a pos = x at *
        replace hgo2 := Lib.hid hgo2
        clear hrb hb
        rcases Nat.lt_or_ge a pos with hlt | hge
        · rcases hr with hr | hr
          all_goals
            subst hr
            go_wp2_with (at_builtin; refine wpList_append_own _ rfl (.tmp 22) (.tmp 27) 29 rfl (w.heap.size + 1) 9 i0 (.string ⟨#[]⟩) 1 16 Tryd.underlying29 hi hz0 hz1 hz2 rfl (by decide) _ _ _ rfl ((hown.out).alloc _) ⟨w2.heap.size, 0, none⟩ 1 1 [.string (bs x)] rfl rfl (news_one _ _ _) (one_str _) (by unfold maxLen; omega) (by omega) (by simp; omega) ?_)
            intro v' w3 hown' hgrow' _
            obtain ⟨hown3, hit3, hbw3⟩ := pushed (hown.out) hit.out hbw.out hown' hgrow'
            clear hown' hgrow'
            go_wp2
            go_roundw
            case rel => exact ⟨pos + 1, pos + 1, acc ++ [x], by simp, hown3, hit3, hbw3, by omega, by omega, by simp; omega, hgo2.out.1 (fun e => by rw [e] at hlen; simp at hlen; omega)⟩
            case measure => rw [hposr]; simp only [World.iterPos, hit3]; omega
        · obtain rfl : x = [] := List.length_eq_zero_iff.1 (by omega)
          rcases hr with hr | hr
          all_goals
            subst hr
            go_wp2
            go_roundw
            case rel => exact ⟨pos + 1, pos + 1, acc, by simp, hown.out, hit.out, hbw.out, by omega, by omega, by omega, hgo2.out.2 rfl⟩
            case measure => rw [hposr]; simp only [World.iterPos, hit.out]; omega
      · have hn : ¬ (r = 32 ∨ r = 9) := fun h => hb (hrb.1 h)
        have h32 : ((r : Int) != 32) = true := by simp; omega
        have h9 : ((r : Int) != 9) = true := by simp; omega
        go_wp2
        go_roundw
        case rel => exact ⟨pos + k, a, acc, rfl, hown.out, hit.out, hbw.out, by omega, hwe, by omega, by rw [← F.out.2.2 (by simpa using hb)]; exact F.out.1⟩
        case measure => rw [hposr]; simp only [World.iterPos, hit.out]; omega
    · have hnx : ∀ ty, (Instr.next (.pointer (some ⟨w.heap.size, 0, none⟩)) true ty).run Tryd.prog wr = _ := fun ty => Lib.run_next_end_at wr w.heap.size s pos ty hit hp
      obtain rfl : pos = s.size := by omega
      have hgo2 : acc ++ (if sub s a s.size = [] then [] else [sub s a s.size]) = W := by
        rw [← hgo, show s.data.toList.drop s.size = [] by rw [List.drop_eq_nil_iff, size_data]; exact Nat.le_refl _, wgo]
      clear hgo
      have hlen := sub_len s a s.size (Nat.le_refl _)
      have hex := ext_sub s a s.size
      generalize sub s a s.size = x at *
      replace hown := Lib.hid hown
      replace hit := Lib.hid hit
      replace hbw := Lib.hid hbw
      rcases Nat.lt_or_ge a s.size with hlt | hge
      · rw [if_neg (fun e => by rw [e] at hlen; simp at hlen; omega)] at hgo2
        subst hgo2
        go_wp2_with (at_builtin; refine wpList_append_own _ rfl (.tmp 35) (.tmp 39) 29 rfl (w.heap.size + 1) 9 i0 (.string ⟨#[]⟩) 1 16 Tryd.underlying29 hi hz0 hz1 hz2 rfl (by decide) _ _ _ rfl ((hown.out).alloc _) ⟨wr.heap.size, 0, none⟩ 1 1 [.string (bs x)] rfl rfl (news_one _ _ _) (one_str _) (by unfold maxLen; omega) (by omega) (by simp; omega) ?_)
        intro v' w3 hown' hgrow' _
        obtain ⟨hown3, hit3, hbw3⟩ := pushed (hown.out) hit.out hbw.out hown' hgrow'
        clear hown' hgrow'
        obtain ⟨A, c, rfl, hrd⟩ := own_reads hown3
        go_wp2
        go_ret
        exact ⟨A, c, rfl, hrd, hbw3⟩
      · rw [if_pos (List.length_eq_zero_iff.1 (by omega)), List.append_nil] at hgo2
        subst hgo2
        obtain ⟨A, c, rfl, hrd⟩ := own_reads hown.out
        go_wp2
        go_ret
        exact ⟨A, c, rfl, hrd, hbw.out⟩
end Go.Proofs.YtkblddnnegkbfaaDoor
