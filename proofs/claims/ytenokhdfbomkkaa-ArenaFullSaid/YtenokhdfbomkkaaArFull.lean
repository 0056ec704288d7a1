/- ArenaFull: so many go in as there is room; behind a free one more. -/
import Derived.Test.YtenokhdfbomkkaaArAwake
import Derived.Test.YtenokhdfbomkkaaArI5
namespace Go.Proofs.Ytenokhdfbomkkaa
open Go.RowKit
set_option linter.unusedVariables false
set_option linter.unusedSimpArgs false

/-- The slots behind i Puts of 0, 1, .. -/
def fullS (i : Nat) : List (Int × Int × Bool) := (List.range i).map fun (k : Nat) => ((k : Int), (1 : Int), true)
def fullH (i : Nat) : List (Nat × Int) := (List.range i).map fun k => (k, 1)
theorem fullS_len (i : Nat) : (fullS i).length = i := by simp [fullS]
theorem fullS_get (i k : Nat) (h : k < i) : (fullS i)[k]? = some ((k : Int), 1, true) := by simp [fullS, h]
theorem fullS_succ (i : Nat) : fullS i ++ [((i : Int), 1, true)] = fullS (i + 1) := by simp [fullS, List.range_succ]
theorem fullH_len (i : Nat) : (fullH i).length = i := by simp [fullH]
theorem fullH_get (i k : Nat) (h : k < i) : (fullH i)[k]? = some (k, 1) := by simp [fullH, h]
theorem fullH_succ (i : Nat) : hCells (fullH i) ++ [.int .i64 (i : Int), .int .i64 1] = hCells (fullH (i + 1)) := by
  rw [show fullH (i + 1) = fullH i ++ [(i, 1)] by simp [fullH, List.range_succ], hCells_append, hCells_one]

set_option maxHeartbeats 6400000 in
set_option maxRecDepth 100000 in
theorem ArenaFull_ret (room at_ : Int) (w : World) (h1 : fitB room = true) (h2 : fitB at_ = true) : Calls Try.prog 6 #[.int .i64 room, .int .i64 at_] w (RetB (.bool true) w) := by
  obtain ⟨j0, hj0, hz0, hz1, hz2⟩ := info_parts Try.infoHandle
  have A := Lib.hid awake_any
  have hat := fit_iff h2
  clear h1 h2
  go_enter Try.func6, Try.ntmps6
  go_wp2_with fail
  refine (A.out _).mono ?_; rintro e b0w ⟨rfl, b0⟩
  by_cases k1 : room < 1
  · go_wp2
    go_ret
    exact ⟨rfl, by have s0 := b0.size; (try simp only [World.heap_drewN, World.size_alloc] at s0); repeat (first | exact Below.refl _ _ | exact b0 | refine Below.trans ?_ (Below.mono b0 (by first | omega | (simp; done) | (simp; omega))) | refine Below.setCell ?_ (by first | omega | (simp; done) | (simp; omega)) _ | refine below_dN ?_ _ | refine Below.drew ?_ | refine Below.alloc ?_ (by first | omega | (simp; done) | (simp; omega)) _)⟩
  have k1' : decide (room < 1) = false := decide_eq_false k1
  by_cases k2 : room > 300
  · go_wp2
    go_ret
    exact ⟨rfl, by have s0 := b0.size; (try simp only [World.heap_drewN, World.size_alloc] at s0); repeat (first | exact Below.refl _ _ | exact b0 | refine Below.trans ?_ (Below.mono b0 (by first | omega | (simp; done) | (simp; omega))) | refine Below.setCell ?_ (by first | omega | (simp; done) | (simp; omega)) _ | refine below_dN ?_ _ | refine Below.drew ?_ | refine Below.alloc ?_ (by first | omega | (simp; done) | (simp; omega)) _)⟩
  have k2' : decide (room > 300) = false := decide_eq_false k2
  by_cases k3 : at_ < 0
  · go_wp2
    go_ret
    exact ⟨rfl, by have s0 := b0.size; (try simp only [World.heap_drewN, World.size_alloc] at s0); repeat (first | exact Below.refl _ _ | exact b0 | refine Below.trans ?_ (Below.mono b0 (by first | omega | (simp; done) | (simp; omega))) | refine Below.setCell ?_ (by first | omega | (simp; done) | (simp; omega)) _ | refine below_dN ?_ _ | refine Below.drew ?_ | refine Below.alloc ?_ (by first | omega | (simp; done) | (simp; omega)) _)⟩
  have k3' : decide (at_ < 0) = false := decide_eq_false k3
  obtain ⟨n, rfl⟩ : ∃ n : Nat, room = n := ⟨room.toNat, by omega⟩
  go_wp2_with fail
  refine (new_i (fun _ => 0) 1 _ n (by omega) (by omega)).mono ?_
  rintro e w1 ⟨rfl, o1, vs1, vf1, s1, h1⟩
  have l1 := ((Lw.start w).on b0).step s1 (by decide)
  clear b0 s1
  generalize b0w.heap.size = a at *
  go_wp2
  go_loopw [7, 8] (fun v st wr => ∃ (i : Nat) (o : Nat → Nat) (vs vf : Value), st = .int .i64 (i : Int) ∧ i ≤ n ∧ ArI o 1 wr a n vs vf (fullS i) [] ∧ Row o 3 wr 28 2 v i (hCells (fullH i)) ∧ Lw w o wr) (fun _ st _ => n - (intOf st).toNat)
  case atStart => exact ⟨0, o1, vs1, vf1, rfl, by omega, h1, Row.nil _ _ _ _ _, l1⟩
  case round =>
    obtain ⟨i, o, vs, vf, rfl, hi, h, r, l⟩ := hrel
    clear h1 l1
    rcases Nat.lt_or_ge i n with hlt | hge
    · have C := put_new_i (i : Int) h (by rw [fullS_len]; exact hlt) (by omega)
      rw [fullS_len, fullS_succ] at C
      replace C := Lib.hid C
      replace h := Lib.hid h
      replace r := Lib.hid r
      replace l := Lib.hid l
      go_wp2_with fail
      refine C.out.mono ?_
      rintro e w2 ⟨rfl, o2, vs2, vf2, s2, h2⟩
      have h3 := (h2.alloc (.cells #[.int .i64 (i : Int), .int .i64 1] 28) 2).alloc (.cells #[.int .i64 (i : Int), .int .i64 1] 28) 2
      have r3 := ((r.out.step s2 (by decide)).alloc (.cells #[.int .i64 (i : Int), .int .i64 1] 28) 2).alloc (.cells #[.int .i64 (i : Int), .int .i64 1] 28) 2
      have l3 := ((l.out.step s2 (by decide)).alloc (.cells #[.int .i64 (i : Int), .int .i64 1] 28) 2).alloc (.cells #[.int .i64 (i : Int), .int .i64 1] 28) 2
      have F := Lib.hid (And.intro h3 (And.intro r3 l3))
      clear C h r l h2 s2 h3 r3 l3
      go_wp2_with (at_builtin; refine wpList_append_own_at _ rfl (.tmp 55) (.tmp 57) 36 rfl 0 28 j0 (.agg #[.int .i64 0, .int .i64 0]) 2 16 Try.underlying36 hj0 hz0 hz1 hz2 rfl (by decide) _ _ _ rfl (F.out.2.1.own) ⟨w2.heap.size + 1, 0, none⟩ 1 1 [.int .i64 (i : Int), .int .i64 1] rfl rfl (by have := news_two (w2.alloc (.cells #[.int .i64 (i : Int), .int .i64 1] 28)) (.int .i64 (i : Int)) (.int .i64 1) 28; simpa using this) (two_ints _ _) (by unfold maxLen; omega) (by omega) (Nat.zero_le _) ?_)
      intro v' w4 hown' hgrow' _ hloc
      obtain ⟨h3, r3, l3⟩ := F.out
      have st := (Step.refl _ 3 _).grown hgrow' (fun k hk => .inr (r3.mine k hk)) 3
      have h4 := h3.step st (by decide)
      have r4 := r3.appended hown' (by simpa using hloc)
      rw [fullH_succ] at r4
      have l4 := l3.step st (by decide)
      generalize (tag (tag (tag o2 w2.heap.size 2) (w2.alloc (.cells #[.int .i64 (i : Int), .int .i64 1] 28)).heap.size 2) ((w2.alloc (.cells #[.int .i64 (i : Int), .int .i64 1] 28)).alloc (.cells #[.int .i64 (i : Int), .int .i64 1] 28)).heap.size 3) = o4 at *
      have G := Lib.hid (And.intro h4 (And.intro r4 l4))
      clear F h3 r3 l3 st h4 r4 l4 hown' hgrow' hloc
      go_wp2
      go_roundw
      case rel => exact ⟨i + 1, o4, _, _, by simp, by omega, G.out.1, G.out.2.1, G.out.2.2⟩
      case measure => simp [intOf]; omega
    · obtain rfl : n = i := by omega
      have hwf : (n : Int) ≠ 0 := by omega
      obtain ⟨k, hk, hkn⟩ : ∃ k : Nat, at_.tmod (n : Int) = (k : Int) ∧ k < n := by
        have e1 := Int.tmod_nonneg (n : Int) k3
        have e2 := Int.tmod_lt_of_pos at_ (b := (n : Int)) (by omega)
        exact ⟨(at_.tmod n).toNat, by omega, by omega⟩
      have hn0 : ¬ (n : Int) = 0 := by omega
      have hn0' : ((n : Int) == 0) = false := by simp; omega
      obtain ⟨g, cap, rfl, hc1, hc2, hog, hgl⟩ := r.form (by omega)
      unfold maxLen at hc2
      have C := Lib.hid (put_full_i 9 h (fullS_len n) (by omega))
      replace h := Lib.hid h
      replace r := Lib.hid r
      replace l := Lib.hid l
      go_wp2_with fail
      refine C.out.mono ?_
      rintro e w2 ⟨rfl, b2⟩
      have h2 := (h.out.below b2).alloc (.cells #[.int .i64 0, .int .i64 0] 28) 2
      have r2 := (r.out.below b2).alloc (.cells #[.int .i64 0, .int .i64 0] 28) 2
      have l2 := (l.out.on b2).alloc (.cells #[.int .i64 0, .int .i64 0] 28) 2
      have q := hCells_get (fullH n) k _ (fullH_get n k hkn)
      have d0 : (w2.alloc (.cells #[.int .i64 0, .int .i64 0] 28)).cell? ⟨g, k * 2, none⟩ = some (.int .i64 (k : Int)) := by rw [r2.cellAt _ (by omega)]; exact q.1
      have d1 : (w2.alloc (.cells #[.int .i64 0, .int .i64 0] 28)).cell? ⟨g, k * 2 + 1, none⟩ = some (.int .i64 1) := by rw [r2.cellAt _ (by omega)]; exact q.2
      have C2 := Lib.hid (free_yes_i h2 (fullS_get n k hkn) (by omega) (by rw [fullS_len]; omega) (by simp))
      have F := Lib.hid l2
      clear C h r l b2 h2 r2 l2 q
      go_wp2_with fail
      refine C2.out.mono ?_
      rintro e w3 ⟨rfl, o3, vs3, vf3, s3, h3⟩
      have C3 := Lib.hid (put_pop_i (s := (0, 1, false)) (p := k) (fr := []) 7 h3 (by rw [List.getElem?_set_self (by rw [fullS_len]; exact hkn)]) (by simp) (by simp) (by rw [List.length_set, fullS_len]; omega) (by simp))
      have l3 := F.out.step s3 (by decide)
      clear F C2 s3 h3
      replace l3 := Lib.hid l3
      go_wp2_with fail
      refine C3.out.mono ?_
      rintro e w4 ⟨rfl, o4, vs4, vf4, s4, h4⟩
      rw [List.set_set] at h4
      have h5 := h4.alloc (.cells #[.int .i64 (k : Int), .int .i64 2] 28) 2
      have l5 := (l3.out.step s4 (by decide)).alloc (.cells #[.int .i64 (k : Int), .int .i64 2] 28) 2
      have C4 := Lib.hid (get_yes_i (i := k) (sv := 7) (gen := 2) h5 (by rw [List.getElem?_set_self (by rw [fullS_len]; exact hkn)]; rfl) (by omega) (by rw [List.length_set, fullS_len]; omega))
      have F := Lib.hid (And.intro h5 l5)
      clear C3 h4 s4 l3 h5 l5
      go_wp2_with fail
      refine C4.out.mono ?_
      rintro e w5 ⟨rfl, b5⟩
      have x0 : w5.cell? ⟨w4.heap.size, 0, none⟩ = some (.int .i64 (k : Int)) := by rw [b5.cell (p := ⟨w4.heap.size, 0, none⟩) (by simp)]; simp
      have x1 : w5.cell? ⟨w4.heap.size, 1, none⟩ = some (.int .i64 2) := by rw [b5.cell (p := ⟨w4.heap.size, 1, none⟩) (by simp)]; simp
      have C5 := Lib.hid (len_i n (F.out.1.below b5) (by rw [List.length_set, fullS_len]; simp) (by rw [List.length_set, fullS_len]; omega))
      have L := Lib.hid (F.out.2.on b5)
      clear C4 F b5
      go_wp2_with fail
      refine C5.out.mono ?_
      rintro e w' ⟨rfl, nl, rfl⟩
      go_wp2
      go_ret
      exact ⟨rfl, (L.out.drewN nl).below⟩
end Go.Proofs.Ytenokhdfbomkkaa
