/- ArenaApart: what is put in one place changes no other. -/
import Derived.Test.YtenokhdfbomkkaaArAwake
import Derived.Test.YtenokhdfbomkkaaArReads
namespace Go.Proofs.Ytenokhdfbomkkaa
open Go.RowKit
set_option linter.unusedVariables false
set_option linter.unusedSimpArgs false

def apS (ls : List ByteArray) (i : Nat) : List (ByteArray × Int × Bool) := (ls.take i).map fun s => (s, (1 : Int), true)
def apH (i : Nat) : List (Nat × Int) := (List.range i).map fun k => (k, 1)
theorem apS_len (ls : List ByteArray) (i : Nat) (h : i ≤ ls.length) : (apS ls i).length = i := by simp [apS]; omega
theorem apS_get (ls : List ByteArray) (i k : Nat) (h : k < i) (hi : i ≤ ls.length) : (apS ls i)[k]? = some (ls.getD k ⟨#[]⟩, 1, true) := by
  have hk : k < ls.length := by omega
  simp [apS, List.getElem?_take, h, List.getD_eq_getElem?_getD, List.getElem?_eq_getElem hk]
theorem apS_succ (ls : List ByteArray) (i : Nat) (h : i < ls.length) : apS ls i ++ [(ls.getD i ⟨#[]⟩, 1, true)] = apS ls (i + 1) := by
  unfold apS
  rw [List.take_add_one, List.getD_eq_getElem?_getD, List.getElem?_eq_getElem h, List.map_append]
  rfl
theorem apH_get (i k : Nat) (h : k < i) : (apH i)[k]? = some (k, 1) := by simp [apH, h]
theorem apH_succ (i : Nat) : hCells (apH i) ++ [.int .i64 (i : Int), .int .i64 1] = hCells (apH (i + 1)) := by
  rw [show apH (i + 1) = apH i ++ [(i, 1)] by simp [apH, List.range_succ], hCells_append, hCells_one]

set_option maxHeartbeats 6400000 in
set_option maxRecDepth 100000 in
theorem ArenaApart_ret (A : Option Addr) (c : Nat) (ls : List ByteArray) (at_ : Int) (v : ByteArray) (w : World) (hlc : ls.length ≤ c) (hc : c ≤ 9223372036854775807) (hrd : RdS w A ls) (h2 : fitB at_ = true) :
    Calls Try.prog 7 #[.slice A ls.length c, .int .i64 at_, .string v] w (RetB (.bool true) w) := by
  obtain ⟨j0, hj0, hz0, hz1, hz2⟩ := info_parts Try.infoHandle
  have A0 := Lib.hid awake_any
  have hat := fit_iff h2
  clear h2
  replace hrd := Lib.hid hrd
  obtain ⟨n, hn⟩ : ∃ n : Nat, ls.length = n := ⟨_, rfl⟩
  rw [hn] at hlc ⊢
  replace hn := Lib.hid hn
  go_enter Try.func7, Try.ntmps7
  go_wp2_with fail
  refine (A0.out _).mono ?_; rintro e b0w ⟨rfl, b0⟩
  by_cases k1 : (n : Int) < 1
  · go_wp2
    go_ret
    exact ⟨rfl, by have s0 := b0.size; (try simp only [World.heap_drewN, World.size_alloc] at s0); repeat (first | exact Below.refl _ _ | exact b0 | refine Below.trans ?_ (Below.mono b0 (by first | omega | (simp; done) | (simp; omega))) | refine Below.setCell ?_ (by first | omega | (simp; done) | (simp; omega)) _ | refine below_dN ?_ _ | refine Below.drew ?_ | refine Below.alloc ?_ (by first | omega | (simp; done) | (simp; omega)) _)⟩
  have k1' : decide ((n : Int) < 1) = false := decide_eq_false k1
  by_cases k2 : (n : Int) > 30
  · go_wp2
    go_ret
    exact ⟨rfl, by have s0 := b0.size; (try simp only [World.heap_drewN, World.size_alloc] at s0); repeat (first | exact Below.refl _ _ | exact b0 | refine Below.trans ?_ (Below.mono b0 (by first | omega | (simp; done) | (simp; omega))) | refine Below.setCell ?_ (by first | omega | (simp; done) | (simp; omega)) _ | refine below_dN ?_ _ | refine Below.drew ?_ | refine Below.alloc ?_ (by first | omega | (simp; done) | (simp; omega)) _)⟩
  have k2' : decide ((n : Int) > 30) = false := decide_eq_false k2
  by_cases k3 : at_ < 0
  · go_wp2
    go_ret
    exact ⟨rfl, by have s0 := b0.size; (try simp only [World.heap_drewN, World.size_alloc] at s0); repeat (first | exact Below.refl _ _ | exact b0 | refine Below.trans ?_ (Below.mono b0 (by first | omega | (simp; done) | (simp; omega))) | refine Below.setCell ?_ (by first | omega | (simp; done) | (simp; omega)) _ | refine below_dN ?_ _ | refine Below.drew ?_ | refine Below.alloc ?_ (by first | omega | (simp; done) | (simp; omega)) _)⟩
  have k3' : decide (at_ < 0) = false := decide_eq_false k3
  obtain ⟨b, off, rfl, _⟩ := hrd.out 0 (by have := hn.out; omega)
  go_wp2_with fail
  refine (new_s (fun _ => 0) 1 _ 100 (by decide) (by decide)).mono ?_
  rintro e w1 ⟨rfl, o1, vs1, vf1, s1, h1⟩
  have l1 := ((Lw.start w).on b0).step s1 (by decide)
  clear b0 s1
  generalize b0w.heap.size = a at *
  go_wp2
  go_loopw [9, 10] (fun v st wr => ∃ (i : Nat) (o : Nat → Nat) (vs vf : Value), st = .int .i64 (i : Int) ∧ i ≤ n ∧ ArS o 1 wr a 100 vs vf (apS ls i) [] ∧ Row o 3 wr 28 2 v i (hCells (apH i)) ∧ Lw w o wr) (fun _ st _ => n - (intOf st).toNat)
  case atStart => exact ⟨0, o1, vs1, vf1, rfl, by omega, h1, Row.nil _ _ _ _ _, l1⟩
  case round =>
    obtain ⟨i, o, vs, vf, rfl, hi, h, r, l⟩ := hrel
    clear h1 l1
    rcases Nat.lt_or_ge i n with hlt | hge
    · have hln := apS_len ls i (by have := hn.out; omega)
      have C := put_new_s (ls.getD i ⟨#[]⟩) h (by rw [hln]; omega) (by omega)
      rw [hln, apS_succ ls i (by have := hn.out; omega)] at C
      obtain ⟨b', off', hA, hcell⟩ := (hrd.out.below l.below) i (by have := hn.out; omega)
      cases hA
      generalize ls.getD i ⟨#[]⟩ = x at *
      replace C := Lib.hid C
      replace h := Lib.hid h
      replace r := Lib.hid r
      replace l := Lib.hid l
      clear hln
      go_wp2_with fail
      refine C.out.mono ?_
      rintro e w2 ⟨rfl, o2, vs2, vf2, s2, h2⟩
      have h3 := (h2.alloc (.cells #[.int .i64 (i : Int), .int .i64 1] 28) 2).alloc (.cells #[.int .i64 (i : Int), .int .i64 1] 28) 2
      have r3 := ((r.out.step s2 (by decide)).alloc (.cells #[.int .i64 (i : Int), .int .i64 1] 28) 2).alloc (.cells #[.int .i64 (i : Int), .int .i64 1] 28) 2
      have l3 := ((l.out.step s2 (by decide)).alloc (.cells #[.int .i64 (i : Int), .int .i64 1] 28) 2).alloc (.cells #[.int .i64 (i : Int), .int .i64 1] 28) 2
      have F := Lib.hid (And.intro h3 (And.intro r3 l3))
      clear C h r l h2 s2 h3 r3 l3
      go_wp2_with (at_builtin; refine wpList_append_own_at _ rfl (.tmp 50) (.tmp 52) 36 rfl 0 28 j0 (.agg #[.int .i64 0, .int .i64 0]) 2 16 Try.underlying36 hj0 hz0 hz1 hz2 rfl (by decide) _ _ _ rfl (F.out.2.1.own) ⟨w2.heap.size + 1, 0, none⟩ 1 1 [.int .i64 (i : Int), .int .i64 1] rfl rfl (by have := news_two (w2.alloc (.cells #[.int .i64 (i : Int), .int .i64 1] 28)) (.int .i64 (i : Int)) (.int .i64 1) 28; simpa using this) (two_ints _ _) (by unfold maxLen; omega) (by omega) (Nat.zero_le _) ?_)
      intro v' w4 hown' hgrow' _ hloc
      obtain ⟨h3, r3, l3⟩ := F.out
      have st := (Step.refl _ 3 _).grown hgrow' (fun k hk => .inr (r3.mine k hk)) 3
      have h4 := h3.step st (by decide)
      have r4 := r3.appended hown' (by simpa using hloc)
      rw [apH_succ] at r4
      have l4 := l3.step st (by decide)
      generalize (tag (tag (tag o2 w2.heap.size 2) (w2.alloc (.cells #[.int .i64 (i : Int), .int .i64 1] 28)).heap.size 2) ((w2.alloc (.cells #[.int .i64 (i : Int), .int .i64 1] 28)).alloc (.cells #[.int .i64 (i : Int), .int .i64 1] 28)).heap.size 3) = o4 at *
      have G := Lib.hid (And.intro h4 (And.intro r4 l4))
      clear F h3 r3 l3 st h4 r4 l4 hown' hgrow' hloc hcell
      go_wp2
      go_roundw
      case rel => exact ⟨i + 1, o4, _, _, by simp, by omega, G.out.1, G.out.2.1, G.out.2.2⟩
      case measure => simp [intOf]; omega
    · obtain rfl : n = i := by omega
      obtain ⟨k, hk, hkn⟩ : ∃ k : Nat, at_.tmod (n : Int) = (k : Int) ∧ k < n := by
        have e1 := Int.tmod_nonneg (n : Int) k3
        have e2 := Int.tmod_lt_of_pos at_ (b := (n : Int)) (by omega)
        exact ⟨(at_.tmod n).toNat, by omega, by omega⟩
      have hn0 : ¬ (n : Int) = 0 := by omega
      have hn0' : ((n : Int) == 0) = false := by simp; omega
      obtain ⟨g, cap, rfl, hc1, hc2, hog, hgl⟩ := r.form (by omega)
      unfold maxLen at hc2
      have q := hCells_get (apH n) k _ (apH_get n k hkn)
      have d0 : wr.cell? ⟨g, k * 2, none⟩ = some (.int .i64 (k : Int)) := by rw [r.cellAt _ (by omega)]; exact q.1
      have d1 : wr.cell? ⟨g, k * 2 + 1, none⟩ = some (.int .i64 1) := by rw [r.cellAt _ (by omega)]; exact q.2
      have hln := apS_len ls n (by rw [hn.out]; omega)
      have C := Lib.hid (set_yes_s v h (apS_get ls n k hkn (by rw [hn.out]; omega)) (by omega) (by rw [hln]; omega))
      replace h := Lib.hid h
      replace r := Lib.hid r
      replace l := Lib.hid l
      replace hln := Lib.hid hln
      clear q
      go_wp2_with fail
      refine C.out.mono ?_
      rintro e w2 ⟨rfl, o2, vs2, vf2, s2, h2⟩
      have r2 := Lib.hid (r.out.step s2 (by decide))
      have l2 := Lib.hid (l.out.step s2 (by decide))
      replace h2 := Lib.hid h2
      clear C h r l s2 d0 d1
      go_wp2
      go_loopw [14] (fun st wr => ∃ (i : Nat), st = .int .i64 (i : Int) ∧ i ≤ n ∧ Below w2.heap.size w2 wr) (fun st _ => n - (intOf st).toNat)
      case atStart => exact ⟨0, rfl, by omega, Below.refl _ _⟩
      case round =>
        obtain ⟨i, rfl, hi2, hb⟩ := hrel
        have l5 := l2.out.on hb
        rcases Nat.lt_or_ge i n with hlt | hge
        · have h5 := h2.out.below hb
          have r5 := r2.out.below hb
          have q := hCells_get (apH n) i _ (apH_get n i hlt)
          have d0 : wr.cell? ⟨g, i * 2, none⟩ = some (.int .i64 (i : Int)) := by rw [r5.cellAt _ (by omega)]; exact q.1
          have d1 : wr.cell? ⟨g, i * 2 + 1, none⟩ = some (.int .i64 1) := by rw [r5.cellAt _ (by omega)]; exact q.2
          obtain ⟨b', off', hA, hcell⟩ := (hrd.out.below l5.below) i (by have := hn.out; omega)
          cases hA
          have hlen : ((apS ls n).set k (v, 1, true)).length ≤ 100 := by rw [List.length_set, hln.out]; omega
          have hkl : k < (apS ls n).length := by rw [hln.out]; exact hkn
          have hget : ((apS ls n).set k (v, 1, true))[i]? = some (if i = k then v else ls.getD i ⟨#[]⟩, 1, true) := by
            by_cases e : i = k
            · subst e; rw [List.getElem?_set_self hkl, if_pos rfl]
            · rw [List.getElem?_set_ne (fun h => e h.symm), if_neg e, apS_get ls n i hlt (by rw [hn.out]; omega)]
          have C := Lib.hid (get_yes_s h5 hget (by decide) hlen)
          have B := Lib.hid hb
          by_cases e : i = k
          · subst e
            rw [if_pos rfl] at C
            generalize ls.getD i ⟨#[]⟩ = x at *
            clear hget hlen hkl h5 r5 q hb l5
            go_wp2_with fail
            refine C.out.mono ?_
            rintro e w6 ⟨rfl, b6⟩
            have z := Lib.hid (below_on B.out b6)
            clear C B b6 d0 d1 hcell
            go_wp2
            go_roundw
            case rel => exact ⟨i + 1, by simp, by omega, z.out⟩
            case measure => simp [intOf]; omega
          · rw [if_neg e] at C
            have e1 : ((i : Int) != (k : Int)) = true := by simp; omega
            have e2 : ((i : Int) == (k : Int)) = false := by simp; omega
            generalize ls.getD i ⟨#[]⟩ = x at *
            clear hget hlen hkl h5 r5 q l5 e
            clear hb
            go_wp2_with fail
            refine C.out.mono ?_
            rintro e w6 ⟨rfl, b6⟩
            have hcell6 : w6.cell? ⟨b, off + i, none⟩ = some (.string x) := (b6.cell (World.block_lt_of_cell? _ _ hcell)).trans hcell
            have z := Lib.hid (below_on B.out b6)
            clear C B b6 d0 d1 hcell
            go_wp2
            go_roundw
            case rel => exact ⟨i + 1, by simp, by omega, z.out⟩
            case measure => simp [intOf]; omega
        · obtain rfl : n = i := by omega
          have L := Lib.hid l5.below
          clear l5 hb
          go_wp2
          go_ret
          exact ⟨rfl, L.out⟩
end Go.Proofs.Ytenokhdfbomkkaa
