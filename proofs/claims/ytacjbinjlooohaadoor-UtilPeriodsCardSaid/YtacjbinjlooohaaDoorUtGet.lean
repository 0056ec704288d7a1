/- The program's Text. -/
import Derived.Test.YtacjbinjlooohaaDoorUtPow
namespace Go.Proofs.YtacjbinjlooohaaDoor
open Go.RowKit Go.PlainAid
open Go.Lib hiding intOf
set_option linter.unusedVariables false
set_option linter.unusedSimpArgs false

theorem ndiv (n c q : Nat) (h : n / c = q) : (n : Int).tdiv (c : Int) = (q : Int) ∧ (n : Int) / (c : Int) = (q : Int) := by
  subst h
  have e : (n : Int) / (c : Int) = ((n / c : Nat) : Int) := (Int.natCast_ediv n c).symm
  exact ⟨by rw [Int.tdiv_eq_ediv_of_nonneg (Int.natCast_nonneg _), e], e⟩
theorem nmod (n c q : Nat) (h : n % c = q) : (n : Int).tmod (c : Int) = (q : Int) ∧ (n : Int) % (c : Int) = (q : Int) := by
  subst h
  have e : (n : Int) % (c : Int) = ((n % c : Nat) : Int) := (Int.natCast_emod n c).symm
  exact ⟨by rw [Int.tmod_eq_emod_of_nonneg (Int.natCast_nonneg _), e], e⟩
theorem wrapN {k : Nat} (h : k < 9223372036854775808) : wrap64 (k : Int) = (k : Int) := by unfold wrap64; omega
theorem thou_lt {r k : Nat} (h : r < 1048576) (hk : r * 1000 = k) : k < 1048576000 := by omega
theorem thou_wrap {r k : Nat} (h : r < 1048576) (hk : r * 1000 = k) : wrap64 ((r : Int) * 1000) = (k : Int) := by unfold wrap64; omega
set_option maxHeartbeats 3200000 in
set_option maxRecDepth 1000000 in
theorem utext_nn (n : Nat) (w : World) (hn : n < 9223372036854775808) (hP : Pow w) : Calls Tryd.prog 12 #[.int .i64 (n : Int)] w (RetB (.string (bs (textL n))) w) := by
  obtain ⟨r, hr⟩ : ∃ r, n % 1048576 = r := ⟨_, rfl⟩
  obtain ⟨q, hq⟩ : ∃ q, n / 1048576 = q := ⟨_, rfl⟩
  obtain ⟨k, hk⟩ : ∃ k, r * 1000 = k := ⟨_, rfl⟩
  obtain ⟨m, hm⟩ : ∃ m, k / 1048576 = m := ⟨_, rfl⟩
  have hr1 : r < 1048576 := hr ▸ Nat.mod_lt _ (by decide)
  have hk1 : k < 1048576000 := thou_lt hr1 hk
  have hm1 : m < 1000 := hm ▸ (Nat.div_lt_iff_lt_mul (by decide)).2 hk1
  have hq1 : q < 9223372036854775808 := hq ▸ Nat.lt_of_le_of_lt (Nat.div_le_self _ _) hn
  have d0 : ((n : Int) == -9223372036854775808) = false := beq_eq_false_iff_ne.2 (by clear hr hq hk hm; omega)
  have d1 : decide ((n : Int) < 0) = false := decide_eq_false (by clear hr hq hk hm; omega)
  obtain ⟨f1, f2⟩ : (n : Int).tmod 1048576 = (r : Int) ∧ (n : Int) % 1048576 = (r : Int) := nmod n 1048576 r hr
  have f3 : wrap64 ((r : Int) * 1000) = (k : Nat) := thou_wrap hr1 hk
  obtain ⟨f4, f5⟩ : (k : Int).tdiv 1048576 = (m : Int) ∧ (k : Int) / 1048576 = (m : Int) := ndiv k 1048576 m hm
  obtain ⟨f6, f7⟩ : (n : Int).tdiv 1048576 = (q : Int) ∧ (n : Int) / 1048576 = (q : Int) := ndiv n 1048576 q hq
  have g1 : wrap64 (r : Int) = (r : Nat) := wrapN (Nat.lt_trans hr1 (by decide))
  have g2 : wrap64 (m : Int) = (m : Nat) := wrapN (Nat.lt_trans hm1 (by decide))
  have g3 : wrap64 (q : Int) = (q : Nat) := wrapN hq1
  have ht : textL n = dg q ++ 46 :: dg3 m := by unfold textL; rw [hr, hq, hk, hm]
  have hl := dg_len19 (n := q) hq1
  have C1 : Hid (∀ w', Below w.heap.size w w' → Calls Tryd.prog 20 #[.int .i64 (q : Int), .int .i64 10] w' (RetB (.string (bs (dg q))) w')) := fun w' hb => format10 q w' hq1 (hP.below hb)
  have C2 : Hid (∀ w', Below w.heap.size w w' → Calls Tryd.prog 21 #[.int .i64 (m : Int)] w' (RetB (.string (bs (dg3 m))) w')) := fun w' hb => three_any m w' hm1 (hP.below hb)
  have hl3 : (dg3 m).length = 3 := rfl
  rw [ht]
  clear hn hr hq hk hm ht hm1 hr1 hk1 hq1 hP
  generalize dg3 m = P at *
  generalize dg q = D at *
  have ha1 : bs D ++ (⟨#[46]⟩ : ByteArray) = bs (D ++ [46]) := bs_add D [46]
  have ha2 : bs (D ++ [46]) ++ bs P = bs (D ++ 46 :: P) := by rw [bs_add]; simp
  have z1 := bs_size D
  have z0 : (bs P).size = 3 := by rw [bs_size, hl3]
  have z2 : (⟨#[46]⟩ : ByteArray).size = 1 := rfl
  have z3 : (bs (D ++ [46])).size = D.length + 1 := by rw [bs_size]; simp
  have z4 : D.length + 1 ≤ 100 := by omega
  have z5 : D.length + 1 + 3 ≤ 100 := by omega
  clear hl3 hl
  go_enter Tryd.func12, Tryd.ntmps12
  go_wp2_with fail
  refine (C1.out _ (by repeat (first | exact Below.refl _ _ | refine Below.setCell ?_ (by first | omega | (simp; done) | (simp; omega)) _ | refine below_dN ?_ _ | refine Below.drew ?_ | refine Below.alloc ?_ (by first | omega | (simp; done) | (simp; omega)) _))).mono ?_; rintro e aw ⟨rfl, a⟩
  have ga : Hid (Below w.heap.size w aw) := by have s0 := a.size; (try simp only [World.heap_drewN, World.size_alloc] at s0); repeat (first | exact Below.refl _ _ | exact a | refine Below.trans ?_ (Below.mono a (by first | omega | (simp; done) | (simp; omega))) | refine Below.setCell ?_ (by first | omega | (simp; done) | (simp; omega)) _ | refine below_dN ?_ _ | refine Below.drew ?_ | refine Below.alloc ?_ (by first | omega | (simp; done) | (simp; omega)) _)
  clear C1 a
  go_wp2_with fail
  refine (C2.out _ (by have s0 := ga.out.size; (try simp only [World.heap_drewN, World.size_alloc] at s0); repeat (first | exact Below.refl _ _ | exact ga.out | refine Below.trans ?_ (Below.mono ga.out (by first | omega | (simp; done) | (simp; omega))) | refine Below.setCell ?_ (by first | omega | (simp; done) | (simp; omega)) _ | refine below_dN ?_ _ | refine Below.drew ?_ | refine Below.alloc ?_ (by first | omega | (simp; done) | (simp; omega)) _))).mono ?_; rintro e cw ⟨rfl, c⟩
  have gc : Hid (Below w.heap.size w cw) := by have s0 := ga.out.size; (try simp only [World.heap_drewN, World.size_alloc] at s0); have s1 := c.size; (try simp only [World.heap_drewN, World.size_alloc] at s1); repeat (first | exact Below.refl _ _ | exact ga.out | exact c | refine Below.trans ?_ (Below.mono ga.out (by first | omega | (simp; done) | (simp; omega))) | refine Below.trans ?_ (Below.mono c (by first | omega | (simp; done) | (simp; omega))) | refine Below.setCell ?_ (by first | omega | (simp; done) | (simp; omega)) _ | refine below_dN ?_ _ | refine Below.drew ?_ | refine Below.alloc ?_ (by first | omega | (simp; done) | (simp; omega)) _)
  clear C2 c ga
  go_wp2
  go_ret
  exact ⟨rfl, by have s0 := gc.out.size; (try simp only [World.heap_drewN, World.size_alloc] at s0); repeat (first | exact Below.refl _ _ | exact gc.out | refine Below.trans ?_ (Below.mono gc.out (by first | omega | (simp; done) | (simp; omega))) | refine Below.setCell ?_ (by first | omega | (simp; done) | (simp; omega)) _ | refine below_dN ?_ _ | refine Below.drew ?_ | refine Below.alloc ?_ (by first | omega | (simp; done) | (simp; omega)) _)⟩
set_option maxHeartbeats 3200000 in
set_option maxRecDepth 1000000 in
theorem utext_any (n : Int) (w : World) (hn : fitB n = true) (hP : Pow w) : Calls Tryd.prog 12 #[.int .i64 n] w (RetB (.string (bs (textZ n))) w) := by
  obtain ⟨h1, h2⟩ := fitB_iff.1 hn
  unfold textZ
  by_cases h0 : n < 0
  · have d0 : decide (n < 0) = true := decide_eq_true h0
    rw [if_pos h0]
    by_cases hm : n = -9223372036854775808
    · rw [if_pos hm]
      have d1 : (n == -9223372036854775808) = true := beq_iff_eq.2 hm
      clear hm h0 hn h1 h2
      go_enter Tryd.func12, Tryd.ntmps12
      go_wp2
      go_ret
      exact ⟨rfl, by repeat (first | exact Below.refl _ _ | refine Below.setCell ?_ (by first | omega | (simp; done) | (simp; omega)) _ | refine below_dN ?_ _ | refine Below.drew ?_ | refine Below.alloc ?_ (by first | omega | (simp; done) | (simp; omega)) _)⟩
    · rw [if_neg hm]
      have d1 : (n == -9223372036854775808) = false := beq_eq_false_iff_ne.2 hm
      have C : Hid (∀ w', Below w.heap.size w w' → Calls Tryd.prog 12 #[.int .i64 (-n)] w' (RetB (.string (bs (textL (-n).toNat))) w')) := fun w' hb => by
        have := utext_nn (-n).toNat w' (by omega) (hP.below hb)
        rw [show (((-n).toNat : Nat) : Int) = -n by omega] at this
        exact this
      have hl := textL_len18 (n := (-n).toNat) (by omega)
      have e1 : wrap64 (-n) = -n := by unfold wrap64; omega
      generalize textL (-n).toNat = T at *
      have hadd : (⟨#[45]⟩ : ByteArray) ++ bs T = bs (45 :: T) := bs_add [45] T
      have hz1 := bs_size T
      have hz2 : (⟨#[45]⟩ : ByteArray).size = 1 := rfl
      have hz3 : 1 + T.length ≤ 100 := by omega
      clear hm h0 hn h1 h2 hl hP
      go_enter Tryd.func12, Tryd.ntmps12
      go_wp2_with fail
      refine (C.out _ (by repeat (first | exact Below.refl _ _ | refine Below.setCell ?_ (by first | omega | (simp; done) | (simp; omega)) _ | refine below_dN ?_ _ | refine Below.drew ?_ | refine Below.alloc ?_ (by first | omega | (simp; done) | (simp; omega)) _))).mono ?_; rintro e hw ⟨rfl, h⟩
      clear C
      go_wp2
      go_ret
      exact ⟨rfl, by have s0 := h.size; (try simp only [World.heap_drewN, World.size_alloc] at s0); repeat (first | exact Below.refl _ _ | exact h | refine Below.trans ?_ (Below.mono h (by first | omega | (simp; done) | (simp; omega))) | refine Below.setCell ?_ (by first | omega | (simp; done) | (simp; omega)) _ | refine below_dN ?_ _ | refine Below.drew ?_ | refine Below.alloc ?_ (by first | omega | (simp; done) | (simp; omega)) _)⟩
  · rw [if_neg h0]
    have C := utext_nn n.toNat w (by omega) hP
    rw [show ((n.toNat : Nat) : Int) = n by omega] at C
    exact C
end Go.Proofs.YtacjbinjlooohaaDoor
