/- Package firm: New, Add, Worst, Broken, May. -/
import Derived.Test.YtecjblcdiabkcaaFmMay
import Derived.Test.YtecjblcdiabkcaaFmInts
import Derived.Test.YtecjblcdiabkcaaRgOps
namespace Go.Proofs.Ytecjblcdiabkcaa
open Go.RowKit
set_option linter.unusedVariables false
set_option linter.unusedSimpArgs false

/-! What the last one of the missed decides. -/
theorem mc_rep (k i : Nat) (l : List Bool) : mc k (l ++ List.replicate i false).length (l ++ List.replicate i false) = yes (l.reverse.take (k - i)) := by
  rw [mc_all, List.reverse_append, List.reverse_replicate, List.take_append, yes_app, List.take_replicate, List.length_replicate]
  have : yes (List.replicate (min k i) false) = 0 := by simp [yes, List.count_replicate]
  omega
theorem yes_take_le {a b : Nat} (h : a ≤ b) (l : List Bool) : yes (l.take a) ≤ yes (l.take b) := by
  obtain ⟨d, rfl⟩ := Nat.exists_eq_add_of_le h
  rw [List.take_add, yes_app]
  omega
theorem addB_rep (m k i : Nat) (l : List Bool) : addB m k (l ++ List.replicate i false) = decide (l.length + i < k ∨ m ≤ yes (l.reverse.take (k - i))) := by
  unfold addB
  rw [mc_rep, List.length_append, List.length_replicate]
theorem mayB_all {m k : Nat} {l : List Bool} : ∀ {N}, mayB m k l N = true ↔ ∀ i, i < N → addB m k (l ++ List.replicate (i + 1) false) = true
  | 0 => ⟨fun _ i hi => by omega, fun _ => rfl⟩
  | N + 1 => by
    rw [mayB, Bool.and_eq_true, mayB_all (N := N)]
    constructor
    · rintro ⟨h1, h2⟩ i hi
      rcases Nat.lt_or_ge i N with q | q
      · exact h1 i q
      · obtain rfl : i = N := by omega
        exact h2
    · intro h
      exact ⟨fun i hi => h i (by omega), h N (by omega)⟩
theorem mayB_few {m k : Nat} {l : List Bool} {N : Nat} (h : N = 0 ∨ min k l.length + N < k) : mayB m k l N = true := by
  rw [mayB_all]
  intro i hi
  rw [addB_rep]
  exact decide_eq_true (.inl (by omega))
theorem mayB_last {m k : Nat} {l : List Bool} {N : Nat} (h0 : N ≠ 0) (h1 : k ≤ min k l.length + N) : mayB m k l N = decide (m ≤ yes (l.reverse.take (k - N))) := by
  by_cases q : m ≤ yes (l.reverse.take (k - N))
  · rw [decide_eq_true q, mayB_all]
    intro i hi
    rw [addB_rep]
    have := yes_take_le (show k - N ≤ k - (i + 1) by omega) l.reverse
    exact decide_eq_true (.inr (by omega))
  · rw [decide_eq_false q]
    cases hb : mayB m k l N with
    | false => rfl
    | true =>
      have h2 := mayB_all.1 hb (N - 1) (by omega)
      rw [addB_rep, show N - 1 + 1 = N by omega] at h2
      have := of_decide_eq_true h2
      exfalso
      omega
/-- Block a is the program's monitor of m in k that has seen L. -/
def Fw (o : Nat → Nat) (σ : Nat) (w : World) (a m k : Nat) (L : List Bool) : Prop :=
  ∃ g v, Blk o σ w a #[.int .i64 (m : Int), .int .i64 (k : Int), .pointer (some ⟨g, 0, none⟩), .int .i64 (L.length : Int), v, .int .i64 (wst k L L.length : Int)] 44 ∧
    Rg o σ w g k (L.reverse.take k) ∧ Row o σ w 3 1 v (brkI m k L L.length).length (cellsN (brkI m k L L.length)) ∧ a ≠ g
section
variable {o o' : Nat → Nat} {σ τ : Nat} {w w' : World} {a m k : Nat} {L : List Bool}
theorem Fw.step (h : Fw o σ w a m k L) (st : Step o o' τ w w') (hne : σ ≠ τ) : Fw o' σ w' a m k L := by
  obtain ⟨g, v, h1, h2, h3, h4⟩ := h
  exact ⟨g, v, h1.step st hne, h2.step st hne, h3.step st hne, h4⟩
theorem Fw.below (h : Fw o σ w a m k L) (hb : Below w.heap.size w w') : Fw o σ w' a m k L := by
  obtain ⟨g, v, h1, h2, h3, h4⟩ := h
  exact ⟨g, v, h1.below hb, h2.below hb, h3.below hb, h4⟩
theorem Fw.drewN (h : Fw o σ w a m k L) (n : Nat) : Fw o σ (w.drewN n) a m k L := h.below (below_dN (Below.refl _ _) n)
theorem Fw.alloc (h : Fw o σ w a m k L) (x : Obj) (τ' : Nat) : Fw (tag o w.heap.size τ') σ (w.alloc x) a m k L := by
  obtain ⟨g, v, h1, h2, h3, h4⟩ := h
  exact ⟨g, v, h1.alloc x τ', h2.alloc x τ', h3.alloc x τ', h4⟩
/-- How many of its elements the ring holds. -/
theorem last_len (k : Nat) (L : List Bool) : (L.reverse.take k).length = min k L.length := by rw [List.length_take, List.length_reverse]
set_option maxHeartbeats 1600000 in
theorem wfull (g : Nat) (r : Bool) (c1 : w.cell? ⟨a, 1, none⟩ = some (.int .i64 (k : Int))) (c2 : w.cell? ⟨a, 2, none⟩ = some (.pointer (some ⟨g, 0, none⟩))) (hg : Rg o σ w g k (L.reverse.take k)) (hr : wstB k L = r) :
    Calls Try.prog 19 #[.pointer (some ⟨a, 0, none⟩)] w (Ret (.bool r) w) := by
  have C := Lib.hid (fun j => rlen (hg.drewN j))
  rw [last_len] at C
  have e1 : (((min k L.length : Nat) : Int) == (k : Int)) = r := by
    rw [← hr]; unfold wstB
    by_cases q : k ≤ L.length
    · rw [decide_eq_true q]; simp; omega
    · rw [decide_eq_false q]; simp; omega
  obtain ⟨N, hN⟩ : ∃ N : Nat, min k L.length = N := ⟨_, rfl⟩
  rw [hN] at C e1
  clear hg hr hN
  go_enter Try.func19, Try.ntmps19
  go_wp2
  go_quiet (first | (go_at_call 20; refine Calls.quiet_of_same (C.out _)))
  go_wp2
  go_ret
  exact ⟨rfl, _, rfl⟩
set_option maxHeartbeats 1600000 in
theorem wmet (j g q : Nat) (c2 : w.cell? ⟨a, 2, none⟩ = some (.pointer (some ⟨g, 0, none⟩))) (hg : Rg o σ w g k (L.reverse.take k)) (hj : j ≤ k) (hq : yes (L.reverse.take j) = q) :
    Calls Try.prog 21 #[.pointer (some ⟨a, 0, none⟩), .int .i64 (j : Int)] w fun e w' => e = .returned (.int .i64 (q : Int)) ∧ w' = w := by
  have hk := hg.hi
  have C := Lib.hid (rbits hg)
  have e := low_eq j (by omega)
  have hw := hg.word
  obtain ⟨M, hM⟩ : ∃ M, 2 ^ j - 1 = M := ⟨_, rfl⟩
  have hp : 0 < 2 ^ j := Nat.two_pow_pos _
  have hp2 : 2 ^ j ≤ 2 ^ 64 := Nat.pow_le_pow_right (by decide) (by omega)
  have hx : wd (L.reverse.take k) &&& M = wd (L.reverse.take j) := by
    rw [← hM, Nat.and_two_pow_sub_one_eq_mod, ← wd_take, List.take_take, Nat.min_eq_left hj]
  have hlt : wd (L.reverse.take j) < 18446744073709551616 := wd_le (n := 64) (by rw [last_len]; omega)
  have D := ones (wd (L.reverse.take j)) w hlt
  rw [pc_wd 64 _ (by rw [last_len]; omega), hq] at D
  rw [hM] at e
  have e2 : bits .and .u64 ((wd (L.reverse.take k) : Nat) : Int) (M : Int) = ((wd (L.reverse.take j) : Nat) : Int) := by rw [bits_and_u64_nat _ _ hw (by omega), hx]
  generalize wd (L.reverse.take k) = X at *
  generalize wd (L.reverse.take j) = Y at *
  replace D := Lib.hid D
  clear hg hx hM hp hp2 hq hw hlt
  go_enter Try.func21, Try.ntmps21
  go_wp2_with fail
  refine C.out.mono ?_
  rintro x w1 ⟨rfl, hw1⟩
  subst w1
  clear C
  go_wp2_with fail
  refine D.out.mono ?_
  rintro x w1 ⟨rfl, hw1⟩
  subst w1
  clear D
  go_wp2
  go_ret
  exact ⟨rfl, rfl⟩
set_option maxHeartbeats 1600000 in
theorem wnew_bad (w : World) (m k : Int) (h : k < 1 ∨ 64 < k ∨ m < 0 ∨ k < m) : Calls Try.prog 8 #[.int .i64 m, .int .i64 k] w (RetB (.tuple #[.pointer none, .int .i64 1]) w) := by
  by_cases hk : k < 1 ∨ 64 < k
  · have C := Lib.hid (rnew_bad w k hk)
    clear h hk
    go_enter Try.func8, Try.ntmps8
    go_wp2_with fail
    refine C.out.mono ?_
    rintro x w1 ⟨rfl, hw1⟩
    subst w1
    clear C
    go_wp2
    go_ret2
    exact ⟨rfl, by repeat (first | exact Below.refl _ _ | refine Below.setCell ?_ (by first | omega | (simp; done) | (simp; omega)) _ | refine below_dN ?_ _ | refine Below.drew ?_ | refine Below.alloc ?_ (by first | omega | (simp; done) | (simp; omega)) _)⟩
  · obtain ⟨K, rfl⟩ := Int.eq_ofNat_of_zero_le (a := k) (by omega)
    have C := Lib.hid (rnew (fun _ => 0) 1 w K (by omega) (by omega))
    have h1 : m < 0 ∨ m > (K : Int) := by omega
    clear h hk
    go_enter Try.func8, Try.ntmps8
    go_wp2_with fail
    refine C.out.mono ?_
    rintro x w1 ⟨rfl, o1, st, hg⟩
    have B := Lib.hid ((Lw.start w).step st (by decide)).below
    clear C st hg
    by_cases h2 : m < 0
    · clear h1
      go_wp2
      go_ret2
      exact ⟨rfl, B.out⟩
    · have h3 : m > (K : Int) := by omega
      have h2' : decide (m < 0) = false := decide_eq_false h2
      clear h1 h2
      go_wp2
      go_ret2
      exact ⟨rfl, B.out⟩
set_option maxHeartbeats 1600000 in
theorem wnew (o : Nat → Nat) (σ : Nat) (w : World) (m k : Nat) (h0 : 1 ≤ k) (h1 : k ≤ 64) (h2 : m ≤ k) : Calls Try.prog 8 #[.int .i64 (m : Int), .int .i64 (k : Int)] w fun e w' => ∃ a, e = .returned (.tuple #[.pointer (some ⟨a, 0, none⟩), .int .i64 0]) ∧
    ∃ o', Step o o' σ w w' ∧ Fw o' σ w' a m k [] := by
  have C := Lib.hid (rnew o σ w k h0 h1)
  have z1 : decide ((m : Int) < 0) = false := decide_eq_false (by omega)
  have z2 : decide ((m : Int) > (k : Int)) = false := decide_eq_false (by omega)
  go_enter Try.func8, Try.ntmps8
  go_wp2_with fail
  refine C.out.mono ?_
  rintro x w1 ⟨rfl, o1, st, hg⟩
  have hlt := hg.box.lt
  have K := Lib.hid (And.intro st hg)
  clear C st hg
  go_wp2
  go_ret2
  refine ⟨_, rfl, _, K.out.1.alloc σ _, _, .slice none 0 0, Blk.made o1 σ w1 _ _, by rw [show (([] : List Bool).reverse.take k) = [] by simp]; exact K.out.2.alloc _ σ, Row.nil _ _ _ _ _, by omega⟩
set_option maxHeartbeats 1600000 in
theorem wworst (q : Nat) (r : Bool) (h : Fw o σ w a m k L) (hl : L.length ≤ 900) (hq : wstV k L = q) (hr : wstB k L = r) :
    Calls Try.prog 9 #[.pointer (some ⟨a, 0, none⟩)] w (Ret (.tuple #[.int .i64 (q : Int), .bool r]) w) := by
  obtain ⟨g, v, h1, h2, h3, h4⟩ := h
  have C := Lib.hid (wfull g r (by rw [h1.cell]; simp) (by rw [h1.cell]; simp) h2 hr)
  have c5 : ∀ j, (w.drewN j).cell? ⟨a, 5, none⟩ = some (.int .i64 (wst k L L.length : Int)) := fun j => by rw [(h1.drewN j).cell]; simp
  clear h1 h2 h3 h4
  cases r with
  | false =>
    have hs := of_decide_eq_false hr
    obtain rfl : 0 = q := by rw [← hq]; unfold wstV; rw [if_pos (by omega)]
    clear hr hs hq
    go_enter Try.func9, Try.ntmps9
    go_wp2_with fail
    refine C.out.mono ?_
    rintro e w1 ⟨rfl, n, rfl⟩
    clear C c5
    go_wp2
    go_ret2
    exact ⟨rfl, _, rfl⟩
  | true =>
    have hs := of_decide_eq_true hr
    obtain rfl : wst k L L.length = q := by rw [← hq]; unfold wstV; rw [if_neg (by omega)]
    clear hr hs hq
    generalize wst k L L.length = q at *
    go_enter Try.func9, Try.ntmps9
    go_wp2_with fail
    refine C.out.mono ?_
    rintro e w1 ⟨rfl, n, rfl⟩
    replace c5 := c5 n
    clear C
    go_wp2
    go_ret2
    exact ⟨rfl, _, rfl⟩
theorem cellsN_ones (l : List Int) : ∀ u ∈ cellsN l, u.oneCell' = true := by intro u hu; obtain ⟨x, _, rfl⟩ := List.mem_map.1 hu; rfl
set_option maxHeartbeats 1600000 in
theorem cloneI_any (v : Value) (l : List Int) (hr : Row o σ w 3 1 v l.length (cellsN l)) (hl : l.length ≤ 1000) :
    Calls Try.prog 25 #[v] w fun e w' => ∃ v', e = .returned v' ∧ w'.ownsRow w.heap.size 3 1 v' l.length (cellsN l) ∧ Below w.heap.size w w' := by
  obtain ⟨i0, hi0, hz0, hz1, hz2⟩ := info_parts Try.infoIntM
  have q : ∀ (w : World) (a : Option Addr) (n c n' c' : Nat), (binOp .eql 36 (.slice a n c) (.slice none n' c')).run Try.prog w = .ok (.bool a.isNone) w := fun w a n c n' c' => Lib.run_eql_slice_nil w _ _ a n c n' c' Try.underlying36
  have hlen : (cellsN l).length = l.length := by simp [cellsN]
  rcases hr.own.2 with ⟨rfl, h0⟩ | ⟨g, cap, cur, rfl, _, hg, h1, h2, h3, h4⟩
  · have hnil : l = [] := List.eq_nil_of_length_eq_zero h0
    subst hnil
    clear hr
    go_enter Try.func25, Try.ntmps25
    go_wp2
    go_ret
    exact ⟨_, rfl, World.ownsRow_nil _ _ _ _, Below.refl _ _⟩
  · have hc : ∀ (ob : Obj) j u, (cellsN l)[j]? = some u → (w.alloc ob).cell? ((⟨g, 0, none⟩ : Addr).add j) = some u := fun ob j u hj => by
      rw [Addr.add_lit, Nat.zero_add]
      exact Lib.cell?_alloc_some _ (by rw [hr.cellAt j (by have := (List.getElem?_eq_some_iff.1 hj).1; omega)]; exact hj)
    have F := Lib.hid hc
    clear hc hr hg h3 h4
    go_enter Try.func25, Try.ntmps25
    go_wp2_with (at_builtin; refine wpList_append_own _ rfl _ _ 36 rfl w.heap.size 3 i0 (.int .i64 0) 1 8 Try.underlying36 hi0 hz0 hz1 hz2 rfl (by decide) _ _ _ rfl (World.ownsRow_made w #[] 0 (Nat.le_refl _) (Nat.zero_le _) (by simp)) ⟨g, 0, none⟩ l.length cap (cellsN l) rfl (by rw [hlen]; omega) (F.out _) (cellsN_ones l) (by unfold maxLen; omega) (by omega) (by simp) ?_)
    intro v' w1 hown hgrow hnil
    have hb : Below w.heap.size w w1 := ((Below.refl _ w).alloc (Nat.le_refl _) _).grown hgrow (by simp) (by intro k hk; simp [Value.ownBlock] at hk; omega)
    have G := Lib.hid (And.intro hown hb)
    clear hown hgrow hnil hb
    go_wp2
    go_ret
    refine ⟨v', rfl, by simpa using G.out.1, G.out.2⟩
set_option maxHeartbeats 800000 in
theorem wbroken (h : Fw o σ w a m k L) (hl : L.length ≤ 900) :
    Calls Try.prog 16 #[.pointer (some ⟨a, 0, none⟩)] w fun e w' => ∃ v', e = .returned v' ∧ w'.ownsRow w.heap.size 3 1 v' (brkI m k L L.length).length (cellsN (brkI m k L L.length)) ∧ Below w.heap.size w w' := by
  obtain ⟨g, v, h1, h2, h3, h4⟩ := h
  have C := Lib.hid (cloneI_any v _ h3 (by have := brkI_len m k L L.length; omega))
  have c1 : w.cell? ⟨a, 4, none⟩ = some v := by rw [h1.cell]; simp
  obtain ⟨A, cap, rfl⟩ := h3.any
  generalize brkI m k L L.length = l at *
  clear h1 h2 h3 h4
  go_enter Try.func16, Try.ntmps16
  go_wp2_with fail
  refine C.out.mono ?_
  rintro e w1 ⟨v', rfl, hown, hb⟩
  obtain ⟨A', c', rfl⟩ := own_any hown
  have G := Lib.hid (And.intro hown hb)
  clear hown hb C
  go_wp2
  go_ret
  exact ⟨_, rfl, G.out.1, G.out.2⟩
set_option maxHeartbeats 3200000 in
theorem wmay (n : Int) (r : Bool) (h : Fw o σ w a m k L) (hl : L.length ≤ 700) (hr : mayB m k L (mayN n) = r) :
    Calls Try.prog 10 #[.pointer (some ⟨a, 0, none⟩), .int .i64 n] w (RetB (.bool r) w) := by
  obtain ⟨g, v, h1, h2, h3, h4⟩ := h
  have c0 : ∀ j, (w.drewN j).cell? ⟨a, 0, none⟩ = some (.int .i64 (m : Int)) := fun j => by rw [(h1.drewN j).cell]; simp
  have c1 : ∀ j, (w.drewN j).cell? ⟨a, 1, none⟩ = some (.int .i64 (k : Int)) := fun j => by rw [(h1.drewN j).cell]; simp
  have c2 : ∀ j, (w.drewN j).cell? ⟨a, 2, none⟩ = some (.pointer (some ⟨g, 0, none⟩)) := fun j => by rw [(h1.drewN j).cell]; simp
  have c22 : ∀ i j, ((w.drewN i).drewN j).cell? ⟨a, 2, none⟩ = some (.pointer (some ⟨g, 0, none⟩)) := fun i j => by rw [((h1.drewN i).drewN j).cell]; simp
  have b0 : w.cell? ⟨a, 0, none⟩ = some (.int .i64 (m : Int)) := c0 0
  have b1 : w.cell? ⟨a, 1, none⟩ = some (.int .i64 (k : Int)) := c1 0
  have b2 : w.cell? ⟨a, 2, none⟩ = some (.pointer (some ⟨g, 0, none⟩)) := c2 0
  have hk1 := h2.lo
  have hk := h2.hi
  by_cases hn : n ≤ 0
  · have z0 : decide (n > 100) = false := decide_eq_false (by omega)
    have z1 : decide ((100 : Int) < n) = false := decide_eq_false (by omega)
    obtain rfl : true = r := by rw [← hr]; exact (mayB_few (.inl (by unfold mayN; omega))).symm
    clear hr h1 h2 h3 h4 hl hk1 hk c0 c1 c2
    go_enter Try.func10, Try.ntmps10
    go_wp2
    all_goals try (exfalso; omega)
    go_quiet (fail)
    go_wp2
    go_ret
    exact ⟨rfl, below_dN (Below.refl _ _) _⟩
  have CL := fun j => rlen (h2.drewN j)
  rw [last_len] at CL
  obtain ⟨N, hN⟩ : ∃ N : Nat, min k L.length = N := ⟨_, rfl⟩
  rw [hN] at CL
  have hNk : N ≤ k := by omega
  replace CL := Lib.hid CL
  by_cases hb : n > 100
  · rw [show mayN n = 100 by unfold mayN; omega] at hr
    have z1 : decide (100 ≤ 0) = false := decide_eq_false (by omega)
    have e2 : IntKind.i64.wrap ((N : Int) + 100) = (N : Int) + 100 := by rw [IntKind.wrap_i64]; omega
    by_cases hs : N + 100 < k
    · exfalso; omega
    · have z2 : decide ((N : Int) + 100 < (k : Int)) = false := decide_eq_false (by omega)
      obtain ⟨q, hq⟩ : ∃ q, yes (L.reverse.take (k - 100)) = q := ⟨_, rfl⟩
      have hr2 : decide (m ≤ q) = r := by rw [← hr, ← hq]; exact (mayB_last (by omega) (by omega)).symm
      obtain ⟨J, hJ⟩ : ∃ J : Nat, k - 100 = J := ⟨_, rfl⟩
      have CM : Hid (∀ i j (x : Int), x = (J : Int) → Calls Try.prog 21 #[.pointer (some ⟨a, 0, none⟩), .int .i64 x] ((w.drewN i).drewN j) fun e w' => e = .returned (.int .i64 (q : Int)) ∧ w' = (w.drewN i).drewN j) := Lib.hid (fun i j x hx => by rw [hx]; exact wmet J g q (c22 i j) ((h2.drewN i).drewN j) (by omega) (by rw [← hJ]; exact hq))
      have e3 : IntKind.i64.wrap ((k : Int) - 100) = (k : Int) - 100 := by rw [IntKind.wrap_i64]; omega
      have e4 : (if (k : Int) - 100 < 0 then 0 else (k : Int) - 100) = (J : Int) := by split <;> omega
      have z3 : decide ((q : Int) ≥ (m : Int)) = r := by rw [← hr2]; exact decide_eq_decide.2 (by omega)
      have z4 : decide (m ≤ q) = r := hr2
      clear hr hr2 h1 h2 h3 h4 hl hk1 hN hn hs hq e4
      go_enter Try.func10, Try.ntmps10
      go_wp2
      all_goals try (exfalso; omega)
      go_quiet (first | (go_at_call 20; refine Calls.quiet_of_same (CL.out _)))
      obtain ⟨m1, hm1⟩ : ∃ u, u = nq := ⟨nq, rfl⟩
      subst hm1
      have d0 := c0 m1
      have d1 := c1 m1
      have CW := Lib.hid (CM.out m1)
      have hb1 : Below w.heap.size w (w.drewN m1) := below_dN (Below.refl _ _) _
      generalize w.drewN m1 = w1 at *
      clear CM CL c0 c1 c2 c22 b0 b1 b2
      go_wp2
      all_goals try (exfalso; omega)
      go_quiet (first | (go_at_call 21; refine Calls.quiet_of_same (CW.out _ _ (by omega))))
      all_goals try go_wp2
      all_goals go_ret
      all_goals exact ⟨rfl, below_dN hb1 _⟩
  · obtain ⟨M, rfl⟩ := Int.eq_ofNat_of_zero_le (a := n) (by omega)
    rw [show mayN (M : Int) = M by unfold mayN; omega] at hr
    have z1 : decide ((M : Int) ≤ 0) = false := decide_eq_false (by omega)
    have z0 : decide (M = 0) = false := decide_eq_false (by omega)
    have e2 : IntKind.i64.wrap ((N : Int) + (M : Int)) = (N : Int) + (M : Int) := by rw [IntKind.wrap_i64]; omega
    by_cases hs : N + M < k
    · have z2 : (N : Int) + (M : Int) < (k : Int) := by omega
      obtain rfl : true = r := by rw [← hr]; exact (mayB_few (.inr (by omega))).symm
      clear hr h1 h2 h3 h4 hl hk1 hN hn hs
      go_enter Try.func10, Try.ntmps10
      go_wp2
      all_goals try (exfalso; omega)
      go_quiet (first | (go_at_call 20; refine Calls.quiet_of_same (CL.out _)))
      go_wp2
      go_ret
      exact ⟨rfl, below_dN (Below.refl _ _) _⟩
    · have z2 : decide ((N : Int) + (M : Int) < (k : Int)) = false := decide_eq_false (by omega)
      obtain ⟨q, hq⟩ : ∃ q, yes (L.reverse.take (k - M)) = q := ⟨_, rfl⟩
      have hr2 : decide (m ≤ q) = r := by rw [← hr, ← hq]; exact (mayB_last (by omega) (by omega)).symm
      obtain ⟨J, hJ⟩ : ∃ J : Nat, k - M = J := ⟨_, rfl⟩
      have CM : Hid (∀ i j (x : Int), x = (J : Int) → Calls Try.prog 21 #[.pointer (some ⟨a, 0, none⟩), .int .i64 x] ((w.drewN i).drewN j) fun e w' => e = .returned (.int .i64 (q : Int)) ∧ w' = (w.drewN i).drewN j) := Lib.hid (fun i j x hx => by rw [hx]; exact wmet J g q (c22 i j) ((h2.drewN i).drewN j) (by omega) (by rw [← hJ]; exact hq))
      have e3 : IntKind.i64.wrap ((k : Int) - (M : Int)) = (k : Int) - (M : Int) := by rw [IntKind.wrap_i64]; omega
      have e4 : (if (k : Int) - (M : Int) < 0 then 0 else (k : Int) - (M : Int)) = (J : Int) := by split <;> omega
      have z3 : decide ((q : Int) ≥ (m : Int)) = r := by rw [← hr2]; exact decide_eq_decide.2 (by omega)
      have z4 : decide (m ≤ q) = r := hr2
      clear hr hr2 h1 h2 h3 h4 hl hk1 hN hn hs hq e4
      go_enter Try.func10, Try.ntmps10
      go_wp2
      all_goals try (exfalso; omega)
      go_quiet (first | (go_at_call 20; refine Calls.quiet_of_same (CL.out _)))
      obtain ⟨m1, hm1⟩ : ∃ u, u = nq := ⟨nq, rfl⟩
      subst hm1
      have d0 := c0 m1
      have d1 := c1 m1
      have CW := Lib.hid (CM.out m1)
      have hb1 : Below w.heap.size w (w.drewN m1) := below_dN (Below.refl _ _) _
      generalize w.drewN m1 = w1 at *
      clear CM CL c0 c1 c2 c22 b0 b1 b2
      go_wp2
      all_goals try (exfalso; omega)
      go_quiet (first | (go_at_call 21; refine Calls.quiet_of_same (CW.out _ _ (by omega))))
      all_goals try go_wp2
      all_goals go_ret
      all_goals exact ⟨rfl, below_dN hb1 _⟩
/-- The monitor's parts, the struct's cells as they come. -/
def Fx (o : Nat → Nat) (σ : Nat) (w : World) (a g : Nat) (v : Value) (cs : Array Value) (k : Nat) (R : List Bool) (B : List Int) : Prop :=
  Blk o σ w a cs 44 ∧ Rg o σ w g k R ∧ Row o σ w 3 1 v B.length (cellsN B) ∧ a ≠ g
section
variable {g : Nat} {v : Value} {cs : Array Value} {R : List Bool} {B : List Int}
theorem Fx.set (h : Fx o σ w a g v cs k R B) (i : Nat) (u : Value) : Fx o σ (w.setCell ⟨a, i, none⟩ u) a g v (cs.setIfInBounds i u) k R B :=
  ⟨h.1.set i u, ⟨h.2.1.box.other (p := ⟨a, i, none⟩) (Ne.symm h.2.2.2) u, h.2.1.le, h.2.1.lo, h.2.1.hi⟩, h.2.2.1.other (p := ⟨a, i, none⟩) (h.2.2.1.ne_blk h.1.at_ (by decide)) u, h.2.2.2⟩
theorem Fx.drewN (h : Fx o σ w a g v cs k R B) (n : Nat) : Fx o σ (w.drewN n) a g v cs k R B := ⟨h.1.drewN n, h.2.1.drewN n, ⟨h.2.2.1.own, h.2.2.1.mine⟩, h.2.2.2⟩
theorem Fx.alloc (h : Fx o σ w a g v cs k R B) (x : Obj) (τ' : Nat) : Fx (tag o w.heap.size τ') σ (w.alloc x) a g v cs k R B := ⟨h.1.alloc x τ', h.2.1.alloc x τ', h.2.2.1.alloc x τ', h.2.2.2⟩
theorem Fx.app {v' : Value} {x : Int} (h : Fx o σ w a g v cs k R B) (hg : w.grownBy w' v.ownBlock) (hown : w'.ownsRow 0 3 1 v' (B.length + 1) (cellsN B ++ cellsN [x])) (hloc : v'.ownBlock = v.ownBlock ∨ v'.ownBlock = some w.heap.size) :
    Step o (tag o w.heap.size σ) σ w w' ∧ Fx (tag o w.heap.size σ) σ w' a g v' cs k R (B ++ [x]) := by
  refine ⟨(Step.refl o σ w).grown hg (fun k hk => .inr (h.2.2.1.mine k hk)) σ, h.1.grown hg (h.2.2.1.ne_blk h.1.at_ (by decide)) σ, ⟨h.2.1.box.grown hg (h.2.2.1.ne_blk h.2.1.box.at_ (by decide)) σ, h.2.1.le, h.2.1.lo, h.2.1.hi⟩, ?_, h.2.2.2⟩
  have := h.2.2.1.appended hown hloc
  rw [cellsN_appM, List.length_append]
  exact this
theorem xradd (x : Bool) (R' : List Bool) (h : Fx o σ w a g v cs k R B) (hR : radd k R x = R') :
    Calls Try.prog 22 #[.pointer (some ⟨g, 0, none⟩), .bool x] w fun e w' => e = .returned (.tuple #[]) ∧ Step o o σ w w' ∧ Fx o σ w' a g v cs k R' B := by
  obtain ⟨h1, h2, h3, h4⟩ := h
  have hg : Rg (fun b => if b = g then 1 else 0) 1 w g k R := ⟨⟨h2.box.at_, if_pos rfl⟩, h2.le, h2.lo, h2.hi⟩
  refine (radd_any x R' hg hR).mono ?_
  rintro e w1 ⟨rfl, st, hg1⟩
  have ot : ∀ i, i < w.heap.size → i ≠ g → w1.heap[i]? = w.heap[i]? := fun i hi hne => st.block i hi (by rw [if_neg hne]; decide)
  refine ⟨rfl, ⟨st.os, st.tape, st.output, st.size, fun _ _ => rfl, fun i hi hne => ot i hi (fun e => hne (e ▸ h2.box.mine))⟩, ⟨by rw [ot a h1.lt h4]; exact h1.at_, h1.mine⟩, ⟨⟨hg1.box.at_, h2.box.mine⟩, hg1.le, hg1.lo, hg1.hi⟩, ⟨own_same h3.own fun i hi => ot i (h3.lt hi) (fun e => h3.ne_blk h2.box.at_ (by decide) (e ▸ hi)), h3.mine⟩, h4⟩
theorem Fx.cell (h : Fx o σ w a g v cs k R B) (i : Nat) : w.cell? ⟨a, i, none⟩ = cs[i]? := h.1.cell i
theorem Fx.frozen (h : Fx o σ w a g v cs k R B) (i : Nat) : w.frozen? ⟨a, i, none⟩ = false := h.1.frozen i
theorem Fx.fw {L' : List Bool} {N s : Nat} (h : Fx o σ w a g v #[.int .i64 (m : Int), .int .i64 (k : Int), .pointer (some ⟨g, 0, none⟩), .int .i64 ((N : Int) + 1), v, .int .i64 (s : Int)] k (L'.reverse.take k) B)
    (h1 : L'.length = N + 1) (h2 : wst k L' L'.length = s) (h3 : brkI m k L' L'.length = B) : Fw o σ w a m k L' := by
  have h4 : (N : Int) + 1 = ((L'.length : Nat) : Int) := by omega
  rw [h4] at h
  subst h2 h3
  exact ⟨g, v, h.1, h.2.1, h.2.2.1, h.2.2.2⟩
set_option maxHeartbeats 3200000 in
theorem wadd (x r : Bool) (L' : List Bool) (h : Fw o σ w a m k L) (hl : L.length ≤ 900) (hL : L ++ [x] = L') (hr : addB m k L' = r) :
    Calls Try.prog 11 #[.pointer (some ⟨a, 0, none⟩), .bool x] w fun e w' => e = .returned (.bool r) ∧ ∃ o', Step o o' σ w w' ∧ Fw o' σ w' a m k L' := by
  obtain ⟨i0, hi0, hz0, hz1, hz2⟩ := info_parts Try.infoIntM
  obtain ⟨g, v, hF⟩ := h
  have hk1 := hF.2.1.lo
  have hk := hF.2.1.hi
  have hF : Fx o σ w a g v #[.int .i64 (m : Int), .int .i64 (k : Int), .pointer (some ⟨g, 0, none⟩), .int .i64 (L.length : Int), v, .int .i64 (wst k L L.length : Int)] k (L.reverse.take k) (brkI m k L L.length) := hF
  have hN : L'.length = L.length + 1 := by rw [← hL, List.length_append]; rfl
  have hws := wst_add k L x
  have hbr : brkI m k L' L'.length = brkI m k L L.length ++ if addB m k L' = false then [(L.length : Int)] else [] := by
    rw [← hL]
    unfold brkI
    rw [brk_add, List.map_append]
    split <;> rfl
  rw [hL] at hws
  have C1 := Lib.hid (xradd x (L'.reverse.take k) hF (by rw [← hL]; exact radd_rev k L x))
  have b2 : w.cell? ⟨a, 2, none⟩ = some (.pointer (some ⟨g, 0, none⟩)) := by rw [hF.cell]; simp
  have b3 : w.cell? ⟨a, 3, none⟩ = some (.int .i64 (L.length : Int)) := by rw [hF.cell]; simp
  have hwl := wst_le k L L.length
  have hbl := brkI_len m k L L.length
  generalize brkI m k L L.length = B at *
  generalize wst k L L.length = s at *
  generalize L.length = N at *
  have e1 : IntKind.i64.wrap ((N : Int) + 1) = ((N : Int) + 1) := by rw [IntKind.wrap_i64]; omega
  obtain ⟨A, cap, rfl⟩ := hF.2.2.1.any
  replace hbr := Lib.hid hbr
  replace hws := Lib.hid hws
  clear hF hL
  go_enter Try.func11, Try.ntmps11
  go_wp2_with fail
  refine C1.out.mono ?_
  rintro e w1 ⟨rfl, st1, x1⟩
  clear C1 b2 b3
  have b3 : w1.cell? ⟨a, 3, none⟩ = some (.int .i64 (N : Int)) := by rw [x1.cell]; simp
  have f3 : w1.frozen? ⟨a, 3, none⟩ = false := x1.frozen 3
  have st2 := st1.setCell (p := ⟨a, 3, none⟩) (.inr x1.1.mine) (.int .i64 ((N : Int) + 1))
  have x2 := x1.set 3 (.int .i64 ((N : Int) + 1))
  simp at x2
  obtain ⟨rb, hrb⟩ : ∃ rb, wstB k L' = rb := ⟨_, rfl⟩
  have C2 := Lib.hid (wfull (a := a) (L := L') g rb (by rw [x2.cell]; simp) (by rw [x2.cell]; simp) x2.2.1 hrb)
  have K2 := Lib.hid (And.intro st2 x2)
  clear st1 x1 st2 x2
  go_wp2_with fail
  refine C2.out.mono ?_
  rintro e w3 ⟨rfl, n3, hw3⟩
  have st3 := K2.out.1.drewN n3
  have x3 := K2.out.2.drewN n3
  rw [← hw3] at st3 x3
  clear K2 C2 b3 f3 hw3
  cases rb with
  | false =>
    have hsm : ¬ k ≤ L'.length := of_decide_eq_false hrb
    obtain rfl : true = r := by rw [← hr]; exact (decide_eq_true (.inl (by omega))).symm
    have F : Hid (Step o o σ w w3 ∧ Fw o σ w3 a m k L') := Lib.hid ⟨st3, Fx.fw x3 hN (by rw [hws.out, if_neg (by omega)]) (by rw [hbr.out, hr]; simp)⟩
    clear st3 x3 hr hrb hsm
    go_wp2
    go_ret
    exact ⟨rfl, _, F.out.1, F.out.2⟩
  | true =>
    have hfull : k ≤ N + 1 := by have := of_decide_eq_true hrb; omega
    obtain ⟨q, hq⟩ : ∃ q, mc k L'.length L' = q := ⟨_, rfl⟩
    have C4 := ryes x3.2.1
    rw [← mc_all, hq] at C4
    replace C4 := Lib.hid C4
    have hr2 : decide (m ≤ q) = r := by
      rw [← hr]; unfold addB; rw [hq]; exact decide_eq_decide.2 (by omega)
    have hq9 : q ≤ k := by rw [← hq]; exact mc_le _ _ _
    have b2 : w3.cell? ⟨a, 2, none⟩ = some (.pointer (some ⟨g, 0, none⟩)) := by rw [x3.cell]; simp
    have b5 : w3.cell? ⟨a, 5, none⟩ = some (.int .i64 (s : Int)) := by rw [x3.cell]; simp
    have f5 : w3.frozen? ⟨a, 5, none⟩ = false := x3.frozen 5
    go_wp2_with fail
    refine C4.out.mono ?_
    rintro e w4 ⟨rfl, hw4⟩
    subst w4
    clear C4 b2
    have hrd : (r = true ↔ m ≤ q) := by rw [← hr2]; simp
    clear hr2
    by_cases ht : q < s
    · have st4 := st3.setCell (p := ⟨a, 5, none⟩) (.inr x3.1.mine) (.int .i64 (q : Int))
      have x4 := x3.set 5 (.int .i64 (q : Int))
      simp at x4
      have hs' : wst k L' L'.length = q := by rw [hws.out, if_pos hfull, hq]; omega
      have c0 : (w3.setCell ⟨a, 5, none⟩ (.int .i64 (q : Int))).cell? ⟨a, 0, none⟩ = some (.int .i64 (m : Int)) := by rw [x4.cell]; simp
      have c4 : (w3.setCell ⟨a, 5, none⟩ (.int .i64 (q : Int))).cell? ⟨a, 4, none⟩ = some (.slice A B.length cap) := by rw [x4.cell]; simp
      have f4 : ∀ j, (w3.setCell ⟨a, 5, none⟩ (.int .i64 (q : Int))).frozen? ⟨a, j, none⟩ = false := fun j => x4.frozen j
      have K := Lib.hid (And.intro st4 (And.intro x4 hs'))
      clear st3 x3 st4 x4 hs'
      generalize hW : w3.setCell ⟨a, 5, none⟩ (.int .i64 (q : Int)) = w4 at *
      cases r with
      | true =>
        have hqm := hrd.1 rfl
        have z1 : (q : Int) ≥ (m : Int) := by omega
        clear hrd
        go_wp2
        all_goals try (exfalso; omega)
        go_ret
        exact ⟨rfl, _, K.out.1, Fx.fw K.out.2.1 hN K.out.2.2 (by rw [hbr.out, hr]; simp)⟩
      | false =>
        have hqm : ¬ m ≤ q := fun e => by have := hrd.2 e; cases this
        have z1 : decide ((q : Int) ≥ (m : Int)) = false := decide_eq_false (by omega)
        have z2 : decide (m ≤ q) = false := decide_eq_false hqm
        have hbr2 : brkI m k L' L'.length = B ++ [(N : Int)] := by rw [hbr.out, hr]; simp
        replace hbr2 := Lib.hid hbr2
        have ZN := Lib.hid (And.intro hN hr)
        clear hrd hr hF hrb hq
        go_wp2_with (at_builtin; refine wpList_append_own_at _ rfl (.tmp 51) (.tmp 53) 36 rfl 0 3 i0 (.int .i64 0) 1 8 Try.underlying36 hi0 hz0 hz1 hz2 rfl (by decide) _ _ _ rfl (K.out.2.1.2.2.1.own.alloc _) ⟨w4.heap.size, 0, none⟩ 1 1 (cellsN [(N : Int)]) rfl rfl (newsI _ _ _ _ rfl) (onesI _) (by unfold maxLen; omega) (by omega) (Nat.zero_le _) ?_)
        all_goals try (exfalso; omega)
        intro v' w5 hown hgrow hnil hloc
        obtain ⟨st5, x5⟩ := Fx.app (K.out.2.1.alloc (.cells #[.int .i64 (N : Int)] 3) σ) hgrow hown (by simpa using hloc)
        replace st5 := (K.out.1.alloc σ (.cells #[.int .i64 (N : Int)] 3)).trans st5
        have f6 : w5.frozen? ⟨a, 4, none⟩ = false := x5.frozen 4
        have c6 : w5.cell? ⟨a, 4, none⟩ = some (.slice A B.length cap) := by rw [x5.cell]; simp
        obtain ⟨A', cap', rfl⟩ := x5.2.2.1.any
        have K6 := Lib.hid (And.intro st5 x5)
        have KS := Lib.hid K.out.2.2
        clear st5 x5 hown hgrow hnil hloc K c0 c4 f4
        go_wp2
        go_ret
        have x6 := K6.out.2.set 4 (.slice A' (B ++ [(N : Int)]).length cap')
        simp at x6
        refine ⟨rfl, _, K6.out.1.setCell (p := ⟨a, 4, none⟩) (.inr K6.out.2.1.mine) _, Fx.fw (by simpa using x6) ZN.out.1 KS.out hbr2.out⟩
    · have st4 := st3.setCell (p := ⟨a, 5, none⟩) (.inr x3.1.mine) (.int .i64 (s : Int))
      have x4 := x3.set 5 (.int .i64 (s : Int))
      simp at x4
      have hs' : wst k L' L'.length = s := by rw [hws.out, if_pos hfull, hq]; omega
      have c0 : (w3.setCell ⟨a, 5, none⟩ (.int .i64 (s : Int))).cell? ⟨a, 0, none⟩ = some (.int .i64 (m : Int)) := by rw [x4.cell]; simp
      have c4 : (w3.setCell ⟨a, 5, none⟩ (.int .i64 (s : Int))).cell? ⟨a, 4, none⟩ = some (.slice A B.length cap) := by rw [x4.cell]; simp
      have f4 : ∀ j, (w3.setCell ⟨a, 5, none⟩ (.int .i64 (s : Int))).frozen? ⟨a, j, none⟩ = false := fun j => x4.frozen j
      have K := Lib.hid (And.intro st4 (And.intro x4 hs'))
      clear st3 x3 st4 x4 hs'
      generalize hW : w3.setCell ⟨a, 5, none⟩ (.int .i64 (s : Int)) = w4 at *
      cases r with
      | true =>
        have hqm := hrd.1 rfl
        have z1 : (q : Int) ≥ (m : Int) := by omega
        clear hrd
        go_wp2
        all_goals try (exfalso; omega)
        go_ret
        exact ⟨rfl, _, K.out.1, Fx.fw K.out.2.1 hN K.out.2.2 (by rw [hbr.out, hr]; simp)⟩
      | false =>
        have hqm : ¬ m ≤ q := fun e => by have := hrd.2 e; cases this
        have z1 : decide ((q : Int) ≥ (m : Int)) = false := decide_eq_false (by omega)
        have z2 : decide (m ≤ q) = false := decide_eq_false hqm
        have hbr2 : brkI m k L' L'.length = B ++ [(N : Int)] := by rw [hbr.out, hr]; simp
        replace hbr2 := Lib.hid hbr2
        have ZN := Lib.hid (And.intro hN hr)
        clear hrd hr hF hrb hq
        go_wp2_with (at_builtin; refine wpList_append_own_at _ rfl (.tmp 51) (.tmp 53) 36 rfl 0 3 i0 (.int .i64 0) 1 8 Try.underlying36 hi0 hz0 hz1 hz2 rfl (by decide) _ _ _ rfl (K.out.2.1.2.2.1.own.alloc _) ⟨w4.heap.size, 0, none⟩ 1 1 (cellsN [(N : Int)]) rfl rfl (newsI _ _ _ _ rfl) (onesI _) (by unfold maxLen; omega) (by omega) (Nat.zero_le _) ?_)
        all_goals try (exfalso; omega)
        intro v' w5 hown hgrow hnil hloc
        obtain ⟨st5, x5⟩ := Fx.app (K.out.2.1.alloc (.cells #[.int .i64 (N : Int)] 3) σ) hgrow hown (by simpa using hloc)
        replace st5 := (K.out.1.alloc σ (.cells #[.int .i64 (N : Int)] 3)).trans st5
        have f6 : w5.frozen? ⟨a, 4, none⟩ = false := x5.frozen 4
        have c6 : w5.cell? ⟨a, 4, none⟩ = some (.slice A B.length cap) := by rw [x5.cell]; simp
        obtain ⟨A', cap', rfl⟩ := x5.2.2.1.any
        have K6 := Lib.hid (And.intro st5 x5)
        have KS := Lib.hid K.out.2.2
        clear st5 x5 hown hgrow hnil hloc K c0 c4 f4
        go_wp2
        go_ret
        have x6 := K6.out.2.set 4 (.slice A' (B ++ [(N : Int)]).length cap')
        simp at x6
        refine ⟨rfl, _, K6.out.1.setCell (p := ⟨a, 4, none⟩) (.inr K6.out.2.1.mine) _, Fx.fw (by simpa using x6) ZN.out.1 KS.out hbr2.out⟩
end
end
end Go.Proofs.Ytecjblcdiabkcaa
