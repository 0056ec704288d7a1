/- Package ledger: New, Earn, Lose, Earned, Lost, Till, By. -/
import Derived.Test.YtbmofcggdpjcbaaLgRow
import Derived.Test.YtbmofcggdpjcbaaNumAdd
import Derived.Maps.AppendAt
namespace Go.Proofs.Ytbmofcggdpjcbaa
open Go.RowKit
set_option linter.unusedVariables false
set_option linter.unusedSimpArgs false

section
variable {o : Nat → Nat} {σ : Nat} {w : World} {a : Nat} {v : Value} {l : List Rw}
set_option maxHeartbeats 800000 in
theorem lnew (o : Nat → Nat) (σ : Nat) (w : World) : Calls Try.prog 8 #[] w fun e w' => e = .returned (.pointer (some ⟨w.heap.size, 0, none⟩)) ∧
    ∃ o' v, Step o o' σ w w' ∧ Lg o' σ w' w.heap.size v [] := by
  go_enter Try.func8, Try.ntmps8
  go_wp2
  go_ret
  exact ⟨rfl, _, _, (Step.refl o σ w).alloc σ _, Blk.made o σ w _ _, Row.nil _ _ _ _ _⟩
set_option maxHeartbeats 800000 in
theorem learned (h : Lg o σ w a v l) : Calls Try.prog 18 #[.pointer (some ⟨a, 0, none⟩)] w fun e w' => e = .returned (.int .i64 (earned l)) ∧ w' = w := by
  have c1 : w.cell? ⟨a, 1, none⟩ = some (.int .i64 (earned l)) := by rw [h.box.cell]; simp
  clear h
  go_enter Try.func18, Try.ntmps18
  go_wp2
  go_ret
  exact ⟨rfl, rfl⟩
set_option maxHeartbeats 800000 in
theorem llost (h : Lg o σ w a v l) : Calls Try.prog 20 #[.pointer (some ⟨a, 0, none⟩)] w fun e w' => e = .returned (.int .i64 (lost l)) ∧ w' = w := by
  have c1 : w.cell? ⟨a, 2, none⟩ = some (.int .i64 (lost l)) := by rw [h.box.cell]; simp
  clear h
  go_enter Try.func20, Try.ntmps20
  go_wp2
  go_ret
  exact ⟨rfl, rfl⟩
set_option maxHeartbeats 1600000 in
theorem check_any (t z s c : Int) (h : Lg o σ w a v l) (hl : l.length ≤ 1000) (hz : fitB z = true) (hs0 : 0 ≤ s) (hs1 : s ≤ 4611686018427387904) (hc : putE l t z s = c) :
    Calls Try.prog 25 #[.pointer (some ⟨a, 0, none⟩), .int .i64 t, .int .i64 z, .int .i64 s] w (Ret (.tuple #[.int .i64 (if c = 0 then s + z else 0), .int .i64 c]) w) := by
  obtain ⟨A, cap, rfl⟩ := h.row.any
  obtain ⟨hlc, hcap⟩ := h.row.capsW
  have c0 : w.cell? ⟨a, 0, none⟩ = some (.slice A l.length cap) := by rw [h.box.cell]; simp
  have RD := Lib.hid h.row.rdW
  have AD := Lib.hid (nadd_any s z · (fitB_true (by omega)) hz)
  obtain ⟨z0, z1⟩ := fitB_iff.1 hz
  unfold putE at hc
  clear h hz
  by_cases h1 : t < 0 ∨ z < 0
  · rw [if_pos h1] at hc
    subst hc
    clear hs0 hs1 hlc hcap AD RD c0
    go_enter Try.func25, Try.ntmps25
    by_cases k1 : t < 0
    · go_wp2
      go_ret2
      exact ⟨rfl, 0, rfl⟩
    · have k1' : decide (t < 0) = false := decide_eq_false k1
      have k2 : z < 0 := by omega
      clear h1 z0 z1
      go_wp2
      go_ret2
      exact ⟨rfl, 0, rfl⟩
  · rw [if_neg h1] at hc
    have k1 : decide (t < 0) = false := decide_eq_false (by omega)
    have k2 : decide (z < 0) = false := decide_eq_false (by omega)
    have HZ := Lib.hid (show 0 ≤ z by omega)
    have HB := Lib.hid (And.intro hs0 (And.intro hs1 (And.intro z1 hlc)))
    clear h1 hs0 hs1 z0 z1
    by_cases h2 : lateB l t = true
    · rw [if_pos h2] at hc
      subst hc
      obtain ⟨x, hx, hxt⟩ : ∃ x, l[l.length - 1]? = some x ∧ t < x.tick := by
        unfold lateB at h2
        cases hg : l.getLast? with
        | none => rw [hg] at h2; cases h2
        | some x => rw [hg] at h2; exact ⟨x, by rw [← List.getLast?_eq_getElem?]; exact hg, of_decide_eq_true h2⟩
      obtain ⟨g, rfl, hg, d0, _, _⟩ := RD.out _ _ hx
      have hn := (List.getElem?_eq_some_iff.1 hx).1
      obtain ⟨N, hN⟩ : ∃ N, l.length = N := ⟨_, rfl⟩
      rw [hN] at c0 hn hl hx hlc d0
      obtain ⟨tk, htk⟩ : ∃ tk, x.tick = tk := ⟨_, rfl⟩
      rw [htk] at hxt d0
      have q1 : (N : Int) > 0 := by omega
      have q3 : tk > t := hxt
      clear h2 hx hxt hg hn hlc htk hN
      go_enter Try.func25, Try.ntmps25
      go_wp2
      go_ret2
      exact ⟨rfl, 0, rfl⟩
    · rw [if_neg h2] at hc
      -- it is not late
      have hnl : l.length = 0 ∨ ∃ n x, l.length = n + 1 ∧ l[n]? = some x ∧ ¬ x.tick > t := by
        unfold lateB at h2
        cases hg : l.getLast? with
        | none => exact .inl (by rw [List.getLast?_eq_none_iff.1 hg]; rfl)
        | some x =>
          rw [hg] at h2
          rw [List.getLast?_eq_getElem?] at hg
          have := (List.getElem?_eq_some_iff.1 hg).1
          exact .inr ⟨l.length - 1, x, by omega, hg, by simpa using h2⟩
      have fin : ∀ (cn : Int), cn = s + z → True := fun _ _ => trivial
      obtain ⟨r, hr⟩ : ∃ r, (if c = 0 then s + z else 0) = r := ⟨_, rfl⟩
      rw [hr]
      obtain ⟨s1, s2, s3, s4⟩ := HB.out
      have hz0 := HZ.out
      -- the sum
      have hsum : (fitB (s + z) = false ∧ c = 8 ∧ r = 0) ∨ (fitB (s + z) = true ∧ ((s + z > 4611686018427387904 ∧ c = 8 ∧ r = 0) ∨ (¬ s + z > 4611686018427387904 ∧ c = 0 ∧ r = s + z))) := by
        by_cases f : fitB (s + z) = true
        · refine .inr ⟨f, ?_⟩
          by_cases hb : 4611686018427387904 < s + z
          · rw [if_pos hb] at hc; subst hc; exact .inl ⟨hb, rfl, by rw [← hr]; rfl⟩
          · rw [if_neg hb] at hc; subst hc; exact .inr ⟨hb, rfl, by rw [← hr]; rfl⟩
        · have f' : fitB (s + z) = false := by simpa using f
          have := fitB_not.1 f'
          have hb : 4611686018427387904 < s + z := by omega
          rw [if_pos hb] at hc; subst hc; exact .inl ⟨f', rfl, by rw [← hr]; rfl⟩
      clear hc hr s1 s2 s3 s4 hz0 h2 HB HZ fin
      obtain ⟨cz, hcz⟩ : ∃ cz, cutZ (s + z) = cz := ⟨_, rfl⟩
      obtain ⟨fz, hfz⟩ : ∃ fz, fitB (s + z) = fz := ⟨_, rfl⟩
      rw [hcz, hfz] at AD
      rw [hfz] at hsum
      have hcs : fz = true → cz = s + z := fun e => by rw [← hcz]; exact cutZ_true (hfz.trans e)
      obtain ⟨sz, hsz⟩ : ∃ sz, s + z = sz := ⟨_, rfl⟩
      rw [hsz] at hsum hcs
      clear hcz hfz hsz
      rcases hnl with h0 | ⟨n, x, hn1, hx, hxt⟩
      · rw [h0] at c0
        have q1 : decide (((0 : Nat) : Int) > 0) = false := by decide
        clear RD hl hlc h0
        go_enter Try.func25, Try.ntmps25
        go_wp2_with fail
        refine (AD.out _).mono ?_; rintro e w' ⟨rfl, n1, rfl⟩
        rcases hsum with ⟨rfl, rfl, rfl⟩ | ⟨rfl, ⟨hb, rfl, rfl⟩ | ⟨hb, rfl, rfl⟩⟩
        · clear hcs
          go_wp2
          go_ret2
          exact ⟨rfl, _, rfl⟩
        · obtain rfl := hcs rfl
          clear hcs
          go_wp2
          go_ret2
          exact ⟨rfl, _, rfl⟩
        · obtain rfl := hcs rfl
          have hb' : decide (cz > 4611686018427387904) = false := decide_eq_false (by omega)
          clear hcs hb
          go_wp2
          go_ret2
          exact ⟨rfl, _, rfl⟩
      · obtain ⟨g, rfl, hg, d0, _, _⟩ := RD.out _ _ hx
        obtain ⟨N, hN⟩ : ∃ N, l.length = N := ⟨_, rfl⟩
        rw [hN] at c0 hn1 hl
        rw [show n = N - 1 by omega] at d0
        obtain ⟨tk, htk⟩ : ∃ tk, x.tick = tk := ⟨_, rfl⟩
        rw [htk] at hxt d0
        have q1 : (N : Int) > 0 := by omega
        have q3 : decide (tk > t) = false := decide_eq_false hxt
        clear hx hxt hg hn1 hlc htk RD hN
        go_enter Try.func25, Try.ntmps25
        go_wp2_with fail
        refine (AD.out _).mono ?_; rintro e w' ⟨rfl, n2, rfl⟩
        rcases hsum with ⟨rfl, rfl, rfl⟩ | ⟨rfl, ⟨hb, rfl, rfl⟩ | ⟨hb, rfl, rfl⟩⟩
        · clear hcs
          go_wp2
          go_ret2
          exact ⟨rfl, _, rfl⟩
        · obtain rfl := hcs rfl
          clear hcs
          go_wp2
          go_ret2
          exact ⟨rfl, _, rfl⟩
        · obtain rfl := hcs rfl
          have hb' : decide (cz > 4611686018427387904) = false := decide_eq_false (by omega)
          clear hcs hb
          go_wp2
          go_ret2
          exact ⟨rfl, _, rfl⟩
end
end Go.Proofs.Ytbmofcggdpjcbaa
