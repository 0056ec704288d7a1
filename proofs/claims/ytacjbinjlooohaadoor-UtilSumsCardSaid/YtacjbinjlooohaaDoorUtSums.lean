/- UtilSums: shares of tasks that take turns. -/
import Derived.Test.YtacjbinjlooohaaDoorUtAwake
import Derived.Test.YtacjbinjlooohaaDoorRowZ
import Derived.Laws.CopyRow
namespace Go.Proofs.YtacjbinjlooohaaDoor
open Go.RowKit
open Go.Lib hiding intOf
set_option linter.unusedVariables false
set_option linter.unusedSimpArgs false

theorem Tryd.infoZ64 : (Tryd.prog.info? 2).map (fun i => (i.zero, i.size, i.bytes)) = some (some (.int .i64 0), 1, 8) := by kernel_rfl
def usL (p : Int) (l : List Int) : List Int := l.map fun x => upZ (x * 1048576) p
theorem usL_next {p : Int} {l : List Int} {i : Nat} (h : i < l.length) : cellsZ (usL p (l.take (i + 1))) = cellsZ (usL p (l.take i)) ++ [.int .i64 (upZ (l.getD i 0 * 1048576) p)] := by
  unfold cellsZ usL
  rw [List.take_add_one, List.getElem?_eq_getElem h, List.map_append, List.map_append, List.getD, List.getElem?_eq_getElem h]
  rfl
theorem usL_len (p : Int) (l : List Int) : (usL p l).length = l.length := by simp [usL]
/-- All are from 1 to 1000. -/
def thB (l : List Int) : Prop := ∀ x ∈ l, 1 ≤ x ∧ x ≤ 1000
theorem thB.next {l : List Int} {i : Nat} (h : i < l.length) (h1 : thB (l.take i)) (h2 : 1 ≤ l.getD i 0 ∧ l.getD i 0 ≤ 1000) : thB (l.take (i + 1)) := fun x hx => by
  rw [List.take_add_one, List.getElem?_eq_getElem h] at hx
  rcases List.mem_append.1 hx with hx | hx
  · exact h1 x hx
  · simp at hx
    subst hx
    rw [List.getD, List.getElem?_eq_getElem h] at h2
    exact h2
theorem thB.sum : ∀ {l : List Int}, thB l → 0 ≤ l.sum ∧ l.sum ≤ 1000 * (l.length : Int)
  | [], _ => by simp
  | x :: l, h => by
    have h1 := h x (by simp)
    have h2 := thB.sum (l := l) (fun y hy => h y (by simp [hy]))
    rw [List.sum_cons, List.length_cons]; omega
theorem us_all {p : Int} {l : List Int} (hp : 1 ≤ p) (h : thB l) : ∀ u ∈ usL p l, 1 ≤ u ∧ u ≤ 1048576000 := fun u hu => by
  obtain ⟨x, hx, rfl⟩ := List.mem_map.1 hu
  have h1 := h x hx
  obtain ⟨a, b, _⟩ := up_need (need := x) (c := p) h1.1 h1.2 hp
  exact ⟨a, b⟩
theorem sum_le : ∀ {l : List Int} {b : Int}, (∀ u ∈ l, 1 ≤ u ∧ u ≤ b) → 0 ≤ l.sum ∧ l.sum ≤ b * (l.length : Int)
  | [], _, _ => by simp
  | x :: l, b, h => by
    have h1 := h x (by simp)
    have h2 := sum_le (l := l) (b := b) (fun y hy => h y (by simp [hy]))
    rw [List.sum_cons, List.length_cons, Int.natCast_add, Int.mul_add]; omega
/-- What the statement asks in the end. -/
theorem sums_end {p : Int} {l : List Int} (hp : 1 ≤ p) (hp2 : p ≤ 10000) (hl : l.length ≤ 10) (h : thB l) : totOk (usL p l) = true ∧ ∃ n a, totV (usL p l) = n ∧ l.sum = a ∧ (0 ≤ n ∧ n ≤ 10485760000) ∧ (0 ≤ a ∧ a ≤ 10000) ∧ a * 1048576 ≤ n * p ∧ n * p < a * 1048576 + ((l.length : Int) + 1) * p := by
  have hu := us_all hp h
  obtain ⟨s1, s2⟩ := sum_le hu
  rw [usL_len] at s2
  obtain ⟨a1, a2⟩ := h.sum
  obtain ⟨y1, y2⟩ := tot_yes (l := usL p l) (fun x hx => by have := hu x hx; omega) (fitB_true ⟨by omega, by omega⟩)
  obtain ⟨k1, k2⟩ := sums_share (p := p) (by omega) l (fun x hx => (h x hx).1)
  rw [sum_mul] at k1 k2
  have e : (l.map fun x => upZ (x * 1048576) p).sum = (usL p l).sum := rfl
  rw [e] at k1 k2
  refine ⟨y1, _, _, y2, rfl, ⟨by omega, by omega⟩, ⟨by omega, by omega⟩, k1, ?_⟩
  rw [Int.add_mul, Int.one_mul]
  omega
set_option maxHeartbeats 3200000 in
set_option maxRecDepth 100000 in
theorem UtilSums_ret (A : Option Addr) (c : Nat) (zs : List Int) (p : Int) (w : World) (hL : Pow w) (hl : zs.length ≤ 9223372036854775807) (hf : ∀ x ∈ zs, fitB x = true) (hr : ReadsI w A zs) (hA : zs ≠ [] → ∀ ad, A = some ad → ad.block < w.heap.size) (hp : fitB p = true) :
    Calls Tryd.prog 6 #[.slice A zs.length c, .int .i64 p] w (RetB (.bool true) w) := by
  obtain ⟨i0, hi0, hz0, hz1, hz2⟩ := info_parts Tryd.infoZ64
  have A0 := Lib.hid (awake12_any w hL)
  obtain ⟨n, hn⟩ : ∃ n, zs.length = n := ⟨_, rfl⟩
  by_cases hgo : n ≤ 10 ∧ 1 ≤ p ∧ p ≤ 10000
  · obtain ⟨h10, p1, p2⟩ := hgo
    have d1 : decide ((n : Int) > 10) = false := decide_eq_false (by omega)
    have d2 : decide (p < 1) = false := decide_eq_false (by omega)
    have d3 : decide (p > 10000) = false := decide_eq_false (by omega)
    have hrd : Hid (∀ w', Below w.heap.size w w' → ReadsI w' A zs) := fun w' hb k hk => by
      obtain ⟨b, off, rfl, h⟩ := hr k hk
      exact ⟨b, off, rfl, by rw [hb.cell (p := ⟨b, off + k, none⟩) (cell_lt h)]; exact h⟩
    have H := Lib.hid (And.intro hn (And.intro hf (And.intro p1 (And.intro p2 hp))))
    have E : Hid (thB zs → totOk (usL p zs) = true ∧ ∃ n' a, totV (usL p zs) = n' ∧ zs.sum = a ∧ (0 ≤ n' ∧ n' ≤ 10485760000) ∧ (0 ≤ a ∧ a ≤ 10000) ∧ a * 1048576 ≤ n' * p ∧ n' * p < a * 1048576 + ((n : Int) + 1) * p) := fun h => hn ▸ sums_end p1 p2 (by omega) h
    rw [hn] at hl ⊢
    clear hn hf hr hA hp p1 p2
    go_enter Tryd.func6, Tryd.ntmps6
    go_wp2_with fail
    refine (A0.out).mono ?_; rintro e aw ⟨rfl, a⟩
    have ga := Lib.hid a
    clear A0 a
    go_wp2
    clear d1 d2 d3
    go_loopw [5, 6, 7] (fun sv av st wr => ∃ (i : Nat) (s : Int), av = .int .i64 s ∧ st = .int .i64 (i : Int) ∧ i ≤ n ∧ Hid (thB (zs.take i) ∧ (zs.take i).sum = s ∧ Below w.heap.size w wr ∧ wr.ownsRow w.heap.size 2 1 sv i (cellsZ (usL p (zs.take i))))) (fun _ _ st _ => n - (intOf st).toNat)
    case atStart => exact ⟨0, 0, rfl, by first | rfl | simp, by omega, Lib.hid ⟨fun x hx => by simp at hx, by simp, ga.out, World.ownsRow_nil _ _ _ _⟩⟩
    case round =>
      obtain ⟨i, s, rfl, rfl, hin, K⟩ := hrel
      rcases Nat.lt_or_ge i n with hlt | hge
      · have d1 : decide ((i : Int) < (n : Int)) = true := decide_eq_true (by omega)
        have e1 : IntKind.i64.wrap ((i : Int) + 1) = ((i + 1 : Nat) : Int) := by rw [IntKind.wrap_i64]; omega
        have e1' : wrap64 ((i : Int) + 1) = ((i + 1 : Nat) : Int) := by unfold wrap64; omega
        have b9 : (i : Int) < (n : Int) := by omega
        have hil : i < zs.length := by rw [H.out.1]; exact hlt
        obtain ⟨B, off, rfl, c0⟩ := hrd.out wr K.out.2.2.1 i hil
        obtain ⟨x, hx⟩ : ∃ x, zs.getD i 0 = x := ⟨_, rfl⟩
        have hfx : fitB x = true := by rw [← hx]; refine H.out.2.1 _ ?_; rw [List.getD, List.getElem?_eq_getElem hil]; exact List.getElem_mem _
        rw [hx] at c0
        by_cases x1 : x < 1
        · have t1 : decide (x < 1) = true := decide_eq_true x1
          have kb := Lib.hid K.out.2.2.1
          clear K hx hfx hil x1
          go_wp2
          go_ret
          exact ⟨rfl, by have s0 := kb.out.size; (try simp only [World.heap_drewN, World.size_alloc] at s0); repeat (first | exact Below.refl _ _ | exact kb.out | refine Below.trans ?_ (Below.mono kb.out (by first | omega | (simp; done) | (simp; omega))) | refine Below.setCell ?_ (by first | omega | (simp; done) | (simp; omega)) _ | refine below_dN ?_ _ | refine Below.drew ?_ | refine Below.alloc ?_ (by first | omega | (simp; done) | (simp; omega)) _)⟩
        · have t1 : decide (x < 1) = false := decide_eq_false x1
          by_cases x2 : x > 1000
          · have t2 : decide (x > 1000) = true := decide_eq_true x2
            have kb := Lib.hid K.out.2.2.1
            clear K hx hfx hil x1 x2
            go_wp2
            go_ret
            exact ⟨rfl, by have s0 := kb.out.size; (try simp only [World.heap_drewN, World.size_alloc] at s0); repeat (first | exact Below.refl _ _ | exact kb.out | refine Below.trans ?_ (Below.mono kb.out (by first | omega | (simp; done) | (simp; omega))) | refine Below.setCell ?_ (by first | omega | (simp; done) | (simp; omega)) _ | refine below_dN ?_ _ | refine Below.drew ?_ | refine Below.alloc ?_ (by first | omega | (simp; done) | (simp; omega)) _)⟩
          · have t2 : decide (x > 1000) = false := decide_eq_false x2
            obtain ⟨u1, u2, u3, u4⟩ := up_need (need := x) (c := p) (by omega) (by omega) H.out.2.2.1
            obtain ⟨y1, y2⟩ := utilOk_yes (need := x) (per := p) ⟨by omega, by omega, H.out.2.2.1, H.out.2.2.2.1⟩
            have C := Lib.hid (uof_b x p _ true · hfx H.out.2.2.2.2 y2 y1)
            have hnx : Hid (cellsZ (usL p (zs.take (i + 1))) = cellsZ (usL p (zs.take i)) ++ [.int .i64 (upZ (x * 1048576) p)]) := by show _ = _; rw [usL_next hil, hx]
            obtain ⟨s2, hs2⟩ : ∃ q, s + x = q := ⟨_, rfl⟩
            have hsm : Hid ((zs.take (i + 1)).sum = s2) := by show _ = _; rw [sum_next hil, hx, K.out.2.1, hs2]
            have hth : Hid (thB (zs.take (i + 1))) := K.out.1.next hil (by rw [hx]; omega)
            have e2 : wrap64 (s + x) = s2 := by
              have hb := K.out.1.sum
              rw [K.out.2.1, List.length_take] at hb
              unfold wrap64; omega
            obtain ⟨A5, c5', hv5, _⟩ := ownZ_reads K.out.2.2.2
            rw [usL_len, List.length_take, Nat.min_eq_left (by omega)] at hv5
            subst hv5
            have HX := Lib.hid (And.intro hil hx)
            have hb0 : Hid (B < w.heap.size) := by
              obtain ⟨b', o', he, h⟩ := hrd.out w (Below.refl _ _) i hil
              cases he
              exact cell_lt h
            generalize upZ (x * 1048576) p = u at *
            clear hx hfx hil x1 x2 u1 u2 u3 u4 y1 y2 hs2
            go_wp2_with fail
            refine (C.out _).mono ?_; rintro e hw ⟨rfl, h⟩
            have KV : Hid (hw.ownsRow w.heap.size 2 1 (.slice A5 i c5') i (cellsZ (usL p (zs.take i)))) := own_same K.out.2.2.2 fun q hq => h.block q ((K.out.2.2.2.lt q hq).2)
            have KB : Hid (Below w.heap.size w hw) := below_on K.out.2.2.1 h
            have hsz : Hid (w.heap.size ≤ hw.heap.size) := KB.out.size
            clear K C c0 h
            go_wp2_with (at_builtin; refine wpList_append_own_at _ rfl (.tmp 54) (.tmp 56) 29 rfl w.heap.size 2 i0 (.int .i64 0) 1 8 Tryd.underlying29 hi0 hz0 hz1 hz2 rfl (by decide) _ _ _ rfl (KV.out.alloc _) ⟨hw.heap.size, 0, none⟩ 1 1 [.int .i64 u] rfl rfl (newsZ _ _ _ _ rfl) (oneZ _) (by unfold maxLen; omega) (by omega) (by have := hsz.out; simp; omega) ?_)
            intro v' w3 hown' hgrow' hnil hloc
            have KB3 : Hid (Below w.heap.size w w3) := oneMoreZ KB.out hsz.out KV.out hgrow'
            have c0 : w3.cell? ⟨B, off + i, none⟩ = some (.int .i64 x) := by
              obtain ⟨b', o', he, h⟩ := hrd.out w3 KB3.out i HX.out.1
              cases he
              rw [HX.out.2] at h
              exact h
            have K9 : Hid (thB (zs.take (i + 1)) ∧ (zs.take (i + 1)).sum = s2 ∧ Below w.heap.size w w3 ∧ w3.ownsRow w.heap.size 2 1 v' (i + 1) (cellsZ (usL p (zs.take (i + 1))))) := ⟨hth.out, hsm.out, KB3.out, by rw [hnx.out]; exact hown'⟩
            clear hown' hgrow' hnil hloc KV KB hsz hnx hth hsm KB3
            go_wp2
            go_roundw
            case rel => exact ⟨i + 1, s2, by first | rfl | (simp; done) | rw [e2], by first | rfl | (simp; done) | rw [e1] | rw [e1'], by omega, K9⟩
            case measure => simp [intOf]; omega
      · have d1 : decide ((i : Int) < (n : Int)) = false := decide_eq_false (by omega)
        obtain rfl : i = n := by omega
        have ht : zs.take i = zs := List.take_of_length_le (by rw [H.out.1]; exact Nat.le_refl _)
        have K2 := K.out
        rw [ht] at K2
        obtain ⟨A5, c5', hv5, _, _, k3, k4⟩ := ownZ_reads K2.2.2.2
        rw [usL_len, H.out.1] at hv5
        subst hv5
        obtain ⟨eo, n', a', en, ea, ⟨n1, n2⟩, ⟨a1, a2⟩, ge1, lt1⟩ := E.out K2.1
        have hss : s = a' := by rw [← ea]; exact K2.2.1.symm
        subst hss
        have C : Hid (Calls Tryd.prog 11 #[.slice A5 i c5'] wr (RetB (.tuple #[.int .i64 n', .bool true]) wr)) := by
          have := usum_b A5 c5' (usL p zs) n' true wr (by rw [usL_len, H.out.1]; omega) (fun x hx => by
            have := us_all H.out.2.2.1 K2.1 x hx
            exact fitB_true ⟨by omega, by omega⟩) k3 en eo
          rw [usL_len, H.out.1] at this
          exact this
        have kb := Lib.hid K2.2.2.1
        have p1 := H.out.2.2.1
        have p2 := H.out.2.2.2.1
        have m1 : n' * p ≤ 10485760000 * 10000 := Int.mul_le_mul n2 p2 (by omega) (by omega)
        have m0 : 0 ≤ n' * p := Int.mul_nonneg n1 (by omega)
        have m2 : ((i : Int) + 1) * p ≤ 11 * 10000 := Int.mul_le_mul (by omega) p2 (by omega) (by omega)
        have m3 : 0 ≤ ((i : Int) + 1) * p := Int.mul_nonneg (by omega) (by omega)
        have w1 : wrap64 (n' * p) = n' * p := by unfold wrap64; omega
        have w2 : wrap64 (s * 1048576) = s * 1048576 := by unfold wrap64; omega
        have w3 : wrap64 ((i : Int) + 1) = (i : Int) + 1 := by unfold wrap64; omega
        have w4 : wrap64 (((i : Int) + 1) * p) = ((i : Int) + 1) * p := by unfold wrap64; omega
        have w5 : wrap64 (s * 1048576 + ((i : Int) + 1) * p) = s * 1048576 + ((i : Int) + 1) * p := by unfold wrap64; omega
        have d4 : decide (n' * p ≥ s * 1048576) = true := decide_eq_true ge1
        have d5 : decide (n' * p < s * 1048576 + ((i : Int) + 1) * p) = true := decide_eq_true lt1
        clear K K2 k3 k4 eo en ea E H hrd m0 m1 m2 m3 ge1 lt1 ht
        go_wp2_with fail
        refine C.out.mono ?_; rintro e' hw ⟨rfl, hb⟩
        have b2 := Lib.hid (below_on kb.out hb)
        clear C hb kb
        go_wp2
        go_ret
        exact ⟨rfl, b2.out⟩
  · rw [hn]
    clear hn hl hf hr hA hp
    go_enter Tryd.func6, Tryd.ntmps6
    go_wp2_with fail
    refine (A0.out).mono ?_; rintro e aw ⟨rfl, a⟩
    have ga := Lib.hid a
    clear A0 a
    by_cases k1 : n ≤ 10
    · have t1 : decide ((n : Int) > 10) = false := decide_eq_false (by omega)
      by_cases k2 : p < 1
      · have t2 : decide (p < 1) = true := decide_eq_true k2
        clear hgo
        go_wp2
        go_ret
        exact ⟨rfl, by have s0 := ga.out.size; (try simp only [World.heap_drewN, World.size_alloc] at s0); repeat (first | exact Below.refl _ _ | exact ga.out | refine Below.trans ?_ (Below.mono ga.out (by first | omega | (simp; done) | (simp; omega))) | refine Below.setCell ?_ (by first | omega | (simp; done) | (simp; omega)) _ | refine below_dN ?_ _ | refine Below.drew ?_ | refine Below.alloc ?_ (by first | omega | (simp; done) | (simp; omega)) _)⟩
      · have t2 : decide (p < 1) = false := decide_eq_false k2
        have t3 : decide (p > 10000) = true := decide_eq_true (by omega)
        clear hgo
        go_wp2
        go_ret
        exact ⟨rfl, by have s0 := ga.out.size; (try simp only [World.heap_drewN, World.size_alloc] at s0); repeat (first | exact Below.refl _ _ | exact ga.out | refine Below.trans ?_ (Below.mono ga.out (by first | omega | (simp; done) | (simp; omega))) | refine Below.setCell ?_ (by first | omega | (simp; done) | (simp; omega)) _ | refine below_dN ?_ _ | refine Below.drew ?_ | refine Below.alloc ?_ (by first | omega | (simp; done) | (simp; omega)) _)⟩
    · have t1 : decide ((n : Int) > 10) = true := decide_eq_true (by omega)
      clear hgo
      go_wp2
      go_ret
      exact ⟨rfl, by have s0 := ga.out.size; (try simp only [World.heap_drewN, World.size_alloc] at s0); repeat (first | exact Below.refl _ _ | exact ga.out | refine Below.trans ?_ (Below.mono ga.out (by first | omega | (simp; done) | (simp; omega))) | refine Below.setCell ?_ (by first | omega | (simp; done) | (simp; omega)) _ | refine below_dN ?_ _ | refine Below.drew ?_ | refine Below.alloc ?_ (by first | omega | (simp; done) | (simp; omega)) _)⟩
end Go.Proofs.YtacjbinjlooohaaDoor
