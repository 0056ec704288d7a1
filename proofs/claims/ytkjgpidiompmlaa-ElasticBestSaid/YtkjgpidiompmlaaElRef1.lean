/- The document's own GoodSpring, springs, Floor, room, Cost. -/
import Derived.Test.YtkjgpidiompmlaaElLaw
import Derived.Test.YtkjgpidiompmlaaRef3
import Derived.Test.YtkjgpidiompmlaaRef4
namespace Go.Proofs.Ytkjgpidiompmlaa
open Go.RowKit
open Go.Lib hiding intOf
set_option linter.unusedVariables false
set_option linter.unusedSimpArgs false

theorem sp_no {x : Sp} {g : Bool} (hg : x.good = g) (h : ¬ ((0 ≤ x.least ∧ x.least ≤ x.want ∧ x.want ≤ 67108864) ∧ (0 ≤ x.soft ∧ x.soft ≤ 1000))) : g = false := by
  cases g
  · rfl
  · exact absurd (sp_iff.1 hg) h
set_option maxHeartbeats 3200000 in
theorem rgoodspring_any (x : Sp) (g : Bool) (w : World) (hg : x.good = g) : Calls Try.prog 38 #[.agg #[.int .i64 x.want, .int .i64 x.least, .int .i64 x.soft]] w (RetB (.bool g) w) := by
  have T := sp_iff (s := x)
  have F := sp_no hg
  rw [hg] at T
  obtain ⟨p, n, s⟩ := x
  simp only at T F ⊢
  clear hg
  by_cases k1 : ¬ (n ≥ 0)
  · have k1' : decide (n ≥ 0) = false := decide_eq_false k1
    obtain rfl : g = false := F (by omega)
    clear T F
    go_enter Try.func38, Try.ntmps38
    go_wp2
    go_ret
    exact ⟨rfl, by repeat (first | exact Below.refl _ _ | refine Below.setCell ?_ (by first | omega | (simp; done) | (simp; omega)) _ | refine below_dN ?_ _ | refine Below.drew ?_ | refine Below.alloc ?_ (by first | omega | (simp; done) | (simp; omega)) _)⟩
  replace k1 : n ≥ 0 := Classical.not_not.1 k1
  by_cases k2 : ¬ (n ≤ p)
  · have k2' : decide (n ≤ p) = false := decide_eq_false k2
    obtain rfl : g = false := F (by omega)
    clear T F
    go_enter Try.func38, Try.ntmps38
    go_wp2
    go_ret
    exact ⟨rfl, by repeat (first | exact Below.refl _ _ | refine Below.setCell ?_ (by first | omega | (simp; done) | (simp; omega)) _ | refine below_dN ?_ _ | refine Below.drew ?_ | refine Below.alloc ?_ (by first | omega | (simp; done) | (simp; omega)) _)⟩
  replace k2 : n ≤ p := Classical.not_not.1 k2
  by_cases k3 : ¬ (p ≤ 67108864)
  · have k3' : decide (p ≤ 67108864) = false := decide_eq_false k3
    obtain rfl : g = false := F (by omega)
    clear T F
    go_enter Try.func38, Try.ntmps38
    go_wp2
    go_ret
    exact ⟨rfl, by repeat (first | exact Below.refl _ _ | refine Below.setCell ?_ (by first | omega | (simp; done) | (simp; omega)) _ | refine below_dN ?_ _ | refine Below.drew ?_ | refine Below.alloc ?_ (by first | omega | (simp; done) | (simp; omega)) _)⟩
  replace k3 : p ≤ 67108864 := Classical.not_not.1 k3
  by_cases k4 : ¬ (s ≥ 0)
  · have k4' : decide (s ≥ 0) = false := decide_eq_false k4
    obtain rfl : g = false := F (by omega)
    clear T F
    go_enter Try.func38, Try.ntmps38
    go_wp2
    go_ret
    exact ⟨rfl, by repeat (first | exact Below.refl _ _ | refine Below.setCell ?_ (by first | omega | (simp; done) | (simp; omega)) _ | refine below_dN ?_ _ | refine Below.drew ?_ | refine Below.alloc ?_ (by first | omega | (simp; done) | (simp; omega)) _)⟩
  replace k4 : s ≥ 0 := Classical.not_not.1 k4
  have t1 : decide (n ≥ 0) = true := decide_eq_true k1
  have t2 : decide (n ≤ p) = true := decide_eq_true k2
  have t3 : decide (p ≤ 67108864) = true := decide_eq_true k3
  have t4 : decide (s ≥ 0) = true := decide_eq_true k4
  by_cases h : s ≤ 1000
  · have t5 : decide (s ≤ 1000) = true := decide_eq_true h
    obtain rfl : g = true := T.2 ⟨⟨k1, k2, k3⟩, k4, h⟩
    clear T F k1 k2 k3 k4 h
    go_enter Try.func38, Try.ntmps38
    go_wp2
    go_ret
    exact ⟨rfl, by repeat (first | exact Below.refl _ _ | refine Below.setCell ?_ (by first | omega | (simp; done) | (simp; omega)) _ | refine below_dN ?_ _ | refine Below.drew ?_ | refine Below.alloc ?_ (by first | omega | (simp; done) | (simp; omega)) _)⟩
  · have t5 : decide (s ≤ 1000) = false := decide_eq_false h
    obtain rfl : g = false := F (by omega)
    clear T F k1 k2 k3 k4 h
    go_enter Try.func38, Try.ntmps38
    go_wp2
    go_ret
    exact ⟨rfl, by repeat (first | exact Below.refl _ _ | refine Below.setCell ?_ (by first | omega | (simp; done) | (simp; omega)) _ | refine below_dN ?_ _ | refine Below.drew ?_ | refine Below.alloc ?_ (by first | omega | (simp; done) | (simp; omega)) _)⟩
theorem sp_next {l : List Sp} {i : Nat} {x : Sp} (h : l[i]? = some x) : (l.take (i + 1)).all Sp.good = ((l.take i).all Sp.good && x.good) := by
  rw [List.take_add_one, h]; simp
theorem sp_false {l : List Sp} {i : Nat} {x : Sp} (h : l[i]? = some x) (hx : x.good = false) : springsB l = false := by
  unfold springsB
  have : l.all Sp.good = false := by
    rw [List.all_eq_false]
    exact ⟨x, List.mem_of_getElem? h, by simp [hx]⟩
  rw [this, Bool.and_false]
set_option maxHeartbeats 1600000 in
set_option maxRecDepth 100000 in
theorem rsprings_any (A : Option Addr) (cap : Nat) (l : List Sp) (g : Bool) (w : World) (hcap : cap ≤ 9223372036854775807) (hlc : l.length ≤ cap) (hR : RdSp w A l) (hg : springsB l = g) :
    Calls Try.prog 28 #[.slice A l.length cap] w (RetB (.bool g) w) := by
  obtain ⟨n, hl⟩ : ∃ n, l.length = n := ⟨_, rfl⟩
  have H := Lib.hid (And.intro hl (And.intro hR hg))
  rw [hl] at hlc ⊢
  clear hl hR hg
  go_enter Try.func28, Try.ntmps28
  go_wp2
  go_loopw [3] (fun st wr => ∃ (i : Nat), st = .int .i64 (i : Int) ∧ i ≤ n ∧ Hid ((l.take i).all Sp.good = true ∧ Below w.heap.size w wr)) (fun st _ => n - (intOf st).toNat)
  case atStart => exact ⟨0, rfl, by omega, Lib.hid ⟨by simp, Below.refl _ _⟩⟩
  case round =>
    obtain ⟨i, rfl, hin, K⟩ := hrel
    rcases Nat.lt_or_ge i n with hlt | hge
    · have d1 : decide ((i : Int) < (n : Int)) = true := decide_eq_true (by omega)
      have e1 : IntKind.i64.wrap ((i : Int) + 1) = ((i + 1 : Nat) : Int) := by rw [IntKind.wrap_i64]; omega
      have b1 : (i : Int) < (n : Int) := by omega
      obtain ⟨x, hx⟩ : ∃ x, l[i]? = some x := ⟨_, List.getElem?_eq_getElem (by rw [H.out.1]; exact hlt)⟩
      obtain ⟨B, off, rfl, c0, c1, c2⟩ := (H.out.2.1.below K.out.2) i x hx
      obtain ⟨q, hq⟩ : ∃ q, x.good = q := ⟨_, rfl⟩
      have C := Lib.hid (rgoodspring_any x q · hq)
      have K2 : Hid (l[i]? = some x ∧ (l.take i).all Sp.good = true ∧ Below w.heap.size w wr ∧ x.good = q) := ⟨hx, K.out.1, K.out.2, hq⟩
      clear hx K hq
      obtain ⟨p, nd, s⟩ := x
      simp only at c0 c1 c2 C
      cases q
      · obtain rfl : false = g := by rw [← H.out.2.2]; exact (sp_false K2.out.1 K2.out.2.2.2).symm
        go_wp2_with fail
        refine (C.out _).mono ?_; rintro e hw ⟨rfl, h⟩
        go_wp2
        go_ret
        exact ⟨rfl, below_on K2.out.2.2.1 (by have s0 := h.size; (try simp only [World.heap_drewN, World.size_alloc] at s0); repeat (first | exact Below.refl _ _ | exact h | refine Below.trans ?_ (Below.mono h (by first | omega | (simp; done) | (simp; omega))) | refine Below.setCell ?_ (by first | omega | (simp; done) | (simp; omega)) _ | refine below_dN ?_ _ | refine Below.drew ?_ | refine Below.alloc ?_ (by first | omega | (simp; done) | (simp; omega)) _))⟩
      · go_wp2_with fail
        refine (C.out _).mono ?_; rintro e hw ⟨rfl, h⟩
        go_wp2
        go_roundw
        case rel => exact ⟨i + 1, by first | rfl | simp, by omega, Lib.hid ⟨by rw [sp_next K2.out.1, K2.out.2.1, K2.out.2.2.2]; rfl, below_on K2.out.2.2.1 (by have s0 := h.size; (try simp only [World.heap_drewN, World.size_alloc] at s0); repeat (first | exact Below.refl _ _ | exact h | refine Below.trans ?_ (Below.mono h (by first | omega | (simp; done) | (simp; omega))) | refine Below.setCell ?_ (by first | omega | (simp; done) | (simp; omega)) _ | refine below_dN ?_ _ | refine Below.drew ?_ | refine Below.alloc ?_ (by first | omega | (simp; done) | (simp; omega)) _))⟩⟩
        case measure => simp [intOf]; omega
    · have d1 : decide ((i : Int) < (n : Int)) = false := decide_eq_false (by omega)
      obtain rfl : i = n := by omega
      have hall : l.all Sp.good = true := by have := K.out.1; rw [List.take_of_length_le (by rw [H.out.1]; exact Nat.le_refl _)] at this; exact this
      have e2 : decide ((i : Int) ≤ 20) = g := by
        rw [← H.out.2.2]
        unfold springsB
        rw [hall, Bool.and_true, H.out.1, Bool.eq_iff_iff, decide_eq_true_eq, decide_eq_true_eq]
        omega
      have kb := Lib.hid K.out.2
      clear K hall
      go_wp2
      go_ret
      exact ⟨by first | rfl | exact ret_b e2, kb.out⟩
theorem rroom_any (n : Int) (g : Bool) (w : World) (h : roomB n = g) : Calls Try.prog 25 #[.int .i64 n] w (Ret (.bool g) w) := by
  by_cases h1 : 0 ≤ n
  · have d1 : decide (n ≥ 0) = true := decide_eq_true h1
    have d2 : decide (n ≤ 67108864) = g := by
      rw [← h]; unfold roomB
      rw [Bool.eq_iff_iff, decide_eq_true_eq, decide_eq_true_eq]; omega
    go_enter Try.func25, Try.ntmps25
    go_wp2
    go_ret
    exact ⟨by first | rfl | exact ret_b d2, 0, rfl⟩
  · have d1 : decide (n ≥ 0) = false := decide_eq_false h1
    obtain rfl : false = g := by rw [← h]; unfold roomB; rw [decide_eq_false (by omega)]
    go_enter Try.func25, Try.ntmps25
    go_wp2
    go_ret
    first | exact ⟨rfl, 0, rfl⟩ | exact ⟨rfl, _, rfl⟩
def floorOk (l : List Sp) : Bool := springsB l
def floorV (l : List Sp) : Int := if springsB l then floorZ l else 0
theorem smap_take_next {f : Sp → Int} {l : List Sp} {i : Nat} {x : Sp} (h : l[i]? = some x) : smap f (l.take (i + 1)) = smap f (l.take i) + f x := by
  unfold smap
  rw [List.take_add_one, h, List.map_append, List.sum_append]
  simp
theorem smap_bounds {f : Sp → Int} {b : Int} : ∀ {l : List Sp}, (∀ s ∈ l, 0 ≤ f s ∧ f s ≤ b) → 0 ≤ smap f l ∧ smap f l ≤ b * (l.length : Int)
  | [], _ => by simp [smap]
  | x :: l, h => by
    have h1 := h x (by simp)
    have h2 := smap_bounds (f := f) (b := b) (l := l) (fun y hy => h y (by simp [hy]))
    rw [smap_cons, List.length_cons, Int.natCast_add, Int.mul_add]; omega
theorem fix_bounds {s : Sp} (h : s.good = true) : 0 ≤ fixS s ∧ fixS s ≤ 67108864 := by
  have := sp_iff.1 h
  unfold fixS
  split <;> omega
set_option maxHeartbeats 1600000 in
set_option maxRecDepth 100000 in
theorem rfloor_any (A : Option Addr) (cap : Nat) (l : List Sp) (v : Int) (o : Bool) (w : World) (hcap : cap ≤ 9223372036854775807) (hlc : l.length ≤ cap) (hR : RdSp w A l) (hv : floorV l = v) (ho : floorOk l = o) :
    Calls Try.prog 16 #[.slice A l.length cap] w (RetB (.tuple #[.int .i64 v, .bool o]) w) := by
  have C1 := Lib.hid (rsprings_any A cap l o w hcap hlc hR ho)
  unfold floorOk at ho
  unfold floorV at hv
  rw [ho] at hv
  cases o
  · obtain rfl : 0 = v := hv
    generalize l.length = n at *
    clear hR ho
    go_enter Try.func16, Try.ntmps16
    go_wp2_with fail
    refine C1.out.mono ?_; rintro e gw ⟨rfl, g⟩
    clear C1
    go_wp2
    go_ret2
    exact ⟨rfl, by have s0 := g.size; (try simp only [World.heap_drewN, World.size_alloc] at s0); repeat (first | exact Below.refl _ _ | exact g | refine Below.trans ?_ (Below.mono g (by first | omega | (simp; done) | (simp; omega))) | refine Below.setCell ?_ (by first | omega | (simp; done) | (simp; omega)) _ | refine below_dN ?_ _ | refine Below.drew ?_ | refine Below.alloc ?_ (by first | omega | (simp; done) | (simp; omega)) _)⟩
  · obtain ⟨h20, hgood⟩ := springs_iff.1 ho
    obtain ⟨n, hl⟩ : ∃ n, l.length = n := ⟨_, rfl⟩
    have H := Lib.hid (And.intro hl (And.intro hR (And.intro hgood hv)))
    rw [hl] at C1 hlc h20 ⊢
    clear hl hR hv ho hgood
    go_enter Try.func16, Try.ntmps16
    go_wp2_with fail
    refine C1.out.mono ?_; rintro e gw ⟨rfl, g⟩
    replace g := Lib.hid g
    clear C1
    go_wp2
    go_loopw [4, 5] (fun sv st wr => ∃ (i : Nat) (u : Int), sv = .int .i64 u ∧ st = .int .i64 (i : Int) ∧ i ≤ n ∧ wr = gw ∧ Hid (smap fixS (l.take i) = u)) (fun _ st _ => n - (intOf st).toNat)
    case atStart => exact ⟨0, 0, rfl, rfl, by omega, rfl, Lib.hid (by simp [smap])⟩
    case round =>
      obtain ⟨i, u, rfl, rfl, hin, rfl, K⟩ := hrel
      rcases Nat.lt_or_ge i n with hlt | hge
      · have d1 : decide ((i : Int) < (n : Int)) = true := decide_eq_true (by omega)
        have e1 : IntKind.i64.wrap ((i : Int) + 1) = ((i + 1 : Nat) : Int) := by rw [IntKind.wrap_i64]; omega
        have b1 : (i : Int) < (n : Int) := by omega
        obtain ⟨x, hx⟩ : ∃ x, l[i]? = some x := ⟨_, List.getElem?_eq_getElem (by rw [H.out.1]; exact hlt)⟩
        obtain ⟨B, off, rfl, c0, c1, c2⟩ := (H.out.2.1.below g.out) i x hx
        have hb := smap_bounds (f := fixS) (b := 67108864) (l := l.take i) (fun s hs => fix_bounds (H.out.2.2.1 s (List.mem_of_mem_take hs)))
        rw [K.out, List.length_take] at hb
        have hb2 := fix_bounds (H.out.2.2.1 x (List.mem_of_getElem? hx))
        have K2 : Hid (smap fixS (l.take (i + 1)) = u + fixS x) := by show _ = _; rw [smap_take_next hx, K.out]
        have hfs : fixS x = if x.soft = 0 then x.want else x.least := rfl
        clear hx K
        obtain ⟨p, nd, s⟩ := x
        simp only at c0 c1 c2 hfs
        by_cases h0 : s = 0
        · rw [if_pos h0] at hfs
          rw [hfs] at K2 hb2
          have k : (s == 0) = true := beq_iff_eq.2 h0
          obtain ⟨u2, hu2⟩ : ∃ z, u + p = z := ⟨_, rfl⟩
          have e2 : wrap64 (u + p) = u2 := by unfold wrap64; omega
          rw [hu2] at K2
          clear h0 hfs hb hb2 hu2
          go_wp2
          go_roundw
          case rel => exact ⟨i + 1, u2, by first | rfl | (simp; done) | rw [e2], by first | rfl | simp, by omega, by first | rfl | trivial, K2⟩
          case measure => simp [intOf]; omega
        · rw [if_neg h0] at hfs
          rw [hfs] at K2 hb2
          have k : (s == 0) = false := beq_eq_false_iff_ne.2 h0
          obtain ⟨u2, hu2⟩ : ∃ z, u + nd = z := ⟨_, rfl⟩
          have e2 : wrap64 (u + nd) = u2 := by unfold wrap64; omega
          rw [hu2] at K2
          clear h0 hfs hb hb2 hu2
          go_wp2
          go_roundw
          case rel => exact ⟨i + 1, u2, by first | rfl | (simp; done) | rw [e2], by first | rfl | simp, by omega, by first | rfl | trivial, K2⟩
          case measure => simp [intOf]; omega
      · have d1 : decide ((i : Int) < (n : Int)) = false := decide_eq_false (by omega)
        obtain rfl : u = v := by
          rw [← H.out.2.2.2, ← K.out, List.take_of_length_le (by rw [H.out.1]; exact hge)]
          rfl
        clear K
        go_wp2
        go_ret2
        exact ⟨rfl, by have s0 := g.out.size; (try simp only [World.heap_drewN, World.size_alloc] at s0); repeat (first | exact Below.refl _ _ | exact g.out | refine Below.trans ?_ (Below.mono g.out (by first | omega | (simp; done) | (simp; omega))) | refine Below.setCell ?_ (by first | omega | (simp; done) | (simp; omega)) _ | refine below_dN ?_ _ | refine Below.drew ?_ | refine Below.alloc ?_ (by first | omega | (simp; done) | (simp; omega)) _)⟩
end Go.Proofs.Ytkjgpidiompmlaa
