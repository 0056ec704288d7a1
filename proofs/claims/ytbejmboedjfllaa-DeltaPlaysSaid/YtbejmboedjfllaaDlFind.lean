/- A queue in memory; find. -/
import Derived.Test.YtbejmboedjfllaaDlMath
namespace Go.Proofs.Ytbejmboedjfllaa
open Go.RowKit
set_option linter.unusedVariables false
set_option linter.unusedSimpArgs false

/-- The cells at A hold the timers l. -/
def RdT (w : World) (A : Option Addr) (l : List Tm) : Prop :=
  ∀ (i : Nat) (x : Tm), l[i]? = some x → ∃ g, A = some ⟨g, 0, none⟩ ∧ g < w.heap.size ∧ w.cell? ⟨g, i * 2, none⟩ = some (.int .i64 x.1) ∧ w.cell? ⟨g, i * 2 + 1, none⟩ = some (.int .i64 x.2)
theorem RdT.below {w w' : World} {A : Option Addr} {l : List Tm} (h : RdT w A l) (hb : Below w.heap.size w w') : RdT w' A l := by
  intro i x hx
  obtain ⟨g, rfl, hg, h0, h1⟩ := h i x hx
  exact ⟨g, rfl, Nat.lt_of_lt_of_le hg hb.size, by rw [hb.cell (p := ⟨g, i * 2, none⟩) hg]; exact h0, by rw [hb.cell (p := ⟨g, i * 2 + 1, none⟩) hg]; exact h1⟩
theorem Row.caps {o : Nat → Nat} {σ : Nat} {w : World} {e : TypeId} {size n cap : Nat} {A : Option Addr} {xs : List Value} (h : Row o σ w e size (.slice A n cap) n xs) : n ≤ cap ∧ cap ≤ 9223372036854775807 := by
  rcases h.own.2 with ⟨hv, h0⟩ | ⟨g, cap', cur, hv, _, _, h1, h2, _⟩
  · injection hv with h1 h2 h3; omega
  · injection hv with h4 h5 h6; unfold maxLen at h2; omega
section
variable {o o' : Nat → Nat} {σ τ : Nat} {w w' : World} {e : TypeId} {A : Option Addr} {cap : Nat} {l : List Tm}
theorem Row.rdT (h : Row o σ w e 2 (.slice A l.length cap) l.length (cellsT l)) : RdT w A l := by
  intro i x hx
  have hi := (List.getElem?_eq_some_iff.1 hx).1
  obtain ⟨g, c, hv, _, _, _, hg⟩ := h.form (by omega)
  cases hv
  have q := cellsT_get l i x hx
  exact ⟨g, rfl, hg, by rw [h.cellAt _ (by omega)]; exact q.1, by rw [h.cellAt _ (by omega)]; exact q.2⟩

/-- Block a is a queue of room places at time now that holds the timers l. -/
structure Qu (o : Nat → Nat) (σ : Nat) (w : World) (a room : Nat) (now : Nat) (v : Value) (l : List Tm) : Prop where
  box : Blk o σ w a #[.int .i64 (room : Int), .int .i64 (now : Int), v] 49
  row : Row o σ w 51 2 v l.length (cellsT l)
variable {a room now : Nat} {v : Value}
theorem Qu.alloc (h : Qu o σ w a room now v l) (x : Obj) (τ' : Nat) : Qu (tag o w.heap.size τ') σ (w.alloc x) a room now v l := ⟨h.box.alloc x τ', h.row.alloc x τ'⟩
theorem Qu.drewN (h : Qu o σ w a room now v l) (n : Nat) : Qu o σ (w.drewN n) a room now v l := ⟨⟨h.box.at_, h.box.mine⟩, ⟨h.row.own, h.row.mine⟩⟩
theorem Qu.below (h : Qu o σ w a room now v l) (hb : Below w.heap.size w w') : Qu o σ w' a room now v l := ⟨h.box.below hb, h.row.below hb⟩
theorem Qu.step (h : Qu o σ w a room now v l) (st : Step o o' τ w w') (hne : σ ≠ τ) : Qu o' σ w' a room now v l := ⟨h.box.step st hne, h.row.step st hne⟩
end

set_option maxHeartbeats 400000 in
theorem find1_any (x : Tm) (id : Int) (B : Nat) (w : World) (hB : B < w.heap.size) (hc : w.cell? ⟨B, 0, none⟩ = some (.int .i64 id)) :
    Calls Try.prog 27 #[.agg #[.int .i64 x.1, .int .i64 x.2], .pointer (some ⟨B, 0, none⟩)] w (RetB (.bool (isId id x)) w) := by
  have hne : B ≠ w.heap.size := by omega
  unfold isId
  generalize hr : decide (x.1 = id) = r
  have hr' : (x.1 == id) = r := by rw [← hr]; rfl
  clear hr
  go_enter Try.func27, Try.ntmps27
  go_wp2
  go_ret
  exact ⟨by first | rfl | simp [hr'], by repeat (first | exact Below.refl _ _ | refine Below.setCell ?_ (by first | omega | (simp; done) | (simp; omega)) _ | refine below_dN ?_ _ | refine Below.drew ?_ | refine Below.alloc ?_ (by first | omega | (simp; done) | (simp; omega)) _)⟩
set_option maxHeartbeats 400000 in
theorem tick1_any (x : Tm) (t : Int) (B a : Nat) (w : World) (hB : B < w.heap.size) (ha : a < w.heap.size) (hc : w.cell? ⟨B, 0, none⟩ = some (.pointer (some ⟨a, 0, none⟩))) (ht : w.cell? ⟨a, 1, none⟩ = some (.int .i64 t)) :
    Calls Try.prog 24 #[.agg #[.int .i64 x.1, .int .i64 x.2], .pointer (some ⟨B, 0, none⟩)] w (RetB (.bool (isAt t x)) w) := by
  have hne : B ≠ w.heap.size := by omega
  have hne2 : a ≠ w.heap.size := by omega
  unfold isAt
  generalize hr : decide (x.2 = t) = r
  have hr' : (x.2 == t) = r := by rw [← hr]; rfl
  clear hr
  go_enter Try.func24, Try.ntmps24
  go_wp2
  go_quiet (fail)
  go_wp2
  go_ret
  exact ⟨by first | rfl | simp [hr'], by repeat (first | exact Below.refl _ _ | refine Below.setCell ?_ (by first | omega | (simp; done) | (simp; omega)) _ | refine below_dN ?_ _ | refine Below.drew ?_ | refine Below.alloc ?_ (by first | omega | (simp; done) | (simp; omega)) _)⟩
set_option maxHeartbeats 1600000 in
theorem index_find (A : Option Addr) (cap : Nat) (l : List Tm) (id c : Int) (B : Nat) (w : World) (hn : l.length ≤ 1000) (hB : B < w.heap.size) (hc : w.cell? ⟨B, 0, none⟩ = some (.int .i64 id)) (hR : RdT w A l) (hi : idxP (isId id) l = c) (hcap : cap ≤ 9223372036854775807) (hlc : l.length ≤ cap) :
    Calls Try.prog 26 #[.slice A l.length cap, .func (.func 27) #[] #[.pointer (some ⟨B, 0, none⟩)]] w (RetB (.int .i64 c) w) := by
  have C := Lib.hid (fun (x : Tm) (w' : World) (hb : Below w.heap.size w w') => find1_any x id B w' (Nat.lt_of_lt_of_le hB hb.size) (by rw [hb.cell (p := ⟨B, 0, none⟩) hB]; exact hc))
  replace hR := Lib.hid hR
  clear hc
  go_enter Try.func26, Try.ntmps26
  go_wp2
  go_loopw [8] (fun st wr => ∃ (i : Nat), st = .int .i64 (i : Int) ∧ i ≤ l.length ∧ (∀ z ∈ l.take i, isId id z = false) ∧ Below w.heap.size w wr) (fun st _ => l.length - (intOf st).toNat)
  case atStart => exact ⟨0, rfl, by omega, by simp, Below.refl _ _⟩
  case round =>
    obtain ⟨i, rfl, hi2, hz, hb⟩ := hrel
    rcases Nat.lt_or_ge i l.length with hlt | hge
    · obtain ⟨x, hx⟩ : ∃ x, l[i]? = some x := ⟨_, List.getElem?_eq_getElem hlt⟩
      obtain ⟨g, rfl, hg, d0, d1⟩ := (hR.out.below hb) i x hx
      have F := Lib.hid (And.intro hz (And.intro hb hx))
      clear hz hb hx
      go_wp2_with fail
      refine (C.out x _ F.out.2.1).mono ?_
      rintro e w2 ⟨rfl, hb2⟩
      cases he : isId id x with
      | true =>
        have hci : c = (i : Int) := by rw [← hi]; exact idxP_at F.out.1 F.out.2.2 he
        subst hci
        clear he hi
        replace hb2 := Lib.hid hb2
        go_wp2
        go_ret
        exact ⟨rfl, below_on F.out.2.1 hb2.out⟩
      | false =>
        have F2 := Lib.hid (And.intro (takeP_next F.out.1 F.out.2.2 he) (below_on F.out.2.1 hb2))
        clear he hb2 F
        go_wp2
        go_roundw
        case rel => exact ⟨i + 1, by simp, by omega, F2.out.1, F2.out.2⟩
        case measure => simp [intOf]; omega
    · obtain rfl : i = l.length := by omega
      rw [List.take_length] at hz
      have hc1 : c = -1 := by rw [← hi]; exact idxP_out hz
      subst hc1
      replace hb := Lib.hid hb
      clear hi hz
      go_wp2
      go_ret
      exact ⟨rfl, hb.out⟩
set_option maxHeartbeats 1600000 in
theorem index_tick (A : Option Addr) (cap : Nat) (l : List Tm) (t c : Int) (B a : Nat) (w : World) (hn : l.length ≤ 1000) (hB : B < w.heap.size) (ha : a < w.heap.size) (hc : w.cell? ⟨B, 0, none⟩ = some (.pointer (some ⟨a, 0, none⟩))) (ht : w.cell? ⟨a, 1, none⟩ = some (.int .i64 t)) (hR : RdT w A l) (hi : idxP (isAt t) l = c) (hcap : cap ≤ 9223372036854775807) (hlc : l.length ≤ cap) :
    Calls Try.prog 26 #[.slice A l.length cap, .func (.func 24) #[] #[.pointer (some ⟨B, 0, none⟩)]] w (RetB (.int .i64 c) w) := by
  have C := Lib.hid (fun (x : Tm) (w' : World) (hb : Below w.heap.size w w') => tick1_any x t B a w' (Nat.lt_of_lt_of_le hB hb.size) (Nat.lt_of_lt_of_le ha hb.size) (by rw [hb.cell (p := ⟨B, 0, none⟩) hB]; exact hc) (by rw [hb.cell (p := ⟨a, 1, none⟩) ha]; exact ht))
  replace hR := Lib.hid hR
  clear hc ht
  go_enter Try.func26, Try.ntmps26
  go_wp2
  go_loopw [8] (fun st wr => ∃ (i : Nat), st = .int .i64 (i : Int) ∧ i ≤ l.length ∧ (∀ z ∈ l.take i, isAt t z = false) ∧ Below w.heap.size w wr) (fun st _ => l.length - (intOf st).toNat)
  case atStart => exact ⟨0, rfl, by omega, by simp, Below.refl _ _⟩
  case round =>
    obtain ⟨i, rfl, hi2, hz, hb⟩ := hrel
    rcases Nat.lt_or_ge i l.length with hlt | hge
    · obtain ⟨x, hx⟩ : ∃ x, l[i]? = some x := ⟨_, List.getElem?_eq_getElem hlt⟩
      obtain ⟨g, rfl, hg, d0, d1⟩ := (hR.out.below hb) i x hx
      have F := Lib.hid (And.intro hz (And.intro hb hx))
      clear hz hb hx
      go_wp2_with fail
      refine (C.out x _ F.out.2.1).mono ?_
      rintro e w2 ⟨rfl, hb2⟩
      cases he : isAt t x with
      | true =>
        have hci : c = (i : Int) := by rw [← hi]; exact idxP_at F.out.1 F.out.2.2 he
        subst hci
        clear he hi
        replace hb2 := Lib.hid hb2
        go_wp2
        go_ret
        exact ⟨rfl, below_on F.out.2.1 hb2.out⟩
      | false =>
        have F2 := Lib.hid (And.intro (takeP_next F.out.1 F.out.2.2 he) (below_on F.out.2.1 hb2))
        clear he hb2 F
        go_wp2
        go_roundw
        case rel => exact ⟨i + 1, by simp, by omega, F2.out.1, F2.out.2⟩
        case measure => simp [intOf]; omega
    · obtain rfl : i = l.length := by omega
      rw [List.take_length] at hz
      have hc1 : c = -1 := by rw [← hi]; exact idxP_out hz
      subst hc1
      replace hb := Lib.hid hb
      clear hi hz
      go_wp2
      go_ret
      exact ⟨rfl, hb.out⟩
section
variable {o : Nat → Nat} {σ : Nat} {w : World} {a room now : Nat} {v : Value} {l : List Tm}
set_option maxHeartbeats 800000 in
theorem qfind (id c : Int) (h : Qu o σ w a room now v l) (hl : l.length ≤ 1000) (hc : idxP (isId id) l = c) :
    Calls Try.prog 22 #[.pointer (some ⟨a, 0, none⟩), .int .i64 id] w (RetB (.int .i64 c) w) := by
  obtain ⟨A, cap, rfl⟩ := h.row.any
  have hcap := h.row.caps
  have h1 := h.alloc (.cells #[.int .i64 id] 3) 0
  have C := Lib.hid (index_find A cap l id c w.heap.size _ hl (by simp) (by simp) h1.row.rdT hc hcap.2 hcap.1)
  have c1 : (w.alloc (.cells #[.int .i64 id] 3)).cell? ⟨a, 2, none⟩ = some (.slice A l.length cap) := by rw [h1.box.cell]; simp
  clear h h1 hcap
  go_enter Try.func22, Try.ntmps22
  go_wp2_with fail
  refine C.out.mono ?_
  rintro e gw ⟨rfl, g⟩
  go_wp2
  go_ret
  exact ⟨rfl, by have s0 := g.size; (try simp only [World.heap_drewN, World.size_alloc] at s0); repeat (first | exact Below.refl _ _ | exact g | refine Below.trans ?_ (Below.mono g (by first | omega | (simp; done) | (simp; omega))) | refine Below.setCell ?_ (by first | omega | (simp; done) | (simp; omega)) _ | refine below_dN ?_ _ | refine Below.drew ?_ | refine Below.alloc ?_ (by first | omega | (simp; done) | (simp; omega)) _)⟩
end
end Go.Proofs.Ytbejmboedjfllaa
