/- A pile in memory; find and Has. -/
import Derived.Test.YtgbmpnoknmpmcaaPlCmp
namespace Go.Proofs.Ytgbmpnoknmpmcaa
open Go.RowKit
set_option linter.unusedVariables false
set_option linter.unusedSimpArgs false

/-- The cells at A hold the items l. -/
def RdI (w : World) (A : Option Addr) (l : List It) : Prop :=
  ∀ (i : Nat) (x : It), l[i]? = some x → ∃ g, A = some ⟨g, 0, none⟩ ∧ g < w.heap.size ∧ w.cell? ⟨g, i * 3, none⟩ = some (.int .i64 x.1) ∧ w.cell? ⟨g, i * 3 + 1, none⟩ = some (.int .i64 x.2.1) ∧ w.cell? ⟨g, i * 3 + 2, none⟩ = some (.int .i64 x.2.2)
theorem RdI.below {w w' : World} {A : Option Addr} {l : List It} (h : RdI w A l) (hb : Below w.heap.size w w') : RdI w' A l := by
  intro i x hx
  obtain ⟨g, rfl, hg, h0, h1, h2⟩ := h i x hx
  exact ⟨g, rfl, Nat.lt_of_lt_of_le hg hb.size, by rw [hb.cell (p := ⟨g, i * 3, none⟩) hg]; exact h0, by rw [hb.cell (p := ⟨g, i * 3 + 1, none⟩) hg]; exact h1, by rw [hb.cell (p := ⟨g, i * 3 + 2, none⟩) hg]; exact h2⟩
theorem Row.caps {o : Nat → Nat} {σ : Nat} {w : World} {e : TypeId} {size n cap : Nat} {A : Option Addr} {xs : List Value} (h : Row o σ w e size (.slice A n cap) n xs) : n ≤ cap ∧ cap ≤ 9223372036854775807 := by
  rcases h.own.2 with ⟨hv, h0⟩ | ⟨g, cap', cur, hv, _, _, h1, h2, _⟩
  · injection hv with h1 h2 h3; omega
  · injection hv with h4 h5 h6; unfold maxLen at h2; omega
section
variable {o o' : Nat → Nat} {σ τ : Nat} {w w' : World} {e : TypeId} {A : Option Addr} {cap : Nat} {l : List It}
theorem Row.rd (h : Row o σ w e 3 (.slice A l.length cap) l.length (cellsI l)) : RdI w A l := by
  intro i x hx
  have hi := (List.getElem?_eq_some_iff.1 hx).1
  obtain ⟨g, c, hv, _, _, _, hg⟩ := h.form (by omega)
  cases hv
  have q := cellsI_get l i x hx
  exact ⟨g, rfl, hg, by rw [h.cellAt _ (by omega)]; exact q.1, by rw [h.cellAt _ (by omega)]; exact q.2.1, by rw [h.cellAt _ (by omega)]; exact q.2.2⟩

/-- Block a is a pile of room places that holds the items l. -/
structure Pl (o : Nat → Nat) (σ : Nat) (w : World) (a room : Nat) (v : Value) (l : List It) : Prop where
  box : Blk o σ w a #[.int .i64 (room : Int), v] 57
  row : Row o σ w 29 3 v l.length (cellsI l)
variable {a room : Nat} {v : Value}
theorem Pl.alloc (h : Pl o σ w a room v l) (x : Obj) (τ' : Nat) : Pl (tag o w.heap.size τ') σ (w.alloc x) a room v l := ⟨h.box.alloc x τ', h.row.alloc x τ'⟩
theorem Pl.drewN (h : Pl o σ w a room v l) (n : Nat) : Pl o σ (w.drewN n) a room v l := ⟨⟨h.box.at_, h.box.mine⟩, ⟨h.row.own, h.row.mine⟩⟩
theorem Pl.below (h : Pl o σ w a room v l) (hb : Below w.heap.size w w') : Pl o σ w' a room v l := ⟨h.box.below hb, h.row.below hb⟩
theorem Pl.step (h : Pl o σ w a room v l) (st : Step o o' τ w w') (hne : σ ≠ τ) : Pl o' σ w' a room v l := ⟨h.box.step st hne, h.row.step st hne⟩
end

set_option maxHeartbeats 400000 in
theorem find1_any (x : It) (id : Int) (B : Nat) (w : World) (hB : B < w.heap.size) (hc : w.cell? ⟨B, 0, none⟩ = some (.int .i64 id)) :
    Calls Try.prog 33 #[.agg #[.int .i64 x.1, .int .i64 x.2.1, .int .i64 x.2.2], .pointer (some ⟨B, 0, none⟩)] w (RetB (.bool (decide (x.1 = id))) w) := by
  have hne : B ≠ w.heap.size := by omega
  generalize hr : decide (x.1 = id) = r
  have hr' : (x.1 == id) = r := by rw [← hr]; rfl
  clear hr
  go_enter Try.func33, Try.ntmps33
  go_wp2
  go_ret
  exact ⟨by first | rfl | simp [hr'], by repeat (first | exact Below.refl _ _ | refine Below.setCell ?_ (by first | omega | (simp; done) | (simp; omega)) _ | refine below_dN ?_ _ | refine Below.drew ?_ | refine Below.alloc ?_ (by first | omega | (simp; done) | (simp; omega)) _)⟩
set_option maxHeartbeats 1600000 in
theorem index_any (A : Option Addr) (cap : Nat) (l : List It) (id c : Int) (B : Nat) (w : World) (hn : l.length ≤ 1000) (hB : B < w.heap.size) (hc : w.cell? ⟨B, 0, none⟩ = some (.int .i64 id)) (hR : RdI w A l) (hi : idxI id l = c) (hcap : cap ≤ 9223372036854775807) (hlc : l.length ≤ cap) :
    Calls Try.prog 32 #[.slice A l.length cap, .func (.func 33) #[] #[.pointer (some ⟨B, 0, none⟩)]] w (RetB (.int .i64 c) w) := by
  have C := Lib.hid (fun (x : It) (w' : World) (hb : Below w.heap.size w w') => find1_any x id B w' (Nat.lt_of_lt_of_le hB hb.size) (by rw [hb.cell (p := ⟨B, 0, none⟩) hB]; exact hc))
  replace hR := Lib.hid hR
  clear hc
  go_enter Try.func32, Try.ntmps32
  go_wp2
  go_loopw [8] (fun st wr => ∃ (i : Nat), st = .int .i64 (i : Int) ∧ i ≤ l.length ∧ (∀ z ∈ l.take i, z.1 ≠ id) ∧ Below w.heap.size w wr) (fun st _ => l.length - (intOf st).toNat)
  case atStart => exact ⟨0, rfl, by omega, by simp, Below.refl _ _⟩
  case round =>
    obtain ⟨i, rfl, hi2, hz, hb⟩ := hrel
    rcases Nat.lt_or_ge i l.length with hlt | hge
    · obtain ⟨x, hx⟩ : ∃ x, l[i]? = some x := ⟨_, List.getElem?_eq_getElem hlt⟩
      obtain ⟨g, rfl, hg, d0, d1, d2⟩ := (hR.out.below hb) i x hx
      have F := Lib.hid (And.intro hz (And.intro hb hx))
      clear hz hb hx
      go_wp2_with fail
      refine (C.out x _ F.out.2.1).mono ?_
      rintro e w2 ⟨rfl, hb2⟩
      by_cases he : x.1 = id
      · have he' : decide (x.1 = id) = true := decide_eq_true he
        rw [he']
        have hci : c = (i : Int) := by rw [← hi]; exact idx_at F.out.1 F.out.2.2 he
        subst hci
        clear he he' hi
        replace hb2 := Lib.hid hb2
        go_wp2
        go_ret
        exact ⟨rfl, below_on F.out.2.1 hb2.out⟩
      · have he' : decide (x.1 = id) = false := decide_eq_false he
        rw [he']
        have F2 := Lib.hid (And.intro (take_next F.out.1 F.out.2.2 he) (below_on F.out.2.1 hb2))
        clear he he' hb2 F
        go_wp2
        go_roundw
        case rel => exact ⟨i + 1, by simp, by omega, F2.out.1, F2.out.2⟩
        case measure => simp [intOf]; omega
    · obtain rfl : i = l.length := by omega
      rw [List.take_length] at hz
      have hc1 : c = -1 := by rw [← hi]; exact idx_out hz
      subst hc1
      replace hb := Lib.hid hb
      clear hi hz
      go_wp2
      go_ret
      exact ⟨rfl, hb.out⟩
section
variable {o : Nat → Nat} {σ : Nat} {w : World} {a room : Nat} {v : Value} {l : List It}
set_option maxHeartbeats 800000 in
theorem pfind (id c : Int) (h : Pl o σ w a room v l) (hl : l.length ≤ 1000) (hc : idxI id l = c) :
    Calls Try.prog 24 #[.pointer (some ⟨a, 0, none⟩), .int .i64 id] w (RetB (.int .i64 c) w) := by
  obtain ⟨A, cap, rfl⟩ := h.row.any
  have hcap := h.row.caps
  have h1 := h.alloc (.cells #[.int .i64 id] 3) 0
  have C := Lib.hid (index_any A cap l id c w.heap.size _ hl (by simp) (by simp) h1.row.rd hc hcap.2 hcap.1)
  have c1 : (w.alloc (.cells #[.int .i64 id] 3)).cell? ⟨a, 1, none⟩ = some (.slice A l.length cap) := by rw [h1.box.cell]; simp
  clear h h1 hcap
  go_enter Try.func24, Try.ntmps24
  go_wp2_with fail
  refine C.out.mono ?_
  rintro e gw ⟨rfl, g⟩
  go_wp2
  go_ret
  exact ⟨rfl, by have s0 := g.size; (try simp only [World.heap_drewN, World.size_alloc] at s0); repeat (first | exact Below.refl _ _ | exact g | refine Below.trans ?_ (Below.mono g (by first | omega | (simp; done) | (simp; omega))) | refine Below.setCell ?_ (by first | omega | (simp; done) | (simp; omega)) _ | refine below_dN ?_ _ | refine Below.drew ?_ | refine Below.alloc ?_ (by first | omega | (simp; done) | (simp; omega)) _)⟩
set_option maxHeartbeats 800000 in
theorem phas (id : Int) (b : Bool) (h : Pl o σ w a room v l) (hl : l.length ≤ 1000) (hb : decide (0 ≤ idxI id l) = b) :
    Calls Try.prog 21 #[.pointer (some ⟨a, 0, none⟩), .int .i64 id] w (RetB (.bool b) w) := by
  obtain ⟨c, hc⟩ : ∃ c, idxI id l = c := ⟨_, rfl⟩
  have C := Lib.hid (pfind id c h hl hc)
  rw [hc] at hb
  have hb' : decide (c ≥ 0) = b := hb
  clear h hc hb
  go_enter Try.func21, Try.ntmps21
  go_wp2_with fail
  refine C.out.mono ?_
  rintro e gw ⟨rfl, g⟩
  go_wp2
  go_ret
  exact ⟨rfl, by have s0 := g.size; (try simp only [World.heap_drewN, World.size_alloc] at s0); repeat (first | exact Below.refl _ _ | exact g | refine Below.trans ?_ (Below.mono g (by first | omega | (simp; done) | (simp; omega))) | refine Below.setCell ?_ (by first | omega | (simp; done) | (simp; omega)) _ | refine below_dN ?_ _ | refine Below.drew ?_ | refine Below.alloc ?_ (by first | omega | (simp; done) | (simp; omega)) _)⟩
end
end Go.Proofs.Ytgbmpnoknmpmcaa
