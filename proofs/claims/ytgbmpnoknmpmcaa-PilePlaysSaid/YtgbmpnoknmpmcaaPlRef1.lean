/- The document's pile in memory: Find, and the order of its items. -/
import Derived.Test.YtgbmpnoknmpmcaaPlLawM
namespace Go.Proofs.Ytgbmpnoknmpmcaa
open Go.RowKit
set_option linter.unusedVariables false
set_option linter.unusedSimpArgs false

/-- Block b is the document's pile of room places that holds the items l. -/
structure Rp (o : Nat → Nat) (σ : Nat) (w : World) (b room : Nat) (v : Value) (l : List It) : Prop where
  box : Blk o σ w b #[.int .i64 (room : Int), v] 38
  row : Row o σ w 42 3 v l.length (cellsI l)
section
variable {o o' : Nat → Nat} {σ τ : Nat} {w w' : World} {b room : Nat} {v : Value} {l : List It}
theorem Rp.alloc (h : Rp o σ w b room v l) (x : Obj) (τ' : Nat) : Rp (tag o w.heap.size τ') σ (w.alloc x) b room v l := ⟨h.box.alloc x τ', h.row.alloc x τ'⟩
theorem Rp.drewN (h : Rp o σ w b room v l) (n : Nat) : Rp o σ (w.drewN n) b room v l := ⟨⟨h.box.at_, h.box.mine⟩, ⟨h.row.own, h.row.mine⟩⟩
theorem Rp.below (h : Rp o σ w b room v l) (hb : Below w.heap.size w w') : Rp o σ w' b room v l := ⟨h.box.below hb, h.row.below hb⟩
theorem Rp.step (h : Rp o σ w b room v l) (st : Step o o' τ w w') (hne : σ ≠ τ) : Rp o' σ w' b room v l := ⟨h.box.step st hne, h.row.step st hne⟩
theorem Rp.far {p : Addr} (h : Rp o σ w b room v l) (hp : o p.block ≠ σ) (u : Value) : Rp o σ (w.setCell p u) b room v l :=
  ⟨h.box.other (fun e => hp (by rw [← e]; exact h.box.mine)) u, h.row.other (fun e => hp (h.row.mine _ e)) u⟩
set_option maxHeartbeats 1600000 in
theorem rfind (id c : Int) (h : Rp o σ w b room v l) (hl : l.length ≤ 1000) (hc : idxI id l = c) :
    Calls Try.prog 22 #[.pointer (some ⟨b, 0, none⟩), .int .i64 id] w fun e w' => e = .returned (.int .i64 c) ∧ w' = w := by
  obtain ⟨A, cap, rfl⟩ := h.row.any
  obtain ⟨hlc, hcap⟩ := h.row.caps
  have c1 : w.cell? ⟨b, 1, none⟩ = some (.slice A l.length cap) := by rw [h.box.cell]; simp
  have hR := Lib.hid h.row.rd
  clear h
  go_enter Try.func22, Try.ntmps22
  go_wp2
  go_loopw [5] (fun st wr => ∃ (i : Nat), st = .int .i64 (i : Int) ∧ i ≤ l.length ∧ (∀ z ∈ l.take i, z.1 ≠ id) ∧ wr = w) (fun st _ => l.length - (intOf st).toNat)
  case atStart => exact ⟨0, rfl, by omega, by simp, rfl⟩
  case round =>
    obtain ⟨i, rfl, hi2, hz, rfl⟩ := hrel
    rcases Nat.lt_or_ge i l.length with hlt | hge
    · obtain ⟨x, hx⟩ : ∃ x, l[i]? = some x := ⟨_, List.getElem?_eq_getElem hlt⟩
      obtain ⟨g, rfl, hg, d0, d1, d2⟩ := hR.out i x hx
      by_cases he : x.1 = id
      · have hci : c = (i : Int) := by rw [← hc]; exact idx_at hz hx he
        have he' : (x.1 == id) = true := by simp [he]
        subst hci
        clear he hc hz hx
        go_wp2
        go_ret
        exact ⟨rfl, rfl⟩
      · have he' : (x.1 == id) = false := by simp [he]
        have F2 := Lib.hid (take_next hz hx he)
        clear he hz hx
        go_wp2
        go_roundw
        case rel => exact ⟨i + 1, by simp, by omega, F2.out, by first | rfl | trivial⟩
        case measure => simp [intOf]; omega
    · obtain rfl : i = l.length := by omega
      rw [List.take_length] at hz
      have hc1 : c = -1 := by rw [← hc]; exact idx_out hz
      subst hc1
      clear hc hz
      go_wp2
      go_ret
      exact ⟨rfl, rfl⟩
end
set_option maxHeartbeats 1600000 in
theorem before_any (x y : It) (r : Bool) (hr : ltI x y = r) (w : World) : Calls Try.prog 35 #[vI x, vI y] w (RetB (.bool r) w) := by
  obtain ⟨xi, xk, xt⟩ := x
  obtain ⟨yi, yk, yt⟩ := y
  simp only [ltI] at hr
  unfold vI
  simp only
  go_enter Try.func35, Try.ntmps35
  by_cases h1 : xk = yk
  · have e1 : (xk != yk) = false := by simp [h1]
    by_cases h2 : xt = yt
    · have e2 : (xt != yt) = false := by simp [h2]
      have e3 : decide (xi < yi) = r := by rw [← hr]; simp [h1, h2]
      clear hr h1 h2
      go_wp2
      go_ret
      exact ⟨by rw [← e3]; rfl, by repeat (first | exact Below.refl _ _ | refine Below.setCell ?_ (by first | omega | (simp; done) | (simp; omega)) _ | refine below_dN ?_ _ | refine Below.drew ?_ | refine Below.alloc ?_ (by first | omega | (simp; done) | (simp; omega)) _)⟩
    · have e2 : (xt != yt) = true := by simp [h2]
      have e3 : decide (xt < yt) = r := by rw [← hr]; simp [h1, h2]
      clear hr h1 h2
      go_wp2
      go_ret
      exact ⟨by rw [← e3]; rfl, by repeat (first | exact Below.refl _ _ | refine Below.setCell ?_ (by first | omega | (simp; done) | (simp; omega)) _ | refine below_dN ?_ _ | refine Below.drew ?_ | refine Below.alloc ?_ (by first | omega | (simp; done) | (simp; omega)) _)⟩
  · have e1 : (xk != yk) = true := by simp [h1]
    have e3 : decide (xk < yk) = r := by rw [← hr]; simp [h1]
    clear hr h1
    go_wp2
    go_ret
    exact ⟨by rw [← e3]; rfl, by repeat (first | exact Below.refl _ _ | refine Below.setCell ?_ (by first | omega | (simp; done) | (simp; omega)) _ | refine below_dN ?_ _ | refine Below.drew ?_ | refine Below.alloc ?_ (by first | omega | (simp; done) | (simp; omega)) _)⟩
end Go.Proofs.Ytgbmpnoknmpmcaa
