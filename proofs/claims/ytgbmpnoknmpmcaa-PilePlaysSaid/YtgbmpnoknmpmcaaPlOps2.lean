/- The calls of a pile: Top, Pop, Move, Drop. -/
import Derived.Test.YtgbmpnoknmpmcaaPlOps
namespace Go.Proofs.Ytgbmpnoknmpmcaa
open Go.RowKit
set_option linter.unusedVariables false
set_option linter.unusedSimpArgs false

section
variable {o : Nat → Nat} {σ : Nat} {w : World} {a room : Nat} {v : Value} {l : List It}
theorem Pl.far {p : Addr} (h : Pl o σ w a room v l) (hp : o p.block ≠ σ) (u : Value) : Pl o σ (w.setCell p u) a room v l :=
  ⟨h.box.other (fun e => hp (by rw [← e]; exact h.box.mine)) u, h.row.other (fun e => hp (h.row.mine _ e)) u⟩
set_option maxHeartbeats 1600000 in
theorem ptop (y : It) (b : Bool) (h : Pl o σ w a room v l) (hl : l.length ≤ 1000) (ht : topI l = (y, b)) :
    Calls Try.prog 11 #[.pointer (some ⟨a, 0, none⟩)] w (RetB (.tuple #[vI y, .bool b]) w) := by
  obtain ⟨A, cap, rfl⟩ := h.row.any
  obtain ⟨hlc, hcap⟩ := h.row.caps
  have h1 := h.alloc (.cells #[.int .i64 0, .int .i64 0, .int .i64 0] 29) 0
  have c1 : ∀ ob : Obj, (w.alloc ob).cell? ⟨a, 1, none⟩ = some (.slice A l.length cap) := fun ob => by rw [(h.alloc ob 0).box.cell]; simp
  have ha : a ≠ w.heap.size := by have := h.box.lt; omega
  cases l with
  | nil =>
    simp only [topI, Prod.mk.injEq] at ht
    obtain ⟨rfl, rfl⟩ := ht
    clear h h1
    unfold vI
    go_enter Try.func11, Try.ntmps11
    go_wp2
    (try simp only [Exit.inBlock, Exit.then])
    refine bodyPost_ret (v := .tuple #[.agg #[.int .i64 0, .int .i64 0, .int .i64 0], .bool false]) ?_ rfl ⟨rfl, ?_⟩
    · rw [results_cell_tmp rfl]; go_simp
    · exact by repeat (first | exact Below.refl _ _ | refine Below.setCell ?_ (by first | omega | (simp; done) | (simp; omega)) _ | refine below_dN ?_ _ | refine Below.drew ?_ | refine Below.alloc ?_ (by first | omega | (simp; done) | (simp; omega)) _)
  | cons z l =>
    simp only [topI, Prod.mk.injEq] at ht
    obtain ⟨rfl, rfl⟩ := ht
    obtain ⟨zi, zk, zt⟩ := z
    obtain ⟨g, rfl, hg, d0, d1, d2⟩ := h1.row.rd 0 _ rfl
    obtain ⟨g0, rfl', hg0, _⟩ := h.row.rd 0 _ rfl
    injection rfl' with e1
    injection e1 with e2 _ _
    subst e2
    simp only [Nat.zero_mul, Nat.zero_add] at d0 d1 d2
    have hne : g ≠ w.heap.size := by omega
    clear h h1
    unfold vI
    go_enter Try.func11, Try.ntmps11
    go_wp2
    (try simp only [Exit.inBlock, Exit.then])
    refine bodyPost_ret (v := .tuple #[.agg #[.int .i64 zi, .int .i64 zk, .int .i64 zt], .bool true]) ?_ rfl ⟨rfl, ?_⟩
    · rw [results_cell_tmp rfl]; go_simp
    · exact by repeat (first | exact Below.refl _ _ | refine Below.setCell ?_ (by first | omega | (simp; done) | (simp; omega)) _ | refine below_dN ?_ _ | refine Below.drew ?_ | refine Below.alloc ?_ (by first | omega | (simp; done) | (simp; omega)) _)
set_option maxHeartbeats 1600000 in
theorem ppop (y : It) (b : Bool) (h : Pl o σ w a room v l) (hl : l.length ≤ 1000) (ht : topI l = (y, b)) :
    Calls Try.prog 13 #[.pointer (some ⟨a, 0, none⟩)] w fun e w' => e = .returned (.tuple #[vI y, .bool b]) ∧ ∃ o' v', Step o o' σ w w' ∧ Pl o' σ w' a room v' l.tail := by
  have h1 := h.alloc (.cells #[.int .i64 0, .int .i64 0, .int .i64 0] 29) (σ + 1)
  have st1 := (Step.refl o σ w).alloc (σ + 1) (.cells #[.int .i64 0, .int .i64 0, .int .i64 0] 29)
  have hbx := Blk.made o (σ + 1) w #[.int .i64 0, .int .i64 0, .int .i64 0] 29
  have C1 := Lib.hid (ptop y b h1 hl ht)
  have C2 := Lib.hid (fun (o' : Nat → Nat) (w' : World) (h' : Pl o' σ w' a room v l) (hlt : 0 < l.length) => premove (i := 0) h' hl hlt)
  have F := Lib.hid (And.intro h1 (And.intro st1 hbx))
  clear h h1 st1 hbx
  obtain ⟨yi, yk, yt⟩ := y
  unfold vI at *
  simp only at *
  go_enter Try.func13, Try.ntmps13
  go_wp2_with fail
  refine C1.out.mono ?_
  rintro e gw ⟨rfl, g⟩
  obtain ⟨h1, st1, hbx⟩ := F.out
  have P2 := h1.below g
  have B2 := hbx.below g
  have S2 := st1.below g
  have G := Lib.hid (And.intro P2 (And.intro S2 B2))
  have hlt := B2.lt
  have b0 : ∀ i, gw.frozen? ⟨w.heap.size, i, none⟩ = false := fun i => B2.frozen i
  have b1 : gw.cell? ⟨w.heap.size, 0, none⟩ = some (.int .i64 0) := by rw [B2.cell]; simp
  have b2 : gw.cell? ⟨w.heap.size, 1, none⟩ = some (.int .i64 0) := by rw [B2.cell]; simp
  have b3 : gw.cell? ⟨w.heap.size, 2, none⟩ = some (.int .i64 0) := by rw [B2.cell]; simp
  clear P2 S2 B2 h1 st1 hbx g F C1
  cases l with
  | nil =>
    simp only [topI, Prod.mk.injEq] at ht
    obtain ⟨⟨rfl, rfl, rfl⟩, rfl⟩ := ht
    go_wp2
    (try simp only [Exit.inBlock, Exit.then])
    refine bodyPost_ret (v := .tuple #[.agg #[.int .i64 0, .int .i64 0, .int .i64 0], .bool false]) ?_ rfl ⟨rfl, ?_⟩
    · rw [results_cell_tmp rfl]; go_simp
    · obtain ⟨P2, S2, B2⟩ := G.out
      have hm : tag o w.heap.size (σ + 1) w.heap.size ≠ σ := by rw [B2.mine]; omega
      exact ⟨_, _, ((((S2.setCell (.inl (Nat.le_refl _)) _).setCell (.inl (Nat.le_refl _)) _).setCell (.inl (Nat.le_refl _)) _).alloc (σ + 1) _), (((P2.far hm _).far hm _).far hm _).alloc _ (σ + 1)⟩
  | cons z l =>
    simp only [topI, Prod.mk.injEq] at ht
    obtain ⟨rfl, rfl⟩ := ht
    go_wp2_with fail
    refine (C2.out _ _ (G.out.1.alloc _ (σ + 1)) (by simp)).mono ?_
    rintro e w3 ⟨rfl, o3, v3, st3, P3⟩
    obtain ⟨P2, S2, B2⟩ := G.out
    have B3 := (B2.alloc (.cells #[.int .i64 yi, .int .i64 yk, .int .i64 yt] 29) (σ + 1)).step st3 (by omega)
    have L3 := (Blk.made (tag o w.heap.size (σ + 1)) (σ + 1) gw #[.int .i64 yi, .int .i64 yk, .int .i64 yt] 29).step st3 (by omega)
    have S3 := (S2.alloc (σ + 1) (.cells #[.int .i64 yi, .int .i64 yk, .int .i64 yt] 29)).trans st3
    have k0 : ∀ i, w3.frozen? ⟨w.heap.size, i, none⟩ = false := fun i => B3.frozen i
    have k1 : w3.cell? ⟨w.heap.size, 0, none⟩ = some (.int .i64 0) := by rw [B3.cell]; simp
    have k2 : w3.cell? ⟨w.heap.size, 1, none⟩ = some (.int .i64 0) := by rw [B3.cell]; simp
    have k3 : w3.cell? ⟨w.heap.size, 2, none⟩ = some (.int .i64 0) := by rw [B3.cell]; simp
    have m1 : w3.cell? ⟨gw.heap.size, 0, none⟩ = some (.int .i64 yi) := by rw [L3.cell]; simp
    have m2 : w3.cell? ⟨gw.heap.size, 1, none⟩ = some (.int .i64 yk) := by rw [L3.cell]; simp
    have m3 : w3.cell? ⟨gw.heap.size, 2, none⟩ = some (.int .i64 yt) := by rw [L3.cell]; simp
    have hm : o3 w.heap.size ≠ σ := by rw [B3.mine]; omega
    have K := Lib.hid (And.intro P3 (And.intro S3 hm))
    clear P2 S2 B2 P3 st3 B3 L3 S3 hm G C2 b0 b1 b2 b3
    go_wp2
    (try simp only [Exit.inBlock, Exit.then])
    refine bodyPost_ret (v := .tuple #[.agg #[.int .i64 yi, .int .i64 yk, .int .i64 yt], .bool true]) ?_ rfl ⟨rfl, ?_⟩
    · rw [results_cell_tmp rfl]; go_simp
    · obtain ⟨P3, S3, hm⟩ := K.out
      exact ⟨o3, v3, (((S3.setCell (.inl (Nat.le_refl _)) _).setCell (.inl (Nat.le_refl _)) _).setCell (.inl (Nat.le_refl _)) _), ((P3.far hm _).far hm _).far hm _⟩
end
end Go.Proofs.Ytgbmpnoknmpmcaa
