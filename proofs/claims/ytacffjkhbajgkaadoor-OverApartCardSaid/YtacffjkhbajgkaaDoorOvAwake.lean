/- What the statements of layer 18 ask first: awake; OverKnown. -/
import Derived.Test.YtacffjkhbajgkaaDoorOv1
import Derived.Test.YtacffjkhbajgkaaDoorJbLaw
namespace Go.Proofs.YtacffjkhbajgkaaDoor
open Go.RowKit Go.Lib
set_option linter.unusedVariables false
set_option linter.unusedSimpArgs false

theorem cell_new (w : World) (cs : Array Value) (ty : TypeId) (j : Nat) : (w.alloc (.cells cs ty)).cell? ⟨w.heap.size, j, none⟩ = cs[j]? := by
  unfold World.cell?
  rw [heap_alloc_new]
  rfl
/-- Jobs in a new block. -/
theorem rdJ_new (w : World) (ty : TypeId) (l : List Jb) (cs : Array Value) (h : cs = (cellsJ l).toArray) : RdJ (w.alloc (.cells cs ty)) (some ⟨w.heap.size, 0, none⟩) l := by
  intro k x hx
  refine ⟨w.heap.size, 0, rfl, ?_⟩
  have key : ∀ j, j < 8 → (w.alloc (.cells cs ty)).cell? ⟨w.heap.size, 0 + k * 8 + j, none⟩ = x.cells[j]? := by
    intro j hj
    rw [cell_new, h, Nat.zero_add]
    have := cellsJ_get l k x hx j hj
    simpa using this
  exact ⟨key 0 (by decide), key 1 (by decide), key 2 (by decide), key 3 (by decide), key 4 (by decide), key 5 (by decide), key 6 (by decide), key 7 (by decide)⟩
theorem rdT_new (w : World) (ty : TypeId) (l : List Int) (cs : Array Value) (h : cs = (l.map (Value.int .i64)).toArray) : RdT (w.alloc (.cells cs ty)) (some ⟨w.heap.size, 0, none⟩) l := by
  intro k x hx
  refine ⟨w.heap.size, 0, rfl, ?_⟩
  rw [cell_new, h]
  simp [hx]
theorem Tryd.infoJob18 : (Tryd.prog.info? 24).map (fun i => (i.zero, i.size, i.bytes)) = some (some (.agg #[.string ⟨#[]⟩, .int .i64 0, .int .i64 0, .int .i64 0, .int .i64 0, .int .i64 0, .int .i64 0, .bool false]), 8, 72) := by kernel_rfl
theorem madeJ1 : madeCells (Value.agg #[.string ⟨#[]⟩, .int .i64 0, .int .i64 0, .int .i64 0, .int .i64 0, .int .i64 0, .int .i64 0, .bool false]).cells (Int.toNat 1 * 8) = #[.string ⟨#[]⟩, .int .i64 0, .int .i64 0, .int .i64 0, .int .i64 0, .int .i64 0, .int .i64 0, .bool false] := by kernel_rfl
theorem span_eql (w : World) (a b c d : Int) : (binOp .eql 32 (.agg #[.int .i64 a, .int .i64 b]) (.agg #[.int .i64 c, .int .i64 d])).run Tryd.prog w = .ok (.bool (a == c && b == d)) w := by
  cases h1 : a == c <;> cases h2 : b == d <;> go_simp
def jA18 : List Jb := [⟨⟨#[97]⟩, 0, 3, 2, 2, 0, 0, false⟩, ⟨⟨#[98]⟩, 0, 3, 2, 2, 0, 0, false⟩]
def jK18 : List Jb := [⟨⟨#[97]⟩, 0, 3, 4, 2, 0, 0, false⟩, ⟨⟨#[98]⟩, 5, 7, 1, 1, 0, 0, false⟩, ⟨⟨#[99]⟩, 3, 4, 2, 2, 0, 0, false⟩]
def jZ18 : List Jb := [⟨⟨#[]⟩, 0, 0, 0, 0, 0, 0, false⟩]
theorem jA18_names : ∀ x ∈ jA18, x.name.size ≤ 1000000 := by intro x hx; simp [jA18] at hx; rcases hx with rfl | rfl <;> decide
theorem jK18_names : ∀ x ∈ jK18, x.name.size ≤ 1000000 := by intro x hx; simp [jK18] at hx; rcases hx with rfl | rfl | rfl <;> decide
theorem jZ18_names : ∀ x ∈ jZ18, x.name.size ≤ 1000000 := by intro x hx; simp [jZ18] at hx; subst hx; decide
theorem jA18_says : spansB jA18 = [(0, 3)] ∧ worstB jA18 = ((0, 3), 1, true) ∧ loadB jA18 0 3 = 4 := by
  refine ⟨?_, ?_, ?_⟩ <;> kernel_rfl
theorem jK18_says : spansB jK18 = [(0, 4)] ∧ loadB jK18 0 3 = 4 ∧ loadB jK18 1 9 = 3 ∧ spansB jZ18 = [] ∧ worstB [] = ((0, 0), 0, false) := by
  refine ⟨?_, ?_, ?_, ?_, ?_⟩ <;> kernel_rfl
theorem jK18_share : shareB [0, -1, 1, 1] 1 3 = (1, 2) ∧ shareB [0, -1, 1, 1] 3 1 = (0, 0) ∧ shareB [0, -1] (-5) 99 = (1, 2) := by
  refine ⟨?_, ?_, ?_⟩ <;> kernel_rfl
theorem one_rdS {w : World} {base n : Nat} {e : TypeId} {v : Value} {a b : Int} (h : w.ownsRow base e 2 v n (cellsT [(a, b)])) : ∃ g c, v = .slice (some ⟨g, 0, none⟩) 1 c ∧ g < w.heap.size ∧ w.cell? ⟨g, 0, none⟩ = some (.int .i64 a) ∧ w.cell? ⟨g, 1, none⟩ = some (.int .i64 b) := by
  obtain ⟨A, c, rfl, _, _, hr⟩ := own_rdS h
  obtain ⟨g, rfl, hg, h0, h1⟩ := hr 0 _ rfl
  exact ⟨g, c, rfl, hg, h0, h1⟩
set_option maxHeartbeats 3200000 in
set_option maxRecDepth 100000 in
theorem awake18_any (w : World) (hL : Ltr w) : Calls Tryd.prog 7 #[] w (RetB (.bool true) w) := by
  obtain ⟨cs, hcs⟩ : ∃ cs : Array Value, cs = #[.string ⟨#[97]⟩, .int .i64 0, .int .i64 3, .int .i64 2, .int .i64 2, .int .i64 0, .int .i64 0, .bool false, .string ⟨#[98]⟩, .int .i64 0, .int .i64 3, .int .i64 2, .int .i64 2, .int .i64 0, .int .i64 0, .bool false] := ⟨_, rfl⟩
  have RJ : RdJ (w.alloc (.cells cs 24)) (some ⟨w.heap.size, 0, none⟩) jA18 := rdJ_new w _ jA18 cs (by rw [hcs]; rfl)
  have bm : Below w.heap.size w (w.alloc (.cells cs 24)) := (Below.refl _ _).alloc (Nat.le_refl _) _
  have C1 : Hid (Calls Tryd.prog 8 #[.slice (some ⟨w.heap.size, 0, none⟩) 2 2] (w.alloc (.cells cs 24)) (fun e w' => ∃ v, e = .returned v ∧ w'.ownsRow (w.alloc (.cells cs 24)).heap.size 32 2 v 1 (cellsT [(0, 3)]) ∧ Below (w.alloc (.cells cs 24)).heap.size (w.alloc (.cells cs 24)) w')) := by
    have := spans_any _ 2 jA18 _ (by decide) (by decide) (by decide) jA18_names (hL.below bm) RJ
    rw [jA18_says.1] at this
    exact this
  have C2 : Hid (∀ w', Below (w.alloc (.cells cs 24)).heap.size (w.alloc (.cells cs 24)) w' → Calls Tryd.prog 10 #[.slice (some ⟨w.heap.size, 0, none⟩) 2 2] w' (RetB (.tuple #[.agg #[.int .i64 0, .int .i64 3], .int .i64 1, .bool true]) w')) := fun w' hb => worst_any _ 2 jA18 0 3 1 true _ (by decide) (by decide) (by decide) jA18_names (hL.below (below_on bm hb)) (RJ.below hb) jA18_says.2.1
  have C3 : Hid (∀ w', Below (w.alloc (.cells cs 24)).heap.size (w.alloc (.cells cs 24)) w' → Calls Tryd.prog 11 #[.slice (some ⟨w.heap.size, 0, none⟩) 2 2, .int .i64 0, .int .i64 3] w' (RetB (.int .i64 4) w')) := fun w' hb => load_any _ 2 jA18 0 3 4 _ (by decide) (by decide) (by decide) jA18_names (hL.below (below_on bm hb)) (RJ.below hb) jA18_says.2.2
  replace bm := Lib.hid bm
  have q0 := fun w' => span_eql w' 0 3 0 3
  clear hL RJ
  subst hcs
  go_enter Tryd.func7, Tryd.ntmps7
  go_wp2_with fail
  refine C1.out.mono ?_; rintro e w1 ⟨v, rfl, hown, b1⟩
  obtain ⟨g, c, rfl, hg, h0, h1⟩ := one_rdS hown
  generalize w.alloc _ = wj at *
  replace b1 := Lib.hid b1
  clear C1 hown
  go_wp2_with fail
  refine (C2.out _ b1.out).mono ?_; rintro e w2 ⟨rfl, b2⟩
  have m0 : w2.cell? ⟨g, 0, none⟩ = some (.int .i64 0) := by rw [b2.cell (p := ⟨g, 0, none⟩) hg]; exact h0
  have m1 : w2.cell? ⟨g, 1, none⟩ = some (.int .i64 3) := by rw [b2.cell (p := ⟨g, 1, none⟩) hg]; exact h1
  have hg2 : g < w2.heap.size := Nat.lt_of_lt_of_le hg b2.size
  replace b2 := Lib.hid (below_on b1.out b2)
  clear C2 b1 hg h0 h1
  have ne : g ≠ w2.heap.size := Nat.ne_of_lt hg2
  go_wp2_with fail
  refine (C3.out _ (by have s0 := b2.out.size; (try simp only [World.heap_drewN, World.size_alloc] at s0); repeat (first | exact Below.refl _ _ | exact b2.out | refine Below.trans ?_ (Below.mono b2.out (by first | omega | (simp; done) | (simp; omega))) | refine Below.setCell ?_ (by first | omega | (simp; done) | (simp; omega)) _ | refine below_dN ?_ _ | refine Below.drew ?_ | refine Below.alloc ?_ (by first | omega | (simp; done) | (simp; omega)) _))).mono ?_; rintro e w3 ⟨rfl, b3⟩
  have p0 : w3.cell? ⟨w2.heap.size, 0, none⟩ = some (.int .i64 0) := by rw [b3.cell (p := ⟨w2.heap.size, 0, none⟩) (by simp)]; simp
  have p1 : w3.cell? ⟨w2.heap.size, 1, none⟩ = some (.int .i64 3) := by rw [b3.cell (p := ⟨w2.heap.size, 1, none⟩) (by simp)]; simp
  have b9 : Hid (Below w.heap.size w w3) := by
    refine below_on bm.out (below_on b2.out (below_on ?_ b3))
    exact by repeat (first | exact Below.refl _ _ | refine Below.setCell ?_ (by first | omega | (simp; done) | (simp; omega)) _ | refine below_dN ?_ _ | refine Below.drew ?_ | refine Below.alloc ?_ (by first | omega | (simp; done) | (simp; omega)) _)
  clear C3 b2 b3 m0 m1 ne hg2 bm
  go_wp2
  go_ret
  exact ⟨rfl, by have s0 := b9.out.size; (try simp only [World.heap_drewN, World.size_alloc] at s0); repeat (first | exact Below.refl _ _ | exact b9.out | refine Below.trans ?_ (Below.mono b9.out (by first | omega | (simp; done) | (simp; omega))) | refine Below.setCell ?_ (by first | omega | (simp; done) | (simp; omega)) _ | refine below_dN ?_ _ | refine Below.drew ?_ | refine Below.alloc ?_ (by first | omega | (simp; done) | (simp; omega)) _)⟩
set_option maxHeartbeats 3200000 in
set_option maxRecDepth 100000 in
theorem OverKnown_ret (w : World) (hL : Ltr w) : Calls Tryd.prog 3 #[] w (RetB (.bool true) w) := by
  have A0 := Lib.hid (awake18_any w hL)
  obtain ⟨cs, hcs⟩ : ∃ cs : Array Value, cs = #[.string ⟨#[97]⟩, .int .i64 0, .int .i64 3, .int .i64 4, .int .i64 2, .int .i64 0, .int .i64 0, .bool false, .string ⟨#[98]⟩, .int .i64 5, .int .i64 7, .int .i64 1, .int .i64 1, .int .i64 0, .int .i64 0, .bool false, .string ⟨#[99]⟩, .int .i64 3, .int .i64 4, .int .i64 2, .int .i64 2, .int .i64 0, .int .i64 0, .bool false] := ⟨_, rfl⟩
  have RJ : Hid (∀ (w' : World) (B : Nat), w'.heap.size = B → RdJ (w'.alloc (.cells cs 24)) (some ⟨B, 0, none⟩) jK18) := fun w' B hB => by subst hB; exact rdJ_new w' _ jK18 cs (by rw [hcs]; rfl)
  have C1 : Hid (∀ (B : Nat) (w' : World), Below w.heap.size w w' → RdJ w' (some ⟨B, 0, none⟩) jK18 → Calls Tryd.prog 8 #[.slice (some ⟨B, 0, none⟩) 3 3] w' (fun e w2 => ∃ v, e = .returned v ∧ w2.ownsRow w'.heap.size 32 2 v 1 (cellsT [(0, 4)]) ∧ Below w'.heap.size w' w2)) := fun B w' hb hR => by
    have := spans_any _ 3 jK18 w' (by decide) (by decide) (by decide) jK18_names (hL.below hb) hR
    rw [jK18_says.1] at this
    exact this
  have CZ : Hid (∀ w', Below w.heap.size w w' → Calls Tryd.prog 8 #[.slice (some ⟨w'.heap.size, 0, none⟩) 1 1] (w'.alloc (.cells #[.string ⟨#[]⟩, .int .i64 0, .int .i64 0, .int .i64 0, .int .i64 0, .int .i64 0, .int .i64 0, .bool false] 24)) (fun e w2 => ∃ v, e = .returned v ∧ w2.ownsRow (w'.alloc (.cells #[.string ⟨#[]⟩, .int .i64 0, .int .i64 0, .int .i64 0, .int .i64 0, .int .i64 0, .int .i64 0, .bool false] 24)).heap.size 32 2 v 0 (cellsT []) ∧ Below (w'.alloc (.cells #[.string ⟨#[]⟩, .int .i64 0, .int .i64 0, .int .i64 0, .int .i64 0, .int .i64 0, .int .i64 0, .bool false] 24)).heap.size (w'.alloc (.cells #[.string ⟨#[]⟩, .int .i64 0, .int .i64 0, .int .i64 0, .int .i64 0, .int .i64 0, .int .i64 0, .bool false] 24)) w2)) := fun w' hb => by
    have := spans_any _ 1 jZ18 _ (by decide) (by decide) (by decide) jZ18_names (hL.below (hb.alloc hb.size _)) (rdJ_new w' 24 jZ18 _ rfl)
    rw [jK18_says.2.2.2.1] at this
    exact this
  have CW : Hid (∀ w', Below w.heap.size w w' → Calls Tryd.prog 10 #[.slice none 0 0] w' (RetB (.tuple #[.agg #[.int .i64 0, .int .i64 0], .int .i64 0, .bool false]) w')) := fun w' hb => worst_any none 0 [] 0 0 0 false w' (by decide) (by decide) (by decide) (by simp) (hL.below hb) (fun k x hx => by simp at hx) jK18_says.2.2.2.2
  have CL : Hid (∀ (f t z : Int) (B : Nat) (w' : World), loadB jK18 f t = z → Below w.heap.size w w' → RdJ w' (some ⟨B, 0, none⟩) jK18 → Calls Tryd.prog 11 #[.slice (some ⟨B, 0, none⟩) 3 3, .int .i64 f, .int .i64 t] w' (RetB (.int .i64 z) w')) := fun f t z B w' hz hb hR => load_any _ 3 jK18 f t z _ (by decide) (by decide) (by decide) jK18_names (hL.below hb) hR hz
  have CS1 : Hid (∀ (w' : World) (B : Nat), w'.heap.size = B → Calls Tryd.prog 9 #[.slice (some ⟨B, 0, none⟩) 4 4, .int .i64 1, .int .i64 3] (w'.alloc (.cells #[.int .i64 0, .int .i64 (-1), .int .i64 1, .int .i64 1] 3)) (RetB (.tuple #[.int .i64 1, .int .i64 2]) (w'.alloc (.cells #[.int .i64 0, .int .i64 (-1), .int .i64 1, .int .i64 1] 3)))) := fun w' B hB => by
    subst hB
    exact share_any _ 4 [0, -1, 1, 1] 1 3 1 2 _ (by decide) (by decide) (by decide) (by decide) (rdT_new w' _ _ _ rfl) jK18_share.1
  have CS2 : Hid (∀ (w' : World) (B : Nat), w'.heap.size = B → Calls Tryd.prog 9 #[.slice (some ⟨B, 0, none⟩) 4 4, .int .i64 3, .int .i64 1] (w'.alloc (.cells #[.int .i64 0, .int .i64 (-1), .int .i64 1, .int .i64 1] 3)) (RetB (.tuple #[.int .i64 0, .int .i64 0]) (w'.alloc (.cells #[.int .i64 0, .int .i64 (-1), .int .i64 1, .int .i64 1] 3)))) := fun w' B hB => by
    subst hB
    exact share_any _ 4 [0, -1, 1, 1] 3 1 0 0 _ (by decide) (by decide) (by decide) (by decide) (rdT_new w' _ _ _ rfl) jK18_share.2.1
  have CS3 : Hid (∀ (w' : World) (B : Nat), w'.heap.size = B → Calls Tryd.prog 9 #[.slice (some ⟨B, 0, none⟩) 2 2, .int .i64 (-5), .int .i64 99] (w'.alloc (.cells #[.int .i64 0, .int .i64 (-1)] 3)) (RetB (.tuple #[.int .i64 1, .int .i64 2]) (w'.alloc (.cells #[.int .i64 0, .int .i64 (-1)] 3)))) := fun w' B hB => by
    subst hB
    exact share_any _ 2 [0, -1] (-5) 99 1 2 _ (by decide) (by decide) (by decide) (by decide) (rdT_new w' _ _ _ rfl) jK18_share.2.2
  have q0 := fun w' => span_eql w' 0 4 0 4
  clear hL
  go_enter Tryd.func3, Tryd.ntmps3
  go_wp2_with fail
  refine A0.out.mono ?_; rintro e w0 ⟨rfl, b0⟩
  have RJ0 := Lib.hid (RJ.out w0 _ rfl)
  have bj : Hid (Below w.heap.size w (w0.alloc (.cells cs 24))) := b0.alloc b0.size _
  obtain ⟨J, hJ⟩ : ∃ J, w0.heap.size = J := ⟨_, rfl⟩
  have C1' := C1.out J (w0.alloc (.cells cs 24)) bj.out (by rw [← hJ]; exact RJ0.out)
  rw [hJ] at RJ0
  subst hcs
  clear A0 RJ b0
  go_wp2_with fail
  refine C1'.mono ?_; rintro e w1 ⟨v, rfl, hown, b1⟩
  obtain ⟨g, c, rfl, hg, h0, h1⟩ := one_rdS hown
  have RJ1 := Lib.hid (RJ0.out.below b1)
  replace b1 := Lib.hid (below_on bj.out b1)
  clear C1 C1' hown RJ0 bj hJ
  go_wp2_with fail
  refine (CS1.out w1 _ rfl).mono ?_; rintro e w2 ⟨rfl, b2⟩
  have RJ2 := Lib.hid (RJ1.out.below (below_on ((Below.refl _ _).alloc (Nat.le_refl _) _) b2))
  have bb : Below w1.heap.size w1 w2 := by refine below_on ?_ b2; exact by repeat (first | exact Below.refl _ _ | refine Below.setCell ?_ (by first | omega | (simp; done) | (simp; omega)) _ | refine below_dN ?_ _ | refine Below.drew ?_ | refine Below.alloc ?_ (by first | omega | (simp; done) | (simp; omega)) _)
  have h0 : w2.cell? ⟨g, 0, none⟩ = some (.int .i64 0) := by rw [bb.cell (p := ⟨g, 0, none⟩) hg]; exact h0
  have h1 : w2.cell? ⟨g, 1, none⟩ = some (.int .i64 4) := by rw [bb.cell (p := ⟨g, 1, none⟩) hg]; exact h1
  replace hg : g < w2.heap.size := Nat.lt_of_lt_of_le hg bb.size
  replace b2 := Lib.hid (below_on b1.out bb)
  clear CS1 RJ1 b1 bb
  go_wp2_with fail
  refine (CS2.out w2 _ rfl).mono ?_; rintro e w3 ⟨rfl, b3⟩
  have bb : Below w2.heap.size w2 w3 := by refine below_on ?_ b3; exact by repeat (first | exact Below.refl _ _ | refine Below.setCell ?_ (by first | omega | (simp; done) | (simp; omega)) _ | refine below_dN ?_ _ | refine Below.drew ?_ | refine Below.alloc ?_ (by first | omega | (simp; done) | (simp; omega)) _)
  have RJ3 := Lib.hid (RJ2.out.below bb)
  replace h0 : w3.cell? ⟨g, 0, none⟩ = some (.int .i64 0) := by rw [bb.cell (p := ⟨g, 0, none⟩) hg]; exact h0
  replace h1 : w3.cell? ⟨g, 1, none⟩ = some (.int .i64 4) := by rw [bb.cell (p := ⟨g, 1, none⟩) hg]; exact h1
  replace hg : g < w3.heap.size := Nat.lt_of_lt_of_le hg bb.size
  replace b3 := Lib.hid (below_on b2.out bb)
  clear CS2 RJ2 b2 bb
  go_wp2_with fail
  refine (CS3.out w3 _ rfl).mono ?_; rintro e w4 ⟨rfl, b4⟩
  have bb : Below w3.heap.size w3 w4 := by refine below_on ?_ b4; exact by repeat (first | exact Below.refl _ _ | refine Below.setCell ?_ (by first | omega | (simp; done) | (simp; omega)) _ | refine below_dN ?_ _ | refine Below.drew ?_ | refine Below.alloc ?_ (by first | omega | (simp; done) | (simp; omega)) _)
  have RJ4 := Lib.hid (RJ3.out.below bb)
  replace h0 : w4.cell? ⟨g, 0, none⟩ = some (.int .i64 0) := by rw [bb.cell (p := ⟨g, 0, none⟩) hg]; exact h0
  replace h1 : w4.cell? ⟨g, 1, none⟩ = some (.int .i64 4) := by rw [bb.cell (p := ⟨g, 1, none⟩) hg]; exact h1
  replace hg : g < w4.heap.size := Nat.lt_of_lt_of_le hg bb.size
  replace b4 := Lib.hid (below_on b3.out bb)
  clear CS3 RJ3 b3 bb
  go_wp2_with fail
  refine (CW.out w4 b4.out).mono ?_; rintro e w5 ⟨rfl, b5⟩
  have bb : Below w4.heap.size w4 (w5.alloc (.cells #[.int .i64 0, .int .i64 0] 32)) := b5.alloc b5.size _
  have RJ5 := Lib.hid (RJ4.out.below bb)
  have k0 : (w5.alloc (.cells #[.int .i64 0, .int .i64 0] 32)).cell? ⟨g, 0, none⟩ = some (.int .i64 0) := by rw [bb.cell (p := ⟨g, 0, none⟩) hg]; exact h0
  have k1 : (w5.alloc (.cells #[.int .i64 0, .int .i64 0] 32)).cell? ⟨g, 1, none⟩ = some (.int .i64 4) := by rw [bb.cell (p := ⟨g, 1, none⟩) hg]; exact h1
  replace b5 : Hid (Below w.heap.size w (w5.alloc (.cells #[.int .i64 0, .int .i64 0] 32))) := below_on b4.out bb
  clear CW RJ4 b4 bb h0 h1 hg
  have CL1 := Lib.hid (CL.out 0 3 4 J (w5.alloc (.cells #[.int .i64 0, .int .i64 0] 32)) jK18_says.2.1 b5.out RJ5.out)
  go_wp2_with fail
  refine CL1.out.mono ?_; rintro e w6 ⟨rfl, b6⟩
  have RJ6 := Lib.hid (RJ5.out.below b6)
  replace b6 := Lib.hid (below_on b5.out b6)
  clear CL1 RJ5 b5 k0 k1
  go_wp2_with fail
  refine (CL.out 1 9 3 J w6 jK18_says.2.2.1 b6.out RJ6.out).mono ?_; rintro e w7 ⟨rfl, b7⟩
  replace b7 := Lib.hid (below_on b6.out b7)
  clear CL RJ6 b6
  have hmk : (Instr.makeSlice 25 (.int .i64 1) (.int .i64 1)).run Tryd.prog w7 = .ok (.slice (some ⟨w7.heap.size, 0, none⟩) 1 1) (w7.alloc (.cells #[.string ⟨#[]⟩, .int .i64 0, .int .i64 0, .int .i64 0, .int .i64 0, .int .i64 0, .int .i64 0, .bool false] 24)) := by
    obtain ⟨i0, hi0, hz0, hz1, hz2⟩ := info_parts Tryd.infoJob18
    have h := run_make (P := Tryd.prog) w7 25 24 i0 _ Tryd.underlying25 hi0 hz0 .i64 .i64 1 1 (by decide) (by decide) (by rw [hz2]; decide) (by decide)
    rw [hz1, madeJ1] at h
    exact h
  have CZ7 := Lib.hid (CZ.out w7 b7.out)
  go_wp2_with fail
  refine CZ7.out.mono ?_; rintro e w8 ⟨v, rfl, hown, b8⟩
  obtain ⟨A, c2, rfl, _⟩ := own_rdS hown
  have b9 : Hid (Below w.heap.size w w8) := by
    refine below_on b7.out (below_on ?_ b8)
    exact by repeat (first | exact Below.refl _ _ | refine Below.setCell ?_ (by first | omega | (simp; done) | (simp; omega)) _ | refine below_dN ?_ _ | refine Below.drew ?_ | refine Below.alloc ?_ (by first | omega | (simp; done) | (simp; omega)) _)
  clear CZ CZ7 b7 b8 hown hmk
  go_wp2
  go_ret
  exact ⟨rfl, by have s0 := b9.out.size; (try simp only [World.heap_drewN, World.size_alloc] at s0); repeat (first | exact Below.refl _ _ | exact b9.out | refine Below.trans ?_ (Below.mono b9.out (by first | omega | (simp; done) | (simp; omega))) | refine Below.setCell ?_ (by first | omega | (simp; done) | (simp; omega)) _ | refine below_dN ?_ _ | refine Below.drew ?_ | refine Below.alloc ?_ (by first | omega | (simp; done) | (simp; omega)) _)⟩
end Go.Proofs.YtacffjkhbajgkaaDoor
