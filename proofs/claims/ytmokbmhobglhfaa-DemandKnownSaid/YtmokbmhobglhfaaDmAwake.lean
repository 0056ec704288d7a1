/- What the statements of layer 11 ask first: awake. Tasks in a new block, a task in its box. -/
import Derived.Test.YtmokbmhobglhfaaDmLaw
namespace Go.Proofs.Ytmokbmhobglhfaa
open Go.RowKit Go.Lib
set_option linter.unusedVariables false
set_option linter.unusedSimpArgs false

theorem cellrowK {w : World} {g off : Nat} {cs : Array Value} {e : TypeId} {u : Nat × Nat} (h : w.heap[g]? = some (.cells cs e u)) : w.cell? ⟨g, off, none⟩ = cs[off]? := by simp [World.cell?, h]
/-- Tasks in a new block. -/
theorem rdK_new (w : World) (ty : TypeId) (l : List Tk) (cs : Array Value) (h : cs = (cellsTk l).toArray) : RdK (w.alloc (.cells cs ty)) (some ⟨w.heap.size, 0, none⟩) l := by
  intro k x hx
  obtain ⟨g0, g1, g2⟩ := cellsTk_get l k x hx
  refine ⟨w.heap.size, 0, rfl, ?_, ?_, ?_⟩
  · rw [cellrowK (heap_alloc_new w _), h, Nat.zero_add]; simpa using g0
  · rw [cellrowK (heap_alloc_new w _), h, Nat.zero_add]; simpa using g1
  · rw [cellrowK (heap_alloc_new w _), h, Nat.zero_add]; simpa using g2
/-- Block B holds the task t. -/
def BxK (w : World) (B : Nat) (t : Tk) : Prop := w.cell? ⟨B, 0, none⟩ = some (.int .i64 t.per) ∧ w.cell? ⟨B, 1, none⟩ = some (.int .i64 t.need) ∧ w.cell? ⟨B, 2, none⟩ = some (.int .i64 t.skip)
theorem BxK.on {w w' : World} {B : Nat} {t : Tk} (h : BxK w B t) (hb : Below w.heap.size w w') : BxK w' B t :=
  ⟨by rw [hb.cell (p := ⟨B, 0, none⟩) (cell_lt h.1)]; exact h.1, by rw [hb.cell (p := ⟨B, 1, none⟩) (cell_lt h.2.1)]; exact h.2.1, by rw [hb.cell (p := ⟨B, 2, none⟩) (cell_lt h.2.2)]; exact h.2.2⟩
theorem BxK.new (w : World) (ty : TypeId) (t : Tk) : BxK (w.alloc (.cells #[.int .i64 t.per, .int .i64 t.need, .int .i64 t.skip] ty)) w.heap.size t := by
  unfold BxK
  rw [cellrowK (heap_alloc_new w _), cellrowK (heap_alloc_new w _), cellrowK (heap_alloc_new w _)]
  simp
theorem holds_new (l : List Tk) (n : Nat) (g : Bool) (e : Int) (cs : Array Value) (hn : l.length = n) (hn2 : n ≤ 1000) (hc : cs = (cellsTk l).toArray) (hg : holdsB l = g) (he : frameE l = e) (w' : World) (B : Nat) (hB : w'.heap.size = B) :
    Calls Try.prog 9 #[.slice (some ⟨B, 0, none⟩) n n] (w'.alloc (.cells cs 27)) (RetB (.tuple #[.bool g, .int .i64 e]) (w'.alloc (.cells cs 27))) := by
  subst hB
  subst hn
  exact dholds_any _ l.length l g e _ (by omega) (Nat.le_refl _) (rdK_new w' _ l cs hc) hg he
theorem frame_new (l : List Tk) (n : Nat) (v : Int) (e : Int) (cs : Array Value) (hn : l.length = n) (hn2 : n ≤ 1000) (hc : cs = (cellsTk l).toArray) (hv : frameN l = v) (he : frameE l = e) (w' : World) (B : Nat) (hB : w'.heap.size = B) :
    Calls Try.prog 8 #[.slice (some ⟨B, 0, none⟩) n n] (w'.alloc (.cells cs 27)) (RetB (.tuple #[.int .i64 v, .int .i64 e]) (w'.alloc (.cells cs 27))) := by
  subst hB
  subst hn
  exact dframe_any _ l.length l v e _ (by omega) (Nat.le_refl _) (rdK_new w' _ l cs hc) hv he
def tK : Tk := ⟨2, 2, 2⟩
theorem tK_says : holdsB [tK] = true ∧ frameE [tK] = 0 ∧ tK.good = true ∧ ofZ tK 4 = 2 ∧ ofZ tK 7 = 4 := by
  refine ⟨?_, ?_, ?_, ?_, ?_⟩ <;> kernel_rfl
set_option maxHeartbeats 1600000 in
set_option maxRecDepth 100000 in
theorem awake11_any (w : World) : Calls Try.prog 7 #[] w (RetB (.bool true) w) := by
  have C1 : Hid (∀ (w' : World) (B : Nat), w'.heap.size = B → Calls Try.prog 9 #[.slice (some ⟨B, 0, none⟩) 1 1] (w'.alloc (.cells #[.int .i64 2, .int .i64 2, .int .i64 2] 27)) (RetB (.tuple #[.bool true, .int .i64 0]) (w'.alloc (.cells #[.int .i64 2, .int .i64 2, .int .i64 2] 27)))) := fun w' B hB => holds_new [tK] 1 true 0 _ rfl (by decide) rfl tK_says.1 tK_says.2.1 w' B hB
  have C2 := Lib.hid (dgood_any ⟨2, 2, 2⟩ true · tK_says.2.2.1)
  have C3 := Lib.hid (dof_any ⟨2, 2, 2⟩ 4 2 · (by decide) tK_says.2.2.2.1)
  have C4 := Lib.hid (dof_any ⟨2, 2, 2⟩ 7 4 · (by decide) tK_says.2.2.2.2)
  obtain ⟨B, hB⟩ : ∃ B, w.heap.size = B := ⟨_, rfl⟩
  have X0 := BxK.new w 27 ⟨2, 2, 2⟩
  have G0 := Below.alloc (Below.refl w.heap.size w) (Nat.le_refl _) (.cells #[.int .i64 2, .int .i64 2, .int .i64 2] 27)
  replace X0 := Lib.hid X0
  replace G0 := Lib.hid G0
  go_enter Try.func7, Try.ntmps7
  go_wp2_with fail
  refine (C1.out (w.alloc (.cells #[.int .i64 2, .int .i64 2, .int .i64 2] 27)) _ (by simp [hB])).mono ?_; rintro e w1 ⟨rfl, b1⟩
  have bm : Below (w.alloc (.cells #[.int .i64 2, .int .i64 2, .int .i64 2] 27)).heap.size (w.alloc (.cells #[.int .i64 2, .int .i64 2, .int .i64 2] 27)) w1 := by refine below_on ?_ b1; exact (Below.refl _ _).alloc (Nat.le_refl _) _
  have X1 := Lib.hid (X0.out.on bm)
  have G1 : Hid (Below w.heap.size w w1) := below_on G0.out bm
  clear C1 b1 bm X0 G0
  rw [hB] at X1
  obtain ⟨c0, c1, c2⟩ := X1.out
  go_wp2_with fail
  refine (C2.out _).mono ?_; rintro e w2 ⟨rfl, b2⟩
  have X2 := Lib.hid (X1.out.on b2)
  have G2 : Hid (Below w.heap.size w w2) := below_on G1.out b2
  clear C2 b2 X1 G1 c0 c1 c2
  obtain ⟨c0, c1, c2⟩ := X2.out
  go_wp2_with fail
  refine (C3.out _).mono ?_; rintro e w3 ⟨rfl, b3⟩
  have X3 := Lib.hid (X2.out.on b3)
  have G3 : Hid (Below w.heap.size w w3) := below_on G2.out b3
  clear C3 b3 X2 G2 c0 c1 c2
  obtain ⟨c0, c1, c2⟩ := X3.out
  go_wp2_with fail
  refine (C4.out _).mono ?_; rintro e w4 ⟨rfl, b4⟩
  have G4 : Hid (Below w.heap.size w w4) := below_on G3.out b4
  clear C4 b4 X3 G3 c0 c1 c2
  go_wp2
  go_ret
  exact ⟨rfl, by have s0 := G4.out.size; (try simp only [World.heap_drewN, World.size_alloc] at s0); repeat (first | exact Below.refl _ _ | exact G4.out | refine Below.trans ?_ (Below.mono G4.out (by first | omega | (simp; done) | (simp; omega))) | refine Below.setCell ?_ (by first | omega | (simp; done) | (simp; omega)) _ | refine below_dN ?_ _ | refine Below.drew ?_ | refine Below.alloc ?_ (by first | omega | (simp; done) | (simp; omega)) _)⟩
end Go.Proofs.Ytmokbmhobglhfaa
