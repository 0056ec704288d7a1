/- JobKnown: what chapter 8 says of what may not be. (Written by genjknown.py from XJbKnown.base.) -/
import Derived.Test.YtnbidigilmjloaaDoorJbSays
import Derived.Test.YtnbidigilmjloaaDoorJbAllocs
namespace Go.Proofs.YtnbidigilmjloaaDoor
open Go.RowKit Go.Lib
set_option linter.unusedVariables false
set_option linter.unusedSimpArgs false
theorem boxJ {W : World} {b : Nat} {t : TypeId} (h : W.heap[b]? = some (.cells #[.string ⟨#[97]⟩, .int .i64 2, .int .i64 9, .int .i64 3, .int .i64 2, .int .i64 1000000, .int .i64 100, .bool true] t (0, 0))) : W.cell? ⟨b, 0, none⟩ = some (.string ⟨#[97]⟩) ∧ W.cell? ⟨b, 1, none⟩ = some (.int .i64 2) ∧ W.cell? ⟨b, 2, none⟩ = some (.int .i64 9) ∧ W.cell? ⟨b, 3, none⟩ = some (.int .i64 3) ∧ W.cell? ⟨b, 4, none⟩ = some (.int .i64 2) ∧ W.cell? ⟨b, 5, none⟩ = some (.int .i64 1000000) ∧ W.cell? ⟨b, 6, none⟩ = some (.int .i64 100) ∧ W.cell? ⟨b, 7, none⟩ = some (.bool true) := by
  refine ⟨?_, ?_, ?_, ?_, ?_, ?_, ?_, ?_⟩ <;> simp [World.cell?, h]
theorem boxZ {W : World} {b : Nat} {t : TypeId} (h : W.heap[b]? = some (.cells #[.string ⟨#[]⟩, .int .i64 0, .int .i64 0, .int .i64 0, .int .i64 0, .int .i64 0, .int .i64 0, .bool false] t (0, 0))) : W.cell? ⟨b, 0, none⟩ = some (.string ⟨#[]⟩) ∧ W.cell? ⟨b, 1, none⟩ = some (.int .i64 0) ∧ W.cell? ⟨b, 2, none⟩ = some (.int .i64 0) ∧ W.cell? ⟨b, 3, none⟩ = some (.int .i64 0) ∧ W.cell? ⟨b, 4, none⟩ = some (.int .i64 0) ∧ W.cell? ⟨b, 5, none⟩ = some (.int .i64 0) ∧ W.cell? ⟨b, 6, none⟩ = some (.int .i64 0) ∧ W.cell? ⟨b, 7, none⟩ = some (.bool false) ∧ W.frozen? ⟨b, 0, none⟩ = false ∧ W.frozen? ⟨b, 1, none⟩ = false ∧ W.frozen? ⟨b, 2, none⟩ = false ∧ W.frozen? ⟨b, 3, none⟩ = false ∧ W.frozen? ⟨b, 4, none⟩ = false ∧ W.frozen? ⟨b, 5, none⟩ = false ∧ W.frozen? ⟨b, 6, none⟩ = false ∧ W.frozen? ⟨b, 7, none⟩ = false := by
  refine ⟨?_, ?_, ?_, ?_, ?_, ?_, ?_, ?_, ?_, ?_, ?_, ?_, ?_, ?_, ?_, ?_⟩ <;> simp [World.cell?, World.frozen?, h]
/-- A job stored into a box. -/
def put8 (W : World) (p : Nat) : World := ((((((((W).setCell ⟨p, 0, none⟩ (.string ⟨#[97]⟩)).setCell ⟨p, 1, none⟩ (.int .i64 2)).setCell ⟨p, 2, none⟩ (.int .i64 9)).setCell ⟨p, 3, none⟩ (.int .i64 3)).setCell ⟨p, 4, none⟩ (.int .i64 2)).setCell ⟨p, 5, none⟩ (.int .i64 1000000)).setCell ⟨p, 6, none⟩ (.int .i64 100)).setCell ⟨p, 7, none⟩ (.bool true)
theorem put8_same {W : World} {p : Nat} {t : TypeId} (h : W.heap[p]? = some (.cells #[.string ⟨#[]⟩, .int .i64 0, .int .i64 0, .int .i64 0, .int .i64 0, .int .i64 0, .int .i64 0, .bool false] t (0, 0))) : (put8 W p).heap[p]? = some (.cells #[.string ⟨#[97]⟩, .int .i64 2, .int .i64 9, .int .i64 3, .int .i64 2, .int .i64 1000000, .int .i64 100, .bool true] t (0, 0)) := by
  have s0 := heap_setCell_same W p 0 _ t (.string ⟨#[97]⟩) h
  have s1 := heap_setCell_same _ p 1 _ t (.int .i64 2) s0
  have s2 := heap_setCell_same _ p 2 _ t (.int .i64 9) s1
  have s3 := heap_setCell_same _ p 3 _ t (.int .i64 3) s2
  have s4 := heap_setCell_same _ p 4 _ t (.int .i64 2) s3
  have s5 := heap_setCell_same _ p 5 _ t (.int .i64 1000000) s4
  have s6 := heap_setCell_same _ p 6 _ t (.int .i64 100) s5
  have s7 := heap_setCell_same _ p 7 _ t (.bool true) s6
  exact s7
theorem put8_other {W : World} {p q : Nat} (h : q ≠ p) : (put8 W p).heap[q]? = W.heap[q]? := by
  unfold put8
  rw [heap_setCell_other _ _ _ _ h, heap_setCell_other _ _ _ _ h, heap_setCell_other _ _ _ _ h, heap_setCell_other _ _ _ _ h, heap_setCell_other _ _ _ _ h, heap_setCell_other _ _ _ _ h, heap_setCell_other _ _ _ _ h, heap_setCell_other _ _ _ _ h]
theorem put8_below {W w : World} {p n : Nat} (h : Below n w W) (hn : n ≤ p) : Below n w (put8 W p) :=
  (((((((h.setCell hn _).setCell hn _).setCell hn _).setCell hn _).setCell hn _).setCell hn _).setCell hn _).setCell hn _
def fin5 (W : World) (p0 p1 p2 p3 p4 : Nat) : World := (((((W).setCell ⟨p0, 1, none⟩ (.int .i64 9)).setCell ⟨p1, 3, none⟩ (.int .i64 0)).setCell ⟨p2, 5, none⟩ (.int .i64 1000001)).setCell ⟨p3, 0, none⟩ (.string ⟨#[49]⟩)).setCell ⟨p4, 2, none⟩ (.int .i64 10001)
theorem box_jat {W : World} {b : Nat} {t : TypeId} {s : ByteArray} {r d b' a v c : Int} {h : Bool} (k : W.heap[b]? = some (.cells #[.string s, .int .i64 r, .int .i64 d, .int .i64 b', .int .i64 a, .int .i64 v, .int .i64 c, .bool h] t (0, 0))) : JAt W b 0 ⟨s, r, d, b', a, v, c, h⟩ := by
  refine ⟨?_, ?_, ?_, ?_, ?_, ?_, ?_, ?_⟩ <;> simp [World.cell?, k]
theorem fin5_six {W : World} {bb p0 p1 p2 p3 p4 : Nat} {t : TypeId} (n01 : p0 ≠ p1) (n02 : p0 ≠ p2) (n03 : p0 ≠ p3) (n04 : p0 ≠ p4) (n10 : p1 ≠ p0) (n12 : p1 ≠ p2) (n13 : p1 ≠ p3) (n14 : p1 ≠ p4) (n20 : p2 ≠ p0) (n21 : p2 ≠ p1) (n23 : p2 ≠ p3) (n24 : p2 ≠ p4) (n30 : p3 ≠ p0) (n31 : p3 ≠ p1) (n32 : p3 ≠ p2) (n34 : p3 ≠ p4) (n40 : p4 ≠ p0) (n41 : p4 ≠ p1) (n42 : p4 ≠ p2) (n43 : p4 ≠ p3) (nb0 : bb ≠ p0) (nb1 : bb ≠ p1) (nb2 : bb ≠ p2) (nb3 : bb ≠ p3) (nb4 : bb ≠ p4) (hb : W.heap[bb]? = some (.cells #[.string ⟨#[97]⟩, .int .i64 2, .int .i64 9, .int .i64 3, .int .i64 2, .int .i64 1000000, .int .i64 100, .bool true] t (0, 0))) (h0 : W.heap[p0]? = some (.cells #[.string ⟨#[97]⟩, .int .i64 2, .int .i64 9, .int .i64 3, .int .i64 2, .int .i64 1000000, .int .i64 100, .bool true] t (0, 0))) (h1 : W.heap[p1]? = some (.cells #[.string ⟨#[97]⟩, .int .i64 2, .int .i64 9, .int .i64 3, .int .i64 2, .int .i64 1000000, .int .i64 100, .bool true] t (0, 0))) (h2 : W.heap[p2]? = some (.cells #[.string ⟨#[97]⟩, .int .i64 2, .int .i64 9, .int .i64 3, .int .i64 2, .int .i64 1000000, .int .i64 100, .bool true] t (0, 0))) (h3 : W.heap[p3]? = some (.cells #[.string ⟨#[97]⟩, .int .i64 2, .int .i64 9, .int .i64 3, .int .i64 2, .int .i64 1000000, .int .i64 100, .bool true] t (0, 0))) (h4 : W.heap[p4]? = some (.cells #[.string ⟨#[97]⟩, .int .i64 2, .int .i64 9, .int .i64 3, .int .i64 2, .int .i64 1000000, .int .i64 100, .bool true] t (0, 0))) : JAt (fin5 W p0 p1 p2 p3 p4) bb 0 ⟨⟨#[97]⟩, 2, 9, 3, 2, 1000000, 100, true⟩ ∧ JAt (fin5 W p0 p1 p2 p3 p4) p0 0 ⟨⟨#[97]⟩, 9, 9, 3, 2, 1000000, 100, true⟩ ∧ JAt (fin5 W p0 p1 p2 p3 p4) p1 0 ⟨⟨#[97]⟩, 2, 9, 0, 2, 1000000, 100, true⟩ ∧ JAt (fin5 W p0 p1 p2 p3 p4) p2 0 ⟨⟨#[97]⟩, 2, 9, 3, 2, 1000001, 100, true⟩ ∧ JAt (fin5 W p0 p1 p2 p3 p4) p3 0 ⟨⟨#[49]⟩, 2, 9, 3, 2, 1000000, 100, true⟩ ∧ JAt (fin5 W p0 p1 p2 p3 p4) p4 0 ⟨⟨#[97]⟩, 2, 10001, 3, 2, 1000000, 100, true⟩ := by
  unfold fin5
  refine ⟨?_, ?_, ?_, ?_, ?_, ?_⟩
  · have s0 := (heap_setCell_other _ (⟨p0, 1, none⟩ : Addr) _ (.int .i64 9) nb0).trans hb
    have s1 := (heap_setCell_other _ (⟨p1, 3, none⟩ : Addr) _ (.int .i64 0) nb1).trans s0
    have s2 := (heap_setCell_other _ (⟨p2, 5, none⟩ : Addr) _ (.int .i64 1000001) nb2).trans s1
    have s3 := (heap_setCell_other _ (⟨p3, 0, none⟩ : Addr) _ (.string ⟨#[49]⟩) nb3).trans s2
    have s4 := (heap_setCell_other _ (⟨p4, 2, none⟩ : Addr) _ (.int .i64 10001) nb4).trans s3
    exact box_jat s4
  · have s0 := heap_setCell_same _ p0 1 _ t (.int .i64 9) h0
    have s1 := (heap_setCell_other _ (⟨p1, 3, none⟩ : Addr) _ (.int .i64 0) n01).trans s0
    have s2 := (heap_setCell_other _ (⟨p2, 5, none⟩ : Addr) _ (.int .i64 1000001) n02).trans s1
    have s3 := (heap_setCell_other _ (⟨p3, 0, none⟩ : Addr) _ (.string ⟨#[49]⟩) n03).trans s2
    have s4 := (heap_setCell_other _ (⟨p4, 2, none⟩ : Addr) _ (.int .i64 10001) n04).trans s3
    exact box_jat s4
  · have s0 := (heap_setCell_other _ (⟨p0, 1, none⟩ : Addr) _ (.int .i64 9) n10).trans h1
    have s1 := heap_setCell_same _ p1 3 _ t (.int .i64 0) s0
    have s2 := (heap_setCell_other _ (⟨p2, 5, none⟩ : Addr) _ (.int .i64 1000001) n12).trans s1
    have s3 := (heap_setCell_other _ (⟨p3, 0, none⟩ : Addr) _ (.string ⟨#[49]⟩) n13).trans s2
    have s4 := (heap_setCell_other _ (⟨p4, 2, none⟩ : Addr) _ (.int .i64 10001) n14).trans s3
    exact box_jat s4
  · have s0 := (heap_setCell_other _ (⟨p0, 1, none⟩ : Addr) _ (.int .i64 9) n20).trans h2
    have s1 := (heap_setCell_other _ (⟨p1, 3, none⟩ : Addr) _ (.int .i64 0) n21).trans s0
    have s2 := heap_setCell_same _ p2 5 _ t (.int .i64 1000001) s1
    have s3 := (heap_setCell_other _ (⟨p3, 0, none⟩ : Addr) _ (.string ⟨#[49]⟩) n23).trans s2
    have s4 := (heap_setCell_other _ (⟨p4, 2, none⟩ : Addr) _ (.int .i64 10001) n24).trans s3
    exact box_jat s4
  · have s0 := (heap_setCell_other _ (⟨p0, 1, none⟩ : Addr) _ (.int .i64 9) n30).trans h3
    have s1 := (heap_setCell_other _ (⟨p1, 3, none⟩ : Addr) _ (.int .i64 0) n31).trans s0
    have s2 := (heap_setCell_other _ (⟨p2, 5, none⟩ : Addr) _ (.int .i64 1000001) n32).trans s1
    have s3 := heap_setCell_same _ p3 0 _ t (.string ⟨#[49]⟩) s2
    have s4 := (heap_setCell_other _ (⟨p4, 2, none⟩ : Addr) _ (.int .i64 10001) n34).trans s3
    exact box_jat s4
  · have s0 := (heap_setCell_other _ (⟨p0, 1, none⟩ : Addr) _ (.int .i64 9) n40).trans h4
    have s1 := (heap_setCell_other _ (⟨p1, 3, none⟩ : Addr) _ (.int .i64 0) n41).trans s0
    have s2 := (heap_setCell_other _ (⟨p2, 5, none⟩ : Addr) _ (.int .i64 1000001) n42).trans s1
    have s3 := (heap_setCell_other _ (⟨p3, 0, none⟩ : Addr) _ (.string ⟨#[49]⟩) n43).trans s2
    have s4 := heap_setCell_same _ p4 2 _ t (.int .i64 10001) s3
    exact box_jat s4
theorem six_below {W W2 : World} {bb p0 p1 p2 p3 p4 : Nat} (k : JAt W bb 0 ⟨⟨#[97]⟩, 2, 9, 3, 2, 1000000, 100, true⟩ ∧ JAt W p0 0 ⟨⟨#[97]⟩, 9, 9, 3, 2, 1000000, 100, true⟩ ∧ JAt W p1 0 ⟨⟨#[97]⟩, 2, 9, 0, 2, 1000000, 100, true⟩ ∧ JAt W p2 0 ⟨⟨#[97]⟩, 2, 9, 3, 2, 1000001, 100, true⟩ ∧ JAt W p3 0 ⟨⟨#[49]⟩, 2, 9, 3, 2, 1000000, 100, true⟩ ∧ JAt W p4 0 ⟨⟨#[97]⟩, 2, 10001, 3, 2, 1000000, 100, true⟩) (hb : Below W.heap.size W W2) : JAt W2 bb 0 ⟨⟨#[97]⟩, 2, 9, 3, 2, 1000000, 100, true⟩ ∧ JAt W2 p0 0 ⟨⟨#[97]⟩, 9, 9, 3, 2, 1000000, 100, true⟩ ∧ JAt W2 p1 0 ⟨⟨#[97]⟩, 2, 9, 0, 2, 1000000, 100, true⟩ ∧ JAt W2 p2 0 ⟨⟨#[97]⟩, 2, 9, 3, 2, 1000001, 100, true⟩ ∧ JAt W2 p3 0 ⟨⟨#[49]⟩, 2, 9, 3, 2, 1000000, 100, true⟩ ∧ JAt W2 p4 0 ⟨⟨#[97]⟩, 2, 10001, 3, 2, 1000000, 100, true⟩ :=
  ⟨k.1.below k.1.lt hb, k.2.1.below k.2.1.lt hb, k.2.2.1.below k.2.2.1.lt hb, k.2.2.2.1.below k.2.2.2.1.lt hb, k.2.2.2.2.1.below k.2.2.2.2.1.lt hb, k.2.2.2.2.2.below k.2.2.2.2.2.lt hb⟩
def jD (d : Int) : Jb := ⟨⟨#[]⟩, 0, d, 0, 0, 0, 0, false⟩
theorem rdJ_three (w : World) (t : TypeId) : RdJ (w.alloc (.cells #[.string ⟨#[]⟩, .int .i64 0, .int .i64 5, .int .i64 0, .int .i64 0, .int .i64 0, .int .i64 0, .bool false, .string ⟨#[]⟩, .int .i64 0, .int .i64 3, .int .i64 0, .int .i64 0, .int .i64 0, .int .i64 0, .bool false, .string ⟨#[]⟩, .int .i64 0, .int .i64 5, .int .i64 0, .int .i64 0, .int .i64 0, .int .i64 0, .bool false] t)) (some ⟨w.heap.size, 0, none⟩) [jD 5, jD 3, jD 5] := by
  intro k x hx
  refine ⟨w.heap.size, 0, rfl, ?_⟩
  match k, hx with
  | 0, hx => simp at hx; subst hx; refine ⟨?_, ?_, ?_, ?_, ?_, ?_, ?_, ?_⟩ <;> simp [jD]
  | 1, hx => simp at hx; subst hx; refine ⟨?_, ?_, ?_, ?_, ?_, ?_, ?_, ?_⟩ <;> simp [jD]
  | 2, hx => simp at hx; subst hx; refine ⟨?_, ?_, ?_, ?_, ?_, ?_, ?_, ?_⟩ <;> simp [jD]
theorem ord_three : Ord (dlOf [jD 5, jD 3, jD 5]) [1, 0, 2] 3 := by
  refine ⟨?_, ?_, ?_⟩
  · simp [TT, dlOf, jD]
  · intro x hx; simp at hx; omega
  · intro v hv
    rcases (by omega : v = 0 ∨ v = 1 ∨ v = 2) with rfl | rfl | rfl <;> simp
theorem by_three (w : World) : Calls Tryd.prog 15 #[.slice (some ⟨w.heap.size, 0, none⟩) 3 3] (w.alloc (.cells #[.string ⟨#[]⟩, .int .i64 0, .int .i64 5, .int .i64 0, .int .i64 0, .int .i64 0, .int .i64 0, .bool false, .string ⟨#[]⟩, .int .i64 0, .int .i64 3, .int .i64 0, .int .i64 0, .int .i64 0, .int .i64 0, .bool false, .string ⟨#[]⟩, .int .i64 0, .int .i64 5, .int .i64 0, .int .i64 0, .int .i64 0, .int .i64 0, .bool false] 24)) (fun e w' => ∃ (B : Nat), e = .returned (.slice (some ⟨B, 0, none⟩) 3 3) ∧ RdN w' (some ⟨B, 0, none⟩) [1, 0, 2] ∧ Below (w.alloc (.cells #[.string ⟨#[]⟩, .int .i64 0, .int .i64 5, .int .i64 0, .int .i64 0, .int .i64 0, .int .i64 0, .bool false, .string ⟨#[]⟩, .int .i64 0, .int .i64 3, .int .i64 0, .int .i64 0, .int .i64 0, .int .i64 0, .bool false, .string ⟨#[]⟩, .int .i64 0, .int .i64 5, .int .i64 0, .int .i64 0, .int .i64 0, .int .i64 0, .bool false] 24)).heap.size (w.alloc (.cells #[.string ⟨#[]⟩, .int .i64 0, .int .i64 5, .int .i64 0, .int .i64 0, .int .i64 0, .int .i64 0, .bool false, .string ⟨#[]⟩, .int .i64 0, .int .i64 3, .int .i64 0, .int .i64 0, .int .i64 0, .int .i64 0, .bool false, .string ⟨#[]⟩, .int .i64 0, .int .i64 5, .int .i64 0, .int .i64 0, .int .i64 0, .int .i64 0, .bool false] 24)) w') := by
  have h := by_rdN (some ⟨w.heap.size, 0, none⟩) 3 [jD 5, jD 3, jD 5] (w.alloc (.cells #[.string ⟨#[]⟩, .int .i64 0, .int .i64 5, .int .i64 0, .int .i64 0, .int .i64 0, .int .i64 0, .bool false, .string ⟨#[]⟩, .int .i64 0, .int .i64 3, .int .i64 0, .int .i64 0, .int .i64 0, .int .i64 0, .bool false, .string ⟨#[]⟩, .int .i64 0, .int .i64 5, .int .i64 0, .int .i64 0, .int .i64 0, .int .i64 0, .bool false] 24)) (by simp) (by decide) (by simp) (rdJ_three w 24)
  rw [show ([jD 5, jD 3, jD 5] : List Jb).length = 3 from rfl] at h
  refine h.mono ?_
  rintro e w' ⟨B, L, rfl, _, h2, h3, h4⟩
  rw [ord_uniq h2 ord_three] at h3
  exact ⟨B, rfl, h3, h4⟩
theorem rdN_three (w : World) (t : TypeId) : RdN (w.alloc (.cells #[.int .i64 1, .int .i64 0, .int .i64 2] t)) (some ⟨w.heap.size, 0, none⟩) [1, 0, 2] := by
  intro k x hx
  refine ⟨w.heap.size, rfl, by simp, ?_⟩
  match k, hx with
  | 0, hx => simp at hx; subst hx; simp
  | 1, hx => simp at hx; subst hx; simp
  | 2, hx => simp at hx; subst hx; simp
theorem end_nil (w : World) (hL : Ltr w) : Calls Tryd.prog 12 #[.slice none 0 0] w (RetB (.int .i64 0) w) := end_any none 0 [] 0 w (by decide) (by decide) (fun x hx => by cases hx) hL (fun k x hx => by simp at hx) (by kernel_rfl)
theorem all_nil (w : World) (hL : Ltr w) : Calls Tryd.prog 13 #[.slice none 0 0] w (RetB (.bool true) w) := all_any none 0 [] true w (by decide) (by decide) (fun x hx => by cases hx) hL (fun k x hx => by simp at hx) (by kernel_rfl)
theorem all_zero (w : World) (hL : Ltr w) : Calls Tryd.prog 13 #[.slice (some ⟨w.heap.size, 0, none⟩) 1 1] (w.alloc (.cells #[.string ⟨#[]⟩, .int .i64 0, .int .i64 0, .int .i64 0, .int .i64 0, .int .i64 0, .int .i64 0, .bool false] 24)) (RetB (.bool false) (w.alloc (.cells #[.string ⟨#[]⟩, .int .i64 0, .int .i64 0, .int .i64 0, .int .i64 0, .int .i64 0, .int .i64 0, .bool false] 24))) := by
  have h := all_any (some ⟨w.heap.size, 0, none⟩) 1 [jD 0] false (w.alloc (.cells #[.string ⟨#[]⟩, .int .i64 0, .int .i64 0, .int .i64 0, .int .i64 0, .int .i64 0, .int .i64 0, .bool false] 24)) (by decide) (by simp) (by intro x hx; simp at hx; subst hx; decide) (hL.below ((Below.refl _ _).alloc (Nat.le_refl _) _)) (rdJ_one w 24 (jD 0)) (by kernel_rfl)
  rw [show ([jD 0] : List Jb).length = 1 from rfl] at h
  exact h
set_option maxHeartbeats 12800000 in
set_option maxRecDepth 100000 in
theorem JobKnown_ret (w : World) (hL : Ltr w) : Calls Tryd.prog 3 #[] w (RetB (.bool true) w) := by
  have A0 := Lib.hid (awake_any w hL)
  replace hL := Lib.hid hL
  go_enter Tryd.func3, Tryd.ntmps3
  go_wp2_with fail
  refine A0.out.mono ?_; rintro e w0 ⟨rfl, b0⟩
  replace b0 := Lib.hid b0
  clear A0
  go_wp2_with fail
  obtain ⟨wB, hwB⟩ : ∃ wB, wB = (w0.alloc (.cells #[.string ⟨#[97]⟩, .int .i64 2, .int .i64 9, .int .i64 3, .int .i64 2, .int .i64 1000000, .int .i64 100, .bool true] 24)).drew := ⟨_, rfl⟩
  have X0 : Hid (wB.heap[w0.heap.size]? = some (.cells #[.string ⟨#[97]⟩, .int .i64 2, .int .i64 9, .int .i64 3, .int .i64 2, .int .i64 1000000, .int .i64 100, .bool true] 24 (0, 0))) := by rw [hwB]; exact heap_alloc_new w0 _
  have bB : Hid (Below w.heap.size w wB) := by rw [hwB]; exact (b0.out.alloc b0.out.size _).drew
  have hl : w0.heap.size < wB.heap.size := by rw [hwB]; simp
  have cB : wB.cell? ⟨w0.heap.size, 0, none⟩ = some (.string ⟨#[97]⟩) ∧ wB.cell? ⟨w0.heap.size, 1, none⟩ = some (.int .i64 2) ∧ wB.cell? ⟨w0.heap.size, 2, none⟩ = some (.int .i64 9) ∧ wB.cell? ⟨w0.heap.size, 3, none⟩ = some (.int .i64 3) ∧ wB.cell? ⟨w0.heap.size, 4, none⟩ = some (.int .i64 2) ∧ wB.cell? ⟨w0.heap.size, 5, none⟩ = some (.int .i64 1000000) ∧ wB.cell? ⟨w0.heap.size, 6, none⟩ = some (.int .i64 100) ∧ wB.cell? ⟨w0.heap.size, 7, none⟩ = some (.bool true) := by
    refine ⟨?_, ?_, ?_, ?_, ?_, ?_, ?_, ?_⟩ <;> simp [World.cell?, X0.out]
  refine wp_region_held_drew (S := fun W => W.cell? ⟨w0.heap.size, 0, none⟩ = some (.string ⟨#[97]⟩) ∧ W.cell? ⟨w0.heap.size, 1, none⟩ = some (.int .i64 2) ∧ W.cell? ⟨w0.heap.size, 2, none⟩ = some (.int .i64 9) ∧ W.cell? ⟨w0.heap.size, 3, none⟩ = some (.int .i64 3) ∧ W.cell? ⟨w0.heap.size, 4, none⟩ = some (.int .i64 2) ∧ W.cell? ⟨w0.heap.size, 5, none⟩ = some (.int .i64 1000000) ∧ W.cell? ⟨w0.heap.size, 6, none⟩ = some (.int .i64 100) ∧ W.cell? ⟨w0.heap.size, 7, none⟩ = some (.bool true)) (by kernel_rfl) (by rw [← hwB]; exact cB) (fun hHeld => ?_)
  rw [← hwB]
  clear hwB b0 hHeld
  generalize w0.heap.size = bb at *
  have hHeld := cB
  refine wpAnyH_take (i := 0) (v := (.agg #[.string ⟨#[97]⟩, .int .i64 2, .int .i64 9, .int .i64 3, .int .i64 2, .int .i64 1000000, .int .i64 100, .bool true])) rfl (by kernel_rfl) (by kernel_rfl) (by kernel_rfl) (fun _ _ _ h => h) (Or.inl ⟨by rfl, ?_⟩) hHeld ?_
  · intro w hSw; obtain ⟨s0, s1, s2, s3, s4, s5, s6, s7⟩ := hSw; go_simp
  try simp only [List.getElem_toArray, List.getElem_cons_zero, List.getElem_cons_succ, Act.put, List.setIfInBounds_toArray, List.set_cons_zero, List.set_cons_succ]
  refine wpAnyH_take (i := 1) (v := (.agg #[.string ⟨#[97]⟩, .int .i64 2, .int .i64 9, .int .i64 3, .int .i64 2, .int .i64 1000000, .int .i64 100, .bool true])) rfl (by kernel_rfl) (by kernel_rfl) (by kernel_rfl) (fun _ _ _ h => h) (Or.inl ⟨by rfl, ?_⟩) hHeld ?_
  · intro w hSw; obtain ⟨s0, s1, s2, s3, s4, s5, s6, s7⟩ := hSw; go_simp
  try simp only [List.getElem_toArray, List.getElem_cons_zero, List.getElem_cons_succ, Act.put, List.setIfInBounds_toArray, List.set_cons_zero, List.set_cons_succ]
  refine wpAnyH_take (i := 2) (v := (.agg #[.string ⟨#[97]⟩, .int .i64 2, .int .i64 9, .int .i64 3, .int .i64 2, .int .i64 1000000, .int .i64 100, .bool true])) rfl (by kernel_rfl) (by kernel_rfl) (by kernel_rfl) (fun _ _ _ h => h) (Or.inl ⟨by rfl, ?_⟩) hHeld ?_
  · intro w hSw; obtain ⟨s0, s1, s2, s3, s4, s5, s6, s7⟩ := hSw; go_simp
  try simp only [List.getElem_toArray, List.getElem_cons_zero, List.getElem_cons_succ, Act.put, List.setIfInBounds_toArray, List.set_cons_zero, List.set_cons_succ]
  refine wpAnyH_take (i := 3) (v := (.agg #[.string ⟨#[97]⟩, .int .i64 2, .int .i64 9, .int .i64 3, .int .i64 2, .int .i64 1000000, .int .i64 100, .bool true])) rfl (by kernel_rfl) (by kernel_rfl) (by kernel_rfl) (fun _ _ _ h => h) (Or.inl ⟨by rfl, ?_⟩) hHeld ?_
  · intro w hSw; obtain ⟨s0, s1, s2, s3, s4, s5, s6, s7⟩ := hSw; go_simp
  try simp only [List.getElem_toArray, List.getElem_cons_zero, List.getElem_cons_succ, Act.put, List.setIfInBounds_toArray, List.set_cons_zero, List.set_cons_succ]
  refine wpAnyH_take (i := 4) (v := (.agg #[.string ⟨#[97]⟩, .int .i64 2, .int .i64 9, .int .i64 3, .int .i64 2, .int .i64 1000000, .int .i64 100, .bool true])) rfl (by kernel_rfl) (by kernel_rfl) (by kernel_rfl) (fun _ _ _ h => h) (Or.inl ⟨by rfl, ?_⟩) hHeld ?_
  · intro w hSw; obtain ⟨s0, s1, s2, s3, s4, s5, s6, s7⟩ := hSw; go_simp
  try simp only [List.getElem_toArray, List.getElem_cons_zero, List.getElem_cons_succ, Act.put, List.setIfInBounds_toArray, List.set_cons_zero, List.set_cons_succ]
  refine (allocs5 (fun f => #[true, true, true, true, true, f 0, f 1, f 2, f 3, f 4, false, false, false, false, false]) (fun x => { tmps := #[.bool false, .pointer (some ⟨bb, 0, none⟩), x 0, x 1, x 2, x 3, x 4, .bool true, .bool false, .agg #[.string ⟨#[97]⟩, .int .i64 2, .int .i64 9, .int .i64 3, .int .i64 2, .int .i64 1000000, .int .i64 100, .bool true], .agg #[.string ⟨#[97]⟩, .int .i64 2, .int .i64 9, .int .i64 3, .int .i64 2, .int .i64 1000000, .int .i64 100, .bool true], .agg #[.string ⟨#[97]⟩, .int .i64 2, .int .i64 9, .int .i64 3, .int .i64 2, .int .i64 1000000, .int .i64 100, .bool true], .agg #[.string ⟨#[97]⟩, .int .i64 2, .int .i64 9, .int .i64 3, .int .i64 2, .int .i64 1000000, .int .i64 100, .bool true], .agg #[.string ⟨#[97]⟩, .int .i64 2, .int .i64 9, .int .i64 3, .int .i64 2, .int .i64 1000000, .int .i64 100, .bool true], .agg #[.string ⟨#[97]⟩, .int .i64 2, .int .i64 9, .int .i64 3, .int .i64 2, .int .i64 1000000, .int .i64 100, .bool true], undef, undef, undef, undef, undef, undef, undef, undef, undef, undef, undef, undef, undef, undef, undef, undef, undef, undef, undef, undef, undef, undef, undef, undef, undef, undef, undef, undef, undef, undef, undef, undef, undef, undef, undef, undef, undef, undef, undef, undef, undef, undef, undef, undef, undef, undef, undef, undef, undef, undef, undef, undef, undef, undef, undef, undef, undef, undef, undef, undef, undef, undef, undef, undef, undef, undef, undef, undef, undef, undef, undef, undef, undef, undef, undef, undef, undef], defers := [] }) 5 5 24 #[.string ⟨#[]⟩, .int .i64 0, .int .i64 0, .int .i64 0, .int .i64 0, .int .i64 0, .int .i64 0, .bool false] wB ?hset ?hready ?hstep ?hS ?hdone) 5 (fun _ => false) (fun _ => undef) wB rfl (AInv.start _ _ _)
  case hset =>
    intro f j hj
    rcases (by omega : j = 0 ∨ j = 1 ∨ j = 2 ∨ j = 3 ∨ j = 4) with rfl | rfl | rfl | rfl | rfl <;> simp [putF]
  case hready =>
    intro f hex
    obtain ⟨b0, h0⟩ : ∃ b, f 0 = b := ⟨_, rfl⟩
    obtain ⟨b1, h1⟩ : ∃ b, f 1 = b := ⟨_, rfl⟩
    obtain ⟨b2, h2⟩ : ∃ b, f 2 = b := ⟨_, rfl⟩
    obtain ⟨b3, h3⟩ : ∃ b, f 3 = b := ⟨_, rfl⟩
    obtain ⟨b4, h4⟩ : ∃ b, f 4 = b := ⟨_, rfl⟩
    simp only [h0, h1, h2, h3, h4]
    cases b0
    · cases b1
      · cases b2
        · cases b3
          · cases b4
            · refine ⟨[5, 6, 7, 8, 9], by kernel_rfl, by simp, fun i hi => ?_⟩
              simp only [List.mem_cons, List.not_mem_nil, or_false] at hi
              rcases hi with rfl | rfl | rfl | rfl | rfl
              · exact ⟨0, by decide, h0, rfl⟩
              · exact ⟨1, by decide, h1, rfl⟩
              · exact ⟨2, by decide, h2, rfl⟩
              · exact ⟨3, by decide, h3, rfl⟩
              · exact ⟨4, by decide, h4, rfl⟩
            · refine ⟨[5, 6, 7, 8], by kernel_rfl, by simp, fun i hi => ?_⟩
              simp only [List.mem_cons, List.not_mem_nil, or_false] at hi
              rcases hi with rfl | rfl | rfl | rfl
              · exact ⟨0, by decide, h0, rfl⟩
              · exact ⟨1, by decide, h1, rfl⟩
              · exact ⟨2, by decide, h2, rfl⟩
              · exact ⟨3, by decide, h3, rfl⟩
          · cases b4
            · refine ⟨[5, 6, 7, 9], by kernel_rfl, by simp, fun i hi => ?_⟩
              simp only [List.mem_cons, List.not_mem_nil, or_false] at hi
              rcases hi with rfl | rfl | rfl | rfl
              · exact ⟨0, by decide, h0, rfl⟩
              · exact ⟨1, by decide, h1, rfl⟩
              · exact ⟨2, by decide, h2, rfl⟩
              · exact ⟨4, by decide, h4, rfl⟩
            · refine ⟨[5, 6, 7], by kernel_rfl, by simp, fun i hi => ?_⟩
              simp only [List.mem_cons, List.not_mem_nil, or_false] at hi
              rcases hi with rfl | rfl | rfl
              · exact ⟨0, by decide, h0, rfl⟩
              · exact ⟨1, by decide, h1, rfl⟩
              · exact ⟨2, by decide, h2, rfl⟩
        · cases b3
          · cases b4
            · refine ⟨[5, 6, 8, 9], by kernel_rfl, by simp, fun i hi => ?_⟩
              simp only [List.mem_cons, List.not_mem_nil, or_false] at hi
              rcases hi with rfl | rfl | rfl | rfl
              · exact ⟨0, by decide, h0, rfl⟩
              · exact ⟨1, by decide, h1, rfl⟩
              · exact ⟨3, by decide, h3, rfl⟩
              · exact ⟨4, by decide, h4, rfl⟩
            · refine ⟨[5, 6, 8], by kernel_rfl, by simp, fun i hi => ?_⟩
              simp only [List.mem_cons, List.not_mem_nil, or_false] at hi
              rcases hi with rfl | rfl | rfl
              · exact ⟨0, by decide, h0, rfl⟩
              · exact ⟨1, by decide, h1, rfl⟩
              · exact ⟨3, by decide, h3, rfl⟩
          · cases b4
            · refine ⟨[5, 6, 9], by kernel_rfl, by simp, fun i hi => ?_⟩
              simp only [List.mem_cons, List.not_mem_nil, or_false] at hi
              rcases hi with rfl | rfl | rfl
              · exact ⟨0, by decide, h0, rfl⟩
              · exact ⟨1, by decide, h1, rfl⟩
              · exact ⟨4, by decide, h4, rfl⟩
            · refine ⟨[5, 6], by kernel_rfl, by simp, fun i hi => ?_⟩
              simp only [List.mem_cons, List.not_mem_nil, or_false] at hi
              rcases hi with rfl | rfl
              · exact ⟨0, by decide, h0, rfl⟩
              · exact ⟨1, by decide, h1, rfl⟩
      · cases b2
        · cases b3
          · cases b4
            · refine ⟨[5, 7, 8, 9], by kernel_rfl, by simp, fun i hi => ?_⟩
              simp only [List.mem_cons, List.not_mem_nil, or_false] at hi
              rcases hi with rfl | rfl | rfl | rfl
              · exact ⟨0, by decide, h0, rfl⟩
              · exact ⟨2, by decide, h2, rfl⟩
              · exact ⟨3, by decide, h3, rfl⟩
              · exact ⟨4, by decide, h4, rfl⟩
            · refine ⟨[5, 7, 8], by kernel_rfl, by simp, fun i hi => ?_⟩
              simp only [List.mem_cons, List.not_mem_nil, or_false] at hi
              rcases hi with rfl | rfl | rfl
              · exact ⟨0, by decide, h0, rfl⟩
              · exact ⟨2, by decide, h2, rfl⟩
              · exact ⟨3, by decide, h3, rfl⟩
          · cases b4
            · refine ⟨[5, 7, 9], by kernel_rfl, by simp, fun i hi => ?_⟩
              simp only [List.mem_cons, List.not_mem_nil, or_false] at hi
              rcases hi with rfl | rfl | rfl
              · exact ⟨0, by decide, h0, rfl⟩
              · exact ⟨2, by decide, h2, rfl⟩
              · exact ⟨4, by decide, h4, rfl⟩
            · refine ⟨[5, 7], by kernel_rfl, by simp, fun i hi => ?_⟩
              simp only [List.mem_cons, List.not_mem_nil, or_false] at hi
              rcases hi with rfl | rfl
              · exact ⟨0, by decide, h0, rfl⟩
              · exact ⟨2, by decide, h2, rfl⟩
        · cases b3
          · cases b4
            · refine ⟨[5, 8, 9], by kernel_rfl, by simp, fun i hi => ?_⟩
              simp only [List.mem_cons, List.not_mem_nil, or_false] at hi
              rcases hi with rfl | rfl | rfl
              · exact ⟨0, by decide, h0, rfl⟩
              · exact ⟨3, by decide, h3, rfl⟩
              · exact ⟨4, by decide, h4, rfl⟩
            · refine ⟨[5, 8], by kernel_rfl, by simp, fun i hi => ?_⟩
              simp only [List.mem_cons, List.not_mem_nil, or_false] at hi
              rcases hi with rfl | rfl
              · exact ⟨0, by decide, h0, rfl⟩
              · exact ⟨3, by decide, h3, rfl⟩
          · cases b4
            · refine ⟨[5, 9], by kernel_rfl, by simp, fun i hi => ?_⟩
              simp only [List.mem_cons, List.not_mem_nil, or_false] at hi
              rcases hi with rfl | rfl
              · exact ⟨0, by decide, h0, rfl⟩
              · exact ⟨4, by decide, h4, rfl⟩
            · refine ⟨[5], by kernel_rfl, by simp, fun i hi => ?_⟩
              simp only [List.mem_cons, List.not_mem_nil, or_false] at hi
              subst hi
              exact ⟨0, by decide, h0, rfl⟩
    · cases b1
      · cases b2
        · cases b3
          · cases b4
            · refine ⟨[6, 7, 8, 9], by kernel_rfl, by simp, fun i hi => ?_⟩
              simp only [List.mem_cons, List.not_mem_nil, or_false] at hi
              rcases hi with rfl | rfl | rfl | rfl
              · exact ⟨1, by decide, h1, rfl⟩
              · exact ⟨2, by decide, h2, rfl⟩
              · exact ⟨3, by decide, h3, rfl⟩
              · exact ⟨4, by decide, h4, rfl⟩
            · refine ⟨[6, 7, 8], by kernel_rfl, by simp, fun i hi => ?_⟩
              simp only [List.mem_cons, List.not_mem_nil, or_false] at hi
              rcases hi with rfl | rfl | rfl
              · exact ⟨1, by decide, h1, rfl⟩
              · exact ⟨2, by decide, h2, rfl⟩
              · exact ⟨3, by decide, h3, rfl⟩
          · cases b4
            · refine ⟨[6, 7, 9], by kernel_rfl, by simp, fun i hi => ?_⟩
              simp only [List.mem_cons, List.not_mem_nil, or_false] at hi
              rcases hi with rfl | rfl | rfl
              · exact ⟨1, by decide, h1, rfl⟩
              · exact ⟨2, by decide, h2, rfl⟩
              · exact ⟨4, by decide, h4, rfl⟩
            · refine ⟨[6, 7], by kernel_rfl, by simp, fun i hi => ?_⟩
              simp only [List.mem_cons, List.not_mem_nil, or_false] at hi
              rcases hi with rfl | rfl
              · exact ⟨1, by decide, h1, rfl⟩
              · exact ⟨2, by decide, h2, rfl⟩
        · cases b3
          · cases b4
            · refine ⟨[6, 8, 9], by kernel_rfl, by simp, fun i hi => ?_⟩
              simp only [List.mem_cons, List.not_mem_nil, or_false] at hi
              rcases hi with rfl | rfl | rfl
              · exact ⟨1, by decide, h1, rfl⟩
              · exact ⟨3, by decide, h3, rfl⟩
              · exact ⟨4, by decide, h4, rfl⟩
            · refine ⟨[6, 8], by kernel_rfl, by simp, fun i hi => ?_⟩
              simp only [List.mem_cons, List.not_mem_nil, or_false] at hi
              rcases hi with rfl | rfl
              · exact ⟨1, by decide, h1, rfl⟩
              · exact ⟨3, by decide, h3, rfl⟩
          · cases b4
            · refine ⟨[6, 9], by kernel_rfl, by simp, fun i hi => ?_⟩
              simp only [List.mem_cons, List.not_mem_nil, or_false] at hi
              rcases hi with rfl | rfl
              · exact ⟨1, by decide, h1, rfl⟩
              · exact ⟨4, by decide, h4, rfl⟩
            · refine ⟨[6], by kernel_rfl, by simp, fun i hi => ?_⟩
              simp only [List.mem_cons, List.not_mem_nil, or_false] at hi
              subst hi
              exact ⟨1, by decide, h1, rfl⟩
      · cases b2
        · cases b3
          · cases b4
            · refine ⟨[7, 8, 9], by kernel_rfl, by simp, fun i hi => ?_⟩
              simp only [List.mem_cons, List.not_mem_nil, or_false] at hi
              rcases hi with rfl | rfl | rfl
              · exact ⟨2, by decide, h2, rfl⟩
              · exact ⟨3, by decide, h3, rfl⟩
              · exact ⟨4, by decide, h4, rfl⟩
            · refine ⟨[7, 8], by kernel_rfl, by simp, fun i hi => ?_⟩
              simp only [List.mem_cons, List.not_mem_nil, or_false] at hi
              rcases hi with rfl | rfl
              · exact ⟨2, by decide, h2, rfl⟩
              · exact ⟨3, by decide, h3, rfl⟩
          · cases b4
            · refine ⟨[7, 9], by kernel_rfl, by simp, fun i hi => ?_⟩
              simp only [List.mem_cons, List.not_mem_nil, or_false] at hi
              rcases hi with rfl | rfl
              · exact ⟨2, by decide, h2, rfl⟩
              · exact ⟨4, by decide, h4, rfl⟩
            · refine ⟨[7], by kernel_rfl, by simp, fun i hi => ?_⟩
              simp only [List.mem_cons, List.not_mem_nil, or_false] at hi
              subst hi
              exact ⟨2, by decide, h2, rfl⟩
        · cases b3
          · cases b4
            · refine ⟨[8, 9], by kernel_rfl, by simp, fun i hi => ?_⟩
              simp only [List.mem_cons, List.not_mem_nil, or_false] at hi
              rcases hi with rfl | rfl
              · exact ⟨3, by decide, h3, rfl⟩
              · exact ⟨4, by decide, h4, rfl⟩
            · refine ⟨[8], by kernel_rfl, by simp, fun i hi => ?_⟩
              simp only [List.mem_cons, List.not_mem_nil, or_false] at hi
              subst hi
              exact ⟨3, by decide, h3, rfl⟩
          · cases b4
            · refine ⟨[9], by kernel_rfl, by simp, fun i hi => ?_⟩
              simp only [List.mem_cons, List.not_mem_nil, or_false] at hi
              subst hi
              exact ⟨4, by decide, h4, rfl⟩
            · obtain ⟨j, hj, hf⟩ := hex
              rcases (by omega : j = 0 ∨ j = 1 ∨ j = 2 ∨ j = 3 ∨ j = 4) with rfl | rfl | rfl | rfl | rfl <;> simp_all
  case hstep =>
    intro j hj K x W h
    rcases (by omega : j = 0 ∨ j = 1 ∨ j = 2 ∨ j = 3 ∨ j = 4) with rfl | rfl | rfl | rfl | rfl
    all_goals
      refine wpOp_step rfl (fun K' hK => ?_)
      have h' := hK _ _ h
      simp [putV] at h'
      go_simp
      exact h'
  case hS =>
    intro W hb
    refine ⟨?_, ?_, ?_, ?_, ?_, ?_, ?_, ?_⟩ <;> simp [World.cell?, hb.block _ hl, X0.out]
  case hdone =>
    intro f x W hf I
    obtain ⟨p0, x0, q0, m0⟩ := I.yes 0 (hf 0 (by decide))
    obtain ⟨p1, x1, q1, m1⟩ := I.yes 1 (hf 1 (by decide))
    obtain ⟨p2, x2, q2, m2⟩ := I.yes 2 (hf 2 (by decide))
    obtain ⟨p3, x3, q3, m3⟩ := I.yes 3 (hf 3 (by decide))
    obtain ⟨p4, x4, q4, m4⟩ := I.yes 4 (hf 4 (by decide))
    have n01 : p0 ≠ p1 := fun e => I.ne 0 1 (by decide) (hf 0 (by decide)) (hf 1 (by decide)) (by rw [x0, x1, e])
    have n02 : p0 ≠ p2 := fun e => I.ne 0 2 (by decide) (hf 0 (by decide)) (hf 2 (by decide)) (by rw [x0, x2, e])
    have n03 : p0 ≠ p3 := fun e => I.ne 0 3 (by decide) (hf 0 (by decide)) (hf 3 (by decide)) (by rw [x0, x3, e])
    have n04 : p0 ≠ p4 := fun e => I.ne 0 4 (by decide) (hf 0 (by decide)) (hf 4 (by decide)) (by rw [x0, x4, e])
    have nb0 : bb ≠ p0 := by omega
    have nc0 : p0 ≠ bb := by omega
    have n10 : p1 ≠ p0 := fun e => I.ne 1 0 (by decide) (hf 1 (by decide)) (hf 0 (by decide)) (by rw [x1, x0, e])
    have n12 : p1 ≠ p2 := fun e => I.ne 1 2 (by decide) (hf 1 (by decide)) (hf 2 (by decide)) (by rw [x1, x2, e])
    have n13 : p1 ≠ p3 := fun e => I.ne 1 3 (by decide) (hf 1 (by decide)) (hf 3 (by decide)) (by rw [x1, x3, e])
    have n14 : p1 ≠ p4 := fun e => I.ne 1 4 (by decide) (hf 1 (by decide)) (hf 4 (by decide)) (by rw [x1, x4, e])
    have nb1 : bb ≠ p1 := by omega
    have nc1 : p1 ≠ bb := by omega
    have n20 : p2 ≠ p0 := fun e => I.ne 2 0 (by decide) (hf 2 (by decide)) (hf 0 (by decide)) (by rw [x2, x0, e])
    have n21 : p2 ≠ p1 := fun e => I.ne 2 1 (by decide) (hf 2 (by decide)) (hf 1 (by decide)) (by rw [x2, x1, e])
    have n23 : p2 ≠ p3 := fun e => I.ne 2 3 (by decide) (hf 2 (by decide)) (hf 3 (by decide)) (by rw [x2, x3, e])
    have n24 : p2 ≠ p4 := fun e => I.ne 2 4 (by decide) (hf 2 (by decide)) (hf 4 (by decide)) (by rw [x2, x4, e])
    have nb2 : bb ≠ p2 := by omega
    have nc2 : p2 ≠ bb := by omega
    have n30 : p3 ≠ p0 := fun e => I.ne 3 0 (by decide) (hf 3 (by decide)) (hf 0 (by decide)) (by rw [x3, x0, e])
    have n31 : p3 ≠ p1 := fun e => I.ne 3 1 (by decide) (hf 3 (by decide)) (hf 1 (by decide)) (by rw [x3, x1, e])
    have n32 : p3 ≠ p2 := fun e => I.ne 3 2 (by decide) (hf 3 (by decide)) (hf 2 (by decide)) (by rw [x3, x2, e])
    have n34 : p3 ≠ p4 := fun e => I.ne 3 4 (by decide) (hf 3 (by decide)) (hf 4 (by decide)) (by rw [x3, x4, e])
    have nb3 : bb ≠ p3 := by omega
    have nc3 : p3 ≠ bb := by omega
    have n40 : p4 ≠ p0 := fun e => I.ne 4 0 (by decide) (hf 4 (by decide)) (hf 0 (by decide)) (by rw [x4, x0, e])
    have n41 : p4 ≠ p1 := fun e => I.ne 4 1 (by decide) (hf 4 (by decide)) (hf 1 (by decide)) (by rw [x4, x1, e])
    have n42 : p4 ≠ p2 := fun e => I.ne 4 2 (by decide) (hf 4 (by decide)) (hf 2 (by decide)) (by rw [x4, x2, e])
    have n43 : p4 ≠ p3 := fun e => I.ne 4 3 (by decide) (hf 4 (by decide)) (hf 3 (by decide)) (by rw [x4, x3, e])
    have nb4 : bb ≠ p4 := by omega
    have nc4 : p4 ≠ bb := by omega
    have XB : W.heap[bb]? = some (.cells #[.string ⟨#[97]⟩, .int .i64 2, .int .i64 9, .int .i64 3, .int .i64 2, .int .i64 1000000, .int .i64 100, .bool true] 24 (0, 0)) := by rw [I.below.block _ hl]; exact X0.out
    have BW : Hid (Below w.heap.size w W) := below_on bB.out I.below
    simp only [hf 0 (by decide), hf 1 (by decide), hf 2 (by decide), hf 3 (by decide), hf 4 (by decide), x0, x1, x2, x3, x4]
    have E := Lib.hid (And.intro m0 (And.intro m1 (And.intro m2 (And.intro m3 (And.intro m4 XB)))))
    have HB : Hid (w.heap.size ≤ p0 ∧ w.heap.size ≤ p1 ∧ w.heap.size ≤ p2 ∧ w.heap.size ≤ p3 ∧ w.heap.size ≤ p4) := by
      have := bB.out.size
      exact ⟨by omega, by omega, by omega, by omega, by omega⟩
    clear I x0 x1 x2 x3 x4 hf m0 m1 m2 m3 m4 XB X0 bB cB hHeld hl
    have hHeld := boxJ E.out.2.2.2.2.2
    obtain ⟨z0, z1, z2, z3, z4, z5, z6, z7, f0, f1, f2, f3, f4, f5, f6, f7⟩ := boxZ E.out.1
    refine wpAnyH_ready (rs := [10]) (by kernel_rfl) (by simp) ?_
    refine AllReadyH.cons rfl (fun K hK => ?_) AllReadyH.nil
    clear hHeld
    go_simp
    have E' := Lib.hid (And.intro (put8_same E.out.1) (And.intro ((put8_other n10).trans E.out.2.1) (And.intro ((put8_other n20).trans E.out.2.2.1) (And.intro ((put8_other n30).trans E.out.2.2.2.1) (And.intro ((put8_other n40).trans E.out.2.2.2.2.1) ((put8_other nb0).trans E.out.2.2.2.2.2))))))
    have BW' : Hid (Below w.heap.size w (put8 W p0)) := put8_below BW.out HB.out.1
    refine hK.out _ (put8 W p0) (boxJ E'.out.2.2.2.2.2) (fun hHeld => ?_)
    clear hK K z0 z1 z2 z3 z4 z5 z6 z7 f0 f1 f2 f3 f4 f5 f6 f7 hHeld E BW
    generalize put8 W p0 = U0 at E' BW' ⊢
    have E := E'
    have BW := BW'
    clear E' BW'
    have hHeld := boxJ E.out.2.2.2.2.2
    obtain ⟨z0, z1, z2, z3, z4, z5, z6, z7, f0, f1, f2, f3, f4, f5, f6, f7⟩ := boxZ (E.out.2.1)
    refine wpAnyH_ready (rs := [11]) (by kernel_rfl) (by simp) ?_
    refine AllReadyH.cons rfl (fun K hK => ?_) AllReadyH.nil
    clear hHeld
    go_simp
    have E' := Lib.hid (And.intro ((put8_other n01).trans E.out.1) (And.intro (put8_same E.out.2.1) (And.intro ((put8_other n21).trans E.out.2.2.1) (And.intro ((put8_other n31).trans E.out.2.2.2.1) (And.intro ((put8_other n41).trans E.out.2.2.2.2.1) ((put8_other nb1).trans E.out.2.2.2.2.2))))))
    have BW' : Hid (Below w.heap.size w (put8 U0 p1)) := put8_below BW.out HB.out.2.1
    refine hK.out _ (put8 U0 p1) (boxJ E'.out.2.2.2.2.2) (fun hHeld => ?_)
    clear hK K z0 z1 z2 z3 z4 z5 z6 z7 f0 f1 f2 f3 f4 f5 f6 f7 hHeld E BW
    generalize put8 U0 p1 = U1 at E' BW' ⊢
    have E := E'
    have BW := BW'
    clear E' BW'
    have hHeld := boxJ E.out.2.2.2.2.2
    obtain ⟨z0, z1, z2, z3, z4, z5, z6, z7, f0, f1, f2, f3, f4, f5, f6, f7⟩ := boxZ (E.out.2.2.1)
    refine wpAnyH_ready (rs := [12]) (by kernel_rfl) (by simp) ?_
    refine AllReadyH.cons rfl (fun K hK => ?_) AllReadyH.nil
    clear hHeld
    go_simp
    have E' := Lib.hid (And.intro ((put8_other n02).trans E.out.1) (And.intro ((put8_other n12).trans E.out.2.1) (And.intro (put8_same E.out.2.2.1) (And.intro ((put8_other n32).trans E.out.2.2.2.1) (And.intro ((put8_other n42).trans E.out.2.2.2.2.1) ((put8_other nb2).trans E.out.2.2.2.2.2))))))
    have BW' : Hid (Below w.heap.size w (put8 U1 p2)) := put8_below BW.out HB.out.2.2.1
    refine hK.out _ (put8 U1 p2) (boxJ E'.out.2.2.2.2.2) (fun hHeld => ?_)
    clear hK K z0 z1 z2 z3 z4 z5 z6 z7 f0 f1 f2 f3 f4 f5 f6 f7 hHeld E BW
    generalize put8 U1 p2 = U2 at E' BW' ⊢
    have E := E'
    have BW := BW'
    clear E' BW'
    have hHeld := boxJ E.out.2.2.2.2.2
    obtain ⟨z0, z1, z2, z3, z4, z5, z6, z7, f0, f1, f2, f3, f4, f5, f6, f7⟩ := boxZ (E.out.2.2.2.1)
    refine wpAnyH_ready (rs := [13]) (by kernel_rfl) (by simp) ?_
    refine AllReadyH.cons rfl (fun K hK => ?_) AllReadyH.nil
    clear hHeld
    go_simp
    have E' := Lib.hid (And.intro ((put8_other n03).trans E.out.1) (And.intro ((put8_other n13).trans E.out.2.1) (And.intro ((put8_other n23).trans E.out.2.2.1) (And.intro (put8_same E.out.2.2.2.1) (And.intro ((put8_other n43).trans E.out.2.2.2.2.1) ((put8_other nb3).trans E.out.2.2.2.2.2))))))
    have BW' : Hid (Below w.heap.size w (put8 U2 p3)) := put8_below BW.out HB.out.2.2.2.1
    refine hK.out _ (put8 U2 p3) (boxJ E'.out.2.2.2.2.2) (fun hHeld => ?_)
    clear hK K z0 z1 z2 z3 z4 z5 z6 z7 f0 f1 f2 f3 f4 f5 f6 f7 hHeld E BW
    generalize put8 U2 p3 = U3 at E' BW' ⊢
    have E := E'
    have BW := BW'
    clear E' BW'
    have hHeld := boxJ E.out.2.2.2.2.2
    obtain ⟨z0, z1, z2, z3, z4, z5, z6, z7, f0, f1, f2, f3, f4, f5, f6, f7⟩ := boxZ (E.out.2.2.2.2.1)
    refine wpAnyH_ready (rs := [14]) (by kernel_rfl) (by simp) ?_
    refine AllReadyH.cons rfl (fun K hK => ?_) AllReadyH.nil
    clear hHeld
    go_simp
    have E' := Lib.hid (And.intro ((put8_other n04).trans E.out.1) (And.intro ((put8_other n14).trans E.out.2.1) (And.intro ((put8_other n24).trans E.out.2.2.1) (And.intro ((put8_other n34).trans E.out.2.2.2.1) (And.intro (put8_same E.out.2.2.2.2.1) ((put8_other nb4).trans E.out.2.2.2.2.2))))))
    have BW' : Hid (Below w.heap.size w (put8 U3 p4)) := put8_below BW.out HB.out.2.2.2.2
    refine hK.out _ (put8 U3 p4) (boxJ E'.out.2.2.2.2.2) (fun hHeld => ?_)
    clear hK K z0 z1 z2 z3 z4 z5 z6 z7 f0 f1 f2 f3 f4 f5 f6 f7 hHeld E BW
    generalize put8 U3 p4 = U4 at E' BW' ⊢
    have E := E'
    have BW := BW'
    clear E' BW'
    refine wpAnyH_done (by kernel_rfl) ?_ _
    have F0 : Hid (Below w.heap.size w (fin5 U4 p0 p1 p2 p3 p4)) := ((((BW.out.setCell HB.out.1 _).setCell HB.out.2.1 _).setCell HB.out.2.2.1 _).setCell HB.out.2.2.2.1 _).setCell HB.out.2.2.2.2 _
    have F : Hid (JAt (fin5 U4 p0 p1 p2 p3 p4) bb 0 ⟨⟨#[97]⟩, 2, 9, 3, 2, 1000000, 100, true⟩ ∧ JAt (fin5 U4 p0 p1 p2 p3 p4) p0 0 ⟨⟨#[97]⟩, 9, 9, 3, 2, 1000000, 100, true⟩ ∧ JAt (fin5 U4 p0 p1 p2 p3 p4) p1 0 ⟨⟨#[97]⟩, 2, 9, 0, 2, 1000000, 100, true⟩ ∧ JAt (fin5 U4 p0 p1 p2 p3 p4) p2 0 ⟨⟨#[97]⟩, 2, 9, 3, 2, 1000001, 100, true⟩ ∧ JAt (fin5 U4 p0 p1 p2 p3 p4) p3 0 ⟨⟨#[49]⟩, 2, 9, 3, 2, 1000000, 100, true⟩ ∧ JAt (fin5 U4 p0 p1 p2 p3 p4) p4 0 ⟨⟨#[97]⟩, 2, 10001, 3, 2, 1000000, 100, true⟩) := fin5_six n01 n02 n03 n04 n10 n12 n13 n14 n20 n21 n23 n24 n30 n31 n32 n34 n40 n41 n42 n43 nb0 nb1 nb2 nb3 nb4 E.out.2.2.2.2.2 E.out.1 E.out.2.1 E.out.2.2.1 E.out.2.2.2.1 E.out.2.2.2.2.1
    have g0 : U4.cell? ⟨p0, 1, none⟩ = some (.int .i64 2) ∧ U4.frozen? ⟨p0, 1, none⟩ = false := by constructor <;> simp [World.cell?, World.frozen?, E.out.1]
    obtain ⟨g0, h0⟩ := g0
    have g1 : U4.cell? ⟨p1, 3, none⟩ = some (.int .i64 3) ∧ U4.frozen? ⟨p1, 3, none⟩ = false := by constructor <;> simp [World.cell?, World.frozen?, E.out.2.1]
    obtain ⟨g1, h1⟩ := g1
    have g2 : U4.cell? ⟨p2, 5, none⟩ = some (.int .i64 1000000) ∧ U4.frozen? ⟨p2, 5, none⟩ = false := by constructor <;> simp [World.cell?, World.frozen?, E.out.2.2.1]
    obtain ⟨g2, h2⟩ := g2
    have g3 : U4.cell? ⟨p3, 0, none⟩ = some (.string ⟨#[97]⟩) ∧ U4.frozen? ⟨p3, 0, none⟩ = false := by constructor <;> simp [World.cell?, World.frozen?, E.out.2.2.2.1]
    obtain ⟨g3, h3⟩ := g3
    have g4 : U4.cell? ⟨p4, 2, none⟩ = some (.int .i64 9) ∧ U4.frozen? ⟨p4, 2, none⟩ = false := by constructor <;> simp [World.cell?, World.frozen?, E.out.2.2.2.2.1]
    obtain ⟨g4, h4⟩ := g4
    obtain ⟨c0, c1, c2, c3, c4, c5, c6, c7⟩ := boxJ E.out.2.2.2.2.2
    clear E BW
    have C : Hid (∀ w', Below w.heap.size w w' → Calls Tryd.prog 8 #[.agg #[.string ⟨#[97]⟩, .int .i64 2, .int .i64 9, .int .i64 3, .int .i64 2, .int .i64 1000000, .int .i64 100, .bool true]] w' (RetB (.bool true) w')) := fun w' hb => jgood_raw _ _ _ _ _ _ _ _ _ w' (by decide) (hL.out.below hb) (by kernel_rfl)
    go_wp2_with fail
    refine (C.out (fin5 U4 p0 p1 p2 p3 p4) F0.out).mono ?_; rintro e y0 ⟨rfl, hb⟩
    replace F := Lib.hid (six_below F.out hb)
    replace F0 := Lib.hid (below_on F0.out hb)
    clear C hb c0 c1 c2 c3 c4 c5 c6 c7 g0 g1 g2 g3 g4 h0 h1 h2 h3 h4
    dsimp only [List.append] at *
    have C : Hid (∀ w', Below w.heap.size w w' → Calls Tryd.prog 9 #[.agg #[.string ⟨#[97]⟩, .int .i64 2, .int .i64 9, .int .i64 3, .int .i64 2, .int .i64 1000000, .int .i64 100, .bool true]] w' (RetB (.int .i64 2) w')) := fun w' hb => jwork_raw _ _ _ _ _ _ _ _ true _ w' (by decide) (hL.out.below hb) (by kernel_rfl) (by decide)
    obtain ⟨c0, c1, c2, c3, c4, c5, c6, c7⟩ := (F.out.1).box
    go_wp2_with fail
    refine (C.out y0 F0.out).mono ?_; rintro e y1 ⟨rfl, hb⟩
    replace F := Lib.hid (six_below F.out hb)
    replace F0 := Lib.hid (below_on F0.out hb)
    clear C hb c0 c1 c2 c3 c4 c5 c6 c7
    have C : Hid (∀ w', Below w.heap.size w w' → Calls Tryd.prog 10 #[.agg #[.string ⟨#[97]⟩, .int .i64 2, .int .i64 9, .int .i64 3, .int .i64 2, .int .i64 1000000, .int .i64 100, .bool true]] w' (RetB (.int .i64 103) w')) := fun w' hb => jcharge_raw _ _ _ _ _ _ _ _ true _ w' (by decide) (hL.out.below hb) (by kernel_rfl) (by decide)
    obtain ⟨c0, c1, c2, c3, c4, c5, c6, c7⟩ := (F.out.1).box
    go_wp2_with fail
    refine (C.out y1 F0.out).mono ?_; rintro e y2 ⟨rfl, hb⟩
    replace F := Lib.hid (six_below F.out hb)
    replace F0 := Lib.hid (below_on F0.out hb)
    clear C hb c0 c1 c2 c3 c4 c5 c6 c7
    have C : Hid (∀ w', Below w.heap.size w w' → Calls Tryd.prog 11 #[.agg #[.string ⟨#[97]⟩, .int .i64 2, .int .i64 9, .int .i64 3, .int .i64 2, .int .i64 1000000, .int .i64 100, .bool true]] w' (RetB (.bool true) w')) := fun w' hb => jruns_raw _ _ _ _ _ _ _ _ _ w' (by decide)
    obtain ⟨c0, c1, c2, c3, c4, c5, c6, c7⟩ := (F.out.1).box
    go_wp2_with fail
    refine (C.out y2 F0.out).mono ?_; rintro e y3 ⟨rfl, hb⟩
    replace F := Lib.hid (six_below F.out hb)
    replace F0 := Lib.hid (below_on F0.out hb)
    clear C hb c0 c1 c2 c3 c4 c5 c6 c7
    have C : Hid (∀ w', Below w.heap.size w w' → Calls Tryd.prog 8 #[.agg #[.string ⟨#[97]⟩, .int .i64 9, .int .i64 9, .int .i64 3, .int .i64 2, .int .i64 1000000, .int .i64 100, .bool true]] w' (RetB (.bool false) w')) := fun w' hb => jgood_raw _ _ _ _ _ _ _ _ _ w' (by decide) (hL.out.below hb) (by kernel_rfl)
    obtain ⟨c0, c1, c2, c3, c4, c5, c6, c7⟩ := (F.out.2.1).box
    go_wp2_with fail
    refine (C.out y3 F0.out).mono ?_; rintro e y4 ⟨rfl, hb⟩
    replace F := Lib.hid (six_below F.out hb)
    replace F0 := Lib.hid (below_on F0.out hb)
    clear C hb c0 c1 c2 c3 c4 c5 c6 c7
    have C : Hid (∀ w', Below w.heap.size w w' → Calls Tryd.prog 8 #[.agg #[.string ⟨#[97]⟩, .int .i64 2, .int .i64 9, .int .i64 0, .int .i64 2, .int .i64 1000000, .int .i64 100, .bool true]] w' (RetB (.bool false) w')) := fun w' hb => jgood_raw _ _ _ _ _ _ _ _ _ w' (by decide) (hL.out.below hb) (by kernel_rfl)
    obtain ⟨c0, c1, c2, c3, c4, c5, c6, c7⟩ := (F.out.2.2.1).box
    go_wp2_with fail
    refine (C.out y4 F0.out).mono ?_; rintro e y5 ⟨rfl, hb⟩
    replace F := Lib.hid (six_below F.out hb)
    replace F0 := Lib.hid (below_on F0.out hb)
    clear C hb c0 c1 c2 c3 c4 c5 c6 c7
    have C : Hid (∀ w', Below w.heap.size w w' → Calls Tryd.prog 8 #[.agg #[.string ⟨#[97]⟩, .int .i64 2, .int .i64 9, .int .i64 3, .int .i64 2, .int .i64 1000001, .int .i64 100, .bool true]] w' (RetB (.bool false) w')) := fun w' hb => jgood_raw _ _ _ _ _ _ _ _ _ w' (by decide) (hL.out.below hb) (by kernel_rfl)
    obtain ⟨c0, c1, c2, c3, c4, c5, c6, c7⟩ := (F.out.2.2.2.1).box
    go_wp2_with fail
    refine (C.out y5 F0.out).mono ?_; rintro e y6 ⟨rfl, hb⟩
    replace F := Lib.hid (six_below F.out hb)
    replace F0 := Lib.hid (below_on F0.out hb)
    clear C hb c0 c1 c2 c3 c4 c5 c6 c7
    have C : Hid (∀ w', Below w.heap.size w w' → Calls Tryd.prog 8 #[.agg #[.string ⟨#[49]⟩, .int .i64 2, .int .i64 9, .int .i64 3, .int .i64 2, .int .i64 1000000, .int .i64 100, .bool true]] w' (RetB (.bool false) w')) := fun w' hb => jgood_raw _ _ _ _ _ _ _ _ _ w' (by decide) (hL.out.below hb) (by kernel_rfl)
    obtain ⟨c0, c1, c2, c3, c4, c5, c6, c7⟩ := (F.out.2.2.2.2.1).box
    go_wp2_with fail
    refine (C.out y6 F0.out).mono ?_; rintro e y7 ⟨rfl, hb⟩
    replace F := Lib.hid (six_below F.out hb)
    replace F0 := Lib.hid (below_on F0.out hb)
    clear C hb c0 c1 c2 c3 c4 c5 c6 c7
    have C : Hid (∀ w', Below w.heap.size w w' → Calls Tryd.prog 8 #[.agg #[.string ⟨#[97]⟩, .int .i64 2, .int .i64 10001, .int .i64 3, .int .i64 2, .int .i64 1000000, .int .i64 100, .bool true]] w' (RetB (.bool false) w')) := fun w' hb => jgood_raw _ _ _ _ _ _ _ _ _ w' (by decide) (hL.out.below hb) (by kernel_rfl)
    obtain ⟨c0, c1, c2, c3, c4, c5, c6, c7⟩ := (F.out.2.2.2.2.2).box
    go_wp2_with fail
    refine (C.out y7 F0.out).mono ?_; rintro e y8 ⟨rfl, hb⟩
    replace F := Lib.hid (six_below F.out hb)
    replace F0 := Lib.hid (below_on F0.out hb)
    clear C hb c0 c1 c2 c3 c4 c5 c6 c7
    have C : Hid (∀ w', Below w.heap.size w w' → Calls Tryd.prog 10 #[.agg #[.string ⟨#[97]⟩, .int .i64 9, .int .i64 9, .int .i64 3, .int .i64 2, .int .i64 1000000, .int .i64 100, .bool true]] w' (RetB (.int .i64 0) w')) := fun w' hb => jcharge_raw _ _ _ _ _ _ _ _ false _ w' (by decide) (hL.out.below hb) (by kernel_rfl) (by decide)
    obtain ⟨c0, c1, c2, c3, c4, c5, c6, c7⟩ := (F.out.2.1).box
    go_wp2_with fail
    refine (C.out y8 F0.out).mono ?_; rintro e y9 ⟨rfl, hb⟩
    replace F := Lib.hid (six_below F.out hb)
    replace F0 := Lib.hid (below_on F0.out hb)
    clear C hb c0 c1 c2 c3 c4 c5 c6 c7
    have C : Hid (∀ w', Below w.heap.size w w' → Calls Tryd.prog 9 #[.agg #[.string ⟨#[97]⟩, .int .i64 2, .int .i64 9, .int .i64 0, .int .i64 2, .int .i64 1000000, .int .i64 100, .bool true]] w' (RetB (.int .i64 0) w')) := fun w' hb => jwork_raw _ _ _ _ _ _ _ _ false _ w' (by decide) (hL.out.below hb) (by kernel_rfl) (by decide)
    obtain ⟨c0, c1, c2, c3, c4, c5, c6, c7⟩ := (F.out.2.2.1).box
    go_wp2_with fail
    refine (C.out y9 F0.out).mono ?_; rintro e y10 ⟨rfl, hb⟩
    replace F := Lib.hid (six_below F.out hb)
    replace F0 := Lib.hid (below_on F0.out hb)
    clear C hb c0 c1 c2 c3 c4 c5 c6 c7
    clear F
    go_wp2_with fail
    refine (end_nil _ (hL.out.below F0.out)).mono ?_; rintro e y11 ⟨rfl, hb⟩
    replace F0 := Lib.hid (below_on F0.out hb)
    clear hb
    go_wp2_with fail
    refine (all_nil _ (hL.out.below F0.out)).mono ?_; rintro e y12 ⟨rfl, hb⟩
    replace F0 := Lib.hid (below_on F0.out hb)
    clear hb
    have hmk : ∀ w', (Instr.makeSlice 29 (.int .i64 1) (.int .i64 1)).run Tryd.prog w' = .ok (.slice (some ⟨w'.heap.size, 0, none⟩) 1 1) (w'.alloc (.cells #[.string ⟨#[]⟩, .int .i64 0, .int .i64 0, .int .i64 0, .int .i64 0, .int .i64 0, .int .i64 0, .bool false] 24)) := fun w' => by kernel_rfl
    go_wp2_with fail
    refine (all_zero _ (hL.out.below F0.out)).mono ?_; rintro e y13 ⟨rfl, hb⟩
    replace F0 := Lib.hid (below_on (F0.out.alloc F0.out.size _) hb)
    clear hb hmk
    go_wp2_with fail
    refine (by_three y13).mono ?_; rintro e y14 ⟨B, rfl, hN, hb⟩
    replace hN := Lib.hid hN
    replace F0 := Lib.hid (below_on (F0.out.alloc F0.out.size _) hb)
    clear hb
    have hN2 := Lib.hid (RdN.below hN.out ((Below.refl _ y14).alloc (Nat.le_refl _) (.cells #[.int .i64 1, .int .i64 0, .int .i64 2] 3)))
    go_wp2_with fail
    refine (ints8_any (some ⟨B, 0, none⟩) (some ⟨y14.heap.size, 0, none⟩) 3 3 [1, 0, 2] 3 _ (by decide) rfl hN2.out (rdN_three y14 3) (by decide) (by decide) (by decide) (by decide)).mono ?_; rintro e y15 ⟨rfl, m, rfl⟩
    go_wp2
    go_ret
    exact ⟨rfl, below_dN (F0.out.alloc F0.out.size _) m⟩
end Go.Proofs.YtnbidigilmjloaaDoor
