/- The contracts of package job: what may be, what is charged, what is worked. -/
import Derived.Test.YtacffjkhbajgkaaDoorName1
namespace Go.Proofs.YtacffjkhbajgkaaDoor
open Go.RowKit Go.Lib
set_option linter.unusedVariables false
set_option linter.unusedSimpArgs false

/-- A job. -/
structure Jb where
  name : ByteArray
  rel : Int
  dl : Int
  bud : Int
  act : Int
  vl : Int
  cln : Int
  hard : Bool
/-- Its cells. -/
def Jb.cells (j : Jb) : Array Value := #[.string j.name, .int .i64 j.rel, .int .i64 j.dl, .int .i64 j.bud, .int .i64 j.act, .int .i64 j.vl, .int .i64 j.cln, .bool j.hard]
def jnum (r d b a v c : Int) : Bool := decide (0 ≤ r ∧ r ≤ 10000) && (decide (r < d) && (decide (d ≤ 10000) && (decide (1 ≤ b ∧ b ≤ 1000) && (decide (1 ≤ a ∧ a ≤ 1000) && (decide (0 ≤ v ∧ v ≤ 1000000) && decide (0 ≤ c ∧ c ≤ 100))))))
/-- May it be? -/
def Jb.good (j : Jb) : Bool := goodB j.name && jnum j.rel j.dl j.bud j.act j.vl j.cln
def Jb.runs (j : Jb) : Bool := decide (j.act ≤ j.bud)
def Jb.charge (j : Jb) : Int := if j.good then j.bud + j.cln else 0
def Jb.work (j : Jb) : Int := if j.good then (if j.act ≤ j.bud then j.act else j.bud + j.cln) else 0
theorem jnum_iff {r d b a v c : Int} : jnum r d b a v c = true ↔ (0 ≤ r ∧ r ≤ 10000) ∧ r < d ∧ d ≤ 10000 ∧ (1 ≤ b ∧ b ≤ 1000) ∧ (1 ≤ a ∧ a ≤ 1000) ∧ (0 ≤ v ∧ v ≤ 1000000) ∧ (0 ≤ c ∧ c ≤ 100) := by
  unfold jnum; simp only [Bool.and_eq_true, decide_eq_true_eq]

theorem jwithin_any (n lo hi : Int) (b : Bool) (w : World) (h : decide (lo ≤ n ∧ n ≤ hi) = b) :
    Calls Tryd.prog 34 #[.int .i64 n, .int .i64 lo, .int .i64 hi] w (Ret (.bool b) w) := by
  by_cases h1 : lo ≤ n
  · by_cases h2 : n ≤ hi
    · obtain rfl : b = true := by rw [← h]; exact decide_eq_true ⟨h1, h2⟩
      clear h
      go_enter Tryd.func34, Tryd.ntmps34
      go_wp2
      go_ret
      first | exact ⟨rfl, 0, rfl⟩ | exact ⟨rfl, _, rfl⟩
    · obtain rfl : b = false := by rw [← h]; exact decide_eq_false (fun k => h2 k.2)
      clear h
      go_enter Tryd.func34, Tryd.ntmps34
      go_wp2
      go_ret
      first | exact ⟨rfl, 0, rfl⟩ | exact ⟨rfl, _, rfl⟩
  · obtain rfl : b = false := by rw [← h]; exact decide_eq_false (fun k => h1 k.1)
    have h1' : decide (lo ≤ n) = false := decide_eq_false h1
    clear h
    go_enter Tryd.func34, Tryd.ntmps34
    go_wp2
    go_ret
    first | exact ⟨rfl, 0, rfl⟩ | exact ⟨rfl, _, rfl⟩

set_option maxHeartbeats 1600000 in
set_option maxRecDepth 100000 in
theorem jgood_raw (s : ByteArray) (r d b a v c : Int) (h g : Bool) (w : World) (hs : s.size ≤ 1000000) (hL : Ltr w) (hg : (goodB s && jnum r d b a v c) = g) :
    Calls Tryd.prog 27 #[.agg #[.string s, .int .i64 r, .int .i64 d, .int .i64 b, .int .i64 a, .int .i64 v, .int .i64 c, .bool h]] w (RetB (.bool g) w) := by
  unfold jnum at hg
  have C0 : Hid (Calls Tryd.prog 33 #[.string s] (w.alloc (.cells #[.string s, .int .i64 r, .int .i64 d, .int .i64 b, .int .i64 a, .int .i64 v, .int .i64 c, .bool h] 24)) (RetB (.bool (goodB s)) (w.alloc (.cells #[.string s, .int .i64 r, .int .i64 d, .int .i64 b, .int .i64 a, .int .i64 v, .int .i64 c, .bool h] 24)))) := good_any s _ hs (hL.below ((Below.refl _ _).alloc (Nat.le_refl _) _))
  obtain ⟨b0, h0⟩ : ∃ b0, goodB s = b0 := ⟨_, rfl⟩
  obtain ⟨b1, h1⟩ : ∃ b1, decide (0 ≤ r ∧ r ≤ 10000) = b1 := ⟨_, rfl⟩
  obtain ⟨b2, h2⟩ : ∃ b2, decide (r < d) = b2 := ⟨_, rfl⟩
  obtain ⟨b3, h3⟩ : ∃ b3, decide (d ≤ 10000) = b3 := ⟨_, rfl⟩
  obtain ⟨b4, h4⟩ : ∃ b4, decide (1 ≤ b ∧ b ≤ 1000) = b4 := ⟨_, rfl⟩
  obtain ⟨b5, h5⟩ : ∃ b5, decide (1 ≤ a ∧ a ≤ 1000) = b5 := ⟨_, rfl⟩
  obtain ⟨b6, h6⟩ : ∃ b6, decide (0 ≤ v ∧ v ≤ 1000000) = b6 := ⟨_, rfl⟩
  obtain ⟨b7, h7⟩ : ∃ b7, decide (0 ≤ c ∧ c ≤ 100) = b7 := ⟨_, rfl⟩
  have C1 := Lib.hid (jwithin_any r 0 10000 b1 · h1)
  have C4 := Lib.hid (jwithin_any b 1 1000 b4 · h4)
  have C5 := Lib.hid (jwithin_any a 1 1000 b5 · h5)
  have C6 := Lib.hid (jwithin_any v 0 1000000 b6 · h6)
  have C7 := Lib.hid (jwithin_any c 0 100 b7 · h7)
  rw [h0] at C0
  rw [h0, h1, h2, h3, h4, h5, h6, h7] at hg
  clear h0 h1 h4 h5 h6 h7 hL
  subst hg
  go_enter Tryd.func27, Tryd.ntmps27
  go_wp2_with fail
  refine C0.out.mono ?_; rintro e gw ⟨rfl, gb⟩
  have c1 : gw.cell? ⟨w.heap.size, 1, none⟩ = some (.int .i64 r) := by rw [gb.cell (p := ⟨w.heap.size, 1, none⟩) (by simp)]; simp
  have c2 : gw.cell? ⟨w.heap.size, 2, none⟩ = some (.int .i64 d) := by rw [gb.cell (p := ⟨w.heap.size, 2, none⟩) (by simp)]; simp
  have c3 : gw.cell? ⟨w.heap.size, 3, none⟩ = some (.int .i64 b) := by rw [gb.cell (p := ⟨w.heap.size, 3, none⟩) (by simp)]; simp
  have c4 : gw.cell? ⟨w.heap.size, 4, none⟩ = some (.int .i64 a) := by rw [gb.cell (p := ⟨w.heap.size, 4, none⟩) (by simp)]; simp
  have c5 : gw.cell? ⟨w.heap.size, 5, none⟩ = some (.int .i64 v) := by rw [gb.cell (p := ⟨w.heap.size, 5, none⟩) (by simp)]; simp
  have c6 : gw.cell? ⟨w.heap.size, 6, none⟩ = some (.int .i64 c) := by rw [gb.cell (p := ⟨w.heap.size, 6, none⟩) (by simp)]; simp
  replace gb : Hid (Below w.heap.size w gw) := by have s0 := gb.size; exact below_on ((Below.refl _ _).alloc (Nat.le_refl _) _) gb
  clear C0
  cases b0
  · go_wp2
    go_ret
    exact ⟨rfl, by have s0 := gb.out.size; (try simp only [World.heap_drewN, World.size_alloc] at s0); repeat (first | exact Below.refl _ _ | exact gb.out | refine Below.trans ?_ (Below.mono gb.out (by first | omega | (simp; done) | (simp; omega))) | refine Below.setCell ?_ (by first | omega | (simp; done) | (simp; omega)) _ | refine below_dN ?_ _ | refine Below.drew ?_ | refine Below.alloc ?_ (by first | omega | (simp; done) | (simp; omega)) _)⟩
  cases b1
  · go_wp2_with fail
    refine (C1.out _).mono ?_; rintro e w' ⟨rfl, n1, rfl⟩
    go_wp2
    go_ret
    exact ⟨rfl, by have s0 := gb.out.size; (try simp only [World.heap_drewN, World.size_alloc] at s0); repeat (first | exact Below.refl _ _ | exact gb.out | refine Below.trans ?_ (Below.mono gb.out (by first | omega | (simp; done) | (simp; omega))) | refine Below.setCell ?_ (by first | omega | (simp; done) | (simp; omega)) _ | refine below_dN ?_ _ | refine Below.drew ?_ | refine Below.alloc ?_ (by first | omega | (simp; done) | (simp; omega)) _)⟩
  cases b2
  · go_wp2_with fail
    refine (C1.out _).mono ?_; rintro e w' ⟨rfl, n2, rfl⟩
    go_wp2
    go_ret
    exact ⟨rfl, by have s0 := gb.out.size; (try simp only [World.heap_drewN, World.size_alloc] at s0); repeat (first | exact Below.refl _ _ | exact gb.out | refine Below.trans ?_ (Below.mono gb.out (by first | omega | (simp; done) | (simp; omega))) | refine Below.setCell ?_ (by first | omega | (simp; done) | (simp; omega)) _ | refine below_dN ?_ _ | refine Below.drew ?_ | refine Below.alloc ?_ (by first | omega | (simp; done) | (simp; omega)) _)⟩
  cases b3
  · go_wp2_with fail
    refine (C1.out _).mono ?_; rintro e w' ⟨rfl, n3, rfl⟩
    go_wp2
    go_ret
    exact ⟨rfl, by have s0 := gb.out.size; (try simp only [World.heap_drewN, World.size_alloc] at s0); repeat (first | exact Below.refl _ _ | exact gb.out | refine Below.trans ?_ (Below.mono gb.out (by first | omega | (simp; done) | (simp; omega))) | refine Below.setCell ?_ (by first | omega | (simp; done) | (simp; omega)) _ | refine below_dN ?_ _ | refine Below.drew ?_ | refine Below.alloc ?_ (by first | omega | (simp; done) | (simp; omega)) _)⟩
  cases b4
  · go_wp2_with fail
    refine (C1.out _).mono ?_; rintro e w' ⟨rfl, n4, rfl⟩
    go_wp2_with fail
    refine (C4.out _).mono ?_; rintro e w' ⟨rfl, n5, rfl⟩
    go_wp2
    go_ret
    exact ⟨rfl, by have s0 := gb.out.size; (try simp only [World.heap_drewN, World.size_alloc] at s0); repeat (first | exact Below.refl _ _ | exact gb.out | refine Below.trans ?_ (Below.mono gb.out (by first | omega | (simp; done) | (simp; omega))) | refine Below.setCell ?_ (by first | omega | (simp; done) | (simp; omega)) _ | refine below_dN ?_ _ | refine Below.drew ?_ | refine Below.alloc ?_ (by first | omega | (simp; done) | (simp; omega)) _)⟩
  cases b5
  · go_wp2_with fail
    refine (C1.out _).mono ?_; rintro e w' ⟨rfl, n6, rfl⟩
    go_wp2_with fail
    refine (C4.out _).mono ?_; rintro e w' ⟨rfl, n7, rfl⟩
    go_wp2_with fail
    refine (C5.out _).mono ?_; rintro e w' ⟨rfl, n8, rfl⟩
    go_wp2
    go_ret
    exact ⟨rfl, by have s0 := gb.out.size; (try simp only [World.heap_drewN, World.size_alloc] at s0); repeat (first | exact Below.refl _ _ | exact gb.out | refine Below.trans ?_ (Below.mono gb.out (by first | omega | (simp; done) | (simp; omega))) | refine Below.setCell ?_ (by first | omega | (simp; done) | (simp; omega)) _ | refine below_dN ?_ _ | refine Below.drew ?_ | refine Below.alloc ?_ (by first | omega | (simp; done) | (simp; omega)) _)⟩
  cases b6
  · go_wp2_with fail
    refine (C1.out _).mono ?_; rintro e w' ⟨rfl, n9, rfl⟩
    go_wp2_with fail
    refine (C4.out _).mono ?_; rintro e w' ⟨rfl, n10, rfl⟩
    go_wp2_with fail
    refine (C5.out _).mono ?_; rintro e w' ⟨rfl, n11, rfl⟩
    go_wp2_with fail
    refine (C6.out _).mono ?_; rintro e w' ⟨rfl, n12, rfl⟩
    go_wp2
    go_ret
    exact ⟨rfl, by have s0 := gb.out.size; (try simp only [World.heap_drewN, World.size_alloc] at s0); repeat (first | exact Below.refl _ _ | exact gb.out | refine Below.trans ?_ (Below.mono gb.out (by first | omega | (simp; done) | (simp; omega))) | refine Below.setCell ?_ (by first | omega | (simp; done) | (simp; omega)) _ | refine below_dN ?_ _ | refine Below.drew ?_ | refine Below.alloc ?_ (by first | omega | (simp; done) | (simp; omega)) _)⟩
  cases b7
  all_goals
    go_wp2_with fail
    refine (C1.out _).mono ?_; rintro e w' ⟨rfl, n13, rfl⟩
    go_wp2_with fail
    refine (C4.out _).mono ?_; rintro e w' ⟨rfl, n14, rfl⟩
    go_wp2_with fail
    refine (C5.out _).mono ?_; rintro e w' ⟨rfl, n15, rfl⟩
    go_wp2_with fail
    refine (C6.out _).mono ?_; rintro e w' ⟨rfl, n16, rfl⟩
    go_wp2_with fail
    refine (C7.out _).mono ?_; rintro e w' ⟨rfl, n17, rfl⟩
    go_wp2
    go_ret
    exact ⟨rfl, by have s0 := gb.out.size; (try simp only [World.heap_drewN, World.size_alloc] at s0); repeat (first | exact Below.refl _ _ | exact gb.out | refine Below.trans ?_ (Below.mono gb.out (by first | omega | (simp; done) | (simp; omega))) | refine Below.setCell ?_ (by first | omega | (simp; done) | (simp; omega)) _ | refine below_dN ?_ _ | refine Below.drew ?_ | refine Below.alloc ?_ (by first | omega | (simp; done) | (simp; omega)) _)⟩
theorem jgood_any (j : Jb) (w : World) (hs : j.name.size ≤ 1000000) (hL : Ltr w) : Calls Tryd.prog 27 #[.agg j.cells] w (RetB (.bool j.good) w) := jgood_raw _ _ _ _ _ _ _ _ _ w hs hL rfl

/-- The job j lies at place o of block B. -/
def JAt (w : World) (B o : Nat) (j : Jb) : Prop :=
  w.cell? ⟨B, o, none⟩ = some (.string j.name) ∧ w.cell? ⟨B, o + 1, none⟩ = some (.int .i64 j.rel) ∧ w.cell? ⟨B, o + 2, none⟩ = some (.int .i64 j.dl) ∧ w.cell? ⟨B, o + 3, none⟩ = some (.int .i64 j.bud) ∧
  w.cell? ⟨B, o + 4, none⟩ = some (.int .i64 j.act) ∧ w.cell? ⟨B, o + 5, none⟩ = some (.int .i64 j.vl) ∧ w.cell? ⟨B, o + 6, none⟩ = some (.int .i64 j.cln) ∧ w.cell? ⟨B, o + 7, none⟩ = some (.bool j.hard)
theorem JAt.lt {w : World} {B o : Nat} {j : Jb} (h : JAt w B o j) : B < w.heap.size := by
  have h1 := h.1
  rcases Nat.lt_or_ge B w.heap.size with h2 | h2
  · exact h2
  · exfalso
    unfold World.cell? at h1
    rw [Array.getElem?_eq_none h2] at h1
    simp at h1
theorem JAt.below {w w' : World} {B o : Nat} {j : Jb} (h : JAt w B o j) {n : Nat} (hB : B < n) (hb : Below n w w') : JAt w' B o j := by
  obtain ⟨h0, h1, h2, h3, h4, h5, h6, h7⟩ := h
  exact ⟨by rw [hb.cell (p := ⟨B, o, none⟩) hB]; exact h0, by rw [hb.cell (p := ⟨B, o + 1, none⟩) hB]; exact h1, by rw [hb.cell (p := ⟨B, o + 2, none⟩) hB]; exact h2, by rw [hb.cell (p := ⟨B, o + 3, none⟩) hB]; exact h3,
    by rw [hb.cell (p := ⟨B, o + 4, none⟩) hB]; exact h4, by rw [hb.cell (p := ⟨B, o + 5, none⟩) hB]; exact h5, by rw [hb.cell (p := ⟨B, o + 6, none⟩) hB]; exact h6, by rw [hb.cell (p := ⟨B, o + 7, none⟩) hB]; exact h7⟩
theorem JAt.made (w : World) (t : TypeId) (s : ByteArray) (r d b a v c : Int) (h : Bool) : JAt (w.alloc (.cells #[.string s, .int .i64 r, .int .i64 d, .int .i64 b, .int .i64 a, .int .i64 v, .int .i64 c, .bool h] t)) w.heap.size 0 ⟨s, r, d, b, a, v, c, h⟩ := by
  refine ⟨?_, ?_, ?_, ?_, ?_, ?_, ?_, ?_⟩ <;> simp
/-- A box with a job: its cells. -/
theorem JAt.box {w : World} {B : Nat} {s : ByteArray} {r d b a v c : Int} {h : Bool} (k : JAt w B 0 ⟨s, r, d, b, a, v, c, h⟩) :
    w.cell? ⟨B, 0, none⟩ = some (.string s) ∧ w.cell? ⟨B, 1, none⟩ = some (.int .i64 r) ∧ w.cell? ⟨B, 2, none⟩ = some (.int .i64 d) ∧ w.cell? ⟨B, 3, none⟩ = some (.int .i64 b) ∧
    w.cell? ⟨B, 4, none⟩ = some (.int .i64 a) ∧ w.cell? ⟨B, 5, none⟩ = some (.int .i64 v) ∧ w.cell? ⟨B, 6, none⟩ = some (.int .i64 c) ∧ w.cell? ⟨B, 7, none⟩ = some (.bool h) := k

set_option maxHeartbeats 800000 in
set_option maxRecDepth 100000 in
theorem jcharge_raw (s : ByteArray) (r d b a v c : Int) (h g : Bool) (z : Int) (w : World) (hs : s.size ≤ 1000000) (hL : Ltr w) (hg : (goodB s && jnum r d b a v c) = g) (hz : (if g then b + c else 0) = z) :
    Calls Tryd.prog 23 #[.agg #[.string s, .int .i64 r, .int .i64 d, .int .i64 b, .int .i64 a, .int .i64 v, .int .i64 c, .bool h]] w (RetB (.int .i64 z) w) := by
  have C := Lib.hid (jgood_raw s r d b a v c h g (w.alloc (.cells #[.string s, .int .i64 r, .int .i64 d, .int .i64 b, .int .i64 a, .int .i64 v, .int .i64 c, .bool h] 24)) hs (hL.below ((Below.refl _ _).alloc (Nat.le_refl _) _)) hg)
  have e1 : g = true → wrap64 (b + c) = z := by
    intro hgt
    subst hgt
    have hj : jnum r d b a v c = true := (Bool.and_eq_true_iff.1 hg).2
    rw [jnum_iff] at hj
    rw [← hz, if_pos rfl]; unfold wrap64; omega
  clear hg hL
  go_enter Tryd.func23, Tryd.ntmps23
  go_wp2_with fail
  refine C.out.mono ?_; rintro e gw ⟨rfl, gb⟩
  obtain ⟨c0, c1, c2, c3, c4, c5, c6, c7⟩ := (JAt.below (JAt.made w 24 s r d b a v c h) (by simp) gb).box
  have G := Lib.hid (below_on ((Below.refl _ _).alloc (Nat.le_refl _) _) gb)
  clear C gb
  cases g
  · obtain rfl : 0 = z := hz
    clear e1
    go_wp2
    go_ret
    exact ⟨rfl, by have s0 := G.out.size; (try simp only [World.heap_drewN, World.size_alloc] at s0); repeat (first | exact Below.refl _ _ | exact G.out | refine Below.trans ?_ (Below.mono G.out (by first | omega | (simp; done) | (simp; omega))) | refine Below.setCell ?_ (by first | omega | (simp; done) | (simp; omega)) _ | refine below_dN ?_ _ | refine Below.drew ?_ | refine Below.alloc ?_ (by first | omega | (simp; done) | (simp; omega)) _)⟩
  · replace e1 := e1 rfl
    clear hz
    go_wp2
    go_ret
    exact ⟨ret_i e1, G.out⟩
theorem jcharge_any (j : Jb) (w : World) (hs : j.name.size ≤ 1000000) (hL : Ltr w) : Calls Tryd.prog 23 #[.agg j.cells] w (RetB (.int .i64 j.charge) w) := jcharge_raw _ _ _ _ _ _ _ _ _ _ w hs hL rfl rfl
/-- The cells at A hold these jobs, eight cells each. -/
def RdJ (w : World) (A : Option Addr) (l : List Jb) : Prop := ∀ (k : Nat) (x : Jb), l[k]? = some x → ∃ b off, A = some ⟨b, off, none⟩ ∧ JAt w b (off + k * 8) x
theorem RdJ.below {w w' : World} {A : Option Addr} {l : List Jb} (h : RdJ w A l) (hb : Below w.heap.size w w') : RdJ w' A l := by
  intro k x hx
  obtain ⟨b, off, rfl, hj⟩ := h k x hx
  exact ⟨b, off, rfl, hj.below hj.lt hb⟩
end Go.Proofs.YtacffjkhbajgkaaDoor
