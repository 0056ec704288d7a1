/- What the statements of jobs take: a list of jobs, a job; what is too much. -/
import Derived.Test.YtacffjkhbajgkaaDoorJb2
import Derived.Test.YtacffjkhbajgkaaDoorReads
import Derived.Deep.Slices
import Derived.Maps.OwnOps
import Derived.Maps.OwnSet
import Derived.Maps.Views
import Derived.MapViews
namespace Go.Proofs.YtacffjkhbajgkaaDoor
open Go.RowKit Go.Lib Go.ChangeShapes Go.WideShapes Go.ChangeAt Go.Deep
set_option linter.unusedVariables false
set_option linter.unusedSimpArgs false
set_option maxRecDepth 100000

theorem Tryd.cellsJob : Tryd.prog.cellsOf 24 = 8 := by kernel_rfl
theorem Tryd.cellsS1 : Tryd.prog.cellsOf 9 = 1 := by kernel_rfl
theorem Tryd.cellsI1 : Tryd.prog.cellsOf 3 = 1 := by kernel_rfl
theorem Tryd.cellsB1 : Tryd.prog.cellsOf 4 = 1 := by kernel_rfl
instance : Inhabited Jb := ⟨⟨⟨#[]⟩, 0, 0, 0, 0, 0, 0, false⟩⟩
section
variable {H : Type} {enc : TypeId × Value → H}
theorem list_eight {α : Type} {l : List α} (h : l.length = 8) : ∃ a b c d e f g i, l = [a, b, c, d, e, f, g, i] := by
  match l, h with
  | [a, b, c, d, e, f, g, i], _ => exact ⟨a, b, c, d, e, f, g, i, rfl⟩
/-- Eight cells that are trod as a job. -/
theorem job_cells {W : World} {base fuel : Nat} {spare : Nat → Bool} {held : Bool} {cs : List Value} {x : DataW H × List MemPlace} (hlen : cs.length = 8) (h : DataW.trod enc Tryd.prog W base spare held fuel 24 cs = some x) :
    ∃ q : Jb, cs = [.string q.name, .int .i64 q.rel, .int .i64 q.dl, .int .i64 q.bud, .int .i64 q.act, .int .i64 q.vl, .int .i64 q.cln, .bool q.hard] := by
  obtain ⟨xs, k, hk, hxy, _, hxl, hfd⟩ := DataW.trod_struct Tryd.underlying24 h
  obtain ⟨y0, y1, y2, y3, y4, y5, y6, y7, rfl⟩ := list_eight (l := xs) (by simpa using hxl)
  obtain ⟨v0, v1, v2, v3, v4, v5, v6, v7, rfl⟩ := list_eight hlen
  have g0 := hfd 0 _ rfl
  have g1 := hfd 1 _ rfl
  have g2 := hfd 2 _ rfl
  have g3 := hfd 3 _ rfl
  have g4 := hfd 4 _ rfl
  have g5 := hfd 5 _ rfl
  have g6 := hfd 6 _ rfl
  have g7 := hfd 7 _ rfl
  simp [Tryd.cellsS1, Tryd.cellsI1, Tryd.cellsB1] at g0 g1 g2 g3 g4 g5 g6 g7
  obtain ⟨z0, e0, _, _⟩ := DataW.trod_string Tryd.underlying9 g0
  obtain ⟨z1, e1, _, _⟩ := DataW.trod_int Tryd.underlying3 g1
  obtain ⟨z2, e2, _, _⟩ := DataW.trod_int Tryd.underlying3 g2
  obtain ⟨z3, e3, _, _⟩ := DataW.trod_int Tryd.underlying3 g3
  obtain ⟨z4, e4, _, _⟩ := DataW.trod_int Tryd.underlying3 g4
  obtain ⟨z5, e5, _, _⟩ := DataW.trod_int Tryd.underlying3 g5
  obtain ⟨z6, e6, _, _⟩ := DataW.trod_int Tryd.underlying3 g6
  obtain ⟨z7, e7, _⟩ := DataW.trod_bool Tryd.underlying4 g7
  simp only [List.cons.injEq, and_true] at e0 e1 e2 e3 e4 e5 e6 e7
  exact ⟨⟨z0, z1, z2, z3, z4, z5, z6, z7⟩, by rw [e0, e1, e2, e3, e4, e5, e6, e7]⟩
theorem open_job {W : World} {v : Value} {d : DataW H} {p : List MemPlace} {r : Reach} {b0 base : Nat} {spare : Nat → Bool} {held : Bool} (hval : Value.okWide Tryd.prog W r b0 24 v) (h : DataW.Trod enc Tryd.prog W base spare held 24 v d p) : ∃ q : Jb, v = .agg q.cells := by
  obtain ⟨cs, rfl, hsz⟩ := okWide_struct Tryd.underlying24 hval
  obtain ⟨fuel, hf⟩ := h
  rw [Tryd.cellsJob] at hsz
  obtain ⟨q, hq⟩ := job_cells (by simpa [Value.cells] using hsz) hf
  refine ⟨q, ?_⟩
  simp only [Value.cells] at hq
  unfold Jb.cells
  rw [show cs = cs.toList.toArray by simp, hq]
theorem open_jobs {W : World} {v : Value} {d : DataW H} {p : List MemPlace} {r : Reach} {b0 : Nat} (hval : Value.okWide Tryd.prog W r b0 25 v) (h : DataW.Trod enc Tryd.prog W 0 (fun _ => true) true 25 v d p) :
    ∃ (A : Option Addr) (c : Nat) (l : List Jb), v = .slice A l.length c ∧ l.length ≤ c ∧ c ≤ 9223372036854775807 ∧ RdJ W A l := by
  obtain ⟨a0, len, cap, rfl⟩ := okWide_slice Tryd.underlying25 hval
  obtain ⟨fuel, hf⟩ := h
  rcases open_slice Tryd.underlying25 hf with ⟨hcs, hx⟩ | ⟨a, len', cap', m, n, D, Pl, hcs, _, hl, hm, hmm, _, hx⟩
  · simp [Value.cells] at hcs
    obtain ⟨rfl, rfl, rfl⟩ := hcs
    exact ⟨none, 0, [], rfl, by simp, by decide, fun k x hk => by simp at hk⟩
  · simp [Value.cells] at hcs
    obtain ⟨rfl, rfl, rfl⟩ := hcs
    simp only [if_true] at hmm
    subst hmm
    unfold maxLen at hm
    have each : ∀ i, i < m → ∃ q : Jb, ∀ j u, [Value.string q.name, .int .i64 q.rel, .int .i64 q.dl, .int .i64 q.bud, .int .i64 q.act, .int .i64 q.vl, .int .i64 q.cln, .bool q.hard][j]? = some u → W.cell? (a.add (i * 8 + j)) = some u := by
      intro i hi
      obtain ⟨cs', h1, h2⟩ := hx i hi
      rw [Tryd.cellsJob] at h1
      obtain ⟨_, hlen, hcell⟩ := World.cells?_some h1
      obtain ⟨q, rfl⟩ := job_cells (by simpa using hlen) h2
      refine ⟨q, fun j u hu => ?_⟩
      have hj := (List.getElem?_eq_some_iff.1 hu).1
      have e := hcell j (by simpa using hj)
      rw [add_add] at e
      rw [e, hu]
    obtain ⟨q, hq⟩ := choose_lt each
    refine ⟨some a, m, (List.range len).map q, by simp, by simp; omega, by omega, fun k x hk => ?_⟩
    have hkl : k < len := by have := (List.getElem?_eq_some_iff.1 hk).1; simpa using this
    rw [List.getElem?_map, List.getElem?_range hkl] at hk
    simp at hk
    subst hk
    obtain ⟨b, off, spot⟩ := a
    have hspot : spot = none := by simpa [Addr.add] using World.cell?_spot (hq 0 (by omega) 0 _ rfl)
    subst hspot
    have hh := hq k (by omega)
    simp only [addr_add_plain, ← Nat.add_assoc] at hh
    exact ⟨b, off, rfl, by simpa using hh 0 _ rfl, hh 1 _ rfl, hh 2 _ rfl, hh 3 _ rfl, hh 4 _ rfl, hh 5 _ rfl, hh 6 _ rfl, hh 7 _ rfl⟩
end

/-- A job that is too much to be asked of. -/
def hvB (t : Int) (x : Jb) : Bool := decide (x.name.size > 100) || (decide (x.dl > t) && decide (x.dl ≤ 10000))
def heavyB (m t : Int) (l : List Jb) : Bool := decide ((l.length : Int) > m) || l.any (hvB t)
theorem heavy_none {m t : Int} {l : List Jb} (h : heavyB m t l = false) : (l.length : Int) ≤ m ∧ ∀ x ∈ l, x.name.size ≤ 100 ∧ ¬ (x.dl > t ∧ x.dl ≤ 10000) := by
  unfold heavyB at h
  rw [Bool.or_eq_false_iff] at h
  refine ⟨by have := of_decide_eq_false h.1; omega, fun x hx => ?_⟩
  have h2 := List.any_eq_false.1 h.2 x hx
  unfold hvB at h2
  simp at h2
  omega
end Go.Proofs.YtacffjkhbajgkaaDoor
