/- What is earned and lost, one after the other, as an argument is read. -/
import Derived.Test.YtbmofcggdpjcbaaLgRow
import Derived.Deep.Slices
import Derived.SizedLaws
namespace Go.Proofs.Ytbmofcggdpjcbaa
open Go.RowKit Go.ChangeShapes Go.WideShapes Go.ChangeAt Go.Deep
set_option linter.unusedVariables false

theorem add_plainW (b o n : Nat) : Addr.add ⟨b, o, none⟩ n = ⟨b, o + n, none⟩ := by unfold Addr.add; split <;> simp_all
/-- A row that is to be written. -/
structure ActW where
  op : Int
  t : Int
  name : List UInt8
  v : Int
instance : Inhabited ActW := ⟨⟨0, 0, [], 0⟩⟩
/-- The cells at A hold these, four cells each. -/
def RdActW (w : World) (A : Option Addr) (l : List ActW) : Prop :=
  ∀ k x, l[k]? = some x → ∃ b off, A = some ⟨b, off, none⟩ ∧ w.cell? ⟨b, off + k * 4, none⟩ = some (.int .i64 x.op) ∧ w.cell? ⟨b, off + k * 4 + 1, none⟩ = some (.int .i64 x.t) ∧ w.cell? ⟨b, off + k * 4 + 2, none⟩ = some (.string (bs x.name)) ∧ w.cell? ⟨b, off + k * 4 + 3, none⟩ = some (.int .i64 x.v)
theorem RdActW.below {w w' : World} {A : Option Addr} {l : List ActW} (h : RdActW w A l) (hb : Below w.heap.size w w') : RdActW w' A l := by
  intro k x hx
  obtain ⟨b, off, rfl, q0, q1, q2, q3⟩ := h k x hx
  have qb : b < w.heap.size := World.block_lt_of_cell? _ _ q0
  exact ⟨b, off, rfl, (hb.cell (p := ⟨b, _, none⟩) qb).trans q0, (hb.cell (p := ⟨b, _, none⟩) qb).trans q1, (hb.cell (p := ⟨b, _, none⟩) qb).trans q2, (hb.cell (p := ⟨b, _, none⟩) qb).trans q3⟩
theorem Try.cellsActW : Try.prog.cellsOf 42 = 4 := by kernel_rfl
theorem Try.cellsWI : Try.prog.cellsOf 3 = 1 := by kernel_rfl
theorem Try.cellsWI64 : Try.prog.cellsOf 2 = 1 := by kernel_rfl
theorem Try.cellsWS : Try.prog.cellsOf 9 = 1 := by kernel_rfl
theorem weightsAll_memW {H : Type} {P : Program} {e : TypeId} : ∀ {l : List (DataW H)} {d : DataW H}, d ∈ l → ∀ n ∈ d.weights P e, n ∈ DataW.weightsAll P e l
  | x :: l, d, h, n, hn => by
    simp only [DataW.weightsAll, List.mem_append]
    rcases List.mem_cons.1 h with rfl | h
    · exact .inl hn
    · exact .inr (weightsAll_memW h n hn)
section
variable {H : Type} {enc : TypeId × Value → H}
theorem open_actsW {W : World} {v : Value} {d : DataW H} {p : List MemPlace} {r : Reach} {b0 : Nat} (hval : Value.okWide Try.prog W r b0 36 v) (h : DataW.Trod enc Try.prog W 0 (fun _ => true) true 36 v d p) (hz : ∀ n ∈ d.weights Try.prog 36, n ≤ reachBytes) :
    ∃ (A : Option Addr) (c : Nat) (l : List ActW), v = .slice A l.length c ∧ l.length ≤ c ∧ c ≤ 9223372036854775807 ∧ RdActW W A l ∧ ∀ x ∈ l, fitB x.op = true ∧ fitB x.t = true ∧ fitB x.v = true ∧ x.name.length ≤ 140737488351232 := by
  obtain ⟨a0, len, cap, rfl⟩ := okWide_slice Try.underlying36 hval
  obtain ⟨fuel, hf⟩ := h
  rcases open_slice Try.underlying36 hf with ⟨hcs, hx⟩ | ⟨a, len', cap', m, n, D, Pl, hcs, _, hl, hm, hmm, hxd, hx⟩
  · simp [Value.cells] at hcs
    obtain ⟨rfl, rfl, rfl⟩ := hcs
    exact ⟨none, 0, [], rfl, by simp, by decide, fun k x hk => by simp at hk, by simp⟩
  · simp [Value.cells] at hcs
    obtain ⟨rfl, rfl, rfl⟩ := hcs
    simp only [if_true] at hmm
    subst hmm
    unfold maxLen at hm
    simp only [Prod.mk.injEq] at hxd
    have each : ∀ i, i < m → ∃ q : ActW, W.cell? (a.add (i * 4)) = some (.int .i64 q.op) ∧ W.cell? (a.add (i * 4 + 1)) = some (.int .i64 q.t) ∧ W.cell? (a.add (i * 4 + 2)) = some (.string (bs q.name)) ∧ W.cell? (a.add (i * 4 + 3)) = some (.int .i64 q.v) ∧
        fitB q.op = true ∧ fitB q.t = true ∧ fitB q.v = true ∧ (i < len → q.name.length ≤ 140737488351232) := by
      intro i hi
      obtain ⟨cs', h1, h2⟩ := hx i hi
      rw [Try.cellsActW] at h1
      obtain ⟨_, hlen, hcell⟩ := World.cells?_some h1
      obtain ⟨xs, k, hk, hxy, _, hxl, hfd⟩ := DataW.trod_struct Try.underlying42 h2
      match xs, hxl, cs', hlen with
      | [y0, y1, y2, y3], _, [v0, v1, v2, v3], _ =>
        have g0 := hfd 0 _ rfl
        have g1 := hfd 1 _ rfl
        have g2 := hfd 2 _ rfl
        have g3 := hfd 3 _ rfl
        simp [Try.cellsWI, Try.cellsWI64, Try.cellsWS] at g0 g1 g2 g3
        obtain ⟨z0, w0, _, f0⟩ := DataW.trod_int Try.underlying3 g0
        obtain ⟨z1, w1, _, f1⟩ := DataW.trod_int Try.underlying3 g1
        obtain ⟨z2, w2, y2e, f2⟩ := DataW.trod_string Try.underlying9 g2
        obtain ⟨z3, w3, _, f3⟩ := DataW.trod_int Try.underlying2 g3
        simp only [List.cons.injEq, and_true] at w0 w1 w2 w3
        subst w0 w1 w2 w3
        have e0 := hcell 0 (by omega)
        have e1 := hcell 1 (by omega)
        have e2 := hcell 2 (by omega)
        have e3 := hcell 3 (by omega)
        rw [add_add] at e0 e1 e2 e3
        refine ⟨⟨z0, z1, z2.data.toList, z3⟩, by simpa using e0, by simpa using e1, by rw [bs_of]; simpa using e2, by simpa using e3, wf_fit f0, wf_fit f1, wf_fit f3, fun hil => ?_⟩
        simp only [Prod.mk.injEq] at hxy
        have hD2 : D i = .agg [y0.1, y1.1, .lit (.string z2.data.toList), y3.1] := by rw [hxy.1, y2e]; rfl
        have hmem : z2.data.toList.length ∈ (D i).weights Try.prog 42 := by
          rw [hD2]
          simp only [DataW.weights, Try.underlying42]
          exact DataW.weights_mem_each (j := 2) (t := 9) (d := .lit (.string z2.data.toList)) rfl rfl _ (by simp [DataW.weights])
        have := hz _ (by
          rw [hxd.1]
          simp only [DataW.weights, Try.underlying36]
          refine List.mem_cons_of_mem _ (List.mem_append.2 (.inl (weightsAll_memW (List.mem_map.2 ⟨i, List.mem_range.2 hil, rfl⟩) _ hmem))))
        unfold reachBytes at this
        exact this
    obtain ⟨q, hq⟩ := choose_lt each
    refine ⟨some a, m, (List.range len).map q, by simp, by simp; omega, by omega, fun k x hk => ?_, fun x hx => ?_⟩
    · have hkl : k < len := by have := (List.getElem?_eq_some_iff.1 hk).1; simpa using this
      rw [List.getElem?_map, List.getElem?_range hkl] at hk
      simp at hk
      subst hk
      obtain ⟨b, off, spot⟩ := a
      have hspot : spot = none := by simpa [Addr.add] using World.cell?_spot (hq 0 (by omega)).1
      subst hspot
      have hh := hq k (by omega)
      simp only [add_plainW] at hh
      exact ⟨b, off, rfl, hh.1, by simpa [Nat.add_assoc] using hh.2.1, by simpa [Nat.add_assoc] using hh.2.2.1, by simpa [Nat.add_assoc] using hh.2.2.2.1⟩
    · obtain ⟨i, hi, rfl⟩ := List.mem_map.1 hx
      rw [List.mem_range] at hi
      have hh := (hq i (by omega)).2.2.2.2
      exact ⟨hh.1, hh.2.1, hh.2.2.1, hh.2.2.2 hi⟩
end
end Go.Proofs.Ytbmofcggdpjcbaa
