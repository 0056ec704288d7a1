/- Rows of ints that grow by append, and the maths of beginnings of traces. -/
import Derived.Test.YtcendklbnogmbaaDoorTrAwake
import Derived.OwnWalk
import Derived.Maps.AppendAt
import Derived.Lib.AppendZerosOnto
namespace Go.Proofs.YtcendklbnogmbaaDoor
open Go.RowKit Go.Lib Go.Deep
set_option linter.unusedVariables false
set_option linter.unusedSimpArgs false

def cellsN (l : List Int) : List Value := l.map (Value.int .i64)
theorem cellsN_ones (l : List Int) : ∀ u ∈ cellsN l, u.oneCell' = true := one_ints l
theorem cellsN_get {l : List Int} {j : Nat} {u : Value} (h : (cellsN l)[j]? = some u) : ∃ x, l[j]? = some x ∧ u = .int .i64 x := by
  unfold cellsN at h
  rw [List.getElem?_map] at h
  obtain ⟨x, hx, rfl⟩ := Option.map_eq_some_iff.1 h
  exact ⟨x, hx, rfl⟩
theorem own_rdT {w : World} {base n : Nat} {e : TypeId} {v : Value} {l : List Int} (h : w.ownsRow base e 1 v n (cellsN l)) :
    ∃ A c, v = .slice A l.length c ∧ l.length ≤ c ∧ c ≤ 9223372036854775807 ∧ RdT w A l ∧ ((A = none ∧ c = 0 ∧ l = []) ∨ ∃ ad, A = some ad) := by
  have hn : n = l.length := by have := h.1; simp [cellsN] at this; omega
  subst hn
  rcases h.2 with ⟨rfl, h0⟩ | ⟨g, cap, cur, rfl, hb, hh, h1, h2, _⟩
  · refine ⟨none, 0, by simp [h0], by omega, by decide, fun k x hx => ?_, .inl ⟨rfl, rfl, List.eq_nil_of_length_eq_zero h0⟩⟩
    rw [List.eq_nil_of_length_eq_zero h0] at hx; simp at hx
  · refine ⟨some ⟨g, 0, none⟩, cap, rfl, h1, by unfold maxLen at h2; omega, fun k x hx => ⟨g, 0, rfl, ?_⟩, .inr ⟨_, rfl⟩⟩
    have hk := (List.getElem?_eq_some_iff.1 hx).1
    rw [Nat.zero_add, h.cellAt _ (by omega)]
    simp [cellsN, hx]
/-- What a source of m numbers holds. -/
def SrcN (w : World) (src : Value) (m : Nat) (news : List Value) : Prop :=
  (src = .slice none 0 0 ∧ m = 0 ∧ news = []) ∨ ∃ ad c, src = .slice (some ad) m c ∧ ∀ j u, news[j]? = some u → w.cell? (ad.add j) = some u
theorem run_append_srcN {base : Nat} {w : World} {v src : Value} {n m : Nat} {xs : List Value} {l : List Int} (ty : TypeId) (hown : w.ownsRow base 3 1 v n xs) (hs : SrcN w src m (cellsN l)) (hm : l.length = m)
    (hb : base ≤ w.heap.size) (hn : n + m ≤ 200000) :
    ∃ v' w', (Builtin.append_ #[27, 27] ty #[v, src]).run Tryd.prog w = .ok v' w' ∧ w'.ownsRow base 3 1 v' (n + m) (xs ++ cellsN l) ∧ w.grownBy w' v.ownBlock ∧ (v'.ownBlock = v.ownBlock ∨ v'.ownBlock = some w.heap.size) := by
  obtain ⟨i0, hi0, hz0, hz1, hz2⟩ := info_parts Tryd.infoI
  rcases hs with ⟨rfl, rfl, hnil⟩ | ⟨ad, c, rfl, hc⟩
  · rw [hnil]
    exact ⟨v, w, run_append_owned_none (P := Tryd.prog) w base _ ty _ i0 1 Tryd.underlying27 hi0 v n xs hown, by simpa using hown, ⟨rfl, rfl, rfl, Nat.le_refl _, fun _ _ _ => rfl⟩, .inl rfl⟩
  · obtain ⟨v', w', h1, h2, h3, _, h5⟩ := run_append_own_at (P := Tryd.prog) w base 27 ty 3 i0 _ 1 8 Tryd.underlying27 hi0 hz0 hz1 hz2 rfl (by decide) v n xs hown ad m c (cellsN l) (by simp [cellsN, hm]) hc (cellsN_ones l) (by unfold maxLen; omega) (by omega) hb
    exact ⟨v', w', h1, h2, h3, h5⟩
theorem src_one {w : World} {B : Nat} {x : Int} {e : TypeId} (h : w.heap[B]? = some (.cells #[.int .i64 x] e (0, 0))) : SrcN w (.slice (some ⟨B, 0, none⟩) 1 1) 1 (cellsN [x]) := by
  refine .inr ⟨⟨B, 0, none⟩, 1, rfl, fun j u hj => ?_⟩
  match j, hj with
  | 0, hj => simp [cellsN] at hj; subst hj; simp [World.cell?, h, Addr.add]
theorem src_ticks {w : World} {T : Option Addr} {tc n : Nat} {t : List Int} (hT : RdT w T t) (hsh : (T = none ∧ tc = 0 ∧ t = []) ∨ ∃ ad, T = some ad) (hn : t.length = n) : SrcN w (.slice T n tc) n (cellsN t) := by
  rcases hsh with ⟨rfl, rfl, rfl⟩ | ⟨ad, rfl⟩
  · obtain rfl : n = 0 := by simpa using hn.symm
    exact .inl ⟨rfl, rfl, rfl⟩
  · refine .inr ⟨ad, tc, rfl, fun j u hj => ?_⟩
    obtain ⟨x, hx, rfl⟩ := cellsN_get hj
    obtain ⟨b, off, he, hc⟩ := hT j x hx
    cases he
    rw [addr_add_plain]
    exact hc
theorem made_onN {N : Nat} {w0 w w' : World} {e : TypeId} {size n : Nat} {v : Value} {xs : List Value} (hb : Below N w0 w) (hown : w.ownsRow N e size v n xs) (hg : w.grownBy w' v.ownBlock) (hN : N ≤ w.heap.size) : Below N w0 w' :=
  hb.grown hg hN (fun k hk => (hown.lt k hk).1)
theorem own_made0 (w : World) (e : TypeId) : (w.alloc (.cells #[] e)).ownsRow w.heap.size e 1 (.slice (some ⟨w.heap.size, 0, none⟩) 0 0) 0 (cellsN []) :=
  ⟨rfl, .inr ⟨w.heap.size, 0, #[], rfl, Nat.le_refl _, heap_alloc_new w _, Nat.le_refl _, by unfold maxLen; decide, rfl, rfl⟩⟩
theorem wpList_append_of {P : Program} (w : World) {ops : Array Oper} {rest : List Oper} {o : Oper} {a : Act} {Q : Exit → Act → World → Prop} (hgd : o.guard = none) (d s : Operand) (t t' : TypeId)
    (ho : o.op = .call { callee := .builtin .append, args := #[d, s], argTypes := #[t, t'] }) (v u : Value) (hd : a.eval d = v) (hs : a.eval s = u) {v' : Value} {w' : World}
    (hr : (Builtin.append_ #[t, t'] o.type #[v, u]).run P w = .ok v' w') (h : wpList P ops Q rest (a.put o.dst v') w') : wpList P ops Q (o :: rest) a w :=
  wpList_plain hgd fun _ hK => Lib.wp_append_run w d s t t' ho v u hd hs v' w' hr (hK _ _ h)

/-! ## Beginnings of traces, ticks of nobody -/
theorem goodT_prefix {l : List Jb} {t s : List Int} (h : goodT l (t ++ s) = true) : goodT l t = true := by
  obtain ⟨h1, h2, h3⟩ := goodT_iff.1 h
  refine goodT_iff.2 ⟨h1, by rw [List.length_append] at h2; omega, fun k x hx => ?_⟩
  have hk := (List.getElem?_eq_some_iff.1 hx).1
  have := h3 k x (by rw [List.getElem?_append_left hk]; exact hx)
  unfold okTick at this ⊢
  rw [List.take_append_of_le_length (Nat.le_of_lt hk)] at this
  exact this
theorem metJ_more {t s : List Int} {i : Int} {j : Jb} (h : metJ t i j = true) : metJ (t ++ s) i j = true := by
  unfold metJ at *
  cases hd : doneGo i j.work t 0 with
  | none => rw [hd] at h; simp [metO] at h
  | some r => rw [doneGo_more s t _ _ _ hd]; rw [hd] at h; exact h
theorem metJ_idle {t : List Int} {k : Nat} {j : Jb} : metJ (t ++ [-1]) (k : Int) j = metJ t (k : Int) j := by
  unfold metJ
  rw [doneGo_idle (by omega)]
theorem valGo_idle (t : List Int) : ∀ (l : List Jb) (k : Nat), valGo (t ++ [-1]) l k = valGo t l k
  | [], _ => rfl
  | j :: l, k => by unfold valGo; rw [valGo_idle t l, metJ_idle]
theorem valZ_idle (l : List Jb) (t : List Int) : valZ l (t ++ [-1]) = valZ l t := by unfold valZ; rw [valGo_idle]
theorem valGo_more (t s : List Int) : ∀ (l : List Jb) (k : Nat), (∀ j ∈ l, j.good = true) → valGo t l k ≤ valGo (t ++ s) l k
  | [], _, _ => by simp [valGo]
  | j :: l, k, h => by
    have ih := valGo_more t s l (k + 1) (fun x hx => h x (by simp [hx]))
    have hv := vl_good (h j (by simp))
    unfold valGo
    cases hm : metJ t (k : Int) j
    · cases hm2 : metJ (t ++ s) (k : Int) j
      · simp; omega
      · simp; omega
    · rw [metJ_more hm]; simp; omega
theorem valZ_more {l : List Jb} {t s : List Int} : valZ l t ≤ valZ l (t ++ s) := by
  unfold valZ
  split
  · rename_i h
    exact valGo_more t s l 0 (fun x hx => List.all_eq_true.1 (Bool.and_eq_true_iff.1 h).2 x hx)
  · exact Int.le_refl _
theorem busyZ_add (t s : List Int) : busyZ (t ++ s) = busyZ t + busyZ s := by unfold busyZ; rw [List.length_append, List.count_append]; omega
theorem busyZ_nonneg (t : List Int) : 0 ≤ busyZ t := by unfold busyZ; have : t.count (-1) ≤ t.length := List.count_le_length; omega
theorem busyZ_idle (t : List Int) : busyZ (t ++ [-1]) = busyZ t := by rw [busyZ_add]; simp [busyZ]
theorem swGo_idle : ∀ (t : List Int) (b : Int), swGo b (t ++ [-1]) = swGo b t
  | [], b => by simp [swGo, swB]
  | x :: t, b => by rw [List.cons_append]; unfold swGo; rw [swGo_idle t]
/-- The ticks of the first n jobs. -/
def sumC (t : List Int) : Nat → Int
  | 0 => 0
  | n + 1 => sumC t n + (t.count (n : Int) : Int)
theorem sumC_nil : ∀ n, sumC [] n = 0
  | 0 => rfl
  | n + 1 => by unfold sumC; rw [sumC_nil n]; simp
theorem sumC_cons (x : Int) (t : List Int) : ∀ n : Nat, sumC (x :: t) n = sumC t n + (if 0 ≤ x ∧ x < (n : Int) then 1 else 0)
  | 0 => by unfold sumC; rw [if_neg (by omega)]; rfl
  | n + 1 => by
    unfold sumC
    rw [sumC_cons x t n, List.count_cons]
    by_cases h : x = (n : Int)
    · subst h
      rw [if_neg (by omega), if_pos (by simp), if_pos (by omega)]; omega
    · rw [if_neg (show ¬ (x == (n : Int)) = true by simpa using h)]
      by_cases h2 : 0 ≤ x ∧ x < (n : Int)
      · rw [if_pos h2, if_pos (by omega)]; omega
      · rw [if_neg h2, if_neg (by omega)]; omega
theorem sumC_all {n : Nat} : ∀ (t : List Int), (∀ x ∈ t, x = -1 ∨ (0 ≤ x ∧ x < (n : Int))) → sumC t n = busyZ t
  | [], _ => by rw [sumC_nil]; rfl
  | x :: t, h => by
    have ih := sumC_all t (fun y hy => h y (by simp [hy]))
    have hx := h x (by simp)
    rw [sumC_cons, ih]
    unfold busyZ
    rw [List.count_cons, List.length_cons]
    rcases hx with rfl | hx
    · rw [if_neg (by omega), if_pos (by simp)]; omega
    · rw [if_pos hx, if_neg (show ¬ (x == -1) = true by simp; omega)]; omega
theorem sumC_good {l : List Jb} {t : List Int} (h : goodT l t = true) : sumC t l.length = busyZ t := by
  refine sumC_all t fun x hx => ?_
  obtain ⟨k, hk, he⟩ := List.mem_iff_getElem.1 hx
  have := (goodT_iff.1 h).2.2 k x (by rw [List.getElem?_eq_getElem hk, he])
  unfold okTick at this
  simp only [Bool.or_eq_true, Bool.and_eq_true, decide_eq_true_eq] at this
  rcases this with h1 | h1
  · exact .inl h1
  · exact .inr (hasB_iff.1 h1.1)
theorem sumC_le (t : List Int) (n : Nat) : 0 ≤ sumC t n ∧ sumC t n ≤ (t.length : Int) * (n : Int) := by
  induction n with
  | zero => simp [sumC]
  | succ n ih =>
    have hc : t.count (n : Int) ≤ t.length := List.count_le_length
    unfold sumC
    rw [show ((n + 1 : Nat) : Int) = (n : Int) + 1 from rfl, Int.mul_add, Int.mul_one]
    omega
end Go.Proofs.YtcendklbnogmbaaDoor
