/- slices.DeleteFunc: all timers that expire now are struck, the others keep their order. -/
import Derived.Test.YtbejmboedjfllaaDlDel
namespace Go.Proofs.Ytbejmboedjfllaa
open Go.RowKit
set_option linter.unusedVariables false
set_option linter.unusedSimpArgs false

/-- On the way: the first i of m are what is kept of the first j of l; from j on m is l. -/
structure KInv (p : Tm → Bool) (l m : List Tm) (i j : Nat) : Prop where
  len : m.length = l.length
  ij : i < j
  jl : j ≤ l.length
  low : m.take i = (l.take j).filter (fun x => !p x)
  high : m.drop j = l.drop j
section
variable {p : Tm → Bool} {l m : List Tm} {i j : Nat} {x : Tm}
theorem KInv.start (h : l.findIdx? p = some i) : KInv p l l i (i + 1) := by
  obtain ⟨_, hi, ⟨y, hy, hp⟩, hz⟩ := idxP_some h
  refine ⟨rfl, by omega, by omega, ?_, rfl⟩
  rw [List.take_add_one, hy, List.filter_append, List.filter_eq_self.2 (fun z hz' => by simp [hz z hz'])]
  simp [hp]
theorem KInv.get (h : KInv p l m i j) : m[j]? = l[j]? := by
  have := congrArg (·[0]?) h.high
  simpa using this
theorem KInv.skip (h : KInv p l m i j) (hx : l[j]? = some x) (hp : p x = true) : KInv p l m i (j + 1) := by
  have hj := (List.getElem?_eq_some_iff.1 hx).1
  refine ⟨h.len, by have := h.ij; omega, by omega, ?_, ?_⟩
  · rw [List.take_add_one, hx, List.filter_append, ← h.low]; simp [hp]
  · have := congrArg (List.drop 1) h.high
    simpa [List.drop_drop, Nat.add_comm] using this
theorem KInv.keep (h : KInv p l m i j) (hx : l[j]? = some x) (hp : p x = false) : KInv p l (m.set i x) (i + 1) (j + 1) := by
  have hj := (List.getElem?_eq_some_iff.1 hx).1
  have hij := h.ij
  have hlen := h.len
  refine ⟨by rw [List.length_set]; exact hlen, by omega, by omega, ?_, ?_⟩
  · rw [List.take_add_one, List.take_add_one, hx, List.filter_append, ← h.low, List.take_set_of_le (Nat.le_refl _), List.getElem?_set_self (by omega)]
    simp [hp]
  · rw [List.drop_set_of_lt (by omega)]
    have := congrArg (List.drop 1) h.high
    simpa [List.drop_drop, Nat.add_comm] using this
theorem KInv.done (h : KInv p l m i l.length) : m.take i = l.filter (fun x => !p x) := by
  rw [h.low, List.take_length]
theorem KInv.done_len (h : KInv p l m i l.length) : (l.filter (fun x => !p x)).length = i := by
  rw [← h.done, List.length_take, h.len]; have := h.ij; omega
end
theorem filter_none {p : Tm → Bool} {l : List Tm} (h : ∀ z ∈ l, p z = false) : l.filter (fun x => !p x) = l := List.filter_eq_self.2 (fun z hz => by simp [h z hz])
theorem zero_ones (z : Array Value) (n : Nat) (h : ∀ u ∈ z, u.oneCell' = true) (h0 : 0 < z.size) : ∀ u ∈ (Builtin.zeroCells z n).toList, u.oneCell' = true := by
  intro u hu
  rw [Array.mem_toList_iff] at hu
  unfold Builtin.zeroCells at hu
  obtain ⟨k, _, rfl⟩ := Array.mem_map.1 hu
  have hk : k % z.size < z.size := Nat.mod_lt _ h0
  rw [getElem!_pos z _ hk]
  exact h _ (Array.getElem_mem hk)
theorem over_low (L : List Value) (a : Nat) (D : List Value) (h : a ≤ L.length) : (over L a D).take a = L.take a := by
  unfold over
  rw [List.append_assoc, List.take_append_of_le_length (by simp; omega), List.take_take, Nat.min_self]
section
variable {o : Nat → Nat} {σ : Nat} {w : World} {l : List Tm}
set_option maxHeartbeats 6400000 in
theorem delfunc_row {A : Option Addr} {cap n : Nat} (t : Int) (B a : Nat) (hr : Row o σ w 51 2 (.slice A n cap) n (cellsT l)) (hn : n = l.length) (hl : n ≤ 1000)
    (hB : B < w.heap.size) (ha : a < w.heap.size) (hc : w.cell? ⟨B, 0, none⟩ = some (.pointer (some ⟨a, 0, none⟩))) (ht : w.cell? ⟨a, 1, none⟩ = some (.int .i64 t)) (hBg : (Value.slice A n cap).ownBlock ≠ some B) (hag : (Value.slice A n cap).ownBlock ≠ some a) :
    Calls Try.prog 23 #[.slice A n cap, .func (.func 24) #[] #[.pointer (some ⟨B, 0, none⟩)]] w fun e w' => ∃ v', e = .returned v' ∧ Step o o σ w w' ∧ Row o σ w' 51 2 v' (l.filter (fun x => !isAt t x)).length (cellsT (l.filter (fun x => !isAt t x))) := by
  have hcap := hr.caps
  cases hf : l.findIdx? (isAt t) with
  | none =>
    obtain ⟨e1, hno⟩ := idxP_none hf
    rw [filter_none hno]
    subst hn
    have C := Lib.hid (index_tick A cap l t (-1) B a w hl hB ha hc ht hr.rdT e1 hcap.2 hcap.1)
    replace hr := Lib.hid hr
    clear hno e1 hf hc ht hcap
    go_enter Try.func23, Try.ntmps23
    go_wp2_with fail
    refine C.out.mono ?_
    rintro e gw ⟨rfl, g⟩
    have G := Lib.hid g
    clear g
    go_wp2
    go_ret
    exact ⟨_, rfl, Step.of_below o σ G.out, hr.out.below G.out⟩
  | some k0 =>
    have K0 := KInv.start hf
    obtain ⟨e1, hk0, _, _⟩ := idxP_some hf
    obtain ⟨cap', cur, ⟨g, hvv, hg, hog, hgl⟩, h1, h2, h3, h4⟩ := hr.block (by omega)
    injection hvv with e1' e2' e3'
    subst e1' e3'
    subst hn
    have C := Lib.hid (index_tick (some ⟨g, 0, none⟩) cap l t (k0 : Int) B a w hl hB ha hc ht hr.rdT e1 hcap.2 hcap.1)
    have hne1 : ((k0 : Int) == -1) = false := beq_eq_false_iff_ne.2 (by omega)
    have hgB : g ≠ B := fun e => hBg (by rw [e]; rfl)
    have hga : g ≠ a := fun e => hag (by rw [e]; rfl)
    have F0 := Lib.hid (And.intro hr K0)
    clear hr K0 hf h3 h4 hBg hag
    go_enter Try.func23, Try.ntmps23
    go_wp2_with fail
    refine C.out.mono ?_
    rintro e gw ⟨rfl, g0⟩
    have cB : gw.cell? ⟨B, 0, none⟩ = some (.pointer (some ⟨a, 0, none⟩)) := by rw [g0.cell (p := ⟨B, 0, none⟩) hB]; exact hc
    have ca : gw.cell? ⟨a, 1, none⟩ = some (.int .i64 t) := by rw [g0.cell (p := ⟨a, 1, none⟩) ha]; exact ht
    have S0 := Lib.hid (And.intro cB (And.intro ca (And.intro (Step.of_below o σ g0) (And.intro (F0.out.1.below g0) F0.out.2))))
    unfold maxLen at h2
    clear cB ca hc ht C hg cur e1 hcap g0 F0
    go_wp2
    clear hne1
    go_loopw [5, 6, 7] (fun s5 s6 _ wr => ∃ (i j : Nat) (m : List Tm), s5 = .int .i64 (i : Int) ∧ s6 = .int .i64 (j : Int) ∧ wr.cell? ⟨B, 0, none⟩ = some (.pointer (some ⟨a, 0, none⟩)) ∧ wr.cell? ⟨a, 1, none⟩ = some (.int .i64 t) ∧ Step o o σ w wr ∧ Row o σ wr 51 2 (.slice (some ⟨g, 0, none⟩) l.length cap) l.length (cellsT m) ∧ KInv (isAt t) l m i j) (fun _ s6 _ _ => l.length - (intOf s6).toNat)
    case atStart => exact ⟨k0, k0 + 1, l, rfl, by simp, S0.out.1, S0.out.2.1, S0.out.2.2.1, S0.out.2.2.2.1, S0.out.2.2.2.2⟩
    case round =>
      obtain ⟨i, j, m, rfl, rfl, cB, ca, st, hr, K⟩ := hrel
      clear S0 hk0
      have hij := K.ij
      have hjl := K.jl
      have hml := K.len
      rcases Nat.lt_or_ge j l.length with hlt | hge
      · obtain ⟨x, hx⟩ : ∃ x, l[j]? = some x := ⟨_, List.getElem?_eq_getElem hlt⟩
        obtain ⟨y, hy⟩ : ∃ y, m[i]? = some y := ⟨_, List.getElem?_eq_getElem (by omega)⟩
        have q := cellsT_get m j x (K.get.trans hx)
        have q' := cellsT_get m i y hy
        have d0 : wr.cell? ⟨g, j * 2, none⟩ = some (.int .i64 x.1) := by rw [hr.cellAt _ (by omega)]; exact q.1
        have d1 : wr.cell? ⟨g, j * 2 + 1, none⟩ = some (.int .i64 x.2) := by rw [hr.cellAt _ (by omega)]; exact q.2
        have bA : Below wr.heap.size wr (wr.alloc (.cells #[.int .i64 x.1, .int .i64 x.2] 51)) := (Below.refl _ wr).alloc (Nat.le_refl _) _
        have C := Lib.hid (tick1_any x t B a (wr.alloc (.cells #[.int .i64 x.1, .int .i64 x.2] 51)) (Nat.lt_of_lt_of_le (Nat.lt_of_lt_of_le hB st.size) bA.size) (Nat.lt_of_lt_of_le (Nat.lt_of_lt_of_le ha st.size) bA.size) (by rw [bA.cell (p := ⟨B, 0, none⟩) (Nat.lt_of_lt_of_le hB st.size)]; exact cB) (by rw [bA.cell (p := ⟨a, 1, none⟩) (Nat.lt_of_lt_of_le ha st.size)]; exact ca))
        have F := Lib.hid (And.intro cB (And.intro ca (And.intro st (And.intro hr (And.intro K (And.intro hx q'))))))
        clear cB ca st hr K hx q q' hy
        obtain ⟨xi, xa⟩ := x
        simp only at d0 d1 C bA
        have hgr : g < wr.heap.size := Nat.lt_of_lt_of_le hgl F.out.2.2.1.size
        go_wp2_with fail
        refine C.out.mono ?_
        rintro e w2 ⟨rfl, hb2'⟩
        have v0 : w2.cell? ⟨wr.heap.size, 0, none⟩ = some (.int .i64 xi) := by rw [hb2'.cell (p := ⟨wr.heap.size, 0, none⟩) (by simp)]; simp
        have v1 : w2.cell? ⟨wr.heap.size, 1, none⟩ = some (.int .i64 xa) := by rw [hb2'.cell (p := ⟨wr.heap.size, 1, none⟩) (by simp)]; simp
        have hb2 := below_on bA hb2'
        have hgne : wr.heap.size ≠ g := by omega
        clear C d0 d1 bA hb2'
        cases hp : isAt t (xi, xa) with
        | true =>
          have G := Lib.hid (And.intro hb2 hp)
          clear hb2 hp
          go_wp2
          go_roundw
          case rel =>
            obtain ⟨cB, ca, st, hr, K, hx, _⟩ := F.out
            obtain ⟨hb2, hp⟩ := G.out
            exact ⟨i, j + 1, m, rfl, by simp, by rw [hb2.cell (p := ⟨B, 0, none⟩) (Nat.lt_of_lt_of_le hB st.size)]; exact cB, by rw [hb2.cell (p := ⟨a, 1, none⟩) (Nat.lt_of_lt_of_le ha st.size)]; exact ca, st.below hb2, hr.below hb2, K.skip hx hp⟩
          case measure => simp [intOf]; omega
        | false =>
          have hr2 := F.out.2.2.2.1.below hb2
          obtain ⟨q0, q1⟩ := F.out.2.2.2.2.2.2
          have y0 : w2.cell? ⟨g, i * 2, none⟩ = some (.int .i64 y.1) := by rw [hr2.cellAt _ (by omega)]; exact q0
          have y1 : w2.cell? ⟨g, i * 2 + 1, none⟩ = some (.int .i64 y.2) := by rw [hr2.cellAt _ (by omega)]; exact q1
          have fz : ∀ k, w2.frozen? ⟨g, k, none⟩ = false := fun k => hr2.frozenAt k
          have G := Lib.hid (And.intro hb2 (And.intro hp hr2))
          clear hb2 hp hr2 q0 q1
          go_wp2
          go_roundw
          case rel =>
            obtain ⟨cB, ca, st, hr, K, hx, _⟩ := F.out
            obtain ⟨hb2, hp, hr2⟩ := G.out
            have hBr := Nat.lt_of_lt_of_le hB st.size
            have har := Nat.lt_of_lt_of_le ha st.size
            refine ⟨i + 1, j + 1, m.set i (xi, xa), by simp, by simp, ?_, ?_, ((st.below hb2).setCell (.inr hog) _).setCell (.inr hog) _, ?_, K.keep hx hp⟩
            · rw [World.cell?_setCell_other _ _ _ _ (fun e => hgB (congrArg Addr.block e)), World.cell?_setCell_other _ _ _ _ (fun e => hgB (congrArg Addr.block e)), hb2.cell (p := ⟨B, 0, none⟩) hBr]; exact cB
            · rw [World.cell?_setCell_other _ _ _ _ (fun e => hga (congrArg Addr.block e)), World.cell?_setCell_other _ _ _ _ (fun e => hga (congrArg Addr.block e)), hb2.cell (p := ⟨a, 1, none⟩) har]; exact ca
            · rw [← cellsT_set]; exact (hr2.set _ _).set _ _
          case measure => simp [intOf]; omega
      · obtain rfl : j = l.length := by omega
        have hlen := K.done_len
        have hdone := K.done
        obtain ⟨cap2, cur, ⟨g2, hvv, hg2, hog2, hgl2⟩, h12, h22, h3, h4⟩ := hr.block (by omega)
        injection hvv with e1 e2 e3
        injection e1 with e1
        injection e1 with e1 e4 e5
        subst e1 e3
        have hzl : ((Builtin.zeroCells (Value.agg #[Value.int .i64 0, .int .i64 0]).cells (l.length - i)).toList).length = (l.length - i) * 2 := by rw [Array.length_toList, size_zeroCells]; rfl
        have hfit : i * 2 + ((Builtin.zeroCells (Value.agg #[Value.int .i64 0, .int .i64 0]).cells (l.length - i)).toList).length ≤ cur.size := by rw [hzl, h3]; omega
        have hcl : ∀ ty c, (Builtin.clear_ #[47] ty #[.slice (some ⟨g, i * 2, none⟩) (l.length - i) c]).run Try.prog wr = .ok (.tuple #[]) (wr.setRow g (over cur.toList (i * 2) (Builtin.zeroCells (Value.agg #[Value.int .i64 0, .int .i64 0]).cells (l.length - i)).toList).toArray) := fun ty c => by
          exact run_clear_k wr 47 51 ty _ Try.underlying47 Try.zeroValue51 g (i * 2) (l.length - i) c cur 51 (by omega) _ rfl hg2 hfit (zero_ones _ _ (by intro u hu; simp [Value.cells] at hu; rcases hu with rfl | rfl <;> rfl) (by decide))
        obtain ⟨W1, hW1⟩ : ∃ W1, W1 = wr.setRow g (over cur.toList (i * 2) (Builtin.zeroCells (Value.agg #[Value.int .i64 0, .int .i64 0]).cells (l.length - i)).toList).toArray := ⟨_, rfl⟩
        have E := Lib.hid (show Step o o σ w W1 ∧ Row o σ W1 51 2 (.slice (some ⟨g, 0, none⟩) i cap) i (cellsT (l.filter (fun x => !isAt t x))) from by
          refine ⟨?_, ?_⟩
          · rw [hW1]; exact st.setRow (.inr hog) _
          · rw [hW1]
            refine Row.written (setRow_heap wr g _ _ _ _ hg2) hog (by omega) h22 ?_ ?_
            · rw [List.size_toArray, over_length (by simpa using hfit)]; simp [h3]
            · rw [List.toList_toArray, over_low _ _ _ (by simp [h3]; omega), ← hdone, ← cellsT_take, ← h4, List.take_take, Nat.min_eq_left (by omega)])
        rw [← hW1] at hcl
        replace hlen := Lib.hid hlen
        have z0 : ¬ cap = i := by omega
        have z1 : (i : Int) ≤ (l.length : Int) := by omega
        have z2 : (0 : Int) ≤ (i : Int) := by omega
        have z3 : (i : Int) ≤ (cap : Int) := by omega
        have z4 : i ≤ cap := by omega
        clear hr K hdone hg2 hW1 hzl hfit h3 h4 st cB ca
        go_wp2
        go_ret
        exact ⟨_, rfl, E.out.1, by rw [hlen.out]; exact E.out.2⟩
theorem delfunc_grown {v : Value} (t : Int) (B a : Nat) (hr : Row o σ w 51 2 v l.length (cellsT l)) (hl : l.length ≤ 1000)
    (hB : B < w.heap.size) (ha : a < w.heap.size) (hc : w.cell? ⟨B, 0, none⟩ = some (.pointer (some ⟨a, 0, none⟩))) (ht : w.cell? ⟨a, 1, none⟩ = some (.int .i64 t)) (hBg : v.ownBlock ≠ some B) (hag : v.ownBlock ≠ some a) :
    Calls Try.prog 23 #[v, .func (.func 24) #[] #[.pointer (some ⟨B, 0, none⟩)]] w fun e w' => ∃ v', e = .returned v' ∧ w.grownBy w' v.ownBlock ∧ w'.ownsRow 0 51 2 v' (l.filter (fun x => !isAt t x)).length (cellsT (l.filter (fun x => !isAt t x))) ∧ (∀ k, v'.ownBlock = some k → v.ownBlock = some k ∨ w.heap.size ≤ k) := by
  obtain ⟨A, cap, rfl⟩ := hr.any
  refine (delfunc_row t B a hr.alone rfl hl hB ha hc ht hBg hag).mono ?_
  rintro e w' ⟨v', rfl, st, r⟩
  exact ⟨v', rfl, st.alone, r.own, r.lies st⟩
end
end Go.Proofs.Ytbejmboedjfllaa
