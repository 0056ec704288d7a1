/- Package over: join, releases. -/
import Derived.Test.YtacffjkhbajgkaaDoorOvP1
import Derived.Test.YtacffjkhbajgkaaDoorOvIv
import Derived.Test.YtacffjkhbajgkaaDoorJbBy
import Derived.Sort.OwnSortedInts
namespace Go.Proofs.YtacffjkhbajgkaaDoor
open Go.RowKit Go.Lib
set_option linter.unusedVariables false
set_option linter.unusedSimpArgs false

theorem Tryd.infoSpP : (Tryd.prog.info? 32).map (fun i => (i.zero, i.size, i.bytes)) = some (some (.agg #[.int .i64 0, .int .i64 0]), 2, 16) := by kernel_rfl
theorem grown_set (W : World) (b k : Nat) (v : Value) : W.grownBy (W.setCell ⟨b, k, none⟩ v) (some b) :=
  ⟨rfl, rfl, rfl, by simp [World.setCell], fun j _ hj => Below.heap_setCell _ _ _ j (fun e => hj (by rw [e]))⟩
theorem grown_on {w w1 w2 : World} {row : Option Nat} (h : w.grownBy w1 none) (k : w1.grownBy w2 row) : w.grownBy w2 row :=
  ⟨k.os.trans h.os, k.tape.trans h.tape, k.output.trans h.output, Nat.le_trans h.size k.size, fun j hj hne => (k.block j (Nat.lt_of_lt_of_le hj h.size) hne).trans (h.block j hj (by simp))⟩
theorem cellsT_at {l : List (Int × Int)} {k : Nat} {q : Int × Int} (h : l[k]? = some q) : (cellsT l)[k * 2 + 1]? = some (.int .i64 q.2) := (cellsT_get _ _ _ h).2

set_option maxHeartbeats 3200000 in
set_option maxRecDepth 100000 in
theorem join_any (base : Nat) (r : List (Int × Int)) (v : Value) (a b : Int) (w : World) (hn : r.length ≤ 1000000) (hb : base ≤ w.heap.size) (ho : w.ownsRow base 32 2 v r.length (cellsT r)) :
    Calls Tryd.prog 20 #[v, .agg #[.int .i64 a, .int .i64 b]] w (fun e w' => ∃ v', e = .returned v' ∧ w'.ownsRow base 32 2 v' (joinA r (a, b)).length (cellsT (joinA r (a, b))) ∧ w.grownBy w' v.ownBlock) := by
  obtain ⟨i0, hi0, hz0, hz1, hz2⟩ := info_parts Tryd.infoSpP
  obtain ⟨A, cr, rfl, hcr, hcm, _⟩ := own_rdS ho
  have gA : ∀ q, w.grownBy ((w.alloc (.cells #[.int .i64 a, .int .i64 b] 32)).drewN q) none := fun q => ⟨rfl, rfl, rfl, by simp, (World.grownBy_alloc w _ none).block⟩
  rcases hk : r.length with _ | k
  · have hr : r = [] := List.eq_nil_of_length_eq_zero hk
    subst hr
    rw [joinA_nil]
    have KO : Hid (w.ownsRow base 32 2 (.slice A 0 cr) 0 (cellsT [])) := ho
    have HB : Hid (base ≤ w.heap.size) := hb
    have GA := Lib.hid gA
    clear ho hb gA hn hcr hk
    go_enter Tryd.func20, Tryd.ntmps20
    go_wp2
    go_quiet (fail)
    go_wp2_with (at_builtin; refine wpList_append_own_at _ rfl (.tmp 21) (.tmp 23) 26 rfl base 32 i0 (.agg #[.int .i64 0, .int .i64 0]) 2 16 Tryd.underlying26 hi0 hz0 hz1 hz2 rfl (by decide) _ _ _ rfl ((KO.out.alloc _).alloc _) ⟨w.heap.size + 1, 0, none⟩ 1 1 (cellsT [(a, b)]) rfl rfl (news_two _ _ _ _ _ (by simp)) (cellsT_ones _) (by unfold maxLen; omega) (by omega) (by have := HB.out; simp; omega) ?_)
    intro v' w3 hown' hgrow' hnil' hloc
    have K9 : Hid (w3.ownsRow base 32 2 v' 1 (cellsT [(a, b)]) ∧ w.grownBy w3 (Value.slice A 0 cr).ownBlock) := ⟨hown', grown_on (GA.out _) (grown_on (World.grownBy_alloc _ _ none) hgrow')⟩
    clear hown' hgrow' hnil' hloc KO HB GA
    go_wp2
    go_ret
    exact ⟨_, rfl, K9.out.1, K9.out.2⟩
  · obtain ⟨⟨q1, q2⟩, hq⟩ : ∃ q, r[k]? = some q := ⟨_, List.getElem?_eq_getElem (by omega)⟩
    have hJ := joinA_at hk hq (a, b)
    have hk6 : k < 1000000 := by omega
    have KO : Hid (w.ownsRow base 32 2 (.slice A (k + 1) cr) (k + 1) (cellsT r)) := by rw [hk] at ho; exact ho
    have HB : Hid (base ≤ w.heap.size) := hb
    have GA := Lib.hid gA
    have e0 : IntKind.i64.wrap (((k + 1 : Nat) : Int) - 1) = (k : Int) := by rw [IntKind.wrap_i64]; omega
    have e0' : wrap64 (((k + 1 : Nat) : Int) - 1) = (k : Int) := by unfold wrap64; omega
    have d1 : decide ((k : Int) < 0) = false := decide_eq_false (by omega)
    have lt1 : k * 2 + 1 < (k + 1) * 2 := by omega
    rcases KO.out.2 with ⟨hbad, hb0⟩ | ⟨gb, cap', cur, hv, hgb, hgh, hgc, hgm, hgs⟩
    · omega
    simp only [Value.slice.injEq] at hv
    obtain ⟨rfl, _, rfl⟩ := hv
    have hgl : gb < w.heap.size := (Array.getElem?_eq_some_iff.1 hgh).1
    have g2 : w.cell? ⟨gb, k * 2 + 1, none⟩ = some (.int .i64 q2) := by rw [KO.out.cellAt _ lt1]; exact cellsT_at hq
    have g3 : w.frozen? ⟨gb, k * 2 + 1, none⟩ = false := KO.out.frozenAt _
    have hlc : (k : Int) < ((k + 1 : Nat) : Int) := by omega
    have hsr := Lib.hid hq
    clear ho hb gA hn hcr hgb hgh hgc hgm hgs cur hcm hq
    by_cases h2 : q2 < a
    · have d2 : decide (q2 < a) = true := decide_eq_true h2
      rw [if_pos h2] at hJ
      have hJ2 := Lib.hid hJ
      have hkr := Lib.hid hk
      clear hJ hk h2
      go_enter Tryd.func20, Tryd.ntmps20
      go_wp2
      go_quiet (fail)
      go_wp2_with (at_builtin; refine wpList_append_own_at _ rfl (.tmp 21) (.tmp 23) 26 rfl base 32 i0 (.agg #[.int .i64 0, .int .i64 0]) 2 16 Tryd.underlying26 hi0 hz0 hz1 hz2 rfl (by decide) _ _ _ rfl ((KO.out.alloc _).alloc _) ⟨w.heap.size + 1, 0, none⟩ 1 1 (cellsT [(a, b)]) rfl rfl (news_two _ _ _ _ _ (by simp)) (cellsT_ones _) (by unfold maxLen; omega) (by omega) (by have := HB.out; simp; omega) ?_)
      intro v' w3 hown' hgrow' hnil' hloc
      have K9 : Hid (w3.ownsRow base 32 2 v' (joinA r (a, b)).length (cellsT (joinA r (a, b))) ∧ w.grownBy w3 (Value.slice (some ⟨gb, 0, none⟩) (k + 1) cr).ownBlock) := by
        refine ⟨?_, grown_on (GA.out _) (grown_on (World.grownBy_alloc _ _ none) hgrow')⟩
        rw [hJ2.out, cellsT_append, List.length_append, List.length_singleton, hkr.out]
        exact hown'
      clear hown' hgrow' hnil' hloc KO HB GA
      go_wp2
      go_ret
      exact ⟨_, rfl, K9.out.1, K9.out.2⟩
    · have d2 : decide (q2 < a) = false := decide_eq_false h2
      rw [if_neg h2] at hJ
      have K9 : Hid (∀ q, (((w.alloc (.cells #[.int .i64 a, .int .i64 b] 32)).drewN q).setCell ⟨gb, k * 2 + 1, none⟩ (.int .i64 (max q2 b))).ownsRow base 32 2 (.slice (some ⟨gb, 0, none⟩) (k + 1) cr) (joinA r (a, b)).length (cellsT (joinA r (a, b))) ∧
          w.grownBy (((w.alloc (.cells #[.int .i64 a, .int .i64 b] 32)).drewN q).setCell ⟨gb, k * 2 + 1, none⟩ (.int .i64 (max q2 b))) (some gb)) := by
        intro q
        have h5 : ((w.alloc (.cells #[.int .i64 a, .int .i64 b] 32)).drewN q).ownsRow base 32 2 (.slice (some ⟨gb, 0, none⟩) (k + 1) cr) (k + 1) (cellsT r) := KO.out.alloc _
        have := (h5.stored (k * 2 + 1) (.int .i64 (max q2 b))).1
        rw [cellsT_sec hsr.out] at this
        refine ⟨?_, grown_on (GA.out q) (grown_set _ _ _ _)⟩
        rw [hJ, List.length_set, hk]
        exact this
      clear KO HB GA hJ hk h2 hsr
      go_enter Tryd.func20, Tryd.ntmps20
      go_wp2
      go_quiet (fail)
      go_wp2
      go_region
      go_wp2
      go_ret
      exact ⟨_, rfl, (K9.out _).1, (K9.out _).2⟩

/-! ## The releases, each once -/
theorem CelZ.holds {B n : Nat} {zs : List Int} {w : World} (h : CelZ B n (fun k => zs.getD k 0) w) (hl : zs.length = n) : Sort.Holds (Value.int .i64) w B 0 zs.toArray := by
  intro j hj
  have hj' : j < zs.length := by simpa using hj
  rw [Nat.zero_add]
  refine ⟨?_, h.frz j (by omega)⟩
  rw [h.cell j (by omega), getElem!_pos zs.toArray j hj]
  simp [List.getD, List.getElem?_eq_getElem hj']
theorem holds_cel {B : Nat} {zs : List Int} {w : World} (hB : B < w.heap.size) (h : Sort.Holds (Value.int .i64) w B 0 zs.toArray) : CelZ B zs.length (fun k => zs.getD k 0) w := by
  refine ⟨hB, fun k hk => ?_, fun k hk => ?_⟩
  · have := (h k (by simpa using hk)).1
    rw [Nat.zero_add, getElem!_pos zs.toArray k (by simpa using hk)] at this
    rw [this]
    simp [List.getD, List.getElem?_eq_getElem hk]
  · have := (h k (by simpa using hk)).2
    rw [Nat.zero_add] at this
    exact this
theorem TyI.on {w w' : World} {B : Nat} (h : TyI w B) (hb : Below w.heap.size w w') : TyI w' B := by
  obtain ⟨cs, fr, h⟩ := h
  exact ⟨cs, fr, (hb.block B (Array.getElem?_eq_some_iff.1 h).1).trans h⟩
theorem sortI_any (B n : Nat) (zs : List Int) (w : World) (hl : zs.length = n) (hn : n ≤ 1000) (hT : TyI w B) (hC : CelZ B n (fun k => zs.getD k 0) w) :
    Calls Tryd.prog 38 #[.slice (some ⟨B, 0, none⟩) n n] w (fun e w' => e = .returned (.tuple #[]) ∧ w.grownBy w' (some B) ∧ TyI w' B ∧ CelZ B n (fun k => (zs.mergeSort fun x y => decide (x ≤ y)).getD k 0) w') := by
  have hp := List.length_mergeSort (le := fun x y : Int => decide (x ≤ y)) zs
  have hH := hC.holds hl
  have h := Tryd.slices_Sort_int B 0 n zs w hH hC.lt (by omega)
  rw [hl] at h
  refine Calls.mono h ?_
  rintro e w' ⟨rfl, m, os, rfl⟩
  have hg := grownBy_sortedI (w := w) (g := B) (n := m) (os := os) (zs.mergeSort fun x y => decide (x ≤ y)).toArray
  refine ⟨rfl, hg, by obtain ⟨cs, fr, h⟩ := hT; exact ⟨_, fr, heap_sortedI _ h⟩, ?_⟩
  have h2 := Sort.holds_grow (Value.int .i64) _ os B 0 _ (by simpa [Sort.ahead] using hC.lt) (Sort.holds_putRow (Value.int .i64) (Sort.ahead w m) B 0 zs.toArray (zs.mergeSort fun x y => decide (x ≤ y)).toArray (Sort.holds_ahead (Value.int .i64) w m B 0 _ hH) (by simp))
  have h3 := holds_cel (Nat.lt_of_lt_of_le hC.lt hg.size) h2
  rw [hp, hl] at h3
  exact h3
theorem compactI_any (B n : Nat) (zs : List Int) (w : World) (hl : zs.length = n) (hn : n ≤ 1000) (hT : TyI w B) (hC : CelZ B n (fun k => zs.getD k 0) w) :
    Calls Tryd.prog 39 #[.slice (some ⟨B, 0, none⟩) n n] w (fun e w' => e = .returned (.slice (some ⟨B, 0, none⟩) (Lib.compact zs).length n) ∧ w.grownBy w' (some B) ∧ TyI w' B ∧ ∀ k, k < (Lib.compact zs).length → w'.cell? ⟨B, k, none⟩ = some (.int .i64 ((Lib.compact zs).getD k 0))) := by
  have hH := hC.holds hl
  have h := Tryd.slices_Compact_int B 0 n zs w hH (by omega) (by omega)
  rw [hl] at h
  refine Calls.mono h ?_
  rintro e w' ⟨rfl, q, rfl⟩
  have hle := Lib.compact_length_le zs
  have hg := grownBy_sortedI (w := w) (g := B) (n := q) (os := #[]) (Lib.compact zs ++ List.replicate (n - (Lib.compact zs).length) 0).toArray
  have hT2 : TyI (Sort.grow (Sort.putRow (Value.int .i64) (Sort.ahead w q) B 0 (Lib.compact zs ++ List.replicate (n - (Lib.compact zs).length) 0).toArray) #[]) B := by
    obtain ⟨cs, fr, h⟩ := hT
    exact ⟨_, fr, heap_sortedI _ h⟩
  rw [Sort.grow_empty] at hg hT2
  refine ⟨rfl, hg, hT2, fun k hk => ?_⟩
  have h2 := Sort.holds_putRow (Value.int .i64) (Sort.ahead w q) B 0 zs.toArray (Lib.compact zs ++ List.replicate (n - (Lib.compact zs).length) 0).toArray (Sort.holds_ahead (Value.int .i64) w q B 0 _ hH) (by simp; omega)
  have h3 := (h2 k (by simp; omega)).1
  rw [Nat.zero_add] at h3
  rw [h3, getElem!_pos _ k (by simp; omega)]
  simp [List.getD, List.getElem?_eq_getElem hk, List.getElem_append_left hk]

/-- The first i releases laid. -/
def laidR (zs : List Int) (i : Nat) : Nat → Int := fun k => if k < i then zs.getD k 0 else 0
theorem laidR_next (zs : List Int) (i : Nat) : (fun q => if q = i then zs.getD i 0 else laidR zs i q) = laidR zs (i + 1) := by
  funext q; unfold laidR
  by_cases c : q = i
  · subst c; rw [if_pos rfl, if_pos (by omega)]
  · rw [if_neg c]
    by_cases c2 : q < i
    · rw [if_pos c2, if_pos (by omega)]
    · rw [if_neg c2, if_neg (by omega)]
set_option maxHeartbeats 3200000 in
set_option maxRecDepth 100000 in
theorem releases_any (A : Option Addr) (cap : Nat) (l : List Jb) (w : World) (hn : l.length ≤ 1000) (hcap : cap ≤ 9223372036854775807) (hlc : l.length ≤ cap) (hR : RdJ w A l) :
    Calls Tryd.prog 30 #[.slice A l.length cap] w (fun e w' => ∃ (B m : Nat) (R : Nat → Int), e = .returned (.slice (some ⟨B, 0, none⟩) m l.length) ∧ m ≤ l.length ∧ w.heap.size ≤ B ∧ B < w'.heap.size ∧ TyI w' B ∧ Below w.heap.size w w' ∧ (∀ k, k < m → w'.cell? ⟨B, k, none⟩ = some (.int .i64 (R k))) ∧
      (∀ i j, i < j → j < m → R i < R j) ∧ (∀ i, i < m → ∃ x ∈ l, R i = x.rel) ∧ ∀ x ∈ l, ∃ i, i < m ∧ R i = x.rel) := by
  obtain ⟨zs, hzs⟩ : ∃ zs, l.map Jb.rel = zs := ⟨_, rfl⟩
  obtain ⟨n, hl⟩ : ∃ n, l.length = n := ⟨_, rfl⟩
  have hzl : zs.length = n := by rw [← hzs, List.length_map, hl]
  have HZ : Hid (∀ (i : Nat) (x : Jb), l[i]? = some x → zs.getD i 0 = x.rel) := fun i x hx => by rw [← hzs, List.getD, List.getElem?_map, hx]; rfl
  obtain ⟨o1, o2⟩ := once_rise zs
  have hcl := Lib.compact_length_le (zs.mergeSort fun x y => decide (x ≤ y))
  rw [List.length_mergeSort, hzl] at hcl
  have F : Hid (∀ (B : Nat) (w' : World), w.heap.size ≤ B → B < w'.heap.size → TyI w' B → Below w.heap.size w w' → (∀ k, k < (Lib.compact (zs.mergeSort fun x y => decide (x ≤ y))).length → w'.cell? ⟨B, k, none⟩ = some (.int .i64 ((Lib.compact (zs.mergeSort fun x y => decide (x ≤ y))).getD k 0))) →
      ∃ (B2 m : Nat) (R : Nat → Int), Ending.returned (.slice (some ⟨B, 0, none⟩) (Lib.compact (zs.mergeSort fun x y => decide (x ≤ y))).length n) = .returned (.slice (some ⟨B2, 0, none⟩) m n) ∧ m ≤ n ∧ w.heap.size ≤ B2 ∧ B2 < w'.heap.size ∧ TyI w' B2 ∧ Below w.heap.size w w' ∧ (∀ k, k < m → w'.cell? ⟨B2, k, none⟩ = some (.int .i64 (R k))) ∧
      (∀ i j, i < j → j < m → R i < R j) ∧ (∀ i, i < m → ∃ x ∈ l, R i = x.rel) ∧ ∀ x ∈ l, ∃ i, i < m ∧ R i = x.rel) := by
    intro B w' hB0 hB hT hb hc
    generalize Lib.compact (zs.mergeSort fun x y => decide (x ≤ y)) = cs at *
    refine ⟨B, cs.length, fun k => cs.getD k 0, rfl, hcl, hB0, hB, hT, hb, hc, fun i j hij hj => ?_, fun i hi => ?_, fun x hx => ?_⟩
    · have := List.pairwise_iff_getElem.1 o1 i j (by omega) hj hij
      simpa [List.getD, List.getElem?_eq_getElem hj, List.getElem?_eq_getElem (show i < cs.length by omega)] using this
    · have h1 : cs.getD i 0 ∈ zs := by
        rw [← o2, List.getD, List.getElem?_eq_getElem hi]
        exact List.getElem_mem hi
      rw [← hzs] at h1
      obtain ⟨x, hx, e⟩ := List.mem_map.1 h1
      exact ⟨x, hx, e.symm⟩
    · have h1 : x.rel ∈ cs := by rw [o2, ← hzs]; exact List.mem_map.2 ⟨x, hx, rfl⟩
      obtain ⟨i, hi, e⟩ := List.getElem_of_mem h1
      exact ⟨i, hi, by simp only [List.getD, List.getElem?_eq_getElem hi, Option.getD_some]; exact e⟩
  have H := Lib.hid (And.intro hl (And.intro hR hzl))
  rw [hl] at hn hlc ⊢
  have hmk : ∀ w', (Instr.makeSlice 30 (.int .i64 (n : Int)) (.int .i64 (n : Int))).run Tryd.prog w' = .ok (.slice (some ⟨w'.heap.size, 0, none⟩) n n) (w'.alloc (.cells (madeCells #[.int .i64 0] n) 3)) := fun w' => run_make_row' _ _ _ 8 Tryd.underlying30 Tryd.infoI (by kernel_rfl) .i64 .i64 n (by omega) (by omega) w'
  have K0 : Hid (CelZ w.heap.size n (laidR zs 0) (w.alloc (.cells (madeCells #[.int .i64 0] n) 3))) := (CelZ.fresh w 3 n).to fun k hk => by simp [laidR]
  have KT : Hid (TyI (w.alloc (.cells (madeCells #[.int .i64 0] n) 3)) w.heap.size) := ⟨_, _, heap_alloc_new w _⟩
  have K1 : Hid (Below w.heap.size w (w.alloc (.cells (madeCells #[.int .i64 0] n) 3))) := (Below.refl _ _).alloc (Nat.le_refl _) _
  clear hR hl hzl hzs o1 o2 hcl hlc
  go_enter Tryd.func30, Tryd.ntmps30
  go_wp2
  clear hmk
  generalize w.alloc _ = w2 at K0 K1 KT ⊢
  generalize hM : w.heap.size = M at K0 KT ⊢
  have hMw : Hid (M = w.heap.size) := hM.symm
  clear hM
  go_loopw [11] (fun st wr => ∃ (i : Nat), st = .int .i64 (i : Int) ∧ i ≤ n ∧ Hid (CelZ M n (laidR zs i) wr ∧ Below w.heap.size w wr ∧ TyI wr M)) (fun st _ => n - (intOf st).toNat)
  case atStart => exact ⟨0, rfl, by omega, Lib.hid ⟨K0.out, K1.out, KT.out⟩⟩
  case round =>
    clear K0 K1 KT
    obtain ⟨i, rfl, hin, K⟩ := hrel
    rcases Nat.lt_or_ge i n with hlt | hge
    · have d1 : decide ((i : Int) < (n : Int)) = true := decide_eq_true (by omega)
      have e1 : IntKind.i64.wrap ((i : Int) + 1) = ((i + 1 : Nat) : Int) := by rw [IntKind.wrap_i64]; omega
      have b1 : (i : Int) < (n : Int) := by omega
      obtain ⟨x, hx⟩ : ∃ x, l[i]? = some x := ⟨_, List.getElem?_eq_getElem (by rw [H.out.1]; exact hlt)⟩
      obtain ⟨B, off, rfl, hJ⟩ := (H.out.2.1.below K.out.2.1) i x hx
      have hzx := HZ.out i x hx
      have c9 : ∀ j o, (wr.alloc (.cells j o)).cell? ⟨M, i, none⟩ = some (.int .i64 (laidR zs i i)) := fun j o => by rw [((Below.refl wr.heap.size wr).alloc (Nat.le_refl _) _).cell (p := ⟨M, i, none⟩) K.out.1.lt]; exact K.out.1.cell i hlt
      have f9 : ∀ j o, (wr.alloc (.cells j o)).frozen? ⟨M, i, none⟩ = false := fun j o => by rw [((Below.refl wr.heap.size wr).alloc (Nat.le_refl _) _).frozen (p := ⟨M, i, none⟩) K.out.1.lt]; exact K.out.1.frz i hlt
      have K2 : Hid (∀ j o, CelZ M n (laidR zs (i + 1)) ((wr.alloc (.cells j o)).setCell ⟨M, i, none⟩ (.int .i64 x.rel)) ∧ Below w.heap.size w ((wr.alloc (.cells j o)).setCell ⟨M, i, none⟩ (.int .i64 x.rel)) ∧ TyI ((wr.alloc (.cells j o)).setCell ⟨M, i, none⟩ (.int .i64 x.rel)) M) := fun j o => by
        have b9 := K.out.2.1.alloc K.out.2.1.size (.cells j o)
        refine ⟨?_, b9.setCell (by rw [hMw.out]; exact Nat.le_refl _) _, (K.out.2.2.on ((Below.refl wr.heap.size wr).alloc (Nat.le_refl _) (.cells j o))).set _ _⟩
        have := (K.out.1.on ((Below.refl wr.heap.size wr).alloc (Nat.le_refl _) (.cells j o))).store hlt x.rel
        rw [← hzx, laidR_next] at this
        rw [← hzx]
        exact this
      clear hx hzx K
      unfold JAt at hJ
      obtain ⟨c0, c1, c2, c3, c4, c5, c6, c7⟩ := hJ
      generalize x.name = xs at *
      generalize x.rel = xr at *
      generalize x.dl = xd at *
      generalize x.bud = xb at *
      generalize x.act = xa at *
      generalize x.vl = xv at *
      generalize x.cln = xc at *
      generalize x.hard = xh at *
      go_wp2
      go_roundw
      case rel => exact ⟨i + 1, by first | rfl | simp, by omega, K2.out _ _⟩
      case measure => simp [intOf]; omega
    · have d1 : decide ((i : Int) < (n : Int)) = false := decide_eq_false (by omega)
      obtain rfl : i = n := by omega
      have KC : CelZ M i (fun k => zs.getD k 0) wr := K.out.1.to fun k hk => by unfold laidR; rw [if_pos hk]
      have C1 := Lib.hid (sortI_any M i zs wr H.out.2.2 (by omega) K.out.2.2 KC)
      have KB := Lib.hid K.out.2.1
      clear KC K
      go_wp2_with fail
      refine C1.out.mono ?_
      rintro _ W ⟨rfl, hg, hT, hC⟩
      have KB2 : Hid (Below w.heap.size w W) := KB.out.grown hg KB.out.size (fun j hj => by cases hj; rw [hMw.out]; exact Nat.le_refl _)
      have C2 := Lib.hid (compactI_any M i _ W (by rw [List.length_mergeSort]; exact H.out.2.2) (by omega) hT hC)
      have hMl : Hid (M < W.heap.size) := hC.lt
      clear hg hC hT C1 KB
      go_wp2_with fail
      refine C2.out.mono ?_
      rintro _ W2 ⟨rfl, hg, hT, hc⟩
      have KE := F.out M W2 (by rw [hMw.out]; exact Nat.le_refl _) (Nat.lt_of_lt_of_le hMl.out hg.size) hT (KB2.out.grown hg KB2.out.size (fun j hj => by cases hj; rw [hMw.out]; exact Nat.le_refl _)) hc
      replace KE := Lib.hid KE
      clear hg hc hT C2 KB2 F hMl
      go_wp2
      go_ret
      exact KE.out
end Go.Proofs.YtacffjkhbajgkaaDoor
