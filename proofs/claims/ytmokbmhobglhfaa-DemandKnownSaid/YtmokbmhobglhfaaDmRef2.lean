/- The document's own All, Frame, Holds. -/
import Derived.Test.YtmokbmhobglhfaaDmRef
import Derived.Lib.AppendZerosOnto
namespace Go.Proofs.Ytmokbmhobglhfaa
open Go.RowKit Go.Lib
set_option linter.unusedVariables false
set_option linter.unusedSimpArgs false

set_option maxHeartbeats 1600000 in
set_option maxRecDepth 100000 in
theorem rallz_any (A : Option Addr) (cap : Nat) (l : List Tk) (long v : Int) (w : World) (hcap : cap ≤ 9223372036854775807) (hlc : l.length ≤ cap) (hf : fitB long = true) (hR : RdK w A l) (hv : allZ l long = v) :
    Calls Try.prog 15 #[.slice A l.length cap, .int .i64 long] w (RetB (.int .i64 v) w) := by
  by_cases h20 : l.length ≤ 20
  · rw [allZ_small h20] at hv
    obtain ⟨n, hl⟩ : ∃ n, l.length = n := ⟨_, rfl⟩
    rw [hl] at h20 hlc ⊢
    have d1 : decide ((n : Int) > 20) = false := decide_eq_false (by omega)
    have H := Lib.hid (And.intro hl (And.intro hR (And.intro hf hv)))
    clear hl hR hf hv
    go_enter Try.func15, Try.ntmps15
    go_wp2
    clear d1
    go_loopw [5, 6] (fun sv st wr => ∃ (i : Nat) (u : Int), sv = .int .i64 u ∧ st = .int .i64 (i : Int) ∧ i ≤ n ∧ Hid (sumO (l.take i) long = u ∧ Below w.heap.size w wr)) (fun _ st _ => n - (intOf st).toNat)
    case atStart => exact ⟨0, 0, rfl, rfl, by omega, Lib.hid ⟨by simp [sumO], Below.refl _ _⟩⟩
    case round =>
      obtain ⟨i, u, rfl, rfl, hin, K⟩ := hrel
      rcases Nat.lt_or_ge i n with hlt | hge
      · have d1 : decide ((i : Int) < (n : Int)) = true := decide_eq_true (by omega)
        have e1 : IntKind.i64.wrap ((i : Int) + 1) = ((i + 1 : Nat) : Int) := by rw [IntKind.wrap_i64]; omega
        have b1 : (i : Int) < (n : Int) := by omega
        obtain ⟨x, hx⟩ : ∃ x, l[i]? = some x := ⟨_, List.getElem?_eq_getElem (by rw [H.out.1]; exact hlt)⟩
        obtain ⟨B, off, rfl, c0, c1, c2⟩ := (H.out.2.1.below K.out.2) i x hx
        obtain ⟨q, hq⟩ : ∃ q, ofZ x long = q := ⟨_, rfl⟩
        have C := Lib.hid (rof_any x long q · H.out.2.2.1 hq)
        obtain ⟨u2, hu2⟩ : ∃ z, u + q = z := ⟨_, rfl⟩
        have e2 : wrap64 (u + q) = u2 := by
          have b1 := sumO_bound (l.take i) long
          rw [K.out.1, List.length_take] at b1
          have b2 := of_bound x long
          rw [hq] at b2
          unfold wrap64; omega
        have K2 : Hid (sumO (l.take (i + 1)) long = u2 ∧ Below w.heap.size w wr) := ⟨by rw [sumO_next hx, K.out.1, hq, hu2], K.out.2⟩
        clear hx K hq hu2
        obtain ⟨p, nd, s⟩ := x
        simp only at c0 c1 c2 C
        go_wp2_with fail
        refine (C.out _).mono ?_; rintro e hw ⟨rfl, h⟩
        go_wp2
        go_roundw
        case rel => exact ⟨i + 1, u2, by first | rfl | (simp; done) | rw [e2], by first | rfl | simp, by omega, Lib.hid ⟨K2.out.1, below_on K2.out.2 (by have s0 := h.size; (try simp only [World.heap_drewN, World.size_alloc] at s0); repeat (first | exact Below.refl _ _ | exact h | refine Below.trans ?_ (Below.mono h (by first | omega | (simp; done) | (simp; omega))) | refine Below.setCell ?_ (by first | omega | (simp; done) | (simp; omega)) _ | refine below_dN ?_ _ | refine Below.drew ?_ | refine Below.alloc ?_ (by first | omega | (simp; done) | (simp; omega)) _))⟩⟩
        case measure => simp [intOf]; omega
      · have d1 : decide ((i : Int) < (n : Int)) = false := decide_eq_false (by omega)
        obtain rfl : u = v := by rw [← H.out.2.2.2, ← K.out.1, List.take_of_length_le (by rw [H.out.1]; exact hge)]
        go_wp2
        go_ret
        exact ⟨rfl, K.out.2⟩
  · rw [allZ_big h20] at hv
    subst hv
    obtain ⟨n, hl⟩ : ∃ n, l.length = n := ⟨_, rfl⟩
    rw [hl] at h20 ⊢
    have d1 : decide ((n : Int) > 20) = true := decide_eq_true (by omega)
    go_enter Try.func15, Try.ntmps15
    go_wp2
    go_ret
    exact ⟨rfl, by repeat (first | exact Below.refl _ _ | refine Below.setCell ?_ (by first | omega | (simp; done) | (simp; omega)) _ | refine below_dN ?_ _ | refine Below.drew ?_ | refine Below.alloc ?_ (by first | omega | (simp; done) | (simp; omega)) _)⟩
def cellsZ (l : List Int) : List Value := l.map (Value.int .i64)
theorem newsZ (w : World) (x : Value) (e : TypeId) (B : Nat) (hB : w.heap.size = B) : ∀ j u, ([x] : List Value)[j]? = some u → (w.alloc (.cells #[x] e)).cell? ((⟨B, 0, none⟩ : Addr).add j) = some u := by
  intro j u hj
  subst hB
  rw [Addr.add_lit]
  match j, hj with
  | 0, hj => simp at hj; subst hj; simp
theorem oneZ (x : Int) : ∀ u ∈ [Value.int .i64 x], u.oneCell' = true := by intro u hu; simp at hu; subst hu; rfl
theorem cellsZ_next {l : List Tk} {i : Nat} {x : Tk} (h : l[i]? = some x) : cellsZ (unitsL (l.take (i + 1))) = cellsZ (unitsL (l.take i)) ++ [.int .i64 x.unit] := by
  rw [List.take_add_one, h]; simp [cellsZ, unitsL]
theorem ownZ_reads {w : World} {base n : Nat} {e : TypeId} {v : Value} {l : List Int} (h : w.ownsRow base e 1 v n (cellsZ l)) :
    ∃ A c, v = .slice A l.length c ∧ l.length ≤ c ∧ c ≤ 9223372036854775807 ∧ ReadsI w A l ∧ ∀ ad, A = some ad → ad.block < w.heap.size := by
  have hn : n = l.length := by have := h.1; simp [cellsZ] at this; omega
  subst hn
  rcases h.2 with ⟨rfl, h0⟩ | ⟨g, cap, cur, rfl, hb, hh, h1, h2, _⟩
  · refine ⟨none, 0, by simp [h0], by omega, by decide, fun k hk => ?_, fun ad h => by cases h⟩
    omega
  · refine ⟨some ⟨g, 0, none⟩, cap, rfl, h1, by unfold maxLen at h2; omega, fun k hk => ⟨g, 0, rfl, ?_⟩, fun ad h => by injection h with h; subst h; exact (Array.getElem?_eq_some_iff.1 hh).1⟩
    rw [Nat.zero_add, h.cellAt _ (by omega), List.getD]
    simp [cellsZ, hk]
theorem oneMoreZ {N k : Nat} {r : List Int} {b : Int} {w wp w3 : World} {v : Value} {e e' : TypeId} (bw : Below N w wp) (hN : N ≤ wp.heap.size) (ho : wp.ownsRow N e 1 v k (cellsZ r)) (hg : (wp.alloc (.cells #[.int .i64 b] e')).grownBy w3 v.ownBlock) : Below N w w3 := by
  have bm : Below wp.heap.size wp (wp.alloc (.cells #[.int .i64 b] e')) := (Below.refl _ _).alloc (Nat.le_refl _) _
  exact (bw.trans (bm.mono hN)).grown hg (by simp; omega) (fun j hj => (ho.lt j hj).1)
set_option maxHeartbeats 3200000 in
set_option maxRecDepth 100000 in
theorem rframe_any (A : Option Addr) (cap : Nat) (l : List Tk) (v e : Int) (w : World) (hcap : cap ≤ 9223372036854775807) (hlc : l.length ≤ cap) (hR : RdK w A l) (hv : frameN l = v) (he : frameE l = e) :
    Calls Try.prog 13 #[.slice A l.length cap] w (RetB (.tuple #[.int .i64 v, .int .i64 e]) w) := by
  obtain ⟨i0, hi0, hz0, hz1, hz2⟩ := info_parts Try.infoI64
  obtain ⟨n, hl⟩ : ∃ n, l.length = n := ⟨_, rfl⟩
  by_cases h20 : n ≤ 20
  · have d1 : decide ((n : Int) > 20) = false := decide_eq_false (by omega)
    have Bad : Hid (∀ (i : Nat) (x : Tk), l[i]? = some x → x.good = false → v = 0 ∧ e = 1) := fun i x hx hg => by
      have : tasksB l = false := by rw [tasksB_eq, tk_false hx hg, Bool.and_false]
      obtain ⟨z1, z2⟩ := frame_bad this
      exact ⟨by rw [← hv, z1], by rw [← he, z2]⟩
    obtain ⟨o, ho⟩ : ∃ o, lcmOk 100000 (unitsL l) = o := ⟨_, rfl⟩
    obtain ⟨z, hz⟩ : ∃ z, lcmV 100000 (unitsL l) = z := ⟨_, rfl⟩
    have F : Hid (l.all Tk.good = true → (o = false ∧ v = 0 ∧ e = 2 ∨ o = true ∧ v = z ∧ e = 0) ∧ ∀ (A5 : Option Addr) (c5 : Nat) (wr : World), ReadsI wr A5 (unitsL l) → (∀ ad, A5 = some ad → ad.block < wr.heap.size) → Calls Try.prog 23 #[.int .i64 100000, .slice A5 n c5] wr (RetB (.tuple #[.int .i64 z, .bool o]) wr)) := fun hg => by
      have hq : tasksB l = true := by rw [tasksB_eq, hg, hl, decide_eq_true h20]; rfl
      refine ⟨?_, fun A5 c5 wr h1 h2 => ?_⟩
      · cases o
        · obtain ⟨z1, z2⟩ := frame_wide hq ho
          exact .inl ⟨rfl, by rw [← hv, z1], by rw [← he, z2]⟩
        · obtain ⟨z1, z2⟩ := frame_ok hq ho
          exact .inr ⟨rfl, by rw [← hv, z1, hz], by rw [← he, z2]⟩
      · have := rlcm_any 100000 z o A5 c5 (unitsL l) wr (by rw [units_len]; omega) (units_fit hq) h1 (fun _ => h2) hz ho
        rw [units_len, hl] at this
        exact this
    rw [hl] at hlc ⊢
    have H := Lib.hid (And.intro hl hR)
    clear hl hR hv he ho hz
    go_enter Try.func13, Try.ntmps13
    go_wp2
    clear d1
    go_loopw [4, 5] (fun sv st wr => ∃ (i : Nat), st = .int .i64 (i : Int) ∧ i ≤ n ∧ Hid ((l.take i).all Tk.good = true ∧ Below w.heap.size w wr ∧ wr.ownsRow w.heap.size 2 1 sv i (cellsZ (unitsL (l.take i))))) (fun _ st _ => n - (intOf st).toNat)
    case atStart => exact ⟨0, by first | rfl | simp, by omega, Lib.hid ⟨by simp, Below.refl _ _, World.ownsRow_nil _ _ _ _⟩⟩
    case round =>
      obtain ⟨i, rfl, hin, K⟩ := hrel
      rcases Nat.lt_or_ge i n with hlt | hge
      · have d1 : decide ((i : Int) < (n : Int)) = true := decide_eq_true (by omega)
        have e1 : IntKind.i64.wrap ((i : Int) + 1) = ((i + 1 : Nat) : Int) := by rw [IntKind.wrap_i64]; omega
        have b9 : (i : Int) < (n : Int) := by omega
        obtain ⟨x, hx⟩ : ∃ x, l[i]? = some x := ⟨_, List.getElem?_eq_getElem (by rw [H.out.1]; exact hlt)⟩
        obtain ⟨Bj, off, rfl, c0, c1, c2⟩ := (H.out.2.below K.out.2.1) i x hx
        obtain ⟨q, hq⟩ : ∃ q, x.good = q := ⟨_, rfl⟩
        have C := Lib.hid (rgoodtask_any x q · hq)
        have hbd : Hid (q = false → v = 0 ∧ e = 1) := fun h => Bad.out i x hx (by rw [hq, h])
        cases q
        · obtain ⟨rfl, rfl⟩ := hbd.out rfl
          have kb := Lib.hid K.out.2.1
          clear hx K hq hbd
          obtain ⟨p, nd, s⟩ := x
          simp only at c0 c1 c2 C
          go_wp2_with fail
          refine (C.out _).mono ?_; rintro e hw ⟨rfl, h⟩
          go_wp2
          go_ret2
          exact ⟨rfl, below_on kb.out (by have s0 := h.size; (try simp only [World.heap_drewN, World.size_alloc] at s0); repeat (first | exact Below.refl _ _ | exact h | refine Below.trans ?_ (Below.mono h (by first | omega | (simp; done) | (simp; omega))) | refine Below.setCell ?_ (by first | omega | (simp; done) | (simp; omega)) _ | refine below_dN ?_ _ | refine Below.drew ?_ | refine Below.alloc ?_ (by first | omega | (simp; done) | (simp; omega)) _))⟩
        · obtain ⟨u, hu⟩ : ∃ z, x.unit = z := ⟨_, rfl⟩
          have hnx : Hid (cellsZ (unitsL (l.take (i + 1))) = cellsZ (unitsL (l.take i)) ++ [.int .i64 u]) := by show _ = _; rw [cellsZ_next hx, hu]
          have hgt : Hid ((l.take (i + 1)).all Tk.good = true) := by show _ = _; rw [tk_next hx, K.out.1, hq]; rfl
          have hub := unit_pos hq
          rw [hu] at hub
          obtain ⟨A5, c5', hv5, _⟩ := ownZ_reads K.out.2.2
          rw [units_len, List.length_take, Nat.min_eq_left (by rw [H.out.1]; omega)] at hv5
          subst hv5
          rw [unit_if] at hu
          have hs := (tk_iff.1 hq).2.2
          clear hx hq hbd
          obtain ⟨p, nd, s⟩ := x
          simp only at c0 c1 c2 C hu hs
          go_wp2_with fail
          refine (C.out _).mono ?_; rintro e hw ⟨rfl, h⟩
          have k0 : hw.cell? ⟨Bj, off + i * 3, none⟩ = some (.int .i64 p) := by rw [h.cell (p := ⟨Bj, off + i * 3, none⟩) (cell_lt c0)]; exact c0
          have k2 : hw.cell? ⟨Bj, off + i * 3 + 2, none⟩ = some (.int .i64 s) := by rw [h.cell (p := ⟨Bj, off + i * 3 + 2, none⟩) (cell_lt c2)]; exact c2
          have KV : Hid (hw.ownsRow w.heap.size 2 1 (.slice A5 i c5') i (cellsZ (unitsL (l.take i)))) := own_same K.out.2.2 fun q hq => h.block q ((K.out.2.2.lt q hq).2)
          have KB : Hid (Below w.heap.size w hw) := below_on K.out.2.1 h
          have hsz : Hid (w.heap.size ≤ hw.heap.size) := KB.out.size
          clear K C c0 c1 c2 h
          have hss : s = 0 ∧ p = u ∧ decide (s > 0) = false ∨ wrap64 (p * s) = u ∧ decide (s > 0) = true := by
            by_cases h0 : s = 0
            · rw [if_pos h0] at hu
              exact .inl ⟨h0, hu, decide_eq_false (by omega)⟩
            · rw [if_neg h0] at hu
              exact .inr ⟨by unfold wrap64; omega, decide_eq_true (by omega)⟩
          clear hu hs hub
          rcases hss with ⟨rfl, rfl, ds⟩ | ⟨eu, ds⟩
          · go_wp2_with (at_builtin; refine wpList_append_own_at _ rfl (.tmp 42) (.tmp 44) 45 rfl w.heap.size 2 i0 (.int .i64 0) 1 8 Try.underlying45 hi0 hz0 hz1 hz2 rfl (by decide) _ _ _ rfl (KV.out.alloc _) ⟨hw.heap.size, 0, none⟩ 1 1 [.int .i64 p] rfl rfl (newsZ _ _ _ _ rfl) (oneZ _) (by unfold maxLen; omega) (by omega) (by have := hsz.out; simp; omega) ?_)
            intro v' w3 hown' hgrow' hnil hloc
            have K9 : Hid ((l.take (i + 1)).all Tk.good = true ∧ Below w.heap.size w w3 ∧ w3.ownsRow w.heap.size 2 1 v' (i + 1) (cellsZ (unitsL (l.take (i + 1))))) := ⟨hgt.out, oneMoreZ KB.out hsz.out KV.out hgrow', by rw [hnx.out]; exact hown'⟩
            clear hown' hgrow' hnil hloc KV KB hsz hnx
            go_wp2
            go_roundw
            case rel => exact ⟨i + 1, by first | rfl | simp, by omega, K9⟩
            case measure => simp [intOf]; omega
          · go_wp2_with (at_builtin; refine wpList_append_own_at _ rfl (.tmp 42) (.tmp 44) 45 rfl w.heap.size 2 i0 (.int .i64 0) 1 8 Try.underlying45 hi0 hz0 hz1 hz2 rfl (by decide) _ _ _ rfl (KV.out.alloc _) ⟨hw.heap.size, 0, none⟩ 1 1 [.int .i64 u] rfl rfl (newsZ _ _ _ _ rfl) (oneZ _) (by unfold maxLen; omega) (by omega) (by have := hsz.out; simp; omega) ?_)
            intro v' w3 hown' hgrow' hnil hloc
            have K9 : Hid ((l.take (i + 1)).all Tk.good = true ∧ Below w.heap.size w w3 ∧ w3.ownsRow w.heap.size 2 1 v' (i + 1) (cellsZ (unitsL (l.take (i + 1))))) := ⟨hgt.out, oneMoreZ KB.out hsz.out KV.out hgrow', by rw [hnx.out]; exact hown'⟩
            clear hown' hgrow' hnil hloc KV KB hsz hnx
            go_wp2
            go_roundw
            case rel => exact ⟨i + 1, by first | rfl | simp, by omega, K9⟩
            case measure => simp [intOf]; omega
      · have d1 : decide ((i : Int) < (n : Int)) = false := decide_eq_false (by omega)
        obtain rfl : i = n := by omega
        have ht : l.take i = l := List.take_of_length_le (by rw [H.out.1]; exact Nat.le_refl _)
        have K2 := K.out
        rw [ht] at K2
        obtain ⟨A5, c5', hv5, _, _, k3, k4⟩ := ownZ_reads K2.2.2
        rw [units_len, H.out.1] at hv5
        subst hv5
        obtain ⟨F1, F2⟩ := F.out K2.1
        have C := Lib.hid (F2 A5 c5' wr k3 k4)
        have kb := Lib.hid K2.2.1
        replace F1 := Lib.hid F1
        clear K K2 k3 k4 F2 F ht
        go_wp2_with fail
        refine C.out.mono ?_; rintro e' hw ⟨rfl, hb⟩
        have b2 := Lib.hid (below_on kb.out hb)
        clear C hb kb
        obtain ⟨F1, F2, F3⟩ | ⟨F1, F2, F3⟩ := F1.out
        · subst F1
          subst F2
          subst F3
          go_wp2
          go_ret2
          exact ⟨rfl, by have s0 := b2.out.size; (try simp only [World.heap_drewN, World.size_alloc] at s0); repeat (first | exact Below.refl _ _ | exact b2.out | refine Below.trans ?_ (Below.mono b2.out (by first | omega | (simp; done) | (simp; omega))) | refine Below.setCell ?_ (by first | omega | (simp; done) | (simp; omega)) _ | refine below_dN ?_ _ | refine Below.drew ?_ | refine Below.alloc ?_ (by first | omega | (simp; done) | (simp; omega)) _)⟩
        · subst F1
          subst F2
          subst F3
          go_wp2
          go_ret2
          exact ⟨rfl, by have s0 := b2.out.size; (try simp only [World.heap_drewN, World.size_alloc] at s0); repeat (first | exact Below.refl _ _ | exact b2.out | refine Below.trans ?_ (Below.mono b2.out (by first | omega | (simp; done) | (simp; omega))) | refine Below.setCell ?_ (by first | omega | (simp; done) | (simp; omega)) _ | refine below_dN ?_ _ | refine Below.drew ?_ | refine Below.alloc ?_ (by first | omega | (simp; done) | (simp; omega)) _)⟩
  · have d1 : decide ((n : Int) > 20) = true := decide_eq_true (by omega)
    obtain ⟨z1, z2⟩ := frame_bad (l := l) (by rw [tasksB_eq, hl, decide_eq_false h20]; rfl)
    rw [hv] at z1
    rw [he] at z2
    subst z1
    subst z2
    rw [hl]
    go_enter Try.func13, Try.ntmps13
    go_wp2
    go_ret2
    exact ⟨rfl, by repeat (first | exact Below.refl _ _ | refine Below.setCell ?_ (by first | omega | (simp; done) | (simp; omega)) _ | refine below_dN ?_ _ | refine Below.drew ?_ | refine Below.alloc ?_ (by first | omega | (simp; done) | (simp; omega)) _)⟩
end Go.Proofs.Ytmokbmhobglhfaa
