/- Package demand: Frame, Holds. -/
import Derived.Test.YtmokbmhobglhfaaDm2
namespace Go.Proofs.Ytmokbmhobglhfaa
open Go.RowKit Go.Lib
set_option linter.unusedVariables false
set_option linter.unusedSimpArgs false

/-- A new block B of n numbers f, beyond w0. -/
structure ArK (w0 : World) (B n : Nat) (f : Nat → Int) (w : World) : Prop where
  below : Below B w0 w
  size : B < w.heap.size
  cell : ∀ k, k < n → w.cell? ⟨B, k, none⟩ = some (.int .i64 (f k))
  frz : ∀ k, k < n → w.frozen? ⟨B, k, none⟩ = false
theorem ArK.on {w0 w w' : World} {B n : Nat} {f : Nat → Int} (h : ArK w0 B n f w) (hb : Below w.heap.size w w') : ArK w0 B n f w' :=
  ⟨h.below.trans (hb.mono (Nat.le_of_lt h.size)), Nat.lt_of_lt_of_le h.size hb.size, fun k hk => by rw [hb.cell (p := ⟨B, k, none⟩) h.size]; exact h.cell k hk, fun k hk => by rw [hb.frozen (p := ⟨B, k, none⟩) h.size]; exact h.frz k hk⟩
theorem ArK.to {w0 w : World} {B n : Nat} {f g : Nat → Int} (h : ArK w0 B n f w) (e : ∀ k, k < n → f k = g k) : ArK w0 B n g w :=
  ⟨h.below, h.size, fun k hk => by rw [← e k hk]; exact h.cell k hk, h.frz⟩
theorem ArK.store {w0 w : World} {B n : Nat} {f : Nat → Int} (h : ArK w0 B n f w) {k : Nat} (hk : k < n) (v : Int) : ArK w0 B n (fun q => if q = k then v else f q) (w.setCell ⟨B, k, none⟩ (.int .i64 v)) := by
  refine ⟨h.below.setCell (Nat.le_refl B) _, by simpa [World.setCell] using h.size, fun q hq => ?_, fun q hq => ?_⟩
  · by_cases c : q = k
    · subst c; rw [if_pos rfl]; exact World.cell?_setCell_same _ _ _ (h.cell q hq)
    · rw [if_neg c, World.cell?_setCell_other _ _ _ _ (by intro e'; simp only [Addr.mk.injEq] at e'; omega)]; exact h.cell q hq
  · rw [World.frozen?_setCell]; exact h.frz q hq
theorem ArK.fresh (w0 : World) (e : TypeId) (n : Nat) : ArK w0 w0.heap.size n (fun _ => 0) (w0.alloc (.cells (madeCells #[.int .i64 0] n) e)) := by
  refine ⟨(Below.refl _ _).alloc (Nat.le_refl _) _, by simp, fun k hk => ?_, fun k hk => ?_⟩
  · have e1 : (madeCells #[Value.int .i64 0] n)[k]? = some (.int .i64 0) := by
      unfold madeCells
      simp [hk, Nat.mod_one]
    simp [e1]
  · unfold World.frozen?
    rw [heap_alloc_new]
    simp
theorem Try.infoI64 : (Try.prog.info? 2).map (fun i => (i.zero, i.size, i.bytes)) = some (some (.int .i64 0), 1, 8) := by kernel_rfl
def unitAt (l : List Tk) (i : Nat) : Int := ((l[i]?).map Tk.unit).getD 0
theorem unitAt_of {l : List Tk} {i : Nat} {x : Tk} (h : l[i]? = some x) : unitAt l i = x.unit := by unfold unitAt; rw [h]; rfl
def laidU (l : List Tk) (i : Nat) : Nat → Int := fun k => if k < i then unitAt l k else 0
theorem laidU_next (l : List Tk) (i : Nat) : (fun q => if q = i then unitAt l i else laidU l i q) = laidU l (i + 1) := by
  funext q; unfold laidU
  by_cases c : q = i
  · subst c; rw [if_pos rfl, if_pos (by omega)]
  · rw [if_neg c]
    by_cases c2 : q < i
    · rw [if_pos c2, if_pos (by omega)]
    · rw [if_neg c2, if_neg (by omega)]
theorem units_len (l : List Tk) : (unitsL l).length = l.length := by simp [unitsL]
theorem units_getD (l : List Tk) (k : Nat) : (unitsL l).getD k 0 = unitAt l k := by
  unfold unitsL unitAt
  rw [List.getD, List.getElem?_map]
theorem units_fit {l : List Tk} (h : tasksB l = true) : ∀ x ∈ unitsL l, fitB x = true := by
  intro x hx
  obtain ⟨t, ht, rfl⟩ := List.mem_map.1 hx
  have hg := List.all_eq_true.1 (Bool.and_eq_true_iff.1 (tasksB_eq l ▸ h)).2 t ht
  obtain ⟨u1, u2⟩ := unit_pos hg
  exact fitB_true ⟨by omega, by omega⟩
theorem frame_bad {l : List Tk} (h : tasksB l = false) : frameN l = 0 ∧ frameE l = 1 := by
  unfold frameN frameE; rw [h]; exact ⟨rfl, rfl⟩
theorem frame_wide {l : List Tk} (h : tasksB l = true) (ho : lcmOk 100000 (unitsL l) = false) : frameN l = 0 ∧ frameE l = 2 := by
  unfold frameN frameE; rw [h, ho]
  refine ⟨?_, rfl⟩
  rw [if_pos rfl]
  unfold lcmOk at ho
  unfold lcmV
  split
  · rfl
  · rename_i m hm
    rw [hm] at ho
    simp only at ho
    rw [if_neg (of_decide_eq_false ho)]
theorem frame_ok {l : List Tk} (h : tasksB l = true) (ho : lcmOk 100000 (unitsL l) = true) : frameN l = lcmV 100000 (unitsL l) ∧ frameE l = 0 := by
  unfold frameN frameE; rw [h, ho]; exact ⟨rfl, rfl⟩
set_option maxHeartbeats 3200000 in
set_option maxRecDepth 100000 in
theorem dframe_any (A : Option Addr) (cap : Nat) (l : List Tk) (v e : Int) (w : World) (hcap : cap ≤ 9223372036854775807) (hlc : l.length ≤ cap) (hR : RdK w A l) (hv : frameN l = v) (he : frameE l = e) :
    Calls Try.prog 8 #[.slice A l.length cap] w (RetB (.tuple #[.int .i64 v, .int .i64 e]) w) := by
  obtain ⟨q, hq⟩ : ∃ q, tasksB l = q := ⟨_, rfl⟩
  have C1 := Lib.hid (dlegal_any A cap l q w hcap hlc hR hq)
  cases q
  · obtain ⟨z1, z2⟩ := frame_bad hq
    rw [hv] at z1
    rw [he] at z2
    subst z1
    subst z2
    generalize l.length = n at *
    clear hR hq
    go_enter Try.func8, Try.ntmps8
    go_wp2_with fail
    refine C1.out.mono ?_; rintro e' gw ⟨rfl, g⟩
    go_wp2
    go_ret2
    exact ⟨rfl, by have s0 := g.size; (try simp only [World.heap_drewN, World.size_alloc] at s0); repeat (first | exact Below.refl _ _ | exact g | refine Below.trans ?_ (Below.mono g (by first | omega | (simp; done) | (simp; omega))) | refine Below.setCell ?_ (by first | omega | (simp; done) | (simp; omega)) _ | refine below_dN ?_ _ | refine Below.drew ?_ | refine Below.alloc ?_ (by first | omega | (simp; done) | (simp; omega)) _)⟩
  · have h20 : l.length ≤ 20 := of_decide_eq_true (Bool.and_eq_true_iff.1 (tasksB_eq l ▸ hq)).1
    obtain ⟨o, ho⟩ : ∃ o, lcmOk 100000 (unitsL l) = o := ⟨_, rfl⟩
    obtain ⟨z, hz⟩ : ∃ z, lcmV 100000 (unitsL l) = z := ⟨_, rfl⟩
    have C2 : Hid (∀ B wr, wr.heap.size > B → (∀ k, k < l.length → wr.cell? ⟨B, k, none⟩ = some (.int .i64 (unitAt l k))) → Calls Try.prog 21 #[.int .i64 100000, .slice (some ⟨B, 0, none⟩) l.length l.length] wr (Ret (.tuple #[.int .i64 z, .bool o]) wr)) := fun B wr hs hc => by
      have := lcm_any 100000 z o (some ⟨B, 0, none⟩) l.length (unitsL l) wr (by rw [units_len]; omega) (units_fit hq) (fun k hk => ⟨B, 0, rfl, by rw [Nat.zero_add, units_getD]; exact hc k (by rw [← units_len]; exact hk)⟩) hz ho
      rw [units_len] at this
      exact this
    have hA : Hid (∀ x ∈ l, x.good = true) := fun x hx => List.all_eq_true.1 (Bool.and_eq_true_iff.1 (tasksB_eq l ▸ hq)).2 x hx
    have F : Hid (o = false ∧ v = 0 ∧ e = 2 ∨ o = true ∧ v = z ∧ e = 0) := by
      show _ ∨ _
      cases o
      · obtain ⟨z1, z2⟩ := frame_wide hq ho
        exact .inl ⟨rfl, by rw [← hv, z1], by rw [← he, z2]⟩
      · obtain ⟨z1, z2⟩ := frame_ok hq ho
        exact .inr ⟨rfl, by rw [← hv, z1, hz], by rw [← he, z2]⟩
    obtain ⟨n, hl⟩ : ∃ n, l.length = n := ⟨_, rfl⟩
    rw [hl] at hlc h20 C1 C2 ⊢
    have H := Lib.hid (And.intro hl hR)
    clear hl hR hv he hq ho hz
    have hmk : ∀ w', (Instr.makeSlice 45 (.int .i64 (n : Int)) (.int .i64 (n : Int))).run Try.prog w' = .ok (.slice (some ⟨w'.heap.size, 0, none⟩) n n) (w'.alloc (.cells (madeCells #[.int .i64 0] n) 2)) := fun w' => run_make_row' _ _ _ 8 Try.underlying45 Try.infoI64 (by kernel_rfl) .i64 .i64 n (by omega) (by omega) w'
    go_enter Try.func8, Try.ntmps8
    go_wp2_with fail
    refine C1.out.mono ?_; rintro e' gw ⟨rfl, g⟩
    clear C1
    have K0 : Hid (ArK gw gw.heap.size n (laidU l 0) (gw.alloc (.cells (madeCells #[.int .i64 0] n) 2))) := (ArK.fresh gw 2 n).to fun k hk => by unfold laidU; rw [if_neg (by omega)]
    have hbg := Lib.hid g
    clear g
    go_wp2
    clear hmk
    generalize gw.alloc _ = w2 at K0 ⊢
    generalize hBB : gw.heap.size = B at K0 ⊢
    have hB : Hid (gw.heap.size = B) := hBB
    clear hBB
    go_loopw [17] (fun st wr => ∃ (i : Nat), st = .int .i64 (i : Int) ∧ i ≤ n ∧ Hid (ArK gw B n (laidU l i) wr)) (fun st _ => n - (intOf st).toNat)
    case atStart => exact ⟨0, rfl, by omega, K0⟩
    case round =>
      clear K0
      obtain ⟨i, rfl, hin, K⟩ := hrel
      have hbw : Hid (Below w.heap.size w wr) := below_on hbg.out (by rw [hB.out]; exact K.out.below)
      rcases Nat.lt_or_ge i n with hlt | hge
      · have d1 : decide ((i : Int) < (n : Int)) = true := decide_eq_true (by omega)
        have e1 : IntKind.i64.wrap ((i : Int) + 1) = ((i + 1 : Nat) : Int) := by rw [IntKind.wrap_i64]; omega
        have b1 : (i : Int) < (n : Int) := by omega
        have b0 : (0 : Int) ≤ (i : Int) := by omega
        obtain ⟨x, hx⟩ : ∃ x, l[i]? = some x := ⟨_, List.getElem?_eq_getElem (by rw [H.out.1]; exact hlt)⟩
        obtain ⟨Bj, off, rfl, c0, c1, c2⟩ := (H.out.2.below hbw.out) i x hx
        obtain ⟨u, hu⟩ : ∃ z, x.unit = z := ⟨_, rfl⟩
        have C := Lib.hid (dturn_any x u · (hA.out x (List.mem_of_getElem? hx)) hu)
        have hua : Hid (unitAt l i = u) := by show _ = _; rw [unitAt_of hx, hu]
        clear hx hu
        obtain ⟨p, nd, s⟩ := x
        simp only at c0 c1 c2 C
        go_wp2_with fail
        refine (C.out _).mono ?_; rintro e hw ⟨rfl, h⟩
        have hb : Hid (Below wr.heap.size wr hw) := by exact by have s0 := h.size; (try simp only [World.heap_drewN, World.size_alloc] at s0); repeat (first | exact Below.refl _ _ | exact h | refine Below.trans ?_ (Below.mono h (by first | omega | (simp; done) | (simp; omega))) | refine Below.setCell ?_ (by first | omega | (simp; done) | (simp; omega)) _ | refine below_dN ?_ _ | refine Below.drew ?_ | refine Below.alloc ?_ (by first | omega | (simp; done) | (simp; omega)) _)
        have K2 := K.out.on hb.out
        have f1 : hw.cell? ⟨B, i, none⟩ = some (.int .i64 (laidU l i i)) := K2.cell i hlt
        have f2 : hw.frozen? ⟨B, i, none⟩ = false := K2.frz i hlt
        have K3 : Hid (ArK gw B n (laidU l (i + 1)) (hw.setCell ⟨B, i, none⟩ (.int .i64 u))) := by
          have := K2.store hlt u
          rw [← hua.out, laidU_next] at this
          rw [← hua.out]
          exact this
        clear K K2 C c0 c1 c2 hua hbw h
        go_wp2
        go_roundw
        case rel => exact ⟨i + 1, by first | rfl | simp, by omega, K3⟩
        case measure => simp [intOf]; omega
      · have d1 : decide ((i : Int) < (n : Int)) = false := decide_eq_false (by omega)
        obtain rfl : i = n := by omega
        have C := Lib.hid (C2.out B wr K.out.size (fun k hk => by have := K.out.cell k hk; unfold laidU at this; rw [if_pos hk] at this; exact this))
        clear C2 K
        go_wp2_with fail
        refine C.out.mono ?_; rintro e' w' ⟨rfl, n1, rfl⟩
        clear C
        obtain ⟨F1, F2, F3⟩ | ⟨F1, F2, F3⟩ := F.out
        · subst F1
          subst F2
          subst F3
          clear F
          go_wp2
          go_ret2
          exact ⟨rfl, by have s0 := hbw.out.size; (try simp only [World.heap_drewN, World.size_alloc] at s0); repeat (first | exact Below.refl _ _ | exact hbw.out | refine Below.trans ?_ (Below.mono hbw.out (by first | omega | (simp; done) | (simp; omega))) | refine Below.setCell ?_ (by first | omega | (simp; done) | (simp; omega)) _ | refine below_dN ?_ _ | refine Below.drew ?_ | refine Below.alloc ?_ (by first | omega | (simp; done) | (simp; omega)) _)⟩
        · subst F1
          subst F2
          subst F3
          clear F
          go_wp2
          go_ret2
          exact ⟨rfl, by have s0 := hbw.out.size; (try simp only [World.heap_drewN, World.size_alloc] at s0); repeat (first | exact Below.refl _ _ | exact hbw.out | refine Below.trans ?_ (Below.mono hbw.out (by first | omega | (simp; done) | (simp; omega))) | refine Below.setCell ?_ (by first | omega | (simp; done) | (simp; omega)) _ | refine below_dN ?_ _ | refine Below.drew ?_ | refine Below.alloc ?_ (by first | omega | (simp; done) | (simp; omega)) _)⟩
theorem frameN_le (l : List Tk) : 0 ≤ frameN l ∧ frameN l ≤ 100000 := by
  rcases Decidable.em (frameE l = 0) with h | h
  · obtain ⟨_, h1, h2, _⟩ := frame_props h
    omega
  · unfold frameE at h
    unfold frameN
    split at h
    · rename_i ht
      split at h
      · exact absurd rfl h
      · rename_i ho
        have := (frame_wide ht (by simpa using ho)).1
        unfold frameN at this
        rw [this]; omega
    · rename_i ht
      rw [if_neg ht]; omega
/-- Held up to n. -/
def heldTo (l : List Tk) (n : Int) : Prop := ∀ s : Int, 1 ≤ s → s ≤ n → allZ l s ≤ s
theorem heldTo.next {l : List Tk} {n : Int} (h : heldTo l n) (h1 : allZ l (n + 1) ≤ n + 1) : heldTo l (n + 1) := fun s k1 k2 => by
  by_cases c : s = n + 1
  · subst c; exact h1
  · exact h s k1 (by omega)
theorem holds_no {l : List Tk} {n : Int} (h0 : 0 ≤ n) (hn : n < frameN l) (h1 : n + 1 < allZ l (n + 1)) : holdsB l = false := by
  rcases hb : holdsB l with _ | _
  · rfl
  · have := (holdsB_iff.1 hb).2 (n + 1) (by omega) (by omega)
    omega
theorem holds_bad {l : List Tk} (h : ¬ frameE l = 0) : holdsB l = false := by unfold holdsB; rw [decide_eq_false h]; rfl
set_option maxHeartbeats 3200000 in
set_option maxRecDepth 100000 in
theorem dholds_any (A : Option Addr) (cap : Nat) (l : List Tk) (g : Bool) (e : Int) (w : World) (hcap : cap ≤ 9223372036854775807) (hlc : l.length ≤ cap) (hR : RdK w A l) (hg : holdsB l = g) (he : frameE l = e) :
    Calls Try.prog 9 #[.slice A l.length cap] w (RetB (.tuple #[.bool g, .int .i64 e]) w) := by
  obtain ⟨N, hN⟩ : ∃ N, frameN l = N := ⟨_, rfl⟩
  have C1 := Lib.hid (dframe_any A cap l N e w hcap hlc hR hN he)
  by_cases h0 : e = 0
  · subst h0
    have C2 : Hid (∀ (s v : Int) (w' : World), Below w.heap.size w w' → fitB s = true → allZ l s = v → Calls Try.prog 12 #[.slice A l.length cap, .int .i64 s] w' (RetB (.int .i64 v) w')) := fun s v w' hb hf hv => dall_any A cap l s v w' hcap hlc hf (hR.below hb) hv
    obtain ⟨_, n1, n2, _⟩ := frame_props he
    rw [hN] at n1 n2
    have T : Hid (heldTo l N → g = true) := fun h => by rw [← hg]; exact holdsB_iff.2 ⟨he, by rw [hN]; exact h⟩
    have U : Hid (∀ n : Int, 0 ≤ n → n < N → n + 1 < allZ l (n + 1) → g = false) := fun n k0 k1 k2 => by rw [← hg]; exact holds_no k0 (by rw [hN]; exact k1) k2
    clear hg he hN hR
    generalize l.length = n at *
    go_enter Try.func9, Try.ntmps9
    go_wp2_with fail
    refine C1.out.mono ?_; rintro e' gw ⟨rfl, g0⟩
    have hbg := Lib.hid g0
    clear C1 g0
    go_wp2
    go_loopw [16] (fun st wr => ∃ (i : Int), st = .int .i64 i ∧ 0 ≤ i ∧ i ≤ N ∧ Hid (heldTo l i ∧ Below w.heap.size w wr)) (fun st _ => (N - intOf st).toNat)
    case atStart => exact ⟨0, rfl, by omega, by omega, Lib.hid ⟨fun s k1 k2 => by omega, hbg.out⟩⟩
    case round =>
      obtain ⟨i, rfl, hi0, hiN, K⟩ := hrel
      by_cases hlt : i < N
      · have d1 : decide (i < N) = true := decide_eq_true hlt
        obtain ⟨p, hp⟩ : ∃ p, i + 1 = p := ⟨_, rfl⟩
        have e1 : IntKind.i64.wrap (i + 1) = p := by rw [IntKind.wrap_i64]; omega
        have e2 : wrap64 (i + 1) = p := by unfold wrap64; omega
        obtain ⟨v, hv⟩ : ∃ v, allZ l p = v := ⟨_, rfl⟩
        have C := Lib.hid (C2.out p v wr K.out.2 (fitB_true ⟨by omega, by omega⟩) hv)
        have P : Hid (heldTo l i ∧ allZ l p = v ∧ Below w.heap.size w wr) := ⟨K.out.1, hv, K.out.2⟩
        have hps : 0 ≤ p ∧ p ≤ N := by omega
        have hm : (N - p).toNat < (N - i).toNat := by omega
        have hpp := Lib.hid hp
        clear K hv hp
        by_cases hgt : v > p
        · have d2 : decide (v > p) = true := decide_eq_true hgt
          obtain rfl : g = false := U.out i hi0 hlt (by rw [hpp.out, P.out.2.1]; exact hgt)
          clear hgt
          go_wp2_with fail
          refine C.out.mono ?_; rintro e' hw ⟨rfl, hb⟩
          have b2 := Lib.hid (below_on P.out.2.2 hb)
          clear C hb
          go_wp2
          go_ret2
          exact ⟨rfl, by have s0 := b2.out.size; (try simp only [World.heap_drewN, World.size_alloc] at s0); repeat (first | exact Below.refl _ _ | exact b2.out | refine Below.trans ?_ (Below.mono b2.out (by first | omega | (simp; done) | (simp; omega))) | refine Below.setCell ?_ (by first | omega | (simp; done) | (simp; omega)) _ | refine below_dN ?_ _ | refine Below.drew ?_ | refine Below.alloc ?_ (by first | omega | (simp; done) | (simp; omega)) _)⟩
        · have d2 : decide (v > p) = false := decide_eq_false hgt
          have P2 : Hid (heldTo l p) := by
            show heldTo l p
            rw [← hpp.out]
            refine P.out.1.next ?_
            rw [hpp.out, P.out.2.1]; omega
          clear hgt
          go_wp2_with fail
          refine C.out.mono ?_; rintro e' hw ⟨rfl, hb⟩
          have b2 := Lib.hid (below_on P.out.2.2 hb)
          clear C hb
          go_wp2
          go_roundw
          case rel => exact ⟨p, by first | rfl | (simp; done) | rw [e1] | rw [e2], hps.1, hps.2, Lib.hid ⟨P2.out, b2.out⟩⟩
          case measure => simpa [intOf] using hm
      · have d1 : decide (i < N) = false := decide_eq_false hlt
        obtain rfl : i = N := by omega
        obtain rfl : g = true := T.out K.out.1
        have b2 := Lib.hid K.out.2
        clear K
        go_wp2
        go_ret2
        exact ⟨rfl, by have s0 := b2.out.size; (try simp only [World.heap_drewN, World.size_alloc] at s0); repeat (first | exact Below.refl _ _ | exact b2.out | refine Below.trans ?_ (Below.mono b2.out (by first | omega | (simp; done) | (simp; omega))) | refine Below.setCell ?_ (by first | omega | (simp; done) | (simp; omega)) _ | refine below_dN ?_ _ | refine Below.drew ?_ | refine Below.alloc ?_ (by first | omega | (simp; done) | (simp; omega)) _)⟩
  · obtain rfl : false = g := by rw [← hg]; exact (holds_bad (by rw [he]; exact h0)).symm
    have k : (e != 0) = true := by rw [bne, beq_eq_false_iff_ne.2 h0]; rfl
    clear hg he hN hR h0
    generalize l.length = n at *
    go_enter Try.func9, Try.ntmps9
    go_wp2_with fail
    refine C1.out.mono ?_; rintro e' gw ⟨rfl, g0⟩
    clear C1
    go_wp2
    go_ret2
    exact ⟨rfl, by have s0 := g0.size; (try simp only [World.heap_drewN, World.size_alloc] at s0); repeat (first | exact Below.refl _ _ | exact g0 | refine Below.trans ?_ (Below.mono g0 (by first | omega | (simp; done) | (simp; omega))) | refine Below.setCell ?_ (by first | omega | (simp; done) | (simp; omega)) _ | refine below_dN ?_ _ | refine Below.drew ?_ | refine Below.alloc ?_ (by first | omega | (simp; done) | (simp; omega)) _)⟩
end Go.Proofs.Ytmokbmhobglhfaa
