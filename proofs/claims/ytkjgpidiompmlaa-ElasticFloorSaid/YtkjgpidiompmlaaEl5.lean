/- Package elastic: compress, Press. -/
import Derived.Test.YtkjgpidiompmlaaEl4
namespace Go.Proofs.Ytkjgpidiompmlaa
open Go.RowKit Go.Deep
open Go.Lib hiding intOf
set_option linter.unusedVariables false
set_option linter.unusedSimpArgs false

/-- A block of answers beyond w. -/
structure FBl (w : World) (Y n : Nat) (h : Nat → Bool) (W : World) : Prop where
  y : CelF Y n h W
  wy : w.heap.size ≤ Y
  below : Below w.heap.size w W
theorem FBl.on {w W W' : World} {Y n : Nat} {h : Nat → Bool} (p : FBl w Y n h W) (hb : Below W.heap.size W W') : FBl w Y n h W' := ⟨p.y.on hb, p.wy, below_on p.below hb⟩
theorem FBl.set {w W : World} {Y n : Nat} {h g : Nat → Bool} (p : FBl w Y n h W) {k : Nat} (hk : k < n) {v : Bool} (e : ∀ q, (if q = k then v else h q) = g q) : FBl w Y n g (W.setCell ⟨Y, k, none⟩ (.bool v)) :=
  ⟨(p.y.store hk v).to fun q _ => e q, p.wy, p.below.setCell p.wy _⟩
theorem FBl.to {w W : World} {Y n : Nat} {h g : Nat → Bool} (p : FBl w Y n h W) (e : ∀ q, q < n → h q = g q) : FBl w Y n g W := ⟨p.y.to e, p.wy, p.below⟩
/-- Where none is held any more, what spread laid are the shares. -/
theorem sp_share {room : Int} {l : List Sp} {st : List (Sp × Bool)} (h : PInv room st) (hl : st.map (·.1) = l) (hn : ∀ p ∈ st, p.2 = false → dSt room st * p.1.soft ≤ (p.1.want - p.1.least) * sSt st) (k : Nat) (hk : k < l.length) :
    spA (dSt room st) (sSt st) st k = mapF (shareZ (dSt room st) (sSt st)) l k := by
  obtain ⟨x, hx⟩ : ∃ x, l[k]? = some x := ⟨_, List.getElem?_eq_getElem hk⟩
  obtain ⟨b, hp⟩ := fst_at hl hx
  have hm := List.mem_of_getElem? hp
  rw [spA_of hp, mapF_of hx]
  cases b
  · have h1 := share_free (h.good _ hm) h.pos (Int.le_of_lt h.dpos) (h.free _ hm rfl) (hn _ hm rfl)
    unfold spS
    rw [if_neg (by simp), h1.1]
  · have h1 := share_held h hm rfl
    unfold spS
    rw [if_pos rfl, h1]
    unfold xOf
    rw [if_pos rfl]
/-- What compress returns. -/
def CompA (room : Int) (l : List Sp) (w : World) (en : Ending) (w' : World) : Prop := ∃ X D S, en = .returned (.slice (some ⟨X, 0, none⟩) l.length l.length) ∧ Pressed room l D S ∧ CelZ X l.length (mapF (shareZ D S) l) w' ∧ Below w.heap.size w w'
set_option maxHeartbeats 12800000 in
set_option maxRecDepth 100000 in
theorem ecomp_any (A : Option Addr) (cap : Nat) (l : List Sp) (room : Int) (w : World) (hcap : cap ≤ 9223372036854775807) (hlc : l.length ≤ cap) (h20 : l.length ≤ 20) (hR : RdSp w A l)
    (hg : ∀ s ∈ l, s.good = true) (hr : 0 ≤ room ∧ room ≤ 67108864) (hfl : floorZ l ≤ room) (hw : room < smap Sp.want l) :
    Calls Try.prog 21 #[.slice A l.length cap, .int .i64 room] w (CompA room l w) := by
  obtain ⟨i0, hi0, hz0, hz1, hz2⟩ := info_parts Try.infoB1
  have V0 : Hid (PInv room (st0 l) ∧ (st0 l).map (·.1) = l) := ⟨PInv.start hg hfl hw, start_fst l⟩
  obtain ⟨n, hl⟩ : ∃ n, l.length = n := ⟨_, rfl⟩
  have hmkb : ∀ w', (Instr.makeSlice 51 (.int .i64 (n : Int)) (.int .i64 (n : Int))).run Try.prog w' = .ok (.slice (some ⟨w'.heap.size, 0, none⟩) n n) (w'.alloc (.cells (madeCells #[.bool false] n) 4)) := fun w' => run_make_row' _ _ _ 1 Try.underlying51 Try.infoB1 (by kernel_rfl) .i64 .i64 n (by omega) (by omega) w'
  have At := Lib.hid hR.ats
  have H := Lib.hid (And.intro hl (And.intro hR (And.intro hg hfl)))
  have hpost : Hid (∀ en w', CompA room l w en w' = ∃ X D S, en = .returned (.slice (some ⟨X, 0, none⟩) n n) ∧ Pressed room l D S ∧ CelZ X n (mapF (shareZ D S) l) w' ∧ Below w.heap.size w w') := fun en w' => by rw [← hl]; rfl
  rw [hl] at hlc h20 ⊢
  clear hl hR hg hfl hw
  have K0 : Hid (FBl w w.heap.size n (layH l 0) (w.alloc (.cells (madeCells #[.bool false] n) 4))) := ⟨(CelF.fresh w 4 n).to (fun q _ => by unfold layH; rw [if_neg (by omega)]), Nat.le_refl _, (Below.refl _ _).alloc (Nat.le_refl _) _⟩
  go_enter Try.func21, Try.ntmps21
  go_wp2
  clear hmkb
  generalize w.alloc _ = w2 at K0 ⊢
  generalize hYY : w.heap.size = Y at K0 ⊢
  clear hYY
  go_loopw [14] (fun iv wr => ∃ (i : Nat), iv = .int .i64 (i : Int) ∧ i ≤ n ∧ Hid (FBl w Y n (layH l i) wr)) (fun iv _ => n - (intOf iv).toNat)
  case atStart => exact ⟨0, rfl, by omega, K0⟩
  case round =>
    clear K0
    obtain ⟨i, rfl, hin, K⟩ := hrel
    rcases Nat.lt_or_ge i n with hlt | hge
    · have d1 : decide ((i : Int) < (n : Int)) = true := decide_eq_true (by omega)
      have e1 : IntKind.i64.wrap ((i : Int) + 1) = ((i + 1 : Nat) : Int) := by rw [IntKind.wrap_i64]; omega
      have b1 : (i : Int) < (n : Int) := by omega
      obtain ⟨x, hx⟩ : ∃ x, l[i]? = some x := ⟨_, List.getElem?_eq_getElem (by rw [H.out.1]; exact hlt)⟩
      obtain ⟨B, off, rfl, hBw, hat⟩ := At.out i x hx
      obtain ⟨c0, c1, c2⟩ := hat _ K.out.below
      obtain ⟨b, hb⟩ : ∃ b, decide (x.soft = 0) = b := ⟨_, rfl⟩
      have kb : (x.soft == 0) = b := by rw [← hb]; rfl
      have f1 : ∀ cs, (wr.alloc cs).frozen? ⟨Y, i, none⟩ = false := fun cs => (K.out.on ((Below.refl _ _).alloc (Nat.le_refl _) cs)).y.frz i hlt
      have f2 : ∀ cs, (wr.alloc cs).cell? ⟨Y, i, none⟩ = some (.bool (layH l i i)) := fun cs => (K.out.on ((Below.refl _ _).alloc (Nat.le_refl _) cs)).y.cell i hlt
      have K2 : Hid (∀ W, Below wr.heap.size wr W → FBl w Y n (layH l (i + 1)) (W.setCell ⟨Y, i, none⟩ (.bool b))) := fun W hW => (K.out.on hW).set hlt (layH_next hx hb)
      clear hx hat K hb
      obtain ⟨p, nd, s⟩ := x
      simp only at c0 c1 c2 kb
      go_wp2
      go_roundw
      case rel => exact ⟨i + 1, by first | rfl | simp, by omega, Lib.hid (K2.out _ (by repeat (first | exact Below.refl _ _ | refine Below.setCell ?_ (by first | omega | (simp; done) | (simp; omega)) _ | refine below_dN ?_ _ | refine Below.drew ?_ | refine Below.alloc ?_ (by first | omega | (simp; done) | (simp; omega)) _)))⟩
      case measure => simp [intOf]; omega
    · have d1 : decide ((i : Int) < (n : Int)) = false := decide_eq_false (by omega)
      obtain rfl : i = n := by omega
      have P0 : Hid (FBl w Y i (hA (st0 l)) wr) := K.out.to fun q hq => by unfold layH; rw [if_pos hq]
      clear K hge hin
      go_wp2
      clear d1
      go_loopw [8] (fun sv wx => ∃ (st : List (Sp × Bool)), Hid (PInv room st ∧ st.map (·.1) = l ∧ FBl w Y i (hA st) wx)) (fun sv wx => freeW (.slice (some ⟨Y, 0, none⟩) i i) wx)
      case atStart => exact ⟨st0 l, Lib.hid ⟨V0.out.1, V0.out.2, P0.out⟩⟩
      case round =>
        clear V0 P0
        obtain ⟨st, K⟩ := hrel
        have hlen : st.length = i := by rw [← H.out.1, ← K.out.2.1, List.length_map]
        have C1 := espread_any A cap Y i l st room wr hcap (by rw [H.out.1]; exact hlc) (by rw [H.out.1]; exact h20) (by rw [H.out.1]; exact Nat.le_refl _) (by omega) (H.out.2.1.below K.out.2.2.below) K.out.2.1 K.out.1.good hr K.out.1.pos (Int.le_of_lt K.out.1.dpos) (by rw [H.out.1]; exact K.out.2.2.y)
        rw [H.out.1] at C1
        replace C1 := Lib.hid C1
        go_wp2_with fail
        refine C1.out.mono ?_; rintro e g1 ⟨X, rfl, x1, x2, x3⟩
        clear C1
        have P1 : PBl w X Y i (spA (dSt room st) (sSt st) st) (hA st) g1 := ⟨x2, K.out.2.2.y.on x3, by have := K.out.2.2.y.lt; omega, by have := K.out.2.2.below.size; omega, K.out.2.2.wy, below_on K.out.2.2.below x3⟩
        have C2 := efix_any A cap X Y i i l st (dSt room st) (sSt st) w g1 hcap (by rw [H.out.1]; exact hlc) (by rw [H.out.1]; exact h20) (by rw [H.out.1]; exact Nat.le_refl _) (by omega) (by rw [H.out.1]; exact Nat.le_refl _) (by omega) H.out.2.1 K.out.2.1 K.out.1.good K.out.1.free K.out.1.pos (by rw [H.out.1]; exact P1)
        rw [H.out.1] at C2
        replace C2 := Lib.hid C2
        clear x1 x2 x3 P1
        have hfw : Hid (freeW (.slice (some ⟨Y, 0, none⟩) i i) wr = (freeZ st).toNat) := by
          show _ = _
          rw [K.out.2.2.y.freeW, ← free_count, hlen]
        obtain ⟨m, hm⟩ : ∃ m, st.any (chg (dSt room st) (sSt st)) = m := ⟨_, rfl⟩
        rw [hm] at C2
        go_wp2_with fail
        refine C2.out.mono ?_; rintro e g2 ⟨rfl, P2⟩
        clear C2
        cases m
        · obtain ⟨z1, z2⟩ := none_done hm
          have hdn := K.out.1.done z2
          rw [K.out.2.1] at hdn
          have R : Hid (Pressed room l (dSt room st) (sSt st) ∧ CelZ X i (mapF (shareZ (dSt room st) (sSt st)) l) g2 ∧ Below w.heap.size w g2) := ⟨hdn, P2.x.to fun q hq => sp_share K.out.1 K.out.2.1 z2 q (by rw [H.out.1]; exact hq), P2.below⟩
          clear z1 z2 hdn P2 K hm hlen hfw
          go_wp2
          go_ret
          rw [hpost.out]
          exact ⟨X, _, _, rfl, R.out⟩
        · have hlt := some_less hm
          have hst := K.out.1.step (by rw [K.out.2.1]; exact H.out.2.2.2)
          have hfs := hold_fst (dSt room st) (sSt st) st
          rw [K.out.2.1] at hfs
          have R : Hid (PInv room (st.map (holdNow (dSt room st) (sSt st))) ∧ (st.map (holdNow (dSt room st) (sSt st))).map (·.1) = l ∧ FBl w Y i (hA (st.map (holdNow (dSt room st) (sSt st)))) g2) := ⟨hst, hfs, P2.y, P2.wy, P2.below⟩
          have hnl : (st.map (holdNow (dSt room st) (sSt st))).length = i := by rw [List.length_map, hlen]
          have hm1 : Hid (freeW (.slice (some ⟨Y, 0, none⟩) i i) g2 < (freeZ st).toNat) := by
            show freeW (.slice (some ⟨Y, 0, none⟩) i i) g2 < (freeZ st).toNat
            have hz := freeZ_nonneg (st.map (holdNow (dSt room st) (sSt st)))
            have hc := free_count (st.map (holdNow (dSt room st) (sSt st)))
            rw [hnl] at hc
            rw [P2.y.freeW, hc]
            omega
          generalize st.map (holdNow (dSt room st) (sSt st)) = st' at *
          clear hlt hst hfs hnl P2 K hm hlen
          go_wp2
          go_roundw
          case rel => exact ⟨st', R⟩
          case measure => rw [hfw.out]; exact hm1.out
end Go.Proofs.Ytkjgpidiompmlaa
