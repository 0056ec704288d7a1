/- Package elastic: spread. -/
import Derived.Test.YtkjgpidiompmlaaEl2
import Derived.Test.YtkjgpidiompmlaaElRef3
namespace Go.Proofs.Ytkjgpidiompmlaa
open Go.RowKit Go.Deep
open Go.Lib hiding intOf
set_option linter.unusedVariables false
set_option linter.unusedSimpArgs false

/-- What spread lays. -/
def spS (D S : Int) (p : Sp × Bool) : Int := if p.2 = true then fixS p.1 else p.1.want - upZ (D * p.1.soft) S
def spA (D S : Int) (st : List (Sp × Bool)) (k : Nat) : Int := ((st[k]?).map (spS D S)).getD 0
theorem spA_of {D S : Int} {st : List (Sp × Bool)} {k : Nat} {p : Sp × Bool} (h : st[k]? = some p) : spA D S st k = spS D S p := by unfold spA; rw [h]; rfl
theorem up_room {a c : Int} (ha : 0 ≤ a) (hc : 0 < c) : 0 ≤ upZ a c ∧ upZ a c ≤ a := by
  refine ⟨?_, (up_le_iff hc).2 ?_⟩
  · rcases Int.lt_or_le (upZ a c) 0 with h | h
    · have := (up_le_iff (x := a) (y := -1) hc).1 (by omega)
      omega
    · exact h
  · have := Int.mul_le_mul_of_nonneg_left (show 1 ≤ c by omega) ha
    omega
/-- The first i looked at: those held have their least. -/
def mixW (st : List (Sp × Bool)) (l : List Sp) (i k : Nat) : Int := if k < i then xA st k else mapF Sp.want l k
theorem mixW_next {st : List (Sp × Bool)} {l : List Sp} {i : Nat} {p : Sp × Bool} (h : st[i]? = some p) (hl : l[i]? = some p.1) (hb : p.2 = true) {v : Int} (hv : fixS p.1 = v) (q : Nat) : (if q = i then v else mixW st l i q) = mixW st l (i + 1) q := by
  unfold mixW
  by_cases c : q = i
  · subst c
    rw [if_pos rfl, if_pos (by omega), xA_of h, ← hv]
    unfold xOf; rw [if_pos hb]
  · rw [if_neg c]
    by_cases c2 : q < i
    · rw [if_pos c2, if_pos (by omega)]
    · rw [if_neg c2, if_neg (by omega)]
theorem mixW_same {st : List (Sp × Bool)} {l : List Sp} {i : Nat} {p : Sp × Bool} (h : st[i]? = some p) (hl : l[i]? = some p.1) (hb : p.2 = false) (q : Nat) : mixW st l i q = mixW st l (i + 1) q := by
  unfold mixW
  by_cases c : q = i
  · subst c
    rw [if_neg (by omega), if_pos (by omega), xA_of h, mapF_of hl]
    unfold xOf; rw [hb]; rfl
  · by_cases c2 : q < i
    · rw [if_pos c2, if_pos (by omega)]
    · rw [if_neg c2, if_neg (by omega)]
/-- Then the others. -/
def mixE (D S : Int) (st : List (Sp × Bool)) (i k : Nat) : Int := if k < i then spA D S st k else xA st k
theorem mixE_at {D S : Int} {st : List (Sp × Bool)} {i : Nat} {p : Sp × Bool} (h : st[i]? = some p) : mixE D S st i i = xOf p := by unfold mixE; rw [if_neg (by omega), xA_of h]
theorem mixE_next {D S : Int} {st : List (Sp × Bool)} {i : Nat} {p : Sp × Bool} (h : st[i]? = some p) {v : Int} (hv : spS D S p = v) (q : Nat) : (if q = i then v else mixE D S st i q) = mixE D S st (i + 1) q := by
  unfold mixE
  by_cases c : q = i
  · subst c
    rw [if_pos rfl, if_pos (by omega), spA_of h, hv]
  · rw [if_neg c]
    by_cases c2 : q < i
    · rw [if_pos c2, if_pos (by omega)]
    · rw [if_neg c2, if_neg (by omega)]
theorem mixE_same {D S : Int} {st : List (Sp × Bool)} {i : Nat} {p : Sp × Bool} (h : st[i]? = some p) (hb : p.2 = true) (q : Nat) : mixE D S st i q = mixE D S st (i + 1) q := by
  unfold mixE
  by_cases c : q = i
  · subst c
    rw [if_neg (by omega), if_pos (by omega), xA_of h, spA_of h]
    unfold xOf spS; rw [if_pos hb, if_pos hb]
  · by_cases c2 : q < i
    · rw [if_pos c2, if_pos (by omega)]
    · rw [if_neg c2, if_neg (by omega)]
set_option maxHeartbeats 6400000 in
set_option maxRecDepth 100000 in
theorem espread_any (A : Option Addr) (cap Y c : Nat) (l : List Sp) (st : List (Sp × Bool)) (room : Int) (w : World) (hcap : cap ≤ 9223372036854775807) (hlc : l.length ≤ cap) (h20 : l.length ≤ 20) (hc : l.length ≤ c) (hc2 : c ≤ 9223372036854775807) (hR : RdSp w A l)
    (hst : st.map (·.1) = l) (hg : ∀ p ∈ st, p.1.good = true) (hr : 0 ≤ room ∧ room ≤ 67108864) (hpos : 0 < sSt st) (hd : 0 ≤ dSt room st) (hY : CelF Y l.length (hA st) w) :
    Calls Try.prog 31 #[.slice A l.length cap, .slice (some ⟨Y, 0, none⟩) l.length c, .int .i64 room] w (NewA l.length (spA (dSt room st) (sSt st) st) w) := by
  obtain ⟨D, hD⟩ : ∃ D, dSt room st = D := ⟨_, rfl⟩
  obtain ⟨S, hS⟩ : ∃ S, sSt st = S := ⟨_, rfl⟩
  rw [hD] at hd ⊢
  rw [hS] at hpos ⊢
  have C1 := Lib.hid (ewants_any A cap l w hcap hlc h20 hR)
  obtain ⟨n, hl⟩ : ∃ n, l.length = n := ⟨_, rfl⟩
  have hln : st.length = n := by rw [← hl, ← hst, List.length_map]
  have At := Lib.hid hR.ats
  rw [hl] at C1 hlc h20 hc hY ⊢
  have H := Lib.hid (And.intro hln (And.intro hst (And.intro hg (And.intro hD hS))))
  replace hY := Lib.hid hY
  clear hl hln hR hst hg hD hS
  go_enter Try.func31, Try.ntmps31
  go_wp2_with fail
  refine C1.out.mono ?_; rintro e g1 ⟨X, rfl, x1, x2, x3⟩
  clear C1
  have K0 : Hid (NBl w X n (mixW st l 0) g1) := ⟨x2.to fun q _ => by unfold mixW; rw [if_neg (by omega)], x1, x3⟩
  clear x1 x2 x3
  go_wp2
  go_loopw [8, 20] (fun sv iv wr => ∃ (i : Nat) (s : Int), sv = .int .i64 s ∧ iv = .int .i64 (i : Int) ∧ i ≤ n ∧ Hid (smap sOf (st.take i) = s ∧ NBl w X n (mixW st l i) wr)) (fun _ iv _ => n - (intOf iv).toNat)
  case atStart => exact ⟨0, 0, rfl, rfl, by omega, Lib.hid ⟨by simp [smap], K0.out⟩⟩
  case round =>
    clear K0
    obtain ⟨i, s, rfl, rfl, hin, K⟩ := hrel
    rcases Nat.lt_or_ge i n with hlt | hge
    · have d1 : decide ((i : Int) < (n : Int)) = true := decide_eq_true (by omega)
      have e1 : IntKind.i64.wrap ((i : Int) + 1) = ((i + 1 : Nat) : Int) := by rw [IntKind.wrap_i64]; omega
      have b1 : (i : Int) < (n : Int) := by omega
      obtain ⟨p, hp⟩ : ∃ p, st[i]? = some p := ⟨_, List.getElem?_eq_getElem (by rw [H.out.1]; exact hlt)⟩
      have hx : l[i]? = some p.1 := by rw [← H.out.2.1, List.getElem?_map, hp]; rfl
      obtain ⟨B, off, rfl, hBw, hat⟩ := At.out i p.1 hx
      obtain ⟨c0, c1, c2⟩ := hat _ K.out.2.below
      have hgp := H.out.2.2.1 p (List.mem_of_getElem? hp)
      have hb2 := smapP_bounds (f := sOf) (b := 1000) (l := st.take i) (fun q hq => sOf_bounds (H.out.2.2.1 q (List.mem_of_mem_take hq)))
      rw [List.length_take, K.out.1] at hb2
      have hb4 := sOf_bounds hgp
      have hs1 : sOf p = if p.2 = true then 0 else p.1.soft := rfl
      have hYr : ∀ W, Below wr.heap.size wr W → W.cell? ⟨Y, i, none⟩ = some (.bool p.2) := fun W hW => by
        have := (hY.out.on (below_on K.out.2.below hW)).cell i hlt
        rw [hA_of hp] at this
        exact this
      have fy : ∀ cs, (wr.alloc cs).cell? ⟨Y, i, none⟩ = some (.bool p.2) := fun cs => hYr _ ((Below.refl _ _).alloc (Nat.le_refl _) _)
      cases hb : p.2
      · rw [hb, if_neg (by simp)] at hs1
        rw [hb] at fy
        obtain ⟨s', hs'⟩ : ∃ z, s + p.1.soft = z := ⟨_, rfl⟩
        have w2 : wrap64 (s + p.1.soft) = s' := by unfold wrap64; omega
        have K2 : Hid (∀ W, Below wr.heap.size wr W → smap sOf (st.take (i + 1)) = s' ∧ NBl w X n (mixW st l (i + 1)) W) := fun W hW => ⟨by rw [smap_nextP hp, K.out.1, hs1, hs'], (K.out.2.on hW).to fun q _ => mixW_same hp hx hb q⟩
        clear hp hx hat hgp hb2 hb4 hs1 hs' K hYr hb
        obtain ⟨⟨a, nd, sf⟩, b⟩ := p
        simp only at c0 c1 c2 w2
        go_wp2
        go_roundw
        case rel => exact ⟨i + 1, s', by first | rfl | (simp; done) | rw [w2], by first | rfl | simp, by omega, Lib.hid (K2.out _ (by repeat (first | exact Below.refl _ _ | refine Below.setCell ?_ (by first | omega | (simp; done) | (simp; omega)) _ | refine below_dN ?_ _ | refine Below.drew ?_ | refine Below.alloc ?_ (by first | omega | (simp; done) | (simp; omega)) _)))⟩
        case measure => simp [intOf]; omega
      · rw [hb, if_pos rfl] at hs1
        rw [hb] at fy
        obtain ⟨v, hv⟩ : ∃ v, fixS p.1 = v := ⟨_, rfl⟩
        have C := Lib.hid (elow_any p.1 v · hv)
        have K2 : Hid (∀ W, Below wr.heap.size wr W → W.frozen? ⟨X, i, none⟩ = false ∧ W.cell? ⟨X, i, none⟩ = some (.int .i64 (mixW st l i i)) ∧ smap sOf (st.take (i + 1)) = s ∧ NBl w X n (mixW st l (i + 1)) (W.setCell ⟨X, i, none⟩ (.int .i64 v))) := fun W hW => ⟨(K.out.2.on hW).x.frz i hlt, (K.out.2.on hW).x.cell i hlt, by rw [smap_nextP hp, K.out.1, hs1]; omega, (K.out.2.on hW).set hlt (mixW_next hp hx hb hv)⟩
        clear hp hx hat hgp hb2 hb4 hs1 K hYr hb hv
        obtain ⟨⟨a, nd, sf⟩, b⟩ := p
        simp only at c0 c1 c2 C
        go_wp2_with fail
        refine (C.out _).mono ?_; rintro e hw ⟨rfl, h⟩
        obtain ⟨f1, f2, K3⟩ := K2.out hw (by have s0 := h.size; (try simp only [World.heap_drewN, World.size_alloc] at s0); repeat (first | exact Below.refl _ _ | exact h | refine Below.trans ?_ (Below.mono h (by first | omega | (simp; done) | (simp; omega))) | refine Below.setCell ?_ (by first | omega | (simp; done) | (simp; omega)) _ | refine below_dN ?_ _ | refine Below.drew ?_ | refine Below.alloc ?_ (by first | omega | (simp; done) | (simp; omega)) _))
        replace K3 := Lib.hid K3
        clear C K2 h fy
        go_wp2
        go_roundw
        case rel => exact ⟨i + 1, s, rfl, by first | rfl | simp, by omega, K3⟩
        case measure => simp [intOf]; omega
    · have d1 : decide ((i : Int) < (n : Int)) = false := decide_eq_false (by omega)
      obtain rfl : i = n := by omega
      have hs : s = S := by
        have := K.out.1
        rw [List.take_of_length_le (by rw [H.out.1]; exact Nat.le_refl _)] at this
        rw [← this, ← H.out.2.2.2.2]; rfl
      subst hs
      have P : Hid (NBl w X i (xA st) wr) := K.out.2.to fun q hq => by unfold mixW; rw [if_pos hq]
      have hbx := smapP_bounds (f := xOf) (b := 67108864) (l := st) (fun q hq => xOf_bounds (H.out.2.2.1 q hq))
      have hbs := smapP_bounds (f := sOf) (b := 1000) (l := st) (fun q hq => sOf_bounds (H.out.2.2.1 q hq))
      rw [H.out.1] at hbx hbs
      rw [← sSt_eq, H.out.2.2.2.2] at hbs
      have hDx : smap xOf st = D + room := by have := dSt_eq room st; rw [H.out.2.2.2.1] at this; omega
      have C := Lib.hid (esum_any (some ⟨X, 0, none⟩) i (st.map xOf) (D + room) wr (by rw [List.length_map, H.out.1]; exact h20) (fun x hx => by obtain ⟨q, hq, rfl⟩ := List.mem_map.1 hx; exact xOf_bounds (H.out.2.2.1 q hq))
        (P.out.x.reads (by rw [List.length_map, H.out.1]) fun k hk => by unfold xA; rw [List.getD, List.getElem?_map]) hDx)
      rw [List.length_map, H.out.1] at C
      rw [hDx] at hbx
      have hDb : D ≤ 1342177280 := by omega
      have hSb : s ≤ 20000 := by omega
      have w1 : wrap64 (D + room - room) = D := by unfold wrap64; omega
      clear K hbx hbs hDx d1 hge hin
      go_wp2_with fail
      refine C.out.mono ?_; rintro e w' ⟨rfl, nq, rfl⟩
      clear C
      go_wp2
      clear w1
      go_loopw [45] (fun iv wx => ∃ (k : Nat), iv = .int .i64 (k : Int) ∧ k ≤ i ∧ Hid (NBl w X i (mixE D s st k) wx)) (fun iv _ => i - (intOf iv).toNat)
      case atStart => exact ⟨0, rfl, by omega, Lib.hid ((P.out.on (below_dN (Below.refl _ _) _)).to fun q _ => by unfold mixE; rw [if_neg (by omega)])⟩
      case round =>
        clear P
        obtain ⟨k, rfl, hki, P⟩ := hrel
        rcases Nat.lt_or_ge k i with hlt | hge
        · have d1 : decide ((k : Int) < (i : Int)) = true := decide_eq_true (by omega)
          have e1 : IntKind.i64.wrap ((k : Int) + 1) = ((k + 1 : Nat) : Int) := by rw [IntKind.wrap_i64]; omega
          have b1 : (k : Int) < (i : Int) := by omega
          obtain ⟨p, hp⟩ : ∃ p, st[k]? = some p := ⟨_, List.getElem?_eq_getElem (by rw [H.out.1]; exact hlt)⟩
          have hx : l[k]? = some p.1 := by rw [← H.out.2.1, List.getElem?_map, hp]; rfl
          obtain ⟨B, off, rfl, hBw, hat⟩ := At.out k p.1 hx
          obtain ⟨c0, c1, c2⟩ := hat _ P.out.below
          have hgp := sp_iff.1 (H.out.2.2.1 p (List.mem_of_getElem? hp))
          have hYr : ∀ W, Below wr.heap.size wr W → W.cell? ⟨Y, k, none⟩ = some (.bool p.2) := fun W hW => by
            have := (hY.out.on (below_on P.out.below hW)).cell k hlt
            rw [hA_of hp] at this
            exact this
          have fy : ∀ cs, (wr.alloc cs).cell? ⟨Y, k, none⟩ = some (.bool p.2) := fun cs => hYr _ ((Below.refl _ _).alloc (Nat.le_refl _) _)
          cases hb : p.2
          · rw [hb] at fy
            obtain ⟨u, hu⟩ : ∃ u, upZ (D * p.1.soft) s = u := ⟨_, rfl⟩
            have hm0 : 0 ≤ D * p.1.soft := Int.mul_nonneg hd hgp.2.1
            have hm1 : D * p.1.soft ≤ 1342177280 * 1000 := Int.mul_le_mul hDb hgp.2.2 hgp.2.1 (by omega)
            have hur := up_room (a := D * p.1.soft) (c := s) hm0 hpos
            rw [hu] at hur
            have hok : upOk (D * p.1.soft) s = true := by
              unfold upOk
              rw [decide_eq_true (show 1 ≤ s by omega), hu, fitB_true ⟨by omega, by omega⟩]; rfl
            have C := Lib.hid (up_any D p.1.soft s u true · (fitB_true ⟨by omega, by omega⟩) (fitB_true ⟨by omega, by omega⟩) (fitB_true ⟨by omega, by omega⟩) (by unfold upV; rw [if_pos hok, hu]) hok)
            obtain ⟨z, hz⟩ : ∃ z, p.1.want - u = z := ⟨_, rfl⟩
            have w1 : wrap64 (p.1.want - u) = z := by unfold wrap64; omega
            have hsp : spS D s p = z := by unfold spS; rw [hb, if_neg (by simp), hu, hz]
            have hxo : mixE D s st k k = p.1.want := by rw [mixE_at hp]; unfold xOf; rw [hb]; rfl
            have K2 : Hid (∀ W, Below wr.heap.size wr W → W.frozen? ⟨X, k, none⟩ = false ∧ W.cell? ⟨X, k, none⟩ = some (.int .i64 p.1.want) ∧ NBl w X i (mixE D s st (k + 1)) (W.setCell ⟨X, k, none⟩ (.int .i64 z))) := fun W hW => ⟨(P.out.on hW).x.frz k hlt, by rw [(P.out.on hW).x.cell k hlt, hxo], (P.out.on hW).set hlt (mixE_next hp hsp)⟩
            clear hp hx hat hgp hYr hb hu hm0 hm1 hur hok hz hsp hxo P
            obtain ⟨⟨a, nd, sf⟩, b⟩ := p
            simp only at c0 c1 c2 C w1 K2
            go_wp2_with fail
            refine (C.out _).mono ?_; rintro e w' ⟨rfl, q, rfl⟩
            obtain ⟨f1, f2, K3⟩ := K2.out (World.drewN (wr.alloc (.cells #[.int .i64 a, .int .i64 nd, .int .i64 sf] 28)) q) (by exact by repeat (first | exact Below.refl _ _ | refine Below.setCell ?_ (by first | omega | (simp; done) | (simp; omega)) _ | refine below_dN ?_ _ | refine Below.drew ?_ | refine Below.alloc ?_ (by first | omega | (simp; done) | (simp; omega)) _))
            replace K3 := Lib.hid K3
            clear C K2 fy
            go_wp2
            go_roundw
            case rel => exact ⟨k + 1, by first | rfl | simp, by omega, K3⟩
            case measure => simp [intOf]; omega
          · rw [hb] at fy
            have K2 : Hid (∀ W, Below wr.heap.size wr W → NBl w X i (mixE D s st (k + 1)) W) := fun W hW => (P.out.on hW).to fun q _ => mixE_same hp hb q
            clear hp hx hat hgp hYr hb P
            obtain ⟨⟨a, nd, sf⟩, b⟩ := p
            simp only at c0 c1 c2
            go_wp2
            go_roundw
            case rel => exact ⟨k + 1, by first | rfl | simp, by omega, Lib.hid (K2.out _ (by repeat (first | exact Below.refl _ _ | refine Below.setCell ?_ (by first | omega | (simp; done) | (simp; omega)) _ | refine below_dN ?_ _ | refine Below.drew ?_ | refine Below.alloc ?_ (by first | omega | (simp; done) | (simp; omega)) _)))⟩
            case measure => simp [intOf]; omega
        · have d1 : decide ((k : Int) < (i : Int)) = false := decide_eq_false (by omega)
          obtain rfl : k = i := by omega
          have R : NBl w X k (spA D s st) wr := P.out.to fun q hq => by unfold mixE; rw [if_pos hq]
          clear P
          go_wp2
          go_ret
          exact ⟨X, rfl, R.wx, R.x, R.below⟩
end Go.Proofs.Ytkjgpidiompmlaa
