/- The document's own Cost. -/
import Derived.Test.YtkjgpidiompmlaaElRef1
import Derived.Deep.RegionHeld3
namespace Go.Proofs.Ytkjgpidiompmlaa
open Go.RowKit
open Go.Lib hiding intOf
set_option linter.unusedVariables false
set_option linter.unusedSimpArgs false

theorem Ret.quietE {P : Program} {f : FuncId} {args : Array Value} {w : World} {n : Nat} {v : Value} (h : Calls P f args (w.drewN n) (Ret v (w.drewN n))) :
    Calls P f args (w.drewN n) fun e w'' => e = .returned v ∧ ∃ m, w'' = w.drewN m := Calls.quiet_of h
/-- A spring and a share: may it be? What it costs. -/
def okT (p : Sp × Int) : Bool := decide (p.1.soft = 0) || decide (0 ≤ p.1.want - p.2 ∧ p.1.want - p.2 ≤ 67108864)
def tmZ (p : Sp × Int) : Int := if p.1.soft = 0 then 0 else (p.1.want - p.2) * (p.1.want - p.2) / p.1.soft
def costOk (l : List Sp) (xs : List Int) : Bool := springsB l && (decide (xs.length = l.length) && (l.zip xs).all okT)
def costSum (l : List Sp) (xs : List Int) : Int := smap tmZ (l.zip xs)
def costV (l : List Sp) (xs : List Int) : Int := if costOk l xs then costSum l xs else 0
theorem zip_at {l : List Sp} {xs : List Int} {i : Nat} {s : Sp} {x : Int} (h1 : l[i]? = some s) (h2 : xs[i]? = some x) : (l.zip xs)[i]? = some (s, x) := by
  rw [List.getElem?_zip_eq_some]; exact ⟨h1, h2⟩
theorem okT_next {l : List (Sp × Int)} {i : Nat} {p : Sp × Int} (h : l[i]? = some p) : (l.take (i + 1)).all okT = ((l.take i).all okT && okT p) := by
  rw [List.take_add_one, h]; simp
theorem tm_next {l : List (Sp × Int)} {i : Nat} {p : Sp × Int} (h : l[i]? = some p) : smap tmZ (l.take (i + 1)) = smap tmZ (l.take i) + tmZ p := by
  unfold smap
  rw [List.take_add_one, h, List.map_append, List.sum_append]
  simp
theorem tm_bound {p : Sp × Int} (hg : p.1.good = true) (h : okT p = true) : 0 ≤ tmZ p ∧ tmZ p ≤ 4503599627370496 := by
  obtain ⟨_, s1, s2⟩ := sp_iff.1 hg
  unfold okT at h
  unfold tmZ
  by_cases h0 : p.1.soft = 0
  · rw [if_pos h0]; omega
  · rw [if_neg h0]
    rw [decide_eq_false h0, Bool.false_or, decide_eq_true_eq] at h
    have m0 : 0 ≤ (p.1.want - p.2) * (p.1.want - p.2) := Int.mul_nonneg h.1 h.1
    have m1 : (p.1.want - p.2) * (p.1.want - p.2) ≤ 67108864 * 67108864 := Int.mul_le_mul h.2 h.2 h.1 (by omega)
    have d0 : 0 ≤ (p.1.want - p.2) * (p.1.want - p.2) / p.1.soft := Int.ediv_nonneg m0 (by omega)
    have d1 : (p.1.want - p.2) * (p.1.want - p.2) / p.1.soft ≤ (p.1.want - p.2) * (p.1.want - p.2) := Int.ediv_le_self _ m0
    omega
theorem tm_bounds : ∀ {l : List (Sp × Int)}, (∀ p ∈ l, p.1.good = true) → l.all okT = true → 0 ≤ smap tmZ l ∧ smap tmZ l ≤ 4503599627370496 * (l.length : Int)
  | [], _, _ => by simp [smap]
  | x :: l, h, h2 => by
    rw [List.all_cons, Bool.and_eq_true] at h2
    have h1 := tm_bound (h x (by simp)) h2.1
    have h3 := tm_bounds (l := l) (fun y hy => h y (by simp [hy])) h2.2
    rw [smap_cons, List.length_cons, Int.natCast_add, Int.mul_add]; omega
theorem cost_no {l : List Sp} {xs : List Int} {i : Nat} {p : Sp × Int} (h : (l.zip xs)[i]? = some p) (hn : okT p = false) : costOk l xs = false ∧ costV l xs = 0 := by
  have e : costOk l xs = false := by
    unfold costOk
    have : (l.zip xs).all okT = false := by
      rw [List.all_eq_false]
      exact ⟨p, List.mem_of_getElem? h, by simp [hn]⟩
    rw [this, Bool.and_false, Bool.and_false]
  exact ⟨e, by unfold costV; rw [e]; rfl⟩
set_option maxHeartbeats 6400000 in
set_option maxRecDepth 100000 in
theorem rcost_any (A : Option Addr) (cap : Nat) (l : List Sp) (X : Option Addr) (xc : Nat) (xs : List Int) (v : Int) (o : Bool) (w : World) (hcap : cap ≤ 9223372036854775807) (hlc : l.length ≤ cap) (hR : RdSp w A l) (hxl : xs.length ≤ 9223372036854775807) (hxf : ∀ x ∈ xs, fitB x = true) (hX : ReadsI w X xs) (hv : costV l xs = v) (ho : costOk l xs = o) :
    Calls Try.prog 17 #[.slice A l.length cap, .slice X xs.length xc] w (RetB (.tuple #[.int .i64 v, .bool o]) w) := by
  obtain ⟨q, hq⟩ : ∃ q, springsB l = q := ⟨_, rfl⟩
  have C1 := Lib.hid (rsprings_any A cap l q w hcap hlc hR hq)
  cases q
  · obtain rfl : o = false := by rw [← ho]; unfold costOk; rw [hq]; rfl
    obtain rfl : v = 0 := by rw [← hv]; unfold costV; rw [ho]; rfl
    generalize l.length = n at *
    generalize xs.length = m at *
    clear hR hX hxf hv ho hq
    go_enter Try.func17, Try.ntmps17
    go_wp2_with fail
    refine C1.out.mono ?_; rintro e gw ⟨rfl, g⟩
    clear C1
    go_wp2
    go_ret2
    exact ⟨rfl, by have s0 := g.size; (try simp only [World.heap_drewN, World.size_alloc] at s0); repeat (first | exact Below.refl _ _ | exact g | refine Below.trans ?_ (Below.mono g (by first | omega | (simp; done) | (simp; omega))) | refine Below.setCell ?_ (by first | omega | (simp; done) | (simp; omega)) _ | refine below_dN ?_ _ | refine Below.drew ?_ | refine Below.alloc ?_ (by first | omega | (simp; done) | (simp; omega)) _)⟩
  · obtain ⟨h20, hgood⟩ := springs_iff.1 hq
    obtain ⟨n, hl⟩ : ∃ n, l.length = n := ⟨_, rfl⟩
    obtain ⟨m, hm⟩ : ∃ n, xs.length = n := ⟨_, rfl⟩
    by_cases hmn : m = n
    · subst hmn
      have k1 : ((m : Int) != (m : Int)) = false := by simp
      have H := Lib.hid (And.intro hl (And.intro hm (And.intro hR (And.intro hX (And.intro hgood (And.intro hxf (And.intro hv (And.intro ho hq))))))))
      have hz : Hid ((l.zip xs).length = m) := by show _ = _; rw [List.length_zip, hl, hm, Nat.min_self]
      have Y : Hid ((l.zip xs).all okT = true → o = true ∧ v = costSum l xs) := fun h => by
        have e : costOk l xs = true := by unfold costOk; rw [hq, h, hm, hl, decide_eq_true rfl]; rfl
        exact ⟨by rw [← ho, e], by rw [← hv]; unfold costV; rw [e]; rfl⟩
      rw [hl] at C1 hlc h20 ⊢
      rw [hm]
      clear hl hm hR hX hgood hxf hv ho hq hxl
      go_enter Try.func17, Try.ntmps17
      go_wp2_with fail
      refine C1.out.mono ?_; rintro e gw ⟨rfl, g⟩
      replace g := Lib.hid g
      clear C1
      go_wp2
      clear k1
      go_loopw [6, 7] (fun sv st wr => ∃ (i : Nat) (u : Int), sv = .int .i64 u ∧ st = .int .i64 (i : Int) ∧ i ≤ m ∧ Hid (Below w.heap.size w wr) ∧ Hid (((l.zip xs).take i).all okT = true ∧ smap tmZ ((l.zip xs).take i) = u)) (fun _ st _ => m - (intOf st).toNat)
      case atStart => exact ⟨0, 0, rfl, rfl, by omega, g, Lib.hid ⟨by simp, by simp [smap]⟩⟩
      case round =>
        clear g
        obtain ⟨i, u, rfl, rfl, hin, g, K⟩ := hrel
        rcases Nat.lt_or_ge i m with hlt | hge
        · have d1 : decide ((i : Int) < (m : Int)) = true := decide_eq_true (by omega)
          have e1 : IntKind.i64.wrap ((i : Int) + 1) = ((i + 1 : Nat) : Int) := by rw [IntKind.wrap_i64]; omega
          have b1 : (i : Int) < (m : Int) := by omega
          have b0 : (0 : Int) ≤ (i : Int) := by omega
          obtain ⟨x, hx⟩ : ∃ x, l[i]? = some x := ⟨_, List.getElem?_eq_getElem (by rw [H.out.1]; exact hlt)⟩
          obtain ⟨y, hy⟩ : ∃ y, xs[i]? = some y := ⟨_, List.getElem?_eq_getElem (by rw [H.out.2.1]; exact hlt)⟩
          obtain ⟨B, off, rfl, c0, c1, c2⟩ := (H.out.2.2.1.below g.out) i x hx
          have hrx : ReadsI wr X xs := fun k hk => by
            obtain ⟨b, o', rfl, h⟩ := H.out.2.2.2.1 k hk
            exact ⟨b, o', rfl, by rw [g.out.cell (p := ⟨b, o' + k, none⟩) (cell_lt h)]; exact h⟩
          obtain ⟨B2, off2, rfl, y0⟩ := hrx i (by rw [H.out.2.1]; exact hlt)
          rw [List.getD, hy] at y0
          simp only [Option.getD_some] at y0
          have hfy : fitB y = true := H.out.2.2.2.2.2.1 y (List.mem_of_getElem? hy)
          have hp := zip_at hx hy
          have hgx := H.out.2.2.2.2.1 x (List.mem_of_getElem? hx)
          have hbs := tm_bounds (l := (l.zip xs).take i) (fun p hp => H.out.2.2.2.2.1 p.1 (List.of_mem_zip (List.mem_of_mem_take hp)).1) K.out.1
          rw [K.out.2, List.length_take] at hbs
          have N : Hid (okT (x, y) = false → v = 0 ∧ o = false) := fun h => by
            obtain ⟨z1, z2⟩ := cost_no hp h
            exact ⟨by rw [← H.out.2.2.2.2.2.2.1, z2], by rw [← H.out.2.2.2.2.2.2.2.1, z1]⟩
          have K2 : Hid (okT (x, y) = true → ((l.zip xs).take (i + 1)).all okT = true ∧ smap tmZ ((l.zip xs).take (i + 1)) = u + tmZ (x, y)) := fun h => ⟨by rw [okT_next hp, K.out.1, h]; rfl, by rw [tm_next hp, K.out.2]⟩
          have hok : okT (x, y) = (decide (x.soft = 0) || decide (0 ≤ x.want - y ∧ x.want - y ≤ 67108864)) := rfl
          have htm : tmZ (x, y) = if x.soft = 0 then 0 else (x.want - y) * (x.want - y) / x.soft := rfl
          have htb := fun h => tm_bound (p := (x, y)) hgx h
          obtain ⟨⟨g1, g2, g3⟩, g4, g5⟩ := sp_iff.1 hgx
          clear hx hy hp hgx K hrx
          obtain ⟨a, nd, s⟩ := x
          simp only at c0 c1 c2 hok htm g1 g2 g3 g4 g5
          generalize okT (⟨a, nd, s⟩, y) = ok at *
          generalize tmZ (⟨a, nd, s⟩, y) = tm at *
          by_cases h0 : s = 0
          · have k : (s == 0) = true := beq_iff_eq.2 h0
            rw [decide_eq_true h0, Bool.true_or] at hok
            rw [if_pos h0] at htm
            subst hok
            subst htm
            have K3 := Lib.hid (K2.out rfl)
            rw [Int.add_zero] at K3
            clear K2 N htb h0 hfy hbs
            go_wp2
            go_roundw
            case rel => exact ⟨i + 1, u, rfl, by first | rfl | simp, by omega, g, K3⟩
            case measure => simp [intOf]; omega
          · have k : (s == 0) = false := beq_eq_false_iff_ne.2 h0
            have kz : ¬ s = 0 := h0
            rw [decide_eq_false h0, Bool.false_or] at hok
            rw [if_neg h0] at htm
            obtain ⟨f, hf⟩ : ∃ f, fitB (a - y) = f := ⟨_, rfl⟩
            have ha : fitB a = true := fitB_true ⟨by omega, by omega⟩
            obtain ⟨z, hz⟩ : ∃ z, cutZ (a - y) = z := ⟨_, rfl⟩
            have C := Lib.hid (rsub_any a y z f · ha hfy hz hf)
            have hcut : f = true → z = a - y := fun h => by rw [← hz]; exact cutZ_true (hf.trans h)
            have hfn : f = false → ¬ (0 ≤ a - y ∧ a - y ≤ 67108864) := fun h c => by
              rw [fitB_true ⟨by omega, by omega⟩] at hf
              rw [h] at hf
              cases hf
            clear hf ha hz h0
            by_cases hr : f = true ∧ 0 ≤ z ∧ z ≤ 67108864
            · obtain ⟨rfl, r0, r1⟩ := hr
              have hza := hcut rfl
              rw [← hza] at hok htm
              obtain rfl : ok = true := by rw [hok]; exact decide_eq_true ⟨r0, r1⟩
              have t1 : decide (z < 0) = false := decide_eq_false (by omega)
              have t2 : decide (z > 67108864) = false := decide_eq_false (by omega)
              have hb2 := htb rfl
              have m0 : 0 ≤ z * z := Int.mul_nonneg r0 r0
              have m1 : z * z ≤ 67108864 * 67108864 := Int.mul_le_mul r1 r1 r0 (by omega)
              obtain ⟨zz, hzz⟩ : ∃ q, z * z = q := ⟨_, rfl⟩
              rw [hzz] at htm m0 m1
              have w1 : wrap64 (z * z) = zz := by rw [hzz]; unfold wrap64; omega
              have w2 : wrap64 (zz.tdiv s) = tm := by rw [htm, ← IntWalk.i64_left]; exact IntWalk.i64_quo zz s ⟨by omega, by omega, by omega⟩
              obtain ⟨u2, hu2⟩ : ∃ q, u + tm = q := ⟨_, rfl⟩
              have w3 : wrap64 (u + tm) = u2 := by unfold wrap64; omega
              have K3 := Lib.hid (K2.out rfl)
              rw [hu2] at K3
              clear N hok htm hcut hfn hza r0 r1 hb2 m0 m1 hzz hu2 htb K2 hbs g1 g2 g3 g4 g5 hfy
              go_wp2
              go_quiet (first | (go_at_call 29; refine Ret.quietE (C.out _)))
              go_wp2
              go_roundw
              case rel => exact ⟨i + 1, u2, by first | rfl | (simp; done) | rw [w3], by first | rfl | simp, by omega, below_dN g.out _, K3⟩
              case measure => simp [intOf]; omega
            · have hno : ¬ (0 ≤ a - y ∧ a - y ≤ 67108864) := by
                cases f
                · exact hfn rfl
                · rw [← hcut rfl]
                  exact fun c => hr ⟨rfl, c⟩
              obtain rfl : ok = false := by rw [hok]; exact decide_eq_false hno
              obtain ⟨rfl, rfl⟩ := N.out rfl
              have hcs : f = false ∨ f = true ∧ decide (z < 0) = true ∨ f = true ∧ decide (z < 0) = false ∧ decide (z > 67108864) = true := by
                cases f
                · exact .inl rfl
                · right
                  by_cases c : z < 0
                  · exact .inl ⟨rfl, decide_eq_true c⟩
                  · exact .inr ⟨rfl, decide_eq_false c, decide_eq_true (by rcases Int.lt_or_le 67108864 z with h | h; exact h; exact absurd ⟨rfl, by omega, h⟩ hr)⟩
              have gb := g
              clear N hok htm hcut hfn hno hr htb K2 hbs g1 g2 g3 g4 g5 hfy
              rcases hcs with rfl | ⟨rfl, t1⟩ | ⟨rfl, t1, t2⟩
              all_goals
                go_wp2
                go_quiet (first | (go_at_call 29; refine Ret.quietE (C.out _)))
                go_wp2
                go_ret2
                exact ⟨rfl, below_dN gb.out _⟩
        · have d1 : decide ((i : Int) < (m : Int)) = false := decide_eq_false (by omega)
          have hall := K.out
          rw [List.take_of_length_le (by rw [hz.out]; exact hge)] at hall
          obtain ⟨z1, z2⟩ := Y.out hall.1
          obtain rfl : o = true := z1
          obtain rfl : v = u := by rw [z2]; exact hall.2
          have gb := g
          clear K hall z2
          go_wp2
          go_ret2
          exact ⟨rfl, by have s0 := gb.out.size; (try simp only [World.heap_drewN, World.size_alloc] at s0); repeat (first | exact Below.refl _ _ | exact gb.out | refine Below.trans ?_ (Below.mono gb.out (by first | omega | (simp; done) | (simp; omega))) | refine Below.setCell ?_ (by first | omega | (simp; done) | (simp; omega)) _ | refine below_dN ?_ _ | refine Below.drew ?_ | refine Below.alloc ?_ (by first | omega | (simp; done) | (simp; omega)) _)⟩
    · have k1 : ((m : Int) != (n : Int)) = true := by rw [bne_iff_ne]; omega
      obtain rfl : o = false := by rw [← ho]; unfold costOk; rw [hm, hl, decide_eq_false hmn]; simp
      obtain rfl : v = 0 := by rw [← hv]; unfold costV; rw [ho]; rfl
      rw [hl] at C1 hlc ⊢
      rw [hm]
      clear hR hX hxf hv ho hq hl hm hmn
      go_enter Try.func17, Try.ntmps17
      go_wp2_with fail
      refine C1.out.mono ?_; rintro e gw ⟨rfl, g⟩
      clear C1
      go_wp2
      go_ret2
      exact ⟨rfl, by have s0 := g.size; (try simp only [World.heap_drewN, World.size_alloc] at s0); repeat (first | exact Below.refl _ _ | exact g | refine Below.trans ?_ (Below.mono g (by first | omega | (simp; done) | (simp; omega))) | refine Below.setCell ?_ (by first | omega | (simp; done) | (simp; omega)) _ | refine below_dN ?_ _ | refine Below.drew ?_ | refine Below.alloc ?_ (by first | omega | (simp; done) | (simp; omega)) _)⟩
end Go.Proofs.Ytkjgpidiompmlaa
