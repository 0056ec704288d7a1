/- Package elastic: Floor, cost, Cost. -/
import Derived.Test.YtkjgpidiompmlaaEl1
import Derived.Test.YtkjgpidiompmlaaElRef2
import Derived.Deep.RegionHeld3
namespace Go.Proofs.Ytkjgpidiompmlaa
open Go.RowKit
open Go.Lib hiding intOf
set_option linter.unusedVariables false
set_option linter.unusedSimpArgs false

theorem smap_sum (f : Sp → Int) (l : List Sp) : (l.map f).sum = smap f l := rfl
/-- The sum of a block of numbers that come of the springs. -/
theorem CelZ.readsF {X n : Nat} {f : Sp → Int} {l : List Sp} {w : World} (h : CelZ X n (mapF f l) w) (hn : l.length = n) : ReadsI w (some ⟨X, 0, none⟩) (l.map f) :=
  h.reads (by rw [List.length_map, hn]) fun k _ => (mapF_getD f l k).symm
theorem esumF_any (f : Sp → Int) (X n c : Nat) (l : List Sp) (w : World) (hn : l.length = n) (h20 : n ≤ 20) (hb : ∀ x ∈ l, 0 ≤ f x ∧ f x ≤ 67108864) (hr : CelZ X n (mapF f l) w) :
    Calls Try.prog 20 #[.slice (some ⟨X, 0, none⟩) n c] w (Ret (.int .i64 (smap f l)) w) := by
  have := esum_any (some ⟨X, 0, none⟩) c (l.map f) _ w (by rw [List.length_map]; omega) (fun x hx => by obtain ⟨s, hs, rfl⟩ := List.mem_map.1 hx; exact hb s hs) (hr.readsF hn) (smap_sum f l)
  rw [List.length_map, hn] at this
  exact this
set_option maxHeartbeats 3200000 in
set_option maxRecDepth 100000 in
theorem efloor_any (A : Option Addr) (cap : Nat) (l : List Sp) (v : Int) (o : Bool) (w : World) (hcap : cap ≤ 9223372036854775807) (hlc : l.length ≤ cap) (hR : RdSp w A l) (hv : floorV l = v) (ho : floorOk l = o) :
    Calls Try.prog 12 #[.slice A l.length cap] w (RetB (.tuple #[.int .i64 v, .bool o]) w) := by
  have C1 := Lib.hid (elegal_any A cap l o w hcap hlc hR ho)
  unfold floorOk at ho
  unfold floorV at hv
  rw [ho] at hv
  cases o
  · obtain rfl : v = 0 := hv.symm
    generalize l.length = n at *
    clear hR hv ho
    go_enter Try.func12, Try.ntmps12
    go_wp2_with fail
    refine C1.out.mono ?_; rintro e gw ⟨rfl, g⟩
    clear C1
    go_wp2
    go_ret2
    exact ⟨rfl, by have s0 := g.size; (try simp only [World.heap_drewN, World.size_alloc] at s0); repeat (first | exact Below.refl _ _ | exact g | refine Below.trans ?_ (Below.mono g (by first | omega | (simp; done) | (simp; omega))) | refine Below.setCell ?_ (by first | omega | (simp; done) | (simp; omega)) _ | refine below_dN ?_ _ | refine Below.drew ?_ | refine Below.alloc ?_ (by first | omega | (simp; done) | (simp; omega)) _)⟩
  · obtain ⟨h20, hgood⟩ := springs_iff.1 ho
    replace hv : smap fixS l = v := hv
    obtain ⟨n, hl⟩ : ∃ n, l.length = n := ⟨_, rfl⟩
    have At := Lib.hid hR.ats
    have H := Lib.hid (And.intro hl (And.intro hgood hv))
    rw [hl] at C1 hlc h20 ⊢
    clear hl hR hgood hv ho
    have hmk : ∀ w', (Instr.makeSlice 23 (.int .i64 (n : Int)) (.int .i64 (n : Int))).run Try.prog w' = .ok (.slice (some ⟨w'.heap.size, 0, none⟩) n n) (w'.alloc (.cells (madeCells #[.int .i64 0] n) 2)) := fun w' => run_make_row' _ _ _ 8 Try.underlying23 Try.infoN64 (by kernel_rfl) .i64 .i64 n (by omega) (by omega) w'
    go_enter Try.func12, Try.ntmps12
    go_wp2_with fail
    refine C1.out.mono ?_; rintro e gw ⟨rfl, g⟩
    clear C1
    have K0 : Hid (NBl w gw.heap.size n (laidF (mapF fixS l) 0) (gw.alloc (.cells (madeCells #[.int .i64 0] n) 2))) := NBl.laid _ w gw _ n g
    clear g
    go_wp2
    clear hmk
    generalize gw.alloc _ = w2 at K0 ⊢
    generalize gw.heap.size = X at K0 ⊢
    go_loopw [15] (fun st wr => ∃ (i : Nat), st = .int .i64 (i : Int) ∧ i ≤ n ∧ Hid (NBl w X n (laidF (mapF fixS l) i) wr)) (fun st _ => n - (intOf st).toNat)
    case atStart => exact ⟨0, rfl, by omega, K0⟩
    case round =>
      clear K0
      obtain ⟨i, rfl, hin, K⟩ := hrel
      rcases Nat.lt_or_ge i n with hlt | hge
      · have d1 : decide ((i : Int) < (n : Int)) = true := decide_eq_true (by omega)
        have e1 : IntKind.i64.wrap ((i : Int) + 1) = ((i + 1 : Nat) : Int) := by rw [IntKind.wrap_i64]; omega
        have b1 : (i : Int) < (n : Int) := by omega
        obtain ⟨x, hx⟩ : ∃ x, l[i]? = some x := ⟨_, List.getElem?_eq_getElem (by rw [H.out.1]; exact hlt)⟩
        obtain ⟨B, off, rfl, hBw, hat⟩ := At.out i x hx
        obtain ⟨c0, c1, c2⟩ := hat _ K.out.below
        obtain ⟨v, hv⟩ : ∃ v, fixS x = v := ⟨_, rfl⟩
        have C := Lib.hid (elow_any x v · hv)
        have K2 : Hid (∀ W, Below wr.heap.size wr W → W.frozen? ⟨X, i, none⟩ = false ∧ W.cell? ⟨X, i, none⟩ = some (.int .i64 (laidF (mapF fixS l) i i)) ∧ NBl w X n (laidF (mapF fixS l) (i + 1)) (W.setCell ⟨X, i, none⟩ (.int .i64 v))) := fun W hW => ⟨(K.out.on hW).x.frz i hlt, (K.out.on hW).x.cell i hlt, (K.out.on hW).set hlt (laidF_next _ _ (by rw [mapF_of hx, hv]))⟩
        clear hx hat K hv
        obtain ⟨p, nd, s⟩ := x
        simp only at c0 c1 c2 C
        go_wp2_with fail
        refine (C.out _).mono ?_; rintro e hw ⟨rfl, h⟩
        obtain ⟨f1, f2, K3⟩ := K2.out hw (by have s0 := h.size; (try simp only [World.heap_drewN, World.size_alloc] at s0); repeat (first | exact Below.refl _ _ | exact h | refine Below.trans ?_ (Below.mono h (by first | omega | (simp; done) | (simp; omega))) | refine Below.setCell ?_ (by first | omega | (simp; done) | (simp; omega)) _ | refine below_dN ?_ _ | refine Below.drew ?_ | refine Below.alloc ?_ (by first | omega | (simp; done) | (simp; omega)) _))
        replace K3 := Lib.hid K3
        clear C K2 h
        go_wp2
        go_roundw
        case rel => exact ⟨i + 1, by first | rfl | simp, by omega, K3⟩
        case measure => simp [intOf]; omega
      · have d1 : decide ((i : Int) < (n : Int)) = false := decide_eq_false (by omega)
        obtain rfl : i = n := by omega
        have C := Lib.hid (esumF_any fixS X i i l wr H.out.1 h20 (fun s hs => fix_bounds (H.out.2.1 s hs)) K.out.done.x)
        rw [H.out.2.2] at C
        have hb := Lib.hid K.out.below
        clear K
        go_wp2_with fail
        refine C.out.mono ?_; rintro e w' ⟨rfl, q, rfl⟩
        clear C
        go_wp2
        go_ret2
        exact ⟨rfl, below_dN hb.out _⟩
set_option maxHeartbeats 3200000 in
theorem ecost1_any (x : Sp) (y v : Int) (o : Bool) (w : World) (hg : x.good = true) (h0 : x.soft ≠ 0) (hy : fitB y = true) (ho : okT (x, y) = o) (hv : (if o = true then tmZ (x, y) else 0) = v) :
    Calls Try.prog 23 #[.agg #[.int .i64 x.want, .int .i64 x.least, .int .i64 x.soft], .int .i64 y] w (RetB (.tuple #[.int .i64 v, .bool o]) w) := by
  have hok : okT (x, y) = (decide (x.soft = 0) || decide (0 ≤ x.want - y ∧ x.want - y ≤ 67108864)) := rfl
  have htm : tmZ (x, y) = if x.soft = 0 then 0 else (x.want - y) * (x.want - y) / x.soft := rfl
  obtain ⟨⟨g1, g2, g3⟩, g4, g5⟩ := sp_iff.1 hg
  rw [decide_eq_false h0, Bool.false_or, ho] at hok
  rw [if_neg h0] at htm
  rw [htm] at hv
  obtain ⟨a, nd, s⟩ := x
  simp only at hok hv g1 g2 g3 g4 g5 h0 ⊢
  clear ho htm
  have kz : ¬ s = 0 := h0
  have k : (s == 0) = false := beq_eq_false_iff_ne.2 h0
  obtain ⟨f, hf⟩ : ∃ f, fitB (a - y) = f := ⟨_, rfl⟩
  obtain ⟨z, hz⟩ : ∃ z, cutZ (a - y) = z := ⟨_, rfl⟩
  have C := Lib.hid (fun w' => by have := sub_any a y w' (fitB_true ⟨by omega, by omega⟩) hy; rw [hf, hz] at this; exact this)
  have hcut : f = true → z = a - y := fun h => by rw [← hz]; exact cutZ_true (hf.trans h)
  cases f
  · have hno : ¬ (0 ≤ a - y ∧ a - y ≤ 67108864) := fun c => by rw [fitB_true ⟨by omega, by omega⟩] at hf; cases hf
    obtain rfl : o = false := by rw [hok]; exact decide_eq_false hno
    rw [if_neg (by simp)] at hv
    subst hv
    clear hf hz hcut hok hno hg hy g1 g2 g3 g4 g5 kz k h0
    go_enter Try.func23, Try.ntmps23
    go_wp2_with fail
    refine (C.out _).mono ?_; rintro e w' ⟨rfl, n1, rfl⟩
    go_wp2
    go_ret2
    exact ⟨rfl, by repeat (first | exact Below.refl _ _ | refine Below.setCell ?_ (by first | omega | (simp; done) | (simp; omega)) _ | refine below_dN ?_ _ | refine Below.drew ?_ | refine Below.alloc ?_ (by first | omega | (simp; done) | (simp; omega)) _)⟩
  · have hza := hcut rfl
    rw [← hza] at hok hv
    clear hcut hf hz hza hg hy
    obtain ⟨q, hq⟩ : ∃ q, (decide (0 ≤ z) && decide (z ≤ 67108864)) = q := ⟨_, rfl⟩
    have C2 := Lib.hid (ewithin_any z 0 67108864 q · hq)
    obtain rfl : o = q := by rw [hok, ← hq, Bool.eq_iff_iff, Bool.and_eq_true, decide_eq_true_eq, decide_eq_true_eq, decide_eq_true_eq]
    cases o
    · rw [if_neg (by simp)] at hv
      subst hv
      clear hok hq g1 g2 g3 g4 g5 kz k h0
      go_enter Try.func23, Try.ntmps23
      go_wp2_with fail
      refine (C.out _).mono ?_; rintro e w' ⟨rfl, n2, rfl⟩
      go_wp2_with fail
      refine (C2.out _).mono ?_; rintro e w' ⟨rfl, n3, rfl⟩
      go_wp2
      go_ret2
      exact ⟨rfl, by repeat (first | exact Below.refl _ _ | refine Below.setCell ?_ (by first | omega | (simp; done) | (simp; omega)) _ | refine below_dN ?_ _ | refine Below.drew ?_ | refine Below.alloc ?_ (by first | omega | (simp; done) | (simp; omega)) _)⟩
    · rw [if_pos rfl] at hv
      have hr := of_decide_eq_true hok.symm
      have m0 : 0 ≤ z * z := Int.mul_nonneg hr.1 hr.1
      have m1 : z * z ≤ 67108864 * 67108864 := Int.mul_le_mul hr.2 hr.2 hr.1 (by omega)
      obtain ⟨zz, hzz⟩ : ∃ q, z * z = q := ⟨_, rfl⟩
      rw [hzz] at hv m0 m1
      have w1 : wrap64 (z * z) = zz := by rw [hzz]; unfold wrap64; omega
      have w2 : wrap64 (zz.tdiv s) = v := by rw [← hv, ← IntWalk.i64_left]; exact IntWalk.i64_quo zz s ⟨by omega, by omega, by omega⟩
      clear hok hq g1 g2 g3 g4 g5 h0 hr m0 m1 hzz hv
      go_enter Try.func23, Try.ntmps23
      go_wp2_with fail
      refine (C.out _).mono ?_; rintro e w' ⟨rfl, n4, rfl⟩
      go_wp2_with fail
      refine (C2.out _).mono ?_; rintro e w' ⟨rfl, n5, rfl⟩
      go_wp2
      go_ret2
      subst w2
      exact ⟨rfl, by repeat (first | exact Below.refl _ _ | refine Below.setCell ?_ (by first | omega | (simp; done) | (simp; omega)) _ | refine below_dN ?_ _ | refine Below.drew ?_ | refine Below.alloc ?_ (by first | omega | (simp; done) | (simp; omega)) _)⟩
set_option maxHeartbeats 6400000 in
set_option maxRecDepth 100000 in
theorem ecost_any (A : Option Addr) (cap : Nat) (l : List Sp) (X : Option Addr) (xc : Nat) (xs : List Int) (v : Int) (o : Bool) (w : World) (hcap : cap ≤ 9223372036854775807) (hlc : l.length ≤ cap) (hR : RdSp w A l) (hxl : xs.length ≤ 9223372036854775807) (hxf : ∀ x ∈ xs, fitB x = true) (hX : ReadsI w X xs) (hv : costV l xs = v) (ho : costOk l xs = o) :
    Calls Try.prog 11 #[.slice A l.length cap, .slice X xs.length xc] w (RetB (.tuple #[.int .i64 v, .bool o]) w) := by
  obtain ⟨q, hq⟩ : ∃ q, springsB l = q := ⟨_, rfl⟩
  have C1 := Lib.hid (elegal_any A cap l q w hcap hlc hR hq)
  cases q
  · obtain rfl : o = false := by rw [← ho]; unfold costOk; rw [hq]; rfl
    obtain rfl : v = 0 := by rw [← hv]; unfold costV; rw [ho]; rfl
    generalize l.length = n at *
    generalize xs.length = m at *
    clear hR hX hxf hv ho hq
    go_enter Try.func11, Try.ntmps11
    go_wp2_with fail
    refine C1.out.mono ?_; rintro e gw ⟨rfl, g⟩
    clear C1
    go_wp2
    go_ret2
    exact ⟨rfl, by have s0 := g.size; (try simp only [World.heap_drewN, World.size_alloc] at s0); repeat (first | exact Below.refl _ _ | exact g | refine Below.trans ?_ (Below.mono g (by first | omega | (simp; done) | (simp; omega))) | refine Below.setCell ?_ (by first | omega | (simp; done) | (simp; omega)) _ | refine below_dN ?_ _ | refine Below.drew ?_ | refine Below.alloc ?_ (by first | omega | (simp; done) | (simp; omega)) _)⟩
  · obtain ⟨h20, hgood⟩ := springs_iff.1 hq
    obtain ⟨n, hl⟩ : ∃ n, l.length = n := ⟨_, rfl⟩
    obtain ⟨m, hm⟩ : ∃ n, xs.length = n := ⟨_, rfl⟩
    by_cases hmn : m = n
    · subst hmn
      have k1 : ((m : Int) != (m : Int)) = false := by simp
      have H := Lib.hid (And.intro hl (And.intro hm (And.intro hR (And.intro hX (And.intro hgood (And.intro hxf (And.intro hv (And.intro ho hq))))))))
      have hz : Hid ((l.zip xs).length = m) := by show _ = _; rw [List.length_zip, hl, hm, Nat.min_self]
      have Y : Hid ((l.zip xs).all okT = true → o = true ∧ v = costSum l xs) := fun h => by
        have e : costOk l xs = true := by unfold costOk; rw [hq, h, hm, hl, decide_eq_true rfl]; rfl
        exact ⟨by rw [← ho, e], by rw [← hv]; unfold costV; rw [e]; rfl⟩
      rw [hl] at C1 hlc h20 ⊢
      rw [hm]
      clear hl hm hR hX hgood hxf hv ho hq hxl
      go_enter Try.func11, Try.ntmps11
      go_wp2_with fail
      refine C1.out.mono ?_; rintro e gw ⟨rfl, g⟩
      replace g := Lib.hid g
      clear C1
      go_wp2
      clear k1
      go_loopw [6, 23] (fun sv st wr => ∃ (i : Nat) (u : Int), sv = .int .i64 u ∧ st = .int .i64 (i : Int) ∧ i ≤ m ∧ Hid (Below w.heap.size w wr) ∧ Hid (((l.zip xs).take i).all okT = true ∧ smap tmZ ((l.zip xs).take i) = u)) (fun _ st _ => m - (intOf st).toNat)
      case atStart => exact ⟨0, 0, rfl, rfl, by omega, g, Lib.hid ⟨by simp, by simp [smap]⟩⟩
      case round =>
        clear g
        obtain ⟨i, u, rfl, rfl, hin, g, K⟩ := hrel
        rcases Nat.lt_or_ge i m with hlt | hge
        · have d1 : decide ((i : Int) < (m : Int)) = true := decide_eq_true (by omega)
          have e1 : IntKind.i64.wrap ((i : Int) + 1) = ((i + 1 : Nat) : Int) := by rw [IntKind.wrap_i64]; omega
          have b1 : (i : Int) < (m : Int) := by omega
          have b0 : (0 : Int) ≤ (i : Int) := by omega
          obtain ⟨x, hx⟩ : ∃ x, l[i]? = some x := ⟨_, List.getElem?_eq_getElem (by rw [H.out.1]; exact hlt)⟩
          obtain ⟨y, hy⟩ : ∃ y, xs[i]? = some y := ⟨_, List.getElem?_eq_getElem (by rw [H.out.2.1]; exact hlt)⟩
          obtain ⟨B, off, rfl, c0, c1, c2⟩ := (H.out.2.2.1.below g.out) i x hx
          have hrx : ReadsI wr X xs := fun k hk => by
            obtain ⟨b, o', rfl, h⟩ := H.out.2.2.2.1 k hk
            exact ⟨b, o', rfl, by rw [g.out.cell (p := ⟨b, o' + k, none⟩) (cell_lt h)]; exact h⟩
          obtain ⟨B2, off2, rfl, y0⟩ := hrx i (by rw [H.out.2.1]; exact hlt)
          rw [List.getD, hy] at y0
          simp only [Option.getD_some] at y0
          have hfy : fitB y = true := H.out.2.2.2.2.2.1 y (List.mem_of_getElem? hy)
          have hp := zip_at hx hy
          have hgx := H.out.2.2.2.2.1 x (List.mem_of_getElem? hx)
          have hbs := tm_bounds (l := (l.zip xs).take i) (fun p hp => H.out.2.2.2.2.1 p.1 (List.of_mem_zip (List.mem_of_mem_take hp)).1) K.out.1
          rw [K.out.2, List.length_take] at hbs
          have N : Hid (okT (x, y) = false → v = 0 ∧ o = false) := fun h => by
            obtain ⟨z1, z2⟩ := cost_no hp h
            exact ⟨by rw [← H.out.2.2.2.2.2.2.1, z2], by rw [← H.out.2.2.2.2.2.2.2.1, z1]⟩
          have K2 : Hid (okT (x, y) = true → ((l.zip xs).take (i + 1)).all okT = true ∧ smap tmZ ((l.zip xs).take (i + 1)) = u + tmZ (x, y)) := fun h => ⟨by rw [okT_next hp, K.out.1, h]; rfl, by rw [tm_next hp, K.out.2]⟩
          have htb := fun h => tm_bound (p := (x, y)) hgx h
          obtain ⟨ok, hok⟩ : ∃ ok, okT (x, y) = ok := ⟨_, rfl⟩
          by_cases h0 : x.soft = 0
          · have k : (x.soft == 0) = true := beq_iff_eq.2 h0
            have e2 : okT (x, y) = true := by show (decide (x.soft = 0) || _) = true; rw [decide_eq_true h0]; rfl
            have e3 : tmZ (x, y) = 0 := by show (if x.soft = 0 then 0 else _) = 0; rw [if_pos h0]
            have K3 := Lib.hid (K2.out e2)
            rw [e3, Int.add_zero] at K3
            clear K2 N htb hfy hbs hok e2 e3 hx hy hp hgx K hrx y0 h0
            obtain ⟨a, nd, s⟩ := x
            simp only at c0 c1 c2 k
            go_wp2
            go_roundw
            case rel => exact ⟨i + 1, u, rfl, by first | rfl | simp, by omega, Lib.hid (by have hb := g.out; exact by have s0 := hb.size; (try simp only [World.heap_drewN, World.size_alloc] at s0); repeat (first | exact Below.refl _ _ | exact hb | refine Below.trans ?_ (Below.mono hb (by first | omega | (simp; done) | (simp; omega))) | refine Below.setCell ?_ (by first | omega | (simp; done) | (simp; omega)) _ | refine below_dN ?_ _ | refine Below.drew ?_ | refine Below.alloc ?_ (by first | omega | (simp; done) | (simp; omega)) _)), K3⟩
            case measure => simp [intOf]; omega
          · have k : (x.soft == 0) = false := beq_eq_false_iff_ne.2 h0
            obtain ⟨t, ht⟩ : ∃ t, (if ok = true then tmZ (x, y) else 0) = t := ⟨_, rfl⟩
            have C := Lib.hid (ecost1_any x y t ok · hgx h0 hfy hok ht)
            have hb1 : Hid (ok = true → tmZ (x, y) = t) := fun h => by rw [if_pos h] at ht; exact ht
            rw [hok] at K2 N htb
            clear hx hy hp hgx K hrx hfy h0 hok ht
            generalize tmZ (x, y) = tm at *
            have bx : ∀ cs, Below wr.heap.size wr (wr.alloc cs) := fun cs => (Below.refl _ _).alloc (Nat.le_refl _) _
            have y1 : ∀ cs, (wr.alloc cs).cell? ⟨B2, off2 + i, none⟩ = some (.int .i64 y) := fun cs => by rw [(bx cs).cell (p := ⟨B2, off2 + i, none⟩) (cell_lt y0)]; exact y0
            obtain ⟨a, nd, s⟩ := x
            simp only at c0 c1 c2 C k
            go_wp2
            have y2 := y1 (.cells #[.int .i64 a, .int .i64 nd, .int .i64 s] 28)
            have hwl : Hid (wr.heap.size < (wr.alloc (.cells #[.int .i64 a, .int .i64 nd, .int .i64 s] 28)).heap.size ∧ B2 < wr.heap.size) := ⟨by simp, cell_lt y0⟩
            have cc : (wr.alloc (.cells #[.int .i64 a, .int .i64 nd, .int .i64 s] 28)).drew.cell? ⟨wr.heap.size, 0, none⟩ = some (.int .i64 a) ∧ (wr.alloc (.cells #[.int .i64 a, .int .i64 nd, .int .i64 s] 28)).drew.cell? ⟨wr.heap.size, 1, none⟩ = some (.int .i64 nd) ∧ (wr.alloc (.cells #[.int .i64 a, .int .i64 nd, .int .i64 s] 28)).drew.cell? ⟨wr.heap.size, 2, none⟩ = some (.int .i64 s) ∧ (wr.alloc (.cells #[.int .i64 a, .int .i64 nd, .int .i64 s] 28)).drew.cell? ⟨B2, off2 + i, none⟩ = some (.int .i64 y) := ⟨by simp, by simp, by simp, y2⟩
            have gx : Hid (∀ W, Below (wr.alloc (.cells #[.int .i64 a, .int .i64 nd, .int .i64 s] 28)).drew.heap.size (wr.alloc (.cells #[.int .i64 a, .int .i64 nd, .int .i64 s] 28)).drew W → Below w.heap.size w W) := fun W hW => below_on g.out (below_on (bx _).drew hW)
            clear y0 y1 y2 bx c0 c1 c2
            refine wp_region_held_drew (S := fun W => W.cell? ⟨wr.heap.size, 0, none⟩ = some (.int .i64 a) ∧ W.cell? ⟨wr.heap.size, 1, none⟩ = some (.int .i64 nd) ∧ W.cell? ⟨wr.heap.size, 2, none⟩ = some (.int .i64 s) ∧ W.cell? ⟨B2, off2 + i, none⟩ = some (.int .i64 y)) (by kernel_rfl) cc (fun hHeld => ?_)
            have hwl2 : Hid (wr.heap.size < (wr.alloc (.cells #[.int .i64 a, .int .i64 nd, .int .i64 s] 28)).drew.heap.size) := hwl.out.1
            generalize (wr.alloc (.cells #[.int .i64 a, .int .i64 nd, .int .i64 s] 28)).drew = wq at *
            generalize hZ : wr.heap.size = Z at *
            refine wpAnyH_take (i := 0) (v := (.agg #[.int .i64 a, .int .i64 nd, .int .i64 s])) rfl (by kernel_rfl) (by kernel_rfl) (by kernel_rfl) (fun _ _ _ h => h) (Or.inl ⟨by rfl, ?_⟩) hHeld ?_
            · intro w hSw; obtain ⟨s0, s1, s2, s3⟩ := hSw; go_simp
            try simp only [List.getElem_toArray, List.getElem_cons_zero, List.getElem_cons_succ, Act.put, List.setIfInBounds_toArray, List.set_cons_zero, List.set_cons_succ]
            refine wpAnyH_take (i := 1) (v := (.slice (some ⟨B2, off2, none⟩) m xc)) rfl (by kernel_rfl) (by kernel_rfl) (by kernel_rfl) (fun _ _ _ h => h) (Or.inl ⟨by rfl, ?_⟩) hHeld ?_
            · intro w hSw; go_simp
            try simp only [List.getElem_toArray, List.getElem_cons_zero, List.getElem_cons_succ, Act.put, List.setIfInBounds_toArray, List.set_cons_zero, List.set_cons_succ]
            refine wpAnyH_take (i := 2) (v := (.int .i64 (i : Int))) rfl (by kernel_rfl) (by kernel_rfl) (by kernel_rfl) (fun _ _ _ h => h) (Or.inl ⟨by rfl, ?_⟩) hHeld ?_
            · intro w hSw; go_simp
            try simp only [List.getElem_toArray, List.getElem_cons_zero, List.getElem_cons_succ, Act.put, List.setIfInBounds_toArray, List.set_cons_zero, List.set_cons_succ]
            refine wpAnyH_take (i := 3) (v := (.pointer (some ⟨B2, off2 + i, none⟩))) rfl (by kernel_rfl) (by kernel_rfl) (by kernel_rfl) (fun _ _ _ h => h) (Or.inl ⟨by rfl, ?_⟩) hHeld ?_
            · intro w hSw; go_simp
            try simp only [List.getElem_toArray, List.getElem_cons_zero, List.getElem_cons_succ, Act.put, List.setIfInBounds_toArray, List.set_cons_zero, List.set_cons_succ]
            refine wpAnyH_take (i := 4) (v := (.int .i64 y)) rfl (by kernel_rfl) (by kernel_rfl) (by kernel_rfl) (fun _ _ _ h => h) (Or.inl ⟨by rfl, ?_⟩) hHeld ?_
            · intro w hSw; obtain ⟨s0, s1, s2, s3⟩ := hSw; go_simp
            try simp only [List.getElem_toArray, List.getElem_cons_zero, List.getElem_cons_succ, Act.put, List.setIfInBounds_toArray, List.set_cons_zero, List.set_cons_succ]
            refine wpAnyH_ready (rs := [5]) (by kernel_rfl) (by simp) ?_
            refine AllReadyH.cons rfl (fun K hK => ?_) AllReadyH.nil
            clear hHeld
            go_simp
            refine (C.out _).mono ?_
            rintro e' w3 ⟨rfl, hb⟩
            have hBZ : B2 < wq.heap.size := by have := hwl.out.2; have := hwl2.out; omega
            have cc2 : w3.cell? ⟨Z, 0, none⟩ = some (.int .i64 a) ∧ w3.cell? ⟨Z, 1, none⟩ = some (.int .i64 nd) ∧ w3.cell? ⟨Z, 2, none⟩ = some (.int .i64 s) ∧ w3.cell? ⟨B2, off2 + i, none⟩ = some (.int .i64 y) := ⟨by rw [hb.cell (p := ⟨Z, 0, none⟩) hwl2.out]; exact cc.1, by rw [hb.cell (p := ⟨Z, 1, none⟩) hwl2.out]; exact cc.2.1, by rw [hb.cell (p := ⟨Z, 2, none⟩) hwl2.out]; exact cc.2.2.1, by rw [hb.cell (p := ⟨B2, off2 + i, none⟩) hBZ]; exact cc.2.2.2⟩
            refine hK.out _ _ cc2 (fun hHeld => ?_)
            have g3 := Lib.hid (gx.out _ hb)
            clear hK K hb gx hwl hwl2 hBZ cc
            try simp only [List.getElem_toArray, List.getElem_cons_zero, List.getElem_cons_succ, Act.put, List.setIfInBounds_toArray, List.set_cons_zero, List.set_cons_succ]
            refine wpAnyH_take (i := 6) (v := (.tuple #[.int .i64 t, .bool ok])) rfl (by kernel_rfl) (by kernel_rfl) (by kernel_rfl) (fun _ _ _ h => h) (Or.inl ⟨by rfl, ?_⟩) hHeld ?_
            · intro w hSw; go_simp
            try simp only [List.getElem_toArray, List.getElem_cons_zero, List.getElem_cons_succ, Act.put, List.setIfInBounds_toArray, List.set_cons_zero, List.set_cons_succ]
            refine wpAnyH_take (i := 7) (v := (.int .i64 t)) rfl (by kernel_rfl) (by kernel_rfl) (by kernel_rfl) (fun _ _ _ h => h) (Or.inl ⟨by rfl, ?_⟩) hHeld ?_
            · intro w hSw; go_simp
            try simp only [List.getElem_toArray, List.getElem_cons_zero, List.getElem_cons_succ, Act.put, List.setIfInBounds_toArray, List.set_cons_zero, List.set_cons_succ]
            refine wpAnyH_take (i := 8) (v := (.bool ok)) rfl (by kernel_rfl) (by kernel_rfl) (by kernel_rfl) (fun _ _ _ h => h) (Or.inl ⟨by rfl, ?_⟩) hHeld ?_
            · intro w hSw; go_simp
            try simp only [List.getElem_toArray, List.getElem_cons_zero, List.getElem_cons_succ, Act.put, List.setIfInBounds_toArray, List.set_cons_zero, List.set_cons_succ]
            refine wpAnyH_take (i := 9) (v := (.int .i64 t)) rfl (by kernel_rfl) (by kernel_rfl) (by kernel_rfl) (fun _ _ _ h => h) (Or.inl ⟨by rfl, ?_⟩) hHeld ?_
            · intro w hSw; go_simp
            try simp only [List.getElem_toArray, List.getElem_cons_zero, List.getElem_cons_succ, Act.put, List.setIfInBounds_toArray, List.set_cons_zero, List.set_cons_succ]
            refine wpAnyH_take (i := 10) (v := (.bool ok)) rfl (by kernel_rfl) (by kernel_rfl) (by kernel_rfl) (fun _ _ _ h => h) (Or.inl ⟨by rfl, ?_⟩) hHeld ?_
            · intro w hSw; go_simp
            try simp only [List.getElem_toArray, List.getElem_cons_zero, List.getElem_cons_succ, Act.put, List.setIfInBounds_toArray, List.set_cons_zero, List.set_cons_succ]
            refine wpAnyH_done (by kernel_rfl) ?_ _
            clear cc2 C
            cases ok
            · obtain ⟨rfl, rfl⟩ := N.out rfl
              clear N K2 htb hb1 hbs
              go_wp2
              go_ret2
              exact ⟨rfl, g3.out⟩
            · have hbt := htb rfl
              rw [hb1.out rfl] at hbt
              have K3 := K2.out rfl
              rw [hb1.out rfl] at K3
              obtain ⟨u2, hu2⟩ : ∃ q, u + t = q := ⟨_, rfl⟩
              have w3' : wrap64 (u + t) = u2 := by unfold wrap64; omega
              rw [hu2] at K3
              replace K3 := Lib.hid K3
              clear N K2 htb hb1 hbs hbt hu2
              go_wp2
              go_roundw
              case rel => exact ⟨i + 1, u2, by first | rfl | (simp; done) | rw [w3'], by first | rfl | simp, by omega, g3, K3⟩
              case measure => simp [intOf]; omega
        · have d1 : decide ((i : Int) < (m : Int)) = false := decide_eq_false (by omega)
          have hall := K.out
          rw [List.take_of_length_le (by rw [hz.out]; exact hge)] at hall
          obtain ⟨z1, z2⟩ := Y.out hall.1
          obtain rfl : o = true := z1
          obtain rfl : v = u := by rw [z2]; exact hall.2
          have gb := g
          clear K hall z2
          go_wp2
          go_ret2
          exact ⟨rfl, by have s0 := gb.out.size; (try simp only [World.heap_drewN, World.size_alloc] at s0); repeat (first | exact Below.refl _ _ | exact gb.out | refine Below.trans ?_ (Below.mono gb.out (by first | omega | (simp; done) | (simp; omega))) | refine Below.setCell ?_ (by first | omega | (simp; done) | (simp; omega)) _ | refine below_dN ?_ _ | refine Below.drew ?_ | refine Below.alloc ?_ (by first | omega | (simp; done) | (simp; omega)) _)⟩
    · have k1 : ((m : Int) != (n : Int)) = true := by rw [bne_iff_ne]; omega
      obtain rfl : o = false := by rw [← ho]; unfold costOk; rw [hm, hl, decide_eq_false hmn]; simp
      obtain rfl : v = 0 := by rw [← hv]; unfold costV; rw [ho]; rfl
      rw [hl] at C1 hlc ⊢
      rw [hm]
      clear hR hX hxf hv ho hq hl hm hmn
      go_enter Try.func11, Try.ntmps11
      go_wp2_with fail
      refine C1.out.mono ?_; rintro e gw ⟨rfl, g⟩
      clear C1
      go_wp2
      go_ret2
      exact ⟨rfl, by have s0 := g.size; (try simp only [World.heap_drewN, World.size_alloc] at s0); repeat (first | exact Below.refl _ _ | exact g | refine Below.trans ?_ (Below.mono g (by first | omega | (simp; done) | (simp; omega))) | refine Below.setCell ?_ (by first | omega | (simp; done) | (simp; omega)) _ | refine below_dN ?_ _ | refine Below.drew ?_ | refine Below.alloc ?_ (by first | omega | (simp; done) | (simp; omega)) _)⟩
end Go.Proofs.Ytkjgpidiompmlaa
