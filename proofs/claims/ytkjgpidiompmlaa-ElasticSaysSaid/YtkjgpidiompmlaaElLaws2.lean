/- ElasticHolds, ElasticSays. -/
import Derived.Test.YtkjgpidiompmlaaElAwake
namespace Go.Proofs.Ytkjgpidiompmlaa
open Go.RowKit
open Go.Lib hiding intOf
set_option linter.unusedVariables false
set_option linter.unusedSimpArgs false

theorem sum_next1 {l : List Int} {i : Nat} {x : Int} (h : l[i]? = some x) : (l.take (i + 1)).sum = (l.take i).sum + x := by
  rw [List.take_add_one, h, List.sum_append]
  simp
theorem take_bounds {b : Int} : ∀ {l : List Int}, (∀ x ∈ l, 0 ≤ x ∧ x ≤ b) → 0 ≤ l.sum ∧ l.sum ≤ b * (l.length : Int)
  | [], _ => by simp
  | x :: l, h => by
    have h1 := h x (by simp)
    have h2 := take_bounds (b := b) (l := l) (fun y hy => h y (by simp [hy]))
    rw [List.sum_cons, List.length_cons, Int.natCast_add, Int.mul_add]; omega
set_option maxHeartbeats 6400000 in
set_option maxRecDepth 100000 in
theorem ElasticHolds_ret (A : Option Addr) (cap : Nat) (l : List Sp) (room : Int) (w : World) (hlc : l.length ≤ cap) (hcap : cap ≤ 9223372036854775807) (hR : RdSp w A l) (hr : fitB room = true) :
    Calls Try.prog 5 #[.slice A l.length cap, .int .i64 room] w (RetB (.bool true) w) := by
  have A0 := Lib.hid awake13_any
  obtain ⟨n, hn⟩ : ∃ n, l.length = n := ⟨_, rfl⟩
  by_cases h20 : n ≤ 20
  · have t1 : decide ((n : Int) > 20) = false := decide_eq_false (by omega)
    obtain ⟨e, xs, h⟩ := PressR.exists_ room l
    have C1 := Lib.hid (fun w' (hb : Below w.heap.size w w') => epress_b A cap l room e xs w' hcap hlc (hR.below hb) hr h)
    have L1 := h.len
    have H := Lib.hid (And.intro hn (And.intro hR h))
    rw [hn] at C1 L1 hlc ⊢
    clear hR h hn
    go_enter Try.func5, Try.ntmps5
    go_wp2_with fail
    refine (A0.out _).mono ?_; rintro e aw ⟨rfl, a⟩
    have ga := Lib.hid a
    clear A0 a
    go_wp2_with fail
    refine (C1.out _ ga.out).mono ?_; rintro z bw ⟨X, xc, rfl, hx1, hx2, hx3, b⟩
    have gb : Hid (Below w.heap.size w bw) := below_on ga.out b
    have hX : Hid (ReadsI bw X xs) := hx3
    clear C1 b ga t1 hx3
    by_cases he : e = 0
    · subst he
      have l1 := L1.1 rfl
      have hxb : Hid (∀ x ∈ xs, 0 ≤ x ∧ x ≤ 67108864) := L1.2.2.2
      have hgood : Hid (∀ s ∈ l, s.good = true) := by
        rcases H.out.2.2.cases_ with ⟨h1, _⟩ | ⟨h1, _⟩ | ⟨_, hg, _, _⟩
        · omega
        · omega
        · exact (springs_iff.1 (Bool.and_eq_true_iff.1 hg).1).2
      have hroom : 0 ≤ room ∧ room ≤ 67108864 := by
        rcases H.out.2.2.cases_ with ⟨h1, _⟩ | ⟨h1, _⟩ | ⟨_, hg, _, _⟩
        · omega
        · omega
        · exact room_iff.1 (Bool.and_eq_true_iff.1 hg).2
      have Q := Lib.hid H.out.2.2.holds
      have LX := Lib.hid l1
      have k1 : ((n : Int) != (n : Int)) = false := by simp
      rw [l1] at hx1 ⊢
      clear L1 l1
      go_wp2
      clear k1
      go_loopw [7, 8, 9] (fun sv wv iv wr => ∃ (i : Nat) (s u : Int) (q : Nat), sv = .int .i64 s ∧ wv = .int .i64 u ∧ iv = .int .i64 (i : Int) ∧ i ≤ n ∧ wr = bw.drewN q ∧ Hid ((xs.take i).sum = s ∧ smap Sp.want (l.take i) = u)) (fun _ _ iv _ => n - (intOf iv).toNat)
      case atStart => exact ⟨0, 0, 0, 0, rfl, rfl, rfl, by omega, rfl, Lib.hid ⟨by simp, by simp [smap]⟩⟩
      case round =>
        obtain ⟨i, s, u, q, rfl, rfl, rfl, hin, rfl, K⟩ := hrel
        rcases Nat.lt_or_ge i n with hlt | hge
        · have d1 : decide ((i : Int) < (n : Int)) = true := decide_eq_true (by omega)
          have e1 : IntKind.i64.wrap ((i : Int) + 1) = ((i + 1 : Nat) : Int) := by rw [IntKind.wrap_i64]; omega
          have e1' : wrap64 ((i : Int) + 1) = ((i + 1 : Nat) : Int) := by unfold wrap64; omega
          have b1 : (i : Int) < (n : Int) := by omega
          have b0 : (0 : Int) ≤ (i : Int) := by omega
          obtain ⟨x, hx⟩ : ∃ x, l[i]? = some x := ⟨_, List.getElem?_eq_getElem (by rw [H.out.1]; exact hlt)⟩
          obtain ⟨y, hy⟩ : ∃ y, xs[i]? = some y := ⟨_, List.getElem?_eq_getElem (by rw [LX.out]; exact hlt)⟩
          obtain ⟨B, off, rfl, c0, c1, c2⟩ := (H.out.2.1.below gb.out) i x hx
          obtain ⟨g', o', rfl, y0⟩ := hX.out i (by rw [LX.out]; exact hlt)
          rw [List.getD, hy] at y0
          simp only [Option.getD_some] at y0
          obtain ⟨q1, q2, q3⟩ := Q.out.1 i x y hx hy
          have sb := take_bounds (b := 67108864) (l := xs.take i) (fun z hz => hxb.out z (List.mem_of_mem_take hz))
          have ub := smap_bounds (f := Sp.want) (b := 67108864) (l := l.take i) (fun s hs => by have := sp_iff.1 (hgood.out s (List.mem_of_mem_take hs)); omega)
          rw [List.length_take, K.out.1] at sb
          rw [List.length_take, K.out.2] at ub
          have yb := hxb.out y (List.mem_of_getElem? hy)
          have xb := sp_iff.1 (hgood.out x (List.mem_of_getElem? hx))
          obtain ⟨s2, hs2⟩ : ∃ z, s + y = z := ⟨_, rfl⟩
          obtain ⟨u2, hu2⟩ : ∃ z, u + x.want = z := ⟨_, rfl⟩
          have w1 : wrap64 (s + y) = s2 := by unfold wrap64; omega
          have w2 : wrap64 (u + x.want) = u2 := by unfold wrap64; omega
          have K2 : Hid ((xs.take (i + 1)).sum = s2 ∧ smap Sp.want (l.take (i + 1)) = u2) := ⟨by rw [sum_next1 hy, K.out.1, hs2], by rw [smap_take_next hx, K.out.2, hu2]⟩
          have t2 : decide (y < x.least) = false := decide_eq_false (by omega)
          have t3 : decide (y > x.want) = false := decide_eq_false (by omega)
          have t4 : (x.soft == 0) = false ∨ (x.soft == 0) = true ∧ (y != x.want) = false := by
            by_cases c : x.soft = 0
            · exact .inr ⟨beq_iff_eq.2 c, by rw [q3 c]; simp⟩
            · exact .inl (beq_eq_false_iff_ne.2 c)
          clear hx hy q1 q2 q3 sb ub yb xb hs2 hu2 K
          obtain ⟨a, nd, sf⟩ := x
          simp only at c0 c1 c2 w2 t2 t3 t4
          generalize hbq : bw.drewN q = bq
          have cc : bq.cell? ⟨B, off + i * 3, none⟩ = some (.int .i64 a) ∧ bq.cell? ⟨B, off + i * 3 + 1, none⟩ = some (.int .i64 nd) ∧ bq.cell? ⟨B, off + i * 3 + 2, none⟩ = some (.int .i64 sf) ∧ bq.cell? ⟨g', o' + i, none⟩ = some (.int .i64 y) := by rw [← hbq]; exact ⟨c0, c1, c2, y0⟩
          replace hbq := Lib.hid hbq
          clear c0 c1 c2 y0
          obtain ⟨c0, c1, c2, y0⟩ := cc
          rcases t4 with t4 | ⟨t4, t5⟩
          all_goals
            go_wp2
            go_quiet (fail)
            go_wp2
            go_roundw
            case rel => exact ⟨i + 1, s2, u2, _, by first | rfl | (simp; done) | rw [w1], by first | rfl | (simp; done) | rw [w2], by first | rfl | (simp; done) | rw [e1] | rw [e1'], by omega, by rw [← hbq.out, drewN_two], K2⟩
            case measure => simp [intOf]; omega
        · have d1 : decide ((i : Int) < (n : Int)) = false := decide_eq_false (by omega)
          obtain rfl : i = n := by omega
          have hs : xs.sum = s ∧ smap Sp.want l = u := by
            have := K.out
            rw [List.take_of_length_le (by rw [LX.out]; exact Nat.le_refl _), List.take_of_length_le (by rw [H.out.1]; exact Nat.le_refl _)] at this
            exact this
          obtain ⟨_, Q2, Q3⟩ := Q.out
          rw [hs.1, hs.2, H.out.1] at Q3
          rw [hs.1, hs.2] at Q2
          clear K hs Q
          by_cases hu : u ≤ room
          · have d2 : decide (u ≤ room) = true := decide_eq_true hu
            have d3 : (s == u) = true := beq_iff_eq.2 (Q2 hu)
            clear Q2 Q3 hu hge hin
            go_wp2
            go_ret
            exact ⟨rfl, below_dN gb.out _⟩
          · have d2 : decide (u ≤ room) = false := decide_eq_false hu
            obtain ⟨z1, z2⟩ := Q3 (by omega)
            have d3 : decide (s ≤ room) = true := decide_eq_true z1
            obtain ⟨r2, hr2⟩ : ∃ z, room - (i : Int) = z := ⟨_, rfl⟩
            obtain ⟨r3, hr3⟩ : ∃ z, r2 - 1 = z := ⟨_, rfl⟩
            have w1 : wrap64 (room - (i : Int)) = r2 := by unfold wrap64; omega
            have w2 : wrap64 (r2 - 1) = r3 := by unfold wrap64; omega
            have d4 : decide (s > r3) = true := decide_eq_true (by omega)
            clear Q2 Q3 hu hge hin z1 z2 hr2 hr3 hroom
            go_wp2
            go_ret
            exact ⟨rfl, below_dN gb.out _⟩
    · have k1 : (e != 0) = true := by rw [bne_iff_ne]; exact he
      have hx0 := L1.2.1 he
      subst hx0
      simp only [List.length_nil] at hx1 ⊢
      clear L1 he H hX
      go_wp2
      go_ret
      exact ⟨rfl, by have s0 := gb.out.size; (try simp only [World.heap_drewN, World.size_alloc] at s0); repeat (first | exact Below.refl _ _ | exact gb.out | refine Below.trans ?_ (Below.mono gb.out (by first | omega | (simp; done) | (simp; omega))) | refine Below.setCell ?_ (by first | omega | (simp; done) | (simp; omega)) _ | refine below_dN ?_ _ | refine Below.drew ?_ | refine Below.alloc ?_ (by first | omega | (simp; done) | (simp; omega)) _)⟩
  · have t1 : decide ((n : Int) > 20) = true := decide_eq_true (by omega)
    rw [hn]
    clear hR hr hn hlc h20
    go_enter Try.func5, Try.ntmps5
    go_wp2_with fail
    refine (A0.out _).mono ?_; rintro e aw ⟨rfl, a⟩
    go_wp2
    go_ret
    exact ⟨rfl, by have s0 := a.size; (try simp only [World.heap_drewN, World.size_alloc] at s0); repeat (first | exact Below.refl _ _ | exact a | refine Below.trans ?_ (Below.mono a (by first | omega | (simp; done) | (simp; omega))) | refine Below.setCell ?_ (by first | omega | (simp; done) | (simp; omega)) _ | refine below_dN ?_ _ | refine Below.drew ?_ | refine Below.alloc ?_ (by first | omega | (simp; done) | (simp; omega)) _)⟩
set_option maxHeartbeats 6400000 in
set_option maxRecDepth 100000 in
theorem ElasticSays_ret (A : Option Addr) (cap : Nat) (l : List Sp) (room : Int) (X : Option Addr) (xc : Nat) (zs : List Int) (w : World) (hlc : l.length ≤ cap) (hcap : cap ≤ 9223372036854775807) (hR : RdSp w A l) (hr : fitB room = true)
    (hzl : zs.length ≤ 9223372036854775807) (hzf : ∀ x ∈ zs, fitB x = true) (hZ : ReadsI w X zs) (hA : zs ≠ [] → ∀ ad, X = some ad → ad.block < w.heap.size) :
    Calls Try.prog 4 #[.slice A l.length cap, .int .i64 room, .slice X zs.length xc] w (RetB (.bool true) w) := by
  have A0 := Lib.hid awake13_any
  obtain ⟨n, hn⟩ : ∃ n, l.length = n := ⟨_, rfl⟩
  obtain ⟨m, hm⟩ : ∃ n, zs.length = n := ⟨_, rfl⟩
  by_cases hgo : n ≤ 25 ∧ m ≤ 25
  · have t1 : decide ((n : Int) > 25) = false := decide_eq_false (by omega)
    have t2 : decide ((m : Int) > 25) = false := decide_eq_false (by omega)
    obtain ⟨e, xs, h⟩ := PressR.exists_ room l
    obtain ⟨v, hv⟩ : ∃ v, floorV l = v := ⟨_, rfl⟩
    obtain ⟨o, ho⟩ : ∃ o, floorOk l = o := ⟨_, rfl⟩
    obtain ⟨cv, hcv⟩ : ∃ v, costV l zs = v := ⟨_, rfl⟩
    obtain ⟨co, hco⟩ : ∃ o, costOk l zs = o := ⟨_, rfl⟩
    have hxl : xs.length ≤ 1000000 := by
      have := h.len
      rcases this.2.2.1 with c | c | c
      · rw [this.1 c]; omega
      · rw [this.2.1 (by omega)]; simp
      · rw [this.2.1 (by omega)]; simp
    have O : Hid (∀ w', Below w.heap.size w w' → Calls Try.prog 15 #[.slice A n cap] w' (fun e w2 => ∃ A' c, e = .returned (.slice A' n c) ∧ n ≤ c ∧ c ≤ 9223372036854775807 ∧ RdSp w2 A' l ∧ Below w'.heap.size w' w2)) := fun w' hb => by
      have := own13_any A cap l w' (by omega) hcap hlc (hR.below hb)
      rw [hn] at this
      exact this
    have P1 : Hid (∀ w', Below w.heap.size w w' → Calls Try.prog 10 #[.slice A n cap, .int .i64 room] w' (PressA e xs w')) := fun w' hb => hn ▸ epress_b A cap l room e xs w' hcap hlc (hR.below hb) hr h
    have P2 : Hid (∀ A' c w', n ≤ c → c ≤ 9223372036854775807 → RdSp w' A' l → Calls Try.prog 14 #[.slice A' n c, .int .i64 room] w' (PressA e xs w')) := fun A' c w' h1 h2 h3 => by
      have := rpress_any A' c l room e xs w' h2 (by omega) h3 hr h
      rw [hn] at this
      exact this
    have F1 : Hid (∀ w', Below w.heap.size w w' → Calls Try.prog 12 #[.slice A n cap] w' (RetB (.tuple #[.int .i64 v, .bool o]) w')) := fun w' hb => hn ▸ efloor_b A cap l v o w' hcap hlc (hR.below hb) hv ho
    have F2 : Hid (∀ A' c w', n ≤ c → c ≤ 9223372036854775807 → RdSp w' A' l → Calls Try.prog 16 #[.slice A' n c] w' (RetB (.tuple #[.int .i64 v, .bool o]) w')) := fun A' c w' h1 h2 h3 => by
      have := rfloor_any A' c l v o w' h2 (by omega) h3 hv ho
      rw [hn] at this
      exact this
    have G1 : Hid (∀ w', Below w.heap.size w w' → Calls Try.prog 11 #[.slice A n cap, .slice X m xc] w' (RetB (.tuple #[.int .i64 cv, .bool co]) w')) := fun w' hb => by
      have := ecost_b A cap l X xc zs cv co w' hcap hlc (hR.below hb) hzl hzf (hZ.on hb) hcv hco
      rw [hn, hm] at this
      exact this
    have G2 : Hid (∀ A' c w', Below w.heap.size w w' → n ≤ c → c ≤ 9223372036854775807 → RdSp w' A' l → Calls Try.prog 17 #[.slice A' n c, .slice X m xc] w' (RetB (.tuple #[.int .i64 cv, .bool co]) w')) := fun A' c w' hb h1 h2 h3 => by
      have := rcost_any A' c l X xc zs cv co w' h2 (by omega) h3 hzl hzf (hZ.on hb) hcv hco
      rw [hn, hm] at this
      exact this
    have SH : Hid (∀ (A1 A2 : Option Addr) (c1 c2 : Nat) (w' : World), xs.length ≤ c1 → xs.length ≤ c2 → ReadsI w' A1 xs → ReadsI w' A2 xs → Calls Try.prog 13 #[.slice A1 xs.length c1, .slice A2 xs.length c2] w' (Ret (.bool true) w')) := fun A1 A2 c1 c2 w' k1 k2 h1 h2 => shares_any A1 A2 c1 c2 xs xs.length w' hxl rfl h1 h2 k1 k2
    have v1 : (e == e) = true := by simp
    have v2 : (v == v) = true := by simp
    have v3 : (o == o) = true := by simp
    have v4 : (cv == cv) = true := by simp
    have v5 : (co == co) = true := by simp
    rw [hn, hm]
    rw [hn] at hlc
    generalize hxn : xs.length = q at *
    clear hR hr hzl hzf hZ hA h hv ho hcv hco hn hm hgo hxl
    go_enter Try.func4, Try.ntmps4
    go_wp2_with fail
    refine (A0.out _).mono ?_; rintro e aw ⟨rfl, a⟩
    have ga := Lib.hid a
    clear A0 a
    go_wp2_with fail
    refine (P1.out _ ga.out).mono ?_; rintro z w1 ⟨X1, x1, rfl, a1, a2, a3, b1⟩
    rw [hxn] at a1 ⊢
    replace b1 := Lib.hid (below_on ga.out b1)
    replace a3 := Lib.hid a3
    clear P1 ga t1 t2
    go_wp2_with fail
    refine (O.out _ b1.out).mono ?_; rintro z w2 ⟨A2, c2, rfl, h1, h2, h3, b2⟩
    have C := Lib.hid (P2.out A2 c2 w2 h1 h2 h3)
    replace a3 := Lib.hid (a3.out.on b2)
    replace b2 := Lib.hid (below_on b1.out b2)
    clear P2 b1 h1 h2 h3
    go_wp2_with fail
    refine C.out.mono ?_; rintro z w3 ⟨X3, x3, rfl, y1, y2, y3, b3⟩
    rw [hxn] at y1 ⊢
    replace a3 := Lib.hid (a3.out.on b3)
    replace b3 := Lib.hid (below_on b2.out b3)
    replace y3 := Lib.hid y3
    clear C b2
    go_wp2_with fail
    refine (F1.out _ b3.out).mono ?_; rintro z w4 ⟨rfl, b4⟩
    replace a3 := Lib.hid (a3.out.on b4)
    replace y3 := Lib.hid (y3.out.on b4)
    replace b4 := Lib.hid (below_on b3.out b4)
    clear F1 b3
    go_wp2_with fail
    refine (O.out _ b4.out).mono ?_; rintro z w5 ⟨A5, c5, rfl, h1, h2, h3, b5⟩
    have C := Lib.hid (F2.out A5 c5 w5 h1 h2 h3)
    replace a3 := Lib.hid (a3.out.on b5)
    replace y3 := Lib.hid (y3.out.on b5)
    replace b5 := Lib.hid (below_on b4.out b5)
    clear F2 b4 h1 h2 h3
    go_wp2_with fail
    refine C.out.mono ?_; rintro z w6 ⟨rfl, b6⟩
    replace a3 := Lib.hid (a3.out.on b6)
    replace y3 := Lib.hid (y3.out.on b6)
    replace b6 := Lib.hid (below_on b5.out b6)
    clear C b5
    go_wp2_with fail
    refine (G1.out _ b6.out).mono ?_; rintro z w7 ⟨rfl, b7⟩
    replace a3 := Lib.hid (a3.out.on b7)
    replace y3 := Lib.hid (y3.out.on b7)
    replace b7 := Lib.hid (below_on b6.out b7)
    clear G1 b6
    go_wp2_with fail
    refine (O.out _ b7.out).mono ?_; rintro z w8 ⟨A8, c8, rfl, h1, h2, h3, b8⟩
    replace a3 := Lib.hid (a3.out.on b8)
    replace y3 := Lib.hid (y3.out.on b8)
    replace b8 := Lib.hid (below_on b7.out b8)
    have C := Lib.hid (G2.out A8 c8 w8 b8.out h1 h2 h3)
    clear G2 b7 h1 h2 h3 O
    go_wp2_with fail
    refine C.out.mono ?_; rintro z w9 ⟨rfl, b9⟩
    replace a3 := Lib.hid (a3.out.on b9)
    replace y3 := Lib.hid (y3.out.on b9)
    replace b9 := Lib.hid (below_on b8.out b9)
    clear C b8
    have C := Lib.hid (SH.out X1 X3 x1 x3 w9 a1 y1 a3.out y3.out)
    clear SH a3 y3
    go_wp2_with fail
    refine C.out.mono ?_; rintro z w10 ⟨rfl, dq, rfl⟩
    clear C
    go_wp2
    go_ret
    exact ⟨rfl, by have s0 := b9.out.size; (try simp only [World.heap_drewN, World.size_alloc] at s0); repeat (first | exact Below.refl _ _ | exact b9.out | refine Below.trans ?_ (Below.mono b9.out (by first | omega | (simp; done) | (simp; omega))) | refine Below.setCell ?_ (by first | omega | (simp; done) | (simp; omega)) _ | refine below_dN ?_ _ | refine Below.drew ?_ | refine Below.alloc ?_ (by first | omega | (simp; done) | (simp; omega)) _)⟩
  · rw [hn, hm]
    clear hR hr hzl hzf hZ hA hn hm hlc
    by_cases k1 : n ≤ 25
    · have t1 : decide ((n : Int) > 25) = false := decide_eq_false (by omega)
      have t2 : decide ((m : Int) > 25) = true := decide_eq_true (by omega)
      clear hgo
      go_enter Try.func4, Try.ntmps4
      go_wp2_with fail
      refine (A0.out _).mono ?_; rintro e aw ⟨rfl, a⟩
      go_wp2
      go_ret
      exact ⟨rfl, by have s0 := a.size; (try simp only [World.heap_drewN, World.size_alloc] at s0); repeat (first | exact Below.refl _ _ | exact a | refine Below.trans ?_ (Below.mono a (by first | omega | (simp; done) | (simp; omega))) | refine Below.setCell ?_ (by first | omega | (simp; done) | (simp; omega)) _ | refine below_dN ?_ _ | refine Below.drew ?_ | refine Below.alloc ?_ (by first | omega | (simp; done) | (simp; omega)) _)⟩
    · have t1 : decide ((n : Int) > 25) = true := decide_eq_true (by omega)
      clear hgo
      go_enter Try.func4, Try.ntmps4
      go_wp2_with fail
      refine (A0.out _).mono ?_; rintro e aw ⟨rfl, a⟩
      go_wp2
      go_ret
      exact ⟨rfl, by have s0 := a.size; (try simp only [World.heap_drewN, World.size_alloc] at s0); repeat (first | exact Below.refl _ _ | exact a | refine Below.trans ?_ (Below.mono a (by first | omega | (simp; done) | (simp; omega))) | refine Below.setCell ?_ (by first | omega | (simp; done) | (simp; omega)) _ | refine below_dN ?_ _ | refine Below.drew ?_ | refine Below.alloc ?_ (by first | omega | (simp; done) | (simp; omega)) _)⟩
end Go.Proofs.Ytkjgpidiompmlaa
