/- EdfBusy: the earliest deadline first is idle only if no job that is there has work left; it runs each its work, and no more. (Written by genedbusy.py.) -/
import Derived.Test.YtcohodpaagpfgaaDoorEdAwake
import Derived.Test.YtcohodpaagpfgaaDoorEdOwn
import Derived.Test.YtcohodpaagpfgaaDoorRegT
import Derived.Deep.RegionHeld3
namespace Go.Proofs.YtcohodpaagpfgaaDoor
open Go.RowKit Go.Lib
set_option linter.unusedVariables false
set_option linter.unusedSimpArgs false

theorem RdT.apart {w : World} {T off : Nat} {r : List Int} (h : RdT w (some ⟨T, off, none⟩) r) {C k : Nat} (hc : T ≠ C) (v : Value) : RdT (w.setCell ⟨C, k, none⟩ v) (some ⟨T, off, none⟩) r := by
  intro j x hx
  obtain ⟨b, off', he, h1⟩ := h j x hx
  cases he
  exact ⟨T, off, rfl, by rw [World.cell?_setCell_other _ _ _ _ (by intro e'; simp only [Addr.mk.injEq] at e'; omega)]; exact h1⟩
theorem held_busy {y1 y2 : World} {R q Bj o : Nat} {rn : Int} {s : ByteArray} {rl d b a v c : Int} {h : Bool} (hS : y1.cell? ⟨R, q, none⟩ = some (.int .i64 rn) ∧ JAt y1 Bj o ⟨s, rl, d, b, a, v, c, h⟩) (hb : Below y1.heap.size y1 y2) : y2.cell? ⟨R, q, none⟩ = some (.int .i64 rn) ∧ JAt y2 Bj o ⟨s, rl, d, b, a, v, c, h⟩ :=
  ⟨by rw [hb.cell (p := ⟨R, q, none⟩) (cell_lt hS.1)]; exact hS.1, hS.2.below hS.2.lt hb⟩
set_option maxHeartbeats 12800000 in
set_option maxRecDepth 100000 in
theorem EdfBusy_ret (A : Option Addr) (cap : Nat) (l : List Jb) (w : World) (hL : Ltr w) (hlc : l.length ≤ cap) (hcap : cap ≤ 9223372036854775807) (hR : RdJ w A l) :
    Calls Tryd.prog 7 #[.slice A l.length cap] w (RetB (.bool true) w) := by
  have A0 := Lib.hid (awake10_any w hL)
  obtain ⟨gh, hgh⟩ : ∃ g, heavyB 10 200 l = g := ⟨_, rfl⟩
  have A1 := Lib.hid (fun w' (hb : Below w.heap.size w w') => heavy10_any A cap l 10 200 gh w' hcap hlc (hR.below hb) hgh)
  cases gh
  · obtain ⟨h10, hns⟩ := heavy_none hgh
    have hss : ∀ x ∈ l, x.name.size ≤ 1000000 := fun x hx => by have := (hns x hx).1; omega
    obtain ⟨ga, hga⟩ : ∃ g, allB l = g := ⟨_, rfl⟩
    have G1 : Hid (∀ w', Below w.heap.size w w' → Calls Tryd.prog 24 #[.slice A l.length cap] w' (RetB (.bool ga) w')) := fun w' hb => all_any A cap l ga w' hcap hlc hss (hL.below hb) (hR.below hb) hga
    cases ga
    · generalize l.length = n at *
      clear hL hR hgh hns hss hga
      go_enter Tryd.func7, Tryd.ntmps7
      go_wp2_with fail
      refine A0.out.mono ?_; rintro e w0 ⟨rfl, b0⟩
      replace b0 := Lib.hid b0
      clear A0
      go_wp2_with fail
      refine (A1.out _ b0.out).mono ?_; rintro e w1 ⟨rfl, q1, rfl⟩
      replace b0 : Hid (Below w.heap.size w (w0.drewN q1)) := below_dN b0.out q1
      generalize w0.drewN q1 = w1 at *
      clear A1
      go_wp2_with fail
      refine (G1.out _ b0.out).mono ?_; rintro e w2 ⟨rfl, hb⟩
      have b2 := Lib.hid (below_on b0.out hb)
      clear G1 hb b0
      go_wp2
      go_ret
      exact ⟨rfl, by have s0 := b2.out.size; (try simp only [World.heap_drewN, World.size_alloc] at s0); repeat (first | exact Below.refl _ _ | exact b2.out | refine Below.trans ?_ (Below.mono b2.out (by first | omega | (simp; done) | (simp; omega))) | refine Below.setCell ?_ (by first | omega | (simp; done) | (simp; omega)) _ | refine below_dN ?_ _ | refine Below.drew ?_ | refine Below.alloc ?_ (by first | omega | (simp; done) | (simp; omega)) _)⟩
    · obtain ⟨n, hl⟩ : ∃ n, l.length = n := ⟨_, rfl⟩
      obtain ⟨r, hr⟩ : ∃ r, edfL Jb.work l 400 = r := ⟨_, rfl⟩
      have hrl : r.length = 400 := by rw [← hr, edfL_len]
      have hrun : runL l 400 = r := by unfold runL; rw [hga, ← hr]; rfl
      have hedf : Hid (Edf n (atL Jb.rel l) (atL Jb.dl l) (atL Jb.work l) r) := by show Edf _ _ _ _ _; rw [← hr, ← hl]; exact edfT_edf 400
      obtain ⟨y, hy⟩ : ∃ y, busyZ r = y := ⟨_, rfl⟩
      have hy4 : y ≤ 400 := by rw [← hy]; unfold busyZ; omega
      have R1 : Hid (∀ w', Below w.heap.size w w' → Calls Tryd.prog 11 #[.slice A l.length cap, .int .i64 400] w' (fun e w2 => ∃ Bx offx c, e = .returned (.slice (some ⟨Bx, offx, none⟩) 400 c) ∧ 400 ≤ c ∧ c ≤ 9223372036854775807 ∧ RdT w2 (some ⟨Bx, offx, none⟩) r ∧ Below w'.heap.size w' w2)) := fun w' hb => (run_any A cap l 400 w' (by omega) hcap hlc hss (hL.below hb) (hR.below hb)).mono fun e w2 ⟨X, c, h1, h2, h3, h4, h5, _⟩ => by
        rw [hrun] at h1 h2 h4
        rw [hrl] at h1 h2
        obtain ⟨x0, hx0⟩ : ∃ x, r[0]? = some x := ⟨_, List.getElem?_eq_getElem (by omega)⟩
        obtain ⟨Bx, offx, rfl, _⟩ := h4 0 x0 hx0
        exact ⟨Bx, offx, c, h1, h2, h3, h4, h5⟩
      have Y1 : Hid (∀ (Bx offx c : Nat) (w' : World), 400 ≤ c → c ≤ 9223372036854775807 → RdT w' (some ⟨Bx, offx, none⟩) r → Calls Tryd.prog 26 #[.slice (some ⟨Bx, offx, none⟩) 400 c] w' (Ret (.int .i64 y) w')) := fun Bx offx c w' h1 h2 h3 => by
        have h := busy_any (some ⟨Bx, offx, none⟩) c r y w' h2 (by omega) h3 hy
        rw [hrl] at h
        exact h
      have hmk : ∀ w', (Instr.makeSlice 29 (.int .i64 (n : Int)) (.int .i64 (n : Int))).run Tryd.prog w' = .ok (.slice (some ⟨w'.heap.size, 0, none⟩) n n) (w'.alloc (.cells (madeCells #[.int .i64 0] n) 3)) := fun w' => run_make_row' _ _ _ 8 Tryd.underlying29 Tryd.infoI (by kernel_rfl) .i64 .i64 n (by omega) (by omega) w'
      have H := Lib.hid (And.intro hl (And.intro hR (And.intro hss hL)))
      rw [hl] at A1 hlc h10 G1 R1 ⊢
      have hn10 : n ≤ 10 := by omega
      have hrl' := Lib.hid hrl
      clear hL hR hgh hl hns hss hga hr hrl hrun hy h10
      have d7 : decide (y ≤ 400) = true := decide_eq_true hy4
      clear hy4
      go_enter Tryd.func7, Tryd.ntmps7
      go_wp2_with fail
      refine A0.out.mono ?_; rintro e w0 ⟨rfl, b0⟩
      replace b0 := Lib.hid b0
      clear A0
      go_wp2_with fail
      refine (A1.out _ b0.out).mono ?_; rintro e w1 ⟨rfl, q1, rfl⟩
      replace b0 : Hid (Below w.heap.size w (w0.drewN q1)) := below_dN b0.out q1
      generalize w0.drewN q1 = w1 at *
      clear A1
      go_wp2_with fail
      refine (G1.out _ b0.out).mono ?_; rintro e w2 ⟨rfl, hb⟩
      have b2 := Lib.hid (below_on b0.out hb)
      clear G1 hb b0
      go_wp2_with fail
      refine (R1.out _ b2.out).mono ?_; rintro e w3 ⟨Bx, offx, c, rfl, hc1, hc2, hX, hb⟩
      have b3 := Lib.hid (below_on b2.out hb)
      have hBx : Bx < w3.heap.size := by
        obtain ⟨x0, hx0⟩ : ∃ x, r[0]? = some x := ⟨_, List.getElem?_eq_getElem (by have := hrl'.out; omega)⟩
        obtain ⟨b', o', he, hc⟩ := hX 0 x0 hx0
        cases he
        exact cell_lt hc
      have hm : Below w3.heap.size w3 (w3.alloc (.cells (madeCells #[.int .i64 0] n) 3)) := (Below.refl _ _).alloc (Nat.le_refl _) _
      have K0 : Hid (Below w.heap.size w (w3.alloc (.cells (madeCells #[.int .i64 0] n) 3)) ∧ Cel w3.heap.size n (cn r 0) (w3.alloc (.cells (madeCells #[.int .i64 0] n) 3)) ∧ RdT (w3.alloc (.cells (madeCells #[.int .i64 0] n) 3)) (some ⟨Bx, offx, none⟩) r) :=
        ⟨below_on b3.out hm, (freshC w3 3 n).to fun i hi => (cn_zero r i).symm, hX.below hm⟩
      have hR : Hid (w.heap.size ≤ w3.heap.size ∧ Bx ≠ w3.heap.size) := ⟨b3.out.size, by omega⟩
      clear hb b2 b3 hX hBx hm R1
      go_wp2
      clear hmk
      generalize w3.alloc _ = w4 at K0 ⊢
      generalize w3.heap.size = R at *
      go_loopw [5] (fun st wr => ∃ (k : Nat), st = .int .i64 (k : Int) ∧ k ≤ 400 ∧ Hid (Below w.heap.size w wr ∧ Cel R n (cn r k) wr ∧ RdT wr (some ⟨Bx, offx, none⟩) r)) (fun st _ => 400 - (intOf st).toNat)
      case atStart => exact ⟨0, rfl, by omega, K0⟩
      case round =>
        clear K0
        obtain ⟨k, rfl, hk4, K⟩ := hrel
        rcases Nat.lt_or_ge k 400 with hlt | hge
        · have d1 : decide ((k : Int) < 400) = true := decide_eq_true (by omega)
          have e1 : IntKind.i64.wrap ((k : Int) + 1) = ((k + 1 : Nat) : Int) := by rw [IntKind.wrap_i64]; omega
          have b1 : (k : Int) < 400 := by omega
          obtain ⟨x, hx⟩ : ∃ x, r[k]? = some x := ⟨_, List.getElem?_eq_getElem (by have := hrl'.out; omega)⟩
          obtain ⟨b', o', he, t0⟩ := K.out.2.2 k x hx
          cases he
          obtain ⟨wo, hwo⟩ : ∃ v, v = wr := ⟨wr, rfl⟩
          subst hwo
          have KB := Lib.hid K.out.1
          have KR := Lib.hid K.out.2.1
          have hX := Lib.hid K.out.2.2
          have hxk := Lib.hid hx
          clear K
          rcases hedf.out k x hx with ⟨rfl, hid⟩ | ⟨p, rfl, hpn, hpp, hmn⟩
          · have hidle := Lib.hid hid
            clear hid hx
            go_wp2
            clear t0 b1
            go_loopw [7, 8] (fun s7 s8 wr => ∃ (j : Nat), s7 = .int .i64 (j : Int) ∧ j ≤ n ∧ Hid (Below wo.heap.size wo wr)) (fun s7 _ _ => n - (intOf s7).toNat)
            case atStart => exact ⟨0, rfl, by omega, Lib.hid (Below.refl _ _)⟩
            case round =>
              obtain ⟨j, rfl, hjn, J⟩ := hrel
              rcases Nat.lt_or_ge j n with hlt2 | hge2
              · have d2 : decide ((j : Int) < (n : Int)) = true := decide_eq_true (by omega)
                have e2 : IntKind.i64.wrap ((j : Int) + 1) = ((j + 1 : Nat) : Int) := by rw [IntKind.wrap_i64]; omega
                have b1 : (j : Int) < (n : Int) := by omega
                have b0 : (0 : Int) ≤ (j : Int) := by omega
                obtain ⟨x, hx⟩ : ∃ x, l[j]? = some x := ⟨_, List.getElem?_eq_getElem (by rw [H.out.1]; exact hlt2)⟩
                have bw : Hid (Below w.heap.size w wr) := below_on KB.out J.out
                obtain ⟨Bj, off, hA, hJ⟩ := (H.out.2.1.below bw.out) j x hx
                subst hA
                have r0 := (KR.out.on J.out).cell j hlt2
                have C : Hid (∀ w', Below wr.heap.size wr w' → Calls Tryd.prog 25 #[.agg x.cells] w' (RetB (.int .i64 x.work) w')) := fun w' hb => jwork_any x w' (H.out.2.2.1 x (List.mem_of_getElem? hx)) ((H.out.2.2.2.below bw.out).below hb)
                have hp : Hid (pend (atL Jb.rel l) (atL Jb.work l) r k j ↔ x.rel ≤ (k : Int) ∧ cn r k j < x.work) := by show _ ↔ _; unfold pend; rw [atL_of hx, atL_of hx]
                have hno : Hid (¬ (x.rel ≤ (k : Int) ∧ cn r k j < x.work)) := fun h => hidle.out j hlt2 (hp.out.2 h)
                clear hx hp
                obtain ⟨wk, hwk⟩ : ∃ z, x.work = z := ⟨_, rfl⟩
                rw [hwk] at C hno
                clear hwk
                unfold JAt at hJ
                unfold Jb.cells at C
                obtain ⟨s, rl, d, b, a, v, c, h⟩ := x
                simp only at hJ C hno
                generalize cn r k j = rn at *
                have hS0 : wr.drew.cell? ⟨R, j, none⟩ = some (.int .i64 rn) ∧ wr.drew.cell? ⟨Bj, off + j * 8, none⟩ = some (.string s) ∧ wr.drew.cell? ⟨Bj, off + j * 8 + 1, none⟩ = some (.int .i64 rl) ∧ wr.drew.cell? ⟨Bj, off + j * 8 + 2, none⟩ = some (.int .i64 d) ∧ wr.drew.cell? ⟨Bj, off + j * 8 + 3, none⟩ = some (.int .i64 b) ∧ wr.drew.cell? ⟨Bj, off + j * 8 + 4, none⟩ = some (.int .i64 a) ∧ wr.drew.cell? ⟨Bj, off + j * 8 + 5, none⟩ = some (.int .i64 v) ∧ wr.drew.cell? ⟨Bj, off + j * 8 + 6, none⟩ = some (.int .i64 c) ∧ wr.drew.cell? ⟨Bj, off + j * 8 + 7, none⟩ = some (.bool h) := ⟨r0, hJ⟩
                have C0 : Hid (∀ w', Below wr.drew.heap.size wr.drew w' → Calls Tryd.prog 25 #[.agg #[.string s, .int .i64 rl, .int .i64 d, .int .i64 b, .int .i64 a, .int .i64 v, .int .i64 c, .bool h]] w' (RetB (.int .i64 wk) w')) := fun w' hb => C.out w' ((Below.refl _ _).drew.trans hb)
                have bd : Hid (Below wo.heap.size wo wr.drew) := J.out.drew
                clear C r0 hJ J bw
                go_wp2
                by_cases t1 : rl ≤ (k : Int)
                · by_cases t2 : rn < wk
                  · exact absurd ⟨t1, t2⟩ hno.out
                  · have d3 : decide (rl ≤ (k : Int)) = true := decide_eq_true t1
                    have d4 : decide (rn < wk) = false := decide_eq_false t2
                    clear t1 t2
                    refine wp_region_held_drew (S := fun W => W.cell? ⟨R, j, none⟩ = some (.int .i64 rn) ∧ W.cell? ⟨Bj, off + j * 8, none⟩ = some (.string s) ∧ W.cell? ⟨Bj, off + j * 8 + 1, none⟩ = some (.int .i64 rl) ∧ W.cell? ⟨Bj, off + j * 8 + 2, none⟩ = some (.int .i64 d) ∧ W.cell? ⟨Bj, off + j * 8 + 3, none⟩ = some (.int .i64 b) ∧ W.cell? ⟨Bj, off + j * 8 + 4, none⟩ = some (.int .i64 a) ∧ W.cell? ⟨Bj, off + j * 8 + 5, none⟩ = some (.int .i64 v) ∧ W.cell? ⟨Bj, off + j * 8 + 6, none⟩ = some (.int .i64 c) ∧ W.cell? ⟨Bj, off + j * 8 + 7, none⟩ = some (.bool h)) (by kernel_rfl) hS0 (fun hHeld => ?_)
                    have C := C0
                    clear C0
                    generalize wr.drew = y1 at *
                    refine wpAnyH_take (i := 0) (v := (.slice (some ⟨Bj, off, none⟩) n cap)) rfl (by kernel_rfl) (by kernel_rfl) (by kernel_rfl) (fun _ _ _ h => h) (Or.inl ⟨by rfl, ?_⟩) hHeld ?_
                    · intro w hSw; go_simp
                    try simp only [List.getElem_toArray, List.getElem_cons_zero, List.getElem_cons_succ, Act.put, List.setIfInBounds_toArray, List.set_cons_zero, List.set_cons_succ]
                    refine wpAnyH_take (i := 1) (v := (.int .i64 (j : Int))) rfl (by kernel_rfl) (by kernel_rfl) (by kernel_rfl) (fun _ _ _ h => h) (Or.inl ⟨by rfl, ?_⟩) hHeld ?_
                    · intro w hSw; go_simp
                    try simp only [List.getElem_toArray, List.getElem_cons_zero, List.getElem_cons_succ, Act.put, List.setIfInBounds_toArray, List.set_cons_zero, List.set_cons_succ]
                    refine wpAnyH_take (i := 2) (v := (.pointer (some ⟨Bj, off + j * 8, none⟩))) rfl (by kernel_rfl) (by kernel_rfl) (by kernel_rfl) (fun _ _ _ h => h) (Or.inl ⟨by rfl, ?_⟩) hHeld ?_
                    · intro w hSw; go_simp
                    try simp only [List.getElem_toArray, List.getElem_cons_zero, List.getElem_cons_succ, Act.put, List.setIfInBounds_toArray, List.set_cons_zero, List.set_cons_succ]
                    refine wpAnyH_take (i := 3) (v := (.pointer (some ⟨Bj, off + j * 8 + 1, none⟩))) rfl (by kernel_rfl) (by kernel_rfl) (by kernel_rfl) (fun _ _ _ h => h) (Or.inl ⟨by rfl, ?_⟩) hHeld ?_
                    · intro w hSw; go_simp
                    try simp only [List.getElem_toArray, List.getElem_cons_zero, List.getElem_cons_succ, Act.put, List.setIfInBounds_toArray, List.set_cons_zero, List.set_cons_succ]
                    refine wpAnyH_take (i := 4) (v := (.int .i64 rl)) rfl (by kernel_rfl) (by kernel_rfl) (by kernel_rfl) (fun _ _ _ h => h) (Or.inl ⟨by rfl, ?_⟩) hHeld ?_
                    · intro w hSw; obtain ⟨z0, s0, s1, s2, s3, s4, s5, s6, s7⟩ := hSw; go_simp
                    try simp only [List.getElem_toArray, List.getElem_cons_zero, List.getElem_cons_succ, Act.put, List.setIfInBounds_toArray, List.set_cons_zero, List.set_cons_succ]
                    refine wpAnyH_take (i := 5) (v := (.int .i64 (k : Int))) rfl (by kernel_rfl) (by kernel_rfl) (by kernel_rfl) (fun _ _ _ h => h) (Or.inl ⟨by rfl, ?_⟩) hHeld ?_
                    · intro w hSw; go_simp
                    try simp only [List.getElem_toArray, List.getElem_cons_zero, List.getElem_cons_succ, Act.put, List.setIfInBounds_toArray, List.set_cons_zero, List.set_cons_succ]
                    refine wpAnyH_take (i := 6) (v := (.bool true)) rfl (by kernel_rfl) (by kernel_rfl) (by kernel_rfl) (fun _ _ _ h => h) (Or.inl ⟨by rfl, ?_⟩) hHeld ?_
                    · intro w hSw; go_simp
                    try simp only [List.getElem_toArray, List.getElem_cons_zero, List.getElem_cons_succ, Act.put, List.setIfInBounds_toArray, List.set_cons_zero, List.set_cons_succ]
                    refine wpAnyH_take (i := 7) (v := (.bool true)) rfl (by kernel_rfl) (by kernel_rfl) (by kernel_rfl) (fun _ _ _ h => h) (Or.inl ⟨by rfl, ?_⟩) hHeld ?_
                    · intro w hSw; go_simp
                    try simp only [List.getElem_toArray, List.getElem_cons_zero, List.getElem_cons_succ, Act.put, List.setIfInBounds_toArray, List.set_cons_zero, List.set_cons_succ]
                    refine wpAnyH_take (i := 8) (v := (.slice (some ⟨R, 0, none⟩) n n)) rfl (by kernel_rfl) (by kernel_rfl) (by kernel_rfl) (fun _ _ _ h => h) (Or.inl ⟨by rfl, ?_⟩) hHeld ?_
                    · intro w hSw; go_simp
                    try simp only [List.getElem_toArray, List.getElem_cons_zero, List.getElem_cons_succ, Act.put, List.setIfInBounds_toArray, List.set_cons_zero, List.set_cons_succ]
                    refine wpAnyH_take (i := 9) (v := (.int .i64 (j : Int))) rfl (by kernel_rfl) (by kernel_rfl) (by kernel_rfl) (fun _ _ _ h => h) (Or.inl ⟨by rfl, ?_⟩) hHeld ?_
                    · intro w hSw; go_simp
                    try simp only [List.getElem_toArray, List.getElem_cons_zero, List.getElem_cons_succ, Act.put, List.setIfInBounds_toArray, List.set_cons_zero, List.set_cons_succ]
                    refine wpAnyH_take (i := 10) (v := (.pointer (some ⟨R, j, none⟩))) rfl (by kernel_rfl) (by kernel_rfl) (by kernel_rfl) (fun _ _ _ h => h) (Or.inl ⟨by rfl, ?_⟩) hHeld ?_
                    · intro w hSw; go_simp
                    try simp only [List.getElem_toArray, List.getElem_cons_zero, List.getElem_cons_succ, Act.put, List.setIfInBounds_toArray, List.set_cons_zero, List.set_cons_succ]
                    refine wpAnyH_take (i := 11) (v := (.int .i64 rn)) rfl (by kernel_rfl) (by kernel_rfl) (by kernel_rfl) (fun _ _ _ h => h) (Or.inl ⟨by rfl, ?_⟩) hHeld ?_
                    · intro w hSw; obtain ⟨z0, s0, s1, s2, s3, s4, s5, s6, s7⟩ := hSw; go_simp
                    try simp only [List.getElem_toArray, List.getElem_cons_zero, List.getElem_cons_succ, Act.put, List.setIfInBounds_toArray, List.set_cons_zero, List.set_cons_succ]
                    refine wpAnyH_take (i := 12) (v := (.slice (some ⟨Bj, off, none⟩) n cap)) rfl (by kernel_rfl) (by kernel_rfl) (by kernel_rfl) (fun _ _ _ h => h) (Or.inl ⟨by rfl, ?_⟩) hHeld ?_
                    · intro w hSw; go_simp
                    try simp only [List.getElem_toArray, List.getElem_cons_zero, List.getElem_cons_succ, Act.put, List.setIfInBounds_toArray, List.set_cons_zero, List.set_cons_succ]
                    refine wpAnyH_take (i := 13) (v := (.int .i64 (j : Int))) rfl (by kernel_rfl) (by kernel_rfl) (by kernel_rfl) (fun _ _ _ h => h) (Or.inl ⟨by rfl, ?_⟩) hHeld ?_
                    · intro w hSw; go_simp
                    try simp only [List.getElem_toArray, List.getElem_cons_zero, List.getElem_cons_succ, Act.put, List.setIfInBounds_toArray, List.set_cons_zero, List.set_cons_succ]
                    refine wpAnyH_take (i := 14) (v := (.pointer (some ⟨Bj, off + j * 8, none⟩))) rfl (by kernel_rfl) (by kernel_rfl) (by kernel_rfl) (fun _ _ _ h => h) (Or.inl ⟨by rfl, ?_⟩) hHeld ?_
                    · intro w hSw; go_simp
                    try simp only [List.getElem_toArray, List.getElem_cons_zero, List.getElem_cons_succ, Act.put, List.setIfInBounds_toArray, List.set_cons_zero, List.set_cons_succ]
                    refine wpAnyH_take (i := 15) (v := (.agg #[.string s, .int .i64 rl, .int .i64 d, .int .i64 b, .int .i64 a, .int .i64 v, .int .i64 c, .bool h])) rfl (by kernel_rfl) (by kernel_rfl) (by kernel_rfl) (fun _ _ _ h => h) (Or.inl ⟨by rfl, ?_⟩) hHeld ?_
                    · intro w hSw; obtain ⟨z0, s0, s1, s2, s3, s4, s5, s6, s7⟩ := hSw; go_simp
                    try simp only [List.getElem_toArray, List.getElem_cons_zero, List.getElem_cons_succ, Act.put, List.setIfInBounds_toArray, List.set_cons_zero, List.set_cons_succ]
                    refine wpAnyH_ready (rs := [16]) (by kernel_rfl) (by simp) ?_
                    refine AllReadyH.cons rfl (fun K hK => ?_) AllReadyH.nil
                    clear hHeld
                    go_simp
                    refine (C.out _ (Below.refl _ _)).mono ?_
                    rintro e y2 ⟨rfl, hb⟩
                    refine hK.out _ _ (held_busy hS0 hb) (fun hHeld => ?_)
                    clear hK K hS0
                    try simp only [List.getElem_toArray, List.getElem_cons_zero, List.getElem_cons_succ, Act.put, List.setIfInBounds_toArray, List.set_cons_zero, List.set_cons_succ]
                    refine wpAnyH_take (i := 17) (v := (.bool false)) rfl (by kernel_rfl) (by kernel_rfl) (by kernel_rfl) (fun _ _ _ h => h) (Or.inl ⟨by rfl, ?_⟩) hHeld ?_
                    · intro w hSw; go_simp
                    try simp only [List.getElem_toArray, List.getElem_cons_zero, List.getElem_cons_succ, Act.put, List.setIfInBounds_toArray, List.set_cons_zero, List.set_cons_succ]
                    have bd2 : Hid (Below wo.heap.size wo y2) := below_on bd.out hb
                    clear hb bd C
                    refine wpAnyH_take (i := 18) (v := (.bool false)) rfl (by kernel_rfl) (by kernel_rfl) (by kernel_rfl) (fun _ _ _ h => h) (Or.inl ⟨by rfl, ?_⟩) hHeld ?_
                    · intro w hSw; go_simp
                    try simp only [List.getElem_toArray, List.getElem_cons_zero, List.getElem_cons_succ, Act.put, List.setIfInBounds_toArray, List.set_cons_zero, List.set_cons_succ]
                    refine wpAnyH_take (i := 19) (v := (.bool false)) rfl (by kernel_rfl) (by kernel_rfl) (by kernel_rfl) (fun _ _ _ h => h) (Or.inl ⟨by rfl, ?_⟩) hHeld ?_
                    · intro w hSw; go_simp
                    try simp only [List.getElem_toArray, List.getElem_cons_zero, List.getElem_cons_succ, Act.put, List.setIfInBounds_toArray, List.set_cons_zero, List.set_cons_succ]
                    refine wpAnyH_done (by kernel_rfl) ?_ _
                    obtain ⟨z0, s0, s1, s2, s3, s4, s5, s6, s7⟩ := hHeld
                    go_wp2_with fail
                    go_quiet (fail)
                    go_wp2
                    go_roundw
                    case rel => exact ⟨j + 1, by first | rfl | simp, by omega, Lib.hid (below_dN bd2.out _)⟩
                    case measure => simp [intOf]; omega
                · have d3 : decide (rl ≤ (k : Int)) = false := decide_eq_false t1
                  clear t1 C0
                  refine wp_region_held_drew (S := fun W => W.cell? ⟨R, j, none⟩ = some (.int .i64 rn) ∧ W.cell? ⟨Bj, off + j * 8, none⟩ = some (.string s) ∧ W.cell? ⟨Bj, off + j * 8 + 1, none⟩ = some (.int .i64 rl) ∧ W.cell? ⟨Bj, off + j * 8 + 2, none⟩ = some (.int .i64 d) ∧ W.cell? ⟨Bj, off + j * 8 + 3, none⟩ = some (.int .i64 b) ∧ W.cell? ⟨Bj, off + j * 8 + 4, none⟩ = some (.int .i64 a) ∧ W.cell? ⟨Bj, off + j * 8 + 5, none⟩ = some (.int .i64 v) ∧ W.cell? ⟨Bj, off + j * 8 + 6, none⟩ = some (.int .i64 c) ∧ W.cell? ⟨Bj, off + j * 8 + 7, none⟩ = some (.bool h)) (by kernel_rfl) hS0 (fun hHeld => ?_)
                  generalize wr.drew = y1 at *
                  refine wpAnyH_take (i := 0) (v := (.slice (some ⟨Bj, off, none⟩) n cap)) rfl (by kernel_rfl) (by kernel_rfl) (by kernel_rfl) (fun _ _ _ h => h) (Or.inl ⟨by rfl, ?_⟩) hHeld ?_
                  · intro w hSw; go_simp
                  try simp only [List.getElem_toArray, List.getElem_cons_zero, List.getElem_cons_succ, Act.put, List.setIfInBounds_toArray, List.set_cons_zero, List.set_cons_succ]
                  refine wpAnyH_take (i := 1) (v := (.int .i64 (j : Int))) rfl (by kernel_rfl) (by kernel_rfl) (by kernel_rfl) (fun _ _ _ h => h) (Or.inl ⟨by rfl, ?_⟩) hHeld ?_
                  · intro w hSw; go_simp
                  try simp only [List.getElem_toArray, List.getElem_cons_zero, List.getElem_cons_succ, Act.put, List.setIfInBounds_toArray, List.set_cons_zero, List.set_cons_succ]
                  refine wpAnyH_take (i := 2) (v := (.pointer (some ⟨Bj, off + j * 8, none⟩))) rfl (by kernel_rfl) (by kernel_rfl) (by kernel_rfl) (fun _ _ _ h => h) (Or.inl ⟨by rfl, ?_⟩) hHeld ?_
                  · intro w hSw; go_simp
                  try simp only [List.getElem_toArray, List.getElem_cons_zero, List.getElem_cons_succ, Act.put, List.setIfInBounds_toArray, List.set_cons_zero, List.set_cons_succ]
                  refine wpAnyH_take (i := 3) (v := (.pointer (some ⟨Bj, off + j * 8 + 1, none⟩))) rfl (by kernel_rfl) (by kernel_rfl) (by kernel_rfl) (fun _ _ _ h => h) (Or.inl ⟨by rfl, ?_⟩) hHeld ?_
                  · intro w hSw; go_simp
                  try simp only [List.getElem_toArray, List.getElem_cons_zero, List.getElem_cons_succ, Act.put, List.setIfInBounds_toArray, List.set_cons_zero, List.set_cons_succ]
                  refine wpAnyH_take (i := 4) (v := (.int .i64 rl)) rfl (by kernel_rfl) (by kernel_rfl) (by kernel_rfl) (fun _ _ _ h => h) (Or.inl ⟨by rfl, ?_⟩) hHeld ?_
                  · intro w hSw; obtain ⟨z0, s0, s1, s2, s3, s4, s5, s6, s7⟩ := hSw; go_simp
                  try simp only [List.getElem_toArray, List.getElem_cons_zero, List.getElem_cons_succ, Act.put, List.setIfInBounds_toArray, List.set_cons_zero, List.set_cons_succ]
                  refine wpAnyH_take (i := 5) (v := (.int .i64 (k : Int))) rfl (by kernel_rfl) (by kernel_rfl) (by kernel_rfl) (fun _ _ _ h => h) (Or.inl ⟨by rfl, ?_⟩) hHeld ?_
                  · intro w hSw; go_simp
                  try simp only [List.getElem_toArray, List.getElem_cons_zero, List.getElem_cons_succ, Act.put, List.setIfInBounds_toArray, List.set_cons_zero, List.set_cons_succ]
                  refine wpAnyH_take (i := 6) (v := (.bool false)) rfl (by kernel_rfl) (by kernel_rfl) (by kernel_rfl) (fun _ _ _ h => h) (Or.inl ⟨by rfl, ?_⟩) hHeld ?_
                  · intro w hSw; go_simp
                  try simp only [List.getElem_toArray, List.getElem_cons_zero, List.getElem_cons_succ, Act.put, List.setIfInBounds_toArray, List.set_cons_zero, List.set_cons_succ]
                  refine wpAnyH_take (i := 7) (v := (.bool false)) rfl (by kernel_rfl) (by kernel_rfl) (by kernel_rfl) (fun _ _ _ h => h) (Or.inl ⟨by rfl, ?_⟩) hHeld ?_
                  · intro w hSw; go_simp
                  try simp only [List.getElem_toArray, List.getElem_cons_zero, List.getElem_cons_succ, Act.put, List.setIfInBounds_toArray, List.set_cons_zero, List.set_cons_succ]
                  refine wpAnyH_take (i := 8) (v := undef) rfl (by kernel_rfl) (by kernel_rfl) (by kernel_rfl) (fun _ _ _ h => h) (Or.inr ⟨by rfl, rfl⟩) hHeld ?_
                  try simp only [List.getElem_toArray, List.getElem_cons_zero, List.getElem_cons_succ, Act.put, List.setIfInBounds_toArray, List.set_cons_zero, List.set_cons_succ]
                  refine wpAnyH_take (i := 9) (v := undef) rfl (by kernel_rfl) (by kernel_rfl) (by kernel_rfl) (fun _ _ _ h => h) (Or.inr ⟨by rfl, rfl⟩) hHeld ?_
                  try simp only [List.getElem_toArray, List.getElem_cons_zero, List.getElem_cons_succ, Act.put, List.setIfInBounds_toArray, List.set_cons_zero, List.set_cons_succ]
                  refine wpAnyH_take (i := 10) (v := undef) rfl (by kernel_rfl) (by kernel_rfl) (by kernel_rfl) (fun _ _ _ h => h) (Or.inr ⟨by rfl, rfl⟩) hHeld ?_
                  try simp only [List.getElem_toArray, List.getElem_cons_zero, List.getElem_cons_succ, Act.put, List.setIfInBounds_toArray, List.set_cons_zero, List.set_cons_succ]
                  refine wpAnyH_take (i := 11) (v := undef) rfl (by kernel_rfl) (by kernel_rfl) (by kernel_rfl) (fun _ _ _ h => h) (Or.inr ⟨by rfl, rfl⟩) hHeld ?_
                  try simp only [List.getElem_toArray, List.getElem_cons_zero, List.getElem_cons_succ, Act.put, List.setIfInBounds_toArray, List.set_cons_zero, List.set_cons_succ]
                  refine wpAnyH_take (i := 12) (v := undef) rfl (by kernel_rfl) (by kernel_rfl) (by kernel_rfl) (fun _ _ _ h => h) (Or.inr ⟨by rfl, rfl⟩) hHeld ?_
                  try simp only [List.getElem_toArray, List.getElem_cons_zero, List.getElem_cons_succ, Act.put, List.setIfInBounds_toArray, List.set_cons_zero, List.set_cons_succ]
                  refine wpAnyH_take (i := 13) (v := undef) rfl (by kernel_rfl) (by kernel_rfl) (by kernel_rfl) (fun _ _ _ h => h) (Or.inr ⟨by rfl, rfl⟩) hHeld ?_
                  try simp only [List.getElem_toArray, List.getElem_cons_zero, List.getElem_cons_succ, Act.put, List.setIfInBounds_toArray, List.set_cons_zero, List.set_cons_succ]
                  refine wpAnyH_take (i := 14) (v := undef) rfl (by kernel_rfl) (by kernel_rfl) (by kernel_rfl) (fun _ _ _ h => h) (Or.inr ⟨by rfl, rfl⟩) hHeld ?_
                  try simp only [List.getElem_toArray, List.getElem_cons_zero, List.getElem_cons_succ, Act.put, List.setIfInBounds_toArray, List.set_cons_zero, List.set_cons_succ]
                  refine wpAnyH_take (i := 15) (v := undef) rfl (by kernel_rfl) (by kernel_rfl) (by kernel_rfl) (fun _ _ _ h => h) (Or.inr ⟨by rfl, rfl⟩) hHeld ?_
                  try simp only [List.getElem_toArray, List.getElem_cons_zero, List.getElem_cons_succ, Act.put, List.setIfInBounds_toArray, List.set_cons_zero, List.set_cons_succ]
                  refine wpAnyH_take (i := 16) (v := undef) rfl (by kernel_rfl) (by kernel_rfl) (by kernel_rfl) (fun _ _ _ h => h) (Or.inr ⟨by rfl, rfl⟩) hHeld ?_
                  try simp only [List.getElem_toArray, List.getElem_cons_zero, List.getElem_cons_succ, Act.put, List.setIfInBounds_toArray, List.set_cons_zero, List.set_cons_succ]
                  refine wpAnyH_take (i := 17) (v := undef) rfl (by kernel_rfl) (by kernel_rfl) (by kernel_rfl) (fun _ _ _ h => h) (Or.inr ⟨by rfl, rfl⟩) hHeld ?_
                  try simp only [List.getElem_toArray, List.getElem_cons_zero, List.getElem_cons_succ, Act.put, List.setIfInBounds_toArray, List.set_cons_zero, List.set_cons_succ]
                  refine wpAnyH_take (i := 18) (v := (.bool false)) rfl (by kernel_rfl) (by kernel_rfl) (by kernel_rfl) (fun _ _ _ h => h) (Or.inl ⟨by rfl, ?_⟩) hHeld ?_
                  · intro w hSw; go_simp
                  try simp only [List.getElem_toArray, List.getElem_cons_zero, List.getElem_cons_succ, Act.put, List.setIfInBounds_toArray, List.set_cons_zero, List.set_cons_succ]
                  refine wpAnyH_take (i := 19) (v := (.bool false)) rfl (by kernel_rfl) (by kernel_rfl) (by kernel_rfl) (fun _ _ _ h => h) (Or.inl ⟨by rfl, ?_⟩) hHeld ?_
                  · intro w hSw; go_simp
                  try simp only [List.getElem_toArray, List.getElem_cons_zero, List.getElem_cons_succ, Act.put, List.setIfInBounds_toArray, List.set_cons_zero, List.set_cons_succ]
                  refine wpAnyH_done (by kernel_rfl) ?_ _
                  obtain ⟨z0, s0, s1, s2, s3, s4, s5, s6, s7⟩ := hHeld
                  have bd2 := bd
                  go_wp2_with fail
                  go_quiet (fail)
                  go_wp2
                  go_roundw
                  case rel => exact ⟨j + 1, by first | rfl | simp, by omega, Lib.hid (below_dN bd2.out _)⟩
                  case measure => simp [intOf]; omega
              · have d2 : decide ((j : Int) < (n : Int)) = false := decide_eq_false (by omega)
                have bw : Hid (Below w.heap.size w wr) := below_on KB.out J.out
                have KR2 : Hid (Cel R n (cn r k) wr) := KR.out.on J.out
                have hX2 : Hid (RdT wr (some ⟨Bx, offx, none⟩) r) := hX.out.below J.out
                have KR3 : Hid (Cel R n (cn r (k + 1)) wr) := KR2.out.to fun i hi => by rw [cn_next i hxk.out, if_neg (by omega)]; omega
                clear J KR2
                have d8 : decide ((-1 : Int) ≥ (n : Int)) = false := decide_eq_false (by omega)
                go_wp2
                go_roundw
                case rel => exact ⟨k + 1, by first | rfl | simp, by omega, ⟨bw.out, KR3.out, hX2.out⟩⟩
                case measure => simp [intOf]; omega
          · have hpp := Lib.hid hpp
            have hmin0 := Lib.hid hmn
            obtain ⟨xp, hxp⟩ : ∃ x, l[p]? = some x := ⟨_, List.getElem?_eq_getElem (by rw [H.out.1]; exact hpn)⟩
            obtain ⟨dp, hdp⟩ : ∃ z, xp.dl = z := ⟨_, rfl⟩
            have hmin : Hid (∀ j, j < n → pend (atL Jb.rel l) (atL Jb.work l) r k j → dp ≤ atL Jb.dl l j) := fun j hj h => by have := hmin0.out j hj h; rw [atL_of hxp, hdp] at this; exact this
            obtain ⟨Bj, off, hA', _⟩ := (H.out.2.1.below KB.out) p xp hxp
            subst hA'
            have hjp : Hid (∀ w', Below w.heap.size w w' → w'.cell? ⟨Bj, off + p * 8 + 2, none⟩ = some (.int .i64 dp)) := fun w' hb => by
              obtain ⟨b, off', he, h1⟩ := (H.out.2.1.below hb) p xp hxp
              cases he
              rw [← hdp]; exact h1.2.2.1
            have bp1 : (p : Int) < (n : Int) := by omega
            have bp0 : (0 : Int) ≤ (p : Int) := by omega
            have dp1 : decide ((p : Int) < 0) = false := decide_eq_false (by omega)
            have dp2 : decide ((p : Int) ≥ (n : Int)) = false := decide_eq_false (by omega)
            clear hmn hx hxp hdp hmin0
            go_wp2
            clear t0 b1
            go_loopw [7, 8] (fun s7 s8 wr => ∃ (j : Nat), s7 = .int .i64 (j : Int) ∧ j ≤ n ∧ Hid (Below wo.heap.size wo wr)) (fun s7 _ _ => n - (intOf s7).toNat)
            case atStart => exact ⟨0, rfl, by omega, Lib.hid (Below.refl _ _)⟩
            case round =>
              obtain ⟨j, rfl, hjn, J⟩ := hrel
              rcases Nat.lt_or_ge j n with hlt2 | hge2
              · have d2 : decide ((j : Int) < (n : Int)) = true := decide_eq_true (by omega)
                have e2 : IntKind.i64.wrap ((j : Int) + 1) = ((j + 1 : Nat) : Int) := by rw [IntKind.wrap_i64]; omega
                have b1 : (j : Int) < (n : Int) := by omega
                have b0 : (0 : Int) ≤ (j : Int) := by omega
                obtain ⟨x, hx⟩ : ∃ x, l[j]? = some x := ⟨_, List.getElem?_eq_getElem (by rw [H.out.1]; exact hlt2)⟩
                have bw : Hid (Below w.heap.size w wr) := below_on KB.out J.out
                obtain ⟨Bj2, off2, hA, hJ⟩ := (H.out.2.1.below bw.out) j x hx
                simp only [Option.some.injEq, Addr.mk.injEq, and_true] at hA
                obtain ⟨rfl, rfl⟩ := hA
                have c9 := hjp.out wr bw.out
                have r0 := (KR.out.on J.out).cell j hlt2
                have C : Hid (∀ w', Below wr.heap.size wr w' → Calls Tryd.prog 25 #[.agg x.cells] w' (RetB (.int .i64 x.work) w')) := fun w' hb => jwork_any x w' (H.out.2.2.1 x (List.mem_of_getElem? hx)) ((H.out.2.2.2.below bw.out).below hb)
                have hp : Hid (pend (atL Jb.rel l) (atL Jb.work l) r k j ↔ x.rel ≤ (k : Int) ∧ cn r k j < x.work) := by show _ ↔ _; unfold pend; rw [atL_of hx, atL_of hx]
                have hle : Hid (x.rel ≤ (k : Int) ∧ cn r k j < x.work → dp ≤ x.dl) := fun h => by have := hmin.out j hlt2 (hp.out.2 h); rw [atL_of hx] at this; exact this
                clear hx hp
                obtain ⟨wk, hwk⟩ : ∃ z, x.work = z := ⟨_, rfl⟩
                rw [hwk] at C hle
                clear hwk
                unfold JAt at hJ
                unfold Jb.cells at C
                obtain ⟨s, rl, d, b, a, v, c, h⟩ := x
                simp only at hJ C hle
                generalize cn r k j = rn at *
                have hS0 : wr.drew.cell? ⟨R, j, none⟩ = some (.int .i64 rn) ∧ wr.drew.cell? ⟨Bj, off + j * 8, none⟩ = some (.string s) ∧ wr.drew.cell? ⟨Bj, off + j * 8 + 1, none⟩ = some (.int .i64 rl) ∧ wr.drew.cell? ⟨Bj, off + j * 8 + 2, none⟩ = some (.int .i64 d) ∧ wr.drew.cell? ⟨Bj, off + j * 8 + 3, none⟩ = some (.int .i64 b) ∧ wr.drew.cell? ⟨Bj, off + j * 8 + 4, none⟩ = some (.int .i64 a) ∧ wr.drew.cell? ⟨Bj, off + j * 8 + 5, none⟩ = some (.int .i64 v) ∧ wr.drew.cell? ⟨Bj, off + j * 8 + 6, none⟩ = some (.int .i64 c) ∧ wr.drew.cell? ⟨Bj, off + j * 8 + 7, none⟩ = some (.bool h) := ⟨r0, hJ⟩
                have C0 : Hid (∀ w', Below wr.drew.heap.size wr.drew w' → Calls Tryd.prog 25 #[.agg #[.string s, .int .i64 rl, .int .i64 d, .int .i64 b, .int .i64 a, .int .i64 v, .int .i64 c, .bool h]] w' (RetB (.int .i64 wk) w')) := fun w' hb => C.out w' ((Below.refl _ _).drew.trans hb)
                have bd : Hid (Below wo.heap.size wo wr.drew) := J.out.drew
                clear C r0 hJ J bw
                have c9' : wr.drew.cell? ⟨Bj, off + p * 8 + 2, none⟩ = some (.int .i64 dp) := c9
                clear c9
                go_wp2
                by_cases t1 : rl ≤ (k : Int)
                · by_cases t2 : rn < wk
                  · have d3 : decide (rl ≤ (k : Int)) = true := decide_eq_true t1
                    have d4 : decide (rn < wk) = true := decide_eq_true t2
                    have d5 : decide (d < dp) = false := decide_eq_false (by have := hle.out ⟨t1, t2⟩; omega)
                    clear t1 t2
                    refine wp_region_held_drew (S := fun W => W.cell? ⟨R, j, none⟩ = some (.int .i64 rn) ∧ W.cell? ⟨Bj, off + j * 8, none⟩ = some (.string s) ∧ W.cell? ⟨Bj, off + j * 8 + 1, none⟩ = some (.int .i64 rl) ∧ W.cell? ⟨Bj, off + j * 8 + 2, none⟩ = some (.int .i64 d) ∧ W.cell? ⟨Bj, off + j * 8 + 3, none⟩ = some (.int .i64 b) ∧ W.cell? ⟨Bj, off + j * 8 + 4, none⟩ = some (.int .i64 a) ∧ W.cell? ⟨Bj, off + j * 8 + 5, none⟩ = some (.int .i64 v) ∧ W.cell? ⟨Bj, off + j * 8 + 6, none⟩ = some (.int .i64 c) ∧ W.cell? ⟨Bj, off + j * 8 + 7, none⟩ = some (.bool h)) (by kernel_rfl) hS0 (fun hHeld => ?_)
                    have C := C0
                    clear C0
                    generalize wr.drew = y1 at *
                    refine wpAnyH_take (i := 0) (v := (.slice (some ⟨Bj, off, none⟩) n cap)) rfl (by kernel_rfl) (by kernel_rfl) (by kernel_rfl) (fun _ _ _ h => h) (Or.inl ⟨by rfl, ?_⟩) hHeld ?_
                    · intro w hSw; go_simp
                    try simp only [List.getElem_toArray, List.getElem_cons_zero, List.getElem_cons_succ, Act.put, List.setIfInBounds_toArray, List.set_cons_zero, List.set_cons_succ]
                    refine wpAnyH_take (i := 1) (v := (.int .i64 (j : Int))) rfl (by kernel_rfl) (by kernel_rfl) (by kernel_rfl) (fun _ _ _ h => h) (Or.inl ⟨by rfl, ?_⟩) hHeld ?_
                    · intro w hSw; go_simp
                    try simp only [List.getElem_toArray, List.getElem_cons_zero, List.getElem_cons_succ, Act.put, List.setIfInBounds_toArray, List.set_cons_zero, List.set_cons_succ]
                    refine wpAnyH_take (i := 2) (v := (.pointer (some ⟨Bj, off + j * 8, none⟩))) rfl (by kernel_rfl) (by kernel_rfl) (by kernel_rfl) (fun _ _ _ h => h) (Or.inl ⟨by rfl, ?_⟩) hHeld ?_
                    · intro w hSw; go_simp
                    try simp only [List.getElem_toArray, List.getElem_cons_zero, List.getElem_cons_succ, Act.put, List.setIfInBounds_toArray, List.set_cons_zero, List.set_cons_succ]
                    refine wpAnyH_take (i := 3) (v := (.pointer (some ⟨Bj, off + j * 8 + 1, none⟩))) rfl (by kernel_rfl) (by kernel_rfl) (by kernel_rfl) (fun _ _ _ h => h) (Or.inl ⟨by rfl, ?_⟩) hHeld ?_
                    · intro w hSw; go_simp
                    try simp only [List.getElem_toArray, List.getElem_cons_zero, List.getElem_cons_succ, Act.put, List.setIfInBounds_toArray, List.set_cons_zero, List.set_cons_succ]
                    refine wpAnyH_take (i := 4) (v := (.int .i64 rl)) rfl (by kernel_rfl) (by kernel_rfl) (by kernel_rfl) (fun _ _ _ h => h) (Or.inl ⟨by rfl, ?_⟩) hHeld ?_
                    · intro w hSw; obtain ⟨z0, s0, s1, s2, s3, s4, s5, s6, s7⟩ := hSw; go_simp
                    try simp only [List.getElem_toArray, List.getElem_cons_zero, List.getElem_cons_succ, Act.put, List.setIfInBounds_toArray, List.set_cons_zero, List.set_cons_succ]
                    refine wpAnyH_take (i := 5) (v := (.int .i64 (k : Int))) rfl (by kernel_rfl) (by kernel_rfl) (by kernel_rfl) (fun _ _ _ h => h) (Or.inl ⟨by rfl, ?_⟩) hHeld ?_
                    · intro w hSw; go_simp
                    try simp only [List.getElem_toArray, List.getElem_cons_zero, List.getElem_cons_succ, Act.put, List.setIfInBounds_toArray, List.set_cons_zero, List.set_cons_succ]
                    refine wpAnyH_take (i := 6) (v := (.bool true)) rfl (by kernel_rfl) (by kernel_rfl) (by kernel_rfl) (fun _ _ _ h => h) (Or.inl ⟨by rfl, ?_⟩) hHeld ?_
                    · intro w hSw; go_simp
                    try simp only [List.getElem_toArray, List.getElem_cons_zero, List.getElem_cons_succ, Act.put, List.setIfInBounds_toArray, List.set_cons_zero, List.set_cons_succ]
                    refine wpAnyH_take (i := 7) (v := (.bool true)) rfl (by kernel_rfl) (by kernel_rfl) (by kernel_rfl) (fun _ _ _ h => h) (Or.inl ⟨by rfl, ?_⟩) hHeld ?_
                    · intro w hSw; go_simp
                    try simp only [List.getElem_toArray, List.getElem_cons_zero, List.getElem_cons_succ, Act.put, List.setIfInBounds_toArray, List.set_cons_zero, List.set_cons_succ]
                    refine wpAnyH_take (i := 8) (v := (.slice (some ⟨R, 0, none⟩) n n)) rfl (by kernel_rfl) (by kernel_rfl) (by kernel_rfl) (fun _ _ _ h => h) (Or.inl ⟨by rfl, ?_⟩) hHeld ?_
                    · intro w hSw; go_simp
                    try simp only [List.getElem_toArray, List.getElem_cons_zero, List.getElem_cons_succ, Act.put, List.setIfInBounds_toArray, List.set_cons_zero, List.set_cons_succ]
                    refine wpAnyH_take (i := 9) (v := (.int .i64 (j : Int))) rfl (by kernel_rfl) (by kernel_rfl) (by kernel_rfl) (fun _ _ _ h => h) (Or.inl ⟨by rfl, ?_⟩) hHeld ?_
                    · intro w hSw; go_simp
                    try simp only [List.getElem_toArray, List.getElem_cons_zero, List.getElem_cons_succ, Act.put, List.setIfInBounds_toArray, List.set_cons_zero, List.set_cons_succ]
                    refine wpAnyH_take (i := 10) (v := (.pointer (some ⟨R, j, none⟩))) rfl (by kernel_rfl) (by kernel_rfl) (by kernel_rfl) (fun _ _ _ h => h) (Or.inl ⟨by rfl, ?_⟩) hHeld ?_
                    · intro w hSw; go_simp
                    try simp only [List.getElem_toArray, List.getElem_cons_zero, List.getElem_cons_succ, Act.put, List.setIfInBounds_toArray, List.set_cons_zero, List.set_cons_succ]
                    refine wpAnyH_take (i := 11) (v := (.int .i64 rn)) rfl (by kernel_rfl) (by kernel_rfl) (by kernel_rfl) (fun _ _ _ h => h) (Or.inl ⟨by rfl, ?_⟩) hHeld ?_
                    · intro w hSw; obtain ⟨z0, s0, s1, s2, s3, s4, s5, s6, s7⟩ := hSw; go_simp
                    try simp only [List.getElem_toArray, List.getElem_cons_zero, List.getElem_cons_succ, Act.put, List.setIfInBounds_toArray, List.set_cons_zero, List.set_cons_succ]
                    refine wpAnyH_take (i := 12) (v := (.slice (some ⟨Bj, off, none⟩) n cap)) rfl (by kernel_rfl) (by kernel_rfl) (by kernel_rfl) (fun _ _ _ h => h) (Or.inl ⟨by rfl, ?_⟩) hHeld ?_
                    · intro w hSw; go_simp
                    try simp only [List.getElem_toArray, List.getElem_cons_zero, List.getElem_cons_succ, Act.put, List.setIfInBounds_toArray, List.set_cons_zero, List.set_cons_succ]
                    refine wpAnyH_take (i := 13) (v := (.int .i64 (j : Int))) rfl (by kernel_rfl) (by kernel_rfl) (by kernel_rfl) (fun _ _ _ h => h) (Or.inl ⟨by rfl, ?_⟩) hHeld ?_
                    · intro w hSw; go_simp
                    try simp only [List.getElem_toArray, List.getElem_cons_zero, List.getElem_cons_succ, Act.put, List.setIfInBounds_toArray, List.set_cons_zero, List.set_cons_succ]
                    refine wpAnyH_take (i := 14) (v := (.pointer (some ⟨Bj, off + j * 8, none⟩))) rfl (by kernel_rfl) (by kernel_rfl) (by kernel_rfl) (fun _ _ _ h => h) (Or.inl ⟨by rfl, ?_⟩) hHeld ?_
                    · intro w hSw; go_simp
                    try simp only [List.getElem_toArray, List.getElem_cons_zero, List.getElem_cons_succ, Act.put, List.setIfInBounds_toArray, List.set_cons_zero, List.set_cons_succ]
                    refine wpAnyH_take (i := 15) (v := (.agg #[.string s, .int .i64 rl, .int .i64 d, .int .i64 b, .int .i64 a, .int .i64 v, .int .i64 c, .bool h])) rfl (by kernel_rfl) (by kernel_rfl) (by kernel_rfl) (fun _ _ _ h => h) (Or.inl ⟨by rfl, ?_⟩) hHeld ?_
                    · intro w hSw; obtain ⟨z0, s0, s1, s2, s3, s4, s5, s6, s7⟩ := hSw; go_simp
                    try simp only [List.getElem_toArray, List.getElem_cons_zero, List.getElem_cons_succ, Act.put, List.setIfInBounds_toArray, List.set_cons_zero, List.set_cons_succ]
                    refine wpAnyH_ready (rs := [16]) (by kernel_rfl) (by simp) ?_
                    refine AllReadyH.cons rfl (fun K hK => ?_) AllReadyH.nil
                    clear hHeld
                    go_simp
                    refine (C.out _ (Below.refl _ _)).mono ?_
                    rintro e y2 ⟨rfl, hb⟩
                    refine hK.out _ _ (held_busy hS0 hb) (fun hHeld => ?_)
                    clear hK K hS0
                    try simp only [List.getElem_toArray, List.getElem_cons_zero, List.getElem_cons_succ, Act.put, List.setIfInBounds_toArray, List.set_cons_zero, List.set_cons_succ]
                    refine wpAnyH_take (i := 17) (v := (.bool true)) rfl (by kernel_rfl) (by kernel_rfl) (by kernel_rfl) (fun _ _ _ h => h) (Or.inl ⟨by rfl, ?_⟩) hHeld ?_
                    · intro w hSw; go_simp
                    try simp only [List.getElem_toArray, List.getElem_cons_zero, List.getElem_cons_succ, Act.put, List.setIfInBounds_toArray, List.set_cons_zero, List.set_cons_succ]
                    have bd2 : Hid (Below wo.heap.size wo y2) := below_on bd.out hb
                    have c9 : y2.cell? ⟨Bj, off + p * 8 + 2, none⟩ = some (.int .i64 dp) := by rw [hb.cell (p := ⟨Bj, off + p * 8 + 2, none⟩) (cell_lt c9')]; exact c9'
                    clear c9'
                    clear hb bd C
                    refine wpAnyH_take (i := 18) (v := (.bool true)) rfl (by kernel_rfl) (by kernel_rfl) (by kernel_rfl) (fun _ _ _ h => h) (Or.inl ⟨by rfl, ?_⟩) hHeld ?_
                    · intro w hSw; go_simp
                    try simp only [List.getElem_toArray, List.getElem_cons_zero, List.getElem_cons_succ, Act.put, List.setIfInBounds_toArray, List.set_cons_zero, List.set_cons_succ]
                    refine wpAnyH_take (i := 19) (v := (.bool true)) rfl (by kernel_rfl) (by kernel_rfl) (by kernel_rfl) (fun _ _ _ h => h) (Or.inl ⟨by rfl, ?_⟩) hHeld ?_
                    · intro w hSw; go_simp
                    try simp only [List.getElem_toArray, List.getElem_cons_zero, List.getElem_cons_succ, Act.put, List.setIfInBounds_toArray, List.set_cons_zero, List.set_cons_succ]
                    refine wpAnyH_done (by kernel_rfl) ?_ _
                    obtain ⟨z0, s0, s1, s2, s3, s4, s5, s6, s7⟩ := hHeld
                    go_wp2_with fail
                    go_quiet (fail)
                    go_wp2
                    go_roundw
                    case rel => exact ⟨j + 1, by first | rfl | simp, by omega, Lib.hid (below_dN bd2.out _)⟩
                    case measure => simp [intOf]; omega
                  · have d3 : decide (rl ≤ (k : Int)) = true := decide_eq_true t1
                    have d4 : decide (rn < wk) = false := decide_eq_false t2
                    clear t1 t2
                    refine wp_region_held_drew (S := fun W => W.cell? ⟨R, j, none⟩ = some (.int .i64 rn) ∧ W.cell? ⟨Bj, off + j * 8, none⟩ = some (.string s) ∧ W.cell? ⟨Bj, off + j * 8 + 1, none⟩ = some (.int .i64 rl) ∧ W.cell? ⟨Bj, off + j * 8 + 2, none⟩ = some (.int .i64 d) ∧ W.cell? ⟨Bj, off + j * 8 + 3, none⟩ = some (.int .i64 b) ∧ W.cell? ⟨Bj, off + j * 8 + 4, none⟩ = some (.int .i64 a) ∧ W.cell? ⟨Bj, off + j * 8 + 5, none⟩ = some (.int .i64 v) ∧ W.cell? ⟨Bj, off + j * 8 + 6, none⟩ = some (.int .i64 c) ∧ W.cell? ⟨Bj, off + j * 8 + 7, none⟩ = some (.bool h)) (by kernel_rfl) hS0 (fun hHeld => ?_)
                    have C := C0
                    clear C0
                    generalize wr.drew = y1 at *
                    refine wpAnyH_take (i := 0) (v := (.slice (some ⟨Bj, off, none⟩) n cap)) rfl (by kernel_rfl) (by kernel_rfl) (by kernel_rfl) (fun _ _ _ h => h) (Or.inl ⟨by rfl, ?_⟩) hHeld ?_
                    · intro w hSw; go_simp
                    try simp only [List.getElem_toArray, List.getElem_cons_zero, List.getElem_cons_succ, Act.put, List.setIfInBounds_toArray, List.set_cons_zero, List.set_cons_succ]
                    refine wpAnyH_take (i := 1) (v := (.int .i64 (j : Int))) rfl (by kernel_rfl) (by kernel_rfl) (by kernel_rfl) (fun _ _ _ h => h) (Or.inl ⟨by rfl, ?_⟩) hHeld ?_
                    · intro w hSw; go_simp
                    try simp only [List.getElem_toArray, List.getElem_cons_zero, List.getElem_cons_succ, Act.put, List.setIfInBounds_toArray, List.set_cons_zero, List.set_cons_succ]
                    refine wpAnyH_take (i := 2) (v := (.pointer (some ⟨Bj, off + j * 8, none⟩))) rfl (by kernel_rfl) (by kernel_rfl) (by kernel_rfl) (fun _ _ _ h => h) (Or.inl ⟨by rfl, ?_⟩) hHeld ?_
                    · intro w hSw; go_simp
                    try simp only [List.getElem_toArray, List.getElem_cons_zero, List.getElem_cons_succ, Act.put, List.setIfInBounds_toArray, List.set_cons_zero, List.set_cons_succ]
                    refine wpAnyH_take (i := 3) (v := (.pointer (some ⟨Bj, off + j * 8 + 1, none⟩))) rfl (by kernel_rfl) (by kernel_rfl) (by kernel_rfl) (fun _ _ _ h => h) (Or.inl ⟨by rfl, ?_⟩) hHeld ?_
                    · intro w hSw; go_simp
                    try simp only [List.getElem_toArray, List.getElem_cons_zero, List.getElem_cons_succ, Act.put, List.setIfInBounds_toArray, List.set_cons_zero, List.set_cons_succ]
                    refine wpAnyH_take (i := 4) (v := (.int .i64 rl)) rfl (by kernel_rfl) (by kernel_rfl) (by kernel_rfl) (fun _ _ _ h => h) (Or.inl ⟨by rfl, ?_⟩) hHeld ?_
                    · intro w hSw; obtain ⟨z0, s0, s1, s2, s3, s4, s5, s6, s7⟩ := hSw; go_simp
                    try simp only [List.getElem_toArray, List.getElem_cons_zero, List.getElem_cons_succ, Act.put, List.setIfInBounds_toArray, List.set_cons_zero, List.set_cons_succ]
                    refine wpAnyH_take (i := 5) (v := (.int .i64 (k : Int))) rfl (by kernel_rfl) (by kernel_rfl) (by kernel_rfl) (fun _ _ _ h => h) (Or.inl ⟨by rfl, ?_⟩) hHeld ?_
                    · intro w hSw; go_simp
                    try simp only [List.getElem_toArray, List.getElem_cons_zero, List.getElem_cons_succ, Act.put, List.setIfInBounds_toArray, List.set_cons_zero, List.set_cons_succ]
                    refine wpAnyH_take (i := 6) (v := (.bool true)) rfl (by kernel_rfl) (by kernel_rfl) (by kernel_rfl) (fun _ _ _ h => h) (Or.inl ⟨by rfl, ?_⟩) hHeld ?_
                    · intro w hSw; go_simp
                    try simp only [List.getElem_toArray, List.getElem_cons_zero, List.getElem_cons_succ, Act.put, List.setIfInBounds_toArray, List.set_cons_zero, List.set_cons_succ]
                    refine wpAnyH_take (i := 7) (v := (.bool true)) rfl (by kernel_rfl) (by kernel_rfl) (by kernel_rfl) (fun _ _ _ h => h) (Or.inl ⟨by rfl, ?_⟩) hHeld ?_
                    · intro w hSw; go_simp
                    try simp only [List.getElem_toArray, List.getElem_cons_zero, List.getElem_cons_succ, Act.put, List.setIfInBounds_toArray, List.set_cons_zero, List.set_cons_succ]
                    refine wpAnyH_take (i := 8) (v := (.slice (some ⟨R, 0, none⟩) n n)) rfl (by kernel_rfl) (by kernel_rfl) (by kernel_rfl) (fun _ _ _ h => h) (Or.inl ⟨by rfl, ?_⟩) hHeld ?_
                    · intro w hSw; go_simp
                    try simp only [List.getElem_toArray, List.getElem_cons_zero, List.getElem_cons_succ, Act.put, List.setIfInBounds_toArray, List.set_cons_zero, List.set_cons_succ]
                    refine wpAnyH_take (i := 9) (v := (.int .i64 (j : Int))) rfl (by kernel_rfl) (by kernel_rfl) (by kernel_rfl) (fun _ _ _ h => h) (Or.inl ⟨by rfl, ?_⟩) hHeld ?_
                    · intro w hSw; go_simp
                    try simp only [List.getElem_toArray, List.getElem_cons_zero, List.getElem_cons_succ, Act.put, List.setIfInBounds_toArray, List.set_cons_zero, List.set_cons_succ]
                    refine wpAnyH_take (i := 10) (v := (.pointer (some ⟨R, j, none⟩))) rfl (by kernel_rfl) (by kernel_rfl) (by kernel_rfl) (fun _ _ _ h => h) (Or.inl ⟨by rfl, ?_⟩) hHeld ?_
                    · intro w hSw; go_simp
                    try simp only [List.getElem_toArray, List.getElem_cons_zero, List.getElem_cons_succ, Act.put, List.setIfInBounds_toArray, List.set_cons_zero, List.set_cons_succ]
                    refine wpAnyH_take (i := 11) (v := (.int .i64 rn)) rfl (by kernel_rfl) (by kernel_rfl) (by kernel_rfl) (fun _ _ _ h => h) (Or.inl ⟨by rfl, ?_⟩) hHeld ?_
                    · intro w hSw; obtain ⟨z0, s0, s1, s2, s3, s4, s5, s6, s7⟩ := hSw; go_simp
                    try simp only [List.getElem_toArray, List.getElem_cons_zero, List.getElem_cons_succ, Act.put, List.setIfInBounds_toArray, List.set_cons_zero, List.set_cons_succ]
                    refine wpAnyH_take (i := 12) (v := (.slice (some ⟨Bj, off, none⟩) n cap)) rfl (by kernel_rfl) (by kernel_rfl) (by kernel_rfl) (fun _ _ _ h => h) (Or.inl ⟨by rfl, ?_⟩) hHeld ?_
                    · intro w hSw; go_simp
                    try simp only [List.getElem_toArray, List.getElem_cons_zero, List.getElem_cons_succ, Act.put, List.setIfInBounds_toArray, List.set_cons_zero, List.set_cons_succ]
                    refine wpAnyH_take (i := 13) (v := (.int .i64 (j : Int))) rfl (by kernel_rfl) (by kernel_rfl) (by kernel_rfl) (fun _ _ _ h => h) (Or.inl ⟨by rfl, ?_⟩) hHeld ?_
                    · intro w hSw; go_simp
                    try simp only [List.getElem_toArray, List.getElem_cons_zero, List.getElem_cons_succ, Act.put, List.setIfInBounds_toArray, List.set_cons_zero, List.set_cons_succ]
                    refine wpAnyH_take (i := 14) (v := (.pointer (some ⟨Bj, off + j * 8, none⟩))) rfl (by kernel_rfl) (by kernel_rfl) (by kernel_rfl) (fun _ _ _ h => h) (Or.inl ⟨by rfl, ?_⟩) hHeld ?_
                    · intro w hSw; go_simp
                    try simp only [List.getElem_toArray, List.getElem_cons_zero, List.getElem_cons_succ, Act.put, List.setIfInBounds_toArray, List.set_cons_zero, List.set_cons_succ]
                    refine wpAnyH_take (i := 15) (v := (.agg #[.string s, .int .i64 rl, .int .i64 d, .int .i64 b, .int .i64 a, .int .i64 v, .int .i64 c, .bool h])) rfl (by kernel_rfl) (by kernel_rfl) (by kernel_rfl) (fun _ _ _ h => h) (Or.inl ⟨by rfl, ?_⟩) hHeld ?_
                    · intro w hSw; obtain ⟨z0, s0, s1, s2, s3, s4, s5, s6, s7⟩ := hSw; go_simp
                    try simp only [List.getElem_toArray, List.getElem_cons_zero, List.getElem_cons_succ, Act.put, List.setIfInBounds_toArray, List.set_cons_zero, List.set_cons_succ]
                    refine wpAnyH_ready (rs := [16]) (by kernel_rfl) (by simp) ?_
                    refine AllReadyH.cons rfl (fun K hK => ?_) AllReadyH.nil
                    clear hHeld
                    go_simp
                    refine (C.out _ (Below.refl _ _)).mono ?_
                    rintro e y2 ⟨rfl, hb⟩
                    refine hK.out _ _ (held_busy hS0 hb) (fun hHeld => ?_)
                    clear hK K hS0
                    try simp only [List.getElem_toArray, List.getElem_cons_zero, List.getElem_cons_succ, Act.put, List.setIfInBounds_toArray, List.set_cons_zero, List.set_cons_succ]
                    refine wpAnyH_take (i := 17) (v := (.bool false)) rfl (by kernel_rfl) (by kernel_rfl) (by kernel_rfl) (fun _ _ _ h => h) (Or.inl ⟨by rfl, ?_⟩) hHeld ?_
                    · intro w hSw; go_simp
                    try simp only [List.getElem_toArray, List.getElem_cons_zero, List.getElem_cons_succ, Act.put, List.setIfInBounds_toArray, List.set_cons_zero, List.set_cons_succ]
                    have bd2 : Hid (Below wo.heap.size wo y2) := below_on bd.out hb
                    have c9 : y2.cell? ⟨Bj, off + p * 8 + 2, none⟩ = some (.int .i64 dp) := by rw [hb.cell (p := ⟨Bj, off + p * 8 + 2, none⟩) (cell_lt c9')]; exact c9'
                    clear c9'
                    clear hb bd C
                    refine wpAnyH_take (i := 18) (v := (.bool false)) rfl (by kernel_rfl) (by kernel_rfl) (by kernel_rfl) (fun _ _ _ h => h) (Or.inl ⟨by rfl, ?_⟩) hHeld ?_
                    · intro w hSw; go_simp
                    try simp only [List.getElem_toArray, List.getElem_cons_zero, List.getElem_cons_succ, Act.put, List.setIfInBounds_toArray, List.set_cons_zero, List.set_cons_succ]
                    refine wpAnyH_take (i := 19) (v := (.bool false)) rfl (by kernel_rfl) (by kernel_rfl) (by kernel_rfl) (fun _ _ _ h => h) (Or.inl ⟨by rfl, ?_⟩) hHeld ?_
                    · intro w hSw; go_simp
                    try simp only [List.getElem_toArray, List.getElem_cons_zero, List.getElem_cons_succ, Act.put, List.setIfInBounds_toArray, List.set_cons_zero, List.set_cons_succ]
                    refine wpAnyH_done (by kernel_rfl) ?_ _
                    obtain ⟨z0, s0, s1, s2, s3, s4, s5, s6, s7⟩ := hHeld
                    go_wp2_with fail
                    go_quiet (fail)
                    go_wp2
                    go_roundw
                    case rel => exact ⟨j + 1, by first | rfl | simp, by omega, Lib.hid (below_dN bd2.out _)⟩
                    case measure => simp [intOf]; omega
                · have d3 : decide (rl ≤ (k : Int)) = false := decide_eq_false t1
                  clear t1 C0
                  refine wp_region_held_drew (S := fun W => W.cell? ⟨R, j, none⟩ = some (.int .i64 rn) ∧ W.cell? ⟨Bj, off + j * 8, none⟩ = some (.string s) ∧ W.cell? ⟨Bj, off + j * 8 + 1, none⟩ = some (.int .i64 rl) ∧ W.cell? ⟨Bj, off + j * 8 + 2, none⟩ = some (.int .i64 d) ∧ W.cell? ⟨Bj, off + j * 8 + 3, none⟩ = some (.int .i64 b) ∧ W.cell? ⟨Bj, off + j * 8 + 4, none⟩ = some (.int .i64 a) ∧ W.cell? ⟨Bj, off + j * 8 + 5, none⟩ = some (.int .i64 v) ∧ W.cell? ⟨Bj, off + j * 8 + 6, none⟩ = some (.int .i64 c) ∧ W.cell? ⟨Bj, off + j * 8 + 7, none⟩ = some (.bool h)) (by kernel_rfl) hS0 (fun hHeld => ?_)
                  generalize wr.drew = y1 at *
                  refine wpAnyH_take (i := 0) (v := (.slice (some ⟨Bj, off, none⟩) n cap)) rfl (by kernel_rfl) (by kernel_rfl) (by kernel_rfl) (fun _ _ _ h => h) (Or.inl ⟨by rfl, ?_⟩) hHeld ?_
                  · intro w hSw; go_simp
                  try simp only [List.getElem_toArray, List.getElem_cons_zero, List.getElem_cons_succ, Act.put, List.setIfInBounds_toArray, List.set_cons_zero, List.set_cons_succ]
                  refine wpAnyH_take (i := 1) (v := (.int .i64 (j : Int))) rfl (by kernel_rfl) (by kernel_rfl) (by kernel_rfl) (fun _ _ _ h => h) (Or.inl ⟨by rfl, ?_⟩) hHeld ?_
                  · intro w hSw; go_simp
                  try simp only [List.getElem_toArray, List.getElem_cons_zero, List.getElem_cons_succ, Act.put, List.setIfInBounds_toArray, List.set_cons_zero, List.set_cons_succ]
                  refine wpAnyH_take (i := 2) (v := (.pointer (some ⟨Bj, off + j * 8, none⟩))) rfl (by kernel_rfl) (by kernel_rfl) (by kernel_rfl) (fun _ _ _ h => h) (Or.inl ⟨by rfl, ?_⟩) hHeld ?_
                  · intro w hSw; go_simp
                  try simp only [List.getElem_toArray, List.getElem_cons_zero, List.getElem_cons_succ, Act.put, List.setIfInBounds_toArray, List.set_cons_zero, List.set_cons_succ]
                  refine wpAnyH_take (i := 3) (v := (.pointer (some ⟨Bj, off + j * 8 + 1, none⟩))) rfl (by kernel_rfl) (by kernel_rfl) (by kernel_rfl) (fun _ _ _ h => h) (Or.inl ⟨by rfl, ?_⟩) hHeld ?_
                  · intro w hSw; go_simp
                  try simp only [List.getElem_toArray, List.getElem_cons_zero, List.getElem_cons_succ, Act.put, List.setIfInBounds_toArray, List.set_cons_zero, List.set_cons_succ]
                  refine wpAnyH_take (i := 4) (v := (.int .i64 rl)) rfl (by kernel_rfl) (by kernel_rfl) (by kernel_rfl) (fun _ _ _ h => h) (Or.inl ⟨by rfl, ?_⟩) hHeld ?_
                  · intro w hSw; obtain ⟨z0, s0, s1, s2, s3, s4, s5, s6, s7⟩ := hSw; go_simp
                  try simp only [List.getElem_toArray, List.getElem_cons_zero, List.getElem_cons_succ, Act.put, List.setIfInBounds_toArray, List.set_cons_zero, List.set_cons_succ]
                  refine wpAnyH_take (i := 5) (v := (.int .i64 (k : Int))) rfl (by kernel_rfl) (by kernel_rfl) (by kernel_rfl) (fun _ _ _ h => h) (Or.inl ⟨by rfl, ?_⟩) hHeld ?_
                  · intro w hSw; go_simp
                  try simp only [List.getElem_toArray, List.getElem_cons_zero, List.getElem_cons_succ, Act.put, List.setIfInBounds_toArray, List.set_cons_zero, List.set_cons_succ]
                  refine wpAnyH_take (i := 6) (v := (.bool false)) rfl (by kernel_rfl) (by kernel_rfl) (by kernel_rfl) (fun _ _ _ h => h) (Or.inl ⟨by rfl, ?_⟩) hHeld ?_
                  · intro w hSw; go_simp
                  try simp only [List.getElem_toArray, List.getElem_cons_zero, List.getElem_cons_succ, Act.put, List.setIfInBounds_toArray, List.set_cons_zero, List.set_cons_succ]
                  refine wpAnyH_take (i := 7) (v := (.bool false)) rfl (by kernel_rfl) (by kernel_rfl) (by kernel_rfl) (fun _ _ _ h => h) (Or.inl ⟨by rfl, ?_⟩) hHeld ?_
                  · intro w hSw; go_simp
                  try simp only [List.getElem_toArray, List.getElem_cons_zero, List.getElem_cons_succ, Act.put, List.setIfInBounds_toArray, List.set_cons_zero, List.set_cons_succ]
                  refine wpAnyH_take (i := 8) (v := undef) rfl (by kernel_rfl) (by kernel_rfl) (by kernel_rfl) (fun _ _ _ h => h) (Or.inr ⟨by rfl, rfl⟩) hHeld ?_
                  try simp only [List.getElem_toArray, List.getElem_cons_zero, List.getElem_cons_succ, Act.put, List.setIfInBounds_toArray, List.set_cons_zero, List.set_cons_succ]
                  refine wpAnyH_take (i := 9) (v := undef) rfl (by kernel_rfl) (by kernel_rfl) (by kernel_rfl) (fun _ _ _ h => h) (Or.inr ⟨by rfl, rfl⟩) hHeld ?_
                  try simp only [List.getElem_toArray, List.getElem_cons_zero, List.getElem_cons_succ, Act.put, List.setIfInBounds_toArray, List.set_cons_zero, List.set_cons_succ]
                  refine wpAnyH_take (i := 10) (v := undef) rfl (by kernel_rfl) (by kernel_rfl) (by kernel_rfl) (fun _ _ _ h => h) (Or.inr ⟨by rfl, rfl⟩) hHeld ?_
                  try simp only [List.getElem_toArray, List.getElem_cons_zero, List.getElem_cons_succ, Act.put, List.setIfInBounds_toArray, List.set_cons_zero, List.set_cons_succ]
                  refine wpAnyH_take (i := 11) (v := undef) rfl (by kernel_rfl) (by kernel_rfl) (by kernel_rfl) (fun _ _ _ h => h) (Or.inr ⟨by rfl, rfl⟩) hHeld ?_
                  try simp only [List.getElem_toArray, List.getElem_cons_zero, List.getElem_cons_succ, Act.put, List.setIfInBounds_toArray, List.set_cons_zero, List.set_cons_succ]
                  refine wpAnyH_take (i := 12) (v := undef) rfl (by kernel_rfl) (by kernel_rfl) (by kernel_rfl) (fun _ _ _ h => h) (Or.inr ⟨by rfl, rfl⟩) hHeld ?_
                  try simp only [List.getElem_toArray, List.getElem_cons_zero, List.getElem_cons_succ, Act.put, List.setIfInBounds_toArray, List.set_cons_zero, List.set_cons_succ]
                  refine wpAnyH_take (i := 13) (v := undef) rfl (by kernel_rfl) (by kernel_rfl) (by kernel_rfl) (fun _ _ _ h => h) (Or.inr ⟨by rfl, rfl⟩) hHeld ?_
                  try simp only [List.getElem_toArray, List.getElem_cons_zero, List.getElem_cons_succ, Act.put, List.setIfInBounds_toArray, List.set_cons_zero, List.set_cons_succ]
                  refine wpAnyH_take (i := 14) (v := undef) rfl (by kernel_rfl) (by kernel_rfl) (by kernel_rfl) (fun _ _ _ h => h) (Or.inr ⟨by rfl, rfl⟩) hHeld ?_
                  try simp only [List.getElem_toArray, List.getElem_cons_zero, List.getElem_cons_succ, Act.put, List.setIfInBounds_toArray, List.set_cons_zero, List.set_cons_succ]
                  refine wpAnyH_take (i := 15) (v := undef) rfl (by kernel_rfl) (by kernel_rfl) (by kernel_rfl) (fun _ _ _ h => h) (Or.inr ⟨by rfl, rfl⟩) hHeld ?_
                  try simp only [List.getElem_toArray, List.getElem_cons_zero, List.getElem_cons_succ, Act.put, List.setIfInBounds_toArray, List.set_cons_zero, List.set_cons_succ]
                  refine wpAnyH_take (i := 16) (v := undef) rfl (by kernel_rfl) (by kernel_rfl) (by kernel_rfl) (fun _ _ _ h => h) (Or.inr ⟨by rfl, rfl⟩) hHeld ?_
                  try simp only [List.getElem_toArray, List.getElem_cons_zero, List.getElem_cons_succ, Act.put, List.setIfInBounds_toArray, List.set_cons_zero, List.set_cons_succ]
                  refine wpAnyH_take (i := 17) (v := undef) rfl (by kernel_rfl) (by kernel_rfl) (by kernel_rfl) (fun _ _ _ h => h) (Or.inr ⟨by rfl, rfl⟩) hHeld ?_
                  try simp only [List.getElem_toArray, List.getElem_cons_zero, List.getElem_cons_succ, Act.put, List.setIfInBounds_toArray, List.set_cons_zero, List.set_cons_succ]
                  refine wpAnyH_take (i := 18) (v := (.bool false)) rfl (by kernel_rfl) (by kernel_rfl) (by kernel_rfl) (fun _ _ _ h => h) (Or.inl ⟨by rfl, ?_⟩) hHeld ?_
                  · intro w hSw; go_simp
                  try simp only [List.getElem_toArray, List.getElem_cons_zero, List.getElem_cons_succ, Act.put, List.setIfInBounds_toArray, List.set_cons_zero, List.set_cons_succ]
                  refine wpAnyH_take (i := 19) (v := (.bool false)) rfl (by kernel_rfl) (by kernel_rfl) (by kernel_rfl) (fun _ _ _ h => h) (Or.inl ⟨by rfl, ?_⟩) hHeld ?_
                  · intro w hSw; go_simp
                  try simp only [List.getElem_toArray, List.getElem_cons_zero, List.getElem_cons_succ, Act.put, List.setIfInBounds_toArray, List.set_cons_zero, List.set_cons_succ]
                  refine wpAnyH_done (by kernel_rfl) ?_ _
                  obtain ⟨z0, s0, s1, s2, s3, s4, s5, s6, s7⟩ := hHeld
                  have bd2 := bd
                  go_wp2_with fail
                  go_quiet (fail)
                  go_wp2
                  go_roundw
                  case rel => exact ⟨j + 1, by first | rfl | simp, by omega, Lib.hid (below_dN bd2.out _)⟩
                  case measure => simp [intOf]; omega
              · have d2 : decide ((j : Int) < (n : Int)) = false := decide_eq_false (by omega)
                have bw : Hid (Below w.heap.size w wr) := below_on KB.out J.out
                have KR2 : Hid (Cel R n (cn r k) wr) := KR.out.on J.out
                have hX2 : Hid (RdT wr (some ⟨Bx, offx, none⟩) r) := hX.out.below J.out
                have d8 : decide ((p : Int) ≥ (n : Int)) = false := decide_eq_false (by omega)
                have d9 : decide ((p : Int) < -1) = false := decide_eq_false (by omega)
                have d10 : decide ((p : Int) ≥ 0) = true := decide_eq_true (by omega)
                have b1 : (p : Int) < (n : Int) := by omega
                have b0 : (0 : Int) ≤ (p : Int) := by omega
                obtain ⟨x, hx⟩ : ∃ x, l[p]? = some x := ⟨_, List.getElem?_eq_getElem (by rw [H.out.1]; exact hpn)⟩
                obtain ⟨Bj2, off2, hA, hJ⟩ := (H.out.2.1.below bw.out) p x hx
                simp only [Option.some.injEq, Addr.mk.injEq, and_true] at hA
                obtain ⟨rfl, rfl⟩ := hA
                have r0 := KR2.out.cell p hpn
                have r1 := KR2.out.frz p hpn
                have C0 : Hid (∀ w', Below wr.drew.heap.size wr.drew w' → Calls Tryd.prog 25 #[.agg x.cells] w' (RetB (.int .i64 x.work) w')) := fun w' hb => jwork_any x w' (H.out.2.2.1 x (List.mem_of_getElem? hx)) ((H.out.2.2.2.below bw.out).below ((Below.refl _ _).drew.trans hb))
                have hpx := hpp.out
                unfold pend at hpx
                rw [atL_of hx, atL_of hx] at hpx
                have hcn := cn_le r k p
                have hcn0 := cn_nonneg r k p
                have KR4 : Hid (∀ W, Cel R n (cn r k) W → Cel R n (cn r (k + 1)) (W.setCell ⟨R, p, none⟩ (.int .i64 (cn r k p + 1)))) := fun W h => (h.store hpn (cn r k p + 1)).to fun i hi => by
                  rw [cn_next i hxk.out]
                  by_cases c : i = p
                  · subst c; rw [if_pos rfl, if_pos rfl]
                  · rw [if_neg c, if_neg (by omega)]; omega
                clear hx
                obtain ⟨wk, hwk⟩ : ∃ z, x.work = z := ⟨_, rfl⟩
                rw [hwk] at C0 hpx
                clear hwk
                unfold JAt at hJ
                unfold Jb.cells at C0
                obtain ⟨s, rl, d, b, a, v, c, h⟩ := x
                simp only at hJ C0 hpx
                obtain ⟨rn, hrn⟩ : ∃ z, cn r k p = z := ⟨_, rfl⟩
                rw [hrn] at r0 hpx hcn hcn0 KR4
                have d3 : decide (rl > (k : Int)) = false := decide_eq_false (by omega)
                have d4 : decide (rn ≥ wk) = false := decide_eq_false (by omega)
                obtain ⟨q, hq⟩ : ∃ q, rn + 1 = q := ⟨_, rfl⟩
                have e3 : IntKind.i64.wrap (rn + 1) = q := by rw [IntKind.wrap_i64]; omega
                have e4 : wrap64 (rn + 1) = q := by unfold wrap64; omega
                rw [hq] at KR4
                have hk1 : k + 1 ≤ 400 := by omega
                have hk2 : 400 - (k + 1) < 400 - k := by omega
                have hS0 : wr.drew.cell? ⟨R, p, none⟩ = some (.int .i64 rn) ∧ wr.drew.cell? ⟨Bj, off + p * 8, none⟩ = some (.string s) ∧ wr.drew.cell? ⟨Bj, off + p * 8 + 1, none⟩ = some (.int .i64 rl) ∧ wr.drew.cell? ⟨Bj, off + p * 8 + 2, none⟩ = some (.int .i64 d) ∧ wr.drew.cell? ⟨Bj, off + p * 8 + 3, none⟩ = some (.int .i64 b) ∧ wr.drew.cell? ⟨Bj, off + p * 8 + 4, none⟩ = some (.int .i64 a) ∧ wr.drew.cell? ⟨Bj, off + p * 8 + 5, none⟩ = some (.int .i64 v) ∧ wr.drew.cell? ⟨Bj, off + p * 8 + 6, none⟩ = some (.int .i64 c) ∧ wr.drew.cell? ⟨Bj, off + p * 8 + 7, none⟩ = some (.bool h) := ⟨r0, hJ⟩
                have KK : Hid (Below w.heap.size w wr.drew ∧ Cel R n (cn r k) wr.drew ∧ RdT wr.drew (some ⟨Bx, offx, none⟩) r) := ⟨bw.out.drew, KR2.out.on ((Below.refl _ _).drew), hX2.out⟩
                clear r0 r1 hJ J bw KR2 hX2 hpx hcn hcn0 hq hrn
                go_wp2
                refine wp_region_held_drew (S := fun W => W.cell? ⟨R, p, none⟩ = some (.int .i64 rn) ∧ W.cell? ⟨Bj, off + p * 8, none⟩ = some (.string s) ∧ W.cell? ⟨Bj, off + p * 8 + 1, none⟩ = some (.int .i64 rl) ∧ W.cell? ⟨Bj, off + p * 8 + 2, none⟩ = some (.int .i64 d) ∧ W.cell? ⟨Bj, off + p * 8 + 3, none⟩ = some (.int .i64 b) ∧ W.cell? ⟨Bj, off + p * 8 + 4, none⟩ = some (.int .i64 a) ∧ W.cell? ⟨Bj, off + p * 8 + 5, none⟩ = some (.int .i64 v) ∧ W.cell? ⟨Bj, off + p * 8 + 6, none⟩ = some (.int .i64 c) ∧ W.cell? ⟨Bj, off + p * 8 + 7, none⟩ = some (.bool h)) (by kernel_rfl) hS0 (fun hHeld => ?_)
                have C := C0
                clear C0
                generalize wr.drew = y1 at *
                refine wpAnyH_take (i := 0) (v := (.slice (some ⟨Bj, off, none⟩) n cap)) rfl (by kernel_rfl) (by kernel_rfl) (by kernel_rfl) (fun _ _ _ h => h) (Or.inl ⟨by rfl, ?_⟩) hHeld ?_
                · intro w hSw; go_simp
                try simp only [List.getElem_toArray, List.getElem_cons_zero, List.getElem_cons_succ, Act.put, List.setIfInBounds_toArray, List.set_cons_zero, List.set_cons_succ]
                refine wpAnyH_take (i := 1) (v := (.int .i64 (p : Int))) rfl (by kernel_rfl) (by kernel_rfl) (by kernel_rfl) (fun _ _ _ h => h) (Or.inl ⟨by rfl, ?_⟩) hHeld ?_
                · intro w hSw; go_simp
                try simp only [List.getElem_toArray, List.getElem_cons_zero, List.getElem_cons_succ, Act.put, List.setIfInBounds_toArray, List.set_cons_zero, List.set_cons_succ]
                refine wpAnyH_take (i := 2) (v := (.pointer (some ⟨Bj, off + p * 8, none⟩))) rfl (by kernel_rfl) (by kernel_rfl) (by kernel_rfl) (fun _ _ _ h => h) (Or.inl ⟨by rfl, ?_⟩) hHeld ?_
                · intro w hSw; go_simp
                try simp only [List.getElem_toArray, List.getElem_cons_zero, List.getElem_cons_succ, Act.put, List.setIfInBounds_toArray, List.set_cons_zero, List.set_cons_succ]
                refine wpAnyH_take (i := 3) (v := (.pointer (some ⟨Bj, off + p * 8 + 1, none⟩))) rfl (by kernel_rfl) (by kernel_rfl) (by kernel_rfl) (fun _ _ _ h => h) (Or.inl ⟨by rfl, ?_⟩) hHeld ?_
                · intro w hSw; go_simp
                try simp only [List.getElem_toArray, List.getElem_cons_zero, List.getElem_cons_succ, Act.put, List.setIfInBounds_toArray, List.set_cons_zero, List.set_cons_succ]
                refine wpAnyH_take (i := 4) (v := (.int .i64 rl)) rfl (by kernel_rfl) (by kernel_rfl) (by kernel_rfl) (fun _ _ _ h => h) (Or.inl ⟨by rfl, ?_⟩) hHeld ?_
                · intro w hSw; obtain ⟨z0, s0, s1, s2, s3, s4, s5, s6, s7⟩ := hSw; go_simp
                try simp only [List.getElem_toArray, List.getElem_cons_zero, List.getElem_cons_succ, Act.put, List.setIfInBounds_toArray, List.set_cons_zero, List.set_cons_succ]
                refine wpAnyH_take (i := 5) (v := (.int .i64 (k : Int))) rfl (by kernel_rfl) (by kernel_rfl) (by kernel_rfl) (fun _ _ _ h => h) (Or.inl ⟨by rfl, ?_⟩) hHeld ?_
                · intro w hSw; go_simp
                try simp only [List.getElem_toArray, List.getElem_cons_zero, List.getElem_cons_succ, Act.put, List.setIfInBounds_toArray, List.set_cons_zero, List.set_cons_succ]
                refine wpAnyH_take (i := 6) (v := (.bool false)) rfl (by kernel_rfl) (by kernel_rfl) (by kernel_rfl) (fun _ _ _ h => h) (Or.inl ⟨by rfl, ?_⟩) hHeld ?_
                · intro w hSw; go_simp
                try simp only [List.getElem_toArray, List.getElem_cons_zero, List.getElem_cons_succ, Act.put, List.setIfInBounds_toArray, List.set_cons_zero, List.set_cons_succ]
                refine wpAnyH_take (i := 7) (v := (.bool false)) rfl (by kernel_rfl) (by kernel_rfl) (by kernel_rfl) (fun _ _ _ h => h) (Or.inl ⟨by rfl, ?_⟩) hHeld ?_
                · intro w hSw; go_simp
                try simp only [List.getElem_toArray, List.getElem_cons_zero, List.getElem_cons_succ, Act.put, List.setIfInBounds_toArray, List.set_cons_zero, List.set_cons_succ]
                refine wpAnyH_take (i := 8) (v := (.slice (some ⟨R, 0, none⟩) n n)) rfl (by kernel_rfl) (by kernel_rfl) (by kernel_rfl) (fun _ _ _ h => h) (Or.inl ⟨by rfl, ?_⟩) hHeld ?_
                · intro w hSw; go_simp
                try simp only [List.getElem_toArray, List.getElem_cons_zero, List.getElem_cons_succ, Act.put, List.setIfInBounds_toArray, List.set_cons_zero, List.set_cons_succ]
                refine wpAnyH_take (i := 9) (v := (.int .i64 (p : Int))) rfl (by kernel_rfl) (by kernel_rfl) (by kernel_rfl) (fun _ _ _ h => h) (Or.inl ⟨by rfl, ?_⟩) hHeld ?_
                · intro w hSw; go_simp
                try simp only [List.getElem_toArray, List.getElem_cons_zero, List.getElem_cons_succ, Act.put, List.setIfInBounds_toArray, List.set_cons_zero, List.set_cons_succ]
                refine wpAnyH_take (i := 10) (v := (.pointer (some ⟨R, p, none⟩))) rfl (by kernel_rfl) (by kernel_rfl) (by kernel_rfl) (fun _ _ _ h => h) (Or.inl ⟨by rfl, ?_⟩) hHeld ?_
                · intro w hSw; go_simp
                try simp only [List.getElem_toArray, List.getElem_cons_zero, List.getElem_cons_succ, Act.put, List.setIfInBounds_toArray, List.set_cons_zero, List.set_cons_succ]
                refine wpAnyH_take (i := 11) (v := (.int .i64 rn)) rfl (by kernel_rfl) (by kernel_rfl) (by kernel_rfl) (fun _ _ _ h => h) (Or.inl ⟨by rfl, ?_⟩) hHeld ?_
                · intro w hSw; obtain ⟨z0, s0, s1, s2, s3, s4, s5, s6, s7⟩ := hSw; go_simp
                try simp only [List.getElem_toArray, List.getElem_cons_zero, List.getElem_cons_succ, Act.put, List.setIfInBounds_toArray, List.set_cons_zero, List.set_cons_succ]
                refine wpAnyH_take (i := 12) (v := (.slice (some ⟨Bj, off, none⟩) n cap)) rfl (by kernel_rfl) (by kernel_rfl) (by kernel_rfl) (fun _ _ _ h => h) (Or.inl ⟨by rfl, ?_⟩) hHeld ?_
                · intro w hSw; go_simp
                try simp only [List.getElem_toArray, List.getElem_cons_zero, List.getElem_cons_succ, Act.put, List.setIfInBounds_toArray, List.set_cons_zero, List.set_cons_succ]
                refine wpAnyH_take (i := 13) (v := (.int .i64 (p : Int))) rfl (by kernel_rfl) (by kernel_rfl) (by kernel_rfl) (fun _ _ _ h => h) (Or.inl ⟨by rfl, ?_⟩) hHeld ?_
                · intro w hSw; go_simp
                try simp only [List.getElem_toArray, List.getElem_cons_zero, List.getElem_cons_succ, Act.put, List.setIfInBounds_toArray, List.set_cons_zero, List.set_cons_succ]
                refine wpAnyH_take (i := 14) (v := (.pointer (some ⟨Bj, off + p * 8, none⟩))) rfl (by kernel_rfl) (by kernel_rfl) (by kernel_rfl) (fun _ _ _ h => h) (Or.inl ⟨by rfl, ?_⟩) hHeld ?_
                · intro w hSw; go_simp
                try simp only [List.getElem_toArray, List.getElem_cons_zero, List.getElem_cons_succ, Act.put, List.setIfInBounds_toArray, List.set_cons_zero, List.set_cons_succ]
                refine wpAnyH_take (i := 15) (v := (.agg #[.string s, .int .i64 rl, .int .i64 d, .int .i64 b, .int .i64 a, .int .i64 v, .int .i64 c, .bool h])) rfl (by kernel_rfl) (by kernel_rfl) (by kernel_rfl) (fun _ _ _ h => h) (Or.inl ⟨by rfl, ?_⟩) hHeld ?_
                · intro w hSw; obtain ⟨z0, s0, s1, s2, s3, s4, s5, s6, s7⟩ := hSw; go_simp
                try simp only [List.getElem_toArray, List.getElem_cons_zero, List.getElem_cons_succ, Act.put, List.setIfInBounds_toArray, List.set_cons_zero, List.set_cons_succ]
                refine wpAnyH_ready (rs := [16]) (by kernel_rfl) (by simp) ?_
                refine AllReadyH.cons rfl (fun K hK => ?_) AllReadyH.nil
                clear hHeld
                go_simp
                refine (C.out _ (Below.refl _ _)).mono ?_
                rintro e y2 ⟨rfl, hb⟩
                refine hK.out _ _ (held_busy hS0 hb) (fun hHeld => ?_)
                clear hK K hS0
                try simp only [List.getElem_toArray, List.getElem_cons_zero, List.getElem_cons_succ, Act.put, List.setIfInBounds_toArray, List.set_cons_zero, List.set_cons_succ]
                refine wpAnyH_take (i := 17) (v := (.bool false)) rfl (by kernel_rfl) (by kernel_rfl) (by kernel_rfl) (fun _ _ _ h => h) (Or.inl ⟨by rfl, ?_⟩) hHeld ?_
                · intro w hSw; go_simp
                try simp only [List.getElem_toArray, List.getElem_cons_zero, List.getElem_cons_succ, Act.put, List.setIfInBounds_toArray, List.set_cons_zero, List.set_cons_succ]
                have KK2 : Hid (Below w.heap.size w y2 ∧ Cel R n (cn r k) y2 ∧ RdT y2 (some ⟨Bx, offx, none⟩) r) := ⟨below_on KK.out.1 hb, KK.out.2.1.on hb, KK.out.2.2.below hb⟩
                have x0 : y2.frozen? ⟨R, p, none⟩ = false := KK2.out.2.1.frz p hpn
                have KK3 : Hid (Below w.heap.size w (y2.setCell ⟨R, p, none⟩ (.int .i64 q)) ∧ Cel R n (cn r (k + 1)) (y2.setCell ⟨R, p, none⟩ (.int .i64 q)) ∧ RdT (y2.setCell ⟨R, p, none⟩ (.int .i64 q)) (some ⟨Bx, offx, none⟩) r) := ⟨KK2.out.1.setCell hR.out.1 _, KR4.out _ KK2.out.2.1, KK2.out.2.2.apart hR.out.2 _⟩
                clear hb KK KK2 KR4 C
                refine wpAnyH_take (i := 18) (v := (.bool false)) rfl (by kernel_rfl) (by kernel_rfl) (by kernel_rfl) (fun _ _ _ h => h) (Or.inl ⟨by rfl, ?_⟩) hHeld ?_
                · intro w hSw; go_simp
                try simp only [List.getElem_toArray, List.getElem_cons_zero, List.getElem_cons_succ, Act.put, List.setIfInBounds_toArray, List.set_cons_zero, List.set_cons_succ]
                refine wpAnyH_done (by kernel_rfl) ?_ _
                obtain ⟨z0, s0, s1, s2, s3, s4, s5, s6, s7⟩ := hHeld
                go_wp2
                go_roundw
                case rel => exact ⟨k + 1, by first | rfl | simp, hk1, KK3⟩
                case measure => simp [intOf]; clear e3 e4; omega
        · have d1 : decide ((k : Int) < 400) = false := decide_eq_false (by omega)
          have Y2 := Lib.hid (Y1.out Bx offx c _ hc1 hc2 K.out.2.2)
          have bb := Lib.hid K.out.1
          clear K Y1
          go_wp2_with fail
          refine Y2.out.mono ?_; rintro e w5 ⟨rfl, q5, rfl⟩
          go_wp2
          go_ret
          exact ⟨rfl, by have s0 := bb.out.size; (try simp only [World.heap_drewN, World.size_alloc] at s0); repeat (first | exact Below.refl _ _ | exact bb.out | refine Below.trans ?_ (Below.mono bb.out (by first | omega | (simp; done) | (simp; omega))) | refine Below.setCell ?_ (by first | omega | (simp; done) | (simp; omega)) _ | refine below_dN ?_ _ | refine Below.drew ?_ | refine Below.alloc ?_ (by first | omega | (simp; done) | (simp; omega)) _)⟩
  · generalize l.length = n at *
    clear hL hR hgh
    go_enter Tryd.func7, Tryd.ntmps7
    go_wp2_with fail
    refine A0.out.mono ?_; rintro e w0 ⟨rfl, b0⟩
    replace b0 := Lib.hid b0
    clear A0
    go_wp2_with fail
    refine (A1.out _ b0.out).mono ?_; rintro e w1 ⟨rfl, q1, rfl⟩
    clear A1
    go_wp2
    go_ret
    exact ⟨rfl, by have s0 := b0.out.size; (try simp only [World.heap_drewN, World.size_alloc] at s0); repeat (first | exact Below.refl _ _ | exact b0.out | refine Below.trans ?_ (Below.mono b0.out (by first | omega | (simp; done) | (simp; omega))) | refine Below.setCell ?_ (by first | omega | (simp; done) | (simp; omega)) _ | refine below_dN ?_ _ | refine Below.drew ?_ | refine Below.alloc ?_ (by first | omega | (simp; done) | (simp; omega)) _)⟩
end Go.Proofs.YtcohodpaagpfgaaDoor
