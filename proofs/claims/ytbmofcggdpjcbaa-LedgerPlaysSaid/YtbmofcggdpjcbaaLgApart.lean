/- LedgerApart: rows that are told are new; who earned is told apart from who lost. -/
import Derived.Test.YtbmofcggdpjcbaaLgTills
namespace Go.Proofs.Ytbmofcggdpjcbaa
open Go.RowKit
set_option linter.unusedVariables false
set_option linter.unusedSimpArgs false

/-- A row as the statement writes it anew. -/
def mdW (x : Rw) : Rw := ⟨x.tick, 122 :: x.name, x.val + 1⟩
def modW (L : List Rw) (i : Nat) : List Rw := (L.take i).map mdW ++ L.drop i
section
variable {L : List Rw} {i : Nat} {x : Rw}
theorem modW_zero (L : List Rw) : modW L 0 = L := by simp [modW]
theorem modW_len (L : List Rw) (i : Nat) : (modW L i).length = L.length := by
  unfold modW
  simp only [List.length_append, List.length_map, List.length_take, List.length_drop]
  omega
theorem modW_at (h : L[i]? = some x) : (modW L i)[i]? = some x := by
  obtain ⟨hi, he⟩ := List.getElem?_eq_some_iff.1 h
  unfold modW
  rw [List.getElem?_append_right (by simp; omega)]
  simp only [List.length_map, List.length_take, Nat.min_eq_left (Nat.le_of_lt hi), Nat.sub_self, List.getElem?_drop, Nat.add_zero]
  exact h
theorem modW_set (h : L[i]? = some x) : (modW L i).set i (mdW x) = modW L (i + 1) := by
  obtain ⟨hi, he⟩ := List.getElem?_eq_some_iff.1 h
  unfold modW
  have hl : ((L.take i).map mdW).length = i := by simp; omega
  rw [List.set_append_right _ _ (by omega), hl, Nat.sub_self, List.drop_eq_getElem_cons hi, List.set_cons_zero, List.take_add_one, h]
  simp
theorem modW_all (h : L[i]? = some x) : (modW L L.length)[i]? = some (mdW x) := by
  unfold modW
  rw [List.take_length, List.drop_length, List.append_nil, List.getElem?_map, h]; rfl
/-- What is only earned. -/
structure OnlyE (L : List Rw) : Prop where
  inv : LInv L
  val : ∀ x ∈ L, 0 ≤ x.val
  name : ∀ x ∈ L, x.name.length ≤ 140737488351232
  lost : lost L = 0
theorem OnlyE.nil : OnlyE [] := ⟨LInv.nil, by simp, by simp, rfl⟩
theorem OnlyE.earn (h : OnlyE L) (t : Int) (n : List UInt8) (v : Int) (hn : n.length ≤ 140737488351232) : OnlyE (earnL L t n v) := by
  have hi := h.inv.earn t n v
  unfold earnL at *
  split
  · rename_i hz
    rw [if_pos hz] at hi
    obtain ⟨_, h2, _, _⟩ := putE_zero hz
    refine ⟨hi, fun x hx => ?_, fun x hx => ?_, by rw [(earned_snoc L t n v h2).2]; exact h.lost⟩
    · rcases List.mem_append.1 hx with hx | hx
      · exact h.val x hx
      · simp at hx; subst hx; exact h2
    · rcases List.mem_append.1 hx with hx | hx
      · exact h.name x hx
      · simp at hx; subst hx; exact hn
  · exact h
end
theorem step_new {w w' : World} (o : Nat → Nat) (σ : Nat) (hb : Below w.heap.size w w') (τ : Nat) : Step o (tag o w.heap.size τ) σ w w' :=
  ⟨hb.os, hb.tape, hb.output, hb.size, fun k hk => tag_old hk, fun k hk _ => hb.block k hk⟩
theorem modW_cells {L : List Rw} {i : Nat} {x : Rw} (h : L[i]? = some x) : ((cellsW (modW L i)).set (i * 3 + 2) (.int .i64 (x.val + 1))).set (i * 3 + 1) (.string (bs (122 :: x.name))) = cellsW (modW L (i + 1)) := by
  have hi : i < (modW L i).length := by rw [modW_len]; exact (List.getElem?_eq_some_iff.1 h).1
  rw [(cellsW_set _ i x (modW_at h) x.name (x.val + 1)).1, (cellsW_set ((modW L i).set i ⟨x.tick, x.name, x.val + 1⟩) i ⟨x.tick, x.name, x.val + 1⟩ (by simp [hi]) (122 :: x.name) 0).2, List.set_set]
  exact congrArg cellsW (modW_set h)
set_option maxHeartbeats 12800000 in
set_option maxRecDepth 100000 in
theorem LedgerApart_ret (A : Option Addr) (c : Nat) (l : List ActW) (w : World) (hlc : l.length ≤ c) (hc : c ≤ 9223372036854775807) (hrd : RdActW w A l) (hall : ∀ x ∈ l, fitB x.op = true ∧ fitB x.t = true ∧ fitB x.v = true ∧ x.name.length ≤ 140737488351232) :
    Calls Try.prog 5 #[.slice A l.length c] w (RetB (.bool true) w) := by
  have A0 := Lib.hid (awake14_any w)
  obtain ⟨N, hN⟩ : ∃ N : Nat, l.length = N := ⟨_, rfl⟩
  rw [hN] at hlc ⊢
  have Z := Lib.hid (And.intro hN (And.intro hrd hall))
  clear hN hrd hall
  go_enter Try.func5, Try.ntmps5
  go_wp2_with fail
  refine (A0.out).mono ?_; rintro e b0w ⟨rfl, b0⟩
  by_cases k1 : (N : Int) < 1
  · go_wp2
    go_ret
    exact ⟨rfl, by have s0 := b0.size; (try simp only [World.heap_drewN, World.size_alloc] at s0); repeat (first | exact Below.refl _ _ | exact b0 | refine Below.trans ?_ (Below.mono b0 (by first | omega | (simp; done) | (simp; omega))) | refine Below.setCell ?_ (by first | omega | (simp; done) | (simp; omega)) _ | refine below_dN ?_ _ | refine Below.drew ?_ | refine Below.alloc ?_ (by first | omega | (simp; done) | (simp; omega)) _)⟩
  have k1' : decide ((N : Int) < 1) = false := decide_eq_false k1
  by_cases k2 : (N : Int) > 30
  · go_wp2
    go_ret
    exact ⟨rfl, by have s0 := b0.size; (try simp only [World.heap_drewN, World.size_alloc] at s0); repeat (first | exact Below.refl _ _ | exact b0 | refine Below.trans ?_ (Below.mono b0 (by first | omega | (simp; done) | (simp; omega))) | refine Below.setCell ?_ (by first | omega | (simp; done) | (simp; omega)) _ | refine below_dN ?_ _ | refine Below.drew ?_ | refine Below.alloc ?_ (by first | omega | (simp; done) | (simp; omega)) _)⟩
  have k2' : decide ((N : Int) > 30) = false := decide_eq_false k2
  have k9 : N ≤ 30 := by omega
  have k8 : 1 ≤ N := by omega
  go_wp2_with fail
  refine (lnew (fun _ => 0) 1 _).mono ?_
  rintro e w1 ⟨rfl, o1, v1, s1, h1⟩
  have l1 := ((Lw.start w).on b0).step s1 (by decide)
  have F0 := Lib.hid (And.intro h1 l1)
  clear b0 s1 h1 l1
  generalize b0w.heap.size = a at *
  go_wp2
  go_loopw [4] (fun s4 wr => ∃ (i : Nat) (o : Nat → Nat) (v : Value) (L : List Rw), s4 = .int .i64 (i : Int) ∧ i ≤ N ∧ L.length ≤ i ∧ Hid (Lg o 1 wr a v L ∧ Lw w o wr ∧ OnlyE L)) (fun st _ => N - (intOf st).toNat)
  case atStart => exact ⟨0, o1, v1, [], rfl, by omega, by simp, Lib.hid ⟨F0.out.1, F0.out.2, OnlyE.nil⟩⟩
  case round =>
    obtain ⟨i, o, v, L, rfl, hi, hLi, F⟩ := hrel
    clear F0
    rcases Nat.lt_or_ge i N with hlt | hge
    · obtain ⟨⟨xo, xt, xn, xv⟩, hx⟩ : ∃ x, l[i]? = some x := ⟨_, List.getElem?_eq_getElem (by rw [Z.out.1]; exact hlt)⟩
      obtain ⟨fo, ft, fv, fn⟩ := Z.out.2.2 _ (List.mem_of_getElem? hx)
      obtain ⟨bl, off, rfl, q0, q1, q2, q3⟩ := Z.out.2.1 i _ hx
      simp only at q0 q1 q2 q3 fo ft fv fn
      have qb : bl < w.heap.size := World.block_lt_of_cell? _ _ q0
      have R : Hid (∀ W, Below w.heap.size w W → W.cell? ⟨bl, off + i * 4 + 1, none⟩ = some (.int .i64 xt) ∧ W.cell? ⟨bl, off + i * 4 + 2, none⟩ = some (.string (bs xn)) ∧ W.cell? ⟨bl, off + i * 4 + 3, none⟩ = some (.int .i64 xv)) := fun W hb =>
        ⟨(hb.cell (p := ⟨bl, _, none⟩) qb).trans q1, (hb.cell (p := ⟨bl, _, none⟩) qb).trans q2, (hb.cell (p := ⟨bl, _, none⟩) qb).trans q3⟩
      clear q0 q1 q2 q3
      have z1 : (i : Int) < (N : Int) := by omega
      have z2 : (0 : Int) ≤ (i : Int) := by omega
      have C1 := Lib.hid (learn xt xv _ xn _ (F.out.1.drewN 1) F.out.2.2.inv (by omega) fv rfl rfl)
      have OE := Lib.hid (F.out.2.2.earn xt xn xv fn)
      have HL := Lib.hid (show (earnL L xt xn xv).length ≤ i + 1 from by have := earnL_len L xt xn xv; omega)
      have K0 := R.out (wr.drewN 1) (below_dN F.out.2.1.below 1)
      clear hx qb fo ft fv fn
      go_wp2
      refine wp_region_held_drew (S := fun W => W.cell? ⟨bl, off + i * 4 + 1, none⟩ = some (.int .i64 xt) ∧ W.cell? ⟨bl, off + i * 4 + 2, none⟩ = some (.string (bs xn)) ∧ W.cell? ⟨bl, off + i * 4 + 3, none⟩ = some (.int .i64 xv)) (by kernel_rfl) K0 (fun hHeld => ?_)
      refine wpAnyH_take (i := 0) (v := (.pointer (some ⟨a, 0, none⟩))) rfl (by kernel_rfl) (by kernel_rfl) (by kernel_rfl) (fun _ _ _ h => h) (Or.inl ⟨by rfl, ?_⟩) hHeld ?_
      · intro w hSw; go_simp
      try simp only [List.getElem_toArray, List.getElem_cons_zero, List.getElem_cons_succ, Act.put, List.setIfInBounds_toArray, List.set_cons_zero, List.set_cons_succ]
      refine wpAnyH_take (i := 1) (v := (.slice (some ⟨bl, off, none⟩) N c)) rfl (by kernel_rfl) (by kernel_rfl) (by kernel_rfl) (fun _ _ _ h => h) (Or.inl ⟨by rfl, ?_⟩) hHeld ?_
      · intro w hSw; go_simp
      try simp only [List.getElem_toArray, List.getElem_cons_zero, List.getElem_cons_succ, Act.put, List.setIfInBounds_toArray, List.set_cons_zero, List.set_cons_succ]
      refine wpAnyH_take (i := 2) (v := (.int .i64 (i : Int))) rfl (by kernel_rfl) (by kernel_rfl) (by kernel_rfl) (fun _ _ _ h => h) (Or.inl ⟨by rfl, ?_⟩) hHeld ?_
      · intro w hSw; go_simp
      try simp only [List.getElem_toArray, List.getElem_cons_zero, List.getElem_cons_succ, Act.put, List.setIfInBounds_toArray, List.set_cons_zero, List.set_cons_succ]
      refine wpAnyH_take (i := 3) (v := (.pointer (some ⟨bl, off + i * 4, none⟩))) rfl (by kernel_rfl) (by kernel_rfl) (by kernel_rfl) (fun _ _ _ h => h) (Or.inl ⟨by rfl, ?_⟩) hHeld ?_
      · intro w hSw; go_simp
      try simp only [List.getElem_toArray, List.getElem_cons_zero, List.getElem_cons_succ, Act.put, List.setIfInBounds_toArray, List.set_cons_zero, List.set_cons_succ]
      refine wpAnyH_take (i := 4) (v := (.pointer (some ⟨bl, off + i * 4 + 1, none⟩))) rfl (by kernel_rfl) (by kernel_rfl) (by kernel_rfl) (fun _ _ _ h => h) (Or.inl ⟨by rfl, ?_⟩) hHeld ?_
      · intro w hSw; go_simp
      try simp only [List.getElem_toArray, List.getElem_cons_zero, List.getElem_cons_succ, Act.put, List.setIfInBounds_toArray, List.set_cons_zero, List.set_cons_succ]
      refine wpAnyH_take (i := 5) (v := (.int .i64 xt)) rfl (by kernel_rfl) (by kernel_rfl) (by kernel_rfl) (fun _ _ _ h => h) (Or.inl ⟨by rfl, ?_⟩) hHeld ?_
      · intro w hSw; obtain ⟨s0, s1, s2⟩ := hSw; go_simp
      try simp only [List.getElem_toArray, List.getElem_cons_zero, List.getElem_cons_succ, Act.put, List.setIfInBounds_toArray, List.set_cons_zero, List.set_cons_succ]
      refine wpAnyH_take (i := 6) (v := (.slice (some ⟨bl, off, none⟩) N c)) rfl (by kernel_rfl) (by kernel_rfl) (by kernel_rfl) (fun _ _ _ h => h) (Or.inl ⟨by rfl, ?_⟩) hHeld ?_
      · intro w hSw; go_simp
      try simp only [List.getElem_toArray, List.getElem_cons_zero, List.getElem_cons_succ, Act.put, List.setIfInBounds_toArray, List.set_cons_zero, List.set_cons_succ]
      refine wpAnyH_take (i := 7) (v := (.int .i64 (i : Int))) rfl (by kernel_rfl) (by kernel_rfl) (by kernel_rfl) (fun _ _ _ h => h) (Or.inl ⟨by rfl, ?_⟩) hHeld ?_
      · intro w hSw; go_simp
      try simp only [List.getElem_toArray, List.getElem_cons_zero, List.getElem_cons_succ, Act.put, List.setIfInBounds_toArray, List.set_cons_zero, List.set_cons_succ]
      refine wpAnyH_take (i := 8) (v := (.pointer (some ⟨bl, off + i * 4, none⟩))) rfl (by kernel_rfl) (by kernel_rfl) (by kernel_rfl) (fun _ _ _ h => h) (Or.inl ⟨by rfl, ?_⟩) hHeld ?_
      · intro w hSw; go_simp
      try simp only [List.getElem_toArray, List.getElem_cons_zero, List.getElem_cons_succ, Act.put, List.setIfInBounds_toArray, List.set_cons_zero, List.set_cons_succ]
      refine wpAnyH_take (i := 9) (v := (.pointer (some ⟨bl, off + i * 4 + 2, none⟩))) rfl (by kernel_rfl) (by kernel_rfl) (by kernel_rfl) (fun _ _ _ h => h) (Or.inl ⟨by rfl, ?_⟩) hHeld ?_
      · intro w hSw; go_simp
      try simp only [List.getElem_toArray, List.getElem_cons_zero, List.getElem_cons_succ, Act.put, List.setIfInBounds_toArray, List.set_cons_zero, List.set_cons_succ]
      refine wpAnyH_take (i := 10) (v := (.string (bs xn))) rfl (by kernel_rfl) (by kernel_rfl) (by kernel_rfl) (fun _ _ _ h => h) (Or.inl ⟨by rfl, ?_⟩) hHeld ?_
      · intro w hSw; obtain ⟨s0, s1, s2⟩ := hSw; go_simp
      try simp only [List.getElem_toArray, List.getElem_cons_zero, List.getElem_cons_succ, Act.put, List.setIfInBounds_toArray, List.set_cons_zero, List.set_cons_succ]
      refine wpAnyH_take (i := 11) (v := (.slice (some ⟨bl, off, none⟩) N c)) rfl (by kernel_rfl) (by kernel_rfl) (by kernel_rfl) (fun _ _ _ h => h) (Or.inl ⟨by rfl, ?_⟩) hHeld ?_
      · intro w hSw; go_simp
      try simp only [List.getElem_toArray, List.getElem_cons_zero, List.getElem_cons_succ, Act.put, List.setIfInBounds_toArray, List.set_cons_zero, List.set_cons_succ]
      refine wpAnyH_take (i := 12) (v := (.int .i64 (i : Int))) rfl (by kernel_rfl) (by kernel_rfl) (by kernel_rfl) (fun _ _ _ h => h) (Or.inl ⟨by rfl, ?_⟩) hHeld ?_
      · intro w hSw; go_simp
      try simp only [List.getElem_toArray, List.getElem_cons_zero, List.getElem_cons_succ, Act.put, List.setIfInBounds_toArray, List.set_cons_zero, List.set_cons_succ]
      refine wpAnyH_take (i := 13) (v := (.pointer (some ⟨bl, off + i * 4, none⟩))) rfl (by kernel_rfl) (by kernel_rfl) (by kernel_rfl) (fun _ _ _ h => h) (Or.inl ⟨by rfl, ?_⟩) hHeld ?_
      · intro w hSw; go_simp
      try simp only [List.getElem_toArray, List.getElem_cons_zero, List.getElem_cons_succ, Act.put, List.setIfInBounds_toArray, List.set_cons_zero, List.set_cons_succ]
      refine wpAnyH_take (i := 14) (v := (.pointer (some ⟨bl, off + i * 4 + 3, none⟩))) rfl (by kernel_rfl) (by kernel_rfl) (by kernel_rfl) (fun _ _ _ h => h) (Or.inl ⟨by rfl, ?_⟩) hHeld ?_
      · intro w hSw; go_simp
      try simp only [List.getElem_toArray, List.getElem_cons_zero, List.getElem_cons_succ, Act.put, List.setIfInBounds_toArray, List.set_cons_zero, List.set_cons_succ]
      refine wpAnyH_take (i := 15) (v := (.int .i64 xv)) rfl (by kernel_rfl) (by kernel_rfl) (by kernel_rfl) (fun _ _ _ h => h) (Or.inl ⟨by rfl, ?_⟩) hHeld ?_
      · intro w hSw; obtain ⟨s0, s1, s2⟩ := hSw; go_simp
      try simp only [List.getElem_toArray, List.getElem_cons_zero, List.getElem_cons_succ, Act.put, List.setIfInBounds_toArray, List.set_cons_zero, List.set_cons_succ]
      refine wpAnyH_ready (rs := [16]) (by kernel_rfl) (by simp) ?_
      refine AllReadyH.cons rfl (fun K hK => ?_) AllReadyH.nil
      clear hHeld
      go_simp
      refine C1.out.mono ?_
      rintro e w4 ⟨rfl, o4, v5, st4, h5⟩
      have G := Lib.hid (And.intro h5 ((F.out.2.1.drewN 1).step st4 (by decide)))
      clear C1 st4 h5 F
      refine hK.out _ _ (R.out w4 G.out.2.below) (fun hHeld => ?_)
      clear hK K
      refine wpAnyH_done (by kernel_rfl) ?_ _
      clear hHeld
      go_wp2
      go_roundw
      case rel => exact ⟨i + 1, o4, v5, _, by simp, by omega, by have := HL.out; omega, Lib.hid ⟨G.out.1, G.out.2, OE.out⟩⟩
      case measure => simp [intOf]; omega
    · obtain rfl : i = N := by omega
      obtain ⟨n, hn⟩ : ∃ n, L.length = n := ⟨_, rfl⟩
      rw [hn] at hLi
      have C1 := Lib.hid (lrows F.out.1 (by omega))
      have C2 : Hid (∀ (o' : Nat → Nat) (w' : World), Lg o' 1 w' a v L → Calls Try.prog 18 #[.pointer (some ⟨a, 0, none⟩)] w' fun e w2 => e = .returned (.int .i64 (earned L)) ∧ w2 = w') := fun o' w' h => learned h
      have C3 : Hid (∀ (o' : Nat → Nat) (w' : World), Lg o' 1 w' a v L → Calls Try.prog 13 #[.pointer (some ⟨a, 0, none⟩)] w' fun e w2 => ∃ v', e = .returned v' ∧ w2.ownsRow w'.heap.size 34 3 v' L.length (cellsW L) ∧ Below w'.heap.size w' w2) := fun o' w' h => lrows h (by omega)
      have C4 : Hid (∀ (o' : Nat → Nat) (w' : World), Lg o' 1 w' a v L → Calls Try.prog 20 #[.pointer (some ⟨a, 0, none⟩)] w' fun e w2 => e = .returned (.int .i64 0) ∧ w2 = w') := fun o' w' h => llost_v h F.out.2.2.lost
      generalize earned L = el at C2
      rw [hn] at C1 C3
      have Y := Lib.hid (And.intro hn F.out.2.2)
      clear hn
      go_wp2_with fail
      refine C1.out.mono ?_
      rintro e w2 ⟨vr, rfl, hown, hb⟩
      have st2 := step_new o 5 hb 3
      have G := Lib.hid (And.intro (F.out.1.step st2 (by decide)) (And.intro (F.out.2.1.step st2 (by decide)) (Row.fresh (w0 := wr) 3 hown o)))
      obtain ⟨wo, hwo⟩ : ∃ v, v = wr := ⟨wr, rfl⟩
      subst hwo
      generalize tag o wo.heap.size 3 = o2 at *
      obtain ⟨Ar, cr, rfl⟩ := own_any hown
      clear C1 F st2 hown hb
      go_wp2_with fail
      refine (C2.out _ _ G.out.1).mono ?_
      rintro e w3 ⟨rfl, rfl⟩
      go_wp2
      go_loopw [7] (fun s7 wr => ∃ (i : Nat), s7 = .int .i64 (i : Int) ∧ i ≤ n ∧ Hid (Lg o2 1 wr a v L ∧ Lw w o2 wr ∧ Row o2 3 wr 34 3 (.slice Ar n cr) n (cellsW (modW L i)))) (fun st _ => n - (intOf st).toNat)
      case atStart => exact ⟨0, rfl, by omega, Lib.hid ⟨G.out.1, G.out.2.1, by rw [modW_zero]; exact G.out.2.2⟩⟩
      case round =>
        obtain ⟨j, rfl, hj, K⟩ := hrel
        clear G
        rcases Nat.lt_or_ge j n with hlt | hge
        · obtain ⟨⟨xt, xn, xv⟩, hx⟩ : ∃ x, L[j]? = some x := ⟨_, List.getElem?_eq_getElem (by rw [Y.out.1]; exact hlt)⟩
          have hvb := val_bound Y.out.2.inv (List.mem_of_getElem? hx)
          have hv0 := Y.out.2.val _ (List.mem_of_getElem? hx)
          have hnl := Y.out.2.name _ (List.mem_of_getElem? hx)
          simp only at hvb hv0 hnl
          have r := K.out.2.2
          obtain ⟨g, cap, hv, hc1, hc2, hog, hgl⟩ := r.form (by omega)
          injection hv with hv1 hv2 hv3
          subst hv1 hv3
          have q := cellsW_get _ j _ (modW_at hx)
          have hcl : (cellsW (modW L j)).length = n * 3 := by rw [cellsW_length, modW_len, Y.out.1]
          have d2 : wr.cell? ⟨g, j * 3 + 2, none⟩ = some (.int .i64 xv) := by rw [r.cellAt _ (by omega)]; exact q.2.2
          have f2 : wr.frozen? ⟨g, j * 3 + 2, none⟩ = false := r.frozenAt _
          have r1 := r.set (j * 3 + 2) (.int .i64 (xv + 1))
          have d1 : (wr.setCell ⟨g, j * 3 + 2, none⟩ (.int .i64 (xv + 1))).cell? ⟨g, j * 3 + 1, none⟩ = some (.string (bs xn)) := by
            rw [r1.cellAt _ (by omega), List.getElem?_set_ne (by omega)]; exact q.2.1
          have f1 : (wr.setCell ⟨g, j * 3 + 2, none⟩ (.int .i64 (xv + 1))).frozen? ⟨g, j * 3 + 1, none⟩ = false := r1.frozenAt _
          have r2 := r1.set (j * 3 + 1) (.string (bs (122 :: xn)))
          rw [modW_cells hx] at r2
          have hne : a ≠ g := fun e => by have := K.out.1.box.mine; rw [e, hog] at this; exact absurd this (by decide)
          have hnr : ∀ k, v.ownBlock = some k → k ≠ g := fun k hk e => by have := K.out.1.row.mine k hk; rw [e, hog] at this; exact absurd this (by decide)
          have hg1 : Lg o2 1 ((wr.setCell ⟨g, j * 3 + 2, none⟩ (.int .i64 (xv + 1))).setCell ⟨g, j * 3 + 1, none⟩ (.string (bs (122 :: xn)))) a v L := by
            have st := ((Step.refl o2 3 wr).setCell (p := ⟨g, j * 3 + 2, none⟩) (.inr hog) (.int .i64 (xv + 1))).setCell (p := ⟨g, j * 3 + 1, none⟩) (.inr hog) (.string (bs (122 :: xn)))
            exact K.out.1.step st (by decide)
          have hl1 : Lw w o2 ((wr.setCell ⟨g, j * 3 + 2, none⟩ (.int .i64 (xv + 1))).setCell ⟨g, j * 3 + 1, none⟩ (.string (bs (122 :: xn)))) := by
            have st := ((Step.refl o2 3 wr).setCell (p := ⟨g, j * 3 + 2, none⟩) (.inr hog) (.int .i64 (xv + 1))).setCell (p := ⟨g, j * 3 + 1, none⟩) (.inr hog) (.string (bs (122 :: xn)))
            exact K.out.2.1.step st (by decide)
          have G := Lib.hid (And.intro hg1 (And.intro hl1 r2))
          have z1 : (j : Int) < (n : Int) := by omega
          have z2 : (0 : Int) ≤ (j : Int) := by omega
          have e1 : wrap64 (xv + 1) = xv + 1 := by unfold wrap64; omega
          have hadd : (⟨#[122]⟩ : ByteArray) ++ bs xn = bs (122 :: xn) := bs_add [122] xn
          have hs1 := bs_size xn
          have hs2 : (⟨#[122]⟩ : ByteArray).size = 1 := rfl
          unfold maxLen at hc2
          clear hx hvb r q hcl r1 r2 hne hnr hg1 hl1 K hgl hog
          go_wp2
          go_roundw
          case rel => exact ⟨j + 1, by simp, by omega, G⟩
          case measure => simp [intOf]; omega
        · obtain rfl : j = n := by omega
          go_wp2_with fail
          refine (C3.out _ _ K.out.1).mono ?_
          rintro e w4 ⟨vs, rfl, hown4, hb4⟩
          have st4 := step_new o2 5 hb4 4
          have G := Lib.hid (And.intro (K.out.1.step st4 (by decide)) (And.intro (K.out.2.1.step st4 (by decide)) (And.intro (K.out.2.2.step st4 (by decide)) (Row.fresh (w0 := wr) 4 hown4 o2))))
          obtain ⟨wq, hwq⟩ : ∃ v, v = wr := ⟨wr, rfl⟩
          subst hwq
          generalize tag o2 wq.heap.size 4 = o4 at *
          obtain ⟨As, cs, rfl⟩ := own_any hown4
          obtain ⟨n, hjn⟩ : ∃ n, n = j := ⟨_, rfl⟩
          subst hjn
          clear K st4 hown4 hb4 C3
          go_wp2
          go_loopw [9] (fun s9 wr => ∃ (i : Nat), s9 = .int .i64 (i : Int) ∧ i ≤ n ∧ Hid (Below w4.heap.size w4 wr)) (fun st _ => n - (intOf st).toNat)
          case atStart => exact ⟨0, rfl, by omega, Lib.hid (Below.refl _ _)⟩
          case round =>
            obtain ⟨i, rfl, hi, hb⟩ := hrel
            rcases Nat.lt_or_ge i n with hlt | hge
            · obtain ⟨⟨xt, xn, xv⟩, hx⟩ : ∃ x, L[i]? = some x := ⟨_, List.getElem?_eq_getElem (by rw [Y.out.1]; exact hlt)⟩
              have hvb := val_bound Y.out.2.inv (List.mem_of_getElem? hx)
              have hv0 := Y.out.2.val _ (List.mem_of_getElem? hx)
              have hnl := Y.out.2.name _ (List.mem_of_getElem? hx)
              simp only at hvb hv0 hnl
              have r := G.out.2.2.1.below hb.out
              have s := G.out.2.2.2.below hb.out
              obtain ⟨g, cap, hv, hc1, hc2, _, _⟩ := r.form (by omega)
              injection hv with hv1 hv2 hv3
              subst hv1 hv3
              obtain ⟨h, cap2, hv, hc3, hc4, _, _⟩ := s.form (by omega)
              injection hv with hv1 hv2 hv3
              subst hv1 hv3
              have hma : (modW L n)[i]? = some (mdW ⟨xt, xn, xv⟩) := by have := modW_all hx; rw [Y.out.1] at this; exact this
              have q := cellsW_get _ i _ hma
              have p := cellsW_get _ i _ hx
              have d1 : wr.cell? ⟨g, i * 3 + 1, none⟩ = some (.string (bs (122 :: xn))) := by rw [r.cellAt _ (by omega)]; exact q.2.1
              have d2 : wr.cell? ⟨g, i * 3 + 2, none⟩ = some (.int .i64 (xv + 1)) := by rw [r.cellAt _ (by omega)]; exact q.2.2
              have e1 : wr.cell? ⟨h, i * 3 + 1, none⟩ = some (.string (bs xn)) := by rw [s.cellAt _ (by omega)]; exact p.2.1
              have e2 : wr.cell? ⟨h, i * 3 + 2, none⟩ = some (.int .i64 xv) := by rw [s.cellAt _ (by omega)]; exact p.2.2
              obtain ⟨y, hy⟩ : ∃ y, xv + 1 = y := ⟨_, rfl⟩
              rw [hy] at d2
              have z1 : (i : Int) < (n : Int) := by omega
              have z2 : (0 : Int) ≤ (i : Int) := by omega
              have z3 : decide ((i : Int) ≥ (n : Int)) = false := decide_eq_false (by omega)
              have z4 : decide ((n : Int) ≤ (i : Int)) = false := decide_eq_false (by omega)
              have z5 : decide (n ≤ i) = false := decide_eq_false (by omega)
              have y1 : IntKind.i64.wrap (y - 1) = xv := by rw [IntKind.wrap_i64]; omega
              have y2 : (xv != xv) = false := by simp
              have hadd : (⟨#[122]⟩ : ByteArray) ++ bs xn = bs (122 :: xn) := bs_add [122] xn
              have hs1 := bs_size xn
              have hs2 : (⟨#[122]⟩ : ByteArray).size = 1 := rfl
              have y3 : (!((bs (122 :: xn)).toList == (bs (122 :: xn)).toList)) = false := by simp
              have y4 : ((bs (122 :: xn)).toList == (bs (122 :: xn)).toList) = true := by simp
              unfold maxLen at hc2 hc4
              clear hx hvb r s hma q p hy hv0
              go_wp2
              go_quiet (fail)
              go_wp2
              go_roundw
              case rel => exact ⟨i + 1, by simp, by omega, Lib.hid (below_dN hb.out _)⟩
              case measure => simp [intOf]; omega
            · obtain rfl : i = n := by omega
              replace G := Lib.hid (And.intro (G.out.1.below hb.out) (G.out.2.1.on hb.out))
              have e1 : (el == el) = true := by simp
              have e2 : ((i : Int) == (i : Int)) = true := by simp
              clear hb
              go_wp2_with fail
              refine (C2.out _ _ G.out.1).mono ?_
              rintro e w6 ⟨rfl, rfl⟩
              go_wp2_with fail
              refine (C4.out _ _ G.out.1).mono ?_
              rintro e w6 ⟨rfl, rfl⟩
              clear C2 C4
              go_wp2
              go_ret
              exact ⟨by first | rfl | simp, G.out.2.below⟩
end Go.Proofs.Ytbmofcggdpjcbaa
