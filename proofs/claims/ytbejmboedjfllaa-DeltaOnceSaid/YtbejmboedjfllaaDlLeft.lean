/- DeltaLeft: what is left falls by one each tick, till it rings; then nothing is left. -/
import Derived.Test.YtbejmboedjfllaaDlAwake
import Derived.Test.YtbejmboedjfllaaReads
namespace Go.Proofs.Ytbejmboedjfllaa
open Go.RowKit
set_option linter.unusedVariables false
set_option linter.unusedSimpArgs false

theorem setL_len (room : Nat) (now : Int) (l : List Tm) (id after : Int) : (setL room now l id after).length ≤ l.length + 1 := by
  unfold setL
  split
  · omega
  · split
    · omega
    · have := (stopL_sub l id).length_le
      simp; omega
theorem setL_mem {room : Nat} {now : Int} {l : List Tm} {id after : Int} {z : Tm} (h : z ∈ setL room now l id after) : z ∈ l ∨ z = (id, now + after) := by
  unfold setL at h
  split at h
  · exact .inl h
  · split at h
    · exact .inl h
    · rcases List.mem_append.1 h with h | h
      · exact .inl ((stopL_sub l id).subset h)
      · exact .inr (by simpa using h)
theorem stopB_no {l : List Tm} {id : Int} (h : ∀ z ∈ l, z.1 ≠ id) : stopB l id = false := by
  unfold stopB
  rw [find_out (fun z hz => by simpa [isId] using h z hz)]
  rfl
/-- A timer that is not there yet, where there is room. -/
theorem set_new {room : Nat} {now : Int} {l : List Tm} {id after : Int} (h : ∀ z ∈ l, z.1 ≠ id) (hl : l.length < room) (h1 : 1 ≤ after) (h2 : after ≤ 10000) :
    setE room l id after = 0 ∧ setL room now l id after = l ++ [(id, now + after)] := by
  have hb := stopB_no h
  unfold setE setL
  rw [if_neg (by omega), if_neg (by omega), if_neg (fun e => by omega), if_neg (fun e => by omega), stopL_same hb]
  exact ⟨rfl, rfl⟩
theorem left_at {now : Int} {l : List Tm} {id t : Int} (h1 : ∀ z ∈ l, z.1 = id → z.2 = t) (h2 : ∃ z ∈ l, z.1 = id) : leftV now l id = (t - now, true) := by
  unfold leftV
  cases hf : l.findIdx? (isId id) with
  | none =>
    obtain ⟨z, hz, he⟩ := h2
    have := (idxP_none hf).2 z hz
    simp [isId, he] at this
  | some i =>
    obtain ⟨_, _, ⟨y, hy, hye⟩, _⟩ := idxP_some hf
    have hgd : l.getD i (0, 0) = y := by rw [List.getD, hy]; rfl
    have := h1 y (List.mem_of_getElem? hy) (by simpa [isId] using hye)
    simp only [hgd, this]
theorem left_no {now : Int} {l : List Tm} {id : Int} (h : ∀ z ∈ l, z.1 ≠ id) : leftV now l id = (0, false) := by
  unfold leftV
  rw [find_out (fun z hz => by simpa [isId] using h z hz)]
/-- The alarm id on its way at time now: it rings at m. -/
structure Way (room now m : Nat) (id : Int) (l : List Tm) : Prop where
  inv : QInv room now l
  only : ∀ z ∈ l, z.1 = id → z.2 = m
  has : now < m → ∃ z ∈ l, z.1 = id
theorem Way.tick {room now m : Nat} {id : Int} {l : List Tm} (h : Way room now m id l) : Way room (now + 1) m id (tickL now l) := by
  have hs : (tickL now l).Sublist l := List.filter_sublist
  refine ⟨h.inv.tick, fun z hz => h.only z (hs.subset hz), fun hlt => ?_⟩
  obtain ⟨z, hz, he⟩ := h.has (by omega)
  refine ⟨z, List.mem_filter.2 ⟨hz, ?_⟩, he⟩
  have := h.only z hz he
  simp [isAt]
  omega
theorem Way.gone {room m : Nat} {id : Int} {l : List Tm} (h : Way room m m id l) : ∀ z ∈ l, z.1 ≠ id := fun z hz he => by
  have h1 := h.only z hz he
  have h2 := h.inv.at_ z hz
  omega
set_option maxHeartbeats 6400000 in
set_option maxRecDepth 100000 in
theorem DeltaLeft_ret (after : Int) (A : Option Addr) (c : Nat) (zs : List Int) (w : World) (h2 : fitB after = true) (hk : zs.length ≤ 9223372036854775807) (hf : ∀ x ∈ zs, fitB x = true) (hrd : ReadsI w A zs) (hbl : zs ≠ [] → ∀ ad, A = some ad → ad.block < w.heap.size) :
    Calls Try.prog 6 #[.int .i64 after, .slice A zs.length c] w (RetB (.bool true) w) := by
  have A0 := Lib.hid awake_any
  clear h2 hf
  replace hrd := Lib.hid hrd
  replace hbl := Lib.hid hbl
  obtain ⟨n, hn⟩ : ∃ n : Nat, zs.length = n := ⟨_, rfl⟩
  rw [hn] at hk ⊢
  replace hn := Lib.hid hn
  go_enter Try.func6, Try.ntmps6
  go_wp2_with fail
  refine (A0.out _).mono ?_; rintro e b0w ⟨rfl, b0⟩
  by_cases k1 : after < 1
  · go_wp2
    go_ret
    exact ⟨rfl, by have s0 := b0.size; (try simp only [World.heap_drewN, World.size_alloc] at s0); repeat (first | exact Below.refl _ _ | exact b0 | refine Below.trans ?_ (Below.mono b0 (by first | omega | (simp; done) | (simp; omega))) | refine Below.setCell ?_ (by first | omega | (simp; done) | (simp; omega)) _ | refine below_dN ?_ _ | refine Below.drew ?_ | refine Below.alloc ?_ (by first | omega | (simp; done) | (simp; omega)) _)⟩
  have k1' : decide (after < 1) = false := decide_eq_false k1
  by_cases k2 : after > 200
  · go_wp2
    go_ret
    exact ⟨rfl, by have s0 := b0.size; (try simp only [World.heap_drewN, World.size_alloc] at s0); repeat (first | exact Below.refl _ _ | exact b0 | refine Below.trans ?_ (Below.mono b0 (by first | omega | (simp; done) | (simp; omega))) | refine Below.setCell ?_ (by first | omega | (simp; done) | (simp; omega)) _ | refine below_dN ?_ _ | refine Below.drew ?_ | refine Below.alloc ?_ (by first | omega | (simp; done) | (simp; omega)) _)⟩
  have k2' : decide (after > 200) = false := decide_eq_false k2
  by_cases k3 : (n : Int) > 20
  · go_wp2
    go_ret
    exact ⟨rfl, by have s0 := b0.size; (try simp only [World.heap_drewN, World.size_alloc] at s0); repeat (first | exact Below.refl _ _ | exact b0 | refine Below.trans ?_ (Below.mono b0 (by first | omega | (simp; done) | (simp; omega))) | refine Below.setCell ?_ (by first | omega | (simp; done) | (simp; omega)) _ | refine below_dN ?_ _ | refine Below.drew ?_ | refine Below.alloc ?_ (by first | omega | (simp; done) | (simp; omega)) _)⟩
  have k3' : decide ((n : Int) > 20) = false := decide_eq_false k3
  obtain ⟨m, rfl⟩ : ∃ m : Nat, after = m := ⟨after.toNat, by omega⟩
  go_wp2_with fail
  refine (qnew (fun _ => 0) 1 _ 50 (by decide) (by decide)).mono ?_
  rintro e w1 ⟨rfl, o1, v1, s1, h1⟩
  have l1 := ((Lw.start w).on b0).step s1 (by decide)
  clear b0 s1
  generalize b0w.heap.size = a at *
  go_wp2
  go_loopw [7] (fun st wr => ∃ (i : Nat) (o : Nat → Nat) (v : Value) (l : List Tm), st = .int .i64 (i : Int) ∧ i ≤ n ∧ Qu o 1 wr a 50 0 v l ∧ QInv 50 0 l ∧ l.length ≤ i ∧ (∀ z ∈ l, z.1 ≠ 7) ∧ Lw w o wr) (fun st _ => n - (intOf st).toNat)
  case atStart => exact ⟨0, o1, v1, [], rfl, by omega, h1, QInv.start (by decide) (by decide), by simp, by simp, l1⟩
  case round =>
    obtain ⟨i, o, v, l, rfl, hi, h, hv, hll, h7, lw⟩ := hrel
    clear h1 l1
    rcases Nat.lt_or_ge i n with hlt | hge
    · obtain ⟨b', off', rfl, hcell⟩ := (hrd.out.below (fun ad had => hbl.out (by intro e; have := hn.out; rw [e] at this; simp at this; omega) ad had) lw.below) i (by have := hn.out; omega)
      generalize hgx : zs.getD i 0 = x at *
      have C := Lib.hid (qset (100 + (i : Int)) x _ _ h hv (by decide) rfl rfl)
      have F := Lib.hid (And.intro (hv.set (100 + (i : Int)) x) (And.intro lw (And.intro (show (setL 50 ((0 : Nat) : Int) l (100 + (i : Int)) x).length ≤ i + 1 from Nat.le_trans (setL_len _ _ _ _ _) (by omega)) (show ∀ z ∈ setL 50 ((0 : Nat) : Int) l (100 + (i : Int)) x, z.1 ≠ 7 from fun z hz => by
        rcases setL_mem hz with hz | rfl
        · exact h7 z hz
        · simp only; omega))))
      have z1 : IntKind.i64.wrap (100 + (i : Int)) = 100 + (i : Int) := by rw [IntKind.wrap_i64]; omega
      clear hv lw h hll h7
      go_wp2_with fail
      refine C.out.mono ?_
      rintro e w2 ⟨rfl, o2, v2, st2, h2⟩
      have G := Lib.hid (And.intro h2 (F.out.2.1.step st2 (by decide)))
      clear C h2 st2
      go_wp2
      go_roundw
      case rel => exact ⟨i + 1, o2, v2, _, by simp, by omega, G.out.1, F.out.1, F.out.2.2.1, F.out.2.2.2, G.out.2⟩
      case measure => simp [intOf]; omega
    · obtain rfl : i = n := by omega
      have hs := set_new (room := 50) (now := ((0 : Nat) : Int)) (after := (m : Int)) h7 (by omega) (by omega) (by omega)
      have C := Lib.hid (qset 7 (m : Int) _ _ h hv (by decide) hs.1 hs.2)
      have F := Lib.hid (And.intro (show Way 50 0 m 7 (l ++ [(7, ((0 : Nat) : Int) + (m : Int))]) from ⟨hs.2 ▸ hv.set 7 (m : Int), fun z hz he => by
        rcases List.mem_append.1 hz with hz | hz
        · exact absurd he (h7 z hz)
        · simp at hz; subst hz; simp, fun _ => ⟨_, List.mem_append_right _ (List.mem_singleton_self _), rfl⟩⟩) lw)
      clear hv lw h hll h7 hs
      go_wp2_with fail
      refine C.out.mono ?_
      rintro e w2 ⟨rfl, o2, v2, st2, h2⟩
      have G := Lib.hid (And.intro h2 (And.intro F.out.1 (F.out.2.step st2 (by decide))))
      clear C h2 st2 F
      go_wp2
      go_loopw [8] (fun st wr => ∃ (t : Nat) (o : Nat → Nat) (v : Value) (l : List Tm), st = .int .i64 (t : Int) ∧ t ≤ m ∧ Qu o 1 wr a 50 t v l ∧ Way 50 t m 7 l ∧ Lw w o wr) (fun st _ => m - (intOf st).toNat)
      case atStart => exact ⟨0, o2, v2, _, rfl, by omega, G.out.1, G.out.2.1, G.out.2.2⟩
      case round =>
        clear G
        obtain ⟨t, o3, v3, l3, rfl, ht, h3, hw, lw3⟩ := hrel
        rcases Nat.lt_or_ge t m with htl | htg
        · have hlv := left_at (now := (t : Int)) hw.only (hw.has htl)
          have C1 := Lib.hid (qleft 7 _ _ h3 hw.inv (by omega) hlv)
          have z1 : IntKind.i64.wrap ((m : Int) - (t : Int)) = (m : Int) - (t : Int) := by rw [IntKind.wrap_i64]; omega
          have z2 : (((m : Int) - (t : Int)) != ((m : Int) - (t : Int))) = false := by simp
          have F3 := Lib.hid (And.intro h3 (And.intro hw lw3))
          clear h3 hw lw3 hlv
          go_wp2_with fail
          refine C1.out.mono ?_
          rintro e w4 ⟨rfl, b4⟩
          obtain ⟨h3, hw, lw3⟩ := F3.out
          have C2 := Lib.hid (qtick (τ := 2) (by decide) (h3.below b4) hw.inv (by omega))
          have F4 := Lib.hid (And.intro hw.tick (lw3.on b4))
          clear h3 hw lw3 F3 C1 b4
          go_wp2_with fail
          refine C2.out.mono ?_
          rintro e w5 ⟨ve, rfl, o5, v5, st5, h5, r5⟩
          obtain ⟨A5, c5, rfl⟩ := r5.any
          have G5 := Lib.hid (And.intro h5 (And.intro F4.out.1 (F4.out.2.step st5 (by decide))))
          clear h5 st5 r5 C2 F4
          go_wp2
          go_roundw
          case rel => exact ⟨t + 1, o5, v5, _, by simp, by omega, G5.out.1, G5.out.2.1, G5.out.2.2⟩
          case measure => simp [intOf]; omega
        · obtain rfl : t = m := by omega
          have hlv := left_no (now := (t : Int)) hw.gone
          have C1 := Lib.hid (qleft 7 _ _ h3 hw.inv (by omega) hlv)
          have F3 := Lib.hid (And.intro h3 (And.intro hw lw3))
          clear h3 hw lw3 hlv
          go_wp2_with fail
          refine C1.out.mono ?_
          rintro e w4 ⟨rfl, b4⟩
          obtain ⟨h3, hw, lw3⟩ := F3.out
          have C2 := Lib.hid (qnow (h3.below b4))
          have L4 := Lib.hid (lw3.on b4)
          clear h3 hw lw3 F3 C1 b4
          go_wp2_with fail
          refine C2.out.mono ?_
          rintro e w5 ⟨rfl, rfl⟩
          go_wp2
          go_ret
          exact ⟨by simp, L4.out.below⟩
end Go.Proofs.Ytbejmboedjfllaa
