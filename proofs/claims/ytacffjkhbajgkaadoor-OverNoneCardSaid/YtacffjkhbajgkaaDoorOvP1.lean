/- Package over: Load, limit, Share. -/
import Derived.Test.YtacffjkhbajgkaaDoorOvSh
import Derived.Test.YtacffjkhbajgkaaDoorTr1
namespace Go.Proofs.YtacffjkhbajgkaaDoor
open Go.RowKit Go.Lib
set_option linter.unusedVariables false
set_option linter.unusedSimpArgs false

set_option maxHeartbeats 3200000 in
set_option maxRecDepth 100000 in
theorem load_any (A : Option Addr) (cap : Nat) (l : List Jb) (f t z : Int) (w : World) (hn : l.length ≤ 1000) (hcap : cap ≤ 9223372036854775807) (hlc : l.length ≤ cap) (hs : ∀ x ∈ l, x.name.size ≤ 1000000) (hL : Ltr w) (hR : RdJ w A l) (hz : loadB l f t = z) :
    Calls Tryd.prog 11 #[.slice A l.length cap, .int .i64 f, .int .i64 t] w (RetB (.int .i64 z) w) := by
  obtain ⟨g, hg⟩ : ∃ g, allB l = g := ⟨_, rfl⟩
  have C := Lib.hid (all_any A cap l g w hcap hlc hs hL hR hg)
  cases g
  · rw [loadB_none hg] at hz; subst hz
    generalize l.length = n at *
    clear hs hL hR hg
    go_enter Tryd.func11, Tryd.ntmps11
    go_wp2_with fail
    refine C.out.mono ?_; rintro e gw ⟨rfl, gb⟩
    go_wp2
    go_ret
    exact ⟨rfl, by have s0 := gb.size; (try simp only [World.heap_drewN, World.size_alloc] at s0); repeat (first | exact Below.refl _ _ | exact gb | refine Below.trans ?_ (Below.mono gb (by first | omega | (simp; done) | (simp; omega))) | refine Below.setCell ?_ (by first | omega | (simp; done) | (simp; omega)) _ | refine below_dN ?_ _ | refine Below.drew ?_ | refine Below.alloc ?_ (by first | omega | (simp; done) | (simp; omega)) _)⟩
  · rw [loadB_all hg] at hz
    have C2 : Hid (∀ (x : Jb) w', x ∈ l → Below w.heap.size w w' → Calls Tryd.prog 23 #[.agg x.cells] w' (RetB (.int .i64 x.charge) w')) := fun x w' hx hb => jcharge_any x w' (hs x hx) (hL.below hb)
    obtain ⟨n, hl⟩ : ∃ n, l.length = n := ⟨_, rfl⟩
    have H := Lib.hid (And.intro hl (And.intro hR hz))
    rw [hl] at C hlc hn ⊢
    clear hl hs hL hR hg hz
    go_enter Tryd.func11, Tryd.ntmps11
    go_wp2_with fail
    refine C.out.mono ?_; rintro e gw ⟨rfl, gb⟩
    replace gb := Lib.hid gb
    clear C
    go_wp2
    go_loopw [7, 15] (fun s0 st wr => ∃ (i : Nat) (e : Int), s0 = .int .i64 e ∧ st = .int .i64 (i : Int) ∧ i ≤ n ∧ Hid (loadW f t (wds (l.take i)) = e ∧ Below w.heap.size w wr)) (fun _ st _ => n - (intOf st).toNat)
    case atStart => exact ⟨0, 0, rfl, rfl, by omega, Lib.hid ⟨rfl, gb.out⟩⟩
    case round =>
      clear gb
      obtain ⟨i, e, rfl, rfl, hin, K⟩ := hrel
      rcases Nat.lt_or_ge i n with hlt | hge
      · have d1 : decide ((i : Int) < (n : Int)) = true := decide_eq_true (by omega)
        have e1 : IntKind.i64.wrap ((i : Int) + 1) = ((i + 1 : Nat) : Int) := by rw [IntKind.wrap_i64]; omega
        have b1 : (i : Int) < (n : Int) := by omega
        have bd := loadW_bound (l.take i) f t
        rw [K.out.1] at bd
        have hlen : (l.take i).length ≤ i := by rw [List.length_take]; omega
        have bd2 : 0 ≤ e ∧ e ≤ 1100000 := by omega
        clear bd hlen
        obtain ⟨x, hx⟩ : ∃ x, l[i]? = some x := ⟨_, List.getElem?_eq_getElem (by rw [H.out.1]; exact hlt)⟩
        obtain ⟨B, off, rfl, hJ⟩ := (H.out.2.1.below K.out.2) i x hx
        have K2 : Hid (loadW f t (wds (l.take (i + 1))) = e + (if f ≤ x.rel ∧ x.dl ≤ t then x.charge else 0)) := by show _ = _; rw [wds_next hx, loadW_snoc, K.out.1]; rfl
        have Kb : Hid (Below w.heap.size w wr) := K.out.2
        have C3 : Hid (∀ w', Below wr.heap.size wr w' → Calls Tryd.prog 23 #[.agg x.cells] w' (RetB (.int .i64 x.charge) w')) := fun w' hb => C2.out x w' (List.mem_of_getElem? hx) (below_on Kb.out hb)
        obtain ⟨ch, hch⟩ : ∃ ch, x.charge = ch := ⟨_, rfl⟩
        have hcb := charge_pos x
        rw [show x.wd.c = x.charge from rfl, hch] at hcb
        rw [hch] at C3 K2
        unfold Jb.cells at C3
        unfold JAt at hJ
        obtain ⟨c0, c1, c2, c3, c4, c5, c6, c7⟩ := hJ
        clear hx K hch
        generalize x.name = xs at *
        generalize x.rel = xr at *
        generalize x.dl = xd at *
        generalize x.bud = xb at *
        generalize x.act = xa at *
        generalize x.vl = xv at *
        generalize x.cln = xc at *
        generalize x.hard = xh at *
        by_cases h1 : xr ≥ f
        · have d2 : decide (xr ≥ f) = true := decide_eq_true h1
          have d2' : decide (f ≤ xr) = true := decide_eq_true h1
          by_cases h2 : xd ≤ t
          · have d3 : decide (xd ≤ t) = true := decide_eq_true h2
            rw [if_pos ⟨h1, h2⟩] at K2
            obtain ⟨q, hq⟩ : ∃ q, e + ch = q := ⟨_, rfl⟩
            have e2 : IntKind.i64.wrap (e + ch) = q := by rw [IntKind.wrap_i64]; omega
            have e2' : wrap64 (e + ch) = q := by unfold wrap64; omega
            have K3 : Hid (loadW f t (wds (l.take (i + 1))) = q) := by show _ = _; rw [K2.out, hq]
            clear K2 hq bd2 hcb h1 h2
            go_wp2_with fail
            refine (C3.out _ (by repeat (first | exact Below.refl _ _ | refine Below.setCell ?_ (by first | omega | (simp; done) | (simp; omega)) _ | refine below_dN ?_ _ | refine Below.drew ?_ | refine Below.alloc ?_ (by first | omega | (simp; done) | (simp; omega)) _))).mono ?_; rintro _ hw ⟨rfl, hb⟩
            have hb2 : Hid (Below w.heap.size w hw) := by refine below_on Kb.out (below_on ?_ hb); exact by repeat (first | exact Below.refl _ _ | refine Below.setCell ?_ (by first | omega | (simp; done) | (simp; omega)) _ | refine below_dN ?_ _ | refine Below.drew ?_ | refine Below.alloc ?_ (by first | omega | (simp; done) | (simp; omega)) _)
            clear C3 Kb hb c0 c1 c2 c3 c4 c5 c6 c7
            go_wp2
            go_roundw
            case rel => exact ⟨i + 1, q, by first | rfl | simp, by first | rfl | simp, by clear e2 e2'; omega, Lib.hid ⟨K3.out, hb2.out⟩⟩
            case measure => simp [intOf]; clear e2 e2'; omega
          · have d3 : decide (xd ≤ t) = false := decide_eq_false h2
            rw [if_neg (fun h => h2 h.2), Int.add_zero] at K2
            clear bd2 hcb h1 h2 C3
            go_wp2
            go_roundw
            case rel => exact ⟨i + 1, e, rfl, by first | rfl | simp, by omega, Lib.hid ⟨K2.out, below_on Kb.out (by repeat (first | exact Below.refl _ _ | refine Below.setCell ?_ (by first | omega | (simp; done) | (simp; omega)) _ | refine below_dN ?_ _ | refine Below.drew ?_ | refine Below.alloc ?_ (by first | omega | (simp; done) | (simp; omega)) _))⟩⟩
            case measure => simp [intOf]; omega
        · have d2 : decide (xr ≥ f) = false := decide_eq_false h1
          have d2' : decide (f ≤ xr) = false := decide_eq_false h1
          rw [if_neg (fun h => h1 h.1), Int.add_zero] at K2
          clear bd2 hcb h1 C3
          go_wp2
          go_roundw
          case rel => exact ⟨i + 1, e, rfl, by first | rfl | simp, by omega, Lib.hid ⟨K2.out, below_on Kb.out (by repeat (first | exact Below.refl _ _ | refine Below.setCell ?_ (by first | omega | (simp; done) | (simp; omega)) _ | refine below_dN ?_ _ | refine Below.drew ?_ | refine Below.alloc ?_ (by first | omega | (simp; done) | (simp; omega)) _))⟩⟩
          case measure => simp [intOf]; omega
      · have d1 : decide ((i : Int) < (n : Int)) = false := decide_eq_false (by omega)
        have hf : e = z := by
          rw [← H.out.2.2, ← K.out.1, List.take_of_length_le (by rw [H.out.1]; exact hge)]
        subst hf
        have K3 := Lib.hid K.out.2
        clear K
        go_wp2
        go_ret
        exact ⟨rfl, K3.out⟩

theorem clampT_le (x : Int) (n : Nat) : clampT x n ≤ n := by unfold clampT; split; omega; split <;> omega
theorem limit_any (x : Int) (n : Nat) (c : Nat) (w : World) (h : clampT x n = c) : Calls Tryd.prog 21 #[.int .i64 x, .int .i64 (n : Int)] w (Ret (.int .i64 (c : Int)) w) := by
  go_enter Tryd.func21, Tryd.ntmps21
  go_wp2
  go_ret
  refine ⟨ret_i ?_, 0, rfl⟩
  unfold clampT at h
  split at h
  · omega
  · split at h <;> omega

theorem cut_mid (b off n cap i k : Nat) (t : List Int) (hl : t.length = n) (hi : i ≤ k) (hk : k ≤ n) (h0 : 0 < n) (hc : n ≤ cap) (hm : cap ≤ 9223372036854775807) :
    ∃ ad c, k - i ≤ c ∧ c ≤ 9223372036854775807 ∧ (∀ w', (Instr.slice 30 (.slice (some ⟨b, off, none⟩) n cap) (some (.int .i64 (i : Int))) (some (.int .i64 (k : Int))) none).run Tryd.prog w' = .ok (.slice (some ad) (k - i) c) w') ∧ ∀ w', RdT w' (some ⟨b, off, none⟩) t → RdT w' (some ad) ((t.take k).drop i) := by
  have h1 : (i : Int) ≤ (k : Int) := by omega
  have h2 : (k : Int) ≤ (cap : Int) := by omega
  have h3 : k ≤ cap := by omega
  have h4 : i ≤ cap := by omega
  by_cases hck : cap = i
  · have h5 : ¬ i < k := by omega
    refine ⟨⟨b, off, none⟩, cap - i, by omega, by omega, fun w' => by go_simp, fun w' hR => ?_⟩
    have e : (t.take k).drop i = [] := List.drop_eq_nil_of_le (by rw [List.length_take]; omega)
    rw [e]
    intro j x hj
    simp at hj
  · refine ⟨⟨b, off + i, none⟩, cap - i, by omega, by omega, fun w' => by go_simp, fun w' hR => ?_⟩
    intro j x hj
    rw [List.getElem?_drop, List.getElem?_take] at hj
    split at hj
    · obtain ⟨b', off', hA, hcell⟩ := hR _ x hj
      simp only [Option.some.injEq, Addr.mk.injEq, and_true] at hA
      obtain ⟨rfl, rfl⟩ := hA
      exact ⟨b, off + i, rfl, by rw [Nat.add_assoc]; exact hcell⟩
    · cases hj
theorem busy_count (p : List Int) : ((p.countP (fun k => !(k == -1)) : Nat) : Int) = busyZ p := by
  unfold busyZ
  have h := List.length_eq_countP_add_countP (fun k : Int => k == -1) (l := p)
  have e : p.countP (fun a => !(a == -1)) = p.countP (fun a => decide ¬ (a == -1) = true) := by
    congr 1; funext a; cases (a == -1) <;> rfl
  rw [e, List.count]
  omega
set_option maxHeartbeats 3200000 in
set_option maxRecDepth 100000 in
theorem share_any (A : Option Addr) (cap : Nat) (t : List Int) (f u x y : Int) (w : World) (h0 : 0 < t.length) (hn : t.length ≤ 1000000) (hcap : cap ≤ 9223372036854775807) (hlc : t.length ≤ cap) (hT : RdT w A t) (hz : shareB t f u = (x, y)) :
    Calls Tryd.prog 9 #[.slice A t.length cap, .int .i64 f, .int .i64 u] w (RetB (.tuple #[.int .i64 x, .int .i64 y]) w) := by
  obtain ⟨v0, hv0⟩ : ∃ x, t[0]? = some x := ⟨_, List.getElem?_eq_getElem h0⟩
  obtain ⟨b, off, rfl, _⟩ := hT 0 v0 hv0
  unfold shareB partT at hz
  simp only [Prod.mk.injEq] at hz
  obtain ⟨hx, hy⟩ := hz
  rw [busy_count] at hx
  rw [List.length_drop, List.length_take] at hy
  have C1 := Lib.hid (limit_any f t.length _ · rfl)
  have C2 := Lib.hid (limit_any u t.length _ · rfl)
  have g1 := clampT_le f t.length
  have g2 := clampT_le u t.length
  generalize clampT f t.length = i at *
  generalize clampT u t.length = k at *
  by_cases h : k < i
  · have d1 : decide ((k : Int) < (i : Int)) = true := decide_eq_true (by omega)
    have e0 : (t.take k).drop i = [] := List.drop_eq_nil_of_le (by rw [List.length_take]; omega)
    have ex : x = 0 := by rw [← hx, e0]; rfl
    have ey : y = 0 := by omega
    subst ex ey
    clear hx hy hT hv0 e0
    generalize t.length = n at *
    clear hlc h0 hn g1 g2
    go_enter Tryd.func9, Tryd.ntmps9
    go_wp2_with fail
    refine (C1.out _).mono ?_; rintro e w' ⟨rfl, n1, rfl⟩
    go_wp2_with fail
    refine (C2.out _).mono ?_; rintro e w' ⟨rfl, n2, rfl⟩
    go_wp2
    go_ret2
    exact ⟨rfl, by repeat (first | exact Below.refl _ _ | refine Below.setCell ?_ (by first | omega | (simp; done) | (simp; omega)) _ | refine below_dN ?_ _ | refine Below.drew ?_ | refine Below.alloc ?_ (by first | omega | (simp; done) | (simp; omega)) _)⟩
  · have d1 : decide ((k : Int) < (i : Int)) = false := decide_eq_false (by omega)
    obtain ⟨ad, c, c1, c2, hsl, hrd⟩ := cut_mid b off t.length cap i k t rfl (by omega) g2 h0 hlc hcap
    have hlen : ((t.take k).drop i).length = k - i := by rw [List.length_drop, List.length_take]; omega
    have C3 : Hid (∀ q, Calls Tryd.prog 22 #[.slice (some ad) (k - i) c] (w.drewN q) (Ret (.int .i64 x) (w.drewN q))) := fun q => by
      have := busy_any (some ad) c ((t.take k).drop i) x (w.drewN q) c2 (by rw [hlen]; exact c1) (hrd _ (hT.drewN q)) hx
      rw [hlen] at this
      exact this
    have e2 : IntKind.i64.wrap ((k : Int) - (i : Int)) = y := by rw [IntKind.wrap_i64]; omega
    have e2' : wrap64 ((k : Int) - (i : Int)) = y := by unfold wrap64; omega
    clear hx hy hT hv0 hrd hlen
    generalize t.length = n at *
    generalize hki : k - i = ki at *
    have hb : (k : Int) - (i : Int) = (ki : Int) := by omega
    have hyk : y = (ki : Int) := by rw [← e2, hb, IntKind.wrap_i64]; omega
    subst hyk
    clear hlc h0 hn g1 g2 hki
    go_enter Tryd.func9, Tryd.ntmps9
    go_wp2_with fail
    refine (C1.out _).mono ?_; rintro e w' ⟨rfl, n3, rfl⟩
    go_wp2_with fail
    refine (C2.out _).mono ?_; rintro e w' ⟨rfl, n4, rfl⟩
    go_wp2_with fail
    refine (C3.out _).mono ?_; rintro e w' ⟨rfl, n5, rfl⟩
    go_wp2
    go_ret2
    exact ⟨rfl, by repeat (first | exact Below.refl _ _ | refine Below.setCell ?_ (by first | omega | (simp; done) | (simp; omega)) _ | refine below_dN ?_ _ | refine Below.drew ?_ | refine Below.alloc ?_ (by first | omega | (simp; done) | (simp; omega)) _)⟩
end Go.Proofs.YtacffjkhbajgkaaDoor
