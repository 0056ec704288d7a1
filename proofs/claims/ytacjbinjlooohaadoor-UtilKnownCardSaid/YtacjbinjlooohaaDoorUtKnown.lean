/- UtilKnown: the examples of chapter 12. -/
import Derived.Test.YtacjbinjlooohaaDoorUtAwake
namespace Go.Proofs.YtacjbinjlooohaaDoor
open Go.RowKit
open Go.Lib hiding intOf
set_option linter.unusedVariables false
set_option linter.unusedSimpArgs false

theorem u_known : (utilV 0 1 = 0 ∧ utilOk 0 1 = false) ∧ (utilV 1 10001 = 0 ∧ utilOk 1 10001 = false) ∧ (utilV 1000 1 = 1048576000 ∧ utilOk 1000 1 = true) ∧ (periodV 1 0 = 0 ∧ periodOk 1 0 = false) ∧ (periodV 1000 1 = 0 ∧ periodOk 1000 1 = false) ∧ (periodV 1 4611686018427387904 = 1 ∧ periodOk 1 4611686018427387904 = true) := by decide
theorem s_known : (totV [] = 0 ∧ totOk [] = true) ∧ (totV [1, -1] = 0 ∧ totOk [1, -1] = false) ∧ (totV [4611686018427387904, 4611686018427387904] = 0 ∧ totOk [4611686018427387904, 4611686018427387904] = false) := by decide
theorem t_known : bs (textZ 0) = ⟨#[48, 46, 48, 48, 48]⟩ ∧ bs (textZ (-1048576)) = ⟨#[45, 49, 46, 48, 48, 48]⟩ ∧ bs (textZ 1) = ⟨#[48, 46, 48, 48, 48]⟩ ∧ bs (textZ 3407872) = ⟨#[51, 46, 50, 53, 48]⟩ := by
  have h0 : textZ 0 = [48, 46, 48, 48, 48] := by
    show dg 0 ++ 46 :: dg3 0 = _
    rw [dg_small (by decide)]; rfl
  have h1 : textZ (-1048576) = [45, 49, 46, 48, 48, 48] := by
    show 45 :: (dg 1 ++ 46 :: dg3 0) = _
    rw [dg_small (by decide)]; rfl
  have h2 : textZ 1 = [48, 46, 48, 48, 48] := by
    show dg 0 ++ 46 :: dg3 0 = _
    rw [dg_small (by decide)]; rfl
  have h3 : textZ 3407872 = [51, 46, 50, 53, 48] := by
    show dg 3 ++ 46 :: dg3 250 = _
    rw [dg_small (by decide)]; rfl
  rw [h0, h1, h2, h3]
  exact ⟨rfl, rfl, rfl, rfl⟩
theorem sum_new (l : List Int) (n : Nat) (v : Int) (o : Bool) (cs : Array Value) (ty : TypeId) (hn : l.length = n) (hn2 : n ≤ 1000) (hf : ∀ x ∈ l, fitB x = true) (hc : cs = (l.map (Value.int .i64)).toArray) (hv : totV l = v) (ho : totOk l = o) (w' : World) (B : Nat) (hB : w'.heap.size = B) :
    Calls Tryd.prog 11 #[.slice (some ⟨B, 0, none⟩) n n] (w'.alloc (.cells cs ty)) (RetB (.tuple #[.int .i64 v, .bool o]) (w'.alloc (.cells cs ty))) := by
  subst hB
  subst hn
  refine usum_b _ l.length l v o _ (by omega) hf (fun k hk => ⟨w'.heap.size, 0, rfl, ?_⟩) hv ho
  rw [Nat.zero_add]
  have : (w'.alloc (.cells cs ty)).cell? ⟨w'.heap.size, k, none⟩ = cs[k]? := by unfold World.cell?; rw [heap_alloc_new]; rfl
  rw [this, hc, List.getD]
  simp [hk]
set_option maxHeartbeats 3200000 in
set_option maxRecDepth 100000 in
theorem UtilKnown_ret (w : World) (hL : Pow w) : Calls Tryd.prog 3 #[] w (RetB (.bool true) w) := by
  have A0 := Lib.hid (awake12_any w hL)
  obtain ⟨⟨u1, u2⟩, ⟨u3, u4⟩, ⟨u5, u6⟩, ⟨u7, u8⟩, ⟨u9, u10⟩, ⟨u11, u12⟩⟩ := u_known
  obtain ⟨⟨s1, s2⟩, ⟨s3, s4⟩, ⟨s5, s6⟩⟩ := s_known
  obtain ⟨t1, t2, t3, t4⟩ := t_known
  have C1 := Lib.hid (uof_b 0 1 0 false · (by decide) (by decide) u1 u2)
  have C2 := Lib.hid (uof_b 1 10001 0 false · (by decide) (by decide) u3 u4)
  have C3 := Lib.hid (uof_b 1000 1 1048576000 true · (by decide) (by decide) u5 u6)
  have C4 := Lib.hid (uper_b 1 0 0 false · (by decide) (by decide) u7 u8)
  have C5 := Lib.hid (uper_b 1000 1 0 false · (by decide) (by decide) u9 u10)
  have C6 : Hid (∀ w', Calls Tryd.prog 11 #[.slice none 0 0] w' (RetB (.tuple #[.int .i64 0, .bool true]) w')) := fun w' => usum_b none 0 [] 0 true w' (by decide) (fun x hx => by simp at hx) (fun k hk => by simp at hk) s1 s2
  have C7 := Lib.hid (sum_new [1, -1] 2 0 false #[.int .i64 1, .int .i64 (-1)] 2 rfl (by decide) (fun x hx => by simp at hx; rcases hx with rfl | rfl <;> decide) rfl s3 s4)
  have C8 := Lib.hid (sum_new [4611686018427387904, 4611686018427387904] 2 0 false #[.int .i64 4611686018427387904, .int .i64 4611686018427387904] 2 rfl (by decide) (fun x hx => by simp at hx; subst hx; decide) rfl s5 s6)
  have C9 := Lib.hid (uper_b 1 4611686018427387904 1 true · (by decide) (by decide) u11 u12)
  have T1 : Hid (∀ w', Below w.heap.size w w' → Calls Tryd.prog 12 #[.int .i64 0] w' (RetB (.string ⟨#[48, 46, 48, 48, 48]⟩) w')) := fun w' hb => t1 ▸ utext_b 0 w' (by decide) (hL.below hb)
  have T2 : Hid (∀ w', Below w.heap.size w w' → Calls Tryd.prog 12 #[.int .i64 (-1048576)] w' (RetB (.string ⟨#[45, 49, 46, 48, 48, 48]⟩) w')) := fun w' hb => t2 ▸ utext_b (-1048576) w' (by decide) (hL.below hb)
  have T3 : Hid (∀ w', Below w.heap.size w w' → Calls Tryd.prog 12 #[.int .i64 1] w' (RetB (.string ⟨#[48, 46, 48, 48, 48]⟩) w')) := fun w' hb => t3 ▸ utext_b 1 w' (by decide) (hL.below hb)
  have T4 : Hid (∀ w', Below w.heap.size w w' → Calls Tryd.prog 12 #[.int .i64 3407872] w' (RetB (.string ⟨#[51, 46, 50, 53, 48]⟩) w')) := fun w' hb => t4 ▸ utext_b 3407872 w' (by decide) (hL.below hb)
  clear hL u1 u2 u3 u4 u5 u6 u7 u8 u9 u10 u11 u12 s1 s2 s3 s4 s5 s6 t1 t2 t3 t4
  have al : ∀ (a b : World) (ob : Obj), Below (a.alloc ob).heap.size (a.alloc ob) b → Below a.heap.size a b := fun a b ob h => below_on ((Below.refl _ _).alloc (Nat.le_refl _) _) h
  replace al := Lib.hid al
  go_enter Tryd.func3, Tryd.ntmps3
  go_wp2_with fail
  refine (A0.out).mono ?_; rintro e aw ⟨rfl, a⟩
  have ga := Lib.hid a
  clear A0 a
  go_wp2_with fail
  refine (C1.out _).mono ?_; rintro e bw ⟨rfl, b⟩
  have gb : Hid (Below w.heap.size w bw) := below_on ga.out b
  clear C1 b ga
  go_wp2_with fail
  refine (C2.out _).mono ?_; rintro e cw ⟨rfl, c⟩
  have gc : Hid (Below w.heap.size w cw) := below_on gb.out c
  clear C2 c gb
  go_wp2_with fail
  refine (C3.out _).mono ?_; rintro e dw ⟨rfl, d⟩
  have gd : Hid (Below w.heap.size w dw) := below_on gc.out d
  clear C3 d gc
  go_wp2_with fail
  refine (C4.out _).mono ?_; rintro e fw ⟨rfl, f⟩
  have gf : Hid (Below w.heap.size w fw) := below_on gd.out f
  clear C4 f gd
  go_wp2_with fail
  refine (C5.out _).mono ?_; rintro e gw ⟨rfl, g⟩
  have gg : Hid (Below w.heap.size w gw) := below_on gf.out g
  clear C5 g gf
  go_wp2_with fail
  refine (C6.out _).mono ?_; rintro e hw ⟨rfl, h⟩
  have gh : Hid (Below w.heap.size w hw) := below_on gg.out h
  clear C6 h gg
  go_wp2_with fail
  refine (C7.out hw _ rfl).mono ?_; rintro e w7 ⟨rfl, b7⟩
  have g7 := Lib.hid (below_on gh.out (al.out _ _ _ b7))
  clear C7 gh b7
  go_wp2_with fail
  refine (C8.out w7 _ rfl).mono ?_; rintro e w8 ⟨rfl, b8⟩
  have g8 := Lib.hid (below_on g7.out (al.out _ _ _ b8))
  clear C8 g7 b8
  go_wp2_with fail
  refine (C9.out _).mono ?_; rintro e iw ⟨rfl, i⟩
  have gi : Hid (Below w.heap.size w iw) := below_on g8.out i
  clear C9 i g8
  go_wp2_with fail
  refine (T1.out _ (by have s0 := gi.out.size; (try simp only [World.heap_drewN, World.size_alloc] at s0); repeat (first | exact Below.refl _ _ | exact gi.out | refine Below.trans ?_ (Below.mono gi.out (by first | omega | (simp; done) | (simp; omega))) | refine Below.setCell ?_ (by first | omega | (simp; done) | (simp; omega)) _ | refine below_dN ?_ _ | refine Below.drew ?_ | refine Below.alloc ?_ (by first | omega | (simp; done) | (simp; omega)) _))).mono ?_; rintro e jw ⟨rfl, j⟩
  have gj : Hid (Below w.heap.size w jw) := below_on gi.out j
  clear T1 j gi
  go_wp2_with fail
  refine (T2.out _ (by have s0 := gj.out.size; (try simp only [World.heap_drewN, World.size_alloc] at s0); repeat (first | exact Below.refl _ _ | exact gj.out | refine Below.trans ?_ (Below.mono gj.out (by first | omega | (simp; done) | (simp; omega))) | refine Below.setCell ?_ (by first | omega | (simp; done) | (simp; omega)) _ | refine below_dN ?_ _ | refine Below.drew ?_ | refine Below.alloc ?_ (by first | omega | (simp; done) | (simp; omega)) _))).mono ?_; rintro e kw ⟨rfl, k⟩
  have gk : Hid (Below w.heap.size w kw) := below_on gj.out k
  clear T2 k gj
  go_wp2_with fail
  refine (T3.out _ (by have s0 := gk.out.size; (try simp only [World.heap_drewN, World.size_alloc] at s0); repeat (first | exact Below.refl _ _ | exact gk.out | refine Below.trans ?_ (Below.mono gk.out (by first | omega | (simp; done) | (simp; omega))) | refine Below.setCell ?_ (by first | omega | (simp; done) | (simp; omega)) _ | refine below_dN ?_ _ | refine Below.drew ?_ | refine Below.alloc ?_ (by first | omega | (simp; done) | (simp; omega)) _))).mono ?_; rintro e lw ⟨rfl, l⟩
  have gl : Hid (Below w.heap.size w lw) := below_on gk.out l
  clear T3 l gk
  go_wp2_with fail
  refine (T4.out _ (by have s0 := gl.out.size; (try simp only [World.heap_drewN, World.size_alloc] at s0); repeat (first | exact Below.refl _ _ | exact gl.out | refine Below.trans ?_ (Below.mono gl.out (by first | omega | (simp; done) | (simp; omega))) | refine Below.setCell ?_ (by first | omega | (simp; done) | (simp; omega)) _ | refine below_dN ?_ _ | refine Below.drew ?_ | refine Below.alloc ?_ (by first | omega | (simp; done) | (simp; omega)) _))).mono ?_; rintro e mw ⟨rfl, m⟩
  have gm : Hid (Below w.heap.size w mw) := below_on gl.out m
  clear T4 m gl
  go_wp2
  go_ret
  exact ⟨rfl, by have s0 := gm.out.size; (try simp only [World.heap_drewN, World.size_alloc] at s0); repeat (first | exact Below.refl _ _ | exact gm.out | refine Below.trans ?_ (Below.mono gm.out (by first | omega | (simp; done) | (simp; omega))) | refine Below.setCell ?_ (by first | omega | (simp; done) | (simp; omega)) _ | refine below_dN ?_ _ | refine Below.drew ?_ | refine Below.alloc ?_ (by first | omega | (simp; done) | (simp; omega)) _)⟩
end Go.Proofs.YtacjbinjlooohaaDoor
