/- The document's queue: Tick. -/
import Derived.Test.YtbejmboedjfllaaDlRset
namespace Go.Proofs.Ytbejmboedjfllaa
open Go.RowKit
set_option linter.unusedVariables false
set_option linter.unusedSimpArgs false

/-- Those among the first i timers that do not expire at t. -/
def keepT (t : Int) (l : List Tm) (i : Nat) : List Tm := (l.take i).filter (fun x => !isAt t x)
theorem keepT_next {t : Int} {l : List Tm} {i : Nat} {x : Tm} (hx : l[i]? = some x) : keepT t l (i + 1) = if isAt t x then keepT t l i else keepT t l i ++ [x] := by
  unfold keepT
  rw [List.take_add_one, hx, List.filter_append]
  cases h : isAt t x <;> simp [h]
theorem keepT_all (t : Int) (l : List Tm) : keepT t l l.length = l.filter (fun x => !isAt t x) := by unfold keepT; rw [List.take_length]
theorem keepT_le (t : Int) (l : List Tm) (i : Nat) : (keepT t l i).length ≤ l.length := by
  unfold keepT
  exact Nat.le_trans (List.length_filter_le _ _) (by simp; omega)
/-- Two rows of unlike elements that a call has made: what happens to one leaves the other. -/
theorem own_apart {w w' : World} {b b' : Nat} {e e' : TypeId} {size size' n n' : Nat} {v v' : Value} {xs xs' : List Value} (h : w.ownsRow b e size v n xs) (h' : w.ownsRow b' e' size' v' n' xs') (ht : e ≠ e') (hg : w.grownBy w' v'.ownBlock) : w'.ownsRow b e size v n xs := by
  refine own_same h fun k hk => hg.block k (h.lt k hk).2 (fun hk' => ?_)
  have r : Row (fun _ => 0) 0 w e size v n xs := ⟨own_zero h, fun _ _ => rfl⟩
  have r' : Row (fun _ => 0) 0 w e' size' v' n' xs' := ⟨own_zero h', fun _ _ => rfl⟩
  exact r.ne_row r' ht k hk hk'.symm
section
variable {o : Nat → Nat} {σ : Nat} {w : World} {b room now : Nat} {v : Value} {l : List Tm}
/-- New blocks: those of one row are τ's, all others σ's. -/
def twoOwn (o : Nat → Nat) (N : Nat) (r : Value) (τ σ : Nat) : Nat → Nat := fun k => if k < N then o k else if r.ownBlock = some k then τ else σ
theorem rtick_shut {w1 wr : World} {τ : Nat} {ve vl : Value} {R : List Int} {L : List Tm} (hτ : τ ≠ σ) (hs : Step o o σ w w1) (hN : w1.heap.size = w.heap.size) (hbox : Blk o σ w1 b #[.int .i64 (room : Int), .int .i64 ((now + 1 : Nat) : Int), v] 38)
    (hb : Below w1.heap.size w1 wr) (hr : wr.ownsRow w1.heap.size 3 1 ve R.length (cellsN R)) (hl : wr.ownsRow w1.heap.size 57 2 vl L.length (cellsT L)) :
    ∃ o' v', Step o o' σ w (wr.setCell ⟨b, 2, none⟩ vl) ∧ Rq o' σ (wr.setCell ⟨b, 2, none⟩ vl) b room (now + 1) v' L ∧ Row o' τ (wr.setCell ⟨b, 2, none⟩ vl) 3 1 ve R.length (cellsN R) := by
  have hbl := hbox.lt
  have old : ∀ k, k < w.heap.size → twoOwn o w.heap.size ve τ σ k = o k := fun k hk => if_pos hk
  have st : Step o (twoOwn o w.heap.size ve τ σ) σ w wr := ⟨hb.os.trans hs.os, hb.tape.trans hs.tape, hb.output.trans hs.output, by have := hb.size; omega, old, fun k hk hn => (hb.block k (by omega)).trans (hs.block k hk hn)⟩
  have X : Blk (twoOwn o w.heap.size ve τ σ) σ wr b #[.int .i64 (room : Int), .int .i64 ((now + 1 : Nat) : Int), v] 38 := ⟨(hb.block b hbl).trans hbox.at_, by rw [old b (by omega)]; exact hbox.mine⟩
  have RR : Row (twoOwn o w.heap.size ve τ σ) τ wr 3 1 ve R.length (cellsN R) := ⟨own_zero hr, fun k hk => by
    have := (hr.lt k hk).1
    show (if k < w.heap.size then _ else _) = _
    rw [if_neg (by omega), if_pos hk]⟩
  have LL : Row (twoOwn o w.heap.size ve τ σ) σ wr 57 2 vl L.length (cellsT L) := ⟨own_zero hl, fun k hk => by
    have := (hl.lt k hk).1
    have r : Row (fun _ => 0) 0 wr 3 1 ve R.length (cellsN R) := ⟨own_zero hr, fun _ _ => rfl⟩
    have r' : Row (fun _ => 0) 0 wr 57 2 vl L.length (cellsT L) := ⟨own_zero hl, fun _ _ => rfl⟩
    show (if k < w.heap.size then _ else _) = _
    rw [if_neg (by omega), if_neg (r'.ne_row r (by decide) k hk)]⟩
  exact ⟨_, _, st.setCell (.inr X.mine) _, ⟨X.set 2 _, LL.other (LL.ne_blk X.at_ (by decide)) _⟩, RR.other (RR.ne_blk X.at_ (by decide)) _⟩
set_option maxHeartbeats 6400000 in
set_option maxRecDepth 100000 in
theorem rtick (τ : Nat) (R : List Int) (L : List Tm) (hτ : τ ≠ σ) (h : Rq o σ w b room now v l) (hl : l.length ≤ 1000) (hn : now ≤ 1000000) (hR : tickR now l = R) (hL : tickL now l = L) :
    Calls Try.prog 16 #[.pointer (some ⟨b, 0, none⟩)] w fun e w' => ∃ A c, e = .returned (.slice A R.length c) ∧ ∃ o' v', Step o o' σ w w' ∧ Rq o' σ w' b room (now + 1) v' L ∧ Row o' τ w' 3 1 (.slice A R.length c) R.length (cellsN R) := by
  obtain ⟨A, cap, rfl⟩ := h.row.any
  obtain ⟨hlc, hcap⟩ := h.row.caps
  obtain ⟨i0, hi0, hz0, hz1, hz2⟩ := info_parts Try.infoInt
  obtain ⟨j0, hj0, hy0, hy1, hy2⟩ := info_parts Try.infoAlarm
  have c1 : w.cell? ⟨b, 1, none⟩ = some (.int .i64 (now : Int)) := by rw [h.box.cell]; simp
  have f1 : w.frozen? ⟨b, 1, none⟩ = false := h.box.frozen 1
  have z : IntKind.i64.wrap ((now : Int) + 1) = (now : Int) + 1 := by rw [IntKind.wrap_i64]; omega
  have s1 := (Step.refl o σ w).setCell (p := ⟨b, 1, none⟩) (.inr h.box.mine) (.int .i64 ((now : Int) + 1))
  have x1 : Blk o σ (w.setCell ⟨b, 1, none⟩ (.int .i64 ((now : Int) + 1))) b #[.int .i64 (room : Int), .int .i64 ((now + 1 : Nat) : Int), .slice A l.length cap] 38 := by
    have := h.box.set 1 (.int .i64 ((now : Int) + 1))
    simpa using this
  have r1 := h.row.other (p := ⟨b, 1, none⟩) (h.row.ne_blk h.box.at_ (by decide)) (.int .i64 ((now : Int) + 1))
  have hN : (w.setCell ⟨b, 1, none⟩ (.int .i64 ((now : Int) + 1))).heap.size = w.heap.size := by simp
  clear h
  go_enter Try.func16, Try.ntmps16
  go_wp2
  generalize w.setCell ⟨b, 1, none⟩ (.int .i64 ((now : Int) + 1)) = w1 at *
  obtain ⟨T, hT⟩ : ∃ T : Int, (now : Int) + 1 = T := ⟨_, rfl⟩
  have hT2 : ((now + 1 : Nat) : Int) = T := by rw [← hT]; simp
  unfold tickR at hR
  unfold tickL at hL
  rw [hT] at hR hL
  simp only [hT]
  have F := Lib.hid (And.intro s1 (And.intro hN (And.intro x1 (And.intro r1 (And.intro hT2 (And.intro hR hL))))))
  clear s1 x1 r1 hN c1 f1 z hT hT2 hR hL
  go_loopw [3, 4, 5] (fun s3 s4 s5 wr => ∃ (i : Nat), s5 = .int .i64 (i : Int) ∧ i ≤ l.length ∧ Below w1.heap.size w1 wr ∧ wr.ownsRow w1.heap.size 3 1 s3 (expT T l i).length (cellsN (expT T l i)) ∧ wr.ownsRow w1.heap.size 57 2 s4 (keepT T l i).length (cellsT (keepT T l i))) (fun _ _ s5 _ => l.length - (intOf s5).toNat)
  case atStart => exact ⟨0, rfl, Nat.zero_le _, Below.refl _ _, World.ownsRow_nil _ _ _ _, World.ownsRow_nil _ _ _ _⟩
  case round =>
    obtain ⟨i, rfl, hi, hb, hr, hk⟩ := hrel
    have X := F.out.2.2.1.below hb
    have RR := F.out.2.2.2.1.below hb
    have hsz := hb.size
    have c1 : wr.cell? ⟨b, 1, none⟩ = some (.int .i64 T) := by rw [X.cell, ← F.out.2.2.2.2.1]; simp
    have c2 : wr.cell? ⟨b, 2, none⟩ = some (.slice A l.length cap) := by rw [X.cell]; simp
    rcases Nat.lt_or_ge i l.length with hlt | hge
    · obtain ⟨⟨xi, xa⟩, hx⟩ : ∃ x, l[i]? = some x := ⟨_, List.getElem?_eq_getElem hlt⟩
      obtain ⟨g, rfl, hg, d0, d1⟩ := RR.rdT i _ hx
      have hex := expT_next (t := T) hx
      have hkx := keepT_next (t := T) hx
      have hle := expT_le T l i
      have hke := keepT_le T l i
      simp only at d0 d1
      have z1 : (i : Int) < (l.length : Int) := by omega
      have z2 : (0 : Int) ≤ (i : Int) := by omega
      obtain ⟨r, hrr⟩ : ∃ r, isAt T (xi, xa) = r := ⟨_, rfl⟩
      have hr' : (xa == T) = r := by rw [← hrr]; rfl
      rw [hrr] at hex hkx
      have G := Lib.hid (And.intro hb (And.intro hr hk))
      clear hrr hb hr hk X RR hx
      cases r with
      | true =>
        simp only [if_true] at hex hkx
        go_wp2
        go_quiet (fail)
        go_wp2_with (at_builtin; refine wpList_append_own_at _ rfl (.tmp 35) (.tmp 44) 30 rfl w1.heap.size 3 i0 (.int .i64 0) 1 8 Try.underlying30 hi0 hz0 hz1 hz2 rfl (by decide) _ _ _ rfl (G.out.2.1.alloc _) ⟨wr.heap.size, 0, none⟩ 1 1 [.int .i64 xi] rfl rfl (news_one _ _ _) (one_int _) (by unfold maxLen; omega) (by omega) (by simp; omega) ?_)
        intro v' w3 hown' hgrow' hnil hloc
        obtain ⟨hb, hr, hk⟩ := G.out
        have hb3 : Below w1.heap.size w1 w3 := ((below_dN hb _).alloc (by simpa using hsz) _).grown hgrow' (by simp; omega) (fun j hj => (hr.lt _ hj).1)
        have hk3 := own_apart (hk.alloc (.cells #[.int .i64 xi] 3)) (hr.alloc (.cells #[.int .i64 xi] 3)) (by decide) ⟨hgrow'.os, hgrow'.tape, hgrow'.output, hgrow'.size, hgrow'.block⟩
        have K := Lib.hid (And.intro hb3 (And.intro hown' hk3))
        clear hb hr hk hb3 hk3 hown' hgrow' hnil hloc G c1 c2 d0 d1
        go_wp2
        go_roundw
        case rel => exact ⟨i + 1, by simp, by omega, K.out.1, by rw [hex, cellsN_append, List.length_append]; exact K.out.2.1, by rw [hkx]; exact K.out.2.2⟩
        case measure => simp [intOf]; omega
      | false =>
        simp only [Bool.false_eq_true, if_false] at hex hkx
        go_wp2
        go_quiet (fail)
        go_wp2_with (at_builtin; refine wpList_append_own_at _ rfl (.tmp 46) (.tmp 54) 36 rfl w1.heap.size 57 j0 (.agg #[.int .i64 0, .int .i64 0]) 2 16 Try.underlying36 hj0 hy0 hy1 hy2 rfl (by decide) _ _ _ rfl (G.out.2.2.alloc _) ⟨wr.heap.size, 0, none⟩ 1 1 [.int .i64 xi, .int .i64 xa] rfl rfl (news_two _ _ _ _) (two_ints _ _) (by unfold maxLen; omega) (by omega) (by simp; omega) ?_)
        intro v' w3 hown' hgrow' hnil hloc
        obtain ⟨hb, hr, hk⟩ := G.out
        have hb3 : Below w1.heap.size w1 w3 := ((below_dN hb _).alloc (by simpa using hsz) _).grown hgrow' (by simp; omega) (fun j hj => (hk.lt _ hj).1)
        have hr3 := own_apart (hr.alloc (.cells #[.int .i64 xi, .int .i64 xa] 57)) (hk.alloc (.cells #[.int .i64 xi, .int .i64 xa] 57)) (by decide) ⟨hgrow'.os, hgrow'.tape, hgrow'.output, hgrow'.size, hgrow'.block⟩
        have K := Lib.hid (And.intro hb3 (And.intro hr3 hown'))
        clear hb hr hk hb3 hr3 hown' hgrow' hnil hloc G c1 c2 d0 d1
        go_wp2
        go_roundw
        case rel => exact ⟨i + 1, by simp, by omega, K.out.1, by rw [hex]; exact K.out.2.1, by rw [hkx, cellsT_append, List.length_append]; exact K.out.2.2⟩
        case measure => simp [intOf]; omega
    · obtain rfl : i = l.length := by omega
      obtain ⟨A3, c3, rfl⟩ := own_any hr
      obtain ⟨A4, c4, rfl⟩ := own_any hk
      have f2 : wr.frozen? ⟨b, 2, none⟩ = false := X.frozen 2
      have G := Lib.hid (And.intro hb (And.intro hr hk))
      clear hb hr hk X RR
      go_wp2
      go_ret
      obtain ⟨s1, hN, x1, r1, hT2, hR, hL⟩ := F.out
      obtain ⟨hb, hr, hk⟩ := G.out
      rw [expT_all, hR] at hr
      rw [keepT_all, hL] at hk
      rw [expT_all, hR, keepT_all, hL]
      exact ⟨A3, c3, rfl, rtick_shut hτ s1 hN x1 hb hr hk⟩
end
end Go.Proofs.Ytbejmboedjfllaa
