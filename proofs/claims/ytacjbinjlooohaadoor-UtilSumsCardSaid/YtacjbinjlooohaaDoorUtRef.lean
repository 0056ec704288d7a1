/- The document's own Util, Period, Sum: what they answer, as functions of integers; contracts. -/
import Derived.Test.YtacjbinjlooohaaDoorUtMath
import Derived.Test.YtacjbinjlooohaaDoorRef5
import Derived.Test.YtacjbinjlooohaaDoorReads
import Derived.LoopTactic
namespace Go.Proofs.YtacjbinjlooohaaDoor
open Go.RowKit
open Go.Lib hiding intOf
set_option linter.unusedVariables false
set_option linter.unusedSimpArgs false

def utilOk (need per : Int) : Bool := decide (1 ≤ need ∧ need ≤ 1000 ∧ 1 ≤ per ∧ per ≤ 10000)
def utilV (need per : Int) : Int := if utilOk need per then upZ (need * 1048576) per else 0
def periodOk (need share : Int) : Bool := decide (1 ≤ need ∧ need ≤ 1000 ∧ 1 ≤ share ∧ upZ (need * 1048576) share ≤ 10000)
def periodV (need share : Int) : Int := if periodOk need share then upZ (need * 1048576) share else 0
theorem up_need {need c : Int} (h1 : 1 ≤ need) (h2 : need ≤ 1000) (hc : 1 ≤ c) : 1 ≤ upZ (need * 1048576) c ∧ upZ (need * 1048576) c ≤ 1048576000 ∧ upOk (need * 1048576) c = true ∧ upV (need * 1048576) c = upZ (need * 1048576) c := by
  have p1 := up_pos1 (x := need * 1048576) (c := c) (by omega) (by omega)
  have p2 : upZ (need * 1048576) c ≤ 1048576000 := by
    rw [up_le_iff (by omega)]
    have : 1048576000 * 1 ≤ 1048576000 * c := Int.mul_le_mul_of_nonneg_left hc (by omega)
    omega
  have p3 : upOk (need * 1048576) c = true := by
    unfold upOk
    rw [decide_eq_true hc, fitB_true ⟨by omega, by omega⟩]; rfl
  exact ⟨p1, p2, p3, by unfold upV; rw [if_pos p3]⟩
theorem utilOk_no {need per : Int} (h : ¬ (1 ≤ need ∧ need ≤ 1000 ∧ 1 ≤ per ∧ per ≤ 10000)) : utilOk need per = false ∧ utilV need per = 0 := by
  have e : utilOk need per = false := decide_eq_false h
  exact ⟨e, by unfold utilV; rw [e]; rfl⟩
theorem utilOk_yes {need per : Int} (h : 1 ≤ need ∧ need ≤ 1000 ∧ 1 ≤ per ∧ per ≤ 10000) : utilOk need per = true ∧ utilV need per = upZ (need * 1048576) per := by
  have e : utilOk need per = true := decide_eq_true h
  exact ⟨e, by unfold utilV; rw [e]; rfl⟩
theorem periodOk_no {need share : Int} (h : ¬ (1 ≤ need ∧ need ≤ 1000 ∧ 1 ≤ share ∧ upZ (need * 1048576) share ≤ 10000)) : periodOk need share = false ∧ periodV need share = 0 := by
  have e : periodOk need share = false := decide_eq_false h
  exact ⟨e, by unfold periodV; rw [e]; rfl⟩
theorem periodOk_yes {need share : Int} (h : 1 ≤ need ∧ need ≤ 1000 ∧ 1 ≤ share ∧ upZ (need * 1048576) share ≤ 10000) : periodOk need share = true ∧ periodV need share = upZ (need * 1048576) share := by
  have e : periodOk need share = true := decide_eq_true h
  exact ⟨e, by unfold periodV; rw [e]; rfl⟩
set_option maxHeartbeats 1600000 in
theorem rutil_any (need per v : Int) (o : Bool) (w : World) (hn : fitB need = true) (hp : fitB per = true) (hv : utilV need per = v) (ho : utilOk need per = o) :
    Calls Tryd.prog 13 #[.int .i64 need, .int .i64 per] w (RetB (.tuple #[.int .i64 v, .bool o]) w) := by
  have N : ¬ (1 ≤ need ∧ need ≤ 1000 ∧ 1 ≤ per ∧ per ≤ 10000) → o = false ∧ v = 0 := fun h => by
    obtain ⟨h1, h2⟩ := utilOk_no h
    exact ⟨by rw [← ho, h1], by rw [← hv, h2]⟩
  by_cases k1 : need < 1
  · obtain ⟨rfl, rfl⟩ := N (by omega)
    clear N hv ho hn hp
    go_enter Tryd.func13, Tryd.ntmps13
    go_wp2
    go_ret2
    exact ⟨rfl, by repeat (first | exact Below.refl _ _ | refine Below.setCell ?_ (by first | omega | (simp; done) | (simp; omega)) _ | refine below_dN ?_ _ | refine Below.drew ?_ | refine Below.alloc ?_ (by first | omega | (simp; done) | (simp; omega)) _)⟩
  have k1' : decide (need < 1) = false := decide_eq_false k1
  by_cases k2 : need > 1000
  · obtain ⟨rfl, rfl⟩ := N (by omega)
    clear N hv ho hn hp
    go_enter Tryd.func13, Tryd.ntmps13
    go_wp2
    go_ret2
    exact ⟨rfl, by repeat (first | exact Below.refl _ _ | refine Below.setCell ?_ (by first | omega | (simp; done) | (simp; omega)) _ | refine below_dN ?_ _ | refine Below.drew ?_ | refine Below.alloc ?_ (by first | omega | (simp; done) | (simp; omega)) _)⟩
  have k2' : decide (need > 1000) = false := decide_eq_false k2
  by_cases k3 : per < 1
  · obtain ⟨rfl, rfl⟩ := N (by omega)
    clear N hv ho hn hp
    go_enter Tryd.func13, Tryd.ntmps13
    go_wp2
    go_ret2
    exact ⟨rfl, by repeat (first | exact Below.refl _ _ | refine Below.setCell ?_ (by first | omega | (simp; done) | (simp; omega)) _ | refine below_dN ?_ _ | refine Below.drew ?_ | refine Below.alloc ?_ (by first | omega | (simp; done) | (simp; omega)) _)⟩
  have k3' : decide (per < 1) = false := decide_eq_false k3
  by_cases k4 : per > 10000
  · obtain ⟨rfl, rfl⟩ := N (by omega)
    clear N hv ho hn hp
    go_enter Tryd.func13, Tryd.ntmps13
    go_wp2
    go_ret2
    exact ⟨rfl, by repeat (first | exact Below.refl _ _ | refine Below.setCell ?_ (by first | omega | (simp; done) | (simp; omega)) _ | refine below_dN ?_ _ | refine Below.drew ?_ | refine Below.alloc ?_ (by first | omega | (simp; done) | (simp; omega)) _)⟩
  have k4' : decide (per > 10000) = false := decide_eq_false k4
  obtain ⟨u1, u2, u3, u4⟩ := up_need (need := need) (c := per) (by omega) (by omega) (by omega)
  obtain ⟨y1, y2⟩ := utilOk_yes (need := need) (per := per) (by omega)
  obtain rfl : o = true := by rw [← ho, y1]
  obtain rfl : v = upZ (need * 1048576) per := by rw [← hv, y2]
  have C := Lib.hid (rup_any need 1048576 per _ _ · hn (by decide) hp u4 u3)
  generalize upZ (need * 1048576) per = v at *
  clear N hv ho hn hp u1 u2 u3 u4 y1 y2 k1 k2 k3 k4
  go_enter Tryd.func13, Tryd.ntmps13
  go_wp2_with fail
  refine (C.out _).mono ?_; rintro e hw ⟨rfl, h⟩
  go_wp2
  go_ret2
  exact ⟨rfl, by have s0 := h.size; (try simp only [World.heap_drewN, World.size_alloc] at s0); repeat (first | exact Below.refl _ _ | exact h | refine Below.trans ?_ (Below.mono h (by first | omega | (simp; done) | (simp; omega))) | refine Below.setCell ?_ (by first | omega | (simp; done) | (simp; omega)) _ | refine below_dN ?_ _ | refine Below.drew ?_ | refine Below.alloc ?_ (by first | omega | (simp; done) | (simp; omega)) _)⟩
set_option maxHeartbeats 1600000 in
theorem rperiod_any (need share v : Int) (o : Bool) (w : World) (hn : fitB need = true) (hp : fitB share = true) (hv : periodV need share = v) (ho : periodOk need share = o) :
    Calls Tryd.prog 14 #[.int .i64 need, .int .i64 share] w (RetB (.tuple #[.int .i64 v, .bool o]) w) := by
  have N : ¬ (1 ≤ need ∧ need ≤ 1000 ∧ 1 ≤ share ∧ upZ (need * 1048576) share ≤ 10000) → o = false ∧ v = 0 := fun h => by
    obtain ⟨h1, h2⟩ := periodOk_no h
    exact ⟨by rw [← ho, h1], by rw [← hv, h2]⟩
  by_cases k1 : need < 1
  · obtain ⟨rfl, rfl⟩ := N (by omega)
    clear N hv ho hn hp
    go_enter Tryd.func14, Tryd.ntmps14
    go_wp2
    go_ret2
    exact ⟨rfl, by repeat (first | exact Below.refl _ _ | refine Below.setCell ?_ (by first | omega | (simp; done) | (simp; omega)) _ | refine below_dN ?_ _ | refine Below.drew ?_ | refine Below.alloc ?_ (by first | omega | (simp; done) | (simp; omega)) _)⟩
  have k1' : decide (need < 1) = false := decide_eq_false k1
  by_cases k2 : need > 1000
  · obtain ⟨rfl, rfl⟩ := N (by omega)
    clear N hv ho hn hp
    go_enter Tryd.func14, Tryd.ntmps14
    go_wp2
    go_ret2
    exact ⟨rfl, by repeat (first | exact Below.refl _ _ | refine Below.setCell ?_ (by first | omega | (simp; done) | (simp; omega)) _ | refine below_dN ?_ _ | refine Below.drew ?_ | refine Below.alloc ?_ (by first | omega | (simp; done) | (simp; omega)) _)⟩
  have k2' : decide (need > 1000) = false := decide_eq_false k2
  by_cases k3 : share < 1
  · obtain ⟨rfl, rfl⟩ := N (by omega)
    clear N hv ho hn hp
    go_enter Tryd.func14, Tryd.ntmps14
    go_wp2
    go_ret2
    exact ⟨rfl, by repeat (first | exact Below.refl _ _ | refine Below.setCell ?_ (by first | omega | (simp; done) | (simp; omega)) _ | refine below_dN ?_ _ | refine Below.drew ?_ | refine Below.alloc ?_ (by first | omega | (simp; done) | (simp; omega)) _)⟩
  have k3' : decide (share < 1) = false := decide_eq_false k3
  obtain ⟨u1, u2, u3, u4⟩ := up_need (need := need) (c := share) (by omega) (by omega) (by omega)
  have C := Lib.hid (rup_any need 1048576 share _ _ · hn (by decide) hp u4 u3)
  by_cases h : upZ (need * 1048576) share ≤ 10000
  · obtain ⟨y1, y2⟩ := periodOk_yes (need := need) (share := share) (by omega)
    obtain rfl : o = true := by rw [← ho, y1]
    obtain rfl : v = upZ (need * 1048576) share := by rw [← hv, y2]
    have d1 : decide (upZ (need * 1048576) share > 10000) = false := decide_eq_false (by omega)
    have e1 : wrap64 (upZ (need * 1048576) share) = upZ (need * 1048576) share := by unfold wrap64; omega
    generalize upZ (need * 1048576) share = v at *
    clear N hv ho hn hp u1 u2 u3 u4 y1 y2 k1 k2 k3 h
    go_enter Tryd.func14, Tryd.ntmps14
    go_wp2_with fail
    refine (C.out _).mono ?_; rintro e hw ⟨rfl, h⟩
    go_wp2
    go_ret2
    exact ⟨rfl, by have s0 := h.size; (try simp only [World.heap_drewN, World.size_alloc] at s0); repeat (first | exact Below.refl _ _ | exact h | refine Below.trans ?_ (Below.mono h (by first | omega | (simp; done) | (simp; omega))) | refine Below.setCell ?_ (by first | omega | (simp; done) | (simp; omega)) _ | refine below_dN ?_ _ | refine Below.drew ?_ | refine Below.alloc ?_ (by first | omega | (simp; done) | (simp; omega)) _)⟩
  · have d1 : decide (upZ (need * 1048576) share > 10000) = true := decide_eq_true (by omega)
    obtain ⟨rfl, rfl⟩ := N (by omega)
    generalize upZ (need * 1048576) share = z at *
    clear N hv ho hn hp u1 u2 u3 u4 k1 k2 k3 h
    go_enter Tryd.func14, Tryd.ntmps14
    go_wp2_with fail
    refine (C.out _).mono ?_; rintro e hw ⟨rfl, h⟩
    go_wp2
    go_ret2
    exact ⟨rfl, by have s0 := h.size; (try simp only [World.heap_drewN, World.size_alloc] at s0); repeat (first | exact Below.refl _ _ | exact h | refine Below.trans ?_ (Below.mono h (by first | omega | (simp; done) | (simp; omega))) | refine Below.setCell ?_ (by first | omega | (simp; done) | (simp; omega)) _ | refine below_dN ?_ _ | refine Below.drew ?_ | refine Below.alloc ?_ (by first | omega | (simp; done) | (simp; omega)) _)⟩
/-! ## Sums -/
def nnB (l : List Int) : Bool := l.all fun x => decide (0 ≤ x)
def totOk (l : List Int) : Bool := nnB l && fitB l.sum
def totV (l : List Int) : Int := if totOk l then l.sum else 0
theorem nn_iff {l : List Int} : nnB l = true ↔ ∀ x ∈ l, 0 ≤ x := by unfold nnB; rw [List.all_eq_true]; simp only [decide_eq_true_eq]
theorem sum_nn : ∀ {l : List Int}, (∀ x ∈ l, 0 ≤ x) → 0 ≤ l.sum
  | [], _ => by simp
  | x :: l, h => by
    have h1 := h x (by simp)
    have h2 := sum_nn (l := l) (fun y hy => h y (by simp [hy]))
    rw [List.sum_cons]; omega
theorem sum_take_le {l : List Int} (h : ∀ x ∈ l, 0 ≤ x) (k : Nat) : (l.take k).sum ≤ l.sum := by
  have e : l.sum = (l.take k).sum + (l.drop k).sum := by rw [← List.sum_append, List.take_append_drop]
  have := sum_nn (l := l.drop k) (fun x hx => h x (List.mem_of_mem_drop hx))
  omega
theorem sum_next {l : List Int} {i : Nat} (h : i < l.length) : (l.take (i + 1)).sum = (l.take i).sum + l.getD i 0 := by
  rw [List.take_add_one, List.getElem?_eq_getElem h, List.sum_append]
  simp [List.getD, List.getElem?_eq_getElem h]
/-- It stops at place i. -/
theorem tot_no {l : List Int} {i : Nat} (h : i < l.length) (hs : l.getD i 0 < 0 ∨ fitB ((l.take (i + 1)).sum) = false) (hp : 0 ≤ (l.take i).sum) (hfx : fitB (l.getD i 0) = true) : totOk l = false ∧ totV l = 0 := by
  have e : totOk l = false := by
    unfold totOk
    cases hn : nnB l
    · rfl
    · have hnn := nn_iff.1 hn
      rw [Bool.true_and]
      have hx : 0 ≤ l.getD i 0 := by
        rw [List.getD, List.getElem?_eq_getElem h]
        exact hnn _ (List.getElem_mem h)
      rcases hs with hs | hs
      · omega
      · have h1 := sum_take_le hnn (i + 1)
        have h2 : ¬ (-9223372036854775808 ≤ (l.take (i + 1)).sum ∧ (l.take (i + 1)).sum ≤ 9223372036854775807) := fun c => by rw [fitB_true c] at hs; cases hs
        have h3 := sum_next h
        exact fitB_false (by omega)
  exact ⟨e, by unfold totV; rw [e]; rfl⟩
theorem tot_yes {l : List Int} (h1 : ∀ x ∈ l, 0 ≤ x) (h2 : fitB l.sum = true) : totOk l = true ∧ totV l = l.sum := by
  have e : totOk l = true := by unfold totOk; rw [nn_iff.2 h1, h2]; rfl
  exact ⟨e, by unfold totV; rw [e]; rfl⟩
theorem nn_next {l : List Int} {i : Nat} (h : i < l.length) (h1 : ∀ x ∈ l.take i, 0 ≤ x) (h2 : 0 ≤ l.getD i 0) : ∀ x ∈ l.take (i + 1), 0 ≤ x := fun x hx => by
  rw [List.take_add_one, List.getElem?_eq_getElem h] at hx
  rcases List.mem_append.1 hx with hx | hx
  · exact h1 x hx
  · simp at hx
    subst hx
    rw [List.getD, List.getElem?_eq_getElem h] at h2
    exact h2
set_option maxHeartbeats 1600000 in
set_option maxRecDepth 100000 in
theorem rsum_any (A : Option Addr) (c : Nat) (l : List Int) (v : Int) (o : Bool) (w : World) (hl : l.length ≤ 9223372036854775807) (hf : ∀ x ∈ l, fitB x = true) (hr : ReadsI w A l) (hv : totV l = v) (ho : totOk l = o) :
    Calls Tryd.prog 15 #[.slice A l.length c] w (Ret (.tuple #[.int .i64 v, .bool o]) w) := by
  obtain ⟨n, hn⟩ : ∃ n, l.length = n := ⟨_, rfl⟩
  have H := Lib.hid (And.intro hn (And.intro hf (And.intro hr (And.intro hv ho))))
  rw [hn] at hl ⊢
  clear hn hf hr hv ho
  go_enter Tryd.func15, Tryd.ntmps15
  go_wp2
  go_loopw [4, 5] (fun sv st wx => ∃ (i : Nat) (u : Int) (d : Nat), sv = .int .i64 u ∧ st = .int .i64 (i : Int) ∧ i ≤ n ∧ wx = w.drewN d ∧ Hid ((∀ x ∈ l.take i, 0 ≤ x) ∧ (l.take i).sum = u ∧ fitB u = true ∧ 0 ≤ u)) (fun _ st _ => n - (intOf st).toNat)
  case atStart => exact ⟨0, 0, 0, rfl, rfl, by omega, rfl, Lib.hid ⟨by simp, by simp, by decide, by omega⟩⟩
  case round =>
    obtain ⟨i, u, d, rfl, rfl, hin, rfl, K⟩ := hrel
    rcases Nat.lt_or_ge i n with hlt | hge
    · have d1 : decide ((i : Int) < (n : Int)) = true := decide_eq_true (by omega)
      have e1 : IntKind.i64.wrap ((i : Int) + 1) = ((i + 1 : Nat) : Int) := by rw [IntKind.wrap_i64]; omega
      have b1 : (i : Int) < (n : Int) := by omega
      have hil : i < l.length := by rw [H.out.1]; exact hlt
      obtain ⟨B, off, rfl, c0⟩ := H.out.2.2.1 i hil
      obtain ⟨x, hx⟩ : ∃ x, l.getD i 0 = x := ⟨_, rfl⟩
      have hfx : fitB x = true := by rw [← hx]; refine H.out.2.1 _ ?_; rw [List.getD, List.getElem?_eq_getElem hil]; exact List.getElem_mem _
      have hs := sum_next hil
      rw [hx] at c0 hs
      rw [K.out.2.1] at hs
      obtain ⟨f, hfo⟩ : ∃ f, fitB (u + x) = f := ⟨_, rfl⟩
      have C := fun v' => Lib.hid (radd_any u x v' f · K.out.2.2.1 hfx · hfo)
      have N : Hid (x < 0 ∨ f = false → v = 0 ∧ o = false) := fun h => by
        obtain ⟨z1, z2⟩ := tot_no hil (by rw [hx, hs, hfo]; exact h) (by rw [K.out.2.1]; exact K.out.2.2.2) (by rw [hx]; exact hfx)
        exact ⟨by rw [← H.out.2.2.2.1, z2], by rw [← H.out.2.2.2.2, z1]⟩
      have Y : Hid (0 ≤ x → f = true → (∀ y ∈ l.take (i + 1), 0 ≤ y) ∧ (l.take (i + 1)).sum = u + x ∧ fitB (u + x) = true ∧ 0 ≤ u + x) := fun h1 h2 => ⟨nn_next hil K.out.1 (by rw [hx]; exact h1), hs, hfo.trans h2, by have := K.out.2.2.2; omega⟩
      have hcut : f = true → cutZ (u + x) = u + x := fun h => cutZ_true (hfo.trans h)
      obtain ⟨z, hz⟩ : ∃ z, cutZ (u + x) = z := ⟨_, rfl⟩
      have C' := Lib.hid fun w' => (C z).out w' hz
      have Z : Hid (f = true → z = u + x) := fun h => by rw [← hz]; exact hcut h
      clear C hs hx hfo hfx hil K hcut hz
      by_cases h0 : x < 0
      · have d2 : decide (x < 0) = true := decide_eq_true h0
        obtain ⟨rfl, rfl⟩ := N.out (.inl h0)
        clear N Y Z h0
        go_wp2_with fail
        refine (C'.out _).mono ?_; rintro e w' ⟨rfl, n1, rfl⟩
        go_wp2
        go_ret2
        exact ⟨rfl, _, rfl⟩
      · have d2 : decide (x < 0) = false := decide_eq_false h0
        cases f
        · obtain ⟨rfl, rfl⟩ := N.out (.inr rfl)
          clear N Y Z h0
          go_wp2_with fail
          refine (C'.out _).mono ?_; rintro e w' ⟨rfl, n2, rfl⟩
          go_wp2
          go_ret2
          exact ⟨rfl, _, rfl⟩
        · have Q := Lib.hid (Y.out (by omega) rfl)
          obtain rfl : z = u + x := Z.out rfl
          generalize u + x = z at *
          clear N Y Z h0
          go_wp2_with fail
          refine (C'.out _).mono ?_; rintro e w' ⟨rfl, n3, rfl⟩
          go_wp2
          go_roundw
          case rel => exact ⟨i + 1, z, _, rfl, by first | rfl | simp, by omega, rfl, Q⟩
          case measure => simp [intOf]; omega
    · have d1 : decide ((i : Int) < (n : Int)) = false := decide_eq_false (by omega)
      have hy : totOk l = true ∧ totV l = u := by
        have k := K.out
        rw [List.take_of_length_le (by rw [H.out.1]; exact hge)] at k
        obtain ⟨z1, z2⟩ := tot_yes k.1 (by rw [k.2.1]; exact k.2.2.1)
        exact ⟨z1, by rw [z2, k.2.1]⟩
      obtain rfl : v = u := by rw [← H.out.2.2.2.1, hy.2]
      obtain rfl : o = true := by rw [← H.out.2.2.2.2, hy.1]
      clear hy K
      go_wp2
      go_ret2
      exact ⟨rfl, _, rfl⟩
end Go.Proofs.YtacjbinjlooohaaDoor
