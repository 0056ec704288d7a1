/- Maths of chapter 11: demand within a span, frames, what can be held. No word of any program. -/
import Derived.Test.YtmokbmhobglhfaaNumMath
namespace Go.Proofs.Ytmokbmhobglhfaa
set_option linter.unusedVariables false
set_option linter.unusedSimpArgs false

/-- A task that may skip. -/
structure Tk where
  per : Int
  need : Int
  skip : Int
instance : Inhabited Tk := ⟨⟨0, 0, 0⟩⟩
def Tk.good (t : Tk) : Bool := (decide (1 ≤ t.per) && decide (t.per ≤ 10000)) && ((decide (1 ≤ t.need) && decide (t.need ≤ 1000)) && (decide (t.skip = 0) || (decide (2 ≤ t.skip) && decide (t.skip ≤ 1000))))
theorem tk_iff {t : Tk} : t.good = true ↔ (1 ≤ t.per ∧ t.per ≤ 10000) ∧ (1 ≤ t.need ∧ t.need ≤ 1000) ∧ (t.skip = 0 ∨ (2 ≤ t.skip ∧ t.skip ≤ 1000)) := by
  unfold Tk.good
  simp only [Bool.and_eq_true, Bool.or_eq_true, decide_eq_true_eq]
/-- When it begins anew. -/
def Tk.unit (t : Tk) : Int := if t.skip = 0 then t.per else t.per * t.skip
/-- How often it runs within a span. -/
def runsZ (t : Tk) (long : Int) : Int := if t.skip = 0 then long / t.per else long / t.per - long / t.per / t.skip
def ofZ (t : Tk) (long : Int) : Int := if t.good && decide (0 ≤ long) then runsZ t (min long 1000000) * t.need else 0
def sumO (l : List Tk) (long : Int) : Int := (l.map fun t => ofZ t long).sum
def allZ (l : List Tk) (long : Int) : Int := if l.length ≤ 20 then sumO l long else 0
def tasksB (l : List Tk) : Bool := decide (l.length ≤ 20) && l.all Tk.good
def unitsL (l : List Tk) : List Int := l.map Tk.unit
/-- Frame: its number and its error. -/
def frameN (l : List Tk) : Int := if tasksB l then lcmV 100000 (unitsL l) else 0
def frameE (l : List Tk) : Int := if tasksB l then (if lcmOk 100000 (unitsL l) then 0 else 2) else 1
def holdsB (l : List Tk) : Bool := decide (frameE l = 0) && (List.range (frameN l).toNat).all fun i => decide (allZ l ((i : Int) + 1) ≤ (i : Int) + 1)
theorem holdsB_iff {l : List Tk} : holdsB l = true ↔ frameE l = 0 ∧ ∀ s : Int, 1 ≤ s → s ≤ frameN l → allZ l s ≤ s := by
  unfold holdsB
  rw [Bool.and_eq_true, decide_eq_true_eq, List.all_eq_true]
  refine and_congr Iff.rfl ⟨fun h s h1 h2 => ?_, fun h i hi => ?_⟩
  · have := h (s - 1).toNat (List.mem_range.2 (by omega))
    rw [decide_eq_true_eq] at this
    rw [show ((s - 1).toNat : Int) + 1 = s by omega] at this
    exact this
  · have hi2 := List.mem_range.1 hi
    exact decide_eq_true (h _ (by omega) (by omega))
theorem frameE_iff {l : List Tk} : frameE l = 0 ↔ tasksB l = true ∧ lcmOk 100000 (unitsL l) = true := by
  unfold frameE
  cases tasksB l
  · simp
  · cases lcmOk 100000 (unitsL l) <;> simp
theorem unit_pos {t : Tk} (h : t.good = true) : 1 ≤ t.unit ∧ t.unit ≤ 10000000 := by
  obtain ⟨⟨h1, h2⟩, _, h3⟩ := tk_iff.1 h
  unfold Tk.unit
  rcases h3 with h3 | ⟨h3, h4⟩
  · rw [if_pos h3]; omega
  · rw [if_neg (by omega)]
    have a1 : 1 * 1 ≤ t.per * t.skip := Int.mul_le_mul h1 (by omega) (by omega) (by omega)
    have a2 : t.per * t.skip ≤ 10000 * 1000 := Int.mul_le_mul h2 h4 (by omega) (by omega)
    omega
/-! ## Least common multiples -/
theorem dgcd_pos {n x : Int} (hn : 1 ≤ n) (hx : 1 ≤ x) : 1 ≤ gcdZ n x ∧ gcdZ n x ∣ n ∧ gcdZ n x ∣ x := by
  have e : gcdZ n x = (Nat.gcd n.natAbs x.natAbs : Nat) := by rw [gcdZ, if_neg (by omega)]
  have p : 0 < Nat.gcd n.natAbs x.natAbs := Nat.gcd_pos_iff.2 (by omega)
  rw [e]
  exact ⟨by omega, Int.ofNat_dvd_left.2 (Nat.gcd_dvd_left _ _), Int.ofNat_dvd_left.2 (Nat.gcd_dvd_right _ _)⟩
/-- n / gcd * x is the least common multiple. -/
theorem dlcm_eq {n x : Int} (hn : 1 ≤ n) (hx : 1 ≤ x) : n / gcdZ n x * x = (Nat.lcm n.toNat x.toNat : Int) := by
  obtain ⟨a, rfl⟩ := Int.eq_ofNat_of_zero_le (show 0 ≤ n by omega)
  obtain ⟨b, rfl⟩ := Int.eq_ofNat_of_zero_le (show 0 ≤ x by omega)
  have e : gcdZ (a : Int) (b : Int) = (Nat.gcd a b : Nat) := by rw [gcdZ, if_neg (by omega)]; rfl
  rw [e, Int.toNat_natCast, Int.toNat_natCast, ← Int.natCast_ediv, ← Int.natCast_mul]
  congr 1
  rw [Nat.lcm, Nat.div_mul_right_comm (Nat.gcd_dvd_left a b)]
theorem dlcm_props {n x M : Int} (hn : 1 ≤ n) (hx : 1 ≤ x) : 1 ≤ n / gcdZ n x * x ∧ n ∣ n / gcdZ n x * x ∧ x ∣ n / gcdZ n x * x ∧ (n ∣ M → x ∣ M → n / gcdZ n x * x ∣ M) := by
  rw [dlcm_eq hn hx]
  obtain ⟨a, rfl⟩ := Int.eq_ofNat_of_zero_le (show 0 ≤ n by omega)
  obtain ⟨b, rfl⟩ := Int.eq_ofNat_of_zero_le (show 0 ≤ x by omega)
  rw [Int.toNat_natCast, Int.toNat_natCast]
  refine ⟨?_, Int.ofNat_dvd.2 (Nat.dvd_lcm_left a b), Int.ofNat_dvd.2 (Nat.dvd_lcm_right a b), fun h1 h2 => ?_⟩
  · have : 0 < Nat.lcm a b := Nat.lcm_pos (by omega) (by omega)
    omega
  · exact Int.ofNat_dvd_left.2 (Nat.lcm_dvd (Int.ofNat_dvd_left.1 h1) (Int.ofNat_dvd_left.1 h2))
/-- What the loop answers: a common multiple that divides each other one. -/
theorem dlcm_go : ∀ (l : List Int) (n m : Int), 1 ≤ n → (∀ x ∈ l, 1 ≤ x) → lcmGo n l = some m → 1 ≤ m ∧ n ∣ m ∧ (∀ x ∈ l, x ∣ m) ∧ ∀ M : Int, n ∣ M → (∀ x ∈ l, x ∣ M) → m ∣ M
  | [], n, m, hn, _, h => by
    injection h with h
    subst h
    exact ⟨hn, Int.dvd_refl _, by simp, fun M h _ => h⟩
  | x :: l, n, m, hn, hx, h => by
    have hx1 := hx x (by simp)
    unfold lcmGo at h
    split at h
    · cases h
    · rename_i k hk
      unfold lcmStep at hk
      rw [if_neg (by omega)] at hk
      split at hk
      · injection hk with hk
        subst hk
        obtain ⟨p1, p2, p3, _⟩ := dlcm_props (M := 0) hn hx1
        obtain ⟨q1, q2, q3, q4⟩ := dlcm_go l _ m p1 (fun y hy => hx y (by simp [hy])) h
        refine ⟨q1, Int.dvd_trans p2 q2, fun y hy => ?_, fun M h1 h2 => q4 M ((dlcm_props hn hx1).2.2.2 h1 (h2 x (by simp))) (fun y hy => h2 y (by simp [hy]))⟩
        rcases List.mem_cons.1 hy with rfl | hy
        · exact Int.dvd_trans p3 q2
        · exact q3 y hy
      · cases hk
/-- Where a common multiple is small, the loop ends with a number. -/
theorem dlcm_ends : ∀ (l : List Int) (n M : Int), 1 ≤ n → (∀ x ∈ l, 1 ≤ x) → 1 ≤ M → M ≤ 100000 → n ∣ M → (∀ x ∈ l, x ∣ M) → ∃ m, lcmGo n l = some m ∧ m ≤ M
  | [], n, M, hn, _, h1, h2, h3, _ => ⟨n, rfl, Int.le_of_dvd (by omega) h3⟩
  | x :: l, n, M, hn, hx, h1, h2, h3, h4 => by
    have hx1 := hx x (by simp)
    obtain ⟨p1, p2, p3, p4⟩ := dlcm_props (M := M) hn hx1
    have hd := p4 h3 (h4 x (by simp))
    have hle := Int.le_of_dvd (by omega) hd
    obtain ⟨m, hm, hm2⟩ := dlcm_ends l _ M p1 (fun y hy => hx y (by simp [hy])) h1 h2 hd (fun y hy => h4 y (by simp [hy]))
    refine ⟨m, ?_, hm2⟩
    unfold lcmGo lcmStep
    rw [if_neg (by omega), if_pos (fitB_true ⟨by omega, by omega⟩)]
    exact hm
theorem frame_props {l : List Tk} (h : frameE l = 0) : tasksB l = true ∧ 1 ≤ frameN l ∧ frameN l ≤ 100000 ∧ (∀ t ∈ l, t.unit ∣ frameN l) ∧ lcmGo 1 (unitsL l) = some (frameN l) := by
  obtain ⟨ht, hk⟩ := frameE_iff.1 h
  have hg : ∀ t ∈ l, t.good = true := fun t h => List.all_eq_true.1 (Bool.and_eq_true_iff.1 ht).2 t h
  have e : frameN l = lcmV 100000 (unitsL l) := by unfold frameN; rw [if_pos ht]
  unfold lcmOk at hk
  split at hk
  · cases hk
  · rename_i m hm
    have hm2 : m ≤ 100000 := of_decide_eq_true hk
    have e2 : lcmV 100000 (unitsL l) = m := by unfold lcmV; rw [hm]; simp only; rw [if_pos hm2]
    rw [e, e2]
    obtain ⟨q1, _, q3, _⟩ := dlcm_go (unitsL l) 1 m (by omega) (fun x hx => by
      obtain ⟨t, ht, rfl⟩ := List.mem_map.1 hx
      exact (unit_pos (hg t ht)).1) hm
    exact ⟨ht, q1, hm2, fun t ht => q3 t.unit (List.mem_map.2 ⟨t, ht, rfl⟩), hm⟩
/-- Tasks whose units all divide a frame have a frame, and no greater one. -/
theorem frame_sub {l : List Tk} {M : Int} (ht : tasksB l = true) (h1 : 1 ≤ M) (h2 : M ≤ 100000) (h : ∀ t ∈ l, t.unit ∣ M) : frameE l = 0 ∧ frameN l ≤ M := by
  have hg : ∀ t ∈ l, t.good = true := fun t h => List.all_eq_true.1 (Bool.and_eq_true_iff.1 ht).2 t h
  obtain ⟨m, hm, hle⟩ := dlcm_ends (unitsL l) 1 M (by omega) (fun x hx => by
    obtain ⟨t, ht, rfl⟩ := List.mem_map.1 hx
    exact (unit_pos (hg t ht)).1) h1 h2 (Int.one_dvd _) (fun x hx => by
    obtain ⟨t, ht, rfl⟩ := List.mem_map.1 hx
    exact h t ht)
  have hok : lcmOk 100000 (unitsL l) = true := by unfold lcmOk; rw [hm]; exact decide_eq_true (by omega)
  refine ⟨frameE_iff.2 ⟨ht, hok⟩, ?_⟩
  unfold frameN lcmV
  rw [if_pos ht, hm]
  simp only
  rw [if_pos (by omega)]
  exact hle
/-! ## Demand -/
theorem runs_add {t : Tk} (h : t.good = true) {long F : Int} (hF : t.unit ∣ F) : runsZ t (long + F) = runsZ t long + runsZ t F := by
  obtain ⟨⟨h1, _⟩, _, h3⟩ := tk_iff.1 h
  obtain ⟨c, rfl⟩ := hF
  unfold Tk.unit runsZ
  by_cases hs : t.skip = 0
  · rw [if_pos hs, if_pos hs, if_pos hs, if_pos hs, Int.add_mul_ediv_left _ _ (by omega), Int.mul_ediv_cancel_left _ (by omega)]
  · have h4 : 2 ≤ t.skip := by omega
    rw [if_neg hs, if_neg hs, if_neg hs, if_neg hs, Int.mul_assoc, Int.add_mul_ediv_left _ _ (by omega), Int.mul_ediv_cancel_left _ (by omega), Int.add_mul_ediv_left _ _ (by omega), Int.mul_ediv_cancel_left _ (by omega)]
    omega
theorem runs_bound {t : Tk} (h : t.good = true) {s : Int} (h0 : 0 ≤ s) : 0 ≤ runsZ t s ∧ runsZ t s ≤ s / t.per ∧ s / t.per * t.per ≤ s ∧ 0 ≤ s / t.per ∧ s / t.per ≤ s := by
  obtain ⟨⟨h1, _⟩, _, h3⟩ := tk_iff.1 h
  have a1 : 0 ≤ s / t.per := Int.ediv_nonneg h0 (by omega)
  have a2 : s / t.per * t.per ≤ s := Int.ediv_mul_le s (by omega)
  have a3 : s / t.per ≤ s := Int.ediv_le_self _ h0
  unfold runsZ
  by_cases hs : t.skip = 0
  · rw [if_pos hs]; omega
  · rw [if_neg hs]
    have b1 : 0 ≤ s / t.per / t.skip := Int.ediv_nonneg a1 (by omega)
    have b2 : s / t.per / t.skip ≤ s / t.per := Int.ediv_le_self _ a1
    omega
theorem of_bound (t : Tk) (s : Int) : 0 ≤ ofZ t s ∧ ofZ t s ≤ 1000000000 := by
  unfold ofZ
  split
  · rename_i h
    obtain ⟨hg, hs⟩ := Bool.and_eq_true_iff.1 h
    have hs2 := of_decide_eq_true hs
    obtain ⟨_, ⟨h1, h2⟩, _⟩ := tk_iff.1 hg
    obtain ⟨a1, a2, _, _, a5⟩ := runs_bound hg (s := min s 1000000) (by omega)
    have b1 : 0 ≤ runsZ t (min s 1000000) * t.need := Int.mul_nonneg a1 (by omega)
    have b2 : runsZ t (min s 1000000) * t.need ≤ 1000000 * 1000 := Int.mul_le_mul (by omega) h2 (by omega) (by omega)
    omega
  · omega
theorem sumO_cons (t : Tk) (l : List Tk) (s : Int) : sumO (t :: l) s = ofZ t s + sumO l s := by simp [sumO]
theorem sumO_app (a b : List Tk) (s : Int) : sumO (a ++ b) s = sumO a s + sumO b s := by simp [sumO]
theorem sumO_bound : ∀ (l : List Tk) (s : Int), 0 ≤ sumO l s ∧ sumO l s ≤ 1000000000 * (l.length : Int)
  | [], s => by simp [sumO]
  | t :: l, s => by
    have := of_bound t s
    have := sumO_bound l s
    rw [sumO_cons, List.length_cons]; omega
theorem of_add {t : Tk} (h : t.good = true) {long F : Int} (h0 : 0 ≤ long) (h1 : 0 ≤ F) (h2 : long + F ≤ 1000000) (hF : t.unit ∣ F) : ofZ t (long + F) = ofZ t long + ofZ t F := by
  unfold ofZ
  rw [h, decide_eq_true (show 0 ≤ long + F by omega), decide_eq_true h0, decide_eq_true h1]
  simp only [Bool.and_self, if_true]
  rw [Int.min_eq_left (by omega), Int.min_eq_left (by omega), Int.min_eq_left (by omega), runs_add h hF, Int.add_mul]
theorem sumO_add : ∀ {l : List Tk} {long F : Int}, (∀ t ∈ l, t.good = true) → 0 ≤ long → 0 ≤ F → long + F ≤ 1000000 → (∀ t ∈ l, t.unit ∣ F) → sumO l (long + F) = sumO l long + sumO l F
  | [], _, _, _, _, _, _, _ => by simp [sumO]
  | t :: l, long, F, hg, h0, h1, h2, hF => by
    rw [sumO_cons, sumO_cons, sumO_cons, of_add (hg t (by simp)) h0 h1 h2 (hF t (by simp)), sumO_add (fun u hu => hg u (by simp [hu])) h0 h1 h2 (fun u hu => hF u (by simp [hu]))]
    omega
/-- DemandFrames' first half. -/
theorem all_add {l : List Tk} {long : Int} (h : frameE l = 0) (h0 : 0 ≤ long) (h1 : long + frameN l ≤ 1000000) : allZ l (long + frameN l) = allZ l long + allZ l (frameN l) := by
  obtain ⟨ht, f1, f2, f3, _⟩ := frame_props h
  have hg : ∀ t ∈ l, t.good = true := fun t h => List.all_eq_true.1 (Bool.and_eq_true_iff.1 ht).2 t h
  have hl : l.length ≤ 20 := by simpa using (Bool.and_eq_true_iff.1 ht).1
  unfold allZ
  rw [if_pos hl, if_pos hl, if_pos hl, sumO_add hg h0 (by omega) h1 f3]
/-! ## What can be held -/
/-- DemandFrames: a task is left out. -/
theorem holds_drop {l : List Tk} (h : holdsB l = true) (k : Nat) : holdsB (l.take k ++ l.drop (k + 1)) = true := by
  obtain ⟨he, hs⟩ := holdsB_iff.1 h
  obtain ⟨ht, f1, f2, f3, _⟩ := frame_props he
  have hl : l.length ≤ 20 := by simpa using (Bool.and_eq_true_iff.1 ht).1
  have hmem : ∀ x ∈ l.take k ++ l.drop (k + 1), x ∈ l := fun x hx => by
    rcases List.mem_append.1 hx with hx | hx
    · exact List.mem_of_mem_take hx
    · exact List.mem_of_mem_drop hx
  have hlen : (l.take k ++ l.drop (k + 1)).length ≤ 20 := by rw [List.length_append, List.length_take, List.length_drop]; omega
  have ht2 : tasksB (l.take k ++ l.drop (k + 1)) = true := by
    unfold tasksB
    rw [Bool.and_eq_true, decide_eq_true_eq, List.all_eq_true]
    exact ⟨hlen, fun x hx => List.all_eq_true.1 (Bool.and_eq_true_iff.1 ht).2 x (hmem x hx)⟩
  obtain ⟨g1, g2⟩ := frame_sub ht2 f1 f2 (fun t h => f3 t (hmem t h))
  refine holdsB_iff.2 ⟨g1, fun s h1 h2 => ?_⟩
  have := hs s h1 (by omega)
  have hle : sumO (l.take k ++ l.drop (k + 1)) s ≤ sumO l s := by
    rcases Nat.lt_or_ge k l.length with hk | hk
    · have e : l = l.take k ++ l[k] :: l.drop (k + 1) := by rw [← List.drop_eq_getElem_cons hk, List.take_append_drop]
      conv => rhs; rw [e]
      rw [sumO_app, sumO_app, sumO_cons]
      have := (of_bound l[k] s).1
      omega
    · rw [List.take_of_length_le hk, List.drop_eq_nil_of_le (by omega), List.append_nil]; exact Int.le_refl _
  unfold allZ at this ⊢
  rw [if_pos hl] at this
  rw [if_pos hlen]
  omega
theorem of_less {t : Tk} (h : t.good = true) (hn : 1 < t.need) (s : Int) : ofZ ⟨t.per, t.need - 1, t.skip⟩ s ≤ ofZ t s := by
  obtain ⟨h1, h2, h3⟩ := tk_iff.1 h
  have hg : Tk.good ⟨t.per, t.need - 1, t.skip⟩ = true := tk_iff.2 ⟨h1, ⟨by show 1 ≤ t.need - 1; omega, by show t.need - 1 ≤ 1000; omega⟩, h3⟩
  unfold ofZ
  rw [h, hg]
  by_cases h0 : 0 ≤ s
  · rw [decide_eq_true h0]
    simp only [Bool.and_self, if_true]
    have a1 := (runs_bound h (s := min s 1000000) (by omega)).1
    have e : runsZ ⟨t.per, t.need - 1, t.skip⟩ (min s 1000000) = runsZ t (min s 1000000) := rfl
    rw [e]
    exact Int.mul_le_mul_of_nonneg_left (by omega) a1
  · rw [decide_eq_false h0]; simp
/-- DemandFrames: a task needs less. -/
theorem holds_less {l : List Tk} (h : holdsB l = true) {k : Nat} {t : Tk} (hk : l[k]? = some t) (hn : 1 < t.need) : holdsB (l.set k ⟨t.per, t.need - 1, t.skip⟩) = true := by
  obtain ⟨he, hs⟩ := holdsB_iff.1 h
  obtain ⟨ht, f1, f2, f3, _⟩ := frame_props he
  have hl : l.length ≤ 20 := by simpa using (Bool.and_eq_true_iff.1 ht).1
  have hkl := (List.getElem?_eq_some_iff.1 hk).1
  have hg : ∀ t ∈ l, t.good = true := fun t h => List.all_eq_true.1 (Bool.and_eq_true_iff.1 ht).2 t h
  have hgt := hg t (List.mem_of_getElem? hk)
  obtain ⟨h1, h2, h3⟩ := tk_iff.1 hgt
  have hg2 : Tk.good ⟨t.per, t.need - 1, t.skip⟩ = true := tk_iff.2 ⟨h1, ⟨by show 1 ≤ t.need - 1; omega, by show t.need - 1 ≤ 1000; omega⟩, h3⟩
  have hmem : ∀ x ∈ l.set k ⟨t.per, t.need - 1, t.skip⟩, x ∈ l ∨ x = ⟨t.per, t.need - 1, t.skip⟩ := fun x hx => List.mem_or_eq_of_mem_set hx
  have ht2 : tasksB (l.set k ⟨t.per, t.need - 1, t.skip⟩) = true := by
    unfold tasksB
    rw [Bool.and_eq_true, decide_eq_true_eq, List.all_eq_true, List.length_set]
    refine ⟨hl, fun x hx => ?_⟩
    rcases hmem x hx with h | rfl
    · exact hg x h
    · exact hg2
  obtain ⟨g1, g2⟩ := frame_sub ht2 f1 f2 (fun x hx => by
    rcases hmem x hx with h | rfl
    · exact f3 x h
    · exact f3 t (List.mem_of_getElem? hk))
  refine holdsB_iff.2 ⟨g1, fun s h1 h2 => ?_⟩
  have := hs s h1 (by omega)
  have hle : sumO (l.set k ⟨t.per, t.need - 1, t.skip⟩) s ≤ sumO l s := by
    have e1 : l = l.take k ++ t :: l.drop (k + 1) := by
      have := List.drop_eq_getElem_cons hkl
      rw [(List.getElem?_eq_some_iff.1 hk).2] at this
      rw [← this, List.take_append_drop]
    have e2 : l.set k ⟨t.per, t.need - 1, t.skip⟩ = l.take k ++ ⟨t.per, t.need - 1, t.skip⟩ :: l.drop (k + 1) := List.set_eq_take_append_cons_drop.trans (by rw [if_pos hkl])
    conv => rhs; rw [e1]
    rw [e2, sumO_app, sumO_app, sumO_cons, sumO_cons]
    have := of_less hgt hn s
    omega
  unfold allZ at this ⊢
  rw [if_pos hl] at this
  rw [if_pos (by rw [List.length_set]; exact hl)]
  omega
/-- DemandFrames asks: no task at all is held. -/
theorem holds_nil : holdsB [] = true := by
  refine holdsB_iff.2 ⟨rfl, fun s h1 _ => ?_⟩
  show (0 : Int) ≤ s
  omega
/-- DemandOne. -/
theorem holds_one {t : Tk} (h : t.good = true) (hu : t.unit ≤ 100000) : frameE [t] = 0 ∧ holdsB [t] = decide (t.need ≤ t.per) := by
  obtain ⟨⟨h1, h2⟩, ⟨h3, h4⟩, h5⟩ := tk_iff.1 h
  have ht : tasksB [t] = true := by unfold tasksB; simp [h]
  obtain ⟨u1, u2⟩ := unit_pos h
  obtain ⟨g1, g2⟩ := frame_sub (l := [t]) ht u1 hu (fun x hx => by simp at hx; subst hx; exact Int.dvd_refl _)
  refine ⟨g1, ?_⟩
  obtain ⟨_, f1, f2, f3, _⟩ := frame_props g1
  have hle := Int.le_of_dvd (by omega) (f3 t (by simp))
  have hpu : t.per ≤ t.unit := by
    unfold Tk.unit
    split
    · omega
    · have : t.per * 1 ≤ t.per * t.skip := Int.mul_le_mul_of_nonneg_left (by omega) (by omega)
      omega
  rw [Bool.eq_iff_iff, decide_eq_true_eq, holdsB_iff]
  have ez : ∀ s : Int, 1 ≤ s → s ≤ 1000000 → allZ [t] s = runsZ t s * t.need := fun s k1 k2 => by
    unfold allZ
    rw [if_pos (by simp), sumO_cons]
    unfold ofZ
    rw [h, decide_eq_true (show 0 ≤ s by omega)]
    simp [sumO, Int.min_eq_left k2]
  constructor
  · rintro ⟨_, hh⟩
    have := hh t.per (by omega) (by omega)
    rw [ez _ (by omega) (by omega)] at this
    have er : runsZ t t.per = 1 := by
      unfold runsZ
      rw [Int.ediv_self (by omega)]
      split
      · rfl
      · rw [Int.ediv_eq_zero_of_lt (by omega) (by omega)]; rfl
    rw [er] at this
    omega
  · intro hn
    refine ⟨g1, fun s k1 k2 => ?_⟩
    rw [ez s k1 (by omega)]
    obtain ⟨a1, a2, a3, a4, _⟩ := runs_bound h (s := s) (by omega)
    have b1 : runsZ t s * t.need ≤ s / t.per * t.per := Int.mul_le_mul a2 hn (by omega) a4
    omega
end Go.Proofs.Ytmokbmhobglhfaa
