/- A history of booleans, as a list, the last one first: its word, what is added; how many ones a word has, by Hamming's way. -/
import Derived.Test.YtecjblcdiabkcaaNumMath
namespace Go.Proofs.Ytecjblcdiabkcaa
set_option linter.unusedVariables false

/-- The word of a history: the last element is the lowest bit. -/
def wd : List Bool → Nat
  | [] => 0
  | b :: t => b.toNat + 2 * wd t
/-- One more, and the oldest ones away. -/
def radd (n : Nat) (h : List Bool) (b : Bool) : List Bool := (b :: h).take n
theorem radd_len (n : Nat) (h : List Bool) (b : Bool) : (radd n h b).length = min (h.length + 1) n := by
  rw [radd, List.length_take, List.length_cons, Nat.min_comm]
theorem radd_le (n : Nat) (h : List Bool) (b : Bool) : (radd n h b).length ≤ n := by rw [radd_len]; omega
theorem bit_le (b : Bool) : b.toNat ≤ 1 := by cases b <;> decide
theorem wd_lt : ∀ h : List Bool, wd h < 2 ^ h.length
  | [] => by decide
  | b :: t => by have := wd_lt t; have := bit_le b; rw [List.length_cons, Nat.pow_succ, wd]; omega
theorem wd_le {h : List Bool} {n : Nat} (hl : h.length ≤ n) : wd h < 2 ^ n := Nat.lt_of_lt_of_le (wd_lt h) (Nat.pow_le_pow_right (by decide) hl)
theorem wd_take : ∀ (n : Nat) (h : List Bool), wd (h.take n) = wd h % 2 ^ n
  | 0, h => by simp [wd, Nat.mod_one]
  | n + 1, [] => by simp [wd]
  | n + 1, b :: t => by
    have := bit_le b
    rw [List.take_succ_cons, wd, wd, wd_take n t, Nat.pow_succ, Nat.mul_comm (2 ^ n) 2, Nat.mod_mul, show (b.toNat + 2 * wd t) % 2 = b.toNat by omega, show (b.toNat + 2 * wd t) / 2 = wd t by omega]
theorem wd_radd (n : Nat) (h : List Bool) (b : Bool) : wd (radd n h b) = (b.toNat + 2 * wd h) % 2 ^ n := by rw [radd, wd_take, wd]
/-- The element k places back, as a bit of the word. -/
theorem wd_bit : ∀ (h : List Bool) (k : Nat), wd h / 2 ^ k % 2 = (h.getD k false).toNat
  | [], k => by simp [wd]
  | b :: t, 0 => by have := bit_le b; simp [wd]; omega
  | b :: t, k + 1 => by
    have := bit_le b
    rw [wd, Nat.pow_succ, Nat.mul_comm (2 ^ k) 2, ← Nat.div_div_eq_div_mul, show (b.toNat + 2 * wd t) / 2 = wd t by omega, wd_bit t k]
    simp
/-- How many are true. -/
def yes (h : List Bool) : Nat := h.count true
theorem yes_le (h : List Bool) : yes h ≤ h.length := List.count_le_length

/-- How many ones there are in the lowest f bits. -/
def pc : Nat → Nat → Nat
  | 0, _ => 0
  | f + 1, x => x % 2 + pc f (x / 2)
theorem pc_zero : ∀ f, pc f 0 = 0
  | 0 => rfl
  | f + 1 => by simp [pc, pc_zero f]
theorem pc_wd : ∀ (f : Nat) (h : List Bool), h.length ≤ f → pc f (wd h) = yes h
  | 0, h, hl => by
    have : h = [] := List.eq_nil_of_length_eq_zero (by omega)
    subst this; rfl
  | f + 1, [], _ => by rw [wd, pc_zero]; rfl
  | f + 1, b :: t, hl => by
    have := bit_le b
    rw [pc, wd, show (b.toNat + 2 * wd t) % 2 = b.toNat by omega, show (b.toNat + 2 * wd t) / 2 = wd t by omega, pc_wd f t (by simpa using hl)]
    unfold yes
    cases b <;> simp [Nat.add_comm]
/-- The ones below k, one more. -/
theorem pc_succ : ∀ (f x : Nat), pc (f + 1) x = pc f x + x / 2 ^ f % 2
  | 0, x => by simp [pc]
  | f + 1, x => by
    rw [pc, pc_succ f (x / 2), pc, Nat.pow_succ, Nat.mul_comm (2 ^ f) 2, Nat.div_div_eq_div_mul]
    omega
theorem pc_cut (f d y : Nat) (hd : d < 256) : pc (8 + f) (d + 256 * y) = pc 8 d + pc f y := by
  rw [show 8 + f = f + 1 + 1 + 1 + 1 + 1 + 1 + 1 + 1 by omega]
  simp only [pc]
  rw [show (d + 256 * y) / 2 / 2 / 2 / 2 / 2 / 2 / 2 / 2 = y by omega]
  omega

/-! Bytes. -/
/-- The number of these bytes, the lowest first. -/
def bv : List Nat → Nat
  | [] => 0
  | d :: t => d + 256 * bv t
def Bytes (l : List Nat) : Prop := ∀ d ∈ l, d < 256
theorem and_cut (a b c d : Nat) (ha : a < 256) (hc : c < 256) : (a + 256 * b) &&& (c + 256 * d) = (a &&& c) + 256 * (b &&& d) := by
  have h1 : ((a + 256 * b) &&& (c + 256 * d)) % 2 ^ 8 = a &&& c := by
    rw [Nat.and_mod_two_pow]
    congr 1 <;> omega
  have h2 : ((a + 256 * b) &&& (c + 256 * d)) / 2 ^ 8 = b &&& d := by
    rw [Nat.and_div_two_pow]
    congr 1 <;> omega
  omega
theorem bv_map2 (f g : Nat → Nat) : ∀ l : List Nat, bv (l.map f) + bv (l.map g) = bv (l.map fun d => f d + g d)
  | [] => rfl
  | d :: t => by simp only [List.map_cons, bv, ← bv_map2 f g t]; omega
theorem bv_and (c : Nat) (hc : c < 256) : ∀ l : List Nat, Bytes l → bv l &&& bv (List.replicate l.length c) = bv (l.map (· &&& c))
  | [], _ => by simp [bv]
  | d :: t, h => by
    simp only [List.map_cons, bv, List.length_cons, List.replicate_succ]
    rw [and_cut _ _ _ _ (h d (by simp)) hc, bv_and c hc t fun x hx => h x (by simp [hx])]
/-- A shift by j, where what comes in from above is masked away. -/
theorem bv_shift (j c : Nat) (hj : j = 2 ∨ j = 4) (hc : c < 256) (hd : ∀ d < 256, ∀ u < j, (d / j + 256 / j * u) &&& c = d / j &&& c) : ∀ l : List Nat, Bytes l → (bv l / j) &&& bv (List.replicate l.length c) = bv (l.map fun d => d / j &&& c)
  | [], _ => by simp [bv]
  | d :: t, h => by
    have h1 := h d (by simp)
    simp only [List.map_cons, bv, List.length_cons, List.replicate_succ]
    rw [← bv_shift j c hj hc hd t fun x hx => h x (by simp [hx]), ← hd d h1 (bv t % j) (by rcases hj with rfl | rfl <;> omega), ← and_cut _ _ _ _ ?_ hc]
    · congr 1
      rcases hj with rfl | rfl <;> omega
    · rcases hj with rfl | rfl <;> omega
/-- The third step: nibbles. -/
theorem bv_nib : ∀ l : List Nat, (∀ d ∈ l, d % 16 ≤ 4 ∧ d / 16 ≤ 4) → (bv l / 16 + bv l) &&& bv (List.replicate l.length 15) = bv (l.map fun d => d / 16 + d % 16)
  | [], _ => by simp [bv]
  | d :: t, h => by
    have h1 := h d (by simp)
    have h2 : bv t % 16 ≤ 4 := by
      cases t with
      | nil => simp [bv]
      | cons e s => have := h e (by simp); simp only [bv]; omega
    simp only [List.map_cons, bv, List.length_cons, List.replicate_succ]
    rw [← bv_nib t fun x hx => h x (by simp [hx]), show (d + 256 * bv t) / 16 + (d + 256 * bv t) = (d / 16 + 16 * (bv t % 16) + d) + 256 * (bv t / 16 + bv t) by omega, and_cut _ _ _ _ (by omega) (by decide),
      show (15 : Nat) = 2 ^ 4 - 1 from rfl, Nat.and_two_pow_sub_one_eq_mod]
    omega
def s1 (d : Nat) : Nat := (d / 2 &&& 85) + (d &&& 85)
def s2 (d : Nat) : Nat := (d / 4 &&& 51) + (d &&& 51)
def s3 (d : Nat) : Nat := d / 16 + d % 16
theorem leak1 : ∀ d < 256, ∀ u < 2, (d / 2 + 256 / 2 * u) &&& 85 = d / 2 &&& 85 := by decide +kernel
theorem leak2 : ∀ d < 256, ∀ u < 4, (d / 4 + 256 / 4 * u) &&& 51 = d / 4 &&& 51 := by decide +kernel
theorem s1_lt : ∀ d < 256, s1 d < 256 := by decide +kernel
theorem s2_nib : ∀ d < 256, s2 (s1 d) % 16 ≤ 4 ∧ s2 (s1 d) / 16 ≤ 4 ∧ s2 (s1 d) < 256 := by decide +kernel
theorem s3_pc : ∀ d < 256, s3 (s2 (s1 d)) = pc 8 d := by decide +kernel
theorem pc8_le : ∀ d < 256, pc 8 d ≤ 8 := by decide +kernel
theorem step1 (l : List Nat) (h : Bytes l) : (bv l / 2 &&& bv (List.replicate l.length 85)) + (bv l &&& bv (List.replicate l.length 85)) = bv (l.map s1) := by
  rw [bv_shift 2 85 (.inl rfl) (by decide) leak1 l h, bv_and 85 (by decide) l h, bv_map2]; rfl
theorem step2 (l : List Nat) (h : Bytes l) : (bv l / 4 &&& bv (List.replicate l.length 51)) + (bv l &&& bv (List.replicate l.length 51)) = bv (l.map s2) := by
  rw [bv_shift 4 51 (.inr rfl) (by decide) leak2 l h, bv_and 51 (by decide) l h, bv_map2]; rfl
/-- The eight bytes of a word. -/
def bytes8 (x : Nat) : List Nat := [x % 256, x / 256 % 256, x / 256 ^ 2 % 256, x / 256 ^ 3 % 256, x / 256 ^ 4 % 256, x / 256 ^ 5 % 256, x / 256 ^ 6 % 256, x / 256 ^ 7 % 256]
theorem bytes8_lt (x : Nat) : Bytes (bytes8 x) := by
  intro d hd
  simp only [bytes8, List.mem_cons, List.not_mem_nil, or_false] at hd
  rcases hd with rfl | rfl | rfl | rfl | rfl | rfl | rfl | rfl <;> exact Nat.mod_lt _ (by decide)
theorem bytes8_bv (x : Nat) (h : x < 18446744073709551616) : bv (bytes8 x) = x := by
  simp only [bytes8, bv]
  omega
theorem map_lt {l : List Nat} (h : Bytes l) {f : Nat → Nat} (hf : ∀ d < 256, f d < 256) : Bytes (l.map f) := by
  intro d hd
  obtain ⟨e, he, rfl⟩ := List.mem_map.1 hd
  exact hf e (h e he)
theorem len_eight {l : List Nat} (h : l.length = 8) : ∃ d0 d1 d2 d3 d4 d5 d6 d7, l = [d0, d1, d2, d3, d4, d5, d6, d7] := by
  rcases l with _ | ⟨d0, _ | ⟨d1, _ | ⟨d2, _ | ⟨d3, _ | ⟨d4, _ | ⟨d5, _ | ⟨d6, _ | ⟨d7, _ | ⟨d8, t⟩⟩⟩⟩⟩⟩⟩⟩⟩ <;> simp at h
  exact ⟨d0, d1, d2, d3, d4, d5, d6, d7, rfl⟩
theorem pc_bv {l : List Nat} (h : l.length = 8) (B : Bytes l) : pc 64 (bv l) = (l.map (pc 8)).sum := by
  obtain ⟨d0, d1, d2, d3, d4, d5, d6, d7, rfl⟩ := len_eight h
  have q : ∀ d ∈ [d0, d1, d2, d3, d4, d5, d6, d7], d < 256 := B
  simp only [bv]
  rw [show (64 : Nat) = 8 + (8 + (8 + (8 + (8 + (8 + (8 + (8 + 0))))))) from rfl, pc_cut _ _ _ (q _ (by simp)), pc_cut _ _ _ (q _ (by simp)), pc_cut _ _ _ (q _ (by simp)), pc_cut _ _ _ (q _ (by simp)), pc_cut _ _ _ (q _ (by simp)), pc_cut _ _ _ (q _ (by simp)), pc_cut _ _ _ (q _ (by simp)), pc_cut _ _ _ (q _ (by simp))]
  simp only [List.map_cons, List.map_nil, List.sum_cons, List.sum_nil]
  rfl
theorem nib_lt {l : List Nat} (h : l.length = 8) (B : ∀ d ∈ l, d % 16 ≤ 4 ∧ d / 16 ≤ 4) : bv l < 5000000000000000000 := by
  obtain ⟨d0, d1, d2, d3, d4, d5, d6, d7, rfl⟩ := len_eight h
  have r0 := B d0 (by simp)
  have r1 := B d1 (by simp)
  have r2 := B d2 (by simp)
  have r3 := B d3 (by simp)
  have r4 := B d4 (by simp)
  have r5 := B d5 (by simp)
  have r6 := B d6 (by simp)
  have r7 := B d7 (by simp)
  simp only [bv]
  omega
/-- The last three steps. -/
theorem fold_eq (p0 p1 p2 p3 p4 p5 p6 p7 c y z u : Nat) (r0 : p0 ≤ 8) (r1 : p1 ≤ 8) (r2 : p2 ≤ 8) (r3 : p3 ≤ 8) (r4 : p4 ≤ 8) (r5 : p5 ≤ 8) (r6 : p6 ≤ 8) (r7 : p7 ≤ 8)
    (hc : c = p0 + 256 * (p1 + 256 * (p2 + 256 * (p3 + 256 * (p4 + 256 * (p5 + 256 * (p6 + 256 * p7))))))) (hy : c + c / 256 = y) (hz : y + y / 65536 = z) (hu : z + z / 4294967296 = u) :
    u % 128 = p0 + (p1 + (p2 + (p3 + (p4 + (p5 + (p6 + p7)))))) ∧ y ≤ 9223372036854775807 ∧ z ≤ 9223372036854775807 ∧ u ≤ 9223372036854775807 := by
  have k1 : c / 256 = p1 + 256 * (p2 + 256 * (p3 + 256 * (p4 + 256 * (p5 + 256 * (p6 + 256 * p7))))) := by omega
  have k2 : y = (p0 + p1) + 256 * ((p1 + p2) + 256 * ((p2 + p3) + 256 * ((p3 + p4) + 256 * ((p4 + p5) + 256 * ((p5 + p6) + 256 * ((p6 + p7) + 256 * p7)))))) := by omega
  clear k1 hy hc
  have k3 : y / 65536 = (p2 + p3) + 256 * ((p3 + p4) + 256 * ((p4 + p5) + 256 * ((p5 + p6) + 256 * ((p6 + p7) + 256 * p7)))) := by omega
  have k5 : z = (p0 + p1 + p2 + p3) + 256 * ((p1 + p2 + p3 + p4) + 256 * ((p2 + p3 + p4 + p5) + 256 * ((p3 + p4 + p5 + p6) + 256 * ((p4 + p5 + p6 + p7) + 256 * ((p5 + p6 + p7) + 256 * ((p6 + p7) + 256 * p7)))))) := by omega
  have ky : y ≤ 9223372036854775807 := by omega
  clear k3 k2 hz
  have k4 : z / 4294967296 = (p4 + p5 + (p6 + p7)) + 256 * ((p5 + p6 + p7) + 256 * ((p6 + p7) + 256 * p7)) := by omega
  refine ⟨?_, ky, ?_, ?_⟩ <;> omega
/-- Hamming's way, and how big each step may be. -/
theorem ones_eq (x a b c y z u : Nat) (hx : x < 18446744073709551616) (ha : (x / 2 &&& 6148914691236517205) + (x &&& 6148914691236517205) = a) (hb : (a / 4 &&& 3689348814741910323) + (a &&& 3689348814741910323) = b)
    (hc : (b / 16 + b) &&& 1085102592571150095 = c) (hy : c + c / 256 = y) (hz : y + y / 65536 = z) (hu : z + z / 4294967296 = u) :
    u % 128 = pc 64 x ∧ a < 18446744073709551616 ∧ b < 5000000000000000000 ∧ c < 18446744073709551616 ∧ y ≤ 9223372036854775807 ∧ z ≤ 9223372036854775807 ∧ u ≤ 9223372036854775807 := by
  have B0 := bytes8_lt x
  have e0 := bytes8_bv x hx
  have hlen : (bytes8 x).length = 8 := rfl
  generalize bytes8 x = l at *
  have B1 := map_lt B0 s1_lt
  have B2 : ∀ d ∈ (l.map s1).map s2, d % 16 ≤ 4 ∧ d / 16 ≤ 4 := by
    intro d hd
    obtain ⟨e, he, rfl⟩ := List.mem_map.1 hd
    obtain ⟨g, hg, rfl⟩ := List.mem_map.1 he
    have := s2_nib g (B0 g hg)
    exact ⟨this.1, this.2.1⟩
  have h1 := step1 l B0
  have h2 := step2 (l.map s1) B1
  have h3 := bv_nib ((l.map s1).map s2) B2
  have g2 := nib_lt (l := (l.map s1).map s2) (by simp [hlen]) B2
  simp only [List.length_map, hlen] at h1 h2 h3
  rw [e0, show bv (List.replicate 8 85) = 6148914691236517205 from rfl, ha] at h1
  rw [← h1, show bv (List.replicate 8 51) = 3689348814741910323 from rfl, hb] at h2
  rw [← h2, show bv (List.replicate 8 15) = 1085102592571150095 from rfl, hc] at h3
  rw [← h2] at g2
  have h3' : c = bv (l.map (pc 8)) := by
    rw [h3, List.map_map, List.map_map]
    congr 1
    refine List.map_congr_left fun d hd => ?_
    exact s3_pc d (B0 d hd)
  have hp : pc 64 x = (l.map (pc 8)).sum := by rw [← e0]; exact pc_bv hlen B0
  have ha2 : a < 18446744073709551616 := by
    rw [← ha]
    have := Nat.and_le_right (n := x / 2) (m := 6148914691236517205)
    have := Nat.and_le_right (n := x) (m := 6148914691236517205)
    omega
  have hc2 : c < 18446744073709551616 := by
    rw [← hc]
    have := Nat.and_le_right (n := b / 16 + b) (m := 1085102592571150095)
    omega
  rw [hp]
  clear h1 h2 h3 ha hb hc B1 B2 hp e0 hx
  obtain ⟨d0, d1, d2, d3, d4, d5, d6, d7, rfl⟩ := len_eight hlen
  have q : ∀ d ∈ [d0, d1, d2, d3, d4, d5, d6, d7], d < 256 := B0
  simp only [List.map_cons, List.map_nil, bv, Nat.mul_zero, Nat.add_zero] at h3'
  simp only [List.map_cons, List.map_nil, List.sum_cons, List.sum_nil, Nat.add_zero]
  have F := fold_eq _ _ _ _ _ _ _ _ c y z u (pc8_le d0 (q _ (by simp))) (pc8_le d1 (q _ (by simp))) (pc8_le d2 (q _ (by simp))) (pc8_le d3 (q _ (by simp))) (pc8_le d4 (q _ (by simp))) (pc8_le d5 (q _ (by simp))) (pc8_le d6 (q _ (by simp))) (pc8_le d7 (q _ (by simp))) h3' hy hz hu
  exact ⟨F.1, ha2, g2, hc2, F.2.1, F.2.2.1, F.2.2.2⟩
end Go.Proofs.Ytecjblcdiabkcaa
