/- The calls of a history: OnesCount64, New, Add, Yes, Len, Bits, At. -/
import Derived.Test.YtecjblcdiabkcaaRgMath
import Derived.Test.YtecjblcdiabkcaaRegT
import Derived.Laws.Bits64b
namespace Go.Proofs.Ytecjblcdiabkcaa
open Go.RowKit
set_option linter.unusedVariables false
set_option linter.unusedSimpArgs false

theorem wrapU (a : Nat) (h : a < 18446744073709551616) : IntKind.u64.wrap (a : Int) = (a : Int) := by rw [IntKind.wrap_u64]; omega
theorem castDiv (a b : Nat) : ((a : Int) / (b : Int)) = ((a / b : Nat) : Int) := by simp
set_option maxHeartbeats 1600000 in
theorem ones_walk (x x1 a1 a2 a b1 b2 b3 b c1 c2 c y1 y z1 z u1 u : Nat) (r : Nat) (w : World)
    (e1 : (x : Int) / 2 = x1) (e2 : bits .and .u64 (x1 : Int) 6148914691236517205 = a1) (e3 : bits .and .u64 (x : Int) 6148914691236517205 = a2) (e4 : IntKind.u64.wrap ((a1 : Int) + a2) = a)
    (f1 : (a : Int) / 4 = b1) (f2 : bits .and .u64 (b1 : Int) 3689348814741910323 = b2) (f3 : bits .and .u64 (a : Int) 3689348814741910323 = b3) (f4 : IntKind.u64.wrap ((b2 : Int) + b3) = b)
    (g1 : (b : Int) / 16 = c1) (g2 : IntKind.u64.wrap ((c1 : Int) + b) = c2) (g3 : bits .and .u64 (c2 : Int) 1085102592571150095 = c)
    (h1 : (c : Int) / 256 = y1) (h2 : IntKind.u64.wrap ((c : Int) + y1) = y) (h3 : (y : Int) / 65536 = z1) (h4 : IntKind.u64.wrap ((y : Int) + z1) = z)
    (h5 : (z : Int) / 4294967296 = u1) (h6 : IntKind.u64.wrap ((z : Int) + u1) = u) (h7 : IntKind.i64.wrap (u : Int) = u) (h8 : bits .and .i64 (u : Int) 127 = r) :
    Calls Try.prog 26 #[.int .u64 (x : Int)] w fun e w' => e = .returned (.int .i64 (r : Int)) ∧ w' = w := by
  go_enter Try.func26, Try.ntmps26
  go_wp2
  go_ret
  exact ⟨rfl, rfl⟩
theorem bits_and_i64_nat (a b : Nat) (ha : a < 9223372036854775808) (hb : b < 9223372036854775808) : bits .and .i64 (a : Int) (b : Int) = ((a &&& b : Nat) : Int) := by
  have hx : a &&& b ≤ b := Nat.and_le_right
  have h1 : (BitVec.ofInt 64 (a : Int)).toNat = a := by
    rw [BitVec.ofInt_natCast, BitVec.toNat_ofNat]; exact Nat.mod_eq_of_lt (by omega)
  have h2 : (BitVec.ofInt 64 (b : Int)).toNat = b := by
    rw [BitVec.ofInt_natCast, BitVec.toNat_ofNat]; exact Nat.mod_eq_of_lt (by omega)
  show IntKind.i64.wrap ((BitVec.ofInt 64 (a : Int) &&& BitVec.ofInt 64 (b : Int)).toNat : Int) = _
  rw [BitVec.toNat_and, h1, h2, IntKind.wrap_i64]
  omega
theorem ones (x : Nat) (w : World) (hx : x < 18446744073709551616) :
    Calls Try.prog 26 #[.int .u64 (x : Int)] w fun e w' => e = .returned (.int .i64 (pc 64 x : Int)) ∧ w' = w := by
  obtain ⟨a, ha⟩ : ∃ a, (x / 2 &&& 6148914691236517205) + (x &&& 6148914691236517205) = a := ⟨_, rfl⟩
  obtain ⟨b, hb⟩ : ∃ b, (a / 4 &&& 3689348814741910323) + (a &&& 3689348814741910323) = b := ⟨_, rfl⟩
  obtain ⟨c, hc⟩ : ∃ c, (b / 16 + b) &&& 1085102592571150095 = c := ⟨_, rfl⟩
  obtain ⟨y, hy⟩ : ∃ y, c + c / 256 = y := ⟨_, rfl⟩
  obtain ⟨z, hz⟩ : ∃ z, y + y / 65536 = z := ⟨_, rfl⟩
  obtain ⟨u, hu⟩ : ∃ u, z + z / 4294967296 = u := ⟨_, rfl⟩
  obtain ⟨k0, k1, k2, k3, k4, k5, k6⟩ := ones_eq x a b c y z u hx ha hb hc hy hz hu
  refine ones_walk x (x / 2) (x / 2 &&& 6148914691236517205) (x &&& 6148914691236517205) a (a / 4) (a / 4 &&& 3689348814741910323) (a &&& 3689348814741910323) b (b / 16) (b / 16 + b) c (c / 256) y (y / 65536) z (z / 4294967296) u (pc 64 x) w
    (castDiv x 2) (bits_and_u64_nat _ 6148914691236517205 (by omega) (by decide)) (bits_and_u64_nat _ 6148914691236517205 (by omega) (by decide)) ?_
    (castDiv a 4) (bits_and_u64_nat _ 3689348814741910323 (by omega) (by decide)) (bits_and_u64_nat _ 3689348814741910323 (by omega) (by decide)) ?_
    (castDiv b 16) ?_ ?_ (castDiv c 256) ?_ (castDiv y 65536) ?_ (castDiv z 4294967296) ?_ ?_ ?_
  · rw [← Int.natCast_add, ha]; exact wrapU _ k1
  · rw [← Int.natCast_add, hb]; exact wrapU _ (by omega)
  · rw [← Int.natCast_add]; exact wrapU _ (by omega)
  · rw [← hc]; exact bits_and_u64_nat _ 1085102592571150095 (by omega) (by decide)
  · rw [← Int.natCast_add, hy]; exact wrapU _ (by omega)
  · rw [← Int.natCast_add, hz]; exact wrapU _ (by omega)
  · rw [← Int.natCast_add, hu]; exact wrapU _ (by omega)
  · rw [IntKind.wrap_i64]; omega
  · rw [← k0, show u % 128 = u &&& 127 from (Nat.and_two_pow_sub_one_eq_mod u 7).symm]; exact bits_and_i64_nat u 127 (by omega) (by decide)
theorem low_eq (n : Nat) (h : n ≤ 64) : IntKind.u64.wrap (IntKind.u64.wrap (2 ^ n) - 1) = ((2 ^ n - 1 : Nat) : Int) := by
  rcases Nat.lt_or_ge n 64 with hl | hl
  · have h1 : 2 ^ n < 2 ^ 64 := Nat.pow_lt_pow_right (by decide) hl
    have h0 : 0 < 2 ^ n := Nat.two_pow_pos n
    have e : ((2 : Int) ^ n) = ((2 ^ n : Nat) : Int) := by simp
    rw [e]
    generalize 2 ^ n = m at *
    rw [IntKind.wrap_u64, IntKind.wrap_u64]
    omega
  · obtain rfl : n = 64 := by omega
    decide
set_option maxHeartbeats 800000 in
theorem lowest_any (n : Nat) (w : World) (h : n ≤ 64) :
    Calls Try.prog 28 #[.int .i64 (n : Int)] w fun e w' => e = .returned (.int .u64 ((2 ^ n - 1 : Nat) : Int)) ∧ w' = w := by
  have e := low_eq n h
  generalize (2 ^ n - 1 : Nat) = m at *
  go_enter Try.func28, Try.ntmps28
  go_wp2
  go_ret
  exact ⟨rfl, rfl⟩

/-- Block a is a history of at most size elements that holds h, the last one first. -/
structure Rg (o : Nat → Nat) (σ : Nat) (w : World) (a size : Nat) (h : List Bool) : Prop where
  box : Blk o σ w a #[.int .i64 (size : Int), .int .i64 (h.length : Int), .int .u64 (wd h : Int)] 51
  le : h.length ≤ size
  lo : 1 ≤ size
  hi : size ≤ 64
section
variable {o o' : Nat → Nat} {σ τ : Nat} {w w' : World} {a size : Nat} {h : List Bool}
theorem Rg.alloc (g : Rg o σ w a size h) (x : Obj) (τ' : Nat) : Rg (tag o w.heap.size τ') σ (w.alloc x) a size h := ⟨g.box.alloc x τ', g.le, g.lo, g.hi⟩
theorem Rg.drewN (g : Rg o σ w a size h) (n : Nat) : Rg o σ (w.drewN n) a size h := ⟨⟨g.box.at_, g.box.mine⟩, g.le, g.lo, g.hi⟩
theorem Rg.drew (g : Rg o σ w a size h) : Rg o σ w.drew a size h := ⟨⟨g.box.at_, g.box.mine⟩, g.le, g.lo, g.hi⟩
theorem Rg.below (g : Rg o σ w a size h) (hb : Below w.heap.size w w') : Rg o σ w' a size h := ⟨g.box.below hb, g.le, g.lo, g.hi⟩
theorem Rg.step (g : Rg o σ w a size h) (st : Step o o' τ w w') (hne : σ ≠ τ) : Rg o' σ w' a size h := ⟨g.box.step st hne, g.le, g.lo, g.hi⟩
theorem Rg.word (g : Rg o σ w a size h) : wd h < 18446744073709551616 := wd_le (n := 64) (Nat.le_trans g.le g.hi)

set_option maxHeartbeats 800000 in
theorem rnew_bad (w : World) (r : Int) (h : r < 1 ∨ 64 < r) : Calls Try.prog 18 #[.int .i64 r] w fun e w' => e = .returned (.tuple #[.pointer none, .int .i64 1]) ∧ w' = w := by
  go_enter Try.func18, Try.ntmps18
  by_cases h1 : r < 1
  · go_wp2
    go_ret2
    exact ⟨rfl, rfl⟩
  · have h1' : decide (r < 1) = false := decide_eq_false h1
    have h2 : r > 64 := by omega
    clear h
    go_wp2
    go_ret2
    exact ⟨rfl, rfl⟩
set_option maxHeartbeats 800000 in
theorem rnew (o : Nat → Nat) (σ : Nat) (w : World) (size : Nat) (h0 : 1 ≤ size) (h1 : size ≤ 64) : Calls Try.prog 18 #[.int .i64 (size : Int)] w fun e w' => e = .returned (.tuple #[.pointer (some ⟨w.heap.size, 0, none⟩), .int .i64 0]) ∧
    ∃ o', Step o o' σ w w' ∧ Rg o' σ w' w.heap.size size [] := by
  go_enter Try.func18, Try.ntmps18
  have h0' : decide ((size : Int) < 1) = false := decide_eq_false (by omega)
  have h1' : decide ((size : Int) > 64) = false := decide_eq_false (by omega)
  go_wp2
  go_ret2
  exact ⟨rfl, _, (Step.refl o σ w).alloc σ _, Blk.made o σ w _ _, Nat.zero_le _, h0, h1⟩
set_option maxHeartbeats 800000 in
theorem rlen (g : Rg o σ w a size h) :
    Calls Try.prog 20 #[.pointer (some ⟨a, 0, none⟩)] w fun e w' => e = .returned (.int .i64 (h.length : Int)) ∧ w' = w := by
  have c1 : w.cell? ⟨a, 1, none⟩ = some (.int .i64 (h.length : Int)) := by rw [g.box.cell]; simp
  clear g
  go_enter Try.func20, Try.ntmps20
  go_wp2
  go_ret
  exact ⟨rfl, rfl⟩
set_option maxHeartbeats 800000 in
theorem rbits (g : Rg o σ w a size h) :
    Calls Try.prog 27 #[.pointer (some ⟨a, 0, none⟩)] w fun e w' => e = .returned (.int .u64 (wd h : Int)) ∧ w' = w := by
  have c1 : w.cell? ⟨a, 2, none⟩ = some (.int .u64 (wd h : Int)) := by rw [g.box.cell]; simp
  clear g
  go_enter Try.func27, Try.ntmps27
  go_wp2
  go_ret
  exact ⟨rfl, rfl⟩
set_option maxHeartbeats 800000 in
theorem ryes (g : Rg o σ w a size h) :
    Calls Try.prog 23 #[.pointer (some ⟨a, 0, none⟩)] w fun e w' => e = .returned (.int .i64 (yes h : Int)) ∧ w' = w := by
  have c1 : w.cell? ⟨a, 2, none⟩ = some (.int .u64 (wd h : Int)) := by rw [g.box.cell]; simp
  have C := ones (wd h) w g.word
  rw [pc_wd 64 h (Nat.le_trans g.le g.hi)] at C
  replace C := Lib.hid C
  clear g
  go_enter Try.func23, Try.ntmps23
  go_wp2_with fail
  refine C.out.mono ?_
  rintro e w' ⟨rfl, rfl⟩
  go_wp2
  go_ret
  exact ⟨rfl, rfl⟩
theorem bit_eq (x m : Nat) (v : Bool) (hx : x < 18446744073709551616) (e : x / 2 ^ m % 2 = v.toNat) : (bits .and .u64 ((x : Int) / 2 ^ m) 1 == 1) = v := by
  have h1 : ((x : Int) / 2 ^ m) = ((x / 2 ^ m : Nat) : Int) := by simp
  have h2 : x / 2 ^ m ≤ x := Nat.div_le_self _ _
  rw [h1, show (1 : Int) = ((1 : Nat) : Int) from rfl, bits_and_u64_nat _ 1 (by omega) (by decide), show (1 : Nat) = 2 ^ 1 - 1 from rfl, Nat.and_two_pow_sub_one_eq_mod, Nat.pow_one, e]
  cases v <;> rfl
/-- What At answers. -/
def atV (h : List Bool) (k : Int) : Bool := if 0 ≤ k then h.getD k.toNat false else false
def atB (h : List Bool) (k : Int) : Bool := decide (0 ≤ k ∧ k < (h.length : Int))
/-- The word behind the shift and the new bit. -/
theorem shl_or (x : Nat) (b : Bool) : (x * 2 % 18446744073709551616) ||| b.toNat = x * 2 % 18446744073709551616 + b.toNat := by
  have h : (x * 2 % 18446744073709551616) = 2 ^ 1 * (x % 9223372036854775808) := by omega
  rw [h, Nat.two_pow_add_eq_or_of_lt (by cases b <;> decide)]
theorem add_word (n : Nat) (h : List Bool) (b : Bool) (hn : n ≤ 64) : (wd h * 2 % 18446744073709551616 + b.toNat) &&& (2 ^ n - 1) = wd (radd n h b) := by
  have hd : 2 ^ n ∣ 18446744073709551616 := Nat.pow_dvd_pow (n := 64) 2 hn
  rw [Nat.and_two_pow_sub_one_eq_mod, wd_radd, Nat.add_mod, Nat.mod_mod_of_dvd _ hd, ← Nat.add_mod, Nat.add_comm, Nat.mul_comm]
set_option maxHeartbeats 3200000 in
theorem radd_any (b : Bool) (h' : List Bool) (g : Rg o σ w a size h) (hh : radd size h b = h') :
    Calls Try.prog 22 #[.pointer (some ⟨a, 0, none⟩), .bool b] w fun e w' => e = .returned (.tuple #[]) ∧ Step o o σ w w' ∧ Rg o σ w' a size h' := by
  have c0 : w.cell? ⟨a, 0, none⟩ = some (.int .i64 (size : Int)) := by rw [g.box.cell]; simp
  have c1 : w.cell? ⟨a, 1, none⟩ = some (.int .i64 (h.length : Int)) := by rw [g.box.cell]; simp
  have c2 : w.cell? ⟨a, 2, none⟩ = some (.int .u64 (wd h : Int)) := by rw [g.box.cell]; simp
  have f2 : w.frozen? ⟨a, 2, none⟩ = false := g.box.frozen 2
  have f1 : w.frozen? ⟨a, 1, none⟩ = false := g.box.frozen 1
  obtain ⟨W1, hW1⟩ : ∃ W1, wd h * 2 % 18446744073709551616 = W1 := ⟨_, rfl⟩
  have q1 : IntKind.u64.wrap ((wd h : Int) * 2) = (W1 : Int) := by rw [IntKind.wrap_u64, ← hW1]; omega
  obtain ⟨W2, hW2⟩ : ∃ W2, W1 + b.toNat = W2 := ⟨_, rfl⟩
  have q2 : b = true → bits .or .u64 (W1 : Int) 1 = (W2 : Int) := fun hb => by
    subst hb
    have := shl_or (wd h) true
    rw [hW1] at this
    rw [show (1 : Int) = ((1 : Nat) : Int) from rfl, bits_or_u64_nat _ 1 (by omega) (by decide), ← hW2]
    exact congrArg _ this
  have hW3 : W2 &&& (2 ^ size - 1) = wd h' := by rw [← hW2, ← hW1, ← hh]; exact add_word size h b g.hi
  have hW4 : W2 < 18446744073709551616 := by have := bit_le b; rw [← hW2, ← hW1]; omega
  have hL : min ((h.length : Int) + 1) (size : Int) = (h'.length : Int) := by rw [← hh, radd_len]; omega
  have C := lowest_any size
  have hp : 0 < 2 ^ size := Nat.two_pow_pos _
  have hp2 : 2 ^ size ≤ 2 ^ 64 := Nat.pow_le_pow_right (by decide) g.hi
  obtain ⟨M, hM⟩ : ∃ M, 2 ^ size - 1 = M := ⟨_, rfl⟩
  rw [hM] at C hW3
  have q3 : bits .and .u64 (W2 : Int) (M : Int) = (wd h' : Int) := by rw [bits_and_u64_nat _ _ hW4 (by omega), hW3]
  have q4 : IntKind.i64.wrap ((h.length : Int) + 1) = (h.length : Int) + 1 := by have := g.le; have := g.hi; rw [IntKind.wrap_i64]; omega
  replace C := Lib.hid (fun w => C w g.hi)
  have hle : h'.length ≤ size := by rw [← hh]; exact radd_le _ _ _
  replace g := Lib.hid g
  replace hle := Lib.hid hle
  obtain ⟨hl, hhl⟩ : ∃ hl : Nat, h.length = hl := ⟨_, rfl⟩
  rw [hhl] at c1 hL q4
  replace hhl := Lib.hid hhl
  clear hW1 hW3 hW4 hM hp hp2 hh
  go_enter Try.func22, Try.ntmps22
  cases b with
  | true =>
    replace q2 := q2 rfl
    go_wp2
    have st := ((Step.refl o σ w).setCell (p := ⟨a, 2, none⟩) (.inr g.out.box.mine) (.int .u64 (W1 : Int))).setCell (p := ⟨a, 2, none⟩) (.inr g.out.box.mine) (.int .u64 (W2 : Int))
    have bx := (g.out.box.set 2 (.int .u64 (W1 : Int))).set 2 (.int .u64 (W2 : Int))
    simp at bx
    generalize (w.setCell ⟨a, 2, none⟩ (.int .u64 (W1 : Int))).setCell ⟨a, 2, none⟩ (.int .u64 (W2 : Int)) = w2 at *
    clear c0 c1 c2 f2 f1 q1 q2
    have c0 : w2.cell? ⟨a, 0, none⟩ = some (.int .i64 (size : Int)) := by rw [bx.cell]; simp
    have c2 : w2.cell? ⟨a, 2, none⟩ = some (.int .u64 (W2 : Int)) := by rw [bx.cell]; simp
    have f2 : w2.frozen? ⟨a, 2, none⟩ = false := bx.frozen 2
    have st3 := (st.setCell (p := ⟨a, 2, none⟩) (.inr g.out.box.mine) (.int .u64 (wd h' : Int))).drew
    have bx3 := bx.set 2 (.int .u64 (wd h' : Int))
    simp at bx3
    replace bx3 : Blk o σ (w2.setCell ⟨a, 2, none⟩ (.int .u64 (wd h' : Int))).drew a #[.int .i64 (size : Int), .int .i64 (hl : Int), .int .u64 (wd h' : Int)] 51 := ⟨by rw [← hhl.out]; exact bx3.at_, bx3.mine⟩
    replace bx3 := Lib.hid bx3
    replace st3 := Lib.hid st3
    clear bx st hW2
    go_region_with (go_at_call 28; refine (C.out _).mono ?_; rintro e w3 ⟨rfl, rfl⟩)
    all_goals
      go_wp2
      have c0 : (w2.setCell ⟨a, 2, none⟩ (.int .u64 (wd h' : Int))).drew.cell? ⟨a, 0, none⟩ = some (.int .i64 (size : Int)) := by rw [bx3.out.cell]; simp
      have c1 : (w2.setCell ⟨a, 2, none⟩ (.int .u64 (wd h' : Int))).drew.cell? ⟨a, 1, none⟩ = some (.int .i64 (hl : Int)) := by rw [bx3.out.cell]; simp
      have f1 : (w2.setCell ⟨a, 2, none⟩ (.int .u64 (wd h' : Int))).drew.frozen? ⟨a, 1, none⟩ = false := bx3.out.frozen 1
      generalize (w2.setCell ⟨a, 2, none⟩ (.int .u64 (wd h' : Int))).drew = w3 at *
      clear c2 f2
      go_region
      all_goals try go_wp2
      all_goals
        go_end0
        have bx4 := bx3.out.set 1 (.int .i64 (h'.length : Int))
        simp at bx4
        first | rw [show (hl : Int) + 1 = (h'.length : Int) by omega] | rw [show (size : Int) = (h'.length : Int) by omega]
        exact ⟨rfl, (st3.out.setCell (.inr bx3.out.mine) _).drew, ⟨⟨bx4.at_, bx4.mine⟩, hle.out, g.out.lo, g.out.hi⟩⟩
  | false =>
    obtain rfl : W1 = W2 := hW2
    go_wp2
    have st := ((Step.refl o σ w).setCell (p := ⟨a, 2, none⟩) (.inr g.out.box.mine) (.int .u64 (W1 : Int)))
    have bx := g.out.box.set 2 (.int .u64 (W1 : Int))
    simp at bx
    generalize w.setCell ⟨a, 2, none⟩ (.int .u64 (W1 : Int)) = w2 at *
    have hW2 : True := trivial
    clear c0 c1 c2 f2 f1 q1 q2
    have c0 : w2.cell? ⟨a, 0, none⟩ = some (.int .i64 (size : Int)) := by rw [bx.cell]; simp
    have c2 : w2.cell? ⟨a, 2, none⟩ = some (.int .u64 (W1 : Int)) := by rw [bx.cell]; simp
    have f2 : w2.frozen? ⟨a, 2, none⟩ = false := bx.frozen 2
    have st3 := (st.setCell (p := ⟨a, 2, none⟩) (.inr g.out.box.mine) (.int .u64 (wd h' : Int))).drew
    have bx3 := bx.set 2 (.int .u64 (wd h' : Int))
    simp at bx3
    replace bx3 : Blk o σ (w2.setCell ⟨a, 2, none⟩ (.int .u64 (wd h' : Int))).drew a #[.int .i64 (size : Int), .int .i64 (hl : Int), .int .u64 (wd h' : Int)] 51 := ⟨by rw [← hhl.out]; exact bx3.at_, bx3.mine⟩
    replace bx3 := Lib.hid bx3
    replace st3 := Lib.hid st3
    clear bx st hW2
    go_region_with (go_at_call 28; refine (C.out _).mono ?_; rintro e w3 ⟨rfl, rfl⟩)
    all_goals
      go_wp2
      have c0 : (w2.setCell ⟨a, 2, none⟩ (.int .u64 (wd h' : Int))).drew.cell? ⟨a, 0, none⟩ = some (.int .i64 (size : Int)) := by rw [bx3.out.cell]; simp
      have c1 : (w2.setCell ⟨a, 2, none⟩ (.int .u64 (wd h' : Int))).drew.cell? ⟨a, 1, none⟩ = some (.int .i64 (hl : Int)) := by rw [bx3.out.cell]; simp
      have f1 : (w2.setCell ⟨a, 2, none⟩ (.int .u64 (wd h' : Int))).drew.frozen? ⟨a, 1, none⟩ = false := bx3.out.frozen 1
      generalize (w2.setCell ⟨a, 2, none⟩ (.int .u64 (wd h' : Int))).drew = w3 at *
      clear c2 f2
      go_region
      all_goals try go_wp2
      all_goals
        go_end0
        have bx4 := bx3.out.set 1 (.int .i64 (h'.length : Int))
        simp at bx4
        first | rw [show (hl : Int) + 1 = (h'.length : Int) by omega] | rw [show (size : Int) = (h'.length : Int) by omega]
        exact ⟨rfl, (st3.out.setCell (.inr bx3.out.mine) _).drew, ⟨⟨bx4.at_, bx4.mine⟩, hle.out, g.out.lo, g.out.hi⟩⟩
end
end Go.Proofs.Ytecjblcdiabkcaa
