/- Go's table of powers of ten; strconv.FormatInt at base ten. -/
import Derived.Test.YtacjbinjlooohaaDoorBase
import Derived.Test.YtacjbinjlooohaaDoorUtText
import Derived.Test.YtacjbinjlooohaaDoorShelf
import Derived.Lib.LaidTab
import Derived.Lib.AppendIntMem
import Derived.Shelf.Unicode.PredsPay
namespace Go.Proofs.YtacjbinjlooohaaDoor
open Go.RowKit Go.PlainAid
open Go.Lib hiding intOf
set_option linter.unusedVariables false
set_option linter.unusedSimpArgs false

/-- Go's table of powers of ten lies as it is laid. -/
def Pow (w : World) : Prop := Lib.TabIs Tryd.prog w "internal/strconv.uint64pow10" .u64 Lib.pow10Tab
theorem Pow.below {w w' : World} (h : Pow w) (hb : Below w.heap.size w w') : Pow w' := TabIs_below (g := 2) (by kernel_rfl) h hb
theorem dec_dg : ∀ n : Nat, Lib.decDigits n = dg n := by
  intro n
  induction n using Nat.strongRecOn with
  | _ n ih =>
    rw [Lib.decDigits, dg]
    by_cases h : n < 10
    · rw [dif_pos h, if_pos h]; rfl
    · rw [dif_neg h, if_neg h, ih (n / 10) (by omega)]; rfl
theorem format10 (n : Nat) (w : World) (hn : n < 9223372036854775808) (hP : Pow w) : Calls Tryd.prog 20 #[.int .i64 (n : Int), .int .i64 10] w (RetB (.string (bs (dg n))) w) := by
  refine (Tryd.strconv_FormatInt_10 (n : Int) (by omega) (by omega) w hP).mono fun e w' h => ?_
  obtain ⟨rfl, k, os, rfl⟩ := h
  refine ⟨?_, below_grow _ w (Nat.le_refl _) k os⟩
  have : Lib.itoa (n : Int) = dg n := by
    unfold Lib.itoa
    rw [if_neg (by omega), show ((n : Int)).toNat = n by omega, dec_dg]
  rw [this]; rfl
/-- A thousand ahead. -/
theorem dg_thou {m : Nat} (h : m < 1000) : dg (1000 + m) = 49 :: dg3 m := by
  rw [dg_big (by omega), dg_big (by omega), dg_big (by omega), dg_small (by omega)]
  unfold dg3
  rw [show (1000 + m) / 10 / 10 / 10 = 1 by omega, show (1000 + m) / 10 / 10 % 10 = m / 100 by omega, show (1000 + m) / 10 % 10 = m / 10 % 10 by omega, show (1000 + m) % 10 = m % 10 by omega]
  rfl
set_option maxHeartbeats 1600000 in
set_option maxRecDepth 1000000 in
theorem three_any (m : Nat) (w : World) (hm : m < 1000) (hP : Pow w) : Calls Tryd.prog 21 #[.int .i64 (m : Int)] w (RetB (.string (bs (dg3 m))) w) := by
  obtain ⟨q, hq⟩ : ∃ q, 1000 + m = q := ⟨_, rfl⟩
  have C : Hid (∀ w', Below w.heap.size w w' → Calls Tryd.prog 20 #[.int .i64 (q : Int), .int .i64 10] w' (RetB (.string (bs (49 :: dg3 m))) w')) := fun w' hb => by
    have := format10 q w' (by omega) (hP.below hb)
    rw [← hq, dg_thou hm, hq] at this
    exact this
  have e1 : wrap64 (1000 + (m : Int)) = (q : Int) := by unfold wrap64; omega
  have hz : (bs (49 :: dg3 m)).size = 4 := rfl
  have hsl : ∀ w', (Instr.slice 9 (.string (bs (49 :: dg3 m))) (some (.int .i64 1)) none none).run Tryd.prog w' = .ok (.string (bs (dg3 m))) w' := fun w' => by
    rw [run_slice_string_from_if w' 9 _ .i64 1 Tryd.underlying9, if_pos (by rw [hz]; omega), show (1 : Int).toNat = 1 from rfl, ext_sub, sub_end]
    rfl
  generalize bs (49 :: dg3 m) = s at *
  generalize bs (dg3 m) = t at *
  clear hq hm hz hP
  go_enter Tryd.func21, Tryd.ntmps21
  go_wp2_with fail
  refine (C.out _ (by repeat (first | exact Below.refl _ _ | refine Below.setCell ?_ (by first | omega | (simp; done) | (simp; omega)) _ | refine below_dN ?_ _ | refine Below.drew ?_ | refine Below.alloc ?_ (by first | omega | (simp; done) | (simp; omega)) _))).mono ?_; rintro e hw ⟨rfl, h⟩
  clear C
  go_wp2
  go_ret
  exact ⟨rfl, by have s0 := h.size; (try simp only [World.heap_drewN, World.size_alloc] at s0); repeat (first | exact Below.refl _ _ | exact h | refine Below.trans ?_ (Below.mono h (by first | omega | (simp; done) | (simp; omega))) | refine Below.setCell ?_ (by first | omega | (simp; done) | (simp; omega)) _ | refine below_dN ?_ _ | refine Below.drew ?_ | refine Below.alloc ?_ (by first | omega | (simp; done) | (simp; omega)) _)⟩
end Go.Proofs.YtacjbinjlooohaaDoor
