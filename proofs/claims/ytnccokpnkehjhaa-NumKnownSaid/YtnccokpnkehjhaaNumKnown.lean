/- The walk of the closed law of layer 1: what chapter 1 says at the ends. -/
import Derived.Test.YtnccokpnkehjhaaNumLcm
import Derived.Test.YtnccokpnkehjhaaRows
import Derived.RowKit3
namespace Go.Proofs.Ytnccokpnkehjhaa
open Go.RowKit
set_option linter.unusedVariables false
set_option linter.unusedSimpArgs false

theorem lcm46 (most v : Int) (o : Bool) (b : Nat) (w : World) (h0 : w.cell? ⟨b, 0, none⟩ = some (.int .i64 4)) (h1 : w.cell? ⟨b, 1, none⟩ = some (.int .i64 6))
    (hv : lcmV most [4, 6] = v) (ho : lcmOk most [4, 6] = o) :
    Calls Try.prog 17 #[.int .i64 most, .slice (some ⟨b, 0, none⟩) 2 2] w (Ret (.tuple #[.int .i64 v, .bool o]) w) :=
  lcm_any most v o (some ⟨b, 0, none⟩) 2 [4, 6] w (by decide) (by decide)
    (fun k hk => ⟨b, 0, rfl, by
      match k, hk with
      | 0, _ => exact h0
      | 1, _ => exact h1⟩) hv ho
theorem lcm0 (most v : Int) (o : Bool) (w : World) (hv : lcmV most [] = v) (ho : lcmOk most [] = o) :
    Calls Try.prog 17 #[.int .i64 most, .slice none 0 0] w (Ret (.tuple #[.int .i64 v, .bool o]) w) :=
  lcm_any most v o none 0 [] w (by decide) (by decide) (fun k hk => absurd hk (by simp)) hv ho

set_option maxHeartbeats 2000000 in
set_option maxRecDepth 100000 in
theorem NumKnown_ret (w : World) : Calls Try.prog 3 #[] w (RetG (.bool true) w) := by
  have C1 := Lib.hid (add_named 9223372036854775807 1 0 false · (by decide) (by decide) (by decide) (by decide))
  have C2 := Lib.hid (sub_named (-1) (-9223372036854775808) 9223372036854775807 true · (by decide) (by decide) (by decide) (by decide))
  have C3 := Lib.hid (sub_named 0 (-9223372036854775808) 0 false · (by decide) (by decide) (by decide) (by decide))
  have C4 := Lib.hid (mul_named (-9223372036854775808) (-1) 0 false · (by decide) (by decide) (by decide) (by decide))
  have C5 := Lib.hid (mul_named (-4294967296) 2147483648 (-9223372036854775808) true · (by decide) (by decide) (by decide) (by decide))
  have C6 := Lib.hid (up_any (-7) 1 2 (-3) true · (by decide) (by decide) (by decide) (by decide) (by decide))
  have C7 := Lib.hid (share_any 1 1 0 0 false · (by decide) (by decide) (by decide) (by decide) (by decide))
  have C8 := Lib.hid (share_any 9223372036854775807 9223372036854775807 9223372036854775807 9223372036854775807 true · (by decide) (by decide) (by decide) (by decide) (by decide))
  have C12 := Lib.hid (cmpMul_any 4611686018427387904 4 9223372036854775807 2 1 · (by decide) (by decide) (by decide) (by decide) (by decide))
  have C13 := Lib.hid (cmpMul_any (-9223372036854775808) 1 4611686018427387904 (-2) 0 · (by decide) (by decide) (by decide) (by decide) (by decide))
  have C14 := Lib.hid (gcd_any (-9223372036854775808) 2 1 · (by decide) (by decide) (by decide))
  have C15 := Lib.hid (gcd_any 0 0 0 · (by decide) (by decide) (by decide))
  go_enter Try.func3, Try.ntmps3
  go_wp2_with fail
  refine (awake1 _).mono ?_; rintro e w' ⟨rfl, n1, rfl⟩
  go_wp2_with fail
  refine (C1.out _).mono ?_; rintro e w' ⟨rfl, n2, rfl⟩
  go_wp2_with fail
  refine (C2.out _).mono ?_; rintro e w' ⟨rfl, n3, rfl⟩
  go_wp2_with fail
  refine (C3.out _).mono ?_; rintro e w' ⟨rfl, n4, rfl⟩
  go_wp2_with fail
  refine (C4.out _).mono ?_; rintro e w' ⟨rfl, n5, rfl⟩
  go_wp2_with fail
  refine (C5.out _).mono ?_; rintro e w' ⟨rfl, n6, rfl⟩
  go_wp2_with fail
  refine (C6.out _).mono ?_; rintro e w' ⟨rfl, n7, rfl⟩
  go_wp2_with fail
  refine (C7.out _).mono ?_; rintro e w' ⟨rfl, n8, rfl⟩
  go_wp2_with fail
  refine (C8.out _).mono ?_; rintro e w' ⟨rfl, n9, rfl⟩
  go_wp2_with fail
  refine (lcm46 100 12 true _ _ ?_ ?_ (by decide) (by decide)).mono ?_
  · exact (World.cell?_alloc_at _ _ _ _ (by simp)).trans rfl
  · exact (World.cell?_alloc_at _ _ _ _ (by simp)).trans rfl
  rintro e w' ⟨rfl, m1, rfl⟩
  go_wp2_with fail
  refine (lcm46 11 0 false _ _ ?_ ?_ (by decide) (by decide)).mono ?_
  · exact (World.cell?_alloc_at _ _ _ _ (by simp)).trans rfl
  · exact (World.cell?_alloc_at _ _ _ _ (by simp)).trans rfl
  rintro e w' ⟨rfl, m2, rfl⟩
  go_wp2_with fail
  refine (lcm0 1 1 true _ (by decide) (by decide)).mono ?_; rintro e w' ⟨rfl, m3, rfl⟩
  go_wp2_with fail
  refine (C12.out _).mono ?_; rintro e w' ⟨rfl, n10, rfl⟩
  go_wp2_with fail
  refine (C13.out _).mono ?_; rintro e w' ⟨rfl, n11, rfl⟩
  go_wp2_with fail
  refine (C14.out _).mono ?_; rintro e w' ⟨rfl, n12, rfl⟩
  go_wp2_with fail
  refine (C15.out _).mono ?_; rintro e w' ⟨rfl, n13, rfl⟩
  go_wp2
  go_ret
  exact ⟨rfl, by repeat (first | exact Grown.refl _ | apply Grown.drew | apply Grown.drewN | apply Grown.alloc)⟩
end Go.Proofs.Ytnccokpnkehjhaa
