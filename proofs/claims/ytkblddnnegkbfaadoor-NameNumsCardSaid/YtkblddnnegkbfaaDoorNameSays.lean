/- The laws NameKnown, NameSays, NameNums. -/
import Derived.Test.YtkblddnnegkbfaaDoorNameAwake
namespace Go.Proofs.YtkblddnnegkbfaaDoor
open Go.RowKit Go.Lib Go.PlainAid
set_option linter.unusedVariables false
set_option linter.unusedSimpArgs false

set_option maxHeartbeats 1600000 in
set_option maxRecDepth 1000000 in
theorem NameKnown_ret (w : World) (hL : Ltr w) : Calls Tryd.prog 3 #[] w (RetB (.bool true) w) := by
  have AW := awake_any w hL
  have N1 : ∀ w', Calls Tryd.prog 10 #[.string ⟨#[45, 49, 50]⟩] w' (RetB (.tuple #[.int .i64 (-12), .bool true]) w') := fun w' => (num_any _ w' (by decide)).mono fun e w' h => retB_val h (by kernel_rfl)
  have N2 : ∀ w', Calls Tryd.prog 10 #[.string ⟨#[]⟩] w' (RetB (.tuple #[.int .i64 0, .bool false]) w') := fun w' => (num_any _ w' (by decide)).mono fun e w' h => retB_val h (by kernel_rfl)
  have N3 : ∀ w', Calls Tryd.prog 10 #[.string ⟨#[49, 50, 51, 52, 53, 54, 55, 56, 57, 48, 49, 50, 51]⟩] w' (RetB (.tuple #[.int .i64 0, .bool false]) w') := fun w' => (num_any _ w' (by decide)).mono fun e w' h => retB_val h (by kernel_rfl)
  have N4 : ∀ w', Calls Tryd.prog 10 #[.string ⟨#[43, 49]⟩] w' (RetB (.tuple #[.int .i64 0, .bool false]) w') := fun w' => (num_any _ w' (by decide)).mono fun e w' h => retB_val h (by kernel_rfl)
  have F1 : ∀ w', Calls Tryd.prog 11 #[.string ⟨#[97, 98, 61, 49]⟩, .string ⟨#[97]⟩] w' (RetB (.tuple #[.string ⟨#[]⟩, .bool false]) w') := fun w' => (field_any _ _ w' (by decide)).mono fun e w' h => retB_val h (by kernel_rfl)
  have F2 : ∀ w', Calls Tryd.prog 11 #[.string ⟨#[120, 32, 97, 61, 32, 121]⟩, .string ⟨#[97]⟩] w' (RetB (.tuple #[.string ⟨#[]⟩, .bool true]) w') := fun w' => (field_any _ _ w' (by decide)).mono fun e w' h => retB_val h (by kernel_rfl)
  have G1 : ∀ w', Ltr w' → Calls Tryd.prog 12 #[.string ⟨#[]⟩] w' (RetB (.bool false) w') := fun w' h => (good_any _ w' (by decide) h).mono fun e w' h => retB_val h (by kernel_rfl)
  have G2 : ∀ w', Ltr w' → Calls Tryd.prog 12 #[.string ⟨#[49, 97]⟩] w' (RetB (.bool false) w') := fun w' h => (good_any _ w' (by decide) h).mono fun e w' h => retB_val h (by kernel_rfl)
  have G3 : ∀ w', Ltr w' → Calls Tryd.prog 12 #[.string ⟨#[97, 32, 98]⟩] w' (RetB (.bool false) w') := fun w' h => (good_any _ w' (by decide) h).mono fun e w' h => retB_val h (by kernel_rfl)
  have G4 : ∀ w', Ltr w' → Calls Tryd.prog 12 #[.string ⟨#[97, 255]⟩] w' (RetB (.bool false) w') := fun w' h => (good_any _ w' (by decide) h).mono fun e w' h => retB_val h (by kernel_rfl)
  have G5 : ∀ w', Ltr w' → Calls Tryd.prog 12 #[.string ⟨#[97, 50, 51, 52, 53, 54, 55, 56, 57, 48, 49, 50, 51, 52, 53, 54, 55, 56, 57, 122]⟩] w' (RetB (.bool true) w') := fun w' h => (good_any _ w' (by decide) h).mono fun e w' h => retB_val h (by kernel_rfl)
  have G6 : ∀ w', Ltr w' → Calls Tryd.prog 12 #[.string ⟨#[97, 50, 51, 52, 53, 54, 55, 56, 57, 48, 49, 50, 51, 52, 53, 54, 55, 56, 57, 122, 122]⟩] w' (RetB (.bool false) w') := fun w' h => (good_any _ w' (by decide) h).mono fun e w' h => retB_val h (by kernel_rfl)
  have CN : ∀ w', Calls Tryd.prog 13 #[.string ⟨#[255, 254]⟩] w' (RetB (.int .i64 2) w') := fun w' => (len_any _ w' (by decide)).mono fun e w' h => retB_val h (by kernel_rfl)
  have CW : ∀ w', Calls Tryd.prog 14 #[.string ⟨#[]⟩] w' (fun e w2 => ∃ A c, e = .returned (.slice A 0 c) ∧ Below w'.heap.size w' w2) := fun w' => (words_any _ w' (by decide)).mono fun e w2 h => by
    have hw : wordsB ⟨#[]⟩ = [] := by kernel_rfl
    rw [hw] at h
    obtain ⟨A, c, h1, _, h2⟩ := h
    exact ⟨A, c, h1, h2⟩
  replace AW := Lib.hid AW
  replace N1 := Lib.hid N1
  replace N2 := Lib.hid N2
  replace N3 := Lib.hid N3
  replace N4 := Lib.hid N4
  replace F1 := Lib.hid F1
  replace F2 := Lib.hid F2
  replace G1 := Lib.hid G1
  replace G2 := Lib.hid G2
  replace G3 := Lib.hid G3
  replace G4 := Lib.hid G4
  replace G5 := Lib.hid G5
  replace G6 := Lib.hid G6
  replace CN := Lib.hid CN
  replace CW := Lib.hid CW
  replace hL := Lib.hid hL
  go_enter Tryd.func3, Tryd.ntmps3
  go_wp2_with fail
  refine AW.out.mono ?_; rintro e aw ⟨rfl, a⟩
  go_wp2_with fail
  refine (N1.out _).mono ?_; rintro e n1w ⟨rfl, n1⟩
  go_wp2_with fail
  refine (N2.out _).mono ?_; rintro e n2w ⟨rfl, n2⟩
  go_wp2_with fail
  refine (N3.out _).mono ?_; rintro e n3w ⟨rfl, n3⟩
  go_wp2_with fail
  refine (N4.out _).mono ?_; rintro e n4w ⟨rfl, n4⟩
  go_wp2_with fail
  refine (F1.out _).mono ?_; rintro e f1w ⟨rfl, f1⟩
  go_wp2_with fail
  refine (F2.out _).mono ?_; rintro e f2w ⟨rfl, f2⟩
  have B1 : Below w.heap.size w f2w := below_on (below_on (below_on (below_on (below_on (below_on a n1) n2) n3) n4) f1) f2
  clear a n1 n2 n3 n4 f1 f2
  go_wp2_with fail
  refine (G1.out _ (hL.out.below B1)).mono ?_; rintro e g1w ⟨rfl, g1⟩
  replace B1 := below_on B1 g1
  clear g1
  go_wp2_with fail
  refine (G2.out _ (hL.out.below B1)).mono ?_; rintro e g2w ⟨rfl, g2⟩
  replace B1 := below_on B1 g2
  clear g2
  go_wp2_with fail
  refine (G3.out _ (hL.out.below B1)).mono ?_; rintro e g3w ⟨rfl, g3⟩
  replace B1 := below_on B1 g3
  clear g3
  go_wp2_with fail
  refine (G4.out _ (hL.out.below B1)).mono ?_; rintro e g4w ⟨rfl, g4⟩
  replace B1 := below_on B1 g4
  clear g4
  go_wp2_with fail
  refine (G5.out _ (hL.out.below B1)).mono ?_; rintro e g5w ⟨rfl, g5⟩
  replace B1 := below_on B1 g5
  clear g5
  go_wp2_with fail
  refine (G6.out _ (hL.out.below B1)).mono ?_; rintro e g6w ⟨rfl, g6⟩
  replace B1 := below_on B1 g6
  clear g6
  go_wp2_with fail
  refine (CN.out _).mono ?_; rintro e lw ⟨rfl, l⟩
  replace B1 := below_on B1 l
  clear l
  go_wp2_with fail
  refine (CW.out _).mono ?_; rintro e ww ⟨A, c, rfl, wb⟩
  go_wp2
  go_ret
  exact ⟨rfl, below_on B1 wb⟩

set_option maxHeartbeats 1600000 in
set_option maxRecDepth 1000000 in
theorem NameNums_ret (n : Int) (w : World) (hL : Ltr w) (hn : fitB n = true) : Calls Tryd.prog 7 #[.int .i64 n] w (RetB (.bool true) w) := by
  have AW := Lib.hid (awake_any w hL)
  by_cases h1 : n < -999999999999
  · go_enter Tryd.func7, Tryd.ntmps7
    go_wp2_with fail
    refine AW.out.mono ?_; rintro e aw ⟨rfl, a⟩
    go_wp2
    go_ret
    exact ⟨rfl, a⟩
  by_cases h2 : n > 999999999999
  · go_enter Tryd.func7, Tryd.ntmps7
    go_wp2_with fail
    refine AW.out.mono ?_; rintro e aw ⟨rfl, a⟩
    go_wp2
    go_ret
    exact ⟨rfl, a⟩
  obtain ⟨d1, d2, d3⟩ := digZ_num n (by omega) (by omega)
  have CD := fun w' => digits_any n w' (by omega) (by omega)
  have CN : ∀ w', Calls Tryd.prog 10 #[.string (bs (digZ n))] w' (RetB (.tuple #[.int .i64 n, .bool true]) w') := fun w' => (num_any (bs (digZ n)) w' (by rw [bs_size]; omega)).mono fun e w' h => retB_val h (by rw [bs_data, d1]; rfl)
  have CX : ∀ w', Calls Tryd.prog 10 #[.string (bs (digZ n ++ [120]))] w' (RetB (.tuple #[.int .i64 0, .bool false]) w') := fun w' => (num_any (bs (digZ n ++ [120])) w' (by rw [bs_size]; simp; omega)).mono fun e w' h => retB_val h (by rw [bs_data, d2]; rfl)
  clear d1 d2
  generalize digZ n = D at *
  have hadd : bs D ++ (⟨#[120]⟩ : ByteArray) = bs (D ++ [120]) := bs_add D [120]
  have hz1 : (bs D).size = D.length := bs_size D
  have hz2 : (⟨#[120]⟩ : ByteArray).size = 1 := rfl
  replace CD := Lib.hid CD
  replace CN := Lib.hid CN
  replace CX := Lib.hid CX
  go_enter Tryd.func7, Tryd.ntmps7
  go_wp2_with fail
  refine AW.out.mono ?_; rintro e aw ⟨rfl, a⟩
  go_wp2_with fail
  refine (CD.out _).mono ?_; rintro e c1w ⟨rfl, c1⟩
  go_wp2_with fail
  refine (CN.out _).mono ?_; rintro e c2w ⟨rfl, c2⟩
  go_wp2_with fail
  refine (CD.out _).mono ?_; rintro e c3w ⟨rfl, c3⟩
  go_wp2_with fail
  refine (CX.out _).mono ?_; rintro e c4w ⟨rfl, c4⟩
  go_wp2
  go_ret
  exact ⟨rfl, below_on (below_on (below_on (below_on a c1) c2) c3) c4⟩

theorem tup_i {o : Option Int} : numT o = .tuple #[.int .i64 (o.getD 0), .bool o.isSome] := rfl

set_option maxHeartbeats 1600000 in
set_option maxRecDepth 1000000 in
theorem NameSays_ret (s key : ByteArray) (w : World) (hL : Ltr w) : Calls Tryd.prog 4 #[.string s, .string key] w (RetB (.bool true) w) := by
  have AW := Lib.hid (awake_any w hL)
  by_cases h1 : s.size > 300
  · go_enter Tryd.func4, Tryd.ntmps4
    go_wp2_with fail
    refine AW.out.mono ?_; rintro e aw ⟨rfl, a⟩
    go_wp2
    go_ret
    exact ⟨rfl, a⟩
  by_cases h2 : key.size > 50
  · go_enter Tryd.func4, Tryd.ntmps4
    go_wp2_with fail
    refine AW.out.mono ?_; rintro e aw ⟨rfl, a⟩
    go_wp2
    go_ret
    exact ⟨rfl, a⟩
  have C1 : ∀ w', _ := fun w' => num_any s w' (by omega)
  have C2 : ∀ w', _ := fun w' => rnum_any s w' (by omega)
  have C3 : ∀ w', _ := fun w' => field_any s key w' (by omega)
  have C4 : ∀ w', _ := fun w' => rfield_any s key w' (by omega) (by omega)
  have C5 : ∀ w', Ltr w' → _ := fun w' h => good_any s w' (by omega) h
  have C6 : ∀ w', Ltr w' → _ := fun w' h => rgood_any s w' (by omega) h
  have C7 : ∀ w', _ := fun w' => len_any s w' (by omega)
  have C8 : ∀ w', _ := fun w' => rlen_any s w' (by omega)
  have C9 : ∀ w', _ := fun w' => words_any s w' (by omega)
  have C10 : ∀ w', _ := fun w' => rwords_any s w' (by omega)
  have hwl : (wordsB s).length ≤ 1000000 := by
    unfold wordsB
    have := words_len s.data.toList
    rw [← size_data] at this
    simp; omega
  have CT : ∀ (A B : Option Addr) (c d : Nat) (w' : World), ReadsS w' A (wordsB s) → ReadsS w' B (wordsB s) → _ := fun A B c d w' h1 h2 => texts_same A B c d (wordsB s) w' hwl h1 h2
  clear hwl
  unfold numT at C1 C2
  unfold optT at C3 C4
  generalize numL s.data.toList = o1 at *
  generalize o1.getD 0 = v1 at *
  generalize o1.isSome = b1 at *
  generalize fieldL key.data.toList (wordsL s.data.toList) = o2 at *
  generalize bs (o2.getD []) = v2 at *
  generalize o2.isSome = b2 at *
  generalize goodB s = g at *
  generalize (rsAt s 0).length = n at *
  have hgg : (g == g) = true := by simp
  have hnn : ((n : Int) == n) = true := by simp
  have hvv : (v1 == v1) = true := by simp
  have hbb : (b1 == b1) = true := by simp
  have hv2 : (v2.toList == v2.toList) = true := by simp
  have hb2 : (b2 == b2) = true := by simp
  replace C1 := Lib.hid C1
  replace C2 := Lib.hid C2
  replace C3 := Lib.hid C3
  replace C4 := Lib.hid C4
  replace C5 := Lib.hid C5
  replace C6 := Lib.hid C6
  replace C7 := Lib.hid C7
  replace C8 := Lib.hid C8
  replace C9 := Lib.hid C9
  replace C10 := Lib.hid C10
  replace CT := Lib.hid CT
  replace hL := Lib.hid hL
  go_enter Tryd.func4, Tryd.ntmps4
  go_wp2_with fail
  refine AW.out.mono ?_; rintro e aw ⟨rfl, a⟩
  go_wp2_with fail
  refine (C1.out _).mono ?_; rintro e n1w ⟨rfl, n1⟩
  go_wp2_with fail
  refine (C2.out _).mono ?_; rintro e w' ⟨rfl, rfl⟩
  go_wp2_with fail
  refine (C3.out _).mono ?_; rintro e f1w ⟨rfl, f1⟩
  go_wp2_with fail
  refine (C4.out _).mono ?_; rintro e f2w ⟨rfl, f2⟩
  have B1 : Below w.heap.size w f2w := below_on (below_on (below_on a n1) f1) f2
  clear a n1 f1 f2
  go_wp2_with fail
  refine (C5.out _ (hL.out.below B1)).mono ?_; rintro e g1w ⟨rfl, g1⟩
  replace B1 := below_on B1 g1
  clear g1
  go_wp2_with fail
  refine (C6.out _ (hL.out.below B1)).mono ?_; rintro e g2w ⟨rfl, g2⟩
  replace B1 := below_on B1 g2
  clear g2
  go_wp2_with fail
  refine (C7.out _).mono ?_; rintro e l1w ⟨rfl, l1⟩
  go_wp2_with fail
  refine (C8.out _).mono ?_; rintro e l2w ⟨rfl, l2⟩
  replace B1 := below_on (below_on B1 l1) l2
  clear l1 l2
  go_wp2_with fail
  refine (C9.out _).mono ?_; rintro e ww ⟨A, c, rfl, hrd, wb⟩
  go_wp2_with fail
  refine (C10.out _).mono ?_; rintro e xw ⟨B, d, rfl, hrd2, xb⟩
  go_wp2_with fail
  refine (CT.out _ _ _ _ _ (hrd.below xb) hrd2).mono ?_; rintro e w' ⟨rfl, q, rfl⟩
  clear hrd hrd2
  go_wp2
  go_ret
  exact ⟨rfl, below_dN (below_on (below_on B1 wb) xb) q⟩
end Go.Proofs.YtkblddnnegkbfaaDoor
