/-
  THE WALK of WireKnown.
-/
import Derived.Test.YtekoeeneebolbabKnownTools
namespace Go.Proofs.Ytekoeeneebolbab
open Go.RowKit

theorem kbig : putN 18446744073709551615 = [255, 255, 255, 255, 255, 255, 255, 255, 255, 1] := by
  iterate 9 rw [putN_ge (by omega)]
  rw [putN_lt (by omega)]
theorem kp0 : putN 0 = [0] := by decide
theorem kp127 : putN 127 = [127] := by decide
theorem kp128 : putN 128 = [128, 1] := by decide
theorem kz0 : putN (zag 0) = [0] := by decide
theorem kzm1 : putN (zag (-1)) = [1] := by decide
theorem kz1 : putN (zag 1) = [2] := by decide
theorem kzm64 : putN (zag (-64)) = [127] := by decide
theorem kz64 : putN (zag 64) = [128, 1] := by decide
theorem kzm9223372036854775808 : putN (zag (-9223372036854775808)) = [255, 255, 255, 255, 255, 255, 255, 255, 255, 1] := by rw [show zag (-9223372036854775808) = 18446744073709551615 by decide]; exact kbig
theorem ksum : sumN [49, 50, 51, 52, 53, 54, 55, 56, 57] = 3421780262 := by decide +kernel

set_option maxRecDepth 100000 in
set_option maxHeartbeats 4000000 in
theorem wireKnown_walk (w : World) : Calls Try.prog 3 #[] w fun e w' => e = .returned (.bool true) ∧ Below w.heap.size w w' := by
  have HB0 : Hid (Below w.heap.size w w) := Below.refl _ _
  go_enter Try.func3, Try.ntmps3
  go_wp2_with fail
  refine (put_str 0 0 [0] 1 ⟨#[0]⟩ rfl (by omega) kp0 rfl rfl _).mono ?_
  rintro e w1 ⟨g1, rfl, cv1, hb1⟩
  have HB1 : Hid (Below w.heap.size w w1) := below_chain HB0.out hb1 (Nat.le_refl _)
  clear HB0 hb1
  go_wp2_with fail
  clear cv1
  refine (put_str 127 127 [127] 1 ⟨#[127]⟩ rfl (by omega) kp127 rfl rfl _).mono ?_
  rintro e w2 ⟨g2, rfl, cv2, hb2⟩
  have HB2 : Hid (Below w.heap.size w w2) := below_chain HB1.out hb2 (Nat.le_refl _)
  clear HB1 hb2
  go_wp2_with fail
  clear cv2
  refine (put_str 128 128 [128, 1] 2 ⟨#[128, 1]⟩ rfl (by omega) kp128 rfl rfl _).mono ?_
  rintro e w3 ⟨g3, rfl, cv3, hb3⟩
  have HB3 : Hid (Below w.heap.size w w3) := below_chain HB2.out hb3 (Nat.le_refl _)
  clear HB2 hb3
  go_wp2_with fail
  clear cv3
  refine (putInt_str 0 [0] 1 ⟨#[0]⟩ (by omega) (by omega) kz0 rfl rfl _).mono ?_
  rintro e w4 ⟨g4, rfl, cv4, hb4⟩
  have HB4 : Hid (Below w.heap.size w w4) := below_chain HB3.out hb4 (Nat.le_refl _)
  clear HB3 hb4
  go_wp2_with fail
  clear cv4
  refine (putInt_str (-1) [1] 1 ⟨#[1]⟩ (by omega) (by omega) kzm1 rfl rfl _).mono ?_
  rintro e w5 ⟨g5, rfl, cv5, hb5⟩
  have HB5 : Hid (Below w.heap.size w w5) := below_chain HB4.out hb5 (Nat.le_refl _)
  clear HB4 hb5
  go_wp2_with fail
  clear cv5
  refine (putInt_str 1 [2] 1 ⟨#[2]⟩ (by omega) (by omega) kz1 rfl rfl _).mono ?_
  rintro e w6 ⟨g6, rfl, cv6, hb6⟩
  have HB6 : Hid (Below w.heap.size w w6) := below_chain HB5.out hb6 (Nat.le_refl _)
  clear HB5 hb6
  go_wp2_with fail
  clear cv6
  refine (putInt_str (-64) [127] 1 ⟨#[127]⟩ (by omega) (by omega) kzm64 rfl rfl _).mono ?_
  rintro e w7 ⟨g7, rfl, cv7, hb7⟩
  have HB7 : Hid (Below w.heap.size w w7) := below_chain HB6.out hb7 (Nat.le_refl _)
  clear HB6 hb7
  go_wp2_with fail
  clear cv7
  refine (putInt_str 64 [128, 1] 2 ⟨#[128, 1]⟩ (by omega) (by omega) kz64 rfl rfl _).mono ?_
  rintro e w8 ⟨g8, rfl, cv8, hb8⟩
  have HB8 : Hid (Below w.heap.size w w8) := below_chain HB7.out hb8 (Nat.le_refl _)
  clear HB7 hb8
  go_wp2_with fail
  clear cv8
  refine (putInt_str (-9223372036854775808) [255, 255, 255, 255, 255, 255, 255, 255, 255, 1] 10 ⟨#[255, 255, 255, 255, 255, 255, 255, 255, 255, 1]⟩ (by omega) (by omega) kzm9223372036854775808 rfl rfl _).mono ?_
  rintro e w9 ⟨g9, rfl, cv9, hb9⟩
  have HB9 : Hid (Below w.heap.size w w9) := below_chain HB8.out hb9 (Nat.le_refl _)
  clear HB8 hb9
  go_wp2_with fail
  clear cv9
  refine (wrong_any ⟨#[128, 0]⟩ 0 11 _ (by decide) (by decide) (by decide) (by decide)).mono ?_
  rintro e w10 ⟨rfl, hb10⟩
  have HB10 : Hid (Below w.heap.size w w10) := below_chain HB9.out hb10 (Nat.le_refl _)
  clear HB9 hb10
  go_wp2_with fail
  refine (wrong_any ⟨#[128]⟩ 0 10 _ (by decide) (by decide) (by decide) (by decide)).mono ?_
  rintro e w11 ⟨rfl, hb11⟩
  have HB11 : Hid (Below w.heap.size w w11) := below_chain HB10.out hb11 (Nat.le_refl _)
  clear HB10 hb11
  go_wp2_with fail
  refine (wrong_any ⟨#[]⟩ 0 10 _ (by decide) (by decide) (by decide) (by decide)).mono ?_
  rintro e w12 ⟨rfl, hb12⟩
  have HB12 : Hid (Below w.heap.size w w12) := below_chain HB11.out hb12 (Nat.le_refl _)
  clear HB11 hb12
  go_wp2_with fail
  refine (wrong_any ⟨#[5]⟩ 1 10 _ (by decide) (by decide) (by decide) (by decide)).mono ?_
  rintro e w13 ⟨rfl, hb13⟩
  have HB13 : Hid (Below w.heap.size w w13) := below_chain HB12.out hb13 (Nat.le_refl _)
  clear HB12 hb13
  go_wp2_with fail
  refine (wrong_any ⟨#[5]⟩ 2 2 _ (by decide) (by decide) (by decide) (by decide)).mono ?_
  rintro e w14 ⟨rfl, hb14⟩
  have HB14 : Hid (Below w.heap.size w w14) := below_chain HB13.out hb14 (Nat.le_refl _)
  clear HB13 hb14
  go_wp2_with fail
  refine (wrong_any ⟨#[5]⟩ (-1) 2 _ (by decide) (by decide) (by decide) (by decide)).mono ?_
  rintro e w15 ⟨rfl, hb15⟩
  have HB15 : Hid (Below w.heap.size w w15) := below_chain HB14.out hb15 (Nat.le_refl _)
  clear HB14 hb15
  go_wp2_with fail
  refine (wrong_any ⟨#[255, 255, 255, 255, 255, 255, 255, 255, 255, 2]⟩ 0 11 _ (by decide) (by decide) (by decide) (by decide)).mono ?_
  rintro e w16 ⟨rfl, hb16⟩
  have HB16 : Hid (Below w.heap.size w w16) := below_chain HB15.out hb16 (Nat.le_refl _)
  clear HB15 hb16
  go_wp2_with fail
  refine (wrong_any ⟨#[255, 255, 255, 255, 255, 255, 255, 255, 255, 129]⟩ 0 11 _ (by decide) (by decide) (by decide) (by decide)).mono ?_
  rintro e w17 ⟨rfl, hb17⟩
  have HB17 : Hid (Below w.heap.size w w17) := below_chain HB16.out hb17 (Nat.le_refl _)
  clear HB16 hb17
  go_wp2_with fail
  refine (wrong_any ⟨#[128, 128, 128, 128, 128, 128, 128, 128, 128, 0]⟩ 0 11 _ (by decide) (by decide) (by decide) (by decide)).mono ?_
  rintro e w18 ⟨rfl, hb18⟩
  have HB18 : Hid (Below w.heap.size w w18) := below_chain HB17.out hb18 (Nat.le_refl _)
  clear HB17 hb18
  go_wp2_with fail
  refine (wrong_any ⟨#[255, 255, 255, 255, 255, 255, 255, 255, 255]⟩ 0 10 _ (by decide) (by decide) (by decide) (by decide)).mono ?_
  rintro e w19 ⟨rfl, hb19⟩
  have HB19 : Hid (Below w.heap.size w w19) := below_chain HB18.out hb19 (Nat.le_refl _)
  clear HB18 hb19
  have kc := fun (w : World) (C : Array Value) (n c : Nat) => Lib.run_convert_bytes_const (P := Try.prog) w 22 5 C n c Try.underlying22 Try.underlying5
  go_wp2_with fail
  refine (get_lit w19 _ _ [255, 255, 255, 255, 255, 255, 255, 255, 255, 1] 10 10 0 18446744073709551615 10 0 rfl (by decide) (by decide) rfl (by decide) (by decide) (by decide)).mono ?_
  rintro e w20 ⟨rfl, hb20⟩
  have HB20 : Hid (Below w.heap.size w w20) := below_chain HB19.out hb20 (Nat.le_refl _)
  clear HB19 hb20
  go_wp2_with fail
  refine (fixed_str 258 2 258 2 ⟨#[2, 1]⟩ rfl rfl (by omega) (by omega) (by omega) rfl _).mono ?_
  rintro e w21 ⟨g21, rfl, cv21, hb21⟩
  have HB21 : Hid (Below w.heap.size w w21) := below_chain HB20.out hb21 (Nat.le_refl _)
  clear HB20 hb21
  go_wp2_with fail
  clear cv21
  refine (fixed_str 258 1 258 1 ⟨#[2]⟩ rfl rfl (by omega) (by omega) (by omega) rfl _).mono ?_
  rintro e w22 ⟨g22, rfl, cv22, hb22⟩
  have HB22 : Hid (Below w.heap.size w w22) := below_chain HB21.out hb22 (Nat.le_refl _)
  clear HB21 hb22
  go_wp2_with fail
  clear cv22
  refine (fixed_none 1 9 _ (by omega)).mono ?_
  rintro e wx ⟨rfl, rfl⟩
  go_wp2_with fail
  refine (fixed_none 1 0 _ (by omega)).mono ?_
  rintro e wx ⟨rfl, rfl⟩
  go_wp2_with fail
  refine (fixed_none 1 (-1) _ (by omega)).mono ?_
  rintro e wx ⟨rfl, rfl⟩
  go_wp2_with fail
  refine (wide_lit w22 _ _ [2, 1] 2 2 0 2 258 2 0 rfl (by decide) (by decide) rfl (by decide) (by decide) (by decide)).mono ?_
  rintro e w23 ⟨rfl, hb23⟩
  have HB23 : Hid (Below w.heap.size w w23) := below_chain HB22.out hb23 (Nat.le_refl _)
  clear HB22 hb23
  go_wp2_with fail
  refine (wide_lit w23 _ _ [2] 1 1 0 2 0 0 10 rfl (by decide) (by decide) rfl (by decide) (by decide) (by decide)).mono ?_
  rintro e w24 ⟨rfl, hb24⟩
  have HB24 : Hid (Below w.heap.size w w24) := below_chain HB23.out hb24 (Nat.le_refl _)
  clear HB23 hb24
  go_wp2_with fail
  refine (wide_lit w24 _ _ [2] 1 1 0 0 0 0 2 rfl (by decide) (by decide) rfl (by decide) (by decide) (by decide)).mono ?_
  rintro e w25 ⟨rfl, hb25⟩
  have HB25 : Hid (Below w.heap.size w w25) := below_chain HB24.out hb25 (Nat.le_refl _)
  clear HB24 hb25
  go_wp2_with fail
  refine (wide_lit w25 _ _ [2] 1 1 1 1 0 0 10 rfl (by decide) (by decide) rfl (by decide) (by decide) (by decide)).mono ?_
  rintro e w26 ⟨rfl, hb26⟩
  have HB26 : Hid (Below w.heap.size w w26) := below_chain HB25.out hb26 (Nat.le_refl _)
  clear HB25 hb26
  go_wp2_with fail
  refine (wide_lit w26 _ _ [2] 1 1 2 1 0 0 2 rfl (by decide) (by decide) rfl (by decide) (by decide) (by decide)).mono ?_
  rintro e w27 ⟨rfl, hb27⟩
  have HB27 : Hid (Below w.heap.size w w27) := below_chain HB26.out hb27 (Nat.le_refl _)
  clear HB26 hb27
  go_wp2_with fail
  refine (wide_lit w27 _ _ [2] 1 1 0 9 0 0 2 rfl (by decide) (by decide) rfl (by decide) (by decide) (by decide)).mono ?_
  rintro e w28 ⟨rfl, hb28⟩
  have HB28 : Hid (Below w.heap.size w w28) := below_chain HB27.out hb28 (Nat.le_refl _)
  clear HB27 hb28
  go_wp2_with fail
  refine (sum_empty none 0 _).mono ?_
  rintro e wx ⟨rfl, rfl⟩
  go_wp2_with fail
  refine (sum_lit w28 _ _ [49, 50, 51, 52, 53, 54, 55, 56, 57] 9 9 3421780262 rfl (by decide) (by decide) rfl ksum).mono ?_
  rintro e w29 ⟨rfl, hb29⟩
  have HB29 : Hid (Below w.heap.size w w29) := below_chain HB28.out hb29 (Nat.le_refl _)
  clear HB28 hb29
  go_wp2_with fail
  refine (works_any _).mono ?_
  rintro e w30 ⟨rfl, hb30⟩
  have HB30 : Hid (Below w.heap.size w w30) := below_chain HB29.out hb30 (Nat.le_refl _)
  clear HB29 hb30
  go_wp2
  go_ret
  exact ⟨rfl, HB30.out⟩
end Go.Proofs.Ytekoeeneebolbab
