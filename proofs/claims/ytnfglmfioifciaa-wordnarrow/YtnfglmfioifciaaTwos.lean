/-
  CONTRACTS of the generic functions of word at each width: two, one, test.
-/
import Derived.Test.YtnfglmfioifciaaSmall
import Derived.Test.YtnfglmfioifciaaTwMath
namespace Go.Proofs.Ytnfglmfioifciaa
open Go.RowKit
set_option linter.unusedVariables false

theorem two8_add (a b : Int) (ha : -128 ≤ a) (ha2 : a ≤ 127) (hb : -128 ≤ b) (hb2 : b ≤ 127) (w : World) : Calls Try.prog 24 #[.int .u8 11, .int .u8 1, .int .i8 a, .int .i8 b] w fun e w' =>
    e = .returned (.tuple #[.int .i64 (twoB 8 11 (BitVec.ofInt 8 a) (BitVec.ofInt 8 b)).toInt, .int .i64 0]) ∧ w = w' := by
  go_enter Try.func24, Try.ntmps24
  go_wp2
  go_ret2
  refine ⟨ret2 ?_ rfl, rfl⟩
  exact tw8_add a b ha ha2 hb hb2
theorem two8_sub (a b : Int) (ha : -128 ≤ a) (ha2 : a ≤ 127) (hb : -128 ≤ b) (hb2 : b ≤ 127) (w : World) : Calls Try.prog 24 #[.int .u8 12, .int .u8 1, .int .i8 a, .int .i8 b] w fun e w' =>
    e = .returned (.tuple #[.int .i64 (twoB 8 12 (BitVec.ofInt 8 a) (BitVec.ofInt 8 b)).toInt, .int .i64 0]) ∧ w = w' := by
  go_enter Try.func24, Try.ntmps24
  go_wp2
  go_ret2
  refine ⟨ret2 ?_ rfl, rfl⟩
  exact tw8_sub a b ha ha2 hb hb2
theorem two8_mul (a b : Int) (ha : -128 ≤ a) (ha2 : a ≤ 127) (hb : -128 ≤ b) (hb2 : b ≤ 127) (w : World) : Calls Try.prog 24 #[.int .u8 13, .int .u8 1, .int .i8 a, .int .i8 b] w fun e w' =>
    e = .returned (.tuple #[.int .i64 (twoB 8 13 (BitVec.ofInt 8 a) (BitVec.ofInt 8 b)).toInt, .int .i64 0]) ∧ w = w' := by
  go_enter Try.func24, Try.ntmps24
  go_wp2
  go_ret2
  refine ⟨ret2 ?_ rfl, rfl⟩
  exact tw8_mul a b ha ha2 hb hb2
theorem two8_div0 (a : Int) (ha : -128 ≤ a) (ha2 : a ≤ 127) (w : World) : Calls Try.prog 24 #[.int .u8 14, .int .u8 1, .int .i8 a, .int .i8 0] w fun e w' =>
    e = .returned (.tuple #[.int .i64 (twoB 8 14 (BitVec.ofInt 8 a) (BitVec.ofInt 8 0)).toInt, .int .i64 1]) ∧ w = w' := by
  go_enter Try.func24, Try.ntmps24
  go_wp2
  go_ret2
  refine ⟨ret2 ?_ rfl, rfl⟩
  exact tw8_div0 a
theorem two8_div1 (a b : Int) (ha : -128 ≤ a) (ha2 : a ≤ 127) (hb : -128 ≤ b) (hb2 : b ≤ 127) (hz : ¬ b = 0) (w : World) : Calls Try.prog 24 #[.int .u8 14, .int .u8 1, .int .i8 a, .int .i8 b] w fun e w' =>
    e = .returned (.tuple #[.int .i64 (twoB 8 14 (BitVec.ofInt 8 a) (BitVec.ofInt 8 b)).toInt, .int .i64 0]) ∧ w = w' := by
  have hz1 : (b != 0) = true := by simp [hz]
  have hz2 : (b == 0) = false := by simp [hz]
  go_enter Try.func24, Try.ntmps24
  go_wp2
  go_ret2
  refine ⟨ret2 ?_ rfl, rfl⟩
  exact tw8_div1 a b ha ha2 hb hb2 hz
theorem two8_rem0 (a : Int) (ha : -128 ≤ a) (ha2 : a ≤ 127) (w : World) : Calls Try.prog 24 #[.int .u8 15, .int .u8 1, .int .i8 a, .int .i8 0] w fun e w' =>
    e = .returned (.tuple #[.int .i64 (twoB 8 15 (BitVec.ofInt 8 a) (BitVec.ofInt 8 0)).toInt, .int .i64 1]) ∧ w = w' := by
  go_enter Try.func24, Try.ntmps24
  go_wp2
  go_ret2
  refine ⟨ret2 ?_ rfl, rfl⟩
  exact tw8_rem0 a
theorem two8_rem1 (a b : Int) (ha : -128 ≤ a) (ha2 : a ≤ 127) (hb : -128 ≤ b) (hb2 : b ≤ 127) (hz : ¬ b = 0) (w : World) : Calls Try.prog 24 #[.int .u8 15, .int .u8 1, .int .i8 a, .int .i8 b] w fun e w' =>
    e = .returned (.tuple #[.int .i64 (twoB 8 15 (BitVec.ofInt 8 a) (BitVec.ofInt 8 b)).toInt, .int .i64 0]) ∧ w = w' := by
  have hz1 : (b != 0) = true := by simp [hz]
  have hz2 : (b == 0) = false := by simp [hz]
  go_enter Try.func24, Try.ntmps24
  go_wp2
  go_ret2
  refine ⟨ret2 ?_ rfl, rfl⟩
  exact tw8_rem1 a b ha ha2 hb hb2 hz
theorem two8_and (a b : Int) (ha : -128 ≤ a) (ha2 : a ≤ 127) (hb : -128 ≤ b) (hb2 : b ≤ 127) (w : World) : Calls Try.prog 24 #[.int .u8 16, .int .u8 1, .int .i8 a, .int .i8 b] w fun e w' =>
    e = .returned (.tuple #[.int .i64 (twoB 8 16 (BitVec.ofInt 8 a) (BitVec.ofInt 8 b)).toInt, .int .i64 0]) ∧ w = w' := by
  go_enter Try.func24, Try.ntmps24
  go_wp2
  go_ret2
  refine ⟨ret2 ?_ rfl, rfl⟩
  exact tw8_and a b ha ha2 hb hb2
theorem two8_or (a b : Int) (ha : -128 ≤ a) (ha2 : a ≤ 127) (hb : -128 ≤ b) (hb2 : b ≤ 127) (w : World) : Calls Try.prog 24 #[.int .u8 17, .int .u8 1, .int .i8 a, .int .i8 b] w fun e w' =>
    e = .returned (.tuple #[.int .i64 (twoB 8 17 (BitVec.ofInt 8 a) (BitVec.ofInt 8 b)).toInt, .int .i64 0]) ∧ w = w' := by
  go_enter Try.func24, Try.ntmps24
  go_wp2
  go_ret2
  refine ⟨ret2 ?_ rfl, rfl⟩
  exact tw8_or a b ha ha2 hb hb2
theorem two8_xor (a b : Int) (ha : -128 ≤ a) (ha2 : a ≤ 127) (hb : -128 ≤ b) (hb2 : b ≤ 127) (w : World) : Calls Try.prog 24 #[.int .u8 18, .int .u8 1, .int .i8 a, .int .i8 b] w fun e w' =>
    e = .returned (.tuple #[.int .i64 (twoB 8 18 (BitVec.ofInt 8 a) (BitVec.ofInt 8 b)).toInt, .int .i64 0]) ∧ w = w' := by
  go_enter Try.func24, Try.ntmps24
  go_wp2
  go_ret2
  refine ⟨ret2 ?_ rfl, rfl⟩
  exact tw8_xor a b ha ha2 hb hb2
theorem two8_shl (a b : Int) (ha : -128 ≤ a) (ha2 : a ≤ 127) (hb : -128 ≤ b) (hb2 : b ≤ 127) (w : World) : Calls Try.prog 24 #[.int .u8 19, .int .u8 1, .int .i8 a, .int .i8 b] w fun e w' =>
    e = .returned (.tuple #[.int .i64 (twoB 8 19 (BitVec.ofInt 8 a) (BitVec.ofInt 8 b)).toInt, .int .i64 0]) ∧ w = w' := by
  go_enter Try.func24, Try.ntmps24
  go_wp2_with fail
  refine (count8_any b hb hb2 _).mono ?_
  rintro e w1 ⟨rfl, rfl⟩
  have hc : 0 ≤ b % 8 := by omega
  go_wp2
  go_ret2
  refine ⟨ret2 ?_ rfl, rfl⟩
  exact tw8_shl a b ha ha2 hb hb2
theorem two8_shr (a b : Int) (ha : -128 ≤ a) (ha2 : a ≤ 127) (hb : -128 ≤ b) (hb2 : b ≤ 127) (w : World) : Calls Try.prog 24 #[.int .u8 20, .int .u8 1, .int .i8 a, .int .i8 b] w fun e w' =>
    e = .returned (.tuple #[.int .i64 (twoB 8 20 (BitVec.ofInt 8 a) (BitVec.ofInt 8 b)).toInt, .int .i64 0]) ∧ w = w' := by
  go_enter Try.func24, Try.ntmps24
  go_wp2_with fail
  refine (count8_any b hb hb2 _).mono ?_
  rintro e w1 ⟨rfl, rfl⟩
  have hc : 0 ≤ b % 8 := by omega
  go_wp2
  go_ret2
  refine ⟨ret2 ?_ rfl, rfl⟩
  exact tw8_shr a b ha ha2 hb hb2
theorem two8_other (op : Int) (hop : op < 11 ∨ 20 < op) (a b : Int) (ha : -128 ≤ a) (ha2 : a ≤ 127) (hb : -128 ≤ b) (hb2 : b ≤ 127) (w : World) : Calls Try.prog 24 #[.int .u8 op, .int .u8 1, .int .i8 a, .int .i8 b] w fun e w' =>
    e = .returned (.tuple #[.int .i64 (twoB 8 op (BitVec.ofInt 8 a) (BitVec.ofInt 8 b)).toInt, .int .i64 0]) ∧ w = w' := by
  rw [twoB_other _ _ _ _ hop]
  have e11 : (op == 11) = false := by simp; omega
  have e12 : (op == 12) = false := by simp; omega
  have e13 : (op == 13) = false := by simp; omega
  have e14 : (op == 14) = false := by simp; omega
  have e15 : (op == 15) = false := by simp; omega
  have e16 : (op == 16) = false := by simp; omega
  have e17 : (op == 17) = false := by simp; omega
  have e18 : (op == 18) = false := by simp; omega
  have e19 : (op == 19) = false := by simp; omega
  have e20 : (op == 20) = false := by simp; omega
  clear hop
  go_enter Try.func24, Try.ntmps24
  go_wp2
  go_ret2
  exact ⟨ret2 rfl rfl, rfl⟩
theorem one8_neg (a : Int) (ha : -128 ≤ a) (ha2 : a ≤ 127) (w : World) : Calls Try.prog 31 #[.int .u8 21, .int .i8 a] w fun e w' =>
    e = .returned (.int .i64 (oneB 8 21 (BitVec.ofInt 8 a)).toInt) ∧ w = w' := by
  go_enter Try.func31, Try.ntmps31
  go_wp2
  go_ret
  refine ⟨ret_int ?_, rfl⟩
  exact on8_neg a
theorem one8_not (a : Int) (ha : -128 ≤ a) (ha2 : a ≤ 127) (w : World) : Calls Try.prog 31 #[.int .u8 22, .int .i8 a] w fun e w' =>
    e = .returned (.int .i64 (oneB 8 22 (BitVec.ofInt 8 a)).toInt) ∧ w = w' := by
  go_enter Try.func31, Try.ntmps31
  go_wp2
  go_ret
  refine ⟨ret_int ?_, rfl⟩
  exact on8_not a
theorem one8_other (op : Int) (h1 : ¬ op = 21) (h2 : ¬ op = 22) (a : Int) (ha : -128 ≤ a) (ha2 : a ≤ 127) (w : World) : Calls Try.prog 31 #[.int .u8 op, .int .i8 a] w fun e w' =>
    e = .returned (.int .i64 (oneB 8 op (BitVec.ofInt 8 a)).toInt) ∧ w = w' := by
  rw [show oneB 8 op (BitVec.ofInt 8 a) = 0#8 by simp [oneB, h1, h2]]
  have e1 : (op == 21) = false := by simp [h1]
  have e2 : (op == 22) = false := by simp [h2]
  clear h1 h2
  go_enter Try.func31, Try.ntmps31
  go_wp2
  go_ret
  exact ⟨rfl, rfl⟩
theorem test8_eq (a b : Int) (ha : -128 ≤ a) (ha2 : a ≤ 127) (hb : -128 ≤ b) (hb2 : b ≤ 127) (w : World) : Calls Try.prog 34 #[.int .u8 23, .int .i8 a, .int .i8 b] w fun e w' =>
    e = .returned (.bool (testB 8 23 (BitVec.ofInt 8 a) (BitVec.ofInt 8 b))) ∧ w = w' := by
  go_enter Try.func34, Try.ntmps34
  go_wp2
  go_ret
  refine ⟨ret_bool ?_, rfl⟩
  unfold testB
  rw [bv8_id ⟨ha, ha2⟩, bv8_id ⟨hb, hb2⟩]
  rw [Bool.eq_iff_iff]; simp
theorem test8_ne (a b : Int) (ha : -128 ≤ a) (ha2 : a ≤ 127) (hb : -128 ≤ b) (hb2 : b ≤ 127) (w : World) : Calls Try.prog 34 #[.int .u8 24, .int .i8 a, .int .i8 b] w fun e w' =>
    e = .returned (.bool (testB 8 24 (BitVec.ofInt 8 a) (BitVec.ofInt 8 b))) ∧ w = w' := by
  go_enter Try.func34, Try.ntmps34
  go_wp2
  go_ret
  refine ⟨ret_bool ?_, rfl⟩
  unfold testB
  rw [bv8_id ⟨ha, ha2⟩, bv8_id ⟨hb, hb2⟩]
  rw [Bool.eq_iff_iff]; simp
theorem test8_lt (a b : Int) (ha : -128 ≤ a) (ha2 : a ≤ 127) (hb : -128 ≤ b) (hb2 : b ≤ 127) (w : World) : Calls Try.prog 34 #[.int .u8 25, .int .i8 a, .int .i8 b] w fun e w' =>
    e = .returned (.bool (testB 8 25 (BitVec.ofInt 8 a) (BitVec.ofInt 8 b))) ∧ w = w' := by
  go_enter Try.func34, Try.ntmps34
  go_wp2
  go_ret
  refine ⟨ret_bool ?_, rfl⟩
  unfold testB
  rw [bv8_id ⟨ha, ha2⟩, bv8_id ⟨hb, hb2⟩]
  rw [Bool.eq_iff_iff]; simp
theorem test8_le (a b : Int) (ha : -128 ≤ a) (ha2 : a ≤ 127) (hb : -128 ≤ b) (hb2 : b ≤ 127) (w : World) : Calls Try.prog 34 #[.int .u8 26, .int .i8 a, .int .i8 b] w fun e w' =>
    e = .returned (.bool (testB 8 26 (BitVec.ofInt 8 a) (BitVec.ofInt 8 b))) ∧ w = w' := by
  go_enter Try.func34, Try.ntmps34
  go_wp2
  go_ret
  refine ⟨ret_bool ?_, rfl⟩
  unfold testB
  rw [bv8_id ⟨ha, ha2⟩, bv8_id ⟨hb, hb2⟩]
  rw [Bool.eq_iff_iff]; simp
theorem test8_gt (a b : Int) (ha : -128 ≤ a) (ha2 : a ≤ 127) (hb : -128 ≤ b) (hb2 : b ≤ 127) (w : World) : Calls Try.prog 34 #[.int .u8 27, .int .i8 a, .int .i8 b] w fun e w' =>
    e = .returned (.bool (testB 8 27 (BitVec.ofInt 8 a) (BitVec.ofInt 8 b))) ∧ w = w' := by
  go_enter Try.func34, Try.ntmps34
  go_wp2
  go_ret
  refine ⟨ret_bool ?_, rfl⟩
  unfold testB
  rw [bv8_id ⟨ha, ha2⟩, bv8_id ⟨hb, hb2⟩]
  rw [Bool.eq_iff_iff]; simp
theorem test8_ge (a b : Int) (ha : -128 ≤ a) (ha2 : a ≤ 127) (hb : -128 ≤ b) (hb2 : b ≤ 127) (w : World) : Calls Try.prog 34 #[.int .u8 28, .int .i8 a, .int .i8 b] w fun e w' =>
    e = .returned (.bool (testB 8 28 (BitVec.ofInt 8 a) (BitVec.ofInt 8 b))) ∧ w = w' := by
  go_enter Try.func34, Try.ntmps34
  go_wp2
  go_ret
  refine ⟨ret_bool ?_, rfl⟩
  unfold testB
  rw [bv8_id ⟨ha, ha2⟩, bv8_id ⟨hb, hb2⟩]
  rw [Bool.eq_iff_iff]; simp
theorem test8_other (op : Int) (hop : op < 23 ∨ 28 < op) (a b : Int) (ha : -128 ≤ a) (ha2 : a ≤ 127) (hb : -128 ≤ b) (hb2 : b ≤ 127) (w : World) : Calls Try.prog 34 #[.int .u8 op, .int .i8 a, .int .i8 b] w fun e w' =>
    e = .returned (.bool (testB 8 op (BitVec.ofInt 8 a) (BitVec.ofInt 8 b))) ∧ w = w' := by
  have hr : testB 8 op (BitVec.ofInt 8 a) (BitVec.ofInt 8 b) = false := by
    unfold testB
    iterate 7 rw [if_neg (by omega)]
  rw [hr]
  clear hr
  have e23 : (op == 23) = false := by simp; omega
  have e24 : (op == 24) = false := by simp; omega
  have e25 : (op == 25) = false := by simp; omega
  have e26 : (op == 26) = false := by simp; omega
  have e27 : (op == 27) = false := by simp; omega
  have e28 : (op == 28) = false := by simp; omega
  clear hop
  go_enter Try.func34, Try.ntmps34
  go_wp2
  go_ret
  exact ⟨rfl, rfl⟩

theorem two32_add (a b : Int) (ha : -2147483648 ≤ a) (ha2 : a ≤ 2147483647) (hb : -2147483648 ≤ b) (hb2 : b ≤ 2147483647) (w : World) : Calls Try.prog 25 #[.int .u8 11, .int .u8 2, .int .i32 a, .int .i32 b] w fun e w' =>
    e = .returned (.tuple #[.int .i64 (twoB 32 11 (BitVec.ofInt 32 a) (BitVec.ofInt 32 b)).toInt, .int .i64 0]) ∧ w = w' := by
  go_enter Try.func25, Try.ntmps25
  go_wp2
  go_ret2
  refine ⟨ret2 ?_ rfl, rfl⟩
  exact tw32_add a b ha ha2 hb hb2
theorem two32_sub (a b : Int) (ha : -2147483648 ≤ a) (ha2 : a ≤ 2147483647) (hb : -2147483648 ≤ b) (hb2 : b ≤ 2147483647) (w : World) : Calls Try.prog 25 #[.int .u8 12, .int .u8 2, .int .i32 a, .int .i32 b] w fun e w' =>
    e = .returned (.tuple #[.int .i64 (twoB 32 12 (BitVec.ofInt 32 a) (BitVec.ofInt 32 b)).toInt, .int .i64 0]) ∧ w = w' := by
  go_enter Try.func25, Try.ntmps25
  go_wp2
  go_ret2
  refine ⟨ret2 ?_ rfl, rfl⟩
  exact tw32_sub a b ha ha2 hb hb2
theorem two32_mul (a b : Int) (ha : -2147483648 ≤ a) (ha2 : a ≤ 2147483647) (hb : -2147483648 ≤ b) (hb2 : b ≤ 2147483647) (w : World) : Calls Try.prog 25 #[.int .u8 13, .int .u8 2, .int .i32 a, .int .i32 b] w fun e w' =>
    e = .returned (.tuple #[.int .i64 (twoB 32 13 (BitVec.ofInt 32 a) (BitVec.ofInt 32 b)).toInt, .int .i64 0]) ∧ w = w' := by
  go_enter Try.func25, Try.ntmps25
  go_wp2
  go_ret2
  refine ⟨ret2 ?_ rfl, rfl⟩
  exact tw32_mul a b ha ha2 hb hb2
theorem two32_div0 (a : Int) (ha : -2147483648 ≤ a) (ha2 : a ≤ 2147483647) (w : World) : Calls Try.prog 25 #[.int .u8 14, .int .u8 2, .int .i32 a, .int .i32 0] w fun e w' =>
    e = .returned (.tuple #[.int .i64 (twoB 32 14 (BitVec.ofInt 32 a) (BitVec.ofInt 32 0)).toInt, .int .i64 1]) ∧ w = w' := by
  go_enter Try.func25, Try.ntmps25
  go_wp2
  go_ret2
  refine ⟨ret2 ?_ rfl, rfl⟩
  exact tw32_div0 a
theorem two32_div1 (a b : Int) (ha : -2147483648 ≤ a) (ha2 : a ≤ 2147483647) (hb : -2147483648 ≤ b) (hb2 : b ≤ 2147483647) (hz : ¬ b = 0) (w : World) : Calls Try.prog 25 #[.int .u8 14, .int .u8 2, .int .i32 a, .int .i32 b] w fun e w' =>
    e = .returned (.tuple #[.int .i64 (twoB 32 14 (BitVec.ofInt 32 a) (BitVec.ofInt 32 b)).toInt, .int .i64 0]) ∧ w = w' := by
  have hz1 : (b != 0) = true := by simp [hz]
  have hz2 : (b == 0) = false := by simp [hz]
  go_enter Try.func25, Try.ntmps25
  go_wp2
  go_ret2
  refine ⟨ret2 ?_ rfl, rfl⟩
  exact tw32_div1 a b ha ha2 hb hb2 hz
theorem two32_rem0 (a : Int) (ha : -2147483648 ≤ a) (ha2 : a ≤ 2147483647) (w : World) : Calls Try.prog 25 #[.int .u8 15, .int .u8 2, .int .i32 a, .int .i32 0] w fun e w' =>
    e = .returned (.tuple #[.int .i64 (twoB 32 15 (BitVec.ofInt 32 a) (BitVec.ofInt 32 0)).toInt, .int .i64 1]) ∧ w = w' := by
  go_enter Try.func25, Try.ntmps25
  go_wp2
  go_ret2
  refine ⟨ret2 ?_ rfl, rfl⟩
  exact tw32_rem0 a
theorem two32_rem1 (a b : Int) (ha : -2147483648 ≤ a) (ha2 : a ≤ 2147483647) (hb : -2147483648 ≤ b) (hb2 : b ≤ 2147483647) (hz : ¬ b = 0) (w : World) : Calls Try.prog 25 #[.int .u8 15, .int .u8 2, .int .i32 a, .int .i32 b] w fun e w' =>
    e = .returned (.tuple #[.int .i64 (twoB 32 15 (BitVec.ofInt 32 a) (BitVec.ofInt 32 b)).toInt, .int .i64 0]) ∧ w = w' := by
  have hz1 : (b != 0) = true := by simp [hz]
  have hz2 : (b == 0) = false := by simp [hz]
  go_enter Try.func25, Try.ntmps25
  go_wp2
  go_ret2
  refine ⟨ret2 ?_ rfl, rfl⟩
  exact tw32_rem1 a b ha ha2 hb hb2 hz
theorem two32_and (a b : Int) (ha : -2147483648 ≤ a) (ha2 : a ≤ 2147483647) (hb : -2147483648 ≤ b) (hb2 : b ≤ 2147483647) (w : World) : Calls Try.prog 25 #[.int .u8 16, .int .u8 2, .int .i32 a, .int .i32 b] w fun e w' =>
    e = .returned (.tuple #[.int .i64 (twoB 32 16 (BitVec.ofInt 32 a) (BitVec.ofInt 32 b)).toInt, .int .i64 0]) ∧ w = w' := by
  go_enter Try.func25, Try.ntmps25
  go_wp2
  go_ret2
  refine ⟨ret2 ?_ rfl, rfl⟩
  exact tw32_and a b ha ha2 hb hb2
theorem two32_or (a b : Int) (ha : -2147483648 ≤ a) (ha2 : a ≤ 2147483647) (hb : -2147483648 ≤ b) (hb2 : b ≤ 2147483647) (w : World) : Calls Try.prog 25 #[.int .u8 17, .int .u8 2, .int .i32 a, .int .i32 b] w fun e w' =>
    e = .returned (.tuple #[.int .i64 (twoB 32 17 (BitVec.ofInt 32 a) (BitVec.ofInt 32 b)).toInt, .int .i64 0]) ∧ w = w' := by
  go_enter Try.func25, Try.ntmps25
  go_wp2
  go_ret2
  refine ⟨ret2 ?_ rfl, rfl⟩
  exact tw32_or a b ha ha2 hb hb2
theorem two32_xor (a b : Int) (ha : -2147483648 ≤ a) (ha2 : a ≤ 2147483647) (hb : -2147483648 ≤ b) (hb2 : b ≤ 2147483647) (w : World) : Calls Try.prog 25 #[.int .u8 18, .int .u8 2, .int .i32 a, .int .i32 b] w fun e w' =>
    e = .returned (.tuple #[.int .i64 (twoB 32 18 (BitVec.ofInt 32 a) (BitVec.ofInt 32 b)).toInt, .int .i64 0]) ∧ w = w' := by
  go_enter Try.func25, Try.ntmps25
  go_wp2
  go_ret2
  refine ⟨ret2 ?_ rfl, rfl⟩
  exact tw32_xor a b ha ha2 hb hb2
theorem two32_shl (a b : Int) (ha : -2147483648 ≤ a) (ha2 : a ≤ 2147483647) (hb : -2147483648 ≤ b) (hb2 : b ≤ 2147483647) (w : World) : Calls Try.prog 25 #[.int .u8 19, .int .u8 2, .int .i32 a, .int .i32 b] w fun e w' =>
    e = .returned (.tuple #[.int .i64 (twoB 32 19 (BitVec.ofInt 32 a) (BitVec.ofInt 32 b)).toInt, .int .i64 0]) ∧ w = w' := by
  go_enter Try.func25, Try.ntmps25
  go_wp2_with fail
  refine (count32_any b hb hb2 _).mono ?_
  rintro e w1 ⟨rfl, rfl⟩
  have hc : 0 ≤ b % 32 := by omega
  go_wp2
  go_ret2
  refine ⟨ret2 ?_ rfl, rfl⟩
  exact tw32_shl a b ha ha2 hb hb2
theorem two32_shr (a b : Int) (ha : -2147483648 ≤ a) (ha2 : a ≤ 2147483647) (hb : -2147483648 ≤ b) (hb2 : b ≤ 2147483647) (w : World) : Calls Try.prog 25 #[.int .u8 20, .int .u8 2, .int .i32 a, .int .i32 b] w fun e w' =>
    e = .returned (.tuple #[.int .i64 (twoB 32 20 (BitVec.ofInt 32 a) (BitVec.ofInt 32 b)).toInt, .int .i64 0]) ∧ w = w' := by
  go_enter Try.func25, Try.ntmps25
  go_wp2_with fail
  refine (count32_any b hb hb2 _).mono ?_
  rintro e w1 ⟨rfl, rfl⟩
  have hc : 0 ≤ b % 32 := by omega
  go_wp2
  go_ret2
  refine ⟨ret2 ?_ rfl, rfl⟩
  exact tw32_shr a b ha ha2 hb hb2
theorem two32_other (op : Int) (hop : op < 11 ∨ 20 < op) (a b : Int) (ha : -2147483648 ≤ a) (ha2 : a ≤ 2147483647) (hb : -2147483648 ≤ b) (hb2 : b ≤ 2147483647) (w : World) : Calls Try.prog 25 #[.int .u8 op, .int .u8 2, .int .i32 a, .int .i32 b] w fun e w' =>
    e = .returned (.tuple #[.int .i64 (twoB 32 op (BitVec.ofInt 32 a) (BitVec.ofInt 32 b)).toInt, .int .i64 0]) ∧ w = w' := by
  rw [twoB_other _ _ _ _ hop]
  have e11 : (op == 11) = false := by simp; omega
  have e12 : (op == 12) = false := by simp; omega
  have e13 : (op == 13) = false := by simp; omega
  have e14 : (op == 14) = false := by simp; omega
  have e15 : (op == 15) = false := by simp; omega
  have e16 : (op == 16) = false := by simp; omega
  have e17 : (op == 17) = false := by simp; omega
  have e18 : (op == 18) = false := by simp; omega
  have e19 : (op == 19) = false := by simp; omega
  have e20 : (op == 20) = false := by simp; omega
  clear hop
  go_enter Try.func25, Try.ntmps25
  go_wp2
  go_ret2
  exact ⟨ret2 rfl rfl, rfl⟩
theorem one32_neg (a : Int) (ha : -2147483648 ≤ a) (ha2 : a ≤ 2147483647) (w : World) : Calls Try.prog 32 #[.int .u8 21, .int .i32 a] w fun e w' =>
    e = .returned (.int .i64 (oneB 32 21 (BitVec.ofInt 32 a)).toInt) ∧ w = w' := by
  go_enter Try.func32, Try.ntmps32
  go_wp2
  go_ret
  refine ⟨ret_int ?_, rfl⟩
  exact on32_neg a
theorem one32_not (a : Int) (ha : -2147483648 ≤ a) (ha2 : a ≤ 2147483647) (w : World) : Calls Try.prog 32 #[.int .u8 22, .int .i32 a] w fun e w' =>
    e = .returned (.int .i64 (oneB 32 22 (BitVec.ofInt 32 a)).toInt) ∧ w = w' := by
  go_enter Try.func32, Try.ntmps32
  go_wp2
  go_ret
  refine ⟨ret_int ?_, rfl⟩
  exact on32_not a
theorem one32_other (op : Int) (h1 : ¬ op = 21) (h2 : ¬ op = 22) (a : Int) (ha : -2147483648 ≤ a) (ha2 : a ≤ 2147483647) (w : World) : Calls Try.prog 32 #[.int .u8 op, .int .i32 a] w fun e w' =>
    e = .returned (.int .i64 (oneB 32 op (BitVec.ofInt 32 a)).toInt) ∧ w = w' := by
  rw [show oneB 32 op (BitVec.ofInt 32 a) = 0#32 by simp [oneB, h1, h2]]
  have e1 : (op == 21) = false := by simp [h1]
  have e2 : (op == 22) = false := by simp [h2]
  clear h1 h2
  go_enter Try.func32, Try.ntmps32
  go_wp2
  go_ret
  exact ⟨rfl, rfl⟩
theorem test32_eq (a b : Int) (ha : -2147483648 ≤ a) (ha2 : a ≤ 2147483647) (hb : -2147483648 ≤ b) (hb2 : b ≤ 2147483647) (w : World) : Calls Try.prog 35 #[.int .u8 23, .int .i32 a, .int .i32 b] w fun e w' =>
    e = .returned (.bool (testB 32 23 (BitVec.ofInt 32 a) (BitVec.ofInt 32 b))) ∧ w = w' := by
  go_enter Try.func35, Try.ntmps35
  go_wp2
  go_ret
  refine ⟨ret_bool ?_, rfl⟩
  unfold testB
  rw [bv32_id ⟨ha, ha2⟩, bv32_id ⟨hb, hb2⟩]
  rw [Bool.eq_iff_iff]; simp
theorem test32_ne (a b : Int) (ha : -2147483648 ≤ a) (ha2 : a ≤ 2147483647) (hb : -2147483648 ≤ b) (hb2 : b ≤ 2147483647) (w : World) : Calls Try.prog 35 #[.int .u8 24, .int .i32 a, .int .i32 b] w fun e w' =>
    e = .returned (.bool (testB 32 24 (BitVec.ofInt 32 a) (BitVec.ofInt 32 b))) ∧ w = w' := by
  go_enter Try.func35, Try.ntmps35
  go_wp2
  go_ret
  refine ⟨ret_bool ?_, rfl⟩
  unfold testB
  rw [bv32_id ⟨ha, ha2⟩, bv32_id ⟨hb, hb2⟩]
  rw [Bool.eq_iff_iff]; simp
theorem test32_lt (a b : Int) (ha : -2147483648 ≤ a) (ha2 : a ≤ 2147483647) (hb : -2147483648 ≤ b) (hb2 : b ≤ 2147483647) (w : World) : Calls Try.prog 35 #[.int .u8 25, .int .i32 a, .int .i32 b] w fun e w' =>
    e = .returned (.bool (testB 32 25 (BitVec.ofInt 32 a) (BitVec.ofInt 32 b))) ∧ w = w' := by
  go_enter Try.func35, Try.ntmps35
  go_wp2
  go_ret
  refine ⟨ret_bool ?_, rfl⟩
  unfold testB
  rw [bv32_id ⟨ha, ha2⟩, bv32_id ⟨hb, hb2⟩]
  rw [Bool.eq_iff_iff]; simp
theorem test32_le (a b : Int) (ha : -2147483648 ≤ a) (ha2 : a ≤ 2147483647) (hb : -2147483648 ≤ b) (hb2 : b ≤ 2147483647) (w : World) : Calls Try.prog 35 #[.int .u8 26, .int .i32 a, .int .i32 b] w fun e w' =>
    e = .returned (.bool (testB 32 26 (BitVec.ofInt 32 a) (BitVec.ofInt 32 b))) ∧ w = w' := by
  go_enter Try.func35, Try.ntmps35
  go_wp2
  go_ret
  refine ⟨ret_bool ?_, rfl⟩
  unfold testB
  rw [bv32_id ⟨ha, ha2⟩, bv32_id ⟨hb, hb2⟩]
  rw [Bool.eq_iff_iff]; simp
theorem test32_gt (a b : Int) (ha : -2147483648 ≤ a) (ha2 : a ≤ 2147483647) (hb : -2147483648 ≤ b) (hb2 : b ≤ 2147483647) (w : World) : Calls Try.prog 35 #[.int .u8 27, .int .i32 a, .int .i32 b] w fun e w' =>
    e = .returned (.bool (testB 32 27 (BitVec.ofInt 32 a) (BitVec.ofInt 32 b))) ∧ w = w' := by
  go_enter Try.func35, Try.ntmps35
  go_wp2
  go_ret
  refine ⟨ret_bool ?_, rfl⟩
  unfold testB
  rw [bv32_id ⟨ha, ha2⟩, bv32_id ⟨hb, hb2⟩]
  rw [Bool.eq_iff_iff]; simp
theorem test32_ge (a b : Int) (ha : -2147483648 ≤ a) (ha2 : a ≤ 2147483647) (hb : -2147483648 ≤ b) (hb2 : b ≤ 2147483647) (w : World) : Calls Try.prog 35 #[.int .u8 28, .int .i32 a, .int .i32 b] w fun e w' =>
    e = .returned (.bool (testB 32 28 (BitVec.ofInt 32 a) (BitVec.ofInt 32 b))) ∧ w = w' := by
  go_enter Try.func35, Try.ntmps35
  go_wp2
  go_ret
  refine ⟨ret_bool ?_, rfl⟩
  unfold testB
  rw [bv32_id ⟨ha, ha2⟩, bv32_id ⟨hb, hb2⟩]
  rw [Bool.eq_iff_iff]; simp
theorem test32_other (op : Int) (hop : op < 23 ∨ 28 < op) (a b : Int) (ha : -2147483648 ≤ a) (ha2 : a ≤ 2147483647) (hb : -2147483648 ≤ b) (hb2 : b ≤ 2147483647) (w : World) : Calls Try.prog 35 #[.int .u8 op, .int .i32 a, .int .i32 b] w fun e w' =>
    e = .returned (.bool (testB 32 op (BitVec.ofInt 32 a) (BitVec.ofInt 32 b))) ∧ w = w' := by
  have hr : testB 32 op (BitVec.ofInt 32 a) (BitVec.ofInt 32 b) = false := by
    unfold testB
    iterate 7 rw [if_neg (by omega)]
  rw [hr]
  clear hr
  have e23 : (op == 23) = false := by simp; omega
  have e24 : (op == 24) = false := by simp; omega
  have e25 : (op == 25) = false := by simp; omega
  have e26 : (op == 26) = false := by simp; omega
  have e27 : (op == 27) = false := by simp; omega
  have e28 : (op == 28) = false := by simp; omega
  clear hop
  go_enter Try.func35, Try.ntmps35
  go_wp2
  go_ret
  exact ⟨rfl, rfl⟩

theorem two64_add (a b : Int) (ha : -9223372036854775808 ≤ a) (ha2 : a ≤ 9223372036854775807) (hb : -9223372036854775808 ≤ b) (hb2 : b ≤ 9223372036854775807) (w : World) : Calls Try.prog 26 #[.int .u8 11, .int .u8 3, .int .i64 a, .int .i64 b] w fun e w' =>
    e = .returned (.tuple #[.int .i64 (twoB 64 11 (BitVec.ofInt 64 a) (BitVec.ofInt 64 b)).toInt, .int .i64 0]) ∧ w = w' := by
  go_enter Try.func26, Try.ntmps26
  go_wp2
  go_ret2
  refine ⟨ret2 ?_ rfl, rfl⟩
  exact tw64_add a b ha ha2 hb hb2
theorem two64_sub (a b : Int) (ha : -9223372036854775808 ≤ a) (ha2 : a ≤ 9223372036854775807) (hb : -9223372036854775808 ≤ b) (hb2 : b ≤ 9223372036854775807) (w : World) : Calls Try.prog 26 #[.int .u8 12, .int .u8 3, .int .i64 a, .int .i64 b] w fun e w' =>
    e = .returned (.tuple #[.int .i64 (twoB 64 12 (BitVec.ofInt 64 a) (BitVec.ofInt 64 b)).toInt, .int .i64 0]) ∧ w = w' := by
  go_enter Try.func26, Try.ntmps26
  go_wp2
  go_ret2
  refine ⟨ret2 ?_ rfl, rfl⟩
  exact tw64_sub a b ha ha2 hb hb2
theorem two64_mul (a b : Int) (ha : -9223372036854775808 ≤ a) (ha2 : a ≤ 9223372036854775807) (hb : -9223372036854775808 ≤ b) (hb2 : b ≤ 9223372036854775807) (w : World) : Calls Try.prog 26 #[.int .u8 13, .int .u8 3, .int .i64 a, .int .i64 b] w fun e w' =>
    e = .returned (.tuple #[.int .i64 (twoB 64 13 (BitVec.ofInt 64 a) (BitVec.ofInt 64 b)).toInt, .int .i64 0]) ∧ w = w' := by
  go_enter Try.func26, Try.ntmps26
  go_wp2
  go_ret2
  refine ⟨ret2 ?_ rfl, rfl⟩
  exact tw64_mul a b ha ha2 hb hb2
theorem two64_div0 (a : Int) (ha : -9223372036854775808 ≤ a) (ha2 : a ≤ 9223372036854775807) (w : World) : Calls Try.prog 26 #[.int .u8 14, .int .u8 3, .int .i64 a, .int .i64 0] w fun e w' =>
    e = .returned (.tuple #[.int .i64 (twoB 64 14 (BitVec.ofInt 64 a) (BitVec.ofInt 64 0)).toInt, .int .i64 1]) ∧ w = w' := by
  go_enter Try.func26, Try.ntmps26
  go_wp2
  go_ret2
  refine ⟨ret2 ?_ rfl, rfl⟩
  exact tw64_div0 a
theorem two64_div1 (a b : Int) (ha : -9223372036854775808 ≤ a) (ha2 : a ≤ 9223372036854775807) (hb : -9223372036854775808 ≤ b) (hb2 : b ≤ 9223372036854775807) (hz : ¬ b = 0) (w : World) : Calls Try.prog 26 #[.int .u8 14, .int .u8 3, .int .i64 a, .int .i64 b] w fun e w' =>
    e = .returned (.tuple #[.int .i64 (twoB 64 14 (BitVec.ofInt 64 a) (BitVec.ofInt 64 b)).toInt, .int .i64 0]) ∧ w = w' := by
  have hz1 : (b != 0) = true := by simp [hz]
  have hz2 : (b == 0) = false := by simp [hz]
  go_enter Try.func26, Try.ntmps26
  go_wp2
  go_ret2
  refine ⟨ret2 ?_ rfl, rfl⟩
  exact tw64_div1 a b ha ha2 hb hb2 hz
theorem two64_rem0 (a : Int) (ha : -9223372036854775808 ≤ a) (ha2 : a ≤ 9223372036854775807) (w : World) : Calls Try.prog 26 #[.int .u8 15, .int .u8 3, .int .i64 a, .int .i64 0] w fun e w' =>
    e = .returned (.tuple #[.int .i64 (twoB 64 15 (BitVec.ofInt 64 a) (BitVec.ofInt 64 0)).toInt, .int .i64 1]) ∧ w = w' := by
  go_enter Try.func26, Try.ntmps26
  go_wp2
  go_ret2
  refine ⟨ret2 ?_ rfl, rfl⟩
  exact tw64_rem0 a
theorem two64_rem1 (a b : Int) (ha : -9223372036854775808 ≤ a) (ha2 : a ≤ 9223372036854775807) (hb : -9223372036854775808 ≤ b) (hb2 : b ≤ 9223372036854775807) (hz : ¬ b = 0) (w : World) : Calls Try.prog 26 #[.int .u8 15, .int .u8 3, .int .i64 a, .int .i64 b] w fun e w' =>
    e = .returned (.tuple #[.int .i64 (twoB 64 15 (BitVec.ofInt 64 a) (BitVec.ofInt 64 b)).toInt, .int .i64 0]) ∧ w = w' := by
  have hz1 : (b != 0) = true := by simp [hz]
  have hz2 : (b == 0) = false := by simp [hz]
  go_enter Try.func26, Try.ntmps26
  go_wp2
  go_ret2
  refine ⟨ret2 ?_ rfl, rfl⟩
  exact tw64_rem1 a b ha ha2 hb hb2 hz
theorem two64_and (a b : Int) (ha : -9223372036854775808 ≤ a) (ha2 : a ≤ 9223372036854775807) (hb : -9223372036854775808 ≤ b) (hb2 : b ≤ 9223372036854775807) (w : World) : Calls Try.prog 26 #[.int .u8 16, .int .u8 3, .int .i64 a, .int .i64 b] w fun e w' =>
    e = .returned (.tuple #[.int .i64 (twoB 64 16 (BitVec.ofInt 64 a) (BitVec.ofInt 64 b)).toInt, .int .i64 0]) ∧ w = w' := by
  go_enter Try.func26, Try.ntmps26
  go_wp2
  go_ret2
  refine ⟨ret2 ?_ rfl, rfl⟩
  exact tw64_and a b ha ha2 hb hb2
theorem two64_or (a b : Int) (ha : -9223372036854775808 ≤ a) (ha2 : a ≤ 9223372036854775807) (hb : -9223372036854775808 ≤ b) (hb2 : b ≤ 9223372036854775807) (w : World) : Calls Try.prog 26 #[.int .u8 17, .int .u8 3, .int .i64 a, .int .i64 b] w fun e w' =>
    e = .returned (.tuple #[.int .i64 (twoB 64 17 (BitVec.ofInt 64 a) (BitVec.ofInt 64 b)).toInt, .int .i64 0]) ∧ w = w' := by
  go_enter Try.func26, Try.ntmps26
  go_wp2
  go_ret2
  refine ⟨ret2 ?_ rfl, rfl⟩
  exact tw64_or a b ha ha2 hb hb2
theorem two64_xor (a b : Int) (ha : -9223372036854775808 ≤ a) (ha2 : a ≤ 9223372036854775807) (hb : -9223372036854775808 ≤ b) (hb2 : b ≤ 9223372036854775807) (w : World) : Calls Try.prog 26 #[.int .u8 18, .int .u8 3, .int .i64 a, .int .i64 b] w fun e w' =>
    e = .returned (.tuple #[.int .i64 (twoB 64 18 (BitVec.ofInt 64 a) (BitVec.ofInt 64 b)).toInt, .int .i64 0]) ∧ w = w' := by
  go_enter Try.func26, Try.ntmps26
  go_wp2
  go_ret2
  refine ⟨ret2 ?_ rfl, rfl⟩
  exact tw64_xor a b ha ha2 hb hb2
theorem two64_shl (a b : Int) (ha : -9223372036854775808 ≤ a) (ha2 : a ≤ 9223372036854775807) (hb : -9223372036854775808 ≤ b) (hb2 : b ≤ 9223372036854775807) (w : World) : Calls Try.prog 26 #[.int .u8 19, .int .u8 3, .int .i64 a, .int .i64 b] w fun e w' =>
    e = .returned (.tuple #[.int .i64 (twoB 64 19 (BitVec.ofInt 64 a) (BitVec.ofInt 64 b)).toInt, .int .i64 0]) ∧ w = w' := by
  go_enter Try.func26, Try.ntmps26
  go_wp2_with fail
  refine (count64_any b hb hb2 _).mono ?_
  rintro e w1 ⟨rfl, rfl⟩
  have hc : 0 ≤ b % 64 := by omega
  go_wp2
  go_ret2
  refine ⟨ret2 ?_ rfl, rfl⟩
  exact tw64_shl a b ha ha2 hb hb2
theorem two64_shr (a b : Int) (ha : -9223372036854775808 ≤ a) (ha2 : a ≤ 9223372036854775807) (hb : -9223372036854775808 ≤ b) (hb2 : b ≤ 9223372036854775807) (w : World) : Calls Try.prog 26 #[.int .u8 20, .int .u8 3, .int .i64 a, .int .i64 b] w fun e w' =>
    e = .returned (.tuple #[.int .i64 (twoB 64 20 (BitVec.ofInt 64 a) (BitVec.ofInt 64 b)).toInt, .int .i64 0]) ∧ w = w' := by
  go_enter Try.func26, Try.ntmps26
  go_wp2_with fail
  refine (count64_any b hb hb2 _).mono ?_
  rintro e w1 ⟨rfl, rfl⟩
  have hc : 0 ≤ b % 64 := by omega
  go_wp2
  go_ret2
  refine ⟨ret2 ?_ rfl, rfl⟩
  exact tw64_shr a b ha ha2 hb hb2
theorem two64_other (op : Int) (hop : op < 11 ∨ 20 < op) (a b : Int) (ha : -9223372036854775808 ≤ a) (ha2 : a ≤ 9223372036854775807) (hb : -9223372036854775808 ≤ b) (hb2 : b ≤ 9223372036854775807) (w : World) : Calls Try.prog 26 #[.int .u8 op, .int .u8 3, .int .i64 a, .int .i64 b] w fun e w' =>
    e = .returned (.tuple #[.int .i64 (twoB 64 op (BitVec.ofInt 64 a) (BitVec.ofInt 64 b)).toInt, .int .i64 0]) ∧ w = w' := by
  rw [twoB_other _ _ _ _ hop]
  have e11 : (op == 11) = false := by simp; omega
  have e12 : (op == 12) = false := by simp; omega
  have e13 : (op == 13) = false := by simp; omega
  have e14 : (op == 14) = false := by simp; omega
  have e15 : (op == 15) = false := by simp; omega
  have e16 : (op == 16) = false := by simp; omega
  have e17 : (op == 17) = false := by simp; omega
  have e18 : (op == 18) = false := by simp; omega
  have e19 : (op == 19) = false := by simp; omega
  have e20 : (op == 20) = false := by simp; omega
  clear hop
  go_enter Try.func26, Try.ntmps26
  go_wp2
  go_ret2
  exact ⟨ret2 rfl rfl, rfl⟩
theorem one64_neg (a : Int) (ha : -9223372036854775808 ≤ a) (ha2 : a ≤ 9223372036854775807) (w : World) : Calls Try.prog 33 #[.int .u8 21, .int .i64 a] w fun e w' =>
    e = .returned (.int .i64 (oneB 64 21 (BitVec.ofInt 64 a)).toInt) ∧ w = w' := by
  go_enter Try.func33, Try.ntmps33
  go_wp2
  go_ret
  refine ⟨ret_int ?_, rfl⟩
  exact on64_neg a
theorem one64_not (a : Int) (ha : -9223372036854775808 ≤ a) (ha2 : a ≤ 9223372036854775807) (w : World) : Calls Try.prog 33 #[.int .u8 22, .int .i64 a] w fun e w' =>
    e = .returned (.int .i64 (oneB 64 22 (BitVec.ofInt 64 a)).toInt) ∧ w = w' := by
  go_enter Try.func33, Try.ntmps33
  go_wp2
  go_ret
  refine ⟨ret_int ?_, rfl⟩
  exact on64_not a
theorem one64_other (op : Int) (h1 : ¬ op = 21) (h2 : ¬ op = 22) (a : Int) (ha : -9223372036854775808 ≤ a) (ha2 : a ≤ 9223372036854775807) (w : World) : Calls Try.prog 33 #[.int .u8 op, .int .i64 a] w fun e w' =>
    e = .returned (.int .i64 (oneB 64 op (BitVec.ofInt 64 a)).toInt) ∧ w = w' := by
  rw [show oneB 64 op (BitVec.ofInt 64 a) = 0#64 by simp [oneB, h1, h2]]
  have e1 : (op == 21) = false := by simp [h1]
  have e2 : (op == 22) = false := by simp [h2]
  clear h1 h2
  go_enter Try.func33, Try.ntmps33
  go_wp2
  go_ret
  exact ⟨rfl, rfl⟩
theorem test64_eq (a b : Int) (ha : -9223372036854775808 ≤ a) (ha2 : a ≤ 9223372036854775807) (hb : -9223372036854775808 ≤ b) (hb2 : b ≤ 9223372036854775807) (w : World) : Calls Try.prog 36 #[.int .u8 23, .int .i64 a, .int .i64 b] w fun e w' =>
    e = .returned (.bool (testB 64 23 (BitVec.ofInt 64 a) (BitVec.ofInt 64 b))) ∧ w = w' := by
  go_enter Try.func36, Try.ntmps36
  go_wp2
  go_ret
  refine ⟨ret_bool ?_, rfl⟩
  unfold testB
  rw [bv64_id ⟨ha, ha2⟩, bv64_id ⟨hb, hb2⟩]
  rw [Bool.eq_iff_iff]; simp
theorem test64_ne (a b : Int) (ha : -9223372036854775808 ≤ a) (ha2 : a ≤ 9223372036854775807) (hb : -9223372036854775808 ≤ b) (hb2 : b ≤ 9223372036854775807) (w : World) : Calls Try.prog 36 #[.int .u8 24, .int .i64 a, .int .i64 b] w fun e w' =>
    e = .returned (.bool (testB 64 24 (BitVec.ofInt 64 a) (BitVec.ofInt 64 b))) ∧ w = w' := by
  go_enter Try.func36, Try.ntmps36
  go_wp2
  go_ret
  refine ⟨ret_bool ?_, rfl⟩
  unfold testB
  rw [bv64_id ⟨ha, ha2⟩, bv64_id ⟨hb, hb2⟩]
  rw [Bool.eq_iff_iff]; simp
theorem test64_lt (a b : Int) (ha : -9223372036854775808 ≤ a) (ha2 : a ≤ 9223372036854775807) (hb : -9223372036854775808 ≤ b) (hb2 : b ≤ 9223372036854775807) (w : World) : Calls Try.prog 36 #[.int .u8 25, .int .i64 a, .int .i64 b] w fun e w' =>
    e = .returned (.bool (testB 64 25 (BitVec.ofInt 64 a) (BitVec.ofInt 64 b))) ∧ w = w' := by
  go_enter Try.func36, Try.ntmps36
  go_wp2
  go_ret
  refine ⟨ret_bool ?_, rfl⟩
  unfold testB
  rw [bv64_id ⟨ha, ha2⟩, bv64_id ⟨hb, hb2⟩]
  rw [Bool.eq_iff_iff]; simp
theorem test64_le (a b : Int) (ha : -9223372036854775808 ≤ a) (ha2 : a ≤ 9223372036854775807) (hb : -9223372036854775808 ≤ b) (hb2 : b ≤ 9223372036854775807) (w : World) : Calls Try.prog 36 #[.int .u8 26, .int .i64 a, .int .i64 b] w fun e w' =>
    e = .returned (.bool (testB 64 26 (BitVec.ofInt 64 a) (BitVec.ofInt 64 b))) ∧ w = w' := by
  go_enter Try.func36, Try.ntmps36
  go_wp2
  go_ret
  refine ⟨ret_bool ?_, rfl⟩
  unfold testB
  rw [bv64_id ⟨ha, ha2⟩, bv64_id ⟨hb, hb2⟩]
  rw [Bool.eq_iff_iff]; simp
theorem test64_gt (a b : Int) (ha : -9223372036854775808 ≤ a) (ha2 : a ≤ 9223372036854775807) (hb : -9223372036854775808 ≤ b) (hb2 : b ≤ 9223372036854775807) (w : World) : Calls Try.prog 36 #[.int .u8 27, .int .i64 a, .int .i64 b] w fun e w' =>
    e = .returned (.bool (testB 64 27 (BitVec.ofInt 64 a) (BitVec.ofInt 64 b))) ∧ w = w' := by
  go_enter Try.func36, Try.ntmps36
  go_wp2
  go_ret
  refine ⟨ret_bool ?_, rfl⟩
  unfold testB
  rw [bv64_id ⟨ha, ha2⟩, bv64_id ⟨hb, hb2⟩]
  rw [Bool.eq_iff_iff]; simp
theorem test64_ge (a b : Int) (ha : -9223372036854775808 ≤ a) (ha2 : a ≤ 9223372036854775807) (hb : -9223372036854775808 ≤ b) (hb2 : b ≤ 9223372036854775807) (w : World) : Calls Try.prog 36 #[.int .u8 28, .int .i64 a, .int .i64 b] w fun e w' =>
    e = .returned (.bool (testB 64 28 (BitVec.ofInt 64 a) (BitVec.ofInt 64 b))) ∧ w = w' := by
  go_enter Try.func36, Try.ntmps36
  go_wp2
  go_ret
  refine ⟨ret_bool ?_, rfl⟩
  unfold testB
  rw [bv64_id ⟨ha, ha2⟩, bv64_id ⟨hb, hb2⟩]
  rw [Bool.eq_iff_iff]; simp
theorem test64_other (op : Int) (hop : op < 23 ∨ 28 < op) (a b : Int) (ha : -9223372036854775808 ≤ a) (ha2 : a ≤ 9223372036854775807) (hb : -9223372036854775808 ≤ b) (hb2 : b ≤ 9223372036854775807) (w : World) : Calls Try.prog 36 #[.int .u8 op, .int .i64 a, .int .i64 b] w fun e w' =>
    e = .returned (.bool (testB 64 op (BitVec.ofInt 64 a) (BitVec.ofInt 64 b))) ∧ w = w' := by
  have hr : testB 64 op (BitVec.ofInt 64 a) (BitVec.ofInt 64 b) = false := by
    unfold testB
    iterate 7 rw [if_neg (by omega)]
  rw [hr]
  clear hr
  have e23 : (op == 23) = false := by simp; omega
  have e24 : (op == 24) = false := by simp; omega
  have e25 : (op == 25) = false := by simp; omega
  have e26 : (op == 26) = false := by simp; omega
  have e27 : (op == 27) = false := by simp; omega
  have e28 : (op == 28) = false := by simp; omega
  clear hop
  go_enter Try.func36, Try.ntmps36
  go_wp2
  go_ret
  exact ⟨rfl, rfl⟩

end Go.Proofs.Ytnfglmfioifciaa
