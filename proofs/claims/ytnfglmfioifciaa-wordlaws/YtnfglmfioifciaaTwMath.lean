/-
  WHAT THE CODE RECKONS at each width is what the rows of bits say.
-/
import Derived.Test.YtnfglmfioifciaaMath
namespace Go.Proofs.Ytnfglmfioifciaa
open Go.RowKit
set_option linter.unusedVariables false

theorem twoB_add (n : Nat) (x y : BitVec n) : twoB n 11 x y = x + y := by simp [twoB]
theorem twoB_sub (n : Nat) (x y : BitVec n) : twoB n 12 x y = x - y := by simp [twoB]
theorem twoB_mul (n : Nat) (x y : BitVec n) : twoB n 13 x y = x * y := by simp [twoB]
theorem twoB_div (n : Nat) (x y : BitVec n) : twoB n 14 x y = x.sdiv y := by simp [twoB]
theorem twoB_rem (n : Nat) (x y : BitVec n) (h : ¬ y = 0#n) : twoB n 15 x y = x.srem y := by simp [twoB, h]
theorem twoB_rem0 (n : Nat) (x : BitVec n) : twoB n 15 x 0#n = 0#n := by simp [twoB]
theorem twoB_and (n : Nat) (x y : BitVec n) : twoB n 16 x y = x &&& y := by simp [twoB]
theorem twoB_or (n : Nat) (x y : BitVec n) : twoB n 17 x y = x ||| y := by simp [twoB]
theorem twoB_xor (n : Nat) (x y : BitVec n) : twoB n 18 x y = x ^^^ y := by simp [twoB]
theorem twoB_shl (n : Nat) (x y : BitVec n) : twoB n 19 x y = x <<< (y.toNat % n) := by simp [twoB]
theorem twoB_shr (n : Nat) (x y : BitVec n) : twoB n 20 x y = x.sshiftRight (y.toNat % n) := by simp [twoB]
theorem twoB_other (n : Nat) (op : Int) (x y : BitVec n) (h : op < 11 ∨ 20 < op) : twoB n op x y = 0#n := by
  unfold twoB
  iterate 10 rw [if_neg (by omega)]
theorem not_bv (n : Nat) (a : Int) : ~~~BitVec.ofInt n a = BitVec.ofInt n (-1 - a) := by
  have h := BitVec.neg_eq_not_add (BitVec.ofInt n a)
  have h1 : BitVec.ofInt n (-1 - a) + 1#n = -BitVec.ofInt n a := by
    rw [← BitVec.ofInt_neg, show 1#n = BitVec.ofInt n 1 by rfl, ← BitVec.ofInt_add, show -1 - a + 1 = -a by omega]
  rw [← h1] at h
  exact (BitVec.add_left_inj 1#n).mp h.symm
theorem minus1_xor (n : Nat) (v : BitVec n) : BitVec.ofInt n (-1) ^^^ v = ~~~v := by
  have h := not_bv n 0
  rw [show (-1 : Int) - 0 = -1 by omega, show BitVec.ofInt n 0 = 0#n by simp, BitVec.not_zero] at h
  rw [← h, BitVec.allOnes_xor]
theorem ofInt_zero' (n : Nat) : BitVec.ofInt n 0 = 0#n := by simp

theorem ne8 {b : Int} (hb : -128 ≤ b) (hb2 : b ≤ 127) (hz : ¬ b = 0) : ¬ BitVec.ofInt 8 b = 0#8 := by
  intro h
  have h1 := bv8_id ⟨hb, hb2⟩
  rw [h] at h1
  simp at h1
  omega
theorem tw8_add (a b : Int) (ha : -128 ≤ a) (ha2 : a ≤ 127) (hb : -128 ≤ b) (hb2 : b ≤ 127) : wrap64 (IntKind.i8.wrap (a + b)) = (twoB 8 11 (BitVec.ofInt 8 a) (BitVec.ofInt 8 b)).toInt := by
  rw [wrap_s8, w64_bv (by omega), twoB_add, BitVec.ofInt_add]
theorem tw8_sub (a b : Int) (ha : -128 ≤ a) (ha2 : a ≤ 127) (hb : -128 ≤ b) (hb2 : b ≤ 127) : wrap64 (IntKind.i8.wrap (a + IntKind.i8.wrap (-b))) = (twoB 8 12 (BitVec.ofInt 8 a) (BitVec.ofInt 8 b)).toInt := by
  rw [wrap_s8, wrap_s8, w64_bv (by omega), twoB_sub, BitVec.ofInt_add, BitVec.ofInt_toInt, BitVec.ofInt_neg, BitVec.sub_eq_add_neg]
theorem tw8_mul (a b : Int) (ha : -128 ≤ a) (ha2 : a ≤ 127) (hb : -128 ≤ b) (hb2 : b ≤ 127) : wrap64 (IntKind.i8.wrap (a * b)) = (twoB 8 13 (BitVec.ofInt 8 a) (BitVec.ofInt 8 b)).toInt := by
  rw [wrap_s8, w64_bv (by omega), twoB_mul, BitVec.ofInt_mul]
theorem tw8_div0 (a : Int) : 0 = (twoB 8 14 (BitVec.ofInt 8 a) (BitVec.ofInt 8 0)).toInt := by
  rw [twoB_div, ofInt_zero', BitVec.sdiv_zero]; rfl
theorem tw8_rem0 (a : Int) : 0 = (twoB 8 15 (BitVec.ofInt 8 a) (BitVec.ofInt 8 0)).toInt := by
  rw [ofInt_zero', twoB_rem0]; rfl
theorem tw8_div1 (a b : Int) (ha : -128 ≤ a) (ha2 : a ≤ 127) (hb : -128 ≤ b) (hb2 : b ≤ 127) (hz : ¬ b = 0) : wrap64 (IntKind.i8.wrap (a.tdiv b)) = (twoB 8 14 (BitVec.ofInt 8 a) (BitVec.ofInt 8 b)).toInt := by
  rw [wrap_s8, w64_bv (by omega), twoB_div, BitVec.toInt_ofInt, BitVec.toInt_sdiv, bv8_id ⟨ha, ha2⟩, bv8_id ⟨hb, hb2⟩]
theorem tw8_rem1 (a b : Int) (ha : -128 ≤ a) (ha2 : a ≤ 127) (hb : -128 ≤ b) (hb2 : b ≤ 127) (hz : ¬ b = 0) : wrap64 (a.tmod b) = (twoB 8 15 (BitVec.ofInt 8 a) (BitVec.ofInt 8 b)).toInt := by
  rw [twoB_rem _ _ _ (ne8 hb hb2 hz)]
  have h := BitVec.toInt_srem (BitVec.ofInt 8 a) (BitVec.ofInt 8 b)
  rw [bv8_id ⟨ha, ha2⟩, bv8_id ⟨hb, hb2⟩] at h
  rw [← h, w64_bv (by omega)]
theorem tw8_and (a b : Int) (ha : -128 ≤ a) (ha2 : a ≤ 127) (hb : -128 ≤ b) (hb2 : b ≤ 127) : wrap64 (bits BinOp.and IntKind.i8 a b) = (twoB 8 16 (BitVec.ofInt 8 a) (BitVec.ofInt 8 b)).toInt := by
  rw [and_s8, w64_bv (by omega), twoB_and]
theorem tw8_or (a b : Int) (ha : -128 ≤ a) (ha2 : a ≤ 127) (hb : -128 ≤ b) (hb2 : b ≤ 127) : wrap64 (bits BinOp.or IntKind.i8 a b) = (twoB 8 17 (BitVec.ofInt 8 a) (BitVec.ofInt 8 b)).toInt := by
  rw [or_s8, w64_bv (by omega), twoB_or]
theorem tw8_xor (a b : Int) (ha : -128 ≤ a) (ha2 : a ≤ 127) (hb : -128 ≤ b) (hb2 : b ≤ 127) : wrap64 (bits BinOp.xor IntKind.i8 a b) = (twoB 8 18 (BitVec.ofInt 8 a) (BitVec.ofInt 8 b)).toInt := by
  rw [xor_s8, w64_bv (by omega), twoB_xor]
theorem tw8_shl (a b : Int) (ha : -128 ≤ a) (ha2 : a ≤ 127) (hb : -128 ≤ b) (hb2 : b ≤ 127) : wrap64 (IntKind.i8.wrap (a * 2 ^ (b % 8).toNat)) = (twoB 8 19 (BitVec.ofInt 8 a) (BitVec.ofInt 8 b)).toInt := by
  rw [wrap_s8, w64_bv (by omega), twoB_shl, cnt8, shl_bv]
theorem tw8_shr (a b : Int) (ha : -128 ≤ a) (ha2 : a ≤ 127) (hb : -128 ≤ b) (hb2 : b ≤ 127) : wrap64 (a / 2 ^ (b % 8).toNat) = (twoB 8 20 (BitVec.ofInt 8 a) (BitVec.ofInt 8 b)).toInt := by
  rw [twoB_shr, cnt8]
  have h := shr_bv 8 (BitVec.ofInt 8 a) (b % 8).toNat
  rw [bv8_id ⟨ha, ha2⟩] at h
  rw [← h, w64_bv (by omega)]
theorem on8_neg (a : Int) : wrap64 (bits BinOp.xor IntKind.i8 (-1) (IntKind.i8.wrap (a - 1))) = (oneB 8 21 (BitVec.ofInt 8 a)).toInt := by
  rw [wrap_s8, xor_s8, w64_bv (by omega), BitVec.ofInt_toInt, minus1_xor, not_bv, show -1 - (a - 1) = -a by omega, BitVec.ofInt_neg]; rfl
theorem on8_not (a : Int) : wrap64 (bits BinOp.xor IntKind.i8 (-1) a) = (oneB 8 22 (BitVec.ofInt 8 a)).toInt := by
  rw [xor_s8, w64_bv (by omega), minus1_xor]; rfl
theorem ne32 {b : Int} (hb : -2147483648 ≤ b) (hb2 : b ≤ 2147483647) (hz : ¬ b = 0) : ¬ BitVec.ofInt 32 b = 0#32 := by
  intro h
  have h1 := bv32_id ⟨hb, hb2⟩
  rw [h] at h1
  simp at h1
  omega
theorem tw32_add (a b : Int) (ha : -2147483648 ≤ a) (ha2 : a ≤ 2147483647) (hb : -2147483648 ≤ b) (hb2 : b ≤ 2147483647) : wrap64 (wrap32 (a + b)) = (twoB 32 11 (BitVec.ofInt 32 a) (BitVec.ofInt 32 b)).toInt := by
  rw [wrap_w32, w64_bv (by omega), twoB_add, BitVec.ofInt_add]
theorem tw32_sub (a b : Int) (ha : -2147483648 ≤ a) (ha2 : a ≤ 2147483647) (hb : -2147483648 ≤ b) (hb2 : b ≤ 2147483647) : wrap64 (wrap32 (a + wrap32 (-b))) = (twoB 32 12 (BitVec.ofInt 32 a) (BitVec.ofInt 32 b)).toInt := by
  rw [wrap_w32, wrap_w32, w64_bv (by omega), twoB_sub, BitVec.ofInt_add, BitVec.ofInt_toInt, BitVec.ofInt_neg, BitVec.sub_eq_add_neg]
theorem tw32_mul (a b : Int) (ha : -2147483648 ≤ a) (ha2 : a ≤ 2147483647) (hb : -2147483648 ≤ b) (hb2 : b ≤ 2147483647) : wrap64 (wrap32 (a * b)) = (twoB 32 13 (BitVec.ofInt 32 a) (BitVec.ofInt 32 b)).toInt := by
  rw [wrap_w32, w64_bv (by omega), twoB_mul, BitVec.ofInt_mul]
theorem tw32_div0 (a : Int) : 0 = (twoB 32 14 (BitVec.ofInt 32 a) (BitVec.ofInt 32 0)).toInt := by
  rw [twoB_div, ofInt_zero', BitVec.sdiv_zero]; rfl
theorem tw32_rem0 (a : Int) : 0 = (twoB 32 15 (BitVec.ofInt 32 a) (BitVec.ofInt 32 0)).toInt := by
  rw [ofInt_zero', twoB_rem0]; rfl
theorem tw32_div1 (a b : Int) (ha : -2147483648 ≤ a) (ha2 : a ≤ 2147483647) (hb : -2147483648 ≤ b) (hb2 : b ≤ 2147483647) (hz : ¬ b = 0) : wrap64 (wrap32 (a.tdiv b)) = (twoB 32 14 (BitVec.ofInt 32 a) (BitVec.ofInt 32 b)).toInt := by
  rw [wrap_w32, w64_bv (by omega), twoB_div, BitVec.toInt_ofInt, BitVec.toInt_sdiv, bv32_id ⟨ha, ha2⟩, bv32_id ⟨hb, hb2⟩]
theorem tw32_rem1 (a b : Int) (ha : -2147483648 ≤ a) (ha2 : a ≤ 2147483647) (hb : -2147483648 ≤ b) (hb2 : b ≤ 2147483647) (hz : ¬ b = 0) : wrap64 (a.tmod b) = (twoB 32 15 (BitVec.ofInt 32 a) (BitVec.ofInt 32 b)).toInt := by
  rw [twoB_rem _ _ _ (ne32 hb hb2 hz)]
  have h := BitVec.toInt_srem (BitVec.ofInt 32 a) (BitVec.ofInt 32 b)
  rw [bv32_id ⟨ha, ha2⟩, bv32_id ⟨hb, hb2⟩] at h
  rw [← h, w64_bv (by omega)]
theorem tw32_and (a b : Int) (ha : -2147483648 ≤ a) (ha2 : a ≤ 2147483647) (hb : -2147483648 ≤ b) (hb2 : b ≤ 2147483647) : wrap64 (bits BinOp.and IntKind.i32 a b) = (twoB 32 16 (BitVec.ofInt 32 a) (BitVec.ofInt 32 b)).toInt := by
  rw [and_s32, w64_bv (by omega), twoB_and]
theorem tw32_or (a b : Int) (ha : -2147483648 ≤ a) (ha2 : a ≤ 2147483647) (hb : -2147483648 ≤ b) (hb2 : b ≤ 2147483647) : wrap64 (bits BinOp.or IntKind.i32 a b) = (twoB 32 17 (BitVec.ofInt 32 a) (BitVec.ofInt 32 b)).toInt := by
  rw [or_s32, w64_bv (by omega), twoB_or]
theorem tw32_xor (a b : Int) (ha : -2147483648 ≤ a) (ha2 : a ≤ 2147483647) (hb : -2147483648 ≤ b) (hb2 : b ≤ 2147483647) : wrap64 (bits BinOp.xor IntKind.i32 a b) = (twoB 32 18 (BitVec.ofInt 32 a) (BitVec.ofInt 32 b)).toInt := by
  rw [xor_s32, w64_bv (by omega), twoB_xor]
theorem tw32_shl (a b : Int) (ha : -2147483648 ≤ a) (ha2 : a ≤ 2147483647) (hb : -2147483648 ≤ b) (hb2 : b ≤ 2147483647) : wrap64 (wrap32 (a * 2 ^ (b % 32).toNat)) = (twoB 32 19 (BitVec.ofInt 32 a) (BitVec.ofInt 32 b)).toInt := by
  rw [wrap_w32, w64_bv (by omega), twoB_shl, cnt32, shl_bv]
theorem tw32_shr (a b : Int) (ha : -2147483648 ≤ a) (ha2 : a ≤ 2147483647) (hb : -2147483648 ≤ b) (hb2 : b ≤ 2147483647) : wrap64 (a / 2 ^ (b % 32).toNat) = (twoB 32 20 (BitVec.ofInt 32 a) (BitVec.ofInt 32 b)).toInt := by
  rw [twoB_shr, cnt32]
  have h := shr_bv 32 (BitVec.ofInt 32 a) (b % 32).toNat
  rw [bv32_id ⟨ha, ha2⟩] at h
  rw [← h, w64_bv (by omega)]
theorem on32_neg (a : Int) : wrap64 (bits BinOp.xor IntKind.i32 (-1) (wrap32 (a - 1))) = (oneB 32 21 (BitVec.ofInt 32 a)).toInt := by
  rw [wrap_w32, xor_s32, w64_bv (by omega), BitVec.ofInt_toInt, minus1_xor, not_bv, show -1 - (a - 1) = -a by omega, BitVec.ofInt_neg]; rfl
theorem on32_not (a : Int) : wrap64 (bits BinOp.xor IntKind.i32 (-1) a) = (oneB 32 22 (BitVec.ofInt 32 a)).toInt := by
  rw [xor_s32, w64_bv (by omega), minus1_xor]; rfl
theorem ne64 {b : Int} (hb : -9223372036854775808 ≤ b) (hb2 : b ≤ 9223372036854775807) (hz : ¬ b = 0) : ¬ BitVec.ofInt 64 b = 0#64 := by
  intro h
  have h1 := bv64_id ⟨hb, hb2⟩
  rw [h] at h1
  simp at h1
  omega
theorem tw64_add (a b : Int) (ha : -9223372036854775808 ≤ a) (ha2 : a ≤ 9223372036854775807) (hb : -9223372036854775808 ≤ b) (hb2 : b ≤ 9223372036854775807) : wrap64 (a + b) = (twoB 64 11 (BitVec.ofInt 64 a) (BitVec.ofInt 64 b)).toInt := by
  rw [wrap_w64, twoB_add, BitVec.ofInt_add]
theorem tw64_sub (a b : Int) (ha : -9223372036854775808 ≤ a) (ha2 : a ≤ 9223372036854775807) (hb : -9223372036854775808 ≤ b) (hb2 : b ≤ 9223372036854775807) : wrap64 (a + wrap64 (-b)) = (twoB 64 12 (BitVec.ofInt 64 a) (BitVec.ofInt 64 b)).toInt := by
  rw [wrap_w64, wrap_w64, twoB_sub, BitVec.ofInt_add, BitVec.ofInt_toInt, BitVec.ofInt_neg, BitVec.sub_eq_add_neg]
theorem tw64_mul (a b : Int) (ha : -9223372036854775808 ≤ a) (ha2 : a ≤ 9223372036854775807) (hb : -9223372036854775808 ≤ b) (hb2 : b ≤ 9223372036854775807) : wrap64 (a * b) = (twoB 64 13 (BitVec.ofInt 64 a) (BitVec.ofInt 64 b)).toInt := by
  rw [wrap_w64, twoB_mul, BitVec.ofInt_mul]
theorem tw64_div0 (a : Int) : 0 = (twoB 64 14 (BitVec.ofInt 64 a) (BitVec.ofInt 64 0)).toInt := by
  rw [twoB_div, ofInt_zero', BitVec.sdiv_zero]; rfl
theorem tw64_rem0 (a : Int) : 0 = (twoB 64 15 (BitVec.ofInt 64 a) (BitVec.ofInt 64 0)).toInt := by
  rw [ofInt_zero', twoB_rem0]; rfl
theorem tw64_div1 (a b : Int) (ha : -9223372036854775808 ≤ a) (ha2 : a ≤ 9223372036854775807) (hb : -9223372036854775808 ≤ b) (hb2 : b ≤ 9223372036854775807) (hz : ¬ b = 0) : wrap64 (a.tdiv b) = (twoB 64 14 (BitVec.ofInt 64 a) (BitVec.ofInt 64 b)).toInt := by
  rw [wrap_w64, twoB_div, BitVec.toInt_ofInt, BitVec.toInt_sdiv, bv64_id ⟨ha, ha2⟩, bv64_id ⟨hb, hb2⟩]
theorem tw64_rem1 (a b : Int) (ha : -9223372036854775808 ≤ a) (ha2 : a ≤ 9223372036854775807) (hb : -9223372036854775808 ≤ b) (hb2 : b ≤ 9223372036854775807) (hz : ¬ b = 0) : a.tmod b = (twoB 64 15 (BitVec.ofInt 64 a) (BitVec.ofInt 64 b)).toInt := by
  rw [twoB_rem _ _ _ (ne64 hb hb2 hz)]
  have h := BitVec.toInt_srem (BitVec.ofInt 64 a) (BitVec.ofInt 64 b)
  rw [bv64_id ⟨ha, ha2⟩, bv64_id ⟨hb, hb2⟩] at h
  rw [← h]
theorem tw64_and (a b : Int) (ha : -9223372036854775808 ≤ a) (ha2 : a ≤ 9223372036854775807) (hb : -9223372036854775808 ≤ b) (hb2 : b ≤ 9223372036854775807) : bits BinOp.and IntKind.i64 a b = (twoB 64 16 (BitVec.ofInt 64 a) (BitVec.ofInt 64 b)).toInt := by
  rw [and_s64, twoB_and]
theorem tw64_or (a b : Int) (ha : -9223372036854775808 ≤ a) (ha2 : a ≤ 9223372036854775807) (hb : -9223372036854775808 ≤ b) (hb2 : b ≤ 9223372036854775807) : bits BinOp.or IntKind.i64 a b = (twoB 64 17 (BitVec.ofInt 64 a) (BitVec.ofInt 64 b)).toInt := by
  rw [or_s64, twoB_or]
theorem tw64_xor (a b : Int) (ha : -9223372036854775808 ≤ a) (ha2 : a ≤ 9223372036854775807) (hb : -9223372036854775808 ≤ b) (hb2 : b ≤ 9223372036854775807) : bits BinOp.xor IntKind.i64 a b = (twoB 64 18 (BitVec.ofInt 64 a) (BitVec.ofInt 64 b)).toInt := by
  rw [xor_s64, twoB_xor]
theorem tw64_shl (a b : Int) (ha : -9223372036854775808 ≤ a) (ha2 : a ≤ 9223372036854775807) (hb : -9223372036854775808 ≤ b) (hb2 : b ≤ 9223372036854775807) : wrap64 (a * 2 ^ (b % 64).toNat) = (twoB 64 19 (BitVec.ofInt 64 a) (BitVec.ofInt 64 b)).toInt := by
  rw [wrap_w64, twoB_shl, cnt64, shl_bv]
theorem tw64_shr (a b : Int) (ha : -9223372036854775808 ≤ a) (ha2 : a ≤ 9223372036854775807) (hb : -9223372036854775808 ≤ b) (hb2 : b ≤ 9223372036854775807) : a / 2 ^ (b % 64).toNat = (twoB 64 20 (BitVec.ofInt 64 a) (BitVec.ofInt 64 b)).toInt := by
  rw [twoB_shr, cnt64]
  have h := shr_bv 64 (BitVec.ofInt 64 a) (b % 64).toNat
  rw [bv64_id ⟨ha, ha2⟩] at h
  rw [← h]
theorem on64_neg (a : Int) : bits BinOp.xor IntKind.i64 (-1) (wrap64 (a - 1)) = (oneB 64 21 (BitVec.ofInt 64 a)).toInt := by
  rw [wrap_w64, xor_s64, BitVec.ofInt_toInt, minus1_xor, not_bv, show -1 - (a - 1) = -a by omega, BitVec.ofInt_neg]; rfl
theorem on64_not (a : Int) : bits BinOp.xor IntKind.i64 (-1) a = (oneB 64 22 (BitVec.ofInt 64 a)).toInt := by
  rw [xor_s64, minus1_xor]; rfl
end Go.Proofs.Ytnfglmfioifciaa
