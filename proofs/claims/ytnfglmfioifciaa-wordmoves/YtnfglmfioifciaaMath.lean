/-
  THE PLAIN MATHEMATICS of layer 2 (word): whole numbers of a width as rows of bits (BitVec). No Go in sight.
-/
import Derived.Laws.MathBits
import Derived.Laws.Bits64b
import Derived.Laws.BitsAllLaws
import Derived.RowKit
import Derived.Laws.BitsLemmas
namespace Go.Proofs.Ytnfglmfioifciaa

/-! ### The model's wraps and bits, as rows of bits -/
theorem wrap_s8 (x : Int) : IntKind.i8.wrap x = (BitVec.ofInt 8 x).toInt := by
  rw [BitVec.toInt_ofInt, Int.bmod_def]
  simp [IntKind.wrap, IntKind.bits, IntKind.signed]
  split <;> split <;> omega
theorem wrap_s32 (x : Int) : IntKind.i32.wrap x = (BitVec.ofInt 32 x).toInt := by
  rw [BitVec.toInt_ofInt, Int.bmod_def]
  simp [IntKind.wrap, IntKind.bits, IntKind.signed]
  split <;> split <;> omega
theorem wrap_s64 (x : Int) : IntKind.i64.wrap x = (BitVec.ofInt 64 x).toInt := by
  rw [BitVec.toInt_ofInt, Int.bmod_def]
  simp [IntKind.wrap, IntKind.bits, IntKind.signed]
  split <;> split <;> omega
theorem wrap_w32 (x : Int) : RowKit.wrap32 x = (BitVec.ofInt 32 x).toInt := by rw [← wrap_s32, IntKind.wrap_i32]; rfl
theorem wrap_w64 (x : Int) : RowKit.wrap64 x = (BitVec.ofInt 64 x).toInt := by rw [← wrap_s64, IntKind.wrap_i64]; rfl

theorem ofNatInt_toNat {n : Nat} (v : BitVec n) : BitVec.ofInt n (v.toNat : Int) = v := by rw [BitVec.ofInt_natCast, BitVec.ofNat_toNat, BitVec.setWidth_eq]
theorem and_s8 (a b : Int) : bits .and .i8 a b = (BitVec.ofInt 8 a &&& BitVec.ofInt 8 b).toInt := by
  show IntKind.i8.wrap ((BitVec.ofInt 8 a &&& BitVec.ofInt 8 b).toNat : Int) = _
  rw [wrap_s8, ofNatInt_toNat]
theorem or_s8 (a b : Int) : bits .or .i8 a b = (BitVec.ofInt 8 a ||| BitVec.ofInt 8 b).toInt := by
  show IntKind.i8.wrap ((BitVec.ofInt 8 a ||| BitVec.ofInt 8 b).toNat : Int) = _
  rw [wrap_s8, ofNatInt_toNat]
theorem xor_s8 (a b : Int) : bits .xor .i8 a b = (BitVec.ofInt 8 a ^^^ BitVec.ofInt 8 b).toInt := by
  show IntKind.i8.wrap ((BitVec.ofInt 8 a ^^^ BitVec.ofInt 8 b).toNat : Int) = _
  rw [wrap_s8, ofNatInt_toNat]
theorem and_s32 (a b : Int) : bits .and .i32 a b = (BitVec.ofInt 32 a &&& BitVec.ofInt 32 b).toInt := by
  show IntKind.i32.wrap ((BitVec.ofInt 32 a &&& BitVec.ofInt 32 b).toNat : Int) = _
  rw [wrap_s32, ofNatInt_toNat]
theorem or_s32 (a b : Int) : bits .or .i32 a b = (BitVec.ofInt 32 a ||| BitVec.ofInt 32 b).toInt := by
  show IntKind.i32.wrap ((BitVec.ofInt 32 a ||| BitVec.ofInt 32 b).toNat : Int) = _
  rw [wrap_s32, ofNatInt_toNat]
theorem xor_s32 (a b : Int) : bits .xor .i32 a b = (BitVec.ofInt 32 a ^^^ BitVec.ofInt 32 b).toInt := by
  show IntKind.i32.wrap ((BitVec.ofInt 32 a ^^^ BitVec.ofInt 32 b).toNat : Int) = _
  rw [wrap_s32, ofNatInt_toNat]
theorem and_s64 (a b : Int) : bits .and .i64 a b = (BitVec.ofInt 64 a &&& BitVec.ofInt 64 b).toInt := by
  show IntKind.i64.wrap ((BitVec.ofInt 64 a &&& BitVec.ofInt 64 b).toNat : Int) = _
  rw [wrap_s64, ofNatInt_toNat]
theorem or_s64 (a b : Int) : bits .or .i64 a b = (BitVec.ofInt 64 a ||| BitVec.ofInt 64 b).toInt := by
  show IntKind.i64.wrap ((BitVec.ofInt 64 a ||| BitVec.ofInt 64 b).toNat : Int) = _
  rw [wrap_s64, ofNatInt_toNat]
theorem xor_s64 (a b : Int) : bits .xor .i64 a b = (BitVec.ofInt 64 a ^^^ BitVec.ofInt 64 b).toInt := by
  show IntKind.i64.wrap ((BitVec.ofInt 64 a ^^^ BitVec.ofInt 64 b).toNat : Int) = _
  rw [wrap_s64, ofNatInt_toNat]

/-! ### What the layer reckons, over rows of bits -/
def nb (w : Int) : Nat := if w = 1 then 8 else if w = 2 then 32 else if w = 3 then 64 else 0
def twoB (n : Nat) (op : Int) (x y : BitVec n) : BitVec n :=
  if op = 11 then x + y else if op = 12 then x - y else if op = 13 then x * y else if op = 14 then x.sdiv y
  else if op = 15 then (if y = 0#n then 0#n else x.srem y) else if op = 16 then x &&& y else if op = 17 then x ||| y else if op = 18 then x ^^^ y
  else if op = 19 then x <<< (y.toNat % n) else if op = 20 then x.sshiftRight (y.toNat % n) else 0#n
def trapB (n : Nat) (op : Int) (y : BitVec n) : Int := if (op = 14 ∨ op = 15) ∧ y = 0#n ∧ n ≠ 0 then 1 else 0
def oneB (n : Nat) (op : Int) (x : BitVec n) : BitVec n := if op = 21 then -x else if op = 22 then ~~~x else 0#n
def testB (n : Nat) (op : Int) (x y : BitVec n) : Bool :=
  if n = 0 then false else if op = 23 then decide (x.toInt = y.toInt) else if op = 24 then decide (x.toInt ≠ y.toInt) else if op = 25 then decide (x.toInt < y.toInt)
  else if op = 26 then decide (x.toInt ≤ y.toInt) else if op = 27 then decide (y.toInt < x.toInt) else if op = 28 then decide (y.toInt ≤ x.toInt) else false

/-! ### The same over numbers -/
def bv (w a : Int) : BitVec (nb w) := BitVec.ofInt (nb w) a
def wrp (w a : Int) : Int := (bv w a).toInt
def two (op w a b : Int) : Int := (twoB (nb w) op (bv w a) (bv w b)).toInt
def trap (op w b : Int) : Int := trapB (nb w) op (bv w b)
def one (op w a : Int) : Int := (oneB (nb w) op (bv w a)).toInt
def test (op w a b : Int) : Bool := testB (nb w) op (bv w a) (bv w b)
def fits (w n : Int) : Bool := decide (0 < nb w) && decide (wrp w n = n)

theorem bv_toInt (w : Int) (v : BitVec (nb w)) : bv w v.toInt = v := BitVec.ofInt_toInt
theorem nb_le (w : Int) : nb w ≤ 64 := by unfold nb; split; omega; split; omega; split <;> omega
theorem toInt_in64 {n : Nat} (h : n ≤ 64) (v : BitVec n) : -9223372036854775808 ≤ v.toInt ∧ v.toInt ≤ 9223372036854775807 := by
  by_cases h0 : n = 0
  · subst h0
    have : v = 0#0 := by apply BitVec.eq_of_toNat_eq; omega
    subst this
    decide
  · have h1 := BitVec.le_toInt (x := v)
    have h2 := BitVec.toInt_lt (x := v)
    have h3 : (2 : Int) ^ (n - 1) ≤ 2 ^ 63 := by
      have : (2 : Nat) ^ (n - 1) ≤ 2 ^ 63 := Nat.pow_le_pow_right (by omega) (by omega)
      exact_mod_cast this
    omega
theorem two_in (op w a b : Int) : -9223372036854775808 ≤ two op w a b ∧ two op w a b ≤ 9223372036854775807 := toInt_in64 (nb_le w) _
theorem wrp_in (w a : Int) : -9223372036854775808 ≤ wrp w a ∧ wrp w a ≤ 9223372036854775807 := toInt_in64 (nb_le w) _
theorem one_in (op w a : Int) : -9223372036854775808 ≤ one op w a ∧ one op w a ≤ 9223372036854775807 := toInt_in64 (nb_le w) _
theorem w64_in {x : Int} (h : -9223372036854775808 ≤ x ∧ x ≤ 9223372036854775807) : RowKit.wrap64 x = x := by unfold RowKit.wrap64; omega
theorem w64_bv {n : Nat} (h : n ≤ 64) (v : BitVec n) : RowKit.wrap64 v.toInt = v.toInt := w64_in (toInt_in64 h v)
theorem bv8_id {x : Int} (h : -128 ≤ x ∧ x ≤ 127) : (BitVec.ofInt 8 x).toInt = x := by rw [BitVec.toInt_ofInt, Int.bmod_def]; simp; omega
theorem bv32_id {x : Int} (h : -2147483648 ≤ x ∧ x ≤ 2147483647) : (BitVec.ofInt 32 x).toInt = x := by rw [← wrap_w32]; unfold RowKit.wrap32; omega
theorem bv64_id {x : Int} (h : -9223372036854775808 ≤ x ∧ x ≤ 9223372036854775807) : (BitVec.ofInt 64 x).toInt = x := by rw [← wrap_w64]; exact w64_in h
theorem bv0 (v : BitVec 0) : v.toInt = 0 := by
  have : v = 0#0 := by apply BitVec.eq_of_toNat_eq; omega
  subst this; rfl
theorem bv_none {n : Nat} (h : n = 0) (v : BitVec n) : v.toInt = 0 := by subst h; exact bv0 v
theorem nb_none {w : Int} (h1 : ¬ w = 1) (h2 : ¬ w = 2) (h3 : ¬ w = 3) : nb w = 0 := by simp [nb, h1, h2, h3]
theorem nb_pos {w : Int} (h : w = 1 ∨ w = 2 ∨ w = 3) : 0 < nb w := by rcases h with rfl | rfl | rfl <;> decide

/-! ### The count of a move -/
theorem mask_nat (x m : Nat) (k : Nat) (hx : x < 18446744073709551616) (hm : m = 2 ^ k - 1) (hk : k ≤ 6) : bits .and .u64 (x : Int) (m : Int) = ((x % 2 ^ k : Nat) : Int) := by
  have h2 : 2 ^ k ≤ 2 ^ 6 := Nat.pow_le_pow_right (by omega) hk
  rw [bits_and_u64_nat x m hx (by omega), hm, Nat.and_two_pow_sub_one_eq_mod]
theorem mask8 (b : Int) : bits .and .u64 (b % 18446744073709551616) 7 = b % 8 := by
  obtain ⟨x, hx⟩ := Int.eq_ofNat_of_zero_le (show 0 ≤ b % 18446744073709551616 by omega)
  have := mask_nat x 7 3 (by omega) (by decide) (by omega)
  rw [hx]; refine this.trans ?_; omega
theorem mask32 (b : Int) : bits .and .u64 (b % 18446744073709551616) 31 = b % 32 := by
  obtain ⟨x, hx⟩ := Int.eq_ofNat_of_zero_le (show 0 ≤ b % 18446744073709551616 by omega)
  have := mask_nat x 31 5 (by omega) (by decide) (by omega)
  rw [hx]; refine this.trans ?_; omega
theorem mask64 (b : Int) : bits .and .u64 (b % 18446744073709551616) 63 = b % 64 := by
  obtain ⟨x, hx⟩ := Int.eq_ofNat_of_zero_le (show 0 ≤ b % 18446744073709551616 by omega)
  have := mask_nat x 63 6 (by omega) (by decide) (by omega)
  rw [hx]; refine this.trans ?_; omega
theorem cnt8 (b : Int) : (BitVec.ofInt 8 b).toNat % 8 = (b % 8).toNat := by rw [BitVec.toNat_ofInt]; simp; omega
theorem cnt32 (b : Int) : (BitVec.ofInt 32 b).toNat % 32 = (b % 32).toNat := by rw [BitVec.toNat_ofInt]; simp; omega
theorem cnt64 (b : Int) : (BitVec.ofInt 64 b).toNat % 64 = (b % 64).toNat := by rw [BitVec.toNat_ofInt]; simp; omega
theorem shl_bv (n : Nat) (a : Int) (k : Nat) : BitVec.ofInt n (a * 2 ^ k) = BitVec.ofInt n a <<< k := by
  rw [BitVec.ofInt_mul, BitVec.shiftLeft_eq_mul_twoPow]
  congr 1
  rw [show (2 : Int) ^ k = ((2 ^ k : Nat) : Int) by simp, BitVec.ofInt_natCast]
  apply BitVec.eq_of_toNat_eq
  simp [BitVec.toNat_twoPow]
theorem shr_bv (n : Nat) (v : BitVec n) (k : Nat) : (v.sshiftRight k).toInt = v.toInt / 2 ^ k := by
  rw [BitVec.toInt_sshiftRight, Int.shiftRight_eq_div_pow]; simp
end Go.Proofs.Ytnfglmfioifciaa
