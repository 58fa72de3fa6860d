/-
  THE MATHEMATICS of widths (layer 2).
-/
import Derived.Test.YtffnlcamobekoaaDoorBs
import Derived.Laws.BitsLemmas
import Derived.Laws.BitsAllLaws
import Derived.Laws.Bits64b
import Derived.RowKit
namespace Go.Proofs.YtffnlcamobekoaaDoor.Q02
open Go.RowKit
set_option linter.unusedVariables false

/-! ### The model's wraps and bits, as rows of bits -/
theorem wrap_s8 (x : Int) : IntKind.i8.wrap x = (BitVec.ofInt 8 x).toInt := by
  rw [BitVec.toInt_ofInt, Int.bmod_def]
  simp [IntKind.wrap, IntKind.bits, IntKind.signed]
  split <;> split <;> omega
theorem wrap_s32 (x : Int) : IntKind.i32.wrap x = (BitVec.ofInt 32 x).toInt := by
  rw [BitVec.toInt_ofInt, Int.bmod_def]
  simp [IntKind.wrap, IntKind.bits, IntKind.signed]
  split <;> split <;> omega
theorem wrap_s64 (x : Int) : IntKind.i64.wrap x = (BitVec.ofInt 64 x).toInt := by
  rw [BitVec.toInt_ofInt, Int.bmod_def]
  simp [IntKind.wrap, IntKind.bits, IntKind.signed]
  split <;> split <;> omega
theorem wrap_w32 (x : Int) : RowKit.wrap32 x = (BitVec.ofInt 32 x).toInt := by rw [← wrap_s32, IntKind.wrap_i32]; unfold RowKit.wrap32; rfl
theorem wrap_w64 (x : Int) : RowKit.wrap64 x = (BitVec.ofInt 64 x).toInt := by rw [← wrap_s64, IntKind.wrap_i64]; unfold RowKit.wrap64; rfl

theorem ofNatInt_toNat {n : Nat} (v : BitVec n) : BitVec.ofInt n (v.toNat : Int) = v := by rw [BitVec.ofInt_natCast, BitVec.ofNat_toNat, BitVec.setWidth_eq]
theorem and_s8 (a b : Int) : bits .and .i8 a b = (BitVec.ofInt 8 a &&& BitVec.ofInt 8 b).toInt := by
  show IntKind.i8.wrap ((BitVec.ofInt 8 a &&& BitVec.ofInt 8 b).toNat : Int) = _
  rw [wrap_s8, ofNatInt_toNat]
theorem or_s8 (a b : Int) : bits .or .i8 a b = (BitVec.ofInt 8 a ||| BitVec.ofInt 8 b).toInt := by
  show IntKind.i8.wrap ((BitVec.ofInt 8 a ||| BitVec.ofInt 8 b).toNat : Int) = _
  rw [wrap_s8, ofNatInt_toNat]
theorem xor_s8 (a b : Int) : bits .xor .i8 a b = (BitVec.ofInt 8 a ^^^ BitVec.ofInt 8 b).toInt := by
  show IntKind.i8.wrap ((BitVec.ofInt 8 a ^^^ BitVec.ofInt 8 b).toNat : Int) = _
  rw [wrap_s8, ofNatInt_toNat]
theorem and_s32 (a b : Int) : bits .and .i32 a b = (BitVec.ofInt 32 a &&& BitVec.ofInt 32 b).toInt := by
  show IntKind.i32.wrap ((BitVec.ofInt 32 a &&& BitVec.ofInt 32 b).toNat : Int) = _
  rw [wrap_s32, ofNatInt_toNat]
theorem or_s32 (a b : Int) : bits .or .i32 a b = (BitVec.ofInt 32 a ||| BitVec.ofInt 32 b).toInt := by
  show IntKind.i32.wrap ((BitVec.ofInt 32 a ||| BitVec.ofInt 32 b).toNat : Int) = _
  rw [wrap_s32, ofNatInt_toNat]
theorem xor_s32 (a b : Int) : bits .xor .i32 a b = (BitVec.ofInt 32 a ^^^ BitVec.ofInt 32 b).toInt := by
  show IntKind.i32.wrap ((BitVec.ofInt 32 a ^^^ BitVec.ofInt 32 b).toNat : Int) = _
  rw [wrap_s32, ofNatInt_toNat]
theorem and_s64 (a b : Int) : bits .and .i64 a b = (BitVec.ofInt 64 a &&& BitVec.ofInt 64 b).toInt := by
  show IntKind.i64.wrap ((BitVec.ofInt 64 a &&& BitVec.ofInt 64 b).toNat : Int) = _
  rw [wrap_s64, ofNatInt_toNat]
theorem or_s64 (a b : Int) : bits .or .i64 a b = (BitVec.ofInt 64 a ||| BitVec.ofInt 64 b).toInt := by
  show IntKind.i64.wrap ((BitVec.ofInt 64 a ||| BitVec.ofInt 64 b).toNat : Int) = _
  rw [wrap_s64, ofNatInt_toNat]
theorem xor_s64 (a b : Int) : bits .xor .i64 a b = (BitVec.ofInt 64 a ^^^ BitVec.ofInt 64 b).toInt := by
  show IntKind.i64.wrap ((BitVec.ofInt 64 a ^^^ BitVec.ofInt 64 b).toNat : Int) = _
  rw [wrap_s64, ofNatInt_toNat]

/-! ### What the layer reckons, over rows of bits -/
def nb (w : Int) : Nat := if w = 1 then 8 else if w = 2 then 32 else if w = 3 then 64 else 0
def twoB (n : Nat) (op : Int) (x y : BitVec n) : BitVec n :=
  if op = 11 then x + y else if op = 12 then x - y else if op = 13 then x * y else if op = 14 then x.sdiv y
  else if op = 15 then (if y = 0#n then 0#n else x.srem y) else if op = 16 then x &&& y else if op = 17 then x ||| y else if op = 18 then x ^^^ y
  else if op = 19 then x <<< (y.toNat % n) else if op = 20 then x.sshiftRight (y.toNat % n) else 0#n
def trapB (n : Nat) (op : Int) (y : BitVec n) : Int := if (op = 14 ∨ op = 15) ∧ y = 0#n ∧ n ≠ 0 then 1 else 0
def oneB (n : Nat) (op : Int) (x : BitVec n) : BitVec n := if op = 21 then -x else if op = 22 then ~~~x else 0#n
def testB (n : Nat) (op : Int) (x y : BitVec n) : Bool :=
  if n = 0 then false else if op = 23 then decide (x.toInt = y.toInt) else if op = 24 then decide (x.toInt ≠ y.toInt) else if op = 25 then decide (x.toInt < y.toInt)
  else if op = 26 then decide (x.toInt ≤ y.toInt) else if op = 27 then decide (y.toInt < x.toInt) else if op = 28 then decide (y.toInt ≤ x.toInt) else false

/-! ### The same over numbers -/
def bv (w a : Int) : BitVec (nb w) := BitVec.ofInt (nb w) a
def wrp (w a : Int) : Int := (bv w a).toInt
def two (op w a b : Int) : Int := (twoB (nb w) op (bv w a) (bv w b)).toInt
def trap (op w b : Int) : Int := trapB (nb w) op (bv w b)
def one (op w a : Int) : Int := (oneB (nb w) op (bv w a)).toInt
def test (op w a b : Int) : Bool := testB (nb w) op (bv w a) (bv w b)
def fits (w n : Int) : Bool := decide (0 < nb w) && decide (wrp w n = n)

theorem bv_toInt (w : Int) (v : BitVec (nb w)) : bv w v.toInt = v := BitVec.ofInt_toInt
theorem nb_le (w : Int) : nb w ≤ 64 := by unfold nb; split; omega; split; omega; split <;> omega
theorem toInt_in64 {n : Nat} (h : n ≤ 64) (v : BitVec n) : -9223372036854775808 ≤ v.toInt ∧ v.toInt ≤ 9223372036854775807 := by
  by_cases h0 : n = 0
  · subst h0
    have : v = 0#0 := by apply BitVec.eq_of_toNat_eq; omega
    subst this
    decide
  · have h1 := BitVec.le_toInt (x := v)
    have h2 := BitVec.toInt_lt (x := v)
    have h3 : (2 : Int) ^ (n - 1) ≤ 2 ^ 63 := by
      have : (2 : Nat) ^ (n - 1) ≤ 2 ^ 63 := Nat.pow_le_pow_right (by omega) (by omega)
      exact_mod_cast this
    omega
theorem two_in (op w a b : Int) : -9223372036854775808 ≤ two op w a b ∧ two op w a b ≤ 9223372036854775807 := toInt_in64 (nb_le w) _
theorem wrp_in (w a : Int) : -9223372036854775808 ≤ wrp w a ∧ wrp w a ≤ 9223372036854775807 := toInt_in64 (nb_le w) _
theorem one_in (op w a : Int) : -9223372036854775808 ≤ one op w a ∧ one op w a ≤ 9223372036854775807 := toInt_in64 (nb_le w) _
theorem w64_in {x : Int} (h : -9223372036854775808 ≤ x ∧ x ≤ 9223372036854775807) : RowKit.wrap64 x = x := by unfold RowKit.wrap64; omega
theorem w64_bv {n : Nat} (h : n ≤ 64) (v : BitVec n) : RowKit.wrap64 v.toInt = v.toInt := w64_in (toInt_in64 h v)
theorem bv8_id {x : Int} (h : -128 ≤ x ∧ x ≤ 127) : (BitVec.ofInt 8 x).toInt = x := by rw [BitVec.toInt_ofInt, Int.bmod_def]; simp; omega
theorem bv32_id {x : Int} (h : -2147483648 ≤ x ∧ x ≤ 2147483647) : (BitVec.ofInt 32 x).toInt = x := by rw [← wrap_w32]; unfold RowKit.wrap32; omega
theorem bv64_id {x : Int} (h : -9223372036854775808 ≤ x ∧ x ≤ 9223372036854775807) : (BitVec.ofInt 64 x).toInt = x := by rw [← wrap_w64]; exact w64_in h
theorem bv0 (v : BitVec 0) : v.toInt = 0 := by
  have : v = 0#0 := by apply BitVec.eq_of_toNat_eq; omega
  subst this; rfl
theorem bv_none {n : Nat} (h : n = 0) (v : BitVec n) : v.toInt = 0 := by subst h; exact bv0 v
theorem nb_none {w : Int} (h1 : ¬ w = 1) (h2 : ¬ w = 2) (h3 : ¬ w = 3) : nb w = 0 := by simp [nb, h1, h2, h3]
theorem nb_pos {w : Int} (h : w = 1 ∨ w = 2 ∨ w = 3) : 0 < nb w := by rcases h with rfl | rfl | rfl <;> decide


theorem u64_nat (n : Nat) (h : n < 18446744073709551616) : IntKind.u64.wrap (n : Int) = (n : Int) := by rw [IntKind.wrap_u64]; omega
theorem bit_u64 (U k : Nat) (h : U < 18446744073709551616) : bits BinOp.and IntKind.u64 ((U : Int) / 2 ^ k) 1 = ((U / 2 ^ k % 2 : Nat) : Int) := by
  have e : (U : Int) / 2 ^ k = ((U / 2 ^ k : Nat) : Int) := by simp
  have hl : U / 2 ^ k ≤ U := Nat.div_le_self _ _
  rw [e]
  have := bits_and_u64_nat (U / 2 ^ k) 1 (by omega) (by omega)
  refine this.trans ?_
  rw [Nat.and_one_is_mod]
theorem or_high (T c k : Nat) (hT : T < 2 ^ k) (hc : c ≤ 1) (hk : k < 64) :
    bits BinOp.or IntKind.u64 (T : Int) (IntKind.u64.wrap ((c : Int) * 2 ^ k)) = ((T + c * 2 ^ k : Nat) : Int) := by
  have h2 : 2 ^ k ≤ 2 ^ 63 := Nat.pow_le_pow_right (by omega) (by omega)
  have hc2 : c * 2 ^ k ≤ 2 ^ k := by rcases (by omega : c = 0 ∨ c = 1) with rfl | rfl <;> omega
  have e : (c : Int) * 2 ^ k = ((c * 2 ^ k : Nat) : Int) := by simp
  rw [e, u64_nat _ (by omega), bits_or_u64_nat _ _ (by omega) (by omega)]
  congr 1
  rw [Nat.or_comm, Nat.mul_comm, ← Nat.two_pow_add_eq_or_of_lt hT c]
  omega
theorem low_step (U T k : Nat) (hU : U < 18446744073709551616) (hT : T = U % 2 ^ k) (hk : k < 64) :
    bits BinOp.or IntKind.u64 (T : Int) (IntKind.u64.wrap (bits BinOp.and IntKind.u64 ((U : Int) / 2 ^ k) 1 * 2 ^ k)) = ((U % 2 ^ (k + 1) : Nat) : Int) := by
  have hp : 0 < 2 ^ k := Nat.two_pow_pos k
  rw [bit_u64 U k hU, or_high T _ k (by rw [hT]; exact Nat.mod_lt _ hp) (by omega) hk, hT, Nat.mod_pow_succ]
  congr 1
  rw [Nat.mul_comm]

/-- The bits from B on are all the sign. -/
def ext (U B i : Nat) : Nat := U % 2 ^ B + (U / 2 ^ (B - 1) % 2) * (2 ^ i - 2 ^ B)
theorem ext_start (U B : Nat) : ext U B B = U % 2 ^ B := by unfold ext; rw [Nat.sub_self, Nat.mul_zero, Nat.add_zero]
theorem ext_lt (U B i : Nat) (h : B ≤ i) : ext U B i < 2 ^ i := by
  have hp : 0 < 2 ^ B := Nat.two_pow_pos B
  have hle : 2 ^ B ≤ 2 ^ i := Nat.pow_le_pow_right (by omega) h
  have hm := Nat.mod_lt U hp
  unfold ext
  rcases (by omega : U / 2 ^ (B - 1) % 2 = 0 ∨ U / 2 ^ (B - 1) % 2 = 1) with e | e <;> rw [e] <;> omega
theorem ext_step (U T B i : Nat) (hU : U < 18446744073709551616) (hT : T = ext U B i) (hB : B ≤ i) (hi : i < 64) :
    bits BinOp.or IntKind.u64 (T : Int) (IntKind.u64.wrap (bits BinOp.and IntKind.u64 ((U : Int) / 2 ^ (B - 1)) 1 * 2 ^ i)) = ((ext U B (i + 1) : Nat) : Int) := by
  have hle : 2 ^ B ≤ 2 ^ i := Nat.pow_le_pow_right (by omega) hB
  rw [bit_u64 U _ hU, or_high T _ i (by rw [hT]; exact ext_lt U B i hB) (by omega) hi, hT]
  congr 1
  unfold ext
  rw [Nat.pow_succ]
  rcases (by omega : U / 2 ^ (B - 1) % 2 = 0 ∨ U / 2 ^ (B - 1) % 2 = 1) with e | e <;> rw [e] <;> omega
theorem ext_end (X n : Int) (U : Nat) (hX : X = 1 ∨ X = 2 ∨ X = 3) (hU : IntKind.u64.wrap n = (U : Int)) : wrap64 ((ext U (nb X) 64 : Nat) : Int) = wrp X n := by
  rw [IntKind.wrap_u64] at hU
  rcases hX with rfl | rfl | rfl
  · have e : wrp 1 n = IntKind.i8.wrap n := (wrap_s8 n).symm
    rw [e]
    simp only [ext, nb, if_true, IntKind.wrap, IntKind.bits, IntKind.signed, wrap64]
    simp
    split <;> omega
  · have e : wrp 2 n = wrap32 n := (wrap_w32 n).symm
    rw [e]
    have h1 : n % 4294967296 = ((U % 4294967296 : Nat) : Int) := by omega
    have h2 : U % 4294967296 = U / 2147483648 % 2 * 2147483648 + U % 2147483648 := by omega
    have h3 : ext U (nb 2) 64 = U % 4294967296 + U / 2147483648 % 2 * 18446744069414584320 := by simp [ext, nb]
    rw [h3]
    unfold wrap64 wrap32
    have h4 : U / 2147483648 % 2 = 0 ∨ U / 2147483648 % 2 = 1 := by omega
    have h5 : U % 2147483648 < 2147483648 := by omega
    generalize U / 2147483648 % 2 = s at *
    generalize U % 2147483648 = t at *
    generalize U % 4294967296 = r at *
    rcases h4 with rfl | rfl <;> omega
  · have e : wrp 3 n = wrap64 n := (wrap_w64 n).symm
    rw [e]
    simp only [ext, nb, wrap64]
    simp
    omega
end Go.Proofs.YtffnlcamobekoaaDoor.Q02
