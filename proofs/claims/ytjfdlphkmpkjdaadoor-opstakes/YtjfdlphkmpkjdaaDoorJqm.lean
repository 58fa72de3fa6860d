/-
  THE MATHEMATICS of widths (layer 2).
  CONTRACTS of layer 2's own Bits, Wrap, Fits.
-/
import Derived.Test.YtjfdlphkmpkjdaaDoorJbs
import Derived.Laws.BitsLemmas
import Derived.Laws.BitsAllLaws
import Derived.Laws.Bits64b
import Derived.RowKit
namespace Go.Proofs.YtjfdlphkmpkjdaaDoor.Q02
open Go.RowKit
set_option linter.unusedVariables false

/-! ### The model's wraps and bits, as rows of bits -/
theorem wrap_s8 (x : Int) : IntKind.i8.wrap x = (BitVec.ofInt 8 x).toInt := by
  rw [BitVec.toInt_ofInt, Int.bmod_def]
  simp [IntKind.wrap, IntKind.bits, IntKind.signed]
  split <;> split <;> omega
theorem wrap_s32 (x : Int) : IntKind.i32.wrap x = (BitVec.ofInt 32 x).toInt := by
  rw [BitVec.toInt_ofInt, Int.bmod_def]
  simp [IntKind.wrap, IntKind.bits, IntKind.signed]
  split <;> split <;> omega
theorem wrap_s64 (x : Int) : IntKind.i64.wrap x = (BitVec.ofInt 64 x).toInt := by
  rw [BitVec.toInt_ofInt, Int.bmod_def]
  simp [IntKind.wrap, IntKind.bits, IntKind.signed]
  split <;> split <;> omega
theorem wrap_w32 (x : Int) : RowKit.wrap32 x = (BitVec.ofInt 32 x).toInt := by rw [← wrap_s32, IntKind.wrap_i32]; unfold RowKit.wrap32; rfl
theorem wrap_w64 (x : Int) : RowKit.wrap64 x = (BitVec.ofInt 64 x).toInt := by rw [← wrap_s64, IntKind.wrap_i64]; unfold RowKit.wrap64; rfl

theorem ofNatInt_toNat {n : Nat} (v : BitVec n) : BitVec.ofInt n (v.toNat : Int) = v := by rw [BitVec.ofInt_natCast, BitVec.ofNat_toNat, BitVec.setWidth_eq]
theorem and_s8 (a b : Int) : bits .and .i8 a b = (BitVec.ofInt 8 a &&& BitVec.ofInt 8 b).toInt := by
  show IntKind.i8.wrap ((BitVec.ofInt 8 a &&& BitVec.ofInt 8 b).toNat : Int) = _
  rw [wrap_s8, ofNatInt_toNat]
theorem or_s8 (a b : Int) : bits .or .i8 a b = (BitVec.ofInt 8 a ||| BitVec.ofInt 8 b).toInt := by
  show IntKind.i8.wrap ((BitVec.ofInt 8 a ||| BitVec.ofInt 8 b).toNat : Int) = _
  rw [wrap_s8, ofNatInt_toNat]
theorem xor_s8 (a b : Int) : bits .xor .i8 a b = (BitVec.ofInt 8 a ^^^ BitVec.ofInt 8 b).toInt := by
  show IntKind.i8.wrap ((BitVec.ofInt 8 a ^^^ BitVec.ofInt 8 b).toNat : Int) = _
  rw [wrap_s8, ofNatInt_toNat]
theorem and_s32 (a b : Int) : bits .and .i32 a b = (BitVec.ofInt 32 a &&& BitVec.ofInt 32 b).toInt := by
  show IntKind.i32.wrap ((BitVec.ofInt 32 a &&& BitVec.ofInt 32 b).toNat : Int) = _
  rw [wrap_s32, ofNatInt_toNat]
theorem or_s32 (a b : Int) : bits .or .i32 a b = (BitVec.ofInt 32 a ||| BitVec.ofInt 32 b).toInt := by
  show IntKind.i32.wrap ((BitVec.ofInt 32 a ||| BitVec.ofInt 32 b).toNat : Int) = _
  rw [wrap_s32, ofNatInt_toNat]
theorem xor_s32 (a b : Int) : bits .xor .i32 a b = (BitVec.ofInt 32 a ^^^ BitVec.ofInt 32 b).toInt := by
  show IntKind.i32.wrap ((BitVec.ofInt 32 a ^^^ BitVec.ofInt 32 b).toNat : Int) = _
  rw [wrap_s32, ofNatInt_toNat]
theorem and_s64 (a b : Int) : bits .and .i64 a b = (BitVec.ofInt 64 a &&& BitVec.ofInt 64 b).toInt := by
  show IntKind.i64.wrap ((BitVec.ofInt 64 a &&& BitVec.ofInt 64 b).toNat : Int) = _
  rw [wrap_s64, ofNatInt_toNat]
theorem or_s64 (a b : Int) : bits .or .i64 a b = (BitVec.ofInt 64 a ||| BitVec.ofInt 64 b).toInt := by
  show IntKind.i64.wrap ((BitVec.ofInt 64 a ||| BitVec.ofInt 64 b).toNat : Int) = _
  rw [wrap_s64, ofNatInt_toNat]
theorem xor_s64 (a b : Int) : bits .xor .i64 a b = (BitVec.ofInt 64 a ^^^ BitVec.ofInt 64 b).toInt := by
  show IntKind.i64.wrap ((BitVec.ofInt 64 a ^^^ BitVec.ofInt 64 b).toNat : Int) = _
  rw [wrap_s64, ofNatInt_toNat]

/-! ### What the layer reckons, over rows of bits -/
def nb (w : Int) : Nat := if w = 1 then 8 else if w = 2 then 32 else if w = 3 then 64 else 0
def twoB (n : Nat) (op : Int) (x y : BitVec n) : BitVec n :=
  if op = 11 then x + y else if op = 12 then x - y else if op = 13 then x * y else if op = 14 then x.sdiv y
  else if op = 15 then (if y = 0#n then 0#n else x.srem y) else if op = 16 then x &&& y else if op = 17 then x ||| y else if op = 18 then x ^^^ y
  else if op = 19 then x <<< (y.toNat % n) else if op = 20 then x.sshiftRight (y.toNat % n) else 0#n
def trapB (n : Nat) (op : Int) (y : BitVec n) : Int := if (op = 14 ∨ op = 15) ∧ y = 0#n ∧ n ≠ 0 then 1 else 0
def oneB (n : Nat) (op : Int) (x : BitVec n) : BitVec n := if op = 21 then -x else if op = 22 then ~~~x else 0#n
def testB (n : Nat) (op : Int) (x y : BitVec n) : Bool :=
  if n = 0 then false else if op = 23 then decide (x.toInt = y.toInt) else if op = 24 then decide (x.toInt ≠ y.toInt) else if op = 25 then decide (x.toInt < y.toInt)
  else if op = 26 then decide (x.toInt ≤ y.toInt) else if op = 27 then decide (y.toInt < x.toInt) else if op = 28 then decide (y.toInt ≤ x.toInt) else false

/-! ### The same over numbers -/
def bv (w a : Int) : BitVec (nb w) := BitVec.ofInt (nb w) a
def wrp (w a : Int) : Int := (bv w a).toInt
def two (op w a b : Int) : Int := (twoB (nb w) op (bv w a) (bv w b)).toInt
def trap (op w b : Int) : Int := trapB (nb w) op (bv w b)
def one (op w a : Int) : Int := (oneB (nb w) op (bv w a)).toInt
def test (op w a b : Int) : Bool := testB (nb w) op (bv w a) (bv w b)
def fits (w n : Int) : Bool := decide (0 < nb w) && decide (wrp w n = n)

theorem bv_toInt (w : Int) (v : BitVec (nb w)) : bv w v.toInt = v := BitVec.ofInt_toInt
theorem nb_le (w : Int) : nb w ≤ 64 := by unfold nb; split; omega; split; omega; split <;> omega
theorem toInt_in64 {n : Nat} (h : n ≤ 64) (v : BitVec n) : -9223372036854775808 ≤ v.toInt ∧ v.toInt ≤ 9223372036854775807 := by
  by_cases h0 : n = 0
  · subst h0
    have : v = 0#0 := by apply BitVec.eq_of_toNat_eq; omega
    subst this
    decide
  · have h1 := BitVec.le_toInt (x := v)
    have h2 := BitVec.toInt_lt (x := v)
    have h3 : (2 : Int) ^ (n - 1) ≤ 2 ^ 63 := by
      have : (2 : Nat) ^ (n - 1) ≤ 2 ^ 63 := Nat.pow_le_pow_right (by omega) (by omega)
      exact_mod_cast this
    omega
theorem two_in (op w a b : Int) : -9223372036854775808 ≤ two op w a b ∧ two op w a b ≤ 9223372036854775807 := toInt_in64 (nb_le w) _
theorem wrp_in (w a : Int) : -9223372036854775808 ≤ wrp w a ∧ wrp w a ≤ 9223372036854775807 := toInt_in64 (nb_le w) _
theorem one_in (op w a : Int) : -9223372036854775808 ≤ one op w a ∧ one op w a ≤ 9223372036854775807 := toInt_in64 (nb_le w) _
theorem w64_in {x : Int} (h : -9223372036854775808 ≤ x ∧ x ≤ 9223372036854775807) : RowKit.wrap64 x = x := by unfold RowKit.wrap64; omega
theorem w64_bv {n : Nat} (h : n ≤ 64) (v : BitVec n) : RowKit.wrap64 v.toInt = v.toInt := w64_in (toInt_in64 h v)
theorem bv8_id {x : Int} (h : -128 ≤ x ∧ x ≤ 127) : (BitVec.ofInt 8 x).toInt = x := by rw [BitVec.toInt_ofInt, Int.bmod_def]; simp; omega
theorem bv32_id {x : Int} (h : -2147483648 ≤ x ∧ x ≤ 2147483647) : (BitVec.ofInt 32 x).toInt = x := by rw [← wrap_w32]; unfold RowKit.wrap32; omega
theorem bv64_id {x : Int} (h : -9223372036854775808 ≤ x ∧ x ≤ 9223372036854775807) : (BitVec.ofInt 64 x).toInt = x := by rw [← wrap_w64]; exact w64_in h
theorem bv0 (v : BitVec 0) : v.toInt = 0 := by
  have : v = 0#0 := by apply BitVec.eq_of_toNat_eq; omega
  subst this; rfl
theorem bv_none {n : Nat} (h : n = 0) (v : BitVec n) : v.toInt = 0 := by subst h; exact bv0 v
theorem nb_none {w : Int} (h1 : ¬ w = 1) (h2 : ¬ w = 2) (h3 : ¬ w = 3) : nb w = 0 := by simp [nb, h1, h2, h3]
theorem nb_pos {w : Int} (h : w = 1 ∨ w = 2 ∨ w = 3) : 0 < nb w := by rcases h with rfl | rfl | rfl <;> decide


theorem u64_nat (n : Nat) (h : n < 18446744073709551616) : IntKind.u64.wrap (n : Int) = (n : Int) := by rw [IntKind.wrap_u64]; omega
theorem bit_u64 (U k : Nat) (h : U < 18446744073709551616) : bits BinOp.and IntKind.u64 ((U : Int) / 2 ^ k) 1 = ((U / 2 ^ k % 2 : Nat) : Int) := by
  have e : (U : Int) / 2 ^ k = ((U / 2 ^ k : Nat) : Int) := by simp
  have hl : U / 2 ^ k ≤ U := Nat.div_le_self _ _
  rw [e]
  have := bits_and_u64_nat (U / 2 ^ k) 1 (by omega) (by omega)
  refine this.trans ?_
  rw [Nat.and_one_is_mod]
theorem or_high (T c k : Nat) (hT : T < 2 ^ k) (hc : c ≤ 1) (hk : k < 64) :
    bits BinOp.or IntKind.u64 (T : Int) (IntKind.u64.wrap ((c : Int) * 2 ^ k)) = ((T + c * 2 ^ k : Nat) : Int) := by
  have h2 : 2 ^ k ≤ 2 ^ 63 := Nat.pow_le_pow_right (by omega) (by omega)
  have hc2 : c * 2 ^ k ≤ 2 ^ k := by rcases (by omega : c = 0 ∨ c = 1) with rfl | rfl <;> omega
  have e : (c : Int) * 2 ^ k = ((c * 2 ^ k : Nat) : Int) := by simp
  rw [e, u64_nat _ (by omega), bits_or_u64_nat _ _ (by omega) (by omega)]
  congr 1
  rw [Nat.or_comm, Nat.mul_comm, ← Nat.two_pow_add_eq_or_of_lt hT c]
  omega
theorem low_step (U T k : Nat) (hU : U < 18446744073709551616) (hT : T = U % 2 ^ k) (hk : k < 64) :
    bits BinOp.or IntKind.u64 (T : Int) (IntKind.u64.wrap (bits BinOp.and IntKind.u64 ((U : Int) / 2 ^ k) 1 * 2 ^ k)) = ((U % 2 ^ (k + 1) : Nat) : Int) := by
  have hp : 0 < 2 ^ k := Nat.two_pow_pos k
  rw [bit_u64 U k hU, or_high T _ k (by rw [hT]; exact Nat.mod_lt _ hp) (by omega) hk, hT, Nat.mod_pow_succ]
  congr 1
  rw [Nat.mul_comm]

/-- The bits from B on are all the sign. -/
def ext (U B i : Nat) : Nat := U % 2 ^ B + (U / 2 ^ (B - 1) % 2) * (2 ^ i - 2 ^ B)
theorem ext_start (U B : Nat) : ext U B B = U % 2 ^ B := by unfold ext; rw [Nat.sub_self, Nat.mul_zero, Nat.add_zero]
theorem ext_lt (U B i : Nat) (h : B ≤ i) : ext U B i < 2 ^ i := by
  have hp : 0 < 2 ^ B := Nat.two_pow_pos B
  have hle : 2 ^ B ≤ 2 ^ i := Nat.pow_le_pow_right (by omega) h
  have hm := Nat.mod_lt U hp
  unfold ext
  rcases (by omega : U / 2 ^ (B - 1) % 2 = 0 ∨ U / 2 ^ (B - 1) % 2 = 1) with e | e <;> rw [e] <;> omega
theorem ext_step (U T B i : Nat) (hU : U < 18446744073709551616) (hT : T = ext U B i) (hB : B ≤ i) (hi : i < 64) :
    bits BinOp.or IntKind.u64 (T : Int) (IntKind.u64.wrap (bits BinOp.and IntKind.u64 ((U : Int) / 2 ^ (B - 1)) 1 * 2 ^ i)) = ((ext U B (i + 1) : Nat) : Int) := by
  have hle : 2 ^ B ≤ 2 ^ i := Nat.pow_le_pow_right (by omega) hB
  rw [bit_u64 U _ hU, or_high T _ i (by rw [hT]; exact ext_lt U B i hB) (by omega) hi, hT]
  congr 1
  unfold ext
  rw [Nat.pow_succ]
  rcases (by omega : U / 2 ^ (B - 1) % 2 = 0 ∨ U / 2 ^ (B - 1) % 2 = 1) with e | e <;> rw [e] <;> omega
theorem ext_end (X n : Int) (U : Nat) (hX : X = 1 ∨ X = 2 ∨ X = 3) (hU : IntKind.u64.wrap n = (U : Int)) : wrap64 ((ext U (nb X) 64 : Nat) : Int) = wrp X n := by
  rw [IntKind.wrap_u64] at hU
  rcases hX with rfl | rfl | rfl
  · have e : wrp 1 n = IntKind.i8.wrap n := (wrap_s8 n).symm
    rw [e]
    simp only [ext, nb, if_true, IntKind.wrap, IntKind.bits, IntKind.signed, wrap64]
    simp
    split <;> omega
  · have e : wrp 2 n = wrap32 n := (wrap_w32 n).symm
    rw [e]
    have h1 : n % 4294967296 = ((U % 4294967296 : Nat) : Int) := by omega
    have h2 : U % 4294967296 = U / 2147483648 % 2 * 2147483648 + U % 2147483648 := by omega
    have h3 : ext U (nb 2) 64 = U % 4294967296 + U / 2147483648 % 2 * 18446744069414584320 := by simp [ext, nb]
    rw [h3]
    unfold wrap64 wrap32
    have h4 : U / 2147483648 % 2 = 0 ∨ U / 2147483648 % 2 = 1 := by omega
    have h5 : U % 2147483648 < 2147483648 := by omega
    generalize U / 2147483648 % 2 = s at *
    generalize U % 2147483648 = t at *
    generalize U % 4294967296 = r at *
    rcases h4 with rfl | rfl <;> omega
  · have e : wrp 3 n = wrap64 n := (wrap_w64 n).symm
    rw [e]
    simp only [ext, nb, wrap64]
    simp
    omega
end Go.Proofs.YtjfdlphkmpkjdaaDoor.Q02
namespace Go.Proofs.YtjfdlphkmpkjdaaDoor.Q02
open Go.RowKit
set_option linter.unusedVariables false

theorem rbits_any (x : Int) (w : World) : Calls Tryd.prog 67 #[.int .u8 x] w fun e w' => e = .returned (.int .i64 (nb x)) ∧ w = w' := by
  by_cases h1 : x = 1
  · subst h1
    go_enter Tryd.func67, Tryd.ntmps67
    go_wp2
    go_ret
    exact ⟨rfl, rfl⟩
  by_cases h2 : x = 2
  · subst h2
    go_enter Tryd.func67, Tryd.ntmps67
    go_wp2
    go_ret
    exact ⟨rfl, rfl⟩
  by_cases h3 : x = 3
  · subst h3
    go_enter Tryd.func67, Tryd.ntmps67
    go_wp2
    go_ret
    exact ⟨rfl, rfl⟩
  have hn : nb x = 0 := by simp [nb, h1, h2, h3]
  rw [hn]
  clear hn
  go_enter Tryd.func67, Tryd.ntmps67
  go_wp2
  go_ret
  exact ⟨rfl, rfl⟩
theorem rbits_as (x n : Int) (hn : (nb x : Int) = n) (w : World) : Calls Tryd.prog 67 #[.int .u8 x] w fun e w' => e = .returned (.int .i64 n) ∧ w = w' := by
  subst hn; exact rbits_any x w

/-- The first loop: the lowest bits. -/
def LowRel (U B : Nat) (v i : Value) : Prop := ∃ k T : Nat, k ≤ B ∧ i = .int .i64 k ∧ v = .int .u64 (T : Int) ∧ T = U % 2 ^ k
/-- The second loop: the sign. -/
def ExtRel (U B : Nat) (v i : Value) : Prop := ∃ k T : Nat, B ≤ k ∧ k ≤ 64 ∧ i = .int .i64 k ∧ v = .int .u64 (T : Int) ∧ T = ext U B k

set_option maxRecDepth 100000 in
theorem rwrap_walk (X n : Int) (U B : Nat) (HV : Hid (X = 1 ∨ X = 2 ∨ X = 3)) (hB : Hid (nb X = B)) (b1 : 1 ≤ B) (b2 : B ≤ 64) (hU : IntKind.u64.wrap n = (U : Int)) (HU : Hid (U < 18446744073709551616)) (w : World) :
    Calls Tryd.prog 68 #[.int .u8 X, .int .i64 n] w fun e w' => e = .returned (.int .i64 (wrp X n)) ∧ w = w' := by
  have p1 : (0 : Int) < B := by omega
  have p2 : ((B : Int) - 1).toNat = B - 1 := by omega
  have HW : Hid (IntKind.u64.wrap n = (U : Int)) := hU
  go_enter Tryd.func68, Tryd.ntmps68
  go_wp2_with fail
  refine (rbits_as X B (by rw [hB.out]) _).mono ?_
  rintro e wx ⟨rfl, rfl⟩
  go_wp2_with fail
  go_loop [6, 7] (fun v i => LowRel U B v i) (fun _ i => B - (intOf i).toNat)
  case atStart => exact ⟨0, 0, by omega, rfl, rfl, by simp [Nat.mod_one]⟩
  case round =>
    obtain ⟨k, T, hk, rfl, rfl, hT⟩ := hrel
    have HT : Hid (T = U % 2 ^ k) := hT
    clear hT
    by_cases hlt : k < B
    · go_wp2
      go_round
      case rel => exact ⟨k + 1, _, by omega, by go_num, by rw [low_step U T k HU.out HT.out (by omega)], rfl⟩
      case measure => simp [intOf]; omega
    · have hkB : k = B := by omega
      subst hkB
      go_wp2
      go_loop [6, 8] (fun v i => ExtRel U k v i) (fun _ i => 64 - (intOf i).toNat)
      case atStart => exact ⟨k, T, by omega, by omega, rfl, rfl, by rw [HT.out, ext_start]⟩
      case round =>
        obtain ⟨j, S, hj, hj2, rfl, rfl, hS⟩ := hrel
        have HS : Hid (S = ext U k j) := hS
        clear hS
        by_cases hlt2 : j < 64
        · go_wp2
          go_round
          case rel =>
            exact ⟨j + 1, _, by omega, by omega, by go_num, by rw [ext_step U S k j HU.out HS.out hj (by omega)], rfl⟩
          case measure => simp [intOf]; omega
        · have hj3 : j = 64 := by omega
          subst hj3
          go_wp2
          go_ret
          refine ⟨ret_int ?_, rfl⟩
          rw [HS.out, ← hB.out]
          exact ext_end X n U HV.out HW.out

set_option maxRecDepth 100000 in
theorem rwrap_none (X n : Int) (hB : (nb X : Int) = 0) (w : World) :
    Calls Tryd.prog 68 #[.int .u8 X, .int .i64 n] w fun e w' => e = .returned (.int .i64 (wrp X n)) ∧ w = w' := by
  rw [show wrp X n = 0 from bv_none (by omega) _]
  go_enter Tryd.func68, Tryd.ntmps68
  go_wp2_with fail
  refine (rbits_as X 0 hB _).mono ?_
  rintro e wx ⟨rfl, rfl⟩
  go_wp2_with fail
  go_rounds 1
  go_rounds 1
  go_ret
  exact ⟨rfl, rfl⟩
theorem rwrap_any (X n : Int) (w : World) :
    Calls Tryd.prog 68 #[.int .u8 X, .int .i64 n] w fun e w' => e = .returned (.int .i64 (wrp X n)) ∧ w = w' := by
  by_cases hX : X = 1 ∨ X = 2 ∨ X = 3
  · obtain ⟨U, hU⟩ := Int.eq_ofNat_of_zero_le (show 0 ≤ IntKind.u64.wrap n by rw [IntKind.wrap_u64]; omega)
    have h1 := nb_pos hX
    have h2 := nb_le X
    exact rwrap_walk X n U _ hX rfl (by omega) h2 hU (by rw [IntKind.wrap_u64] at hU; unfold Hid; omega) w
  · exact rwrap_none X n (by rw [nb_none (by omega) (by omega) (by omega)]; rfl) w
theorem rwrap_as (X n m : Int) (h : wrp X n = m) (w : World) :
    Calls Tryd.prog 68 #[.int .u8 X, .int .i64 n] w fun e w' => e = .returned (.int .i64 m) ∧ w = w' := by
  subst h; exact rwrap_any X n w

theorem rfits_any (x n : Int) (w : World) : Calls Tryd.prog 41 #[.int .u8 x, .int .i64 n] w fun e w' => e = .returned (.bool (fits x n)) ∧ w = w' := by
  by_cases h0 : nb x = 0
  · have hb : Calls Tryd.prog 67 #[.int .u8 x] w fun e w' => e = .returned (.int .i64 0) ∧ w = w' := by
      have := rbits_any x w; rw [h0] at this; exact this
    have hf : fits x n = false := by simp [fits, h0]
    rw [hf]
    go_enter Tryd.func41, Tryd.ntmps41
    go_wp2_with fail
    refine hb.mono ?_
    rintro e w1 ⟨rfl, rfl⟩
    go_wp2
    go_ret
    exact ⟨rfl, rfl⟩
  · obtain ⟨N, hN⟩ : ∃ N : Int, N = (nb x : Int) := ⟨_, rfl⟩
    have hp : 0 < N := by omega
    have hb : Calls Tryd.prog 67 #[.int .u8 x] w fun e w' => e = .returned (.int .i64 N) ∧ w = w' := by
      rw [hN]; exact rbits_any x w
    have hf : fits x n = decide (wrp x n = n) := by simp [fits]; omega
    rw [hf]
    clear hN h0
    go_enter Tryd.func41, Tryd.ntmps41
    go_wp2_with fail
    refine hb.mono ?_
    rintro e w1 ⟨rfl, rfl⟩
    go_wp2_with fail
    refine (rwrap_any x n _).mono ?_
    rintro e w1 ⟨rfl, rfl⟩
    go_wp2
    go_ret
    exact ⟨ret_bool (by rw [Bool.eq_iff_iff]; simp), rfl⟩
theorem rfits_as (x n : Int) (t : Bool) (h : fits x n = t) (w : World) : Calls Tryd.prog 41 #[.int .u8 x, .int .i64 n] w fun e w' => e = .returned (.bool t) ∧ w = w' := by
  subst h; exact rfits_any x n w
end Go.Proofs.YtjfdlphkmpkjdaaDoor.Q02
