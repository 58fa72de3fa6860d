/-
  THE DOCUMENT'S OWN RECKONING, bit by bit: the plain mathematics of its loops.
-/
import Derived.Test.YtnfglmfioifciaaNarrowMath
namespace Go.Proofs.Ytnfglmfioifciaa
open Go.RowKit

theorem u64_nat (n : Nat) (h : n < 18446744073709551616) : IntKind.u64.wrap (n : Int) = (n : Int) := by rw [IntKind.wrap_u64]; omega
theorem bit_u64 (U k : Nat) (h : U < 18446744073709551616) : bits BinOp.and IntKind.u64 ((U : Int) / 2 ^ k) 1 = ((U / 2 ^ k % 2 : Nat) : Int) := by
  have e : (U : Int) / 2 ^ k = ((U / 2 ^ k : Nat) : Int) := by simp
  have hl : U / 2 ^ k ≤ U := Nat.div_le_self _ _
  rw [e]
  have := bits_and_u64_nat (U / 2 ^ k) 1 (by omega) (by omega)
  refine this.trans ?_
  rw [Nat.and_one_is_mod]
theorem or_high (T c k : Nat) (hT : T < 2 ^ k) (hc : c ≤ 1) (hk : k < 64) :
    bits BinOp.or IntKind.u64 (T : Int) (IntKind.u64.wrap ((c : Int) * 2 ^ k)) = ((T + c * 2 ^ k : Nat) : Int) := by
  have h2 : 2 ^ k ≤ 2 ^ 63 := Nat.pow_le_pow_right (by omega) (by omega)
  have hc2 : c * 2 ^ k ≤ 2 ^ k := by rcases (by omega : c = 0 ∨ c = 1) with rfl | rfl <;> omega
  have e : (c : Int) * 2 ^ k = ((c * 2 ^ k : Nat) : Int) := by simp
  rw [e, u64_nat _ (by omega), bits_or_u64_nat _ _ (by omega) (by omega)]
  congr 1
  rw [Nat.or_comm, Nat.mul_comm, ← Nat.two_pow_add_eq_or_of_lt hT c]
  omega
theorem low_step (U T k : Nat) (hU : U < 18446744073709551616) (hT : T = U % 2 ^ k) (hk : k < 64) :
    bits BinOp.or IntKind.u64 (T : Int) (IntKind.u64.wrap (bits BinOp.and IntKind.u64 ((U : Int) / 2 ^ k) 1 * 2 ^ k)) = ((U % 2 ^ (k + 1) : Nat) : Int) := by
  have hp : 0 < 2 ^ k := Nat.two_pow_pos k
  rw [bit_u64 U k hU, or_high T _ k (by rw [hT]; exact Nat.mod_lt _ hp) (by omega) hk, hT, Nat.mod_pow_succ]
  congr 1
  rw [Nat.mul_comm]

/-- The bits from B on are all the sign. -/
def ext (U B i : Nat) : Nat := U % 2 ^ B + (U / 2 ^ (B - 1) % 2) * (2 ^ i - 2 ^ B)
theorem ext_start (U B : Nat) : ext U B B = U % 2 ^ B := by unfold ext; rw [Nat.sub_self, Nat.mul_zero, Nat.add_zero]
theorem ext_lt (U B i : Nat) (h : B ≤ i) : ext U B i < 2 ^ i := by
  have hp : 0 < 2 ^ B := Nat.two_pow_pos B
  have hle : 2 ^ B ≤ 2 ^ i := Nat.pow_le_pow_right (by omega) h
  have hm := Nat.mod_lt U hp
  unfold ext
  rcases (by omega : U / 2 ^ (B - 1) % 2 = 0 ∨ U / 2 ^ (B - 1) % 2 = 1) with e | e <;> rw [e] <;> omega
theorem ext_step (U T B i : Nat) (hU : U < 18446744073709551616) (hT : T = ext U B i) (hB : B ≤ i) (hi : i < 64) :
    bits BinOp.or IntKind.u64 (T : Int) (IntKind.u64.wrap (bits BinOp.and IntKind.u64 ((U : Int) / 2 ^ (B - 1)) 1 * 2 ^ i)) = ((ext U B (i + 1) : Nat) : Int) := by
  have hle : 2 ^ B ≤ 2 ^ i := Nat.pow_le_pow_right (by omega) hB
  rw [bit_u64 U _ hU, or_high T _ i (by rw [hT]; exact ext_lt U B i hB) (by omega) hi, hT]
  congr 1
  unfold ext
  rw [Nat.pow_succ]
  rcases (by omega : U / 2 ^ (B - 1) % 2 = 0 ∨ U / 2 ^ (B - 1) % 2 = 1) with e | e <;> rw [e] <;> omega
theorem ext_end (X n : Int) (U : Nat) (hX : X = 1 ∨ X = 2 ∨ X = 3) (hU : IntKind.u64.wrap n = (U : Int)) : wrap64 ((ext U (nb X) 64 : Nat) : Int) = wrp X n := by
  rw [IntKind.wrap_u64] at hU
  rcases hX with rfl | rfl | rfl
  · have e : wrp 1 n = IntKind.i8.wrap n := (wrap_s8 n).symm
    rw [e]
    simp only [ext, nb, if_true, IntKind.wrap, IntKind.bits, IntKind.signed, wrap64]
    simp
    split <;> omega
  · have e : wrp 2 n = wrap32 n := (wrap_w32 n).symm
    rw [e]
    have h1 : n % 4294967296 = ((U % 4294967296 : Nat) : Int) := by omega
    have h2 : U % 4294967296 = U / 2147483648 % 2 * 2147483648 + U % 2147483648 := by omega
    have h3 : ext U (nb 2) 64 = U % 4294967296 + U / 2147483648 % 2 * 18446744069414584320 := by simp [ext, nb]
    rw [h3]
    unfold wrap64 wrap32
    have h4 : U / 2147483648 % 2 = 0 ∨ U / 2147483648 % 2 = 1 := by omega
    have h5 : U % 2147483648 < 2147483648 := by omega
    generalize U / 2147483648 % 2 = s at *
    generalize U % 2147483648 = t at *
    generalize U % 4294967296 = r at *
    rcases h4 with rfl | rfl <;> omega
  · have e : wrp 3 n = wrap64 n := (wrap_w64 n).symm
    rw [e]
    simp only [ext, nb, wrap64]
    simp
    omega
end Go.Proofs.Ytnfglmfioifciaa
