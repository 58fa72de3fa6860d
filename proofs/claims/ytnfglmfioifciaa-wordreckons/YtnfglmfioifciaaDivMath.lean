/-
  LONG DIVISION, bit by bit: one step of it.
-/
import Derived.Test.YtnfglmfioifciaaRefMath
namespace Go.Proofs.Ytnfglmfioifciaa
open Go.RowKit

theorem div_half (A j : Nat) : A / 2 ^ j = 2 * (A / 2 ^ (j + 1)) + A / 2 ^ j % 2 := by
  rw [Nat.pow_succ, ← Nat.div_div_eq_div_mul]; omega
theorem over_step (A B j : Nat) (hB : 0 < B) :
    (A / 2 ^ j / B = 2 * (A / 2 ^ (j + 1) / B) + (2 * (A / 2 ^ (j + 1) % B) + A / 2 ^ j % 2) / B) ∧ A / 2 ^ j % B = (2 * (A / 2 ^ (j + 1) % B) + A / 2 ^ j % 2) % B := by
  have h1 := div_half A j
  have h2 := Nat.div_add_mod (A / 2 ^ (j + 1)) B
  generalize A / 2 ^ (j + 1) = P at *
  generalize A / 2 ^ j % 2 = b at *
  have e : A / 2 ^ j = 2 * (P % B) + b + B * (2 * (P / B)) := by
    have h3 : B * (2 * (P / B)) = 2 * (B * (P / B)) := by rw [Nat.mul_left_comm]
    rw [h1, h3]; omega
  constructor
  · rw [e, Nat.add_mul_div_left _ _ hB]; omega
  · rw [e, Nat.add_mul_mod_self_left]
theorem over_less (A B j : Nat) (hB : 0 < B) (h : 2 * (A / 2 ^ (j + 1) % B) + A / 2 ^ j % 2 < B) :
    A / 2 ^ j / B = 2 * (A / 2 ^ (j + 1) / B) ∧ A / 2 ^ j % B = 2 * (A / 2 ^ (j + 1) % B) + A / 2 ^ j % 2 := by
  have h1 := over_step A B j hB
  rw [Nat.div_eq_of_lt h, Nat.mod_eq_of_lt h] at h1
  exact h1
theorem over_more (A B j : Nat) (hB : 0 < B) (h : ¬ 2 * (A / 2 ^ (j + 1) % B) + A / 2 ^ j % 2 < B) :
    A / 2 ^ j / B = 2 * (A / 2 ^ (j + 1) / B) + 1 ∧ A / 2 ^ j % B = 2 * (A / 2 ^ (j + 1) % B) + A / 2 ^ j % 2 - B := by
  have h1 := over_step A B j hB
  have h2 := Nat.mod_lt (A / 2 ^ (j + 1)) hB
  have h3 : A / 2 ^ j % 2 < 2 := Nat.mod_lt _ (by omega)
  have h4 : 2 * (A / 2 ^ (j + 1) % B) + A / 2 ^ j % 2 < 2 * B := by omega
  generalize 2 * (A / 2 ^ (j + 1) % B) + A / 2 ^ j % 2 = r at *
  have e1 : r / B = 1 ∧ r % B = r - B := by
    rw [Nat.div_eq_sub_div hB (by omega), Nat.mod_eq_sub_mod (by omega), Nat.div_eq_of_lt (by omega), Nat.mod_eq_of_lt (by omega)]
    exact ⟨rfl, rfl⟩
  rw [e1.1, e1.2] at h1
  exact h1
theorem or_bit (R A j : Nat) (hA : A < 18446744073709551616) (hR : R < 9223372036854775808) :
    bits BinOp.or IntKind.u64 ((R : Int) * 2) (bits BinOp.and IntKind.u64 ((A : Int) / 2 ^ j) 1) = ((2 * R + A / 2 ^ j % 2 : Nat) : Int) := by
  rw [bit_u64 A j hA, show (R : Int) * 2 = ((2 ^ 1 * R : Nat) : Int) by omega, bits_or_u64_nat _ _ (by omega) (by omega), ← Nat.two_pow_add_eq_or_of_lt (by omega)]
theorem or_bit_high (R A j : Nat) (hA : A < 18446744073709551616) (hR : ¬ R < 9223372036854775808) (hR2 : R < 18446744073709551616) :
    bits BinOp.or IntKind.u64 (IntKind.u64.wrap ((R : Int) * 2)) (bits BinOp.and IntKind.u64 ((A : Int) / 2 ^ j) 1) = ((2 * R + A / 2 ^ j % 2 - 18446744073709551616 : Nat) : Int) := by
  rw [bit_u64 A j hA, IntKind.wrap_u64, show (R : Int) * 2 % 18446744073709551616 = ((2 ^ 1 * (R - 9223372036854775808) : Nat) : Int) by omega, bits_or_u64_nat _ _ (by omega) (by omega), ← Nat.two_pow_add_eq_or_of_lt (by omega)]
  have e : 2 ^ 1 * (R - 9223372036854775808) + A / 2 ^ j % 2 = 2 * R + A / 2 ^ j % 2 - 18446744073709551616 := by omega
  rw [e]
theorem or_quot (A B j : Nat) (hA : A < 18446744073709551616) (hj : j < 64) :
    bits BinOp.or IntKind.u64 ((A / 2 ^ (j + 1) / B * 2 ^ (j + 1) : Nat) : Int) (IntKind.u64.wrap (2 ^ j)) = (((2 * (A / 2 ^ (j + 1) / B) + 1) * 2 ^ j : Nat) : Int) := by
  have h1 : A / 2 ^ (j + 1) / B * 2 ^ (j + 1) ≤ A := Nat.le_trans (Nat.mul_le_mul_right _ (Nat.div_le_self _ _)) (Nat.div_mul_le_self _ _)
  have h2 : 2 ^ j ≤ 2 ^ 63 := Nat.pow_le_pow_right (by omega) (by omega)
  have h3 : 2 ^ j < 2 ^ (j + 1) := Nat.pow_lt_pow_right (by omega) (by omega)
  rw [show (2 : Int) ^ j = ((2 ^ j : Nat) : Int) by simp, u64_nat _ (by omega), bits_or_u64_nat _ _ (by omega) (by omega), Nat.mul_comm, ← Nat.two_pow_add_eq_or_of_lt h3]
  congr 1
  rw [Nat.pow_succ, Nat.add_mul, Nat.one_mul, Nat.mul_assoc, Nat.mul_comm 2 (A / (2 ^ j * 2) / B), Nat.mul_comm (2 ^ j), Nat.mul_assoc, Nat.mul_comm (_ / B), Nat.mul_assoc]
theorem neg_back (q : Nat) : wrap64 (IntKind.u64.wrap (-(q : Int))) = wrap64 (-(q : Int)) := by rw [IntKind.wrap_u64]; unfold wrap64; omega
theorem neg_small (r : Nat) (h : r < 9223372036854775808) : wrap64 (IntKind.u64.wrap (-(r : Int))) = -(r : Int) := by rw [neg_back]; exact w64_in (by omega)
theorem half_down (T : Int) : (T.tmod 2 < 0 → T.tdiv 2 - 1 = T / 2) ∧ (¬ T.tmod 2 < 0 → T.tdiv 2 = T / 2) := by
  have h1 := Int.tdiv_mul_add_tmod T 2
  have h2 := (tmod_near T 2).1 (by omega)
  omega
theorem half_in (T : Int) (h : -9223372036854775808 ≤ T ∧ T ≤ 9223372036854775807) : -9223372036854775807 ≤ T.tdiv 2 ∧ T.tdiv 2 ≤ 9223372036854775807 := by
  have h1 := Int.tdiv_mul_add_tmod T 2
  have h2 := (tmod_near T 2).1 (by omega)
  omega
end Go.Proofs.Ytnfglmfioifciaa
