/-
  THE RING AND THE BITS of a width, over numbers: what WordLaws, WordParts, WordNarrow, WordOrder ask.
-/
import Derived.Test.YtnfglmfioifciaaTwMath
namespace Go.Proofs.Ytnfglmfioifciaa

theorem and_add_or_bv {n : Nat} (x y : BitVec n) : (x &&& y) + (x ||| y) = x + y := by
  have h1 : x ||| y = x + (y &&& ~~~x) := by
    rw [BitVec.add_eq_or_of_and_eq_zero x (y &&& ~~~x) (by ext i hi; simp; intro hx _; exact hx)]
    ext i hi
    simp
    cases x[i] <;> cases y[i] <;> rfl
  have h2 : y = (x &&& y) + (y &&& ~~~x) := by
    rw [BitVec.add_eq_or_of_and_eq_zero (x &&& y) (y &&& ~~~x) (by ext i hi; simp; intro hx _; exact hx)]
    ext i hi
    simp
    cases x[i] <;> cases y[i] <;> rfl
  rw [h1]
  conv => rhs; rw [h2]
  rw [← BitVec.add_assoc, ← BitVec.add_assoc, BitVec.add_comm (x &&& y) x]

theorem add_comm' (w a b : Int) : two 11 w a b = two 11 w b a := by unfold two; rw [twoB_add, twoB_add, BitVec.add_comm]
theorem mul_comm' (w a b : Int) : two 13 w a b = two 13 w b a := by unfold two; rw [twoB_mul, twoB_mul, BitVec.mul_comm]
theorem add_assoc' (w a b c : Int) : two 11 w (two 11 w a b) c = two 11 w a (two 11 w b c) := by
  unfold two; simp only [twoB_add, bv_toInt]; rw [BitVec.add_assoc]
theorem mul_assoc' (w a b c : Int) : two 13 w (two 13 w a b) c = two 13 w a (two 13 w b c) := by
  unfold two; simp only [twoB_mul, bv_toInt]; rw [BitVec.mul_assoc]
theorem mul_add' (w a b c : Int) : two 13 w a (two 11 w b c) = two 11 w (two 13 w a b) (two 13 w a c) := by
  unfold two; simp only [twoB_mul, twoB_add, bv_toInt]; rw [BitVec.mul_add]
theorem sub_back (w a b : Int) : two 12 w (two 11 w a b) b = wrp w a := by
  unfold two wrp; simp only [twoB_sub, twoB_add, bv_toInt]; rw [BitVec.add_sub_cancel]
theorem xor_back (w a b : Int) : two 18 w (two 18 w a b) b = wrp w a := by
  unfold two wrp; simp only [twoB_xor, bv_toInt]; rw [BitVec.xor_assoc, BitVec.xor_self, BitVec.xor_zero]
theorem not_xor (w a : Int) : two 18 w a (-1) = one 22 w a := by
  unfold two one; simp only [twoB_xor]; rw [BitVec.xor_comm]; unfold bv; rw [minus1_xor]; rfl
theorem neg_sub (w a : Int) : two 12 w 0 a = one 21 w a := by
  unfold two one; simp only [twoB_sub]; unfold bv; rw [ofInt_zero', BitVec.zero_sub]; rfl
theorem and_or (w a b : Int) : two 11 w (two 16 w a b) (two 17 w a b) = two 11 w a b := by
  unfold two; simp only [twoB_add, twoB_and, twoB_or, bv_toInt]; rw [and_add_or_bv]
theorem wrp_two (op w a b : Int) : wrp w (two op w a b) = two op w a b := by unfold wrp two; rw [bv_toInt]
theorem wrp_wrp (w a : Int) : wrp w (wrp w a) = wrp w a := by unfold wrp; rw [bv_toInt]
theorem fits_two (op w a b : Int) (h : w = 1 ∨ w = 2 ∨ w = 3) : fits w (two op w a b) = true := by unfold fits; rw [wrp_two]; simp [nb_pos h]
theorem fits_wrp (w a : Int) (h : w = 1 ∨ w = 2 ∨ w = 3) : fits w (wrp w a) = true := by unfold fits; rw [wrp_wrp]; simp [nb_pos h]
end Go.Proofs.Ytnfglmfioifciaa
