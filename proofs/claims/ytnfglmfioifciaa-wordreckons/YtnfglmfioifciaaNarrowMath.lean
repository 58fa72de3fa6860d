/-
  A NARROWER WIDTH answers what a wider one answers, wrapped.
-/
import Derived.Test.YtnfglmfioifciaaMovesMath
namespace Go.Proofs.Ytnfglmfioifciaa

theorem cut_bv {n m : Nat} (h : n ≤ m) (v : BitVec m) : BitVec.ofInt n v.toInt = v.setWidth n := by
  rw [← BitVec.signExtend_eq_setWidth_of_le v h]; rfl
theorem cut_ofInt {n m : Nat} (h : n ≤ m) (z : Int) : (BitVec.ofInt m z).setWidth n = BitVec.ofInt n z := by
  rw [← cut_bv h, narrow_bv h]
theorem setWidth_sub' {n m : Nat} (h : n ≤ m) (x y : BitVec m) : (x - y).setWidth n = x.setWidth n - y.setWidth n := by
  have hy : y = BitVec.ofInt m y.toInt := BitVec.ofInt_toInt.symm
  rw [BitVec.sub_eq_add_neg, BitVec.setWidth_add _ _ h, BitVec.sub_eq_add_neg]
  congr 1
  rw [hy, ← BitVec.ofInt_neg, cut_ofInt h, cut_ofInt h, BitVec.ofInt_neg]
theorem narrow_two (o w v a b : Int) (ho : o = 11 ∨ o = 12 ∨ o = 13 ∨ o = 16 ∨ o = 17 ∨ o = 18) (h : nb w ≤ nb v) : wrp w (two o v a b) = two o w a b := by
  unfold wrp two
  congr 1
  show BitVec.ofInt (nb w) _ = _
  rw [cut_bv h]
  unfold bv
  rcases ho with rfl | rfl | rfl | rfl | rfl | rfl
  · rw [twoB_add, twoB_add, BitVec.setWidth_add _ _ h, cut_ofInt h, cut_ofInt h]
  · rw [twoB_sub, twoB_sub, setWidth_sub' h, cut_ofInt h, cut_ofInt h]
  · rw [twoB_mul, twoB_mul, BitVec.setWidth_mul _ _ h, cut_ofInt h, cut_ofInt h]
  · rw [twoB_and, twoB_and, BitVec.setWidth_and, cut_ofInt h, cut_ofInt h]
  · rw [twoB_or, twoB_or, BitVec.setWidth_or, cut_ofInt h, cut_ofInt h]
  · rw [twoB_xor, twoB_xor, BitVec.setWidth_xor, cut_ofInt h, cut_ofInt h]
theorem narrow_neg (w v a : Int) (h : nb w ≤ nb v) : wrp w (one 21 v a) = one 21 w a := by
  rw [← neg_sub, ← neg_sub]; exact narrow_two 12 w v 0 a (by omega) h
theorem narrow_not (w v a : Int) (h : nb w ≤ nb v) : wrp w (one 22 v a) = one 22 w a := by
  rw [← not_xor, ← not_xor]; exact narrow_two 18 w v a (-1) (by omega) h
end Go.Proofs.Ytnfglmfioifciaa
