/-
  WHAT THE DOCUMENT'S RECKONING ENDS WITH, wrapped, is what the rows of bits say.
-/
import Derived.Test.YtnfglmfioifciaaNarrowMath
namespace Go.Proofs.Ytnfglmfioifciaa
open Go.RowKit

theorem bv_w64 (X z : Int) : bv X (wrap64 z) = bv X z := narrow_w64 (nb_le X) z
theorem bv_wrp (X a : Int) : bv X (wrp X a) = bv X a := bv_toInt X _
theorem bv_add (X a b : Int) : bv X (a + b) = bv X a + bv X b := BitVec.ofInt_add _ _
theorem bv_mul (X a b : Int) : bv X (a * b) = bv X a * bv X b := BitVec.ofInt_mul _ _
theorem bv_neg (X a : Int) : bv X (-a) = -bv X a := BitVec.ofInt_neg
theorem wrp_def (X a : Int) : wrp X a = (bv X a).toInt := rfl
theorem two_def (op X a b : Int) : two op X a b = (twoB (nb X) op (bv X a) (bv X b)).toInt := rfl

theorem e_add (X a b m p : Int) (hm : wrp X a = m) (hp : wrp X b = p) : wrp X (wrap64 (m + p)) = two 11 X a b := by
  rw [← hm, ← hp, two_def, twoB_add, wrp_def X (wrap64 _), bv_w64, bv_add, bv_wrp, bv_wrp]
theorem e_sub (X a b m p : Int) (hm : wrp X a = m) (hp : wrp X b = p) : wrp X (wrap64 (m - p)) = two 12 X a b := by
  rw [← hm, ← hp, two_def, twoB_sub, wrp_def X (wrap64 _), bv_w64, Int.sub_eq_add_neg, bv_add, bv_neg, bv_wrp, bv_wrp, BitVec.sub_eq_add_neg]
theorem e_mul (X a b m p : Int) (hm : wrp X a = m) (hp : wrp X b = p) : wrp X (wrap64 (m * p)) = two 13 X a b := by
  rw [← hm, ← hp, two_def, twoB_mul, wrp_def X (wrap64 _), bv_w64, bv_mul, bv_wrp, bv_wrp]
theorem e_div (X a b m p : Int) (hm : wrp X a = m) (hp : wrp X b = p) : wrp X (wrap64 (m.tdiv p)) = two 14 X a b := by
  rw [← hm, ← hp, two_def, twoB_div, sdiv_bv, wrp_def X (wrap64 _), bv_w64]; rfl
theorem e_rem (X a b m p : Int) (hm : wrp X a = m) (hp : wrp X b = p) (hz : ¬ p = 0) : wrp X (m.tmod p) = two 15 X a b := by
  rw [← hp] at hz
  rw [← hm, ← hp, ← rem_is X a b hz, wrp_two]
theorem e_and (X a b m p : Int) (hm : wrp X a = m) (hp : wrp X b = p) : wrp X (BitVec.ofInt 64 m &&& BitVec.ofInt 64 p).toInt = two 16 X a b := by
  rw [two_def, twoB_and, wrp_def]
  congr 1
  show BitVec.ofInt (nb X) _ = _
  rw [cut_bv (nb_le X), BitVec.setWidth_and, cut_ofInt (nb_le X), cut_ofInt (nb_le X), ← bv_wrp X a, ← bv_wrp X b, hm, hp]; rfl
theorem e_or (X a b m p : Int) (hm : wrp X a = m) (hp : wrp X b = p) : wrp X (BitVec.ofInt 64 m ||| BitVec.ofInt 64 p).toInt = two 17 X a b := by
  rw [two_def, twoB_or, wrp_def]
  congr 1
  show BitVec.ofInt (nb X) _ = _
  rw [cut_bv (nb_le X), BitVec.setWidth_or, cut_ofInt (nb_le X), cut_ofInt (nb_le X), ← bv_wrp X a, ← bv_wrp X b, hm, hp]; rfl
theorem e_xor (X a b m p : Int) (hm : wrp X a = m) (hp : wrp X b = p) : wrp X (BitVec.ofInt 64 m ^^^ BitVec.ofInt 64 p).toInt = two 18 X a b := by
  rw [two_def, twoB_xor, wrp_def]
  congr 1
  show BitVec.ofInt (nb X) _ = _
  rw [cut_bv (nb_le X), BitVec.setWidth_xor, cut_ofInt (nb_le X), cut_ofInt (nb_le X), ← bv_wrp X a, ← bv_wrp X b, hm, hp]; rfl
theorem e_shl (X a b m : Int) (K : Nat) (hX : X = 1 ∨ X = 2 ∨ X = 3) (hm : wrp X a = m) (hK : (b % (nb X : Int)).toNat = K) : wrp X (wrap64 (m * wrap64 (IntKind.u64.wrap (2 ^ K)))) = two 19 X a b := by
  rw [← hm, shl_is X a b hX, hK, wrp_def X (wrap64 _), bv_w64, bv_mul, bv_wrp, power_bv, BitVec.shiftLeft_eq_mul_twoPow]
theorem e_shr (X a b m : Int) (K : Nat) (hX : X = 1 ∨ X = 2 ∨ X = 3) (hm : wrp X a = m) (hK : (b % (nb X : Int)).toNat = K) : wrp X (m / 2 ^ K) = two 20 X a b := by
  rw [← hm, ← hK, ← shr_is X a b hX, wrp_two]
theorem e_other (op X a b : Int) (h : op < 11 ∨ 20 < op) : wrp X 0 = two op X a b := by
  rw [two_def, twoB_other _ _ _ _ h, BitVec.toInt_zero, wrp_def]
  show (BitVec.ofInt (nb X) 0).toInt = 0
  rw [ofInt_zero', BitVec.toInt_zero]
theorem e_neg (X a m : Int) (hm : wrp X a = m) : wrp X (wrap64 (-m)) = one 21 X a := by
  rw [← hm, wrp_def X (wrap64 _), bv_w64, bv_neg, bv_wrp]; rfl
theorem e_not (X a m : Int) (hm : wrp X a = m) : wrp X (wrap64 (-1 - m)) = one 22 X a := by
  rw [← hm, wrp_def X (wrap64 _), bv_w64]
  show (BitVec.ofInt (nb X) (-1 - wrp X a)).toInt = _
  rw [← not_bv]
  show (~~~ bv X (wrp X a)).toInt = _
  rw [bv_wrp]; rfl
theorem e_count (X b p : Int) (hX : X = 1 ∨ X = 2 ∨ X = 3) (hp : wrp X b = p) : (IntKind.u64.wrap p).tmod (nb X : Int) = (((b % (nb X : Int)).toNat : Nat) : Int) := by
  have h1 := cnt_nb X p hX
  have h2 := cnt_nb X b hX
  have h3 : bv X p = bv X b := by rw [← hp, bv_wrp]
  rw [h3, h2] at h1
  rw [h1, IntKind.wrap_u64, Int.tmod_eq_emod_of_nonneg (by omega)]
  have hd : (nb X : Int) ∣ 18446744073709551616 := by rcases hX with rfl | rfl | rfl <;> decide
  rw [Int.emod_emod_of_dvd _ hd]
  have hn := nb_pos hX
  have := Int.emod_nonneg p (show (nb X : Int) ≠ 0 by omega)
  omega
end Go.Proofs.Ytnfglmfioifciaa
