/-
  QUOTIENT AND REST of a width.
-/
import Derived.Test.YtnfglmfioifciaaLaws
namespace Go.Proofs.Ytnfglmfioifciaa

theorem sdiv_bv {n : Nat} (x y : BitVec n) : x.sdiv y = BitVec.ofInt n (x.toInt.tdiv y.toInt) := by
  apply BitVec.toInt_inj.mp
  rw [BitVec.toInt_sdiv, BitVec.toInt_ofInt]
theorem srem_bv {n : Nat} (x y : BitVec n) : x.srem y = BitVec.ofInt n (x.toInt.tmod y.toInt) := by
  apply BitVec.toInt_inj.mp
  rw [BitVec.toInt_srem, BitVec.toInt_ofInt, ← BitVec.toInt_srem, BitVec.toInt_bmod_cancel]
theorem parts_bv {n : Nat} (x y : BitVec n) : x.sdiv y * y + x.srem y = x := by
  have hy : y = BitVec.ofInt n y.toInt := BitVec.ofInt_toInt.symm
  rw [sdiv_bv, srem_bv]
  conv => lhs; lhs; rhs; rw [hy]
  rw [← BitVec.ofInt_mul, ← BitVec.ofInt_add, Int.tdiv_mul_add_tmod, BitVec.ofInt_toInt]

theorem bv_zero {w b : Int} (h : wrp w b = 0) : bv w b = 0#(nb w) := by
  apply BitVec.toInt_inj.mp
  rw [BitVec.toInt_zero]; exact h
theorem bv_nonzero {w b : Int} (h : ¬ wrp w b = 0) : ¬ bv w b = 0#(nb w) := by
  intro q; apply h; unfold wrp; rw [q, BitVec.toInt_zero]
theorem div_zero' (w a b : Int) (h : wrp w b = 0) : two 14 w a b = 0 := by
  unfold two; rw [twoB_div, bv_zero h, BitVec.sdiv_zero, BitVec.toInt_zero]
theorem rem_zero' (w a b : Int) (h : wrp w b = 0) : two 15 w a b = 0 := by
  unfold two; rw [bv_zero h, twoB_rem0, BitVec.toInt_zero]
theorem trap_zero' (op w b : Int) (hw : w = 1 ∨ w = 2 ∨ w = 3) (ho : op = 14 ∨ op = 15) (h : wrp w b = 0) : trap op w b = 1 := by
  have := nb_pos hw
  unfold trap trapB; rw [if_pos ⟨ho, bv_zero h, by omega⟩]
theorem trap_by' (op w b : Int) (h : ¬ wrp w b = 0) : trap op w b = 0 := by
  unfold trap trapB; rw [if_neg (fun q => bv_nonzero h q.2.1)]
theorem parts' (w a b : Int) (h : ¬ wrp w b = 0) : two 11 w (two 13 w (two 14 w a b) b) (two 15 w a b) = wrp w a := by
  unfold two wrp
  simp only [twoB_add, twoB_mul, twoB_div, bv_toInt]
  rw [twoB_rem _ _ _ (bv_nonzero h), parts_bv]
theorem rem_is (w a b : Int) (h : ¬ wrp w b = 0) : two 15 w a b = (wrp w a).tmod (wrp w b) := by
  unfold two wrp
  rw [twoB_rem _ _ _ (bv_nonzero h), BitVec.toInt_srem]
theorem tmod_near (x y : Int) : (0 < y → x.tmod y < y ∧ -(x.tmod y) < y) ∧ (y < 0 → y < x.tmod y ∧ y < -(x.tmod y)) := by
  have key : ∀ z : Int, 0 < z → x.tmod z < z ∧ -(x.tmod z) < z := by
    intro z hz
    refine ⟨Int.tmod_lt_of_pos x hz, ?_⟩
    rw [← Int.neg_tmod]
    exact Int.tmod_lt_of_pos (-x) hz
  refine ⟨key y, fun h => ?_⟩
  have := key (-y) (by omega)
  rw [Int.tmod_neg] at this
  omega
theorem tmod_sign (x y : Int) : (0 ≤ x → 0 ≤ x.tmod y) ∧ (x < 0 → x.tmod y ≤ 0) := by
  refine ⟨fun h => Int.tmod_nonneg y h, fun h => ?_⟩
  have := Int.tmod_nonneg y (show 0 ≤ -x by omega)
  rw [Int.neg_tmod] at this
  omega
end Go.Proofs.Ytnfglmfioifciaa
