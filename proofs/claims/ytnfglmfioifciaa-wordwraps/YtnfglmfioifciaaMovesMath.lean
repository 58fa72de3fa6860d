/-
  MOVES of a width.
-/
import Derived.Test.YtnfglmfioifciaaPartsMath
namespace Go.Proofs.Ytnfglmfioifciaa

/-- What is wrapped into a wider width first is the same in a narrower one. -/
theorem narrow_bv {n m : Nat} (h : n ≤ m) (z : Int) : BitVec.ofInt n (BitVec.ofInt m z).toInt = BitVec.ofInt n z := by
  apply BitVec.eq_of_toNat_eq
  have hd : ((2 ^ n : Nat) : Int) ∣ ((2 ^ m : Nat) : Int) := Int.natCast_dvd_natCast.mpr (Nat.pow_dvd_pow 2 h)
  rw [BitVec.toNat_ofInt, BitVec.toNat_ofInt, BitVec.toInt_ofInt]
  congr 1
  have e1 : (z.bmod (2 ^ m)) % ((2 ^ m : Nat) : Int) = z % ((2 ^ m : Nat) : Int) := Int.bmod_emod
  rw [← Int.emod_emod_of_dvd (z.bmod (2 ^ m)) hd, e1, Int.emod_emod_of_dvd _ hd]
theorem narrow_w64 {n : Nat} (h : n ≤ 64) (z : Int) : BitVec.ofInt n (RowKit.wrap64 z) = BitVec.ofInt n z := by
  rw [wrap_w64, narrow_bv h]
theorem cnt_nb (X k : Int) (hX : X = 1 ∨ X = 2 ∨ X = 3) : (bv X k).toNat % nb X = (k % (nb X : Int)).toNat := by
  rcases hX with rfl | rfl | rfl
  · exact cnt8 k
  · exact cnt32 k
  · exact cnt64 k
theorem shl_is (X a k : Int) (hX : X = 1 ∨ X = 2 ∨ X = 3) : two 19 X a k = (bv X a <<< (k % (nb X : Int)).toNat).toInt := by
  unfold two; rw [twoB_shl, cnt_nb X k hX]
theorem shr_is (X a k : Int) (hX : X = 1 ∨ X = 2 ∨ X = 3) : two 20 X a k = (wrp X a) / 2 ^ (k % (nb X : Int)).toNat := by
  unfold two; rw [twoB_shr, cnt_nb X k hX, shr_bv]; rfl
theorem pow_bv (n j : Nat) : BitVec.ofInt n (2 ^ j) = BitVec.twoPow n j := by
  rw [show (2 : Int) ^ j = ((2 ^ j : Nat) : Int) by simp, BitVec.ofInt_natCast]
  apply BitVec.eq_of_toNat_eq
  simp [BitVec.toNat_twoPow]
theorem mv_up (X a k P : Int) (hX : X = 1 ∨ X = 2 ∨ X = 3) (hP : bv X P = BitVec.twoPow (nb X) (k % (nb X : Int)).toNat) : two 13 X (wrp X a) P = two 19 X a k := by
  rw [shl_is X a k hX]
  unfold two wrp; rw [twoB_mul, bv_toInt, hP, BitVec.shiftLeft_eq_mul_twoPow]
theorem mv_same (op X a k : Int) (ho : op = 19 ∨ op = 20) (hX : X = 1 ∨ X = 2 ∨ X = 3) : two op X a (k % (nb X : Int)) = two op X a k := by
  rcases ho with rfl | rfl
  · rw [shl_is X a _ hX, shl_is X a _ hX, Int.emod_emod]
  · rw [shr_is X a _ hX, shr_is X a _ hX, Int.emod_emod]
theorem mask_bv {n : Nat} (x : BitVec n) (j : Nat) (hj : j < n) : BitVec.ofInt n (x.toInt % 2 ^ j) = x &&& BitVec.ofInt n (2 ^ j - 1) := by
  have hlt : 2 ^ j < 2 ^ n := Nat.pow_lt_pow_right (by omega) hj
  have hd : ((2 ^ j : Nat) : Int) ∣ ((2 ^ n : Nat) : Int) := Int.natCast_dvd_natCast.mpr (Nat.pow_dvd_pow 2 (by omega))
  have h1 : x.toInt % 2 ^ j = ((x.toNat % 2 ^ j : Nat) : Int) := by
    rw [show (2 : Int) ^ j = ((2 ^ j : Nat) : Int) by simp, BitVec.toInt_eq_toNat_bmod, ← Int.emod_emod_of_dvd _ hd, Int.bmod_emod, Int.emod_emod_of_dvd _ hd]
    rfl
  have hp : 0 < 2 ^ j := Nat.two_pow_pos j
  have h2 : (2 : Int) ^ j - 1 = ((2 ^ j - 1 : Nat) : Int) := by rw [Int.natCast_sub hp]; simp
  rw [h1, h2, BitVec.ofInt_natCast, BitVec.ofInt_natCast]
  apply BitVec.eq_of_toNat_eq
  rw [BitVec.toNat_and, BitVec.toNat_ofNat, BitVec.toNat_ofNat, Nat.mod_eq_of_lt (show 2 ^ j - 1 < 2 ^ n by omega), Nat.and_two_pow_sub_one_eq_mod, Nat.mod_eq_of_lt]
  exact Nat.lt_of_lt_of_le (Nat.mod_lt _ hp) (by omega)
theorem mv_left (X a k Q : Int) (hX : X = 1 ∨ X = 2 ∨ X = 3) (hQ : bv X Q = BitVec.ofInt (nb X) (2 ^ (k % (nb X : Int)).toNat - 1)) :
    two 16 X (wrp X a) Q = two 12 X (wrp X a) (two 19 X (two 20 X a k) k) := by
  have hn := nb_pos hX
  have hj : (k % (nb X : Int)).toNat < nb X := by
    have h1 := Int.emod_lt_of_pos k (show (0 : Int) < nb X by omega)
    have h2 := Int.emod_nonneg k (show (nb X : Int) ≠ 0 by omega)
    omega
  obtain ⟨j, hje⟩ : ∃ j, j = (k % (nb X : Int)).toNat := ⟨_, rfl⟩
  have e1 : bv X (two 19 X (two 20 X a k) k) = BitVec.ofInt (nb X) ((wrp X a) / 2 ^ j * 2 ^ j) := by
    rw [shl_is _ _ _ hX, shr_is _ _ _ hX, bv_toInt, ← hje, shl_bv]; rfl
  unfold two at e1 ⊢
  rw [twoB_and, twoB_sub, e1, hQ, ← hje]
  congr 1
  have e2 : bv X (wrp X a) = bv X a := by unfold wrp; rw [bv_toInt]
  rw [e2, ← mask_bv _ _ (by omega)]
  have e3 : bv X a = BitVec.ofInt (nb X) (wrp X a) := (bv_toInt X (bv X a)).symm
  rw [BitVec.sub_eq_add_neg, ← BitVec.ofInt_neg]
  conv => rhs; lhs; rw [e3]
  rw [← BitVec.ofInt_add]
  congr 1
  have h := Int.mul_ediv_add_emod (wrp X a) (2 ^ j)
  have h' : (2 : Int) ^ j * (wrp X a / 2 ^ j) = wrp X a / 2 ^ j * 2 ^ j := Int.mul_comm _ _
  show wrp X a % 2 ^ j = _
  omega
theorem mv_sign (X a k : Int) (hX : X = 1 ∨ X = 2 ∨ X = 3) : two 20 X a k < 0 ↔ wrp X a < 0 := by
  rw [shr_is _ _ _ hX]
  have hp : (0 : Int) < 2 ^ (k % (nb X : Int)).toNat := Int.pow_pos (by omega)
  constructor
  · intro h
    by_cases h1 : wrp X a < 0
    · exact h1
    · have := Int.ediv_nonneg (show 0 ≤ wrp X a by omega) (Int.le_of_lt hp); omega
  · intro h; exact Int.ediv_neg_of_neg_of_pos h hp
theorem emod64_bv {n : Nat} (h : n ≤ 64) (z : Int) : BitVec.ofInt n (IntKind.u64.wrap z) = BitVec.ofInt n z := by
  rw [IntKind.wrap_u64]
  apply BitVec.eq_of_toNat_eq
  have hd : ((2 ^ n : Nat) : Int) ∣ (18446744073709551616 : Int) := by
    rw [show (18446744073709551616 : Int) = ((2 ^ 64 : Nat) : Int) by decide]
    exact Int.natCast_dvd_natCast.mpr (Nat.pow_dvd_pow 2 h)
  rw [BitVec.toNat_ofInt, BitVec.toNat_ofInt, Int.emod_emod_of_dvd _ hd]
theorem power_bv (X : Int) (j : Nat) : bv X (RowKit.wrap64 (IntKind.u64.wrap (2 ^ j))) = BitVec.twoPow (nb X) j := by
  unfold bv; rw [narrow_w64 (nb_le X), emod64_bv (nb_le X), pow_bv]
theorem mask_power (X : Int) (j : Nat) : bv X (RowKit.wrap64 (RowKit.wrap64 (IntKind.u64.wrap (2 ^ j)) - 1)) = BitVec.ofInt (nb X) (2 ^ j - 1) := by
  have h := power_bv X j
  unfold bv at h ⊢
  rw [narrow_w64 (nb_le X), Int.sub_eq_add_neg, BitVec.ofInt_add, h, ← pow_bv, ← BitVec.ofInt_add]; rfl
end Go.Proofs.Ytnfglmfioifciaa
