/-
  CONTRACTS of the kit's Pick.
-/
import Derived.Test.YtnnajgbkpilaaaaBase
namespace Go.Proofs.Ytnnajgbkpilaaaa
open Go.RowKit
set_option linter.unusedVariables false

def pk (x : Int) (n : Nat) : Nat := (x % (n : Int)).toNat
theorem pk_lt (x : Int) {n : Nat} (hn : 0 < n) : pk x n < n := by
  unfold pk
  have h1 := Int.emod_lt_of_pos x (show (0 : Int) < n by omega)
  have h2 := Int.emod_nonneg x (show (n : Int) ≠ 0 by omega)
  omega
theorem pick6 (x : Int) (w : World) : Calls Try.prog 10 #[.int .i64 x, .int .i64 6] w fun e w' => e = .returned (.int .i64 (pk x 6 : Int)) ∧ w = w' := by
  obtain ⟨z, hz⟩ : ∃ z : Int, Hid ((pk x 6 : Int) = z) := ⟨_, rfl⟩
  have e : z = x % 6 := by rw [← hz.out]; unfold pk; have := Int.emod_nonneg x (show (6 : Int) ≠ 0 by omega); omega
  rw [hz.out]
  have h1 := Int.tmod_eq_emod (a := x) (b := 6)
  obtain ⟨y, hy⟩ : ∃ y, x.tmod 6 = y := ⟨_, rfl⟩
  have h2 : (y < 0 → y + 6 = z) ∧ (0 ≤ y → y = z) ∧ -6 < y ∧ y < 6 := by
    rw [hy] at h1
    have a1 := Int.emod_nonneg x (show (6 : Int) ≠ 0 by omega)
    have a2 := Int.emod_lt_of_pos x (show (0 : Int) < 6 by omega)
    rw [← e] at h1 a1 a2
    split at h1
    · simp at h1; omega
    · have a3 : ((Int.natAbs 6 : Nat) : Int) = 6 := rfl
      rw [a3] at h1
      rename_i hd
      have : y ≤ 0 := by rw [h1]; omega
      have hne : y ≠ 0 := by
        intro q
        apply hd
        right
        exact Int.dvd_of_tmod_eq_zero (by rw [hy, q])
      omega
  obtain ⟨k1, k2, k3, k4⟩ := h2
  have K1 : Hid (y < 0 → y + 6 = z) := k1
  have K2 : Hid (0 ≤ y → y = z) := k2
  clear h1 e k1 k2
  go_enter Try.func10, Try.ntmps10
  go_wp2
  · rename_i q
    go_ret
    exact ⟨by rw [← K1.out q]; rfl, rfl⟩
  · rename_i q
    go_ret
    exact ⟨by rw [← K2.out q]; rfl, rfl⟩
theorem pick9 (x : Int) (w : World) : Calls Try.prog 10 #[.int .i64 x, .int .i64 9] w fun e w' => e = .returned (.int .i64 (pk x 9 : Int)) ∧ w = w' := by
  obtain ⟨z, hz⟩ : ∃ z : Int, Hid ((pk x 9 : Int) = z) := ⟨_, rfl⟩
  have e : z = x % 9 := by rw [← hz.out]; unfold pk; have := Int.emod_nonneg x (show (9 : Int) ≠ 0 by omega); omega
  rw [hz.out]
  have h1 := Int.tmod_eq_emod (a := x) (b := 9)
  obtain ⟨y, hy⟩ : ∃ y, x.tmod 9 = y := ⟨_, rfl⟩
  have h2 : (y < 0 → y + 9 = z) ∧ (0 ≤ y → y = z) ∧ -9 < y ∧ y < 9 := by
    rw [hy] at h1
    have a1 := Int.emod_nonneg x (show (9 : Int) ≠ 0 by omega)
    have a2 := Int.emod_lt_of_pos x (show (0 : Int) < 9 by omega)
    rw [← e] at h1 a1 a2
    split at h1
    · simp at h1; omega
    · have a3 : ((Int.natAbs 9 : Nat) : Int) = 9 := rfl
      rw [a3] at h1
      rename_i hd
      have : y ≤ 0 := by rw [h1]; omega
      have hne : y ≠ 0 := by
        intro q
        apply hd
        right
        exact Int.dvd_of_tmod_eq_zero (by rw [hy, q])
      omega
  obtain ⟨k1, k2, k3, k4⟩ := h2
  have K1 : Hid (y < 0 → y + 9 = z) := k1
  have K2 : Hid (0 ≤ y → y = z) := k2
  clear h1 e k1 k2
  go_enter Try.func10, Try.ntmps10
  go_wp2
  · rename_i q
    go_ret
    exact ⟨by rw [← K1.out q]; rfl, rfl⟩
  · rename_i q
    go_ret
    exact ⟨by rw [← K2.out q]; rfl, rfl⟩
end Go.Proofs.Ytnnajgbkpilaaaa
