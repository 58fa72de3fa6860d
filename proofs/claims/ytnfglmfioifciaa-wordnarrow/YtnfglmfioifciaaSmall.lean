/-
  CONTRACTS of word.Bits, word.Wrap, word.Fits, word.count.
-/
import Derived.Test.YtnfglmfioifciaaChecked
import Derived.Test.YtnfglmfioifciaaMath
import Derived.WalkKit
import Derived.WalkLawsBesides
import Derived.Handy
import Derived.Outline
namespace Go.Proofs.Ytnfglmfioifciaa
open Go.RowKit
set_option linter.unusedVariables false

theorem ret_int {k : IntKind} {x y : Int} (h : x = y) : Ending.returned (.int k x) = .returned (.int k y) := by rw [h]
theorem ret_bool {x y : Bool} (h : x = y) : Ending.returned (.bool x) = Ending.returned (.bool y) := by rw [h]
theorem ret2 {k1 k2 : IntKind} {a b a' b' : Int} (h1 : a = a') (h2 : b = b') :
    Ending.returned (.tuple #[.int k1 a, .int k2 b]) = Ending.returned (.tuple #[.int k1 a', .int k2 b']) := by subst h1 h2; rfl

theorem bits_any (x : Int) (w : World) : Calls Try.prog 9 #[.int .u8 x] w fun e w' => e = .returned (.int .i64 (nb x)) ∧ w = w' := by
  by_cases h1 : x = 1
  · subst h1
    go_enter Try.func9, Try.ntmps9
    go_wp2
    go_ret
    exact ⟨rfl, rfl⟩
  by_cases h2 : x = 2
  · subst h2
    go_enter Try.func9, Try.ntmps9
    go_wp2
    go_ret
    exact ⟨rfl, rfl⟩
  by_cases h3 : x = 3
  · subst h3
    go_enter Try.func9, Try.ntmps9
    go_wp2
    go_ret
    exact ⟨rfl, rfl⟩
  have hn : nb x = 0 := by simp [nb, h1, h2, h3]
  rw [hn]
  clear hn
  go_enter Try.func9, Try.ntmps9
  go_wp2
  go_ret
  exact ⟨rfl, rfl⟩

theorem wrap_any (x n : Int) (h : -9223372036854775808 ≤ n) (h' : n ≤ 9223372036854775807) (w : World) : Calls Try.prog 13 #[.int .u8 x, .int .i64 n] w fun e w' => e = .returned (.int .i64 (wrp x n)) ∧ w = w' := by
  by_cases h1 : x = 1
  · subst h1
    go_enter Try.func13, Try.ntmps13
    go_wp2
    go_ret
    refine ⟨ret_int ?_, rfl⟩
    rw [wrap_s8, w64_bv (by omega)]; rfl
  by_cases h2 : x = 2
  · subst h2
    go_enter Try.func13, Try.ntmps13
    go_wp2
    go_ret
    refine ⟨ret_int ?_, rfl⟩
    rw [wrap_w32, w64_bv (by omega)]; rfl
  by_cases h3 : x = 3
  · subst h3
    go_enter Try.func13, Try.ntmps13
    go_wp2
    go_ret
    refine ⟨ret_int ?_, rfl⟩
    exact (bv64_id ⟨h, h'⟩).symm
  go_enter Try.func13, Try.ntmps13
  go_wp2
  go_ret
  refine ⟨ret_int ?_, rfl⟩
  exact (bv_none (nb_none h1 h2 h3) _).symm

theorem fits_any (x n : Int) (h : -9223372036854775808 ≤ n) (h' : n ≤ 9223372036854775807) (w : World) : Calls Try.prog 11 #[.int .u8 x, .int .i64 n] w fun e w' => e = .returned (.bool (fits x n)) ∧ w = w' := by
  by_cases h0 : nb x = 0
  · have hb : Calls Try.prog 9 #[.int .u8 x] w fun e w' => e = .returned (.int .i64 0) ∧ w = w' := by
      have := bits_any x w; rw [h0] at this; exact this
    have hf : fits x n = false := by simp [fits, h0]
    rw [hf]
    go_enter Try.func11, Try.ntmps11
    go_wp2_with fail
    refine hb.mono ?_
    rintro e w1 ⟨rfl, rfl⟩
    go_wp2
    go_ret
    exact ⟨rfl, rfl⟩
  · obtain ⟨N, hN⟩ : ∃ N : Int, N = (nb x : Int) := ⟨_, rfl⟩
    have hp : 0 < N := by omega
    have hb : Calls Try.prog 9 #[.int .u8 x] w fun e w' => e = .returned (.int .i64 N) ∧ w = w' := by
      rw [hN]; exact bits_any x w
    have hf : fits x n = decide (wrp x n = n) := by simp [fits]; omega
    rw [hf]
    clear hN h0
    go_enter Try.func11, Try.ntmps11
    go_wp2_with fail
    refine hb.mono ?_
    rintro e w1 ⟨rfl, rfl⟩
    go_wp2_with fail
    refine (wrap_any x n h h' _).mono ?_
    rintro e w1 ⟨rfl, rfl⟩
    go_wp2
    go_ret
    exact ⟨ret_bool (by rw [Bool.eq_iff_iff]; simp), rfl⟩

theorem count8_any (b : Int) (h : -128 ≤ b) (h' : b ≤ 127) (w : World) : Calls Try.prog 37 #[.int .u8 1, .int .i8 b] w fun e w' => e = .returned (.int .u64 (b % 8)) ∧ w = w' := by
  go_enter Try.func37, Try.ntmps37
  go_wp2_with fail
  refine (bits_any 1 _).mono ?_
  rintro e w1 ⟨rfl, rfl⟩
  rw [show ((nb 1 : Nat) : Int) = 8 from rfl]
  go_wp2
  go_ret
  refine ⟨ret_int ?_, rfl⟩
  rw [IntKind.wrap_u64]; exact mask8 b
theorem count32_any (b : Int) (h : -2147483648 ≤ b) (h' : b ≤ 2147483647) (w : World) : Calls Try.prog 38 #[.int .u8 2, .int .i32 b] w fun e w' => e = .returned (.int .u64 (b % 32)) ∧ w = w' := by
  go_enter Try.func38, Try.ntmps38
  go_wp2_with fail
  refine (bits_any 2 _).mono ?_
  rintro e w1 ⟨rfl, rfl⟩
  rw [show ((nb 2 : Nat) : Int) = 32 from rfl]
  go_wp2
  go_ret
  refine ⟨ret_int ?_, rfl⟩
  rw [IntKind.wrap_u64]; exact mask32 b
theorem count64_any (b : Int) (h : -9223372036854775808 ≤ b) (h' : b ≤ 9223372036854775807) (w : World) : Calls Try.prog 39 #[.int .u8 3, .int .i64 b] w fun e w' => e = .returned (.int .u64 (b % 64)) ∧ w = w' := by
  go_enter Try.func39, Try.ntmps39
  go_wp2_with fail
  refine (bits_any 3 _).mono ?_
  rintro e w1 ⟨rfl, rfl⟩
  rw [show ((nb 3 : Nat) : Int) = 64 from rfl]
  go_wp2
  go_ret
  refine ⟨ret_int ?_, rfl⟩
  rw [IntKind.wrap_u64]; exact mask64 b
end Go.Proofs.Ytnfglmfioifciaa
