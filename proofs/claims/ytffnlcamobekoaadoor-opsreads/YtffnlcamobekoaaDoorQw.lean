/-
  CONTRACTS of layer 2's own Bits, Wrap, Fits.
-/
import Derived.Test.YtffnlcamobekoaaDoorQm
namespace Go.Proofs.YtffnlcamobekoaaDoor.Q02
open Go.RowKit
set_option linter.unusedVariables false

theorem rbits_any (x : Int) (w : World) : Calls Tryd.prog 68 #[.int .u8 x] w fun e w' => e = .returned (.int .i64 (nb x)) ∧ w = w' := by
  by_cases h1 : x = 1
  · subst h1
    go_enter Tryd.func68, Tryd.ntmps68
    go_wp2
    go_ret
    exact ⟨rfl, rfl⟩
  by_cases h2 : x = 2
  · subst h2
    go_enter Tryd.func68, Tryd.ntmps68
    go_wp2
    go_ret
    exact ⟨rfl, rfl⟩
  by_cases h3 : x = 3
  · subst h3
    go_enter Tryd.func68, Tryd.ntmps68
    go_wp2
    go_ret
    exact ⟨rfl, rfl⟩
  have hn : nb x = 0 := by simp [nb, h1, h2, h3]
  rw [hn]
  clear hn
  go_enter Tryd.func68, Tryd.ntmps68
  go_wp2
  go_ret
  exact ⟨rfl, rfl⟩
theorem rbits_as (x n : Int) (hn : (nb x : Int) = n) (w : World) : Calls Tryd.prog 68 #[.int .u8 x] w fun e w' => e = .returned (.int .i64 n) ∧ w = w' := by
  subst hn; exact rbits_any x w

/-- The first loop: the lowest bits. -/
def LowRel (U B : Nat) (v i : Value) : Prop := ∃ k T : Nat, k ≤ B ∧ i = .int .i64 k ∧ v = .int .u64 (T : Int) ∧ T = U % 2 ^ k
/-- The second loop: the sign. -/
def ExtRel (U B : Nat) (v i : Value) : Prop := ∃ k T : Nat, B ≤ k ∧ k ≤ 64 ∧ i = .int .i64 k ∧ v = .int .u64 (T : Int) ∧ T = ext U B k

set_option maxRecDepth 100000 in
theorem rwrap_walk (X n : Int) (U B : Nat) (HV : Hid (X = 1 ∨ X = 2 ∨ X = 3)) (hB : Hid (nb X = B)) (b1 : 1 ≤ B) (b2 : B ≤ 64) (hU : IntKind.u64.wrap n = (U : Int)) (HU : Hid (U < 18446744073709551616)) (w : World) :
    Calls Tryd.prog 81 #[.int .u8 X, .int .i64 n] w fun e w' => e = .returned (.int .i64 (wrp X n)) ∧ w = w' := by
  have p1 : (0 : Int) < B := by omega
  have p2 : ((B : Int) - 1).toNat = B - 1 := by omega
  have HW : Hid (IntKind.u64.wrap n = (U : Int)) := hU
  go_enter Tryd.func81, Tryd.ntmps81
  go_wp2_with fail
  refine (rbits_as X B (by rw [hB.out]) _).mono ?_
  rintro e wx ⟨rfl, rfl⟩
  go_wp2_with fail
  go_loop [6, 7] (fun v i => LowRel U B v i) (fun _ i => B - (intOf i).toNat)
  case atStart => exact ⟨0, 0, by omega, rfl, rfl, by simp [Nat.mod_one]⟩
  case round =>
    obtain ⟨k, T, hk, rfl, rfl, hT⟩ := hrel
    have HT : Hid (T = U % 2 ^ k) := hT
    clear hT
    by_cases hlt : k < B
    · go_wp2
      go_round
      case rel => exact ⟨k + 1, _, by omega, by go_num, by rw [low_step U T k HU.out HT.out (by omega)], rfl⟩
      case measure => simp [intOf]; omega
    · have hkB : k = B := by omega
      subst hkB
      go_wp2
      go_loop [6, 8] (fun v i => ExtRel U k v i) (fun _ i => 64 - (intOf i).toNat)
      case atStart => exact ⟨k, T, by omega, by omega, rfl, rfl, by rw [HT.out, ext_start]⟩
      case round =>
        obtain ⟨j, S, hj, hj2, rfl, rfl, hS⟩ := hrel
        have HS : Hid (S = ext U k j) := hS
        clear hS
        by_cases hlt2 : j < 64
        · go_wp2
          go_round
          case rel =>
            exact ⟨j + 1, _, by omega, by omega, by go_num, by rw [ext_step U S k j HU.out HS.out hj (by omega)], rfl⟩
          case measure => simp [intOf]; omega
        · have hj3 : j = 64 := by omega
          subst hj3
          go_wp2
          go_ret
          refine ⟨ret_int ?_, rfl⟩
          rw [HS.out, ← hB.out]
          exact ext_end X n U HV.out HW.out

set_option maxRecDepth 100000 in
theorem rwrap_none (X n : Int) (hB : (nb X : Int) = 0) (w : World) :
    Calls Tryd.prog 81 #[.int .u8 X, .int .i64 n] w fun e w' => e = .returned (.int .i64 (wrp X n)) ∧ w = w' := by
  rw [show wrp X n = 0 from bv_none (by omega) _]
  go_enter Tryd.func81, Tryd.ntmps81
  go_wp2_with fail
  refine (rbits_as X 0 hB _).mono ?_
  rintro e wx ⟨rfl, rfl⟩
  go_wp2_with fail
  go_rounds 1
  go_rounds 1
  go_ret
  exact ⟨rfl, rfl⟩
theorem rwrap_any (X n : Int) (w : World) :
    Calls Tryd.prog 81 #[.int .u8 X, .int .i64 n] w fun e w' => e = .returned (.int .i64 (wrp X n)) ∧ w = w' := by
  by_cases hX : X = 1 ∨ X = 2 ∨ X = 3
  · obtain ⟨U, hU⟩ := Int.eq_ofNat_of_zero_le (show 0 ≤ IntKind.u64.wrap n by rw [IntKind.wrap_u64]; omega)
    have h1 := nb_pos hX
    have h2 := nb_le X
    exact rwrap_walk X n U _ hX rfl (by omega) h2 hU (by rw [IntKind.wrap_u64] at hU; unfold Hid; omega) w
  · exact rwrap_none X n (by rw [nb_none (by omega) (by omega) (by omega)]; rfl) w
theorem rwrap_as (X n m : Int) (h : wrp X n = m) (w : World) :
    Calls Tryd.prog 81 #[.int .u8 X, .int .i64 n] w fun e w' => e = .returned (.int .i64 m) ∧ w = w' := by
  subst h; exact rwrap_any X n w

theorem rfits_any (x n : Int) (w : World) : Calls Tryd.prog 55 #[.int .u8 x, .int .i64 n] w fun e w' => e = .returned (.bool (fits x n)) ∧ w = w' := by
  by_cases h0 : nb x = 0
  · have hb : Calls Tryd.prog 68 #[.int .u8 x] w fun e w' => e = .returned (.int .i64 0) ∧ w = w' := by
      have := rbits_any x w; rw [h0] at this; exact this
    have hf : fits x n = false := by simp [fits, h0]
    rw [hf]
    go_enter Tryd.func55, Tryd.ntmps55
    go_wp2_with fail
    refine hb.mono ?_
    rintro e w1 ⟨rfl, rfl⟩
    go_wp2
    go_ret
    exact ⟨rfl, rfl⟩
  · obtain ⟨N, hN⟩ : ∃ N : Int, N = (nb x : Int) := ⟨_, rfl⟩
    have hp : 0 < N := by omega
    have hb : Calls Tryd.prog 68 #[.int .u8 x] w fun e w' => e = .returned (.int .i64 N) ∧ w = w' := by
      rw [hN]; exact rbits_any x w
    have hf : fits x n = decide (wrp x n = n) := by simp [fits]; omega
    rw [hf]
    clear hN h0
    go_enter Tryd.func55, Tryd.ntmps55
    go_wp2_with fail
    refine hb.mono ?_
    rintro e w1 ⟨rfl, rfl⟩
    go_wp2_with fail
    refine (rwrap_any x n _).mono ?_
    rintro e w1 ⟨rfl, rfl⟩
    go_wp2
    go_ret
    exact ⟨ret_bool (by rw [Bool.eq_iff_iff]; simp), rfl⟩
theorem rfits_as (x n : Int) (t : Bool) (h : fits x n = t) (w : World) : Calls Tryd.prog 55 #[.int .u8 x, .int .i64 n] w fun e w' => e = .returned (.bool t) ∧ w = w' := by
  subst h; exact rfits_any x n w
end Go.Proofs.YtffnlcamobekoaaDoor.Q02
