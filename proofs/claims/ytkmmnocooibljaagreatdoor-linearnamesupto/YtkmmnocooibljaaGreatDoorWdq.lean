/-
  Wd, what is reached of it.
-/
import Derived.Test.YtkmmnocooibljaaGreatDoorLz
import Derived.Test.YtkmmnocooibljaaGreatDoorLbq
namespace Go.Proofs.YtkmmnocooibljaaGreatDoor
open Go.ChangeShapes Go.WideShapes Go.ChangeAt Go.RowKit Go.Deep
set_option linter.unusedVariables false

theorem bits1 (w : World) : Calls Tryz.prog 117 #[.int .u8 1] w fun e w' => e = .returned (.int .i64 8) ∧ w = w' := by
  go_enter Tryz.func117, Tryz.ntmps117
  go_wp2
  go_ret
  exact ⟨rfl, rfl⟩
theorem bits2 (w : World) : Calls Tryz.prog 117 #[.int .u8 2] w fun e w' => e = .returned (.int .i64 32) ∧ w = w' := by
  go_enter Tryz.func117, Tryz.ntmps117
  go_wp2
  go_ret
  exact ⟨rfl, rfl⟩
theorem bits3 (w : World) : Calls Tryz.prog 117 #[.int .u8 3] w fun e w' => e = .returned (.int .i64 64) ∧ w = w' := by
  go_enter Tryz.func117, Tryz.ntmps117
  go_wp2
  go_ret
  exact ⟨rfl, rfl⟩
theorem bits0 (w : World) : Calls Tryz.prog 117 #[.int .u8 0] w fun e w' => e = .returned (.int .i64 0) ∧ w = w' := by
  go_enter Tryz.func117, Tryz.ntmps117
  go_wp2
  go_ret
  exact ⟨rfl, rfl⟩
def wr8 (n : Int) : Int := (n + 128) % 256 - 128
def wr32 (n : Int) : Int := (n + 2147483648) % 4294967296 - 2147483648
theorem wrap_s8 (x : Int) : IntKind.i8.wrap x = wr8 x := by
  unfold wr8
  simp [IntKind.wrap, IntKind.bits, IntKind.signed]
  split <;> omega
theorem wrap1 (n : Int) (w : World) : Calls Tryz.prog 127 #[.int .u8 1, .int .i64 n] w fun e w' => e = .returned (.int .i64 (wr8 n)) ∧ w = w' := by
  go_enter Tryz.func127, Tryz.ntmps127
  go_wp2
  go_ret
  refine ⟨ret_int ?_, rfl⟩
  rw [wrap_s8]; unfold wrap64 wr8; omega
theorem wrap2 (n : Int) (w : World) : Calls Tryz.prog 127 #[.int .u8 2, .int .i64 n] w fun e w' => e = .returned (.int .i64 (wr32 n)) ∧ w = w' := by
  go_enter Tryz.func127, Tryz.ntmps127
  go_wp2
  go_ret
  refine ⟨ret_int ?_, rfl⟩
  unfold wrap64 wrap32 wr32; omega
theorem wrap3 (n : Int) (w : World) : Calls Tryz.prog 127 #[.int .u8 3, .int .i64 n] w fun e w' => e = .returned (.int .i64 n) ∧ w = w' := by
  go_enter Tryz.func127, Tryz.ntmps127
  go_wp2
  go_ret
  exact ⟨rfl, rfl⟩
theorem fits1 (n : Int) (b : Bool) (hb : decide (wr8 n = n) = b) (w : World) : Calls Tryz.prog 136 #[.int .u8 1, .int .i64 n] w fun e w' => e = .returned (.bool b) ∧ w = w' := by
  subst hb
  go_enter Tryz.func136, Tryz.ntmps136
  go_wp2_with fail
  refine (bits1 _).mono ?_
  rintro e w1 ⟨rfl, rfl⟩
  go_wp2_with fail
  refine (wrap1 n _).mono ?_
  rintro e w1 ⟨rfl, rfl⟩
  go_wp2
  go_ret
  exact ⟨ret_bool (by rw [Bool.eq_iff_iff]; simp), rfl⟩
theorem fits2 (n : Int) (b : Bool) (hb : decide (wr32 n = n) = b) (w : World) : Calls Tryz.prog 136 #[.int .u8 2, .int .i64 n] w fun e w' => e = .returned (.bool b) ∧ w = w' := by
  subst hb
  go_enter Tryz.func136, Tryz.ntmps136
  go_wp2_with fail
  refine (bits2 _).mono ?_
  rintro e w1 ⟨rfl, rfl⟩
  go_wp2_with fail
  refine (wrap2 n _).mono ?_
  rintro e w1 ⟨rfl, rfl⟩
  go_wp2
  go_ret
  exact ⟨ret_bool (by rw [Bool.eq_iff_iff]; simp), rfl⟩
theorem fits3 (n : Int) (w : World) : Calls Tryz.prog 136 #[.int .u8 3, .int .i64 n] w fun e w' => e = .returned (.bool true) ∧ w = w' := by
  go_enter Tryz.func136, Tryz.ntmps136
  go_wp2_with fail
  refine (bits3 _).mono ?_
  rintro e w1 ⟨rfl, rfl⟩
  go_wp2_with fail
  refine (wrap3 n _).mono ?_
  rintro e w1 ⟨rfl, rfl⟩
  go_wp2
  go_ret
  exact ⟨ret_bool (by simp), rfl⟩
/-- What a function that asks of a number answers. -/
def MayIs (f : Nat) (k : Nm) : Prop := ∀ (n : Int) (w : World), -9223372036854775808 ≤ n → n ≤ 9223372036854775807 → Calls Tryz.prog f #[.int .i64 n] w fun e w' => e = .returned (.bool (k.may n)) ∧ w = w'
theorem may_lo (k : Nm) (n : Int) (h : ¬ k.lo ≤ n) : k.may n = false := by unfold Nm.may; simp [h]
theorem may_hi (k : Nm) (n : Int) (h : k.lo ≤ n) : k.may n = decide (n ≤ k.hi) := by unfold Nm.may; simp [h]
theorem may_byte : MayIs 125 nByte := by
  intro n w h1 h2
  by_cases h : (0 : Int) ≤ n
  · rw [may_hi nByte n h]; show Calls _ _ _ _ fun e w' => e = .returned (.bool (decide (n ≤ 255))) ∧ _
    go_enter Tryz.func125, Tryz.ntmps125
    go_wp2
    go_ret
    exact ⟨rfl, rfl⟩
  · rw [may_lo nByte n h]
    go_enter Tryz.func125, Tryz.ntmps125
    go_wp2
    go_ret
    exact ⟨rfl, rfl⟩
theorem may_short : MayIs 121 nShort := by
  intro n w h1 h2
  by_cases h : (0 : Int) ≤ n
  · rw [may_hi nShort n h]; show Calls _ _ _ _ fun e w' => e = .returned (.bool (decide (n ≤ 65535))) ∧ _
    go_enter Tryz.func121, Tryz.ntmps121
    go_wp2
    go_ret
    exact ⟨rfl, rfl⟩
  · rw [may_lo nShort n h]
    go_enter Tryz.func121, Tryz.ntmps121
    go_wp2
    go_ret
    exact ⟨rfl, rfl⟩
theorem may_place : MayIs 124 nPlace := by
  intro n w h1 h2
  by_cases h : (0 : Int) ≤ n
  · rw [may_hi nPlace n h]; show Calls _ _ _ _ fun e w' => e = .returned (.bool (decide (n ≤ 4294967295))) ∧ _
    go_enter Tryz.func124, Tryz.ntmps124
    go_wp2
    go_ret
    exact ⟨rfl, rfl⟩
  · rw [may_lo nPlace n h]
    go_enter Tryz.func124, Tryz.ntmps124
    go_wp2
    go_ret
    exact ⟨rfl, rfl⟩
theorem may_width : MayIs 122 nWidth := by
  intro n w h1 h2
  by_cases h : (1 : Int) ≤ n
  · rw [may_hi nWidth n h]; show Calls _ _ _ _ fun e w' => e = .returned (.bool (decide (n ≤ 3))) ∧ _
    go_enter Tryz.func122, Tryz.ntmps122
    go_wp2
    go_ret
    exact ⟨rfl, rfl⟩
  · rw [may_lo nWidth n h]
    go_enter Tryz.func122, Tryz.ntmps122
    go_wp2
    go_ret
    exact ⟨rfl, rfl⟩
theorem may_kind : MayIs 123 nKind := by
  intro n w h1 h2
  by_cases h : (1 : Int) ≤ n
  · rw [may_hi nKind n h]; show Calls _ _ _ _ fun e w' => e = .returned (.bool (decide (n ≤ 5))) ∧ _
    go_enter Tryz.func123, Tryz.ntmps123
    go_wp2
    go_ret
    exact ⟨rfl, rfl⟩
  · rw [may_lo nKind n h]
    go_enter Tryz.func123, Tryz.ntmps123
    go_wp2
    go_ret
    exact ⟨rfl, rfl⟩
theorem may_nothing : MayIs 116 nNone := by
  intro n w h1 h2
  go_enter Tryz.func116, Tryz.ntmps116
  go_wp2
  go_ret
  exact ⟨ret_bool (by unfold Nm.may nNone; rw [Bool.eq_iff_iff]; simp; omega), rfl⟩
theorem may_i8 (k : Nm) (h1 : k.lo = -128) (h2 : k.hi = 127) : MayIs 118 k := by
  intro n w _ _
  have e : decide (wr8 n = n) = k.may n := by unfold Nm.may wr8; rw [h1, h2, decide_eq_decide]; omega
  generalize k.may n = q at *
  go_enter Tryz.func118, Tryz.ntmps118
  go_wp2_with fail
  refine (fits1 n q e _).mono ?_
  rintro e w1 ⟨rfl, rfl⟩
  go_wp2
  go_ret
  exact ⟨rfl, rfl⟩
theorem may_i32 (k : Nm) (h1 : k.lo = -2147483648) (h2 : k.hi = 2147483647) : MayIs 119 k := by
  intro n w _ _
  have e : decide (wr32 n = n) = k.may n := by unfold Nm.may wr32; rw [h1, h2, decide_eq_decide]; omega
  generalize k.may n = q at *
  go_enter Tryz.func119, Tryz.ntmps119
  go_wp2_with fail
  refine (fits2 n q e _).mono ?_
  rintro e w1 ⟨rfl, rfl⟩
  go_wp2
  go_ret
  exact ⟨rfl, rfl⟩
theorem may_i64 (k : Nm) (h1 : k.lo = -9223372036854775808) (h2 : k.hi = 9223372036854775807) : MayIs 120 k := by
  intro n w q1 q2
  have e : k.may n = true := by unfold Nm.may; rw [h1, h2, decide_eq_true_eq]; omega
  rw [e]
  go_enter Tryz.func120, Tryz.ntmps120
  go_wp2_with fail
  refine (fits3 n _).mono ?_
  rintro e w1 ⟨rfl, rfl⟩
  go_wp2
  go_ret
  exact ⟨rfl, rfl⟩
end Go.Proofs.YtkmmnocooibljaaGreatDoor
