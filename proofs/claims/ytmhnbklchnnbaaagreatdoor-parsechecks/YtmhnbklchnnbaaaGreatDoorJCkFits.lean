import Derived.Test.YtmhnbklchnnbaaaGreatDoorJModel
import Derived.Test.YtmhnbklchnnbaaaGreatDoorJPLow
set_option maxHeartbeats 4000000
set_option maxRecDepth 100000
namespace Go.Proofs.YtmhnbklchnnbaaaGreatDoor
open Go.RowKit
set_option linter.unusedVariables false
theorem pkidsOf_as (w : World) (k : Int) : Calls Tryz.prog 17 #[.int .u8 k] w fun en w' => en = .returned (.tuple #[.int .i64 (kidsI k).1, .int .i64 (kidsI k).2]) ∧ w = w' := by
  go_enter Tryz.func17, Tryz.ntmps17
  go_wp2
  all_goals (refine bodyPost_ret (results_tmp2 rfl _ _ _) rfl ⟨?_, rfl⟩; simp [kidsI, *])
theorem pisType_as (w : World) (k : Int) : Calls Tryz.prog 38 #[.int .u8 k] w fun en w' => en = .returned (.bool (isTypeI k)) ∧ w = w' := by
  go_enter Tryz.func38, Tryz.ntmps38
  go_wp2
  all_goals (go_ret; refine ⟨ret_bool ?_, rfl⟩; simp [isTypeI, *])
theorem pisStmt_as (w : World) (k : Int) : Calls Tryz.prog 39 #[.int .u8 k] w fun en w' => en = .returned (.bool (isStmtI k)) ∧ w = w' := by
  go_enter Tryz.func39, Tryz.ntmps39
  go_wp2
  all_goals (go_ret; refine ⟨ret_bool ?_, rfl⟩; simp [isStmtI, *])
theorem pisExpr_as (w : World) (k : Int) : Calls Tryz.prog 40 #[.int .u8 k] w fun en w' => en = .returned (.bool (isExprI k)) ∧ w = w' := by
  go_enter Tryz.func40, Tryz.ntmps40
  go_wp2
  all_goals (go_ret; refine ⟨ret_bool ?_, rfl⟩; first | (simp [isExprI, *]; done) | (simp [isExprI, *]; omega))
theorem peither_as (w : World) (b : Bool) (x y : Int) : Calls Tryz.prog 22 #[.bool b, .int .u8 x, .int .u8 y] w fun en w' => en = .returned (.int .u8 (eitherI b x y)) ∧ w = w' := by
  cases b
  all_goals
    go_enter Tryz.func22, Tryz.ntmps22
    go_wp2
    go_ret
    exact ⟨rfl, rfl⟩
theorem ptakes_11 (w : World) (k : Int) : Calls Tryz.prog 18 #[.int .u8 11, .int .u8 k] w fun en w' => en = .returned (.bool (takesI 11 k)) ∧ w = w' := by
  go_enter Tryz.func18, Tryz.ntmps18
  go_wp2
  all_goals (go_ret; refine ⟨ret_bool ?_, rfl⟩; simp [takesI, stepI, *])
theorem ptakes_17 (w : World) (k : Int) : Calls Tryz.prog 18 #[.int .u8 17, .int .u8 k] w fun en w' => en = .returned (.bool (takesI 17 k)) ∧ w = w' := by
  go_enter Tryz.func18, Tryz.ntmps18
  go_wp2
  all_goals (go_ret; refine ⟨ret_bool ?_, rfl⟩; simp [takesI, targetI, *])
theorem ptakes_0 (w : World) (k : Int) : Calls Tryz.prog 18 #[.int .u8 0, .int .u8 k] w fun en w' => en = .returned (.bool (takesI 0 k)) ∧ w = w' := by
  go_enter Tryz.func18, Tryz.ntmps18
  go_wp2_with (first | (go_at_call 38; refine (pisType_as _ _).mono ?_; rintro en _ ⟨rfl, rfl⟩) | (go_at_call 39; refine (pisStmt_as _ _).mono ?_; rintro en _ ⟨rfl, rfl⟩) | (go_at_call 40; refine (pisExpr_as _ _).mono ?_; rintro en _ ⟨rfl, rfl⟩))
  all_goals (go_ret; refine ⟨ret_bool ?_, rfl⟩; simp [takesI, *])
theorem ptakes_1 (w : World) (k : Int) : Calls Tryz.prog 18 #[.int .u8 1, .int .u8 k] w fun en w' => en = .returned (.bool (takesI 1 k)) ∧ w = w' := by
  go_enter Tryz.func18, Tryz.ntmps18
  go_wp2
  all_goals (go_ret; refine ⟨ret_bool ?_, rfl⟩; simp [takesI, *])
theorem ptakes_2 (w : World) (k : Int) : Calls Tryz.prog 18 #[.int .u8 2, .int .u8 k] w fun en w' => en = .returned (.bool (takesI 2 k)) ∧ w = w' := by
  go_enter Tryz.func18, Tryz.ntmps18
  go_wp2
  all_goals (go_ret; refine ⟨ret_bool ?_, rfl⟩; simp [takesI, *])
theorem ptakes_3 (w : World) (k : Int) : Calls Tryz.prog 18 #[.int .u8 3, .int .u8 k] w fun en w' => en = .returned (.bool (takesI 3 k)) ∧ w = w' := by
  go_enter Tryz.func18, Tryz.ntmps18
  go_wp2
  all_goals (go_ret; refine ⟨ret_bool ?_, rfl⟩; simp [takesI, *])
theorem ptakes_4 (w : World) (k : Int) : Calls Tryz.prog 18 #[.int .u8 4, .int .u8 k] w fun en w' => en = .returned (.bool (takesI 4 k)) ∧ w = w' := by
  go_enter Tryz.func18, Tryz.ntmps18
  go_wp2
  all_goals (go_ret; refine ⟨ret_bool ?_, rfl⟩; simp [takesI, *])
theorem ptakes_5 (w : World) (k : Int) : Calls Tryz.prog 18 #[.int .u8 5, .int .u8 k] w fun en w' => en = .returned (.bool (takesI 5 k)) ∧ w = w' := by
  go_enter Tryz.func18, Tryz.ntmps18
  go_wp2_with (first | (go_at_call 38; refine (pisType_as _ _).mono ?_; rintro en _ ⟨rfl, rfl⟩))
  all_goals (go_ret; refine ⟨ret_bool ?_, rfl⟩; simp [takesI, *])
theorem ptakes_6 (w : World) (k : Int) : Calls Tryz.prog 18 #[.int .u8 6, .int .u8 k] w fun en w' => en = .returned (.bool (takesI 6 k)) ∧ w = w' := by
  go_enter Tryz.func18, Tryz.ntmps18
  go_wp2
  all_goals (go_ret; refine ⟨ret_bool ?_, rfl⟩; simp [takesI, *])
theorem ptakes_7 (w : World) (k : Int) : Calls Tryz.prog 18 #[.int .u8 7, .int .u8 k] w fun en w' => en = .returned (.bool (takesI 7 k)) ∧ w = w' := by
  go_enter Tryz.func18, Tryz.ntmps18
  go_wp2_with (first | (go_at_call 39; refine (pisStmt_as _ _).mono ?_; rintro en _ ⟨rfl, rfl⟩))
  all_goals (go_ret; refine ⟨ret_bool ?_, rfl⟩; simp [takesI, *])
theorem ptakes_8 (w : World) (k : Int) : Calls Tryz.prog 18 #[.int .u8 8, .int .u8 k] w fun en w' => en = .returned (.bool (takesI 8 k)) ∧ w = w' := by
  go_enter Tryz.func18, Tryz.ntmps18
  go_wp2
  all_goals (go_ret; refine ⟨ret_bool ?_, rfl⟩; simp [takesI, *])
theorem ptakes_9 (w : World) (k : Int) : Calls Tryz.prog 18 #[.int .u8 9, .int .u8 k] w fun en w' => en = .returned (.bool (takesI 9 k)) ∧ w = w' := by
  go_enter Tryz.func18, Tryz.ntmps18
  go_wp2_with (first | (go_at_call 18; refine (ptakes_11 _ _).mono ?_; rintro en _ ⟨rfl, rfl⟩))
  all_goals (go_ret; refine ⟨ret_bool ?_, rfl⟩; simp [takesI, stepI, *])
theorem ptakes_10 (w : World) (k : Int) : Calls Tryz.prog 18 #[.int .u8 10, .int .u8 k] w fun en w' => en = .returned (.bool (takesI 10 k)) ∧ w = w' := by
  go_enter Tryz.func18, Tryz.ntmps18
  go_wp2_with (first | (go_at_call 40; refine (pisExpr_as _ _).mono ?_; rintro en _ ⟨rfl, rfl⟩))
  all_goals (go_ret; refine ⟨ret_bool ?_, rfl⟩; simp [takesI, *])
theorem ptakes_12 (w : World) (k : Int) : Calls Tryz.prog 18 #[.int .u8 12, .int .u8 k] w fun en w' => en = .returned (.bool (takesI 12 k)) ∧ w = w' := by
  go_enter Tryz.func18, Tryz.ntmps18
  go_wp2
  all_goals (go_ret; refine ⟨ret_bool ?_, rfl⟩; simp [takesI, *])
theorem ptakes_13 (w : World) (k : Int) : Calls Tryz.prog 18 #[.int .u8 13, .int .u8 k] w fun en w' => en = .returned (.bool (takesI 13 k)) ∧ w = w' := by
  go_enter Tryz.func18, Tryz.ntmps18
  go_wp2
  all_goals (go_ret; refine ⟨ret_bool ?_, rfl⟩; simp [takesI, *])
theorem ptakes_14 (w : World) (k : Int) : Calls Tryz.prog 18 #[.int .u8 14, .int .u8 k] w fun en w' => en = .returned (.bool (takesI 14 k)) ∧ w = w' := by
  go_enter Tryz.func18, Tryz.ntmps18
  go_wp2
  all_goals (go_ret; refine ⟨ret_bool ?_, rfl⟩; simp [takesI, *])
theorem ptakes_15 (w : World) (k : Int) : Calls Tryz.prog 18 #[.int .u8 15, .int .u8 k] w fun en w' => en = .returned (.bool (takesI 15 k)) ∧ w = w' := by
  go_enter Tryz.func18, Tryz.ntmps18
  go_wp2
  all_goals (go_ret; refine ⟨ret_bool ?_, rfl⟩; simp [takesI, *])
theorem ptakes_16 (w : World) (k : Int) : Calls Tryz.prog 18 #[.int .u8 16, .int .u8 k] w fun en w' => en = .returned (.bool (takesI 16 k)) ∧ w = w' := by
  go_enter Tryz.func18, Tryz.ntmps18
  go_wp2
  all_goals (go_ret; refine ⟨ret_bool ?_, rfl⟩; simp [takesI, *])
theorem ptakes_18 (w : World) (k : Int) : Calls Tryz.prog 18 #[.int .u8 18, .int .u8 k] w fun en w' => en = .returned (.bool (takesI 18 k)) ∧ w = w' := by
  go_enter Tryz.func18, Tryz.ntmps18
  go_wp2_with (first | (go_at_call 18; refine (ptakes_17 _ _).mono ?_; rintro en _ ⟨rfl, rfl⟩))
  all_goals (go_ret; refine ⟨ret_bool ?_, rfl⟩; simp [takesI, targetI, *])
theorem ptakes_19 (w : World) (k : Int) : Calls Tryz.prog 18 #[.int .u8 19, .int .u8 k] w fun en w' => en = .returned (.bool (takesI 19 k)) ∧ w = w' := by
  go_enter Tryz.func18, Tryz.ntmps18
  go_wp2
  all_goals (go_ret; refine ⟨ret_bool ?_, rfl⟩; simp [takesI, *])
theorem ptakes_20 (w : World) (k : Int) : Calls Tryz.prog 18 #[.int .u8 20, .int .u8 k] w fun en w' => en = .returned (.bool (takesI 20 k)) ∧ w = w' := by
  go_enter Tryz.func18, Tryz.ntmps18
  go_wp2
  all_goals (go_ret; refine ⟨ret_bool ?_, rfl⟩; simp [takesI, *])
theorem ptakes_21 (w : World) (k : Int) : Calls Tryz.prog 18 #[.int .u8 21, .int .u8 k] w fun en w' => en = .returned (.bool (takesI 21 k)) ∧ w = w' := by
  go_enter Tryz.func18, Tryz.ntmps18
  go_wp2_with (first | (go_at_call 40; refine (pisExpr_as _ _).mono ?_; rintro en _ ⟨rfl, rfl⟩))
  all_goals (go_ret; refine ⟨ret_bool ?_, rfl⟩; simp [takesI, *])
theorem ptakes_as (w : World) (r k : Int) (hr : 0 ≤ r ∧ r ≤ 21) : Calls Tryz.prog 18 #[.int .u8 r, .int .u8 k] w fun en w' => en = .returned (.bool (takesI r k)) ∧ w = w' := by
  rcases (by omega : r = 0 ∨ r = 1 ∨ r = 2 ∨ r = 3 ∨ r = 4 ∨ r = 5 ∨ r = 6 ∨ r = 7 ∨ r = 8 ∨ r = 9 ∨ r = 10 ∨ r = 11 ∨ r = 12 ∨ r = 13 ∨ r = 14 ∨ r = 15 ∨ r = 16 ∨ r = 17 ∨ r = 18 ∨ r = 19 ∨ r = 20 ∨ r = 21) with rfl | rfl | rfl | rfl | rfl | rfl | rfl | rfl | rfl | rfl | rfl | rfl | rfl | rfl | rfl | rfl | rfl | rfl | rfl | rfl | rfl | rfl
  · exact ptakes_0 w k
  · exact ptakes_1 w k
  · exact ptakes_2 w k
  · exact ptakes_3 w k
  · exact ptakes_4 w k
  · exact ptakes_5 w k
  · exact ptakes_6 w k
  · exact ptakes_7 w k
  · exact ptakes_8 w k
  · exact ptakes_9 w k
  · exact ptakes_10 w k
  · exact ptakes_11 w k
  · exact ptakes_12 w k
  · exact ptakes_13 w k
  · exact ptakes_14 w k
  · exact ptakes_15 w k
  · exact ptakes_16 w k
  · exact ptakes_17 w k
  · exact ptakes_18 w k
  · exact ptakes_19 w k
  · exact ptakes_20 w k
  · exact ptakes_21 w k
end Go.Proofs.YtmhnbklchnnbaaaGreatDoor
