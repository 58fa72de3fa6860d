/-
  ScopeNone: calls on a scope that is not there.
-/
import Derived.Test.YtnnajgbkpilaaaaSl
namespace Go.Proofs.Ytnnajgbkpilaaaa
open Go.RowKit
set_option linter.unusedVariables false

theorem nDecl (w : World) (nm : ByteArray) (ty : Int) : Calls Try.prog 16 #[.pointer none, .string nm, .int .i64 ty] w fun e w' => e = .returned (.tuple #[.int .i64 0, .int .i64 1]) ∧ w = w' := by
  go_enter Try.func16, Try.ntmps16
  go_wp2
  go_ret2
  exact ⟨rfl, rfl⟩
theorem nEnter (w : World) (nm : ByteArray) (b : Bool) : Calls Try.prog 17 #[.pointer none, .string nm, .bool b] w fun e w' => e = .returned (.tuple #[.int .i64 0, .int .i64 1]) ∧ w = w' := by
  go_enter Try.func17, Try.ntmps17
  go_wp2
  go_ret2
  exact ⟨rfl, rfl⟩
theorem nTarget (w : World) (nm : ByteArray) (b : Bool) : Calls Try.prog 18 #[.pointer none, .string nm, .bool b] w fun e w' => e = .returned (.tuple #[.int .i64 0, .int .i64 1]) ∧ w = w' := by
  go_enter Try.func18, Try.ntmps18
  go_wp2
  go_ret2
  exact ⟨rfl, rfl⟩
theorem nFind (w : World) (nm : ByteArray) : Calls Try.prog 19 #[.pointer none, .string nm] w fun e w' => e = .returned (.tuple #[.int .i64 0, .int .i64 0, .bool false]) ∧ w = w' := by
  go_enter Try.func19, Try.ntmps19
  go_wp2
  go_ret3
  exact ⟨rfl, rfl⟩
theorem nOpen (w : World) : Calls Try.prog 20 #[.pointer none] w fun e w' => e = .returned (.int .i64 0) ∧ w = w' := by
  go_enter Try.func20, Try.ntmps20
  go_wp2
  go_ret
  exact ⟨rfl, rfl⟩
theorem nClose (w : World) : Calls Try.prog 21 #[.pointer none] w fun e w' => e = .returned (.bool false) ∧ w = w' := by
  go_enter Try.func21, Try.ntmps21
  go_wp2
  go_ret
  exact ⟨rfl, rfl⟩
theorem nLeave (w : World) : Calls Try.prog 22 #[.pointer none] w fun e w' => e = .returned (.bool false) ∧ w = w' := by
  go_enter Try.func22, Try.ntmps22
  go_wp2
  go_ret
  exact ⟨rfl, rfl⟩
theorem nSlots (w : World) : Calls Try.prog 23 #[.pointer none] w fun e w' => e = .returned (.slice none 0 0) ∧ w = w' := by
  go_enter Try.func23, Try.ntmps23
  go_wp2
  go_ret
  exact ⟨rfl, rfl⟩
theorem nCopy (w : World) : Calls Try.prog 11 #[.pointer none] w fun e w' => e = .returned (.pointer none) ∧ w = w' := by
  go_enter Try.func11, Try.ntmps11
  go_wp2
  go_ret
  exact ⟨rfl, rfl⟩
set_option maxRecDepth 100000 in
set_option maxHeartbeats 2000000 in
theorem scopeNone_walk (nm : ByteArray) (ty : Int) (b : Bool) (w : World) : Calls Try.prog 4 #[.string nm, .int .i64 ty, .bool b] w fun e w' => e = .returned (.bool true) ∧ Below w.heap.size w w' := by
  have c16 := nDecl w nm ty
  have c17 := nEnter w nm b
  have c18 := nTarget w nm b
  have c19 := nFind w nm
  have c20 := nOpen w
  have c21 := nClose w
  have c22 := nLeave w
  have c23 := nSlots w
  have c11 := nCopy w
  have c15 := works_as w
  go_enter Try.func4, Try.ntmps4
  go_wp2_with (first
    | (go_at_call 16; refine c16.mono ?_; rintro e w1 ⟨rfl, rfl⟩)
    | (go_at_call 17; refine c17.mono ?_; rintro e w1 ⟨rfl, rfl⟩)
    | (go_at_call 18; refine c18.mono ?_; rintro e w1 ⟨rfl, rfl⟩)
    | (go_at_call 19; refine c19.mono ?_; rintro e w1 ⟨rfl, rfl⟩)
    | (go_at_call 20; refine c20.mono ?_; rintro e w1 ⟨rfl, rfl⟩)
    | (go_at_call 21; refine c21.mono ?_; rintro e w1 ⟨rfl, rfl⟩)
    | (go_at_call 22; refine c22.mono ?_; rintro e w1 ⟨rfl, rfl⟩)
    | (go_at_call 23; refine c23.mono ?_; rintro e w1 ⟨rfl, rfl⟩)
    | (go_at_call 11; refine c11.mono ?_; rintro e w1 ⟨rfl, rfl⟩)
    | (go_at_call 15; refine c15.mono ?_; rintro e w9 ⟨rfl, hB⟩))
  go_ret
  exact ⟨rfl, hB⟩
end Go.Proofs.Ytnnajgbkpilaaaa
