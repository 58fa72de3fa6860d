/-
  What came in: numbers, lines.
-/
import Derived.Test.YtkmmnocooibljaaGreatDoorNb
import Derived.SizedLaws
namespace Go.Proofs.YtkmmnocooibljaaGreatDoor
open Go.ChangeShapes Go.WideShapes Go.ChangeAt Go.RowKit Go.Deep
set_option linter.unusedVariables false

theorem ncI64 : Tryz.prog.cellsOf 2 = 1 := by kernel_rfl
theorem ncInt : Tryz.prog.cellsOf 3 = 1 := by kernel_rfl
theorem ncU8 : Tryz.prog.cellsOf 5 = 1 := by kernel_rfl
theorem ncArm : Tryz.prog.cellsOf 51 = 2 := by kernel_rfl
theorem ncArms : Tryz.prog.cellsOf 41 = 1 := by kernel_rfl
theorem ncInstr : Tryz.prog.cellsOf 43 = 4 := by kernel_rfl
theorem ncLine : Tryz.prog.cellsOf 56 = 5 := by kernel_rfl
theorem nlist2 {α : Type} (l : List α) (h : l.length = 2) : ∃ a0 a1, l = [a0, a1] := by
  match l, h with
  | [a0, a1], _ => exact ⟨a0, a1, rfl⟩
theorem nlist4 {α : Type} (l : List α) (h : l.length = 4) : ∃ a0 a1 a2 a3, l = [a0, a1, a2, a3] := by
  match l, h with
  | [a0, a1, a2, a3], _ => exact ⟨a0, a1, a2, a3, rfl⟩
theorem nlist5 {α : Type} (l : List α) (h : l.length = 5) : ∃ a0 a1 a2 a3 a4, l = [a0, a1, a2, a3, a4] := by
  match l, h with
  | [a0, a1, a2, a3, a4], _ => exact ⟨a0, a1, a2, a3, a4, rfl⟩
theorem nwf_i64 {x : Int} (h : (Lit.int .i64 x).wf = true) : N64 x := by
  have h2 := h
  simp [Lit.wf] at h2
  have e1 : IntKind.i64.min = -9223372036854775808 := by rfl
  have e2 : IntKind.i64.max = 9223372036854775807 := by rfl
  rw [e1] at h2
  exact ⟨by omega, by omega⟩
theorem nwf_u8 {x : Int} (h : (Lit.int .u8 x).wf = true) : 0 ≤ x ∧ x < 256 := by
  have h2 := h
  simp [Lit.wf] at h2
  have e1 : IntKind.u8.min = 0 := by rfl
  have e2 : IntKind.u8.max = 255 := by rfl
  rw [e1, e2] at h2
  exact ⟨by omega, by omega⟩
end Go.Proofs.YtkmmnocooibljaaGreatDoor
