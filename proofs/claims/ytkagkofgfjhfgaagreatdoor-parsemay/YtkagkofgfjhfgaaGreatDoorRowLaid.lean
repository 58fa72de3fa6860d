/-
  WHAT THE ROWS' LISTED VARIABLES GIVE THE WALKS: the library's variable ErrRange holds an interface's value; and a start that meets the list.
-/
import Derived.Test.YtkagkofgfjhfgaaGreatDoorRows
import Derived.Test.YtkagkofgfjhfgaaGreatDoorJXLow
import Derived.ProofKit
import Derived.LaidMore
import Derived.LaidLaws
import Derived.Stop.LaidErr
import Derived.OpenShut
import Derived.Stop.Joined
namespace Go.Proofs.YtkagkofgfjhfgaaGreatDoor
open Go.ChangeShapes Go.WideShapes Go.ChangeAt Go.RowKit
set_option linter.unusedVariables false

theorem own : ownKnob Tryz.prog.godebug = none := by kernel_rfl
theorem laidOut : laidOutB Tryz.prog = true := by kernel_rfl
def laidL : List (String × DataW Unit) := Rows.parseMayRow.laid
theorem gRange : Tryz.prog.globalNamed "strconv.ErrRange" = some 2 := by kernel_rfl
theorem gRangeT : (Tryz.prog.globals[2]?).map (·.type) = some 103 := by kernel_rfl
theorem cellsErrs : Tryz.prog.cellsOf 129 = 1 := by kernel_rfl
theorem cellsStr : Tryz.prog.cellsOf 9 = 1 := by kernel_rfl
theorem starErr : "*" ++ "errors.errorString" = "*errors.errorString" := by decide
theorem rowErr (u : TypeId) (h : Tryz.prog.typeName? 3 u = some "*errors.errorString") : u = 127 :=
  typeName_ptr_named (nm := "errors.errorString") (by rw [starErr]; kernel_rfl) (by kernel_rfl) (by decide) u (by rw [starErr]; exact h)
/-- The door's own heap meets the list. -/
theorem door_met (os : Os) (args : Array Value) : laidMetH Tryz.prog laidL ((World.doorLaid Tryz.prog 62 os).forCall (fun _ _ => 0) ⟨#[], args, []⟩).memory :=
  laidMetH_of_parts3 (fuel := 8) (laidMet_of_run' 8 (by kernel_rfl) (by kernel_rfl)) (by kernel_rfl) (by kernel_rfl)
theorem of_laid {W : World} (h : laidMetH Tryz.prog laidL W) : Laid W := by
  rw [MakeChecks.laidMetH_plain _ _ _ (by kernel_rfl)] at h
  have h3 := h.tail.tail.tail
  obtain ⟨a, s, hv, _, _, _⟩ := laid_sentinel h3 gRange gRangeT Tryz.underlying103 rowErr Tryz.underlying127 Tryz.underlying129 rfl rfl Tryz.underlying9 cellsErrs cellsStr
  have hc : W.cell? ⟨2, 0, none⟩ = some (.iface 127 (.pointer (some a))) := by
    have h0 := World.var?_cell gRange hv 0
    simpa using h0
  refine ⟨?_, _, _, hc⟩
  unfold World.cell? at hc
  cases hq : W.heap[2]? with
  | none => rw [hq] at hc; simp at hc
  | some o => exact (Array.getElem?_eq_some_iff.1 hq).1
end Go.Proofs.YtkagkofgfjhfgaaGreatDoor
