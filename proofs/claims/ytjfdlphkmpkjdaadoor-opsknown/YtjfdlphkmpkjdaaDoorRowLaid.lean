/-
  WHAT THE ROWS' LISTED VARIABLE GIVES THE WALKS: the table of names; and a start that meets the list.
-/
import Derived.Test.YtjfdlphkmpkjdaaDoorRows
import Derived.Test.YtjfdlphkmpkjdaaDoorJec
import Derived.ProofKit
import Derived.LaidMore
import Derived.LaidLaws
import Derived.Stop.LaidErr
import Derived.OpenShut
import Derived.Stop.Joined
namespace Go.Proofs.YtjfdlphkmpkjdaaDoor
open Go.ChangeShapes Go.WideShapes Go.ChangeAt Go.RowKit
set_option linter.unusedVariables false

theorem own : ownKnob Tryd.prog.godebug = none := by kernel_rfl
theorem laidOutT : laidOutB Tryd.prog = true := by kernel_rfl
def laidL : List (String × DataW Unit) := Rows.opsTakesRow.laid
/-- The door's own heap meets the list. -/
theorem door_met (os : Os) (args : Array Value) : laidMetH Tryd.prog laidL ((World.doorLaid Tryd.prog 54 os).forCall (fun _ _ => 0) ⟨#[], args, []⟩).memory :=
  laidMetH_of_parts3 (fuel := 8) (laidMet_of_run' 8 (by kernel_rfl) (by kernel_rfl)) (by kernel_rfl) (by kernel_rfl)
theorem gNames : Tryd.prog.globalNamed "trammel/ops.names" = some 0 := by kernel_rfl
theorem gNamesT : (Tryd.prog.globals[0]?).map (·.type) = some 90 := by kernel_rfl
theorem cellsS9 : Tryd.prog.cellsOf 9 = 1 := by kernel_rfl
theorem laid_eq {H : Type} : (Rows.laid_trammel_ops_names : DataW H) = .agg (nameL.map fun l => .lit (.string l)) := rfl
set_option maxRecDepth 100000 in
theorem of_laid {W : World} (h : laidMetH Tryd.prog laidL W) : NamesAt W := by
  rw [MakeChecks.laidMetH_plain _ _ _ (by kernel_rfl)] at h
  have h5 : laidMet Tryd.prog [("trammel/ops.names", Rows.laid_trammel_ops_names)] W := h
  obtain ⟨ps, ⟨g, t, cs, fuel, p, q, hg, ht, hv, htr, hr, rfl⟩, hnd, hall⟩ := h5
  obtain rfl : 0 = g := Option.some.inj (gNames.symm.trans hg)
  obtain rfl : 90 = t := Option.some.inj (gNamesT.symm.trans ht)
  obtain ⟨xs, m, hm, hx, hcl, hxl, hf⟩ := DataW.trod_array Tryd.underlying90 htr
  have hx1 := congrArg Prod.fst hx
  rw [laid_eq] at hx1
  simp only [DataW.agg.injEq] at hx1
  intro i hi
  have gi := hf i hi
  rw [cellsS9, Nat.mul_one] at gi
  have hil : i < xs.length := by omega
  rw [List.getElem?_eq_getElem hil] at gi
  obtain ⟨s, q0, e0, _⟩ := DataW.trod_string Tryd.underlying9 gi
  have hcell := World.var?_cell gNames hv i
  rw [hcell]
  have hc : cs.toList[i]? = some (.string s) := by
    have := congrArg (fun l => l[0]?) q0
    simpa using this
  have hc2 : cs[i]? = some (.string s) := by simpa using hc
  rw [hc2]
  have hn : (nameL.map fun l => (DataW.lit (Lit.string l) : DataW Unit))[i]? = some (xs[i]).1 := by
    rw [hx1, List.getElem?_map, List.getElem?_eq_getElem hil]; rfl
  rw [List.getElem?_map, e0] at hn
  have hi2 : i < nameL.length := hi
  rw [List.getElem?_eq_getElem hi2] at hn
  simp only [Option.map_some, Option.some.injEq, DataW.lit.injEq, Lit.string.injEq] at hn
  unfold nameB
  rw [List.getD_eq_getElem?_getD, List.getElem?_eq_getElem hi2, Option.getD_some, hn]
end Go.Proofs.YtjfdlphkmpkjdaaDoor
