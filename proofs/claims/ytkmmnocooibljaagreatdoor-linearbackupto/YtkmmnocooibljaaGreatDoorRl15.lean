/-
  What the rows' listed variables give the walks: the instructions' names; and a start that meets the list.
-/
import Derived.Test.YtkmmnocooibljaaGreatDoorRows
import Derived.Test.YtkmmnocooibljaaGreatDoorLwk
import Derived.Test.YtkmmnocooibljaaGreatDoorLz
import Derived.ProofKit
import Derived.LaidMore
import Derived.LaidLaws
import Derived.Stop.LaidErr
import Derived.OpenShut
import Derived.Stop.Joined
namespace Go.Proofs.YtkmmnocooibljaaGreatDoor
open Go.ChangeShapes Go.WideShapes Go.ChangeAt Go.RowKit
set_option linter.unusedVariables false

theorem own : ownKnob Tryz.prog.godebug = none := by kernel_rfl
theorem laidOutT : laidOutB Tryz.prog = true := by kernel_rfl
def laidL : List (String × DataW Unit) := Rows.linearTargetsRow.laid
theorem door_met (os : Os) (args : Array Value) : laidMetH Tryz.prog laidL ((World.doorLaid Tryz.prog 65 os).forCall (fun _ _ => 0) ⟨#[], args, []⟩).memory :=
  laidMetH_of_parts3 (fuel := 8) (laidMet_of_run' 8 (by kernel_rfl) (by kernel_rfl)) (by kernel_rfl) (by kernel_rfl)
theorem gNames : Tryz.prog.globalNamed "trammel/ops.names" = some 0 := by kernel_rfl
theorem gNamesT : (Tryz.prog.globals[0]?).map (·.type) = some 146 := by kernel_rfl
theorem cellsS9 : Tryz.prog.cellsOf 9 = 1 := by kernel_rfl
theorem cellsNm : Tryz.prog.cellsOf 146 = 53 := by kernel_rfl
theorem laid_eq {H : Type} : (Rows.laid_trammel_ops_names : DataW H) = .agg (nameL.map fun l => .lit (.string l)) := rfl
theorem nmC_eq : nmC = nameL.map fun l => Value.string ⟨⟨l⟩⟩ := rfl
set_option maxRecDepth 100000 in
theorem of_laid {W : World} (h : laidMetH Tryz.prog laidL W) : NmAt W := by
  rw [MakeChecks.laidMetH_plain _ _ _ (by kernel_rfl)] at h
  have h5 : laidMet Tryz.prog [("trammel/ops.names", Rows.laid_trammel_ops_names)] W := h.tail.tail.tail
  obtain ⟨ps, ⟨g, t, cs, fuel, p, q, hg, ht, hv, htr, hr, rfl⟩, hnd, hall⟩ := h5
  obtain rfl : 0 = g := Option.some.inj (gNames.symm.trans hg)
  obtain rfl : 146 = t := Option.some.inj (gNamesT.symm.trans ht)
  obtain ⟨xs, m, hm, hx, hcl, hxl, hf⟩ := DataW.trod_array Tryz.underlying146 htr
  rw [cellsNm] at hcl
  have hx1 := congrArg Prod.fst hx
  rw [laid_eq] at hx1
  simp only [DataW.agg.injEq] at hx1
  have hcs : cs.toList = nmC := by
    rw [nmC_eq]
    apply List.ext_getElem?
    intro i
    by_cases hi : i < 53
    · have gi := hf i hi
      rw [cellsS9, Nat.mul_one] at gi
      have hil : i < xs.length := by omega
      rw [List.getElem?_eq_getElem hil] at gi
      obtain ⟨s, q0, e0, _⟩ := DataW.trod_string Tryz.underlying9 gi
      have hc : cs.toList[i]? = some (.string s) := by
        have := congrArg (fun l => l[0]?) q0
        simpa using this
      rw [hc]
      have hn : (nameL.map fun l => (DataW.lit (Lit.string l) : DataW Unit))[i]? = some (xs[i]).1 := by
        rw [hx1, List.getElem?_map, List.getElem?_eq_getElem hil]; rfl
      rw [List.getElem?_map, e0] at hn
      have hi2 : i < nameL.length := hi
      rw [List.getElem?_eq_getElem hi2] at hn
      simp only [Option.map_some, Option.some.injEq, DataW.lit.injEq, Lit.string.injEq] at hn
      rw [List.getElem?_map, List.getElem?_eq_getElem hi2, hn]
      rfl
    · have h1 : nameL.length = 53 := rfl
      rw [List.getElem?_eq_none (by omega), List.getElem?_eq_none (by rw [List.length_map]; omega)]
  obtain ⟨l⟩ := cs
  simp only at hcs
  subst hcs
  obtain ⟨⟨c, T, hc⟩, _⟩ := hall 0 0 (by simp [MemPlace.row]; exact .inl (by decide))
  unfold World.var? at hv
  rw [gNames] at hv
  simp only [Option.bind_some, hc, Option.some.injEq] at hv
  subst hv
  exact ⟨T, hc⟩
end Go.Proofs.YtkmmnocooibljaaGreatDoor
