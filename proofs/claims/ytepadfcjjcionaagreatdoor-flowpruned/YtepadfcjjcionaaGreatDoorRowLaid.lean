/-
  WHAT THE ROWS' LISTED VARIABLES GIVE THE WALKS: the five names of package kinds; and a start that meets the list.
-/
import Derived.Test.YtepadfcjjcionaaGreatDoorRows
import Derived.Test.YtepadfcjjcionaaGreatDoorLd
import Derived.ProofKit
import Derived.LaidMore
import Derived.LaidLaws
import Derived.Stop.LaidErr
import Derived.OpenShut
import Derived.Stop.Joined
namespace Go.Proofs.YtepadfcjjcionaaGreatDoor
open Go.ChangeShapes Go.WideShapes Go.ChangeAt Go.RowKit
set_option linter.unusedVariables false

theorem own : ownKnob Tryz.prog.godebug = none := by kernel_rfl
theorem laidOut : laidOutB Tryz.prog = true := by kernel_rfl
def laidL : List (String × DataW Unit) := Rows.flowPrunedRow.laid
/-- The door's own heap meets the list. -/
theorem door_met (os : Os) (args : Array Value) : laidMetH Tryz.prog laidL ((World.doorLaid Tryz.prog 67 os).forCall (fun _ _ => 0) ⟨#[], args, []⟩).memory :=
  laidMetH_of_parts3 (fuel := 8) (laidMet_of_run' 8 (by kernel_rfl) (by kernel_rfl)) (by kernel_rfl) (by kernel_rfl)
theorem gFive : Tryz.prog.globalNamed "trammel/kinds.five" = some 0 := by kernel_rfl
theorem gFiveT : (Tryz.prog.globals[0]?).map (·.type) = some 227 := by kernel_rfl
theorem cells227 : Tryz.prog.cellsOf 227 = 5 := by kernel_rfl
theorem cellsS9 : Tryz.prog.cellsOf 9 = 1 := by kernel_rfl
set_option maxRecDepth 100000 in
theorem of_laid {W : World} (h : laidMetH Tryz.prog laidL W) : FiveAt W := by
  rw [MakeChecks.laidMetH_plain _ _ _ (by kernel_rfl)] at h
  have h5 : laidMet Tryz.prog [("trammel/kinds.five", Rows.laid_trammel_kinds_five)] W := h.tail.tail.tail.tail.tail
  obtain ⟨ps, ⟨g, t, cs, fuel, p, q, hg, ht, hv, htr, hr, rfl⟩, hnd, hall⟩ := h5
  obtain rfl : 0 = g := Option.some.inj (gFive.symm.trans hg)
  obtain rfl : 227 = t := Option.some.inj (gFiveT.symm.trans ht)
  obtain ⟨xs, m, hm, hx, hcl, hxl, hf⟩ := DataW.trod_array Tryz.underlying227 htr
  rw [cells227] at hcl
  have hx1 := congrArg Prod.fst hx
  obtain ⟨l⟩ := cs
  match xs, hxl, l, hcl with
  | [y0, y1, y2, y3, y4], _, [u0, u1, u2, u3, u4], _ =>
    have g0 := hf 0 (by omega)
    have g1 := hf 1 (by omega)
    have g2 := hf 2 (by omega)
    have g3 := hf 3 (by omega)
    have g4 := hf 4 (by omega)
    simp [cellsS9] at g0 g1 g2 g3 g4
    obtain ⟨s0, q0, e0, _⟩ := DataW.trod_string Tryz.underlying9 g0
    obtain ⟨s1, q1, e1, _⟩ := DataW.trod_string Tryz.underlying9 g1
    obtain ⟨s2, q2, e2, _⟩ := DataW.trod_string Tryz.underlying9 g2
    obtain ⟨s3, q3, e3, _⟩ := DataW.trod_string Tryz.underlying9 g3
    obtain ⟨s4, q4, e4, _⟩ := DataW.trod_string Tryz.underlying9 g4
    subst e0 e1 e2 e3 e4
    simp only [List.cons.injEq, and_true] at q0 q1 q2 q3 q4
    subst q0 q1 q2 q3 q4
    simp only [Rows.laid_trammel_kinds_five, List.map_cons, List.map_nil, DataW.agg.injEq, List.cons.injEq, DataW.lit.injEq, Lit.string.injEq, and_true] at hx1
    obtain ⟨z0, z1, z2, z3, z4⟩ := hx1
    have key : ∀ (s : ByteArray) (l : List UInt8), l = s.data.toList → s = ⟨⟨l⟩⟩ := fun s l h => by obtain ⟨⟨k⟩⟩ := s; simp at h; rw [h]
    rw [key s0 _ z0, key s1 _ z1, key s2 _ z2, key s3 _ z3, key s4 _ z4] at hv
    obtain ⟨⟨c, T, hc⟩, _⟩ := hall 0 0 (by simp [MemPlace.row])
    unfold World.var? at hv
    rw [gFive] at hv
    simp only [Option.bind_some, hc, Option.some.injEq] at hv
    subst hv
    exact ⟨T, hc⟩
end Go.Proofs.YtepadfcjjcionaaGreatDoor
