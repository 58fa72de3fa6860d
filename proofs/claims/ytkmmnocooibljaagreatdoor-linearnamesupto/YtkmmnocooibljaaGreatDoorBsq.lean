/-
  Bs, what is reached of it.
-/
import Derived.Test.YtkmmnocooibljaaGreatDoorLz
import Derived.Test.YtkmmnocooibljaaGreatDoorOmq
import Derived.WalkKit
import Derived.WalkLawsBesides
import Derived.WalkSpells
import Derived.Handy
import Derived.Outline
import Derived.Below
import Derived.Lib.SmallJoins
import Derived.Lib.SliceRun
import Derived.Maps.AppendAt
import Derived.Maps.Own
import Derived.Maps.Views
import Derived.Laws.BytesArg
import Derived.Laws.AppendOwnNone
namespace Go.Proofs.YtkmmnocooibljaaGreatDoor
open Go.ChangeShapes Go.WideShapes Go.ChangeAt Go.RowKit Go.Deep
set_option linter.unusedVariables false

theorem own1 {w : World} {g : Nat} {a0 : Value} {t : TypeId} (h : Own w g #[a0] t) : w.cell? ⟨g, 0, none⟩ = some a0 ∧ ∀ j, w.frozen? ⟨g, j, none⟩ = false := ⟨h.cell 0, h.froz⟩
theorem own2 {w : World} {g : Nat} {a0 a1 : Value} {t : TypeId} (h : Own w g #[a0, a1] t) : w.cell? ⟨g, 0, none⟩ = some a0 ∧ w.cell? ⟨g, 1, none⟩ = some a1 ∧ ∀ j, w.frozen? ⟨g, j, none⟩ = false := ⟨h.cell 0, h.cell 1, h.froz⟩
theorem own3 {w : World} {g : Nat} {a0 a1 a2 : Value} {t : TypeId} (h : Own w g #[a0, a1, a2] t) : w.cell? ⟨g, 0, none⟩ = some a0 ∧ w.cell? ⟨g, 1, none⟩ = some a1 ∧ w.cell? ⟨g, 2, none⟩ = some a2 ∧ ∀ j, w.frozen? ⟨g, j, none⟩ = false := ⟨h.cell 0, h.cell 1, h.cell 2, h.froz⟩
abbrev ptr (p : Nat) : Value := .pointer (some ⟨p, 0, none⟩)
theorem okB : ElemOk 30 5 (.int .u8 0) 1 1 := ⟨Tryz.underlying30, by kernel_rfl, rfl, by omega, by omega⟩
theorem okX : ElemOk 69 43 (.agg #[.int .u8 0, .int .i64 0, .int .i64 0, .slice none 0 0]) 4 48 := ⟨Tryz.underlying69, by kernel_rfl, rfl, by omega, by omega⟩
theorem okN : ElemOk 70 3 (.int .i64 0) 1 8 := ⟨Tryz.underlying70, by kernel_rfl, rfl, by omega, by omega⟩
def FnIs (fn : Nat) : Prop := ∀ (a : Array Value) (w : World), (callFunc fn a).run Tryz.prog w = .ok (.enter fn a) w
theorem ret_int {k : IntKind} {x y : Int} (h : x = y) : Ending.returned (.int k x) = .returned (.int k y) := by rw [h]
theorem ret_bool {x y : Bool} (h : x = y) : Ending.returned (.bool x) = Ending.returned (.bool y) := by rw [h]
end Go.Proofs.YtkmmnocooibljaaGreatDoor
