/-
  Om, what is reached of it.
-/
import Derived.Test.YtkmmnocooibljaaGreatDoorLz
import Derived.Laws.MathBits
import Derived.Laws.Bits64b
import Derived.Laws.BitsAllLaws
namespace Go.Proofs.YtkmmnocooibljaaGreatDoor
open Go.ChangeShapes Go.WideShapes Go.ChangeAt Go.RowKit Go.Deep
set_option linter.unusedVariables false

theorem fixN_byte (n k : Nat) : ∀ c ∈ fixN n k, c < 256 := by
  intro c hc; simp [fixN] at hc; obtain ⟨i, _, rfl⟩ := hc; omega
theorem Nm.put_byte (k : Nm) (n : Int) : ∀ c ∈ k.put n, c < 256 := fixN_byte _ _
def Passes {α : Type} (R : List Nat → St → α × St) : Prop := ∀ xs s, s.2 ≠ 0 → (R xs s).2 = s
end Go.Proofs.YtkmmnocooibljaaGreatDoor
