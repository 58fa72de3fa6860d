/-
  Al, what is reached of it.
-/
import Derived.Test.YtkmmnocooibljaaGreatDoorLz
import Derived.Test.YtkmmnocooibljaaGreatDoorLyq
import Derived.Test.YtkmmnocooibljaaGreatDoorWiq
import Derived.Deep.QuietTactic
import Derived.BigQuiet
import Derived.Deep.RegionHeld3
import Derived.Deep.LoopGhost
namespace Go.Proofs.YtkmmnocooibljaaGreatDoor
open Go.ChangeShapes Go.WideShapes Go.ChangeAt Go.RowKit Go.Deep
set_option linter.unusedVariables false

theorem insC_append (x y : List (In × Value)) : insC (x ++ y) = insC x ++ insC y := by simp [insC]
end Go.Proofs.YtkmmnocooibljaaGreatDoor
