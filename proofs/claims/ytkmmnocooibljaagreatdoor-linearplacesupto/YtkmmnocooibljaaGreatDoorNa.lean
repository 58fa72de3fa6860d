/-
  Instructions and arms held against each other, of any two.
-/
import Derived.Test.YtkmmnocooibljaaGreatDoorLz
namespace Go.Proofs.YtkmmnocooibljaaGreatDoor
open Go.RowKit
set_option linter.unusedVariables false

end Go.Proofs.YtkmmnocooibljaaGreatDoor
