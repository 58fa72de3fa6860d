/-
  DERIVED. GIVEN WITH THE SEED: THE CARDS: each row of YtjfdlphkmpkjdaaDoorRows.lean that lists a variable, with what it lists TIED to the program's text (the seventh form; the later family's looks); each row that meets fmt, with fmt's text TOLD by the authors' own Lean function (tested against real Go, not proved from fmt's source: count such statements apart). THE CARD IS WHAT COUNTS. Prove the row's statement (the work); the ties are given (YtjfdlphkmpkjdaaDoorTie.lean); close each card by the builder's one call (the guide's Derived/Test/ToyasCard.lean, 'card_holds'). Laid BY PROGRAM, IN A SANDBOX (cutbox-door.mjs). By AI agents, Wed Nov 11 2026. No macro, syntax, notation, axiom, sorry.
-/
import Derived.Test.YtjfdlphkmpkjdaaDoorRows
import GoSem.ClaimSeven
namespace Go.Proofs.YtjfdlphkmpkjdaaDoor
namespace Rows

/-- THE TIED CARD OF 'trammellaw12.OpsTakes'. -/
def opsTakesCard : Claim7 := { stood := { row := opsTakesRow, standIns := [], harness := (true, "e0f88089d5f3cd4e7c5d4f42239f2a3b8ccb6197e37eef4f4d93802c9b3d6abe"), looks := false }, kinds := [], alts := [], laidByText := true, laidKinds := [.data], laidTests := true, laidLooks := .later }
def OpsTakesCardSaid : Prop := Claim7.holds Tryd.pinned (.plain (OpenSpec.ofChange opsTakesSpec)) opsTakesCard

/-- THE TIED CARD OF 'trammellaw12.OpsKnown'. -/
def opsKnownCard : Claim7 := { stood := { row := opsKnownRow, standIns := [], harness := (true, "e0f88089d5f3cd4e7c5d4f42239f2a3b8ccb6197e37eef4f4d93802c9b3d6abe"), looks := false }, kinds := [], alts := [], laidByText := true, laidKinds := [.data], laidTests := true, laidLooks := .later }
def OpsKnownCardSaid : Prop := Claim7.holds Tryd.pinned (.plain (OpenSpec.ofChange opsKnownSpec)) opsKnownCard

/-- THE SECOND FORM's CARD OF 'trammellaw12.OpsTakes'. -/
def opsTakesUptoCard : Claim7 := { stood := { row := opsTakesUptoRow, standIns := [], harness := (true, "e0f88089d5f3cd4e7c5d4f42239f2a3b8ccb6197e37eef4f4d93802c9b3d6abe"), looks := false }, kinds := [], alts := [], laidByText := true, laidKinds := [.data], laidTests := true, laidLooks := .later }
def OpsTakesUptoCardSaid : Prop := Claim7.holds Tryd.pinned (.plain (OpenSpec.upto opsTakesSpec)) opsTakesUptoCard

/-- THE SECOND FORM's CARD OF 'trammellaw12.OpsKnown'. -/
def opsKnownUptoCard : Claim7 := { stood := { row := opsKnownUptoRow, standIns := [], harness := (true, "e0f88089d5f3cd4e7c5d4f42239f2a3b8ccb6197e37eef4f4d93802c9b3d6abe"), looks := false }, kinds := [], alts := [], laidByText := true, laidKinds := [.data], laidTests := true, laidLooks := .later }
def OpsKnownUptoCardSaid : Prop := Claim7.holds Tryd.pinned (.plain (OpenSpec.upto opsKnownSpec)) opsKnownUptoCard
end Rows
end Go.Proofs.YtjfdlphkmpkjdaaDoor
