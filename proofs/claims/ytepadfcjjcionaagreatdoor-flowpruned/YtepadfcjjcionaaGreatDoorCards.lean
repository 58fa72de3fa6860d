/-
  DERIVED. GIVEN WITH THE SEED: THE CARDS: each row of YtepadfcjjcionaaGreatDoorRows.lean that lists a variable, with what it lists TIED to the program's text (the seventh form; the later family's looks); each row that meets fmt, with fmt's text TOLD by the authors' own Lean function (tested against real Go, not proved from fmt's source: count such statements apart). THE CARD IS WHAT COUNTS. Prove the row's statement (the work); the ties are given (YtepadfcjjcionaaGreatDoorTie.lean); close each card by the builder's one call (the guide's Derived/Test/ToyasCard.lean, 'card_holds'). Laid BY PROGRAM, IN A SANDBOX (cutbox-door.mjs). By AI agents, Wed Nov 11 2026. No macro, syntax, notation, axiom, sorry.
-/
import Derived.Test.YtepadfcjjcionaaGreatDoorRows
import GoSem.ClaimSeven
namespace Go.Proofs.YtepadfcjjcionaaGreatDoor
namespace Rows

/-- THE TIED CARD OF 'trammellaw09.FlowPruned'. -/
def flowPrunedCard : Claim7 := { stood := { row := flowPrunedRow, standIns := [], harness := (true, "27be6539d69a7235819cd9df391c279a8a61a88d64f819a585767bac172fb43a"), looks := true }, kinds := [], alts := [], laidByText := true, laidKinds := [.data, .data, .data, .sentinel, .sentinel, .data], laidTests := true, laidLooks := .later }
def FlowPrunedCardSaid : Prop := Claim7.holds Tryz.pinned (.plain (OpenSpec.ofChange flowPrunedSpec)) flowPrunedCard

/-- THE TIED CARD OF 'trammellaw09.FlowBehind'. -/
def flowBehindCard : Claim7 := { stood := { row := flowBehindRow, standIns := [], harness := (true, "27be6539d69a7235819cd9df391c279a8a61a88d64f819a585767bac172fb43a"), looks := true }, kinds := [], alts := [], laidByText := true, laidKinds := [.data, .data, .data, .sentinel, .sentinel, .data], laidTests := true, laidLooks := .later }
def FlowBehindCardSaid : Prop := Claim7.holds Tryz.pinned (.plain (OpenSpec.ofChange flowBehindSpec)) flowBehindCard

/-- THE TIED CARD OF 'trammellaw09.FlowWraps'. -/
def flowWrapsCard : Claim7 := { stood := { row := flowWrapsRow, standIns := [], harness := (true, "27be6539d69a7235819cd9df391c279a8a61a88d64f819a585767bac172fb43a"), looks := true }, kinds := [], alts := [], laidByText := true, laidKinds := [.data, .data, .data, .sentinel, .sentinel, .data], laidTests := true, laidLooks := .later }
def FlowWrapsCardSaid : Prop := Claim7.holds Tryz.pinned (.plain (OpenSpec.ofChange flowWrapsSpec)) flowWrapsCard

/-- THE SECOND FORM's CARD OF 'trammellaw09.FlowPruned'. -/
def flowPrunedUptoCard : Claim7 := { stood := { row := flowPrunedUptoRow, standIns := [], harness := (true, "27be6539d69a7235819cd9df391c279a8a61a88d64f819a585767bac172fb43a"), looks := true }, kinds := [], alts := [], laidByText := true, laidKinds := [.data, .data, .data, .sentinel, .sentinel, .data], laidTests := true, laidLooks := .later }
def FlowPrunedUptoCardSaid : Prop := Claim7.holds Tryz.pinned (.plain (OpenSpec.upto flowPrunedSpec)) flowPrunedUptoCard

/-- THE SECOND FORM's CARD OF 'trammellaw09.FlowBehind'. -/
def flowBehindUptoCard : Claim7 := { stood := { row := flowBehindUptoRow, standIns := [], harness := (true, "27be6539d69a7235819cd9df391c279a8a61a88d64f819a585767bac172fb43a"), looks := true }, kinds := [], alts := [], laidByText := true, laidKinds := [.data, .data, .data, .sentinel, .sentinel, .data], laidTests := true, laidLooks := .later }
def FlowBehindUptoCardSaid : Prop := Claim7.holds Tryz.pinned (.plain (OpenSpec.upto flowBehindSpec)) flowBehindUptoCard

/-- THE SECOND FORM's CARD OF 'trammellaw09.FlowWraps'. -/
def flowWrapsUptoCard : Claim7 := { stood := { row := flowWrapsUptoRow, standIns := [], harness := (true, "27be6539d69a7235819cd9df391c279a8a61a88d64f819a585767bac172fb43a"), looks := true }, kinds := [], alts := [], laidByText := true, laidKinds := [.data, .data, .data, .sentinel, .sentinel, .data], laidTests := true, laidLooks := .later }
def FlowWrapsUptoCardSaid : Prop := Claim7.holds Tryz.pinned (.plain (OpenSpec.upto flowWrapsSpec)) flowWrapsUptoCard
end Rows
end Go.Proofs.YtepadfcjjcionaaGreatDoor
