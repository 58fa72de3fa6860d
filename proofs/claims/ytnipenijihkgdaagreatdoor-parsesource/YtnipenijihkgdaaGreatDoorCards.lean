/-
  DERIVED. GIVEN WITH THE SEED: THE CARDS: each row of YtnipenijihkgdaaGreatDoorRows.lean that lists a variable, with what it lists TIED to the program's text (the seventh form; the later family's looks); each row that meets fmt, with fmt's text TOLD by the authors' own Lean function (tested against real Go, not proved from fmt's source: count such statements apart). THE CARD IS WHAT COUNTS. Prove the row's statement (the work); the ties are given (YtnipenijihkgdaaGreatDoorTie.lean); close each card by the builder's one call (the guide's Derived/Test/ToyasCard.lean, 'card_holds'). Laid BY PROGRAM, IN A SANDBOX (cutbox-door.mjs). By AI agents, Wed Nov 11 2026. No macro, syntax, notation, axiom, sorry.
-/
import Derived.Test.YtnipenijihkgdaaGreatDoorRows
import GoSem.ClaimSeven
namespace Go.Proofs.YtnipenijihkgdaaGreatDoor
namespace Rows

/-- THE TIED CARD OF 'trammellaw04.ParseSource'. -/
def parseSourceCard : Claim7 := { stood := { row := parseSourceRow, standIns := [], harness := (true, "c173a7e4962935992bdfb700e11752be79fede87c773260c67334e4cf60c7f6f"), looks := true }, kinds := [], alts := [], laidByText := true, laidKinds := [.data, .data, .data, .sentinel, .sentinel], laidTests := true, laidLooks := .later }
def ParseSourceCardSaid : Prop := Claim7.holds Tryz.pinned (.plain (OpenSpec.ofChange parseSourceSpec)) parseSourceCard

/-- THE TIED CARD OF 'trammellaw04.ParseParts'. -/
def parsePartsCard : Claim7 := { stood := { row := parsePartsRow, standIns := [], harness := (true, "c173a7e4962935992bdfb700e11752be79fede87c773260c67334e4cf60c7f6f"), looks := true }, kinds := [], alts := [], laidByText := true, laidKinds := [.data, .data, .data, .sentinel, .sentinel], laidTests := true, laidLooks := .later }
def ParsePartsCardSaid : Prop := Claim7.holds Tryz.pinned (.plain (OpenSpec.ofChange parsePartsSpec)) parsePartsCard

/-- THE TIED CARD OF 'trammellaw04.ParseChecks'. -/
def parseChecksCard : Claim7 := { stood := { row := parseChecksRow, standIns := [], harness := (true, "c173a7e4962935992bdfb700e11752be79fede87c773260c67334e4cf60c7f6f"), looks := true }, kinds := [], alts := [], laidByText := true, laidKinds := [.data, .data, .data, .sentinel, .sentinel], laidTests := true, laidLooks := .later }
def ParseChecksCardSaid : Prop := Claim7.holds Tryz.pinned (.plain (OpenSpec.ofChange parseChecksSpec)) parseChecksCard

/-- THE SECOND FORM's CARD OF 'trammellaw04.ParseSource'. -/
def parseSourceUptoCard : Claim7 := { stood := { row := parseSourceUptoRow, standIns := [], harness := (true, "c173a7e4962935992bdfb700e11752be79fede87c773260c67334e4cf60c7f6f"), looks := true }, kinds := [], alts := [], laidByText := true, laidKinds := [.data, .data, .data, .sentinel, .sentinel], laidTests := true, laidLooks := .later }
def ParseSourceUptoCardSaid : Prop := Claim7.holds Tryz.pinned (.plain (OpenSpec.upto parseSourceSpec)) parseSourceUptoCard

/-- THE SECOND FORM's CARD OF 'trammellaw04.ParseParts'. -/
def parsePartsUptoCard : Claim7 := { stood := { row := parsePartsUptoRow, standIns := [], harness := (true, "c173a7e4962935992bdfb700e11752be79fede87c773260c67334e4cf60c7f6f"), looks := true }, kinds := [], alts := [], laidByText := true, laidKinds := [.data, .data, .data, .sentinel, .sentinel], laidTests := true, laidLooks := .later }
def ParsePartsUptoCardSaid : Prop := Claim7.holds Tryz.pinned (.plain (OpenSpec.upto parsePartsSpec)) parsePartsUptoCard

/-- THE SECOND FORM's CARD OF 'trammellaw04.ParseChecks'. -/
def parseChecksUptoCard : Claim7 := { stood := { row := parseChecksUptoRow, standIns := [], harness := (true, "c173a7e4962935992bdfb700e11752be79fede87c773260c67334e4cf60c7f6f"), looks := true }, kinds := [], alts := [], laidByText := true, laidKinds := [.data, .data, .data, .sentinel, .sentinel], laidTests := true, laidLooks := .later }
def ParseChecksUptoCardSaid : Prop := Claim7.holds Tryz.pinned (.plain (OpenSpec.upto parseChecksSpec)) parseChecksUptoCard
end Rows
end Go.Proofs.YtnipenijihkgdaaGreatDoor
