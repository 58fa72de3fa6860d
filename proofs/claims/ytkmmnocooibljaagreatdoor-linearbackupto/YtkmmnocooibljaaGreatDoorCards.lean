/-
  DERIVED. GIVEN WITH THE SEED: THE CARDS: each row of YtkmmnocooibljaaGreatDoorRows.lean that lists a variable, with what it lists TIED to the program's text (the seventh form; the later family's looks); each row that meets fmt, with fmt's text TOLD by the authors' own Lean function (tested against real Go, not proved from fmt's source: count such statements apart). THE CARD IS WHAT COUNTS. Prove the row's statement (the work); the ties are given (YtkmmnocooibljaaGreatDoorTie.lean); close each card by the builder's one call (the guide's Derived/Test/ToyasCard.lean, 'card_holds'). Laid BY PROGRAM, IN A SANDBOX (cutbox-door.mjs). By AI agents, Wed Nov 11 2026. No macro, syntax, notation, axiom, sorry.
-/
import Derived.Test.YtkmmnocooibljaaGreatDoorRows
import GoSem.ClaimSeven
namespace Go.Proofs.YtkmmnocooibljaaGreatDoor
namespace Rows

/-- THE TIED CARD OF 'trammellaw15.LinearRows'. -/
def linearRowsCard : Claim7 := { stood := { row := linearRowsRow, standIns := [], harness := (true, "48ec67e54bf1d03c637fbaff085eb0440bd4fce4396a3e958ae2ed3af4e8de63"), looks := false }, kinds := [], alts := [], laidByText := true, laidKinds := [.data, .data, .data, .data], laidTests := true, laidLooks := .later }
def LinearRowsCardSaid : Prop := Claim7.holds Tryz.pinned (.plain (OpenSpec.ofChange linearRowsSpec)) linearRowsCard

/-- THE TIED CARD OF 'trammellaw15.LinearCodes'. -/
def linearCodesCard : Claim7 := { stood := { row := linearCodesRow, standIns := [], harness := (true, "48ec67e54bf1d03c637fbaff085eb0440bd4fce4396a3e958ae2ed3af4e8de63"), looks := false }, kinds := [], alts := [], laidByText := true, laidKinds := [.data, .data, .data, .data], laidTests := true, laidLooks := .later }
def LinearCodesCardSaid : Prop := Claim7.holds Tryz.pinned (.plain (OpenSpec.ofChange linearCodesSpec)) linearCodesCard

/-- THE TIED CARD OF 'trammellaw15.LinearTargets'. -/
def linearTargetsCard : Claim7 := { stood := { row := linearTargetsRow, standIns := [], harness := (true, "48ec67e54bf1d03c637fbaff085eb0440bd4fce4396a3e958ae2ed3af4e8de63"), looks := false }, kinds := [], alts := [], laidByText := true, laidKinds := [.data, .data, .data, .data], laidTests := true, laidLooks := .later }
def LinearTargetsCardSaid : Prop := Claim7.holds Tryz.pinned (.plain (OpenSpec.ofChange linearTargetsSpec)) linearTargetsCard

/-- THE TIED CARD OF 'trammellaw15.LinearBack'. -/
def linearBackCard : Claim7 := { stood := { row := linearBackRow, standIns := [], harness := (true, "48ec67e54bf1d03c637fbaff085eb0440bd4fce4396a3e958ae2ed3af4e8de63"), looks := false }, kinds := [], alts := [], laidByText := true, laidKinds := [.data, .data, .data, .data], laidTests := true, laidLooks := .later }
def LinearBackCardSaid : Prop := Claim7.holds Tryz.pinned (.plain (OpenSpec.ofChange linearBackSpec)) linearBackCard

/-- THE TIED CARD OF 'trammellaw15.LinearNames'. -/
def linearNamesCard : Claim7 := { stood := { row := linearNamesRow, standIns := [], harness := (true, "48ec67e54bf1d03c637fbaff085eb0440bd4fce4396a3e958ae2ed3af4e8de63"), looks := false }, kinds := [], alts := [], laidByText := true, laidKinds := [.data, .data, .data, .data], laidTests := true, laidLooks := .later }
def LinearNamesCardSaid : Prop := Claim7.holds Tryz.pinned (.plain (OpenSpec.ofChange linearNamesSpec)) linearNamesCard

/-- THE TIED CARD OF 'trammellaw15.LinearPlaces'. -/
def linearPlacesCard : Claim7 := { stood := { row := linearPlacesRow, standIns := [], harness := (true, "48ec67e54bf1d03c637fbaff085eb0440bd4fce4396a3e958ae2ed3af4e8de63"), looks := false }, kinds := [], alts := [], laidByText := true, laidKinds := [.data, .data, .data, .data], laidTests := true, laidLooks := .later }
def LinearPlacesCardSaid : Prop := Claim7.holds Tryz.pinned (.plain (OpenSpec.ofChange linearPlacesSpec)) linearPlacesCard

/-- THE SECOND FORM's CARD OF 'trammellaw15.LinearRows'. -/
def linearRowsUptoCard : Claim7 := { stood := { row := linearRowsUptoRow, standIns := [], harness := (true, "48ec67e54bf1d03c637fbaff085eb0440bd4fce4396a3e958ae2ed3af4e8de63"), looks := false }, kinds := [], alts := [], laidByText := true, laidKinds := [.data, .data, .data, .data], laidTests := true, laidLooks := .later }
def LinearRowsUptoCardSaid : Prop := Claim7.holds Tryz.pinned (.plain (OpenSpec.upto linearRowsSpec)) linearRowsUptoCard

/-- THE SECOND FORM's CARD OF 'trammellaw15.LinearCodes'. -/
def linearCodesUptoCard : Claim7 := { stood := { row := linearCodesUptoRow, standIns := [], harness := (true, "48ec67e54bf1d03c637fbaff085eb0440bd4fce4396a3e958ae2ed3af4e8de63"), looks := false }, kinds := [], alts := [], laidByText := true, laidKinds := [.data, .data, .data, .data], laidTests := true, laidLooks := .later }
def LinearCodesUptoCardSaid : Prop := Claim7.holds Tryz.pinned (.plain (OpenSpec.upto linearCodesSpec)) linearCodesUptoCard

/-- THE SECOND FORM's CARD OF 'trammellaw15.LinearTargets'. -/
def linearTargetsUptoCard : Claim7 := { stood := { row := linearTargetsUptoRow, standIns := [], harness := (true, "48ec67e54bf1d03c637fbaff085eb0440bd4fce4396a3e958ae2ed3af4e8de63"), looks := false }, kinds := [], alts := [], laidByText := true, laidKinds := [.data, .data, .data, .data], laidTests := true, laidLooks := .later }
def LinearTargetsUptoCardSaid : Prop := Claim7.holds Tryz.pinned (.plain (OpenSpec.upto linearTargetsSpec)) linearTargetsUptoCard

/-- THE SECOND FORM's CARD OF 'trammellaw15.LinearBack'. -/
def linearBackUptoCard : Claim7 := { stood := { row := linearBackUptoRow, standIns := [], harness := (true, "48ec67e54bf1d03c637fbaff085eb0440bd4fce4396a3e958ae2ed3af4e8de63"), looks := false }, kinds := [], alts := [], laidByText := true, laidKinds := [.data, .data, .data, .data], laidTests := true, laidLooks := .later }
def LinearBackUptoCardSaid : Prop := Claim7.holds Tryz.pinned (.plain (OpenSpec.upto linearBackSpec)) linearBackUptoCard

/-- THE SECOND FORM's CARD OF 'trammellaw15.LinearNames'. -/
def linearNamesUptoCard : Claim7 := { stood := { row := linearNamesUptoRow, standIns := [], harness := (true, "48ec67e54bf1d03c637fbaff085eb0440bd4fce4396a3e958ae2ed3af4e8de63"), looks := false }, kinds := [], alts := [], laidByText := true, laidKinds := [.data, .data, .data, .data], laidTests := true, laidLooks := .later }
def LinearNamesUptoCardSaid : Prop := Claim7.holds Tryz.pinned (.plain (OpenSpec.upto linearNamesSpec)) linearNamesUptoCard

/-- THE SECOND FORM's CARD OF 'trammellaw15.LinearPlaces'. -/
def linearPlacesUptoCard : Claim7 := { stood := { row := linearPlacesUptoRow, standIns := [], harness := (true, "48ec67e54bf1d03c637fbaff085eb0440bd4fce4396a3e958ae2ed3af4e8de63"), looks := false }, kinds := [], alts := [], laidByText := true, laidKinds := [.data, .data, .data, .data], laidTests := true, laidLooks := .later }
def LinearPlacesUptoCardSaid : Prop := Claim7.holds Tryz.pinned (.plain (OpenSpec.upto linearPlacesSpec)) linearPlacesUptoCard
end Rows
end Go.Proofs.YtkmmnocooibljaaGreatDoor
