/-
  DERIVED. GIVEN WITH THE SEED: THE CARDS: each row of YtffnlcamobekoaaDoorRows.lean that lists a variable, with what it lists TIED to the program's text (the seventh form; the later family's looks); each row that meets fmt, with fmt's text TOLD by the authors' own Lean function (tested against real Go, not proved from fmt's source: count such statements apart). THE CARD IS WHAT COUNTS. Prove the row's statement (the work); the ties are given (YtffnlcamobekoaaDoorTie.lean); close each card by the builder's one call (the guide's Derived/Test/ToyasCard.lean, 'card_holds'). Laid BY PROGRAM, IN A SANDBOX (cutbox-door.mjs). By AI agents, Wed Nov 11 2026. No macro, syntax, notation, axiom, sorry.
-/
import Derived.Test.YtffnlcamobekoaaDoorRows
import GoSem.ClaimSeven
namespace Go.Proofs.YtffnlcamobekoaaDoor
namespace Rows

/-- THE TIED CARD OF 'trammellaw12.OpsWrites'. -/
def opsWritesCard : Claim7 := { stood := { row := opsWritesRow, standIns := [], harness := (true, "4b52a159fb843af3dbfb709a4756e8e2fce9a1d70a7b1ed5aeb76b1e8d4654a0"), looks := false }, kinds := [], alts := [], laidByText := true, laidKinds := [.data], laidTests := true, laidLooks := .later }
def OpsWritesCardSaid : Prop := Claim7.holds Tryd.pinned (.plain (OpenSpec.ofChange opsWritesSpec)) opsWritesCard

/-- THE TIED CARD OF 'trammellaw12.OpsReads'. -/
def opsReadsCard : Claim7 := { stood := { row := opsReadsRow, standIns := [], harness := (true, "4b52a159fb843af3dbfb709a4756e8e2fce9a1d70a7b1ed5aeb76b1e8d4654a0"), looks := false }, kinds := [], alts := [], laidByText := true, laidKinds := [.data], laidTests := true, laidLooks := .later }
def OpsReadsCardSaid : Prop := Claim7.holds Tryd.pinned (.plain (OpenSpec.ofChange opsReadsSpec)) opsReadsCard

/-- THE TIED CARD OF 'trammellaw12.OpsTakes'. -/
def opsTakesCard : Claim7 := { stood := { row := opsTakesRow, standIns := [], harness := (true, "4b52a159fb843af3dbfb709a4756e8e2fce9a1d70a7b1ed5aeb76b1e8d4654a0"), looks := false }, kinds := [], alts := [], laidByText := true, laidKinds := [.data], laidTests := true, laidLooks := .later }
def OpsTakesCardSaid : Prop := Claim7.holds Tryd.pinned (.plain (OpenSpec.ofChange opsTakesSpec)) opsTakesCard

/-- THE TIED CARD OF 'trammellaw12.OpsBack'. -/
def opsBackCard : Claim7 := { stood := { row := opsBackRow, standIns := [], harness := (true, "4b52a159fb843af3dbfb709a4756e8e2fce9a1d70a7b1ed5aeb76b1e8d4654a0"), looks := false }, kinds := [], alts := [], laidByText := true, laidKinds := [.data], laidTests := true, laidLooks := .later }
def OpsBackCardSaid : Prop := Claim7.holds Tryd.pinned (.plain (OpenSpec.ofChange opsBackSpec)) opsBackCard

/-- THE TIED CARD OF 'trammellaw12.OpsShort'. -/
def opsShortCard : Claim7 := { stood := { row := opsShortRow, standIns := [], harness := (true, "4b52a159fb843af3dbfb709a4756e8e2fce9a1d70a7b1ed5aeb76b1e8d4654a0"), looks := false }, kinds := [], alts := [], laidByText := true, laidKinds := [.data], laidTests := true, laidLooks := .later }
def OpsShortCardSaid : Prop := Claim7.holds Tryd.pinned (.plain (OpenSpec.ofChange opsShortSpec)) opsShortCard

/-- THE TIED CARD OF 'trammellaw12.OpsForth'. -/
def opsForthCard : Claim7 := { stood := { row := opsForthRow, standIns := [], harness := (true, "4b52a159fb843af3dbfb709a4756e8e2fce9a1d70a7b1ed5aeb76b1e8d4654a0"), looks := false }, kinds := [], alts := [], laidByText := true, laidKinds := [.data], laidTests := true, laidLooks := .later }
def OpsForthCardSaid : Prop := Claim7.holds Tryd.pinned (.plain (OpenSpec.ofChange opsForthSpec)) opsForthCard

/-- THE SECOND FORM's CARD OF 'trammellaw12.OpsWrites'. -/
def opsWritesUptoCard : Claim7 := { stood := { row := opsWritesUptoRow, standIns := [], harness := (true, "4b52a159fb843af3dbfb709a4756e8e2fce9a1d70a7b1ed5aeb76b1e8d4654a0"), looks := false }, kinds := [], alts := [], laidByText := true, laidKinds := [.data], laidTests := true, laidLooks := .later }
def OpsWritesUptoCardSaid : Prop := Claim7.holds Tryd.pinned (.plain (OpenSpec.upto opsWritesSpec)) opsWritesUptoCard

/-- THE SECOND FORM's CARD OF 'trammellaw12.OpsReads'. -/
def opsReadsUptoCard : Claim7 := { stood := { row := opsReadsUptoRow, standIns := [], harness := (true, "4b52a159fb843af3dbfb709a4756e8e2fce9a1d70a7b1ed5aeb76b1e8d4654a0"), looks := false }, kinds := [], alts := [], laidByText := true, laidKinds := [.data], laidTests := true, laidLooks := .later }
def OpsReadsUptoCardSaid : Prop := Claim7.holds Tryd.pinned (.plain (OpenSpec.upto opsReadsSpec)) opsReadsUptoCard

/-- THE SECOND FORM's CARD OF 'trammellaw12.OpsTakes'. -/
def opsTakesUptoCard : Claim7 := { stood := { row := opsTakesUptoRow, standIns := [], harness := (true, "4b52a159fb843af3dbfb709a4756e8e2fce9a1d70a7b1ed5aeb76b1e8d4654a0"), looks := false }, kinds := [], alts := [], laidByText := true, laidKinds := [.data], laidTests := true, laidLooks := .later }
def OpsTakesUptoCardSaid : Prop := Claim7.holds Tryd.pinned (.plain (OpenSpec.upto opsTakesSpec)) opsTakesUptoCard

/-- THE SECOND FORM's CARD OF 'trammellaw12.OpsBack'. -/
def opsBackUptoCard : Claim7 := { stood := { row := opsBackUptoRow, standIns := [], harness := (true, "4b52a159fb843af3dbfb709a4756e8e2fce9a1d70a7b1ed5aeb76b1e8d4654a0"), looks := false }, kinds := [], alts := [], laidByText := true, laidKinds := [.data], laidTests := true, laidLooks := .later }
def OpsBackUptoCardSaid : Prop := Claim7.holds Tryd.pinned (.plain (OpenSpec.upto opsBackSpec)) opsBackUptoCard

/-- THE SECOND FORM's CARD OF 'trammellaw12.OpsShort'. -/
def opsShortUptoCard : Claim7 := { stood := { row := opsShortUptoRow, standIns := [], harness := (true, "4b52a159fb843af3dbfb709a4756e8e2fce9a1d70a7b1ed5aeb76b1e8d4654a0"), looks := false }, kinds := [], alts := [], laidByText := true, laidKinds := [.data], laidTests := true, laidLooks := .later }
def OpsShortUptoCardSaid : Prop := Claim7.holds Tryd.pinned (.plain (OpenSpec.upto opsShortSpec)) opsShortUptoCard

/-- THE SECOND FORM's CARD OF 'trammellaw12.OpsForth'. -/
def opsForthUptoCard : Claim7 := { stood := { row := opsForthUptoRow, standIns := [], harness := (true, "4b52a159fb843af3dbfb709a4756e8e2fce9a1d70a7b1ed5aeb76b1e8d4654a0"), looks := false }, kinds := [], alts := [], laidByText := true, laidKinds := [.data], laidTests := true, laidLooks := .later }
def OpsForthUptoCardSaid : Prop := Claim7.holds Tryd.pinned (.plain (OpenSpec.upto opsForthSpec)) opsForthUptoCard
end Rows
end Go.Proofs.YtffnlcamobekoaaDoor
