/-
  NARROWER THAN 'FOR EVERY INPUT', by the rows' own cells (each row's printed sentence says how): OpsWrites: laid · OpsReads: laid · OpsTakes: laid · OpsBack: laid · OpsShort: laid · OpsForth: laid.
  DERIVED. THE GIVEN ROWS OF THIS SEAT. 6 by the template 'for every input the law returns true; each argument reads behind the call as it read before'; 0 by the template 'total and deterministic' (their statements: YtffnlcamobekoaaDoorTotals.lean).
  GIVEN WITH THE SEED: the statements are not yours to turn. If you find one false, say at which input.
  Laid BY PROGRAM, IN A SANDBOX (cutbox-rows.mjs): the forced cells as the released guide's own fill.sh prints them over the translation 15db147046c549c1… (all of the seat's roots in one cut). By AI agents, Wed Nov 11 2026. No macro, syntax, notation, axiom, sorry.
-/
import Derived.Test.YtffnlcamobekoaaDoorChecked
import GoSem.Claim
import GoSem.ClaimJoined
import GoSem.ClaimMapViews
import Derived.JoinedTies
import Derived.KernelRfl
namespace Go.Proofs.YtffnlcamobekoaaDoor
/- THE CELL 'sum', in the pinned program and in every row, IS THE sha256 OF THE DUMP (.gsa) THAT YtffnlcamobekoaaDoorProg.lean LOADS. Nothing in Lean hashes anything: it is a label: what it is worth is what the hold of that sum in a sandbox is worth. -/
noncomputable def Tryd.pinned : Pinned := { name := "ytffnlcamobekoaadoor", sum := "15db147046c549c11a03f6ea8d00f610fa2b3e905bb18ace29bbcbf8ec985c36", checked := Tryd.checked }
namespace Rows
def none {H : Type} : Left H := { results := [], args := [] }

/- WHAT THE LISTED PACKAGE-LEVEL VARIABLES READ AS WHEN THE CALL BEGINS. Each datum BY PROGRAM (the guide's laid-datum.mjs) off the statement by which the dump's own 'gosem.cut.vars' lays the variable. In a bare row this is a premise. The card (YtffnlcamobekoaaDoorCards.lean) ties it to the program's text. -/
def laid_trammel_ops_names {H : Type} : DataW H := .agg [.lit (.string []), .lit (.string [105, 56]), .lit (.string [105, 51, 50]), .lit (.string [105, 54, 52]), .lit (.string [116, 114, 117, 101]), .lit (.string [102, 97, 108, 115, 101]), .lit (.string [116, 101, 120, 116]), .lit (.string [103, 101, 116]), .lit (.string [112, 117, 116]), .lit (.string [112, 111, 112]), .lit (.string [100, 117, 112]), .lit (.string [97, 100, 100]), .lit (.string [115, 117, 98]), .lit (.string [109, 117, 108]), .lit (.string [100, 105, 118]), .lit (.string [114, 101, 109]), .lit (.string [97, 110, 100]), .lit (.string [111, 114]), .lit (.string [120, 111, 114]), .lit (.string [115, 104, 108]), .lit (.string [115, 104, 114]), .lit (.string [110, 101, 103]), .lit (.string [110, 111, 116]), .lit (.string [101, 113]), .lit (.string [110, 101]), .lit (.string [108, 116]), .lit (.string [108, 101]), .lit (.string [103, 116]), .lit (.string [103, 101]), .lit (.string [99, 111, 110, 118]), .lit (.string [102, 108, 105, 112]), .lit (.string [99, 97, 116]), .lit (.string [115, 105, 122, 101]), .lit (.string [99, 104, 97, 114, 97, 116]), .lit (.string [99, 117, 116]), .lit (.string [98, 121, 116, 101]), .lit (.string [110, 101, 119]), .lit (.string [102, 105, 101, 108, 100]), .lit (.string [115, 101, 116, 102, 105, 101, 108, 100]), .lit (.string [102, 105, 108, 108]), .lit (.string [101, 109, 112, 116, 121]), .lit (.string [97, 116]), .lit (.string [115, 101, 116, 97, 116]), .lit (.string [108, 101, 110]), .lit (.string [112, 117, 115, 104]), .lit (.string [100, 114, 111, 112]), .lit (.string [106, 117, 109, 112]), .lit (.string [117, 110, 108, 101, 115, 115]), .lit (.string [119, 104, 101, 110]), .lit (.string [115, 119, 105, 116, 99, 104]), .lit (.string [99, 97, 108, 108]), .lit (.string [114, 101, 116, 117, 114, 110]), .lit (.string [116, 114, 97, 112])]

/-- 'trammellaw12.OpsWrites': WHATEVER THE INPUT: true; the input reads as it did. -/
def opsWritesSpec : ChangeSpec := { name := "opsWrites", fn := fun _ => fun
  | [d] => { results := [.lit (.bool true)], args := [d] }
  | _ => none }
def opsWritesRow : OpenClaim := { program := "ytffnlcamobekoaadoor", sum := "15db147046c549c11a03f6ea8d00f610fa2b3e905bb18ace29bbcbf8ec985c36", func := "trammel/trammellaw12.OpsWrites", spec := "opsWrites", unfollowed := true, recurses := true, named := ["trammel/ops.names"], apart := false, laid := [("trammel/ops.names", laid_trammel_ops_names)] }
def OpsWritesSaid : Prop := opsWritesRow.holds Tryd.pinned (OpenSpec.ofChange opsWritesSpec)

/-- ITS FALSE NEIGHBOUR: 'it returns false'. Refute it at one input. -/
def opsWritesWrong : ChangeSpec := { name := "opsWrites", fn := fun _ => fun
  | [d] => { results := [.lit (.bool false)], args := [d] }
  | _ => none }
def OpsWritesWrongFalsely : Prop := opsWritesRow.holds Tryd.pinned (OpenSpec.ofChange opsWritesWrong)

/-- 'trammellaw12.OpsReads': WHATEVER THE INPUT: true; the input reads as it did. -/
def opsReadsSpec : ChangeSpec := { name := "opsReads", fn := fun _ => fun
  | [d1, d2] => { results := [.lit (.bool true)], args := [d1, d2] }
  | _ => none }
def opsReadsRow : OpenClaim := { program := "ytffnlcamobekoaadoor", sum := "15db147046c549c11a03f6ea8d00f610fa2b3e905bb18ace29bbcbf8ec985c36", func := "trammel/trammellaw12.OpsReads", spec := "opsReads", unfollowed := true, recurses := true, named := ["trammel/ops.names"], apart := false, laid := [("trammel/ops.names", laid_trammel_ops_names)] }
def OpsReadsSaid : Prop := opsReadsRow.holds Tryd.pinned (OpenSpec.ofChange opsReadsSpec)

/-- ITS FALSE NEIGHBOUR: 'it returns false'. Refute it at one input. -/
def opsReadsWrong : ChangeSpec := { name := "opsReads", fn := fun _ => fun
  | [d1, d2] => { results := [.lit (.bool false)], args := [d1, d2] }
  | _ => none }
def OpsReadsWrongFalsely : Prop := opsReadsRow.holds Tryd.pinned (OpenSpec.ofChange opsReadsWrong)

/-- 'trammellaw12.OpsTakes': WHATEVER THE INPUT: true; the input reads as it did. -/
def opsTakesSpec : ChangeSpec := { name := "opsTakes", fn := fun _ => fun
  | [d1, d2] => { results := [.lit (.bool true)], args := [d1, d2] }
  | _ => none }
def opsTakesRow : OpenClaim := { program := "ytffnlcamobekoaadoor", sum := "15db147046c549c11a03f6ea8d00f610fa2b3e905bb18ace29bbcbf8ec985c36", func := "trammel/trammellaw12.OpsTakes", spec := "opsTakes", unfollowed := true, recurses := true, named := ["trammel/ops.names"], apart := false, laid := [("trammel/ops.names", laid_trammel_ops_names)] }
def OpsTakesSaid : Prop := opsTakesRow.holds Tryd.pinned (OpenSpec.ofChange opsTakesSpec)

/-- ITS FALSE NEIGHBOUR: 'it returns false'. Refute it at one input. -/
def opsTakesWrong : ChangeSpec := { name := "opsTakes", fn := fun _ => fun
  | [d1, d2] => { results := [.lit (.bool false)], args := [d1, d2] }
  | _ => none }
def OpsTakesWrongFalsely : Prop := opsTakesRow.holds Tryd.pinned (OpenSpec.ofChange opsTakesWrong)

/-- 'trammellaw12.OpsBack': WHATEVER THE INPUT: true; the input reads as it did. -/
def opsBackSpec : ChangeSpec := { name := "opsBack", fn := fun _ => fun
  | [d] => { results := [.lit (.bool true)], args := [d] }
  | _ => none }
def opsBackRow : OpenClaim := { program := "ytffnlcamobekoaadoor", sum := "15db147046c549c11a03f6ea8d00f610fa2b3e905bb18ace29bbcbf8ec985c36", func := "trammel/trammellaw12.OpsBack", spec := "opsBack", unfollowed := true, recurses := true, named := ["trammel/ops.names"], apart := false, laid := [("trammel/ops.names", laid_trammel_ops_names)] }
def OpsBackSaid : Prop := opsBackRow.holds Tryd.pinned (OpenSpec.ofChange opsBackSpec)

/-- ITS FALSE NEIGHBOUR: 'it returns false'. Refute it at one input. -/
def opsBackWrong : ChangeSpec := { name := "opsBack", fn := fun _ => fun
  | [d] => { results := [.lit (.bool false)], args := [d] }
  | _ => none }
def OpsBackWrongFalsely : Prop := opsBackRow.holds Tryd.pinned (OpenSpec.ofChange opsBackWrong)

/-- 'trammellaw12.OpsShort': WHATEVER THE INPUT: true; the input reads as it did. -/
def opsShortSpec : ChangeSpec := { name := "opsShort", fn := fun _ => fun
  | [d1, d2] => { results := [.lit (.bool true)], args := [d1, d2] }
  | _ => none }
def opsShortRow : OpenClaim := { program := "ytffnlcamobekoaadoor", sum := "15db147046c549c11a03f6ea8d00f610fa2b3e905bb18ace29bbcbf8ec985c36", func := "trammel/trammellaw12.OpsShort", spec := "opsShort", unfollowed := true, recurses := true, named := ["trammel/ops.names"], apart := false, laid := [("trammel/ops.names", laid_trammel_ops_names)] }
def OpsShortSaid : Prop := opsShortRow.holds Tryd.pinned (OpenSpec.ofChange opsShortSpec)

/-- ITS FALSE NEIGHBOUR: 'it returns false'. Refute it at one input. -/
def opsShortWrong : ChangeSpec := { name := "opsShort", fn := fun _ => fun
  | [d1, d2] => { results := [.lit (.bool false)], args := [d1, d2] }
  | _ => none }
def OpsShortWrongFalsely : Prop := opsShortRow.holds Tryd.pinned (OpenSpec.ofChange opsShortWrong)

/-- 'trammellaw12.OpsForth': WHATEVER THE INPUT: true; the input reads as it did. -/
def opsForthSpec : ChangeSpec := { name := "opsForth", fn := fun _ => fun
  | [d1, d2] => { results := [.lit (.bool true)], args := [d1, d2] }
  | _ => none }
def opsForthRow : OpenClaim := { program := "ytffnlcamobekoaadoor", sum := "15db147046c549c11a03f6ea8d00f610fa2b3e905bb18ace29bbcbf8ec985c36", func := "trammel/trammellaw12.OpsForth", spec := "opsForth", unfollowed := true, recurses := true, named := ["trammel/ops.names"], apart := false, laid := [("trammel/ops.names", laid_trammel_ops_names)] }
def OpsForthSaid : Prop := opsForthRow.holds Tryd.pinned (OpenSpec.ofChange opsForthSpec)

/-- ITS FALSE NEIGHBOUR: 'it returns false'. Refute it at one input. -/
def opsForthWrong : ChangeSpec := { name := "opsForth", fn := fun _ => fun
  | [d1, d2] => { results := [.lit (.bool false)], args := [d1, d2] }
  | _ => none }
def OpsForthWrongFalsely : Prop := opsForthRow.holds Tryd.pinned (OpenSpec.ofChange opsForthWrong)

/- THE SECOND FORM. 'bulk': how many values and letters a reading holds, each counted each time it is reached (what is shared counts as often as it is met; a slice's spare places count too). A statement '..UptoSaid' is the law's where the arguments, and the package variables that the reading takes, are together of bulk at most 1048576: NARROWER than '..Said'. Prove '..Said' where nothing that the law and all that it calls make is longer than what came in: it says more and counts as full. Else prove '..UptoSaid'. A law counts once. -/
mutual
def uptoBulk {H : Type} : DataW H → Nat
  | .lit (.string bytes) => bytes.length + 1
  | .lit _ => 1
  | .nil => 1
  | .ptr d => uptoBulk d + 1
  | .slice elems spare => uptoBulkAll elems + uptoBulkAll spare + 1
  | .agg parts => uptoBulkAll parts + 1
  | .iface _ d => uptoBulk d + 1
  | .map entries => uptoBulkEntries entries + 1
  | .held _ => 1
def uptoBulkAll {H : Type} : List (DataW H) → Nat
  | [] => 0
  | d :: r => uptoBulk d + uptoBulkAll r
def uptoBulkEntries {H : Type} : List (Lit × DataW H) → Nat
  | [] => 0
  | x :: r => uptoBulkEntry x + uptoBulkEntries r
def uptoBulkEntry {H : Type} : Lit × DataW H → Nat
  | (.string bytes, d) => bytes.length + uptoBulk d + 1
  | (_, d) => uptoBulk d + 1
 end
def uptoSmall : (H : Type) → List (DataW H) → Bool := fun _ ds => decide (uptoBulkAll ds ≤ 1048576)
def OpenSpec.upto (s : _root_.Go.ChangeSpec) : _root_.Go.OpenSpec := { _root_.Go.OpenSpec.ofChange s with cond := some uptoSmall }

/-- 'trammellaw12.OpsWrites', WHERE WHAT IT READS IS OF BULK AT MOST 1048576: true; the input reads as it did. -/
def opsWritesUptoRow : OpenClaim := { program := "ytffnlcamobekoaadoor", sum := "15db147046c549c11a03f6ea8d00f610fa2b3e905bb18ace29bbcbf8ec985c36", func := "trammel/trammellaw12.OpsWrites", spec := "opsWrites", unfollowed := true, recurses := true, named := ["trammel/ops.names"], apart := false, laid := [("trammel/ops.names", laid_trammel_ops_names)], narrowed := true }
def OpsWritesUptoSaid : Prop := opsWritesUptoRow.holds Tryd.pinned (OpenSpec.upto opsWritesSpec)

/-- 'trammellaw12.OpsReads', WHERE WHAT IT READS IS OF BULK AT MOST 1048576: true; the input reads as it did. -/
def opsReadsUptoRow : OpenClaim := { program := "ytffnlcamobekoaadoor", sum := "15db147046c549c11a03f6ea8d00f610fa2b3e905bb18ace29bbcbf8ec985c36", func := "trammel/trammellaw12.OpsReads", spec := "opsReads", unfollowed := true, recurses := true, named := ["trammel/ops.names"], apart := false, laid := [("trammel/ops.names", laid_trammel_ops_names)], narrowed := true }
def OpsReadsUptoSaid : Prop := opsReadsUptoRow.holds Tryd.pinned (OpenSpec.upto opsReadsSpec)

/-- 'trammellaw12.OpsTakes', WHERE WHAT IT READS IS OF BULK AT MOST 1048576: true; the input reads as it did. -/
def opsTakesUptoRow : OpenClaim := { program := "ytffnlcamobekoaadoor", sum := "15db147046c549c11a03f6ea8d00f610fa2b3e905bb18ace29bbcbf8ec985c36", func := "trammel/trammellaw12.OpsTakes", spec := "opsTakes", unfollowed := true, recurses := true, named := ["trammel/ops.names"], apart := false, laid := [("trammel/ops.names", laid_trammel_ops_names)], narrowed := true }
def OpsTakesUptoSaid : Prop := opsTakesUptoRow.holds Tryd.pinned (OpenSpec.upto opsTakesSpec)

/-- 'trammellaw12.OpsBack', WHERE WHAT IT READS IS OF BULK AT MOST 1048576: true; the input reads as it did. -/
def opsBackUptoRow : OpenClaim := { program := "ytffnlcamobekoaadoor", sum := "15db147046c549c11a03f6ea8d00f610fa2b3e905bb18ace29bbcbf8ec985c36", func := "trammel/trammellaw12.OpsBack", spec := "opsBack", unfollowed := true, recurses := true, named := ["trammel/ops.names"], apart := false, laid := [("trammel/ops.names", laid_trammel_ops_names)], narrowed := true }
def OpsBackUptoSaid : Prop := opsBackUptoRow.holds Tryd.pinned (OpenSpec.upto opsBackSpec)

/-- 'trammellaw12.OpsShort', WHERE WHAT IT READS IS OF BULK AT MOST 1048576: true; the input reads as it did. -/
def opsShortUptoRow : OpenClaim := { program := "ytffnlcamobekoaadoor", sum := "15db147046c549c11a03f6ea8d00f610fa2b3e905bb18ace29bbcbf8ec985c36", func := "trammel/trammellaw12.OpsShort", spec := "opsShort", unfollowed := true, recurses := true, named := ["trammel/ops.names"], apart := false, laid := [("trammel/ops.names", laid_trammel_ops_names)], narrowed := true }
def OpsShortUptoSaid : Prop := opsShortUptoRow.holds Tryd.pinned (OpenSpec.upto opsShortSpec)

/-- 'trammellaw12.OpsForth', WHERE WHAT IT READS IS OF BULK AT MOST 1048576: true; the input reads as it did. -/
def opsForthUptoRow : OpenClaim := { program := "ytffnlcamobekoaadoor", sum := "15db147046c549c11a03f6ea8d00f610fa2b3e905bb18ace29bbcbf8ec985c36", func := "trammel/trammellaw12.OpsForth", spec := "opsForth", unfollowed := true, recurses := true, named := ["trammel/ops.names"], apart := false, laid := [("trammel/ops.names", laid_trammel_ops_names)], narrowed := true }
def OpsForthUptoSaid : Prop := opsForthUptoRow.holds Tryd.pinned (OpenSpec.upto opsForthSpec)

end Rows
end Go.Proofs.YtffnlcamobekoaaDoor
