/-
  NARROWER THAN 'FOR EVERY INPUT', by the rows' own cells (each row's printed sentence says how): OpsTakes: laid · OpsKnown: laid.
  DERIVED. THE GIVEN ROWS OF THIS SEAT. 2 by the template 'for every input the law returns true; each argument reads behind the call as it read before'; 0 by the template 'total and deterministic' (their statements: YtjfdlphkmpkjdaaDoorTotals.lean).
  GIVEN WITH THE SEED: the statements are not yours to turn. If you find one false, say at which input.
  Laid BY PROGRAM, IN A SANDBOX (cutbox-rows.mjs): the forced cells as the released guide's own fill.sh prints them over the translation a4c84d126e8ab652… (all of the seat's roots in one cut). By AI agents, Wed Nov 11 2026. No macro, syntax, notation, axiom, sorry.
-/
import Derived.Test.YtjfdlphkmpkjdaaDoorChecked
import GoSem.Claim
import GoSem.ClaimJoined
import GoSem.ClaimMapViews
import Derived.JoinedTies
import Derived.KernelRfl
namespace Go.Proofs.YtjfdlphkmpkjdaaDoor
/- THE CELL 'sum', in the pinned program and in every row, IS THE sha256 OF THE DUMP (.gsa) THAT YtjfdlphkmpkjdaaDoorProg.lean LOADS. Nothing in Lean hashes anything: it is a label: what it is worth is what the hold of that sum in a sandbox is worth. -/
noncomputable def Tryd.pinned : Pinned := { name := "ytjfdlphkmpkjdaadoor", sum := "a4c84d126e8ab6529fa32c0dfd676ddde479396b903de0a5ef4995ebd8919e84", checked := Tryd.checked }
namespace Rows
def none {H : Type} : Left H := { results := [], args := [] }

/- WHAT THE LISTED PACKAGE-LEVEL VARIABLES READ AS WHEN THE CALL BEGINS. Each datum BY PROGRAM (the guide's laid-datum.mjs) off the statement by which the dump's own 'gosem.cut.vars' lays the variable. In a bare row this is a premise. The card (YtjfdlphkmpkjdaaDoorCards.lean) ties it to the program's text. -/
def laid_trammel_ops_names {H : Type} : DataW H := .agg [.lit (.string []), .lit (.string [105, 56]), .lit (.string [105, 51, 50]), .lit (.string [105, 54, 52]), .lit (.string [116, 114, 117, 101]), .lit (.string [102, 97, 108, 115, 101]), .lit (.string [116, 101, 120, 116]), .lit (.string [103, 101, 116]), .lit (.string [112, 117, 116]), .lit (.string [112, 111, 112]), .lit (.string [100, 117, 112]), .lit (.string [97, 100, 100]), .lit (.string [115, 117, 98]), .lit (.string [109, 117, 108]), .lit (.string [100, 105, 118]), .lit (.string [114, 101, 109]), .lit (.string [97, 110, 100]), .lit (.string [111, 114]), .lit (.string [120, 111, 114]), .lit (.string [115, 104, 108]), .lit (.string [115, 104, 114]), .lit (.string [110, 101, 103]), .lit (.string [110, 111, 116]), .lit (.string [101, 113]), .lit (.string [110, 101]), .lit (.string [108, 116]), .lit (.string [108, 101]), .lit (.string [103, 116]), .lit (.string [103, 101]), .lit (.string [99, 111, 110, 118]), .lit (.string [102, 108, 105, 112]), .lit (.string [99, 97, 116]), .lit (.string [115, 105, 122, 101]), .lit (.string [99, 104, 97, 114, 97, 116]), .lit (.string [99, 117, 116]), .lit (.string [98, 121, 116, 101]), .lit (.string [110, 101, 119]), .lit (.string [102, 105, 101, 108, 100]), .lit (.string [115, 101, 116, 102, 105, 101, 108, 100]), .lit (.string [102, 105, 108, 108]), .lit (.string [101, 109, 112, 116, 121]), .lit (.string [97, 116]), .lit (.string [115, 101, 116, 97, 116]), .lit (.string [108, 101, 110]), .lit (.string [112, 117, 115, 104]), .lit (.string [100, 114, 111, 112]), .lit (.string [106, 117, 109, 112]), .lit (.string [117, 110, 108, 101, 115, 115]), .lit (.string [119, 104, 101, 110]), .lit (.string [115, 119, 105, 116, 99, 104]), .lit (.string [99, 97, 108, 108]), .lit (.string [114, 101, 116, 117, 114, 110]), .lit (.string [116, 114, 97, 112])]

/-- 'trammellaw12.OpsTakes': WHATEVER THE INPUT: true; the input reads as it did. -/
def opsTakesSpec : ChangeSpec := { name := "opsTakes", fn := fun _ => fun
  | [d1, d2] => { results := [.lit (.bool true)], args := [d1, d2] }
  | _ => none }
def opsTakesRow : OpenClaim := { program := "ytjfdlphkmpkjdaadoor", sum := "a4c84d126e8ab6529fa32c0dfd676ddde479396b903de0a5ef4995ebd8919e84", func := "trammel/trammellaw12.OpsTakes", spec := "opsTakes", unfollowed := true, recurses := true, named := ["trammel/ops.names"], apart := false, laid := [("trammel/ops.names", laid_trammel_ops_names)] }
def OpsTakesSaid : Prop := opsTakesRow.holds Tryd.pinned (OpenSpec.ofChange opsTakesSpec)

/-- ITS FALSE NEIGHBOUR: 'it returns false'. Refute it at one input. -/
def opsTakesWrong : ChangeSpec := { name := "opsTakes", fn := fun _ => fun
  | [d1, d2] => { results := [.lit (.bool false)], args := [d1, d2] }
  | _ => none }
def OpsTakesWrongFalsely : Prop := opsTakesRow.holds Tryd.pinned (OpenSpec.ofChange opsTakesWrong)

/-- 'trammellaw12.OpsKnown': WHATEVER THE INPUT: true; the input reads as it did. -/
def opsKnownSpec : ChangeSpec := { name := "opsKnown", fn := fun _ => fun
  | [] => { results := [.lit (.bool true)], args := [] }
  | _ => none }
def opsKnownRow : OpenClaim := { program := "ytjfdlphkmpkjdaadoor", sum := "a4c84d126e8ab6529fa32c0dfd676ddde479396b903de0a5ef4995ebd8919e84", func := "trammel/trammellaw12.OpsKnown", spec := "opsKnown", unfollowed := true, recurses := true, named := ["trammel/ops.names"], apart := false, laid := [("trammel/ops.names", laid_trammel_ops_names)] }
def OpsKnownSaid : Prop := opsKnownRow.holds Tryd.pinned (OpenSpec.ofChange opsKnownSpec)

/-- ITS FALSE NEIGHBOUR: 'it returns false'. Refute it at one input. -/
def opsKnownWrong : ChangeSpec := { name := "opsKnown", fn := fun _ => fun
  | [] => { results := [.lit (.bool false)], args := [] }
  | _ => none }
def OpsKnownWrongFalsely : Prop := opsKnownRow.holds Tryd.pinned (OpenSpec.ofChange opsKnownWrong)

/- THE SECOND FORM. 'bulk': how many values and letters a reading holds, each counted each time it is reached (what is shared counts as often as it is met; a slice's spare places count too). A statement '..UptoSaid' is the law's where the arguments, and the package variables that the reading takes, are together of bulk at most 1048576: NARROWER than '..Said'. Prove '..Said' where nothing that the law and all that it calls make is longer than what came in: it says more and counts as full. Else prove '..UptoSaid'. A law counts once. -/
mutual
def uptoBulk {H : Type} : DataW H → Nat
  | .lit (.string bytes) => bytes.length + 1
  | .lit _ => 1
  | .nil => 1
  | .ptr d => uptoBulk d + 1
  | .slice elems spare => uptoBulkAll elems + uptoBulkAll spare + 1
  | .agg parts => uptoBulkAll parts + 1
  | .iface _ d => uptoBulk d + 1
  | .map entries => uptoBulkEntries entries + 1
  | .held _ => 1
def uptoBulkAll {H : Type} : List (DataW H) → Nat
  | [] => 0
  | d :: r => uptoBulk d + uptoBulkAll r
def uptoBulkEntries {H : Type} : List (Lit × DataW H) → Nat
  | [] => 0
  | x :: r => uptoBulkEntry x + uptoBulkEntries r
def uptoBulkEntry {H : Type} : Lit × DataW H → Nat
  | (.string bytes, d) => bytes.length + uptoBulk d + 1
  | (_, d) => uptoBulk d + 1
 end
def uptoSmall : (H : Type) → List (DataW H) → Bool := fun _ ds => decide (uptoBulkAll ds ≤ 1048576)
def OpenSpec.upto (s : _root_.Go.ChangeSpec) : _root_.Go.OpenSpec := { _root_.Go.OpenSpec.ofChange s with cond := some uptoSmall }

/-- 'trammellaw12.OpsTakes', WHERE WHAT IT READS IS OF BULK AT MOST 1048576: true; the input reads as it did. -/
def opsTakesUptoRow : OpenClaim := { program := "ytjfdlphkmpkjdaadoor", sum := "a4c84d126e8ab6529fa32c0dfd676ddde479396b903de0a5ef4995ebd8919e84", func := "trammel/trammellaw12.OpsTakes", spec := "opsTakes", unfollowed := true, recurses := true, named := ["trammel/ops.names"], apart := false, laid := [("trammel/ops.names", laid_trammel_ops_names)], narrowed := true }
def OpsTakesUptoSaid : Prop := opsTakesUptoRow.holds Tryd.pinned (OpenSpec.upto opsTakesSpec)

/-- 'trammellaw12.OpsKnown', WHERE WHAT IT READS IS OF BULK AT MOST 1048576: true; the input reads as it did. -/
def opsKnownUptoRow : OpenClaim := { program := "ytjfdlphkmpkjdaadoor", sum := "a4c84d126e8ab6529fa32c0dfd676ddde479396b903de0a5ef4995ebd8919e84", func := "trammel/trammellaw12.OpsKnown", spec := "opsKnown", unfollowed := true, recurses := true, named := ["trammel/ops.names"], apart := false, laid := [("trammel/ops.names", laid_trammel_ops_names)], narrowed := true }
def OpsKnownUptoSaid : Prop := opsKnownUptoRow.holds Tryd.pinned (OpenSpec.upto opsKnownSpec)

end Rows
end Go.Proofs.YtjfdlphkmpkjdaaDoor
