/-
  NARROWER THAN 'FOR EVERY INPUT', by the rows' own cells (each row's printed sentence says how): LinearRows: laid · LinearCodes: laid · LinearTargets: laid · LinearBack: laid · LinearNames: laid · LinearPlaces: laid.
  DERIVED. THE GIVEN ROWS OF THIS SEAT. 6 by the template 'for every input the law returns true; each argument reads behind the call as it read before'; 0 by the template 'total and deterministic' (their statements: YtkmmnocooibljaaGreatDoorTotals.lean).
  GIVEN WITH THE SEED: the statements are not yours to turn. If you find one false, say at which input.
  Laid BY PROGRAM, IN A SANDBOX (cutbox-rows.mjs): the forced cells as the released guide's own fill.sh prints them over the translation cef930af60a933db… (all of the seat's roots in one cut). By AI agents, Wed Nov 11 2026. No macro, syntax, notation, axiom, sorry.
-/
import Derived.Test.YtkmmnocooibljaaGreatDoorChecked
import GoSem.Claim
import GoSem.ClaimJoined
import GoSem.ClaimMapViews
import Derived.JoinedTies
import Derived.KernelRfl
namespace Go.Proofs.YtkmmnocooibljaaGreatDoor
/- THE CELL 'sum', in the pinned program and in every row, IS THE sha256 OF THE DUMP (.gsa) THAT YtkmmnocooibljaaGreatDoorProg.lean LOADS. Nothing in Lean hashes anything: it is a label: what it is worth is what the hold of that sum in a sandbox is worth. -/
noncomputable def Tryz.pinned : Pinned := { name := "ytkmmnocooibljaagreatdoor", sum := "cef930af60a933db94c25974006df384efcb7343af9a3c29462165f79d6c53d5", checked := Tryz.checked }
namespace Rows
def none {H : Type} : Left H := { results := [], args := [] }

/- WHAT THE LISTED PACKAGE-LEVEL VARIABLES READ AS WHEN THE CALL BEGINS. Each datum BY PROGRAM (the guide's laid-datum.mjs) off the statement by which the dump's own 'gosem.cut.vars' lays the variable. In a bare row this is a premise. The card (YtkmmnocooibljaaGreatDoorCards.lean) ties it to the program's text. -/
def laid_math_bits_deBruijn32tab {H : Type} : DataW H := .agg [.lit (.int .u8 0), .lit (.int .u8 1), .lit (.int .u8 28), .lit (.int .u8 2), .lit (.int .u8 29), .lit (.int .u8 14), .lit (.int .u8 24), .lit (.int .u8 3), .lit (.int .u8 30), .lit (.int .u8 22), .lit (.int .u8 20), .lit (.int .u8 15), .lit (.int .u8 25), .lit (.int .u8 17), .lit (.int .u8 4), .lit (.int .u8 8), .lit (.int .u8 31), .lit (.int .u8 27), .lit (.int .u8 13), .lit (.int .u8 23), .lit (.int .u8 21), .lit (.int .u8 19), .lit (.int .u8 16), .lit (.int .u8 7), .lit (.int .u8 26), .lit (.int .u8 12), .lit (.int .u8 18), .lit (.int .u8 6), .lit (.int .u8 11), .lit (.int .u8 5), .lit (.int .u8 10), .lit (.int .u8 9)]
def laid_math_bits_deBruijn64tab {H : Type} : DataW H := .agg [.lit (.int .u8 0), .lit (.int .u8 1), .lit (.int .u8 56), .lit (.int .u8 2), .lit (.int .u8 57), .lit (.int .u8 49), .lit (.int .u8 28), .lit (.int .u8 3), .lit (.int .u8 61), .lit (.int .u8 58), .lit (.int .u8 42), .lit (.int .u8 50), .lit (.int .u8 38), .lit (.int .u8 29), .lit (.int .u8 17), .lit (.int .u8 4), .lit (.int .u8 62), .lit (.int .u8 47), .lit (.int .u8 59), .lit (.int .u8 36), .lit (.int .u8 45), .lit (.int .u8 43), .lit (.int .u8 51), .lit (.int .u8 22), .lit (.int .u8 53), .lit (.int .u8 39), .lit (.int .u8 33), .lit (.int .u8 30), .lit (.int .u8 24), .lit (.int .u8 18), .lit (.int .u8 12), .lit (.int .u8 5), .lit (.int .u8 63), .lit (.int .u8 55), .lit (.int .u8 48), .lit (.int .u8 27), .lit (.int .u8 60), .lit (.int .u8 41), .lit (.int .u8 37), .lit (.int .u8 16), .lit (.int .u8 46), .lit (.int .u8 35), .lit (.int .u8 44), .lit (.int .u8 21), .lit (.int .u8 52), .lit (.int .u8 32), .lit (.int .u8 23), .lit (.int .u8 11), .lit (.int .u8 54), .lit (.int .u8 26), .lit (.int .u8 40), .lit (.int .u8 15), .lit (.int .u8 34), .lit (.int .u8 20), .lit (.int .u8 31), .lit (.int .u8 10), .lit (.int .u8 25), .lit (.int .u8 14), .lit (.int .u8 19), .lit (.int .u8 9), .lit (.int .u8 13), .lit (.int .u8 8), .lit (.int .u8 7), .lit (.int .u8 6)]
def laid_internal_strconv_uint64pow10 {H : Type} : DataW H := .agg [.lit (.int .u64 1), .lit (.int .u64 10), .lit (.int .u64 100), .lit (.int .u64 1000), .lit (.int .u64 10000), .lit (.int .u64 100000), .lit (.int .u64 1000000), .lit (.int .u64 10000000), .lit (.int .u64 100000000), .lit (.int .u64 1000000000), .lit (.int .u64 10000000000), .lit (.int .u64 100000000000), .lit (.int .u64 1000000000000), .lit (.int .u64 10000000000000), .lit (.int .u64 100000000000000), .lit (.int .u64 1000000000000000), .lit (.int .u64 10000000000000000), .lit (.int .u64 100000000000000000), .lit (.int .u64 1000000000000000000), .lit (.int .u64 10000000000000000000)]
def laid_trammel_ops_names {H : Type} : DataW H := .agg [.lit (.string []), .lit (.string [105, 56]), .lit (.string [105, 51, 50]), .lit (.string [105, 54, 52]), .lit (.string [116, 114, 117, 101]), .lit (.string [102, 97, 108, 115, 101]), .lit (.string [116, 101, 120, 116]), .lit (.string [103, 101, 116]), .lit (.string [112, 117, 116]), .lit (.string [112, 111, 112]), .lit (.string [100, 117, 112]), .lit (.string [97, 100, 100]), .lit (.string [115, 117, 98]), .lit (.string [109, 117, 108]), .lit (.string [100, 105, 118]), .lit (.string [114, 101, 109]), .lit (.string [97, 110, 100]), .lit (.string [111, 114]), .lit (.string [120, 111, 114]), .lit (.string [115, 104, 108]), .lit (.string [115, 104, 114]), .lit (.string [110, 101, 103]), .lit (.string [110, 111, 116]), .lit (.string [101, 113]), .lit (.string [110, 101]), .lit (.string [108, 116]), .lit (.string [108, 101]), .lit (.string [103, 116]), .lit (.string [103, 101]), .lit (.string [99, 111, 110, 118]), .lit (.string [102, 108, 105, 112]), .lit (.string [99, 97, 116]), .lit (.string [115, 105, 122, 101]), .lit (.string [99, 104, 97, 114, 97, 116]), .lit (.string [99, 117, 116]), .lit (.string [98, 121, 116, 101]), .lit (.string [110, 101, 119]), .lit (.string [102, 105, 101, 108, 100]), .lit (.string [115, 101, 116, 102, 105, 101, 108, 100]), .lit (.string [102, 105, 108, 108]), .lit (.string [101, 109, 112, 116, 121]), .lit (.string [97, 116]), .lit (.string [115, 101, 116, 97, 116]), .lit (.string [108, 101, 110]), .lit (.string [112, 117, 115, 104]), .lit (.string [100, 114, 111, 112]), .lit (.string [106, 117, 109, 112]), .lit (.string [117, 110, 108, 101, 115, 115]), .lit (.string [119, 104, 101, 110]), .lit (.string [115, 119, 105, 116, 99, 104]), .lit (.string [99, 97, 108, 108]), .lit (.string [114, 101, 116, 117, 114, 110]), .lit (.string [116, 114, 97, 112])]

/-- 'trammellaw15.LinearRows': WHATEVER THE INPUT: true; the input reads as it did. -/
def linearRowsSpec : ChangeSpec := { name := "linearRows", fn := fun _ => fun
  | [d] => { results := [.lit (.bool true)], args := [d] }
  | _ => none }
def linearRowsRow : OpenClaim := { program := "ytkmmnocooibljaagreatdoor", sum := "cef930af60a933db94c25974006df384efcb7343af9a3c29462165f79d6c53d5", func := "trammel/trammellaw15.LinearRows", spec := "linearRows", inPlace := ["internal/abi.NoEscape"], unfollowed := true, recurses := true, named := ["internal/strconv.uint64pow10", "math/bits.deBruijn32tab", "math/bits.deBruijn64tab", "trammel/ops.names"], apart := false, laid := [("math/bits.deBruijn32tab", laid_math_bits_deBruijn32tab), ("math/bits.deBruijn64tab", laid_math_bits_deBruijn64tab), ("internal/strconv.uint64pow10", laid_internal_strconv_uint64pow10), ("trammel/ops.names", laid_trammel_ops_names)] }
def LinearRowsSaid : Prop := linearRowsRow.holds Tryz.pinned (OpenSpec.ofChange linearRowsSpec)

/-- ITS FALSE NEIGHBOUR: 'it returns false'. Refute it at one input. -/
def linearRowsWrong : ChangeSpec := { name := "linearRows", fn := fun _ => fun
  | [d] => { results := [.lit (.bool false)], args := [d] }
  | _ => none }
def LinearRowsWrongFalsely : Prop := linearRowsRow.holds Tryz.pinned (OpenSpec.ofChange linearRowsWrong)

/-- 'trammellaw15.LinearCodes': WHATEVER THE INPUT: true; the input reads as it did. -/
def linearCodesSpec : ChangeSpec := { name := "linearCodes", fn := fun _ => fun
  | [d] => { results := [.lit (.bool true)], args := [d] }
  | _ => none }
def linearCodesRow : OpenClaim := { program := "ytkmmnocooibljaagreatdoor", sum := "cef930af60a933db94c25974006df384efcb7343af9a3c29462165f79d6c53d5", func := "trammel/trammellaw15.LinearCodes", spec := "linearCodes", inPlace := ["internal/abi.NoEscape"], unfollowed := true, recurses := true, named := ["internal/strconv.uint64pow10", "math/bits.deBruijn32tab", "math/bits.deBruijn64tab", "trammel/ops.names"], apart := false, laid := [("math/bits.deBruijn32tab", laid_math_bits_deBruijn32tab), ("math/bits.deBruijn64tab", laid_math_bits_deBruijn64tab), ("internal/strconv.uint64pow10", laid_internal_strconv_uint64pow10), ("trammel/ops.names", laid_trammel_ops_names)] }
def LinearCodesSaid : Prop := linearCodesRow.holds Tryz.pinned (OpenSpec.ofChange linearCodesSpec)

/-- ITS FALSE NEIGHBOUR: 'it returns false'. Refute it at one input. -/
def linearCodesWrong : ChangeSpec := { name := "linearCodes", fn := fun _ => fun
  | [d] => { results := [.lit (.bool false)], args := [d] }
  | _ => none }
def LinearCodesWrongFalsely : Prop := linearCodesRow.holds Tryz.pinned (OpenSpec.ofChange linearCodesWrong)

/-- 'trammellaw15.LinearTargets': WHATEVER THE INPUT: true; the input reads as it did. -/
def linearTargetsSpec : ChangeSpec := { name := "linearTargets", fn := fun _ => fun
  | [d1, d2, d3, d4] => { results := [.lit (.bool true)], args := [d1, d2, d3, d4] }
  | _ => none }
def linearTargetsRow : OpenClaim := { program := "ytkmmnocooibljaagreatdoor", sum := "cef930af60a933db94c25974006df384efcb7343af9a3c29462165f79d6c53d5", func := "trammel/trammellaw15.LinearTargets", spec := "linearTargets", inPlace := ["internal/abi.NoEscape"], unfollowed := true, recurses := true, named := ["internal/strconv.uint64pow10", "math/bits.deBruijn32tab", "math/bits.deBruijn64tab", "trammel/ops.names"], apart := false, laid := [("math/bits.deBruijn32tab", laid_math_bits_deBruijn32tab), ("math/bits.deBruijn64tab", laid_math_bits_deBruijn64tab), ("internal/strconv.uint64pow10", laid_internal_strconv_uint64pow10), ("trammel/ops.names", laid_trammel_ops_names)] }
def LinearTargetsSaid : Prop := linearTargetsRow.holds Tryz.pinned (OpenSpec.ofChange linearTargetsSpec)

/-- ITS FALSE NEIGHBOUR: 'it returns false'. Refute it at one input. -/
def linearTargetsWrong : ChangeSpec := { name := "linearTargets", fn := fun _ => fun
  | [d1, d2, d3, d4] => { results := [.lit (.bool false)], args := [d1, d2, d3, d4] }
  | _ => none }
def LinearTargetsWrongFalsely : Prop := linearTargetsRow.holds Tryz.pinned (OpenSpec.ofChange linearTargetsWrong)

/-- 'trammellaw15.LinearBack': WHATEVER THE INPUT: true; the input reads as it did. -/
def linearBackSpec : ChangeSpec := { name := "linearBack", fn := fun _ => fun
  | [d1, d2] => { results := [.lit (.bool true)], args := [d1, d2] }
  | _ => none }
def linearBackRow : OpenClaim := { program := "ytkmmnocooibljaagreatdoor", sum := "cef930af60a933db94c25974006df384efcb7343af9a3c29462165f79d6c53d5", func := "trammel/trammellaw15.LinearBack", spec := "linearBack", inPlace := ["internal/abi.NoEscape"], unfollowed := true, recurses := true, named := ["internal/strconv.uint64pow10", "math/bits.deBruijn32tab", "math/bits.deBruijn64tab", "trammel/ops.names"], apart := false, laid := [("math/bits.deBruijn32tab", laid_math_bits_deBruijn32tab), ("math/bits.deBruijn64tab", laid_math_bits_deBruijn64tab), ("internal/strconv.uint64pow10", laid_internal_strconv_uint64pow10), ("trammel/ops.names", laid_trammel_ops_names)] }
def LinearBackSaid : Prop := linearBackRow.holds Tryz.pinned (OpenSpec.ofChange linearBackSpec)

/-- ITS FALSE NEIGHBOUR: 'it returns false'. Refute it at one input. -/
def linearBackWrong : ChangeSpec := { name := "linearBack", fn := fun _ => fun
  | [d1, d2] => { results := [.lit (.bool false)], args := [d1, d2] }
  | _ => none }
def LinearBackWrongFalsely : Prop := linearBackRow.holds Tryz.pinned (OpenSpec.ofChange linearBackWrong)

/-- 'trammellaw15.LinearNames': WHATEVER THE INPUT: true; the input reads as it did. -/
def linearNamesSpec : ChangeSpec := { name := "linearNames", fn := fun _ => fun
  | [d1, d2] => { results := [.lit (.bool true)], args := [d1, d2] }
  | _ => none }
def linearNamesRow : OpenClaim := { program := "ytkmmnocooibljaagreatdoor", sum := "cef930af60a933db94c25974006df384efcb7343af9a3c29462165f79d6c53d5", func := "trammel/trammellaw15.LinearNames", spec := "linearNames", inPlace := ["internal/abi.NoEscape"], unfollowed := true, recurses := true, named := ["internal/strconv.uint64pow10", "math/bits.deBruijn32tab", "math/bits.deBruijn64tab", "trammel/ops.names"], apart := false, laid := [("math/bits.deBruijn32tab", laid_math_bits_deBruijn32tab), ("math/bits.deBruijn64tab", laid_math_bits_deBruijn64tab), ("internal/strconv.uint64pow10", laid_internal_strconv_uint64pow10), ("trammel/ops.names", laid_trammel_ops_names)] }
def LinearNamesSaid : Prop := linearNamesRow.holds Tryz.pinned (OpenSpec.ofChange linearNamesSpec)

/-- ITS FALSE NEIGHBOUR: 'it returns false'. Refute it at one input. -/
def linearNamesWrong : ChangeSpec := { name := "linearNames", fn := fun _ => fun
  | [d1, d2] => { results := [.lit (.bool false)], args := [d1, d2] }
  | _ => none }
def LinearNamesWrongFalsely : Prop := linearNamesRow.holds Tryz.pinned (OpenSpec.ofChange linearNamesWrong)

/-- 'trammellaw15.LinearPlaces': WHATEVER THE INPUT: true; the input reads as it did. -/
def linearPlacesSpec : ChangeSpec := { name := "linearPlaces", fn := fun _ => fun
  | [d] => { results := [.lit (.bool true)], args := [d] }
  | _ => none }
def linearPlacesRow : OpenClaim := { program := "ytkmmnocooibljaagreatdoor", sum := "cef930af60a933db94c25974006df384efcb7343af9a3c29462165f79d6c53d5", func := "trammel/trammellaw15.LinearPlaces", spec := "linearPlaces", inPlace := ["internal/abi.NoEscape"], unfollowed := true, recurses := true, named := ["internal/strconv.uint64pow10", "math/bits.deBruijn32tab", "math/bits.deBruijn64tab", "trammel/ops.names"], apart := false, laid := [("math/bits.deBruijn32tab", laid_math_bits_deBruijn32tab), ("math/bits.deBruijn64tab", laid_math_bits_deBruijn64tab), ("internal/strconv.uint64pow10", laid_internal_strconv_uint64pow10), ("trammel/ops.names", laid_trammel_ops_names)] }
def LinearPlacesSaid : Prop := linearPlacesRow.holds Tryz.pinned (OpenSpec.ofChange linearPlacesSpec)

/-- ITS FALSE NEIGHBOUR: 'it returns false'. Refute it at one input. -/
def linearPlacesWrong : ChangeSpec := { name := "linearPlaces", fn := fun _ => fun
  | [d] => { results := [.lit (.bool false)], args := [d] }
  | _ => none }
def LinearPlacesWrongFalsely : Prop := linearPlacesRow.holds Tryz.pinned (OpenSpec.ofChange linearPlacesWrong)

/- THE SECOND FORM. 'bulk': how many values and letters a reading holds, each counted each time it is reached (what is shared counts as often as it is met; a slice's spare places count too). A statement '..UptoSaid' is the law's where the arguments, and the package variables that the reading takes, are together of bulk at most 1048576: NARROWER than '..Said'. Prove '..Said' where nothing that the law and all that it calls make is longer than what came in: it says more and counts as full. Else prove '..UptoSaid'. A law counts once. -/
mutual
def uptoBulk {H : Type} : DataW H → Nat
  | .lit (.string bytes) => bytes.length + 1
  | .lit _ => 1
  | .nil => 1
  | .ptr d => uptoBulk d + 1
  | .slice elems spare => uptoBulkAll elems + uptoBulkAll spare + 1
  | .agg parts => uptoBulkAll parts + 1
  | .iface _ d => uptoBulk d + 1
  | .map entries => uptoBulkEntries entries + 1
  | .held _ => 1
def uptoBulkAll {H : Type} : List (DataW H) → Nat
  | [] => 0
  | d :: r => uptoBulk d + uptoBulkAll r
def uptoBulkEntries {H : Type} : List (Lit × DataW H) → Nat
  | [] => 0
  | x :: r => uptoBulkEntry x + uptoBulkEntries r
def uptoBulkEntry {H : Type} : Lit × DataW H → Nat
  | (.string bytes, d) => bytes.length + uptoBulk d + 1
  | (_, d) => uptoBulk d + 1
 end
def uptoSmall : (H : Type) → List (DataW H) → Bool := fun _ ds => decide (uptoBulkAll ds ≤ 1048576)
def OpenSpec.upto (s : _root_.Go.ChangeSpec) : _root_.Go.OpenSpec := { _root_.Go.OpenSpec.ofChange s with cond := some uptoSmall }

/-- 'trammellaw15.LinearRows', WHERE WHAT IT READS IS OF BULK AT MOST 1048576: true; the input reads as it did. -/
def linearRowsUptoRow : OpenClaim := { program := "ytkmmnocooibljaagreatdoor", sum := "cef930af60a933db94c25974006df384efcb7343af9a3c29462165f79d6c53d5", func := "trammel/trammellaw15.LinearRows", spec := "linearRows", inPlace := ["internal/abi.NoEscape"], unfollowed := true, recurses := true, named := ["internal/strconv.uint64pow10", "math/bits.deBruijn32tab", "math/bits.deBruijn64tab", "trammel/ops.names"], apart := false, laid := [("math/bits.deBruijn32tab", laid_math_bits_deBruijn32tab), ("math/bits.deBruijn64tab", laid_math_bits_deBruijn64tab), ("internal/strconv.uint64pow10", laid_internal_strconv_uint64pow10), ("trammel/ops.names", laid_trammel_ops_names)], narrowed := true }
def LinearRowsUptoSaid : Prop := linearRowsUptoRow.holds Tryz.pinned (OpenSpec.upto linearRowsSpec)

/-- 'trammellaw15.LinearCodes', WHERE WHAT IT READS IS OF BULK AT MOST 1048576: true; the input reads as it did. -/
def linearCodesUptoRow : OpenClaim := { program := "ytkmmnocooibljaagreatdoor", sum := "cef930af60a933db94c25974006df384efcb7343af9a3c29462165f79d6c53d5", func := "trammel/trammellaw15.LinearCodes", spec := "linearCodes", inPlace := ["internal/abi.NoEscape"], unfollowed := true, recurses := true, named := ["internal/strconv.uint64pow10", "math/bits.deBruijn32tab", "math/bits.deBruijn64tab", "trammel/ops.names"], apart := false, laid := [("math/bits.deBruijn32tab", laid_math_bits_deBruijn32tab), ("math/bits.deBruijn64tab", laid_math_bits_deBruijn64tab), ("internal/strconv.uint64pow10", laid_internal_strconv_uint64pow10), ("trammel/ops.names", laid_trammel_ops_names)], narrowed := true }
def LinearCodesUptoSaid : Prop := linearCodesUptoRow.holds Tryz.pinned (OpenSpec.upto linearCodesSpec)

/-- 'trammellaw15.LinearTargets', WHERE WHAT IT READS IS OF BULK AT MOST 1048576: true; the input reads as it did. -/
def linearTargetsUptoRow : OpenClaim := { program := "ytkmmnocooibljaagreatdoor", sum := "cef930af60a933db94c25974006df384efcb7343af9a3c29462165f79d6c53d5", func := "trammel/trammellaw15.LinearTargets", spec := "linearTargets", inPlace := ["internal/abi.NoEscape"], unfollowed := true, recurses := true, named := ["internal/strconv.uint64pow10", "math/bits.deBruijn32tab", "math/bits.deBruijn64tab", "trammel/ops.names"], apart := false, laid := [("math/bits.deBruijn32tab", laid_math_bits_deBruijn32tab), ("math/bits.deBruijn64tab", laid_math_bits_deBruijn64tab), ("internal/strconv.uint64pow10", laid_internal_strconv_uint64pow10), ("trammel/ops.names", laid_trammel_ops_names)], narrowed := true }
def LinearTargetsUptoSaid : Prop := linearTargetsUptoRow.holds Tryz.pinned (OpenSpec.upto linearTargetsSpec)

/-- 'trammellaw15.LinearBack', WHERE WHAT IT READS IS OF BULK AT MOST 1048576: true; the input reads as it did. -/
def linearBackUptoRow : OpenClaim := { program := "ytkmmnocooibljaagreatdoor", sum := "cef930af60a933db94c25974006df384efcb7343af9a3c29462165f79d6c53d5", func := "trammel/trammellaw15.LinearBack", spec := "linearBack", inPlace := ["internal/abi.NoEscape"], unfollowed := true, recurses := true, named := ["internal/strconv.uint64pow10", "math/bits.deBruijn32tab", "math/bits.deBruijn64tab", "trammel/ops.names"], apart := false, laid := [("math/bits.deBruijn32tab", laid_math_bits_deBruijn32tab), ("math/bits.deBruijn64tab", laid_math_bits_deBruijn64tab), ("internal/strconv.uint64pow10", laid_internal_strconv_uint64pow10), ("trammel/ops.names", laid_trammel_ops_names)], narrowed := true }
def LinearBackUptoSaid : Prop := linearBackUptoRow.holds Tryz.pinned (OpenSpec.upto linearBackSpec)

/-- 'trammellaw15.LinearNames', WHERE WHAT IT READS IS OF BULK AT MOST 1048576: true; the input reads as it did. -/
def linearNamesUptoRow : OpenClaim := { program := "ytkmmnocooibljaagreatdoor", sum := "cef930af60a933db94c25974006df384efcb7343af9a3c29462165f79d6c53d5", func := "trammel/trammellaw15.LinearNames", spec := "linearNames", inPlace := ["internal/abi.NoEscape"], unfollowed := true, recurses := true, named := ["internal/strconv.uint64pow10", "math/bits.deBruijn32tab", "math/bits.deBruijn64tab", "trammel/ops.names"], apart := false, laid := [("math/bits.deBruijn32tab", laid_math_bits_deBruijn32tab), ("math/bits.deBruijn64tab", laid_math_bits_deBruijn64tab), ("internal/strconv.uint64pow10", laid_internal_strconv_uint64pow10), ("trammel/ops.names", laid_trammel_ops_names)], narrowed := true }
def LinearNamesUptoSaid : Prop := linearNamesUptoRow.holds Tryz.pinned (OpenSpec.upto linearNamesSpec)

/-- 'trammellaw15.LinearPlaces', WHERE WHAT IT READS IS OF BULK AT MOST 1048576: true; the input reads as it did. -/
def linearPlacesUptoRow : OpenClaim := { program := "ytkmmnocooibljaagreatdoor", sum := "cef930af60a933db94c25974006df384efcb7343af9a3c29462165f79d6c53d5", func := "trammel/trammellaw15.LinearPlaces", spec := "linearPlaces", inPlace := ["internal/abi.NoEscape"], unfollowed := true, recurses := true, named := ["internal/strconv.uint64pow10", "math/bits.deBruijn32tab", "math/bits.deBruijn64tab", "trammel/ops.names"], apart := false, laid := [("math/bits.deBruijn32tab", laid_math_bits_deBruijn32tab), ("math/bits.deBruijn64tab", laid_math_bits_deBruijn64tab), ("internal/strconv.uint64pow10", laid_internal_strconv_uint64pow10), ("trammel/ops.names", laid_trammel_ops_names)], narrowed := true }
def LinearPlacesUptoSaid : Prop := linearPlacesUptoRow.holds Tryz.pinned (OpenSpec.upto linearPlacesSpec)

end Rows
end Go.Proofs.YtkmmnocooibljaaGreatDoor
