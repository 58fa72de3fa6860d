/-
  CONTRACT of effectOf: by the op.
-/
import Derived.Test.YtibcakmodkbliaaTk4
import Derived.Test.YtibcakmodkbliaaTk5
import Derived.Test.YtibcakmodkbliaaTk6
import Derived.Test.YtibcakmodkbliaaTk10
import Derived.Test.YtibcakmodkbliaaTk12
import Derived.Test.YtibcakmodkbliaaTk13
import Derived.Test.YtibcakmodkbliaaTk14
import Derived.Test.YtibcakmodkbliaaTk15
namespace Go.Proofs.Ytibcakmodkbliaa
open Go.RowKit
set_option linter.unusedVariables false

/-- What an instruction takes and puts that hangs on itself alone. -/
def plE (op : Nat) (a b : Int) : List Int × List Int :=
  if op ≤ 3 then ([], [(op : Int)]) else if op ≤ 5 then ([], [4]) else if op = 7 then ([], [0]) else if op ≤ 9 then ([0], []) else if op = 10 then ([0], [0, 0])
  else if op ≤ 20 then ([a, a], [a]) else if op ≤ 22 then ([a], [a]) else if op ≤ 28 then ([a, a], [4]) else if op = 29 then ([a], [b]) else if op = 30 then ([4], [4])
  else if op = 31 then ([5, 5], [5]) else if op = 32 then ([5], [3]) else if op = 33 then ([5, 3], [2]) else if op = 34 then ([5, 3, 3], [5]) else if op = 35 then ([2], [5])
  else if op = 46 then ([], []) else if op ≤ 48 then ([4], []) else if op = 49 then ([a], []) else ([], [])
def effM (m : MoP) (op : Nat) (a b : Int) : Option (List Int × List Int) :=
  if op = 6 then (if a < (m.txs.length : Int) then some ([], [5]) else none)
  else if op = 50 then callM m.fns a
  else if op = 36 ∨ op = 37 ∨ op = 38 then recM m.tys op a b
  else if 39 ≤ op ∧ op ≤ 45 then arrM m.tys op a
  else some (plE op a b)
end Go.Proofs.Ytibcakmodkbliaa
