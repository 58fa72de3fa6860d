/-
  CONTRACTS of the writer: put, number.
-/
import Derived.Test.YtibcakmodkbliaaDe2
import Derived.Deep.Onto
namespace Go.Proofs.Ytibcakmodkbliaa
open Go.RowKit
set_option linter.unusedVariables false

/-- What a writer's call keeps: all blocks but its own, and all that hold no bytes. -/
structure WrFr (p B : Nat) (w w' : World) : Prop where
  fr : Fr (fun b => b = p ∨ B ≤ b) w w'
  typ : ∀ g cs t, Own w g cs t → t ≠ 5 → g ≠ p → Own w' g cs t
theorem WrFr.trans {p B : Nat} {a b c : World} (h : WrFr p B a b) (k : WrFr p B b c) : WrFr p B a c := ⟨h.fr.trans k.fr, fun g cs t h1 h2 h3 => k.typ g cs t (h.typ g cs t h1 h2 h3) h2 h3⟩
theorem WrFr.of {p B : Nat} {w w' : World} (h : Below w.heap.size w w') : WrFr p B w w' := ⟨Fr.of h, fun g cs t h1 _ _ => h1.below h⟩
end Go.Proofs.Ytibcakmodkbliaa
