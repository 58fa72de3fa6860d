/-
  THE DOCUMENT's PARTS, of any Op.
-/
import Derived.Test.YtjfdlphkmpkjdaaDoorRp
namespace Go.Proofs.YtjfdlphkmpkjdaaDoor
open Go.RowKit
set_option linter.unusedVariables false

/-- The parts that the document lists. -/
def prt (op : Nat) : List Nm := match lay op with
  | none => []
  | some l => if l.arms = true then [l.a] else if l.a.sz = 0 then [] else if l.b.sz = 0 then [l.a] else [l.a, l.b]
theorem rparts_as (op : Nat) (h256 : op < 256) (w : World) : Calls Tryd.prog 39 #[.int .u8 (op : Int)] w (RpRet (prt op) (lay op).isSome w) := by
  by_cases h : op < 53
  · have hd : op = 0 ∨ op = 1 ∨ op = 2 ∨ op = 3 ∨ op = 4 ∨ op = 5 ∨ op = 6 ∨ op = 7 ∨ op = 8 ∨ op = 9 ∨ op = 10 ∨ op = 11 ∨ op = 12 ∨ op = 13 ∨ op = 14 ∨ op = 15 ∨ op = 16 ∨ op = 17 ∨ op = 18 ∨ op = 19 ∨ op = 20 ∨ op = 21 ∨ op = 22 ∨ op = 23 ∨ op = 24 ∨ op = 25 ∨ op = 26 ∨ op = 27 ∨ op = 28 ∨ op = 29 ∨ op = 30 ∨ op = 31 ∨ op = 32 ∨ op = 33 ∨ op = 34 ∨ op = 35 ∨ op = 36 ∨ op = 37 ∨ op = 38 ∨ op = 39 ∨ op = 40 ∨ op = 41 ∨ op = 42 ∨ op = 43 ∨ op = 44 ∨ op = 45 ∨ op = 46 ∨ op = 47 ∨ op = 48 ∨ op = 49 ∨ op = 50 ∨ op = 51 ∨ op = 52 := by omega
    rcases hd with rfl | rfl | rfl | rfl | rfl | rfl | rfl | rfl | rfl | rfl | rfl | rfl | rfl | rfl | rfl | rfl | rfl | rfl | rfl | rfl | rfl | rfl | rfl | rfl | rfl | rfl | rfl | rfl | rfl | rfl | rfl | rfl | rfl | rfl | rfl | rfl | rfl | rfl | rfl | rfl | rfl | rfl | rfl | rfl | rfl | rfl | rfl | rfl | rfl | rfl | rfl | rfl | rfl
    · exact rp0 w
    · exact rp1 w
    · exact rp2 w
    · exact rp3 w
    · exact rp4 w
    · exact rp5 w
    · exact rp6 w
    · exact rp7 w
    · exact rp8 w
    · exact rp9 w
    · exact rp10 w
    · exact rp11 w
    · exact rp12 w
    · exact rp13 w
    · exact rp14 w
    · exact rp15 w
    · exact rp16 w
    · exact rp17 w
    · exact rp18 w
    · exact rp19 w
    · exact rp20 w
    · exact rp21 w
    · exact rp22 w
    · exact rp23 w
    · exact rp24 w
    · exact rp25 w
    · exact rp26 w
    · exact rp27 w
    · exact rp28 w
    · exact rp29 w
    · exact rp30 w
    · exact rp31 w
    · exact rp32 w
    · exact rp33 w
    · exact rp34 w
    · exact rp35 w
    · exact rp36 w
    · exact rp37 w
    · exact rp38 w
    · exact rp39 w
    · exact rp40 w
    · exact rp41 w
    · exact rp42 w
    · exact rp43 w
    · exact rp44 w
    · exact rp45 w
    · exact rp46 w
    · exact rp47 w
    · exact rp48 w
    · exact rp49 w
    · exact rp50 w
    · exact rp51 w
    · exact rp52 w
  · have hl : lay op = none := by
      unfold lay
      simp only [show ¬ op = 1 by omega, show ¬ op = 2 by omega, show ¬ op = 3 by omega, if_false]
      repeat rw [if_neg (by omega)]
    have := rpBig op (by omega) h256 w
    unfold prt
    rw [hl]
    exact this
end Go.Proofs.YtjfdlphkmpkjdaaDoor
