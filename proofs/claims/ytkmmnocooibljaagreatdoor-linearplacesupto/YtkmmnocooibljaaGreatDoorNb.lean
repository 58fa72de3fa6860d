/-
  LINES in memory; two rows of lines held against each other; how many lines and arms.
-/
import Derived.Test.YtkmmnocooibljaaGreatDoorNa
namespace Go.Proofs.YtkmmnocooibljaaGreatDoor
open Go.RowKit
set_option linter.unusedVariables false

structure LnP where
  lab : Int
  x : In
  ao : Option Addr
  cp : Nat
def zLn : LnP := ⟨0, zI, none, 0⟩
def LnP.l (y : LnP) : Int × In := (y.lab, y.x)
abbrev LnP.cs (y : LnP) : Array Value := #[.int .i64 y.lab, .int .u8 (y.x.op : Int), .int .i64 y.x.a, .int .i64 y.x.b, .slice y.ao y.x.arms.length y.cp]
def lnF (l : List LnP) (i d : Nat) : Value := match d with
  | 0 => .int .i64 (l.getD i zLn).lab
  | 1 => .int .u8 ((l.getD i zLn).x.op : Int)
  | 2 => .int .i64 (l.getD i zLn).x.a
  | 3 => .int .i64 (l.getD i zLn).x.b
  | _ => .slice (l.getD i zLn).ao (l.getD i zLn).x.arms.length (l.getD i zLn).cp
structure LnIn (w : World) (y : LnP) : Prop where
  lab : N64 y.lab
  ins : InLies w y.x y.ao
  few : y.x.arms.length ≤ 140737488355328
theorem LnIn.below {w w' : World} {y : LnP} (h : LnIn w y) (hb : Below w.heap.size w w') : LnIn w' y := ⟨h.lab, h.ins.below hb, h.few⟩
structure LnsIn (w : World) (a : Option Addr) (ls : List LnP) : Prop where
  row : RowAt w a 5 ls.length (lnF ls)
  each : ∀ y ∈ ls, LnIn w y
  mx : ls.length ≤ 140737488355328
theorem LnsIn.below {w w' : World} {a : Option Addr} {ls : List LnP} (h : LnsIn w a ls) (hb : Below w.heap.size w w') : LnsIn w' a ls := ⟨h.row.below hb, fun y hy => (h.each y hy).below hb, h.mx⟩
theorem lown5 {w : World} {g : Nat} {a0 a1 a2 a3 a4 : Value} {t : TypeId} (h : Own w g #[a0, a1, a2, a3, a4] t) : w.cell? ⟨g, 0, none⟩ = some a0 ∧ w.cell? ⟨g, 1, none⟩ = some a1 ∧ w.cell? ⟨g, 2, none⟩ = some a2 ∧ w.cell? ⟨g, 3, none⟩ = some a3 ∧ w.cell? ⟨g, 4, none⟩ = some a4 ∧ ∀ j, w.frozen? ⟨g, j, none⟩ = false := ⟨h.cell 0, h.cell 1, h.cell 2, h.cell 3, h.cell 4, h.froz⟩
end Go.Proofs.YtkmmnocooibljaaGreatDoor
