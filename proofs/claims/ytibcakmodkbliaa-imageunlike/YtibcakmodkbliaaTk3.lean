/-
  take and put of numbers that are written out; what an effect is.
-/
import Derived.Test.YtibcakmodkbliaaTk2
namespace Go.Proofs.Ytibcakmodkbliaa
open Go.RowKit
set_option linter.unusedVariables false

theorem new_ints (w : World) (l : List Int) : RowAt (w.alloc (.cells (intV l).toArray 3)) (some ⟨w.heap.size, 0, none⟩) 1 l.length (inF l) := by
  have o := Own.new w (intV l).toArray 3
  refine .inr ⟨w.heap.size, 0, rfl, fun i hi d hd => ?_⟩
  rw [o.cell]
  have := intV_get l i hi d hd
  simpa using this
theorem takeL {w1 : World} {B : Nat} (hB : B ≤ w1.heap.size) (l : List Int) (hl : l.length ≤ 1000000) :
    Calls Try.prog 63 #[.slice (some ⟨w1.heap.size, 0, none⟩) l.length l.length] (w1.alloc (.cells (intV l).toArray 3)) fun e w' => ∃ a c, e = .returned (effV (.slice a l.length c) (.slice none 0 0)) ∧ IntNew w' B (.slice a l.length c) l ∧ Below w1.heap.size w1 w' := by
  have b0 := new_below w1 (.cells (intV l).toArray 3)
  refine (take_as (c := l.length) (new_ints w1 l) rfl (fun e => by cases e) (Nat.le_refl _) hl).mono ?_
  rintro e w' ⟨v, rfl, h1, h2⟩
  obtain ⟨a, c, rfl⟩ := h1.shape
  exact ⟨a, c, rfl, h1.mono (Nat.le_trans hB b0.size), b0.trans (h2.mono b0.size)⟩
theorem takeN {w1 : World} {B : Nat} (hB : B ≤ w1.heap.size) :
    Calls Try.prog 63 #[.slice none 0 0] w1 fun e w' => ∃ a c, e = .returned (effV (.slice a 0 c) (.slice none 0 0)) ∧ IntNew w' B (.slice a 0 c) [] ∧ Below w1.heap.size w1 w' := by
  refine (take_as (w := w1) (a := none) (n := 0) (c := 0) (xs := []) (.inl rfl) rfl (fun _ => rfl) (Nat.le_refl _) (by omega)).mono ?_
  rintro e w' ⟨v, rfl, h1, h2⟩
  obtain ⟨a, c, rfl⟩ := h1.shape
  exact ⟨a, c, rfl, h1.mono hB, h2⟩
theorem putL {w1 : World} {B : Nat} {tv : Value} {T : List Int} (hB : B ≤ w1.heap.size) (hT : IntNew w1 B tv T) (l : List Int) (hl : l.length ≤ 1000000) :
    Calls Try.prog 64 #[effV tv (.slice none 0 0), .slice (some ⟨w1.heap.size, 0, none⟩) l.length l.length] (w1.alloc (.cells (intV l).toArray 3)) fun e w' => ∃ a c, e = .returned (effV tv (.slice a l.length c)) ∧ IntNew w' B tv T ∧ IntNew w' B (.slice a l.length c) l ∧ Below w1.heap.size w1 w' := by
  have b0 := new_below w1 (.cells (intV l).toArray 3)
  refine (put_as (c := l.length) (Nat.le_trans hB b0.size) (hT.below b0) (new_ints w1 l) rfl (fun e => by cases e) (Nat.le_refl _) hl).mono ?_
  rintro e w' ⟨v, rfl, h1, h2, h3⟩
  obtain ⟨a, c, rfl⟩ := h2.shape
  exact ⟨a, c, rfl, h1, h2, b0.trans (h3.mono b0.size)⟩
/-- An effect of the call's own. -/
def EffRet (w : World) (R : List Int × List Int) (e : Ending) (w' : World) : Prop := ∃ ta tc pa pc, e = .returned (effV (.slice ta R.1.length tc) (.slice pa R.2.length pc)) ∧ IntNew w' w.heap.size (.slice ta R.1.length tc) R.1 ∧ IntNew w' w.heap.size (.slice pa R.2.length pc) R.2 ∧ Below w.heap.size w w'
abbrev zEff : Array Value := #[.slice none 0 0, .slice none 0 0]
theorem rowP (w1 : World) (l : List Int) : RowAt (w1.alloc (.cells (intV l).toArray 3)) (some ⟨w1.heap.size, 0, none⟩) 1 l.length (inF l) := new_ints w1 l
theorem rowA (w1 : World) (l : List Int) : RowAt (w1.alloc (.cells (intV l).toArray 3)).drew (some ⟨w1.heap.size, 0, none⟩) 1 l.length (inF l) := new_ints w1 l
theorem rowB (w1 : World) (l : List Int) (o : Obj) : RowAt ((w1.alloc (.cells (intV l).toArray 3)).alloc o).drew (some ⟨w1.heap.size, 0, none⟩) 1 l.length (inF l) :=
  have h : RowAt ((w1.alloc (.cells (intV l).toArray 3)).alloc o) (some ⟨w1.heap.size, 0, none⟩) 1 l.length (inF l) := (new_ints w1 l).below (new_below _ _)
  h
theorem rowC (w1 : World) (o : Obj) (l : List Int) : RowAt ((w1.alloc o).alloc (.cells (intV l).toArray 3)).drew (some ⟨w1.heap.size + 1, 0, none⟩) 1 l.length (inF l) := by
  have := new_ints (w1.alloc o) l
  rw [World.size_alloc] at this
  exact this
theorem belowA (w1 : World) (o : Obj) : Below w1.heap.size w1 (w1.alloc o).drew := below_drawn (new_below w1 o) 1
theorem belowAA (w1 : World) (o o' : Obj) : Below w1.heap.size w1 ((w1.alloc o).alloc o').drew := below_drawn ((new_below w1 o).alloc (new_below w1 o).size o') 1
theorem IntNew.set2 {w : World} {B g : Nat} {v : Value} {xs : List Int} {cs : Array Value} {t : TypeId} (h : IntNew w B v xs) (ho : Own w g cs t) (ht : 3 ≠ t) (x y : Value) : IntNew ((w.setCell ⟨g, 0, none⟩ x).setCell ⟨g, 1, none⟩ y) B v xs :=
  ⟨(h.row.set (h.row.ne ho ht) 0 x).set (h.row.ne ho ht) 1 y, h.new⟩
theorem below_set2 {w w' : World} {g : Nat} (h : Below w.heap.size w w') (hg : w.heap.size ≤ g) (x y : Value) : Below w.heap.size w ((w'.setCell ⟨g, 0, none⟩ x).setCell ⟨g, 1, none⟩ y) := (h.setCell hg x).setCell hg y
end Go.Proofs.Ytibcakmodkbliaa
