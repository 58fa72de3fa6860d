/-
  La, what is reached of it.
-/
import Derived.Test.YtkmmnocooibljaaGreatDoorLz
import Derived.Test.YtkmmnocooibljaaGreatDoorJwd
import Derived.Laws.CopyRow
import Derived.Deep.MidRow
import Derived.Deep.Cut
import Derived.Deep.CutBlock
namespace Go.Proofs.YtkmmnocooibljaaGreatDoor
open Go.ChangeShapes Go.WideShapes Go.ChangeAt Go.RowKit Go.Deep
set_option linter.unusedVariables false

/-- A number's struct: how many bytes, the width, what asks. -/
abbrev numV (sz wd : Int) (f : Nat) : Value := .agg #[.int .i64 sz, .int .u8 wd, .func (.func f) #[] #[]]
theorem nothing_any (w : World) : Calls Tryz.prog 86 #[] w fun e w' => e = .returned (numV 0 0 116) ∧ Below w.heap.size w w' := by
  go_enter Tryz.func86, Tryz.ntmps86
  go_wp2
  refine bodyPost_cell1 (g := w.heap.size) (t := 98) rfl rfl rfl (heap_alloc_new w _) Tryz.underlying98 rfl (by kernel_rfl) ?_
  exact ⟨rfl, new_below _ _⟩
theorem letter_any (w : World) : Calls Tryz.prog 92 #[] w fun e w' => e = .returned (numV 1 0 125) ∧ Below w.heap.size w w' := by
  go_enter Tryz.func92, Tryz.ntmps92
  go_wp2
  refine bodyPost_cell1 (g := w.heap.size) (t := 98) rfl rfl rfl (heap_alloc_new w _) Tryz.underlying98 rfl (by kernel_rfl) ?_
  exact ⟨rfl, new_below _ _⟩
theorem short_any (w : World) : Calls Tryz.prog 88 #[] w fun e w' => e = .returned (numV 2 0 121) ∧ Below w.heap.size w w' := by
  go_enter Tryz.func88, Tryz.ntmps88
  go_wp2
  refine bodyPost_cell1 (g := w.heap.size) (t := 98) rfl rfl rfl (heap_alloc_new w _) Tryz.underlying98 rfl (by kernel_rfl) ?_
  exact ⟨rfl, new_below _ _⟩
theorem place_any (w : World) : Calls Tryz.prog 91 #[] w fun e w' => e = .returned (numV 4 0 124) ∧ Below w.heap.size w w' := by
  go_enter Tryz.func91, Tryz.ntmps91
  go_wp2
  refine bodyPost_cell1 (g := w.heap.size) (t := 98) rfl rfl rfl (heap_alloc_new w _) Tryz.underlying98 rfl (by kernel_rfl) ?_
  exact ⟨rfl, new_below _ _⟩
theorem width_any (w : World) : Calls Tryz.prog 89 #[] w fun e w' => e = .returned (numV 1 0 122) ∧ Below w.heap.size w w' := by
  go_enter Tryz.func89, Tryz.ntmps89
  go_wp2
  refine bodyPost_cell1 (g := w.heap.size) (t := 98) rfl rfl rfl (heap_alloc_new w _) Tryz.underlying98 rfl (by kernel_rfl) ?_
  exact ⟨rfl, new_below _ _⟩
theorem kind_any (w : World) : Calls Tryz.prog 90 #[] w fun e w' => e = .returned (numV 1 0 123) ∧ Below w.heap.size w w' := by
  go_enter Tryz.func90, Tryz.ntmps90
  go_wp2
  refine bodyPost_cell1 (g := w.heap.size) (t := 98) rfl rfl rfl (heap_alloc_new w _) Tryz.underlying98 rfl (by kernel_rfl) ?_
  exact ⟨rfl, new_below _ _⟩
@[go_sem] theorem numF2 (a b : Int) (f : Nat) (w : World) : (Instr.field 98 (numV a b f) 2).run Tryz.prog w = .ok (.func (.func f) #[] #[]) w := by kernel_rfl
@[go_sem] theorem numF0 (a b : Int) (f : Nat) (w : World) : (Instr.field 98 (numV a b f) 0).run Tryz.prog w = .ok (.int .i64 a) w := by kernel_rfl
theorem infoN : (Tryz.prog.info? 98).map (·.size) = some 3 := by kernel_rfl
theorem infoL : (Tryz.prog.info? 100).map (·.size) = some 7 := by kernel_rfl
theorem infoX : (Tryz.prog.info? 43).map (·.size) = some 4 := by kernel_rfl
theorem own7 {w : World} {g : Nat} {a0 a1 a2 a3 a4 a5 a6 : Value} {t : TypeId} (h : Own w g #[a0, a1, a2, a3, a4, a5, a6] t) : w.cell? ⟨g, 0, none⟩ = some a0 ∧ w.cell? ⟨g, 1, none⟩ = some a1 ∧ w.cell? ⟨g, 2, none⟩ = some a2 ∧ w.cell? ⟨g, 3, none⟩ = some a3 ∧ w.cell? ⟨g, 4, none⟩ = some a4 ∧ w.cell? ⟨g, 5, none⟩ = some a5 ∧ w.cell? ⟨g, 6, none⟩ = some a6 ∧ ∀ j, w.frozen? ⟨g, j, none⟩ = false := ⟨h.cell 0, h.cell 1, h.cell 2, h.cell 3, h.cell 4, h.cell 5, h.cell 6, h.froz⟩
set_option maxHeartbeats 1000000 in
theorem whole1 (w : World) : Calls Tryz.prog 87 #[.int .u8 1] w fun e w' => e = .returned (numV 1 1 118) ∧ Below w.heap.size w w' := by
  go_enter Tryz.func87, Tryz.ntmps87
  go_wp2_with fail
  refine (bits1 _).mono ?_
  rintro e w1 ⟨rfl, rfl⟩
  go_wp2
  refine bodyPost_cell1 (g := w.heap.size) (t := 98) rfl rfl rfl ((Own.new w _ _).alloc _) Tryz.underlying98 rfl (by kernel_rfl) ?_
  exact ⟨rfl, (new_below _ _).alloc (by simp) _⟩
set_option maxHeartbeats 1000000 in
theorem whole2 (w : World) : Calls Tryz.prog 87 #[.int .u8 2] w fun e w' => e = .returned (numV 4 2 119) ∧ Below w.heap.size w w' := by
  go_enter Tryz.func87, Tryz.ntmps87
  go_wp2_with fail
  refine (bits2 _).mono ?_
  rintro e w1 ⟨rfl, rfl⟩
  go_wp2
  refine bodyPost_cell1 (g := w.heap.size) (t := 98) rfl rfl rfl ((Own.new w _ _).alloc _) Tryz.underlying98 rfl (by kernel_rfl) ?_
  exact ⟨rfl, (new_below _ _).alloc (by simp) _⟩
set_option maxHeartbeats 1000000 in
theorem whole3 (w : World) : Calls Tryz.prog 87 #[.int .u8 3] w fun e w' => e = .returned (numV 8 3 120) ∧ Below w.heap.size w w' := by
  go_enter Tryz.func87, Tryz.ntmps87
  go_wp2_with fail
  refine (bits3 _).mono ?_
  rintro e w1 ⟨rfl, rfl⟩
  go_wp2
  refine bodyPost_cell1 (g := w.heap.size) (t := 98) rfl rfl rfl ((Own.new w _ _).alloc _) Tryz.underlying98 rfl (by kernel_rfl) ?_
  exact ⟨rfl, (new_below _ _).alloc (by simp) _⟩
set_option maxHeartbeats 1000000 in
theorem whole0 (w : World) : Calls Tryz.prog 87 #[.int .u8 0] w fun e w' => e = .returned (numV 0 0 120) ∧ Below w.heap.size w w' := by
  go_enter Tryz.func87, Tryz.ntmps87
  go_wp2_with fail
  refine (bits0 _).mono ?_
  rintro e w1 ⟨rfl, rfl⟩
  go_wp2
  refine bodyPost_cell1 (g := w.heap.size) (t := 98) rfl rfl rfl ((Own.new w _ _).alloc _) Tryz.underlying98 rfl (by kernel_rfl) ?_
  exact ⟨rfl, (new_below _ _).alloc (by simp) _⟩
set_option maxHeartbeats 1000000 in
theorem value1 (w : World) : Calls Tryz.prog 95 #[.int .u8 1] w fun e w' => e = .returned (numV 8 3 118) ∧ Below w.heap.size w w' := by
  have o0 := Own.new w #[.int .i64 0, .int .u8 0, .nilFunc] 98
  go_enter Tryz.func95, Tryz.ntmps95
  go_wp2_with fail
  refine (whole3 _).mono ?_
  rintro e w1 ⟨rfl, b1⟩
  replace o0 := o0.below b1
  have hb : Below w.heap.size w w1 := (new_below w _).trans (b1.mono (by simp))
  have o1 := Own.new w1 #[.int .i64 8, .int .u8 3, .func (.func 120) #[] #[]] 98
  replace o0 := o0.alloc (.cells #[.int .i64 8, .int .u8 3, .func (.func 120) #[] #[]] 98)
  replace hb := hb.alloc hb.size (.cells #[.int .i64 8, .int .u8 3, .func (.func 120) #[] #[]] 98)
  have hl : w.heap.size < w1.heap.size := by have := b1.size; simp at this; omega
  clear b1
  go_wp2_with fail
  generalize w1.alloc (.cells #[.int .i64 8, .int .u8 3, .func (.func 120) #[] #[]] 98) = w2 at *
  refine (whole1 _).mono ?_
  rintro e w3 ⟨rfl, b3⟩
  replace o0 := o0.below b3
  replace o1 := o1.below b3
  replace hb := hb.trans (b3.mono hb.size)
  clear b3
  obtain ⟨c0, c1, c2, hf⟩ := own3 o1
  have o4 : Own (w3.setCell ⟨w1.heap.size, 2, none⟩ (.func (.func 118) #[] #[])) w.heap.size _ 98 := o0.other (i := 2) (by omega) (.func (.func 118) #[] #[])
  have h4 : Below w.heap.size w (w3.setCell ⟨w1.heap.size, 2, none⟩ (.func (.func 118) #[] #[])) := hb.setCell (by show w.heap.size ≤ w1.heap.size; omega) _
  have hl2 : ¬ w1.heap.size = w.heap.size := by omega
  clear o0 o1 hb
  go_wp2_with (refine wpList_put rfl 98 (.tmp 2) (.tmp 9) rfl rfl w.heap.size 0 rfl rfl o4 infoN rfl (by simp) rfl ?_; intro w5 o5 g5)
  refine bodyPost_cell1 (g := w.heap.size) (t := 98) rfl rfl rfl o5 Tryz.underlying98 rfl (by kernel_rfl) ?_
  exact ⟨rfl, h4.grown g5 h4.size (fun k e => by cases e; exact Nat.le_refl _)⟩
set_option maxHeartbeats 1000000 in
theorem value2 (w : World) : Calls Tryz.prog 95 #[.int .u8 2] w fun e w' => e = .returned (numV 8 3 119) ∧ Below w.heap.size w w' := by
  have o0 := Own.new w #[.int .i64 0, .int .u8 0, .nilFunc] 98
  go_enter Tryz.func95, Tryz.ntmps95
  go_wp2_with fail
  refine (whole3 _).mono ?_
  rintro e w1 ⟨rfl, b1⟩
  replace o0 := o0.below b1
  have hb : Below w.heap.size w w1 := (new_below w _).trans (b1.mono (by simp))
  have o1 := Own.new w1 #[.int .i64 8, .int .u8 3, .func (.func 120) #[] #[]] 98
  replace o0 := o0.alloc (.cells #[.int .i64 8, .int .u8 3, .func (.func 120) #[] #[]] 98)
  replace hb := hb.alloc hb.size (.cells #[.int .i64 8, .int .u8 3, .func (.func 120) #[] #[]] 98)
  have hl : w.heap.size < w1.heap.size := by have := b1.size; simp at this; omega
  clear b1
  go_wp2_with fail
  generalize w1.alloc (.cells #[.int .i64 8, .int .u8 3, .func (.func 120) #[] #[]] 98) = w2 at *
  refine (whole2 _).mono ?_
  rintro e w3 ⟨rfl, b3⟩
  replace o0 := o0.below b3
  replace o1 := o1.below b3
  replace hb := hb.trans (b3.mono hb.size)
  clear b3
  obtain ⟨c0, c1, c2, hf⟩ := own3 o1
  have o4 : Own (w3.setCell ⟨w1.heap.size, 2, none⟩ (.func (.func 119) #[] #[])) w.heap.size _ 98 := o0.other (i := 2) (by omega) (.func (.func 119) #[] #[])
  have h4 : Below w.heap.size w (w3.setCell ⟨w1.heap.size, 2, none⟩ (.func (.func 119) #[] #[])) := hb.setCell (by show w.heap.size ≤ w1.heap.size; omega) _
  have hl2 : ¬ w1.heap.size = w.heap.size := by omega
  clear o0 o1 hb
  go_wp2_with (refine wpList_put rfl 98 (.tmp 2) (.tmp 9) rfl rfl w.heap.size 0 rfl rfl o4 infoN rfl (by simp) rfl ?_; intro w5 o5 g5)
  refine bodyPost_cell1 (g := w.heap.size) (t := 98) rfl rfl rfl o5 Tryz.underlying98 rfl (by kernel_rfl) ?_
  exact ⟨rfl, h4.grown g5 h4.size (fun k e => by cases e; exact Nat.le_refl _)⟩
set_option maxHeartbeats 1000000 in
theorem value3 (w : World) : Calls Tryz.prog 95 #[.int .u8 3] w fun e w' => e = .returned (numV 8 3 120) ∧ Below w.heap.size w w' := by
  have o0 := Own.new w #[.int .i64 0, .int .u8 0, .nilFunc] 98
  go_enter Tryz.func95, Tryz.ntmps95
  go_wp2_with fail
  refine (whole3 _).mono ?_
  rintro e w1 ⟨rfl, b1⟩
  replace o0 := o0.below b1
  have hb : Below w.heap.size w w1 := (new_below w _).trans (b1.mono (by simp))
  have o1 := Own.new w1 #[.int .i64 8, .int .u8 3, .func (.func 120) #[] #[]] 98
  replace o0 := o0.alloc (.cells #[.int .i64 8, .int .u8 3, .func (.func 120) #[] #[]] 98)
  replace hb := hb.alloc hb.size (.cells #[.int .i64 8, .int .u8 3, .func (.func 120) #[] #[]] 98)
  have hl : w.heap.size < w1.heap.size := by have := b1.size; simp at this; omega
  clear b1
  go_wp2_with fail
  generalize w1.alloc (.cells #[.int .i64 8, .int .u8 3, .func (.func 120) #[] #[]] 98) = w2 at *
  refine (whole3 _).mono ?_
  rintro e w3 ⟨rfl, b3⟩
  replace o0 := o0.below b3
  replace o1 := o1.below b3
  replace hb := hb.trans (b3.mono hb.size)
  clear b3
  obtain ⟨c0, c1, c2, hf⟩ := own3 o1
  have o4 : Own (w3.setCell ⟨w1.heap.size, 2, none⟩ (.func (.func 120) #[] #[])) w.heap.size _ 98 := o0.other (i := 2) (by omega) (.func (.func 120) #[] #[])
  have h4 : Below w.heap.size w (w3.setCell ⟨w1.heap.size, 2, none⟩ (.func (.func 120) #[] #[])) := hb.setCell (by show w.heap.size ≤ w1.heap.size; omega) _
  have hl2 : ¬ w1.heap.size = w.heap.size := by omega
  clear o0 o1 hb
  go_wp2_with (refine wpList_put rfl 98 (.tmp 2) (.tmp 9) rfl rfl w.heap.size 0 rfl rfl o4 infoN rfl (by simp) rfl ?_; intro w5 o5 g5)
  refine bodyPost_cell1 (g := w.heap.size) (t := 98) rfl rfl rfl o5 Tryz.underlying98 rfl (by kernel_rfl) ?_
  exact ⟨rfl, h4.grown g5 h4.size (fun k e => by cases e; exact Nat.le_refl _)⟩
set_option maxHeartbeats 1000000 in
theorem value0 (w : World) : Calls Tryz.prog 95 #[.int .u8 0] w fun e w' => e = .returned (numV 8 3 120) ∧ Below w.heap.size w w' := by
  have o0 := Own.new w #[.int .i64 0, .int .u8 0, .nilFunc] 98
  go_enter Tryz.func95, Tryz.ntmps95
  go_wp2_with fail
  refine (whole3 _).mono ?_
  rintro e w1 ⟨rfl, b1⟩
  replace o0 := o0.below b1
  have hb : Below w.heap.size w w1 := (new_below w _).trans (b1.mono (by simp))
  have o1 := Own.new w1 #[.int .i64 8, .int .u8 3, .func (.func 120) #[] #[]] 98
  replace o0 := o0.alloc (.cells #[.int .i64 8, .int .u8 3, .func (.func 120) #[] #[]] 98)
  replace hb := hb.alloc hb.size (.cells #[.int .i64 8, .int .u8 3, .func (.func 120) #[] #[]] 98)
  have hl : w.heap.size < w1.heap.size := by have := b1.size; simp at this; omega
  clear b1
  go_wp2_with fail
  generalize w1.alloc (.cells #[.int .i64 8, .int .u8 3, .func (.func 120) #[] #[]] 98) = w2 at *
  refine (whole0 _).mono ?_
  rintro e w3 ⟨rfl, b3⟩
  replace o0 := o0.below b3
  replace o1 := o1.below b3
  replace hb := hb.trans (b3.mono hb.size)
  clear b3
  obtain ⟨c0, c1, c2, hf⟩ := own3 o1
  have o4 : Own (w3.setCell ⟨w1.heap.size, 2, none⟩ (.func (.func 120) #[] #[])) w.heap.size _ 98 := o0.other (i := 2) (by omega) (.func (.func 120) #[] #[])
  have h4 : Below w.heap.size w (w3.setCell ⟨w1.heap.size, 2, none⟩ (.func (.func 120) #[] #[])) := hb.setCell (by show w.heap.size ≤ w1.heap.size; omega) _
  have hl2 : ¬ w1.heap.size = w.heap.size := by omega
  clear o0 o1 hb
  go_wp2_with (refine wpList_put rfl 98 (.tmp 2) (.tmp 9) rfl rfl w.heap.size 0 rfl rfl o4 infoN rfl (by simp) rfl ?_; intro w5 o5 g5)
  refine bodyPost_cell1 (g := w.heap.size) (t := 98) rfl rfl rfl o5 Tryz.underlying98 rfl (by kernel_rfl) ?_
  exact ⟨rfl, h4.grown g5 h4.size (fun k e => by cases e; exact Nat.le_refl _)⟩
end Go.Proofs.YtkmmnocooibljaaGreatDoor
