/-
  CONTRACTS of layoutOf at each Op, class by class (part 1).
  CONTRACTS of layoutOf at each Op, class by class (part 2).
-/
import Derived.Test.YtkmmnocooibljaaGreatDoorLz
import Derived.Test.YtkmmnocooibljaaGreatDoorLaq
namespace Go.Proofs.YtkmmnocooibljaaGreatDoor
open Go.ChangeShapes Go.WideShapes Go.ChangeAt Go.RowKit Go.Deep
set_option linter.unusedVariables false

set_option maxHeartbeats 32000000 in
set_option maxRecDepth 100000 in
theorem loc0 (op : Int) (h : op = 11 ∨ op = 12 ∨ op = 13 ∨ op = 14 ∨ op = 15 ∨ op = 16 ∨ op = 17 ∨ op = 18 ∨ op = 19 ∨ op = 20 ∨ op = 21 ∨ op = 22 ∨ op = 25 ∨ op = 26 ∨ op = 27 ∨ op = 28) (w : World) : Calls Tryz.prog 60 #[.int .u8 op] w fun e w' => e = .returned (.tuple #[.agg #[.int .i64 1, .int .u8 0, .func (.func 122) #[] #[], .int .i64 0, .int .u8 0, .func (.func 116) #[] #[], .bool false], .bool true]) ∧ Below w.heap.size w w' := by
  rcases h with rfl | rfl | rfl | rfl | rfl | rfl | rfl | rfl | rfl | rfl | rfl | rfl | rfl | rfl | rfl | rfl
  all_goals
    have o0 := Own.new w #[.int .i64 0, .int .u8 0, .nilFunc, .int .i64 0, .int .u8 0, .nilFunc, .bool false] 100
    go_enter Tryz.func60, Tryz.ntmps60
    go_wp2_with fail
    refine (nothing_any _).mono ?_
    rintro e w1 ⟨rfl, b1⟩
    replace o0 := o0.below b1
    have hb : Below w.heap.size w w1 := (new_below w _).trans (b1.mono (by simp))
    have hl : w.heap.size < w1.heap.size := by have := b1.size; simp at this; omega
    clear b1
    go_wp2_with fail
    refine (nothing_any _).mono ?_
    rintro e w2 ⟨rfl, b2⟩
    replace o0 := o0.below b2
    replace hb := hb.trans (b2.mono hb.size)
    replace hl := Nat.lt_of_lt_of_le hl b2.size
    clear b2
    have hne : w.heap.size ≠ w2.heap.size := by omega
    have hle : w.heap.size ≤ w2.heap.size := by omega
    clear hl
    have o1 := Own.new w2 #[.int .i64 0, .int .u8 0, .func (.func 116) #[] #[], .int .i64 0, .int .u8 0, .func (.func 116) #[] #[], .bool false] 100
    replace o0 := o0.alloc (.cells #[.int .i64 0, .int .u8 0, .func (.func 116) #[] #[], .int .i64 0, .int .u8 0, .func (.func 116) #[] #[], .bool false] 100)
    replace hb := hb.alloc hb.size (.cells #[.int .i64 0, .int .u8 0, .func (.func 116) #[] #[], .int .i64 0, .int .u8 0, .func (.func 116) #[] #[], .bool false] 100)
    go_upto_block 0 with fail
    generalize w2.alloc (.cells #[.int .i64 0, .int .u8 0, .func (.func 116) #[] #[], .int .i64 0, .int .u8 0, .func (.func 116) #[] #[], .bool false] 100) = w3 at *
    go_wp2_with fail
    refine (width_any _).mono ?_
    rintro e v1 ⟨rfl, bv1⟩
    replace o0 := o0.below bv1
    replace o1 := o1.below bv1
    replace hb := hb.trans (bv1.mono hb.size)
    clear bv1
    go_wp2_with (first | (refine wpList_put rfl 98 (.tmp 62) (.tmp 61) rfl rfl w2.heap.size 0 rfl rfl o1 infoN rfl (by simp) rfl ?_; intro u0 p0 g0; replace o1 := p0; clear p0; replace o0 := o0.put g0 hne; replace hb := hb.grown g0 hb.size (fun k e => by cases e; exact hle); clear g0; obtain ⟨c0, c1, c2, c3, c4, c5, c6, hf⟩ := own7 o1; have o1c := o1; clear o1) | (refine wpList_put rfl 100 (.tmp 2) (.tmp 103) rfl rfl w.heap.size 0 rfl rfl o0 infoL rfl (by simp) rfl ?_; intro z pz gz; clear o0))
    refine bodyPost_cell2 (g := w.heap.size) (t := 100) rfl rfl rfl pz Tryz.underlying100 rfl (by kernel_rfl) ?_
    exact ⟨rfl, hb.grown gz hb.size (fun k e => by cases e; exact Nat.le_refl _)⟩
end Go.Proofs.YtkmmnocooibljaaGreatDoor
namespace Go.Proofs.YtkmmnocooibljaaGreatDoor
open Go.ChangeShapes Go.WideShapes Go.ChangeAt Go.RowKit Go.Deep
set_option linter.unusedVariables false

set_option maxHeartbeats 24000000 in
set_option maxRecDepth 100000 in
theorem loc1 (op : Int) (h : op = 6 ∨ op = 7 ∨ op = 8 ∨ op = 50 ∨ op = 36 ∨ op = 39 ∨ op = 40 ∨ op = 41 ∨ op = 42 ∨ op = 43 ∨ op = 44 ∨ op = 45) (w : World) : Calls Tryz.prog 60 #[.int .u8 op] w fun e w' => e = .returned (.tuple #[.agg #[.int .i64 2, .int .u8 0, .func (.func 121) #[] #[], .int .i64 0, .int .u8 0, .func (.func 116) #[] #[], .bool false], .bool true]) ∧ Below w.heap.size w w' := by
  rcases h with rfl | rfl | rfl | rfl | rfl | rfl | rfl | rfl | rfl | rfl | rfl | rfl
  all_goals
    have o0 := Own.new w #[.int .i64 0, .int .u8 0, .nilFunc, .int .i64 0, .int .u8 0, .nilFunc, .bool false] 100
    go_enter Tryz.func60, Tryz.ntmps60
    go_wp2_with fail
    refine (nothing_any _).mono ?_
    rintro e w1 ⟨rfl, b1⟩
    replace o0 := o0.below b1
    have hb : Below w.heap.size w w1 := (new_below w _).trans (b1.mono (by simp))
    have hl : w.heap.size < w1.heap.size := by have := b1.size; simp at this; omega
    clear b1
    go_wp2_with fail
    refine (nothing_any _).mono ?_
    rintro e w2 ⟨rfl, b2⟩
    replace o0 := o0.below b2
    replace hb := hb.trans (b2.mono hb.size)
    replace hl := Nat.lt_of_lt_of_le hl b2.size
    clear b2
    have hne : w.heap.size ≠ w2.heap.size := by omega
    have hle : w.heap.size ≤ w2.heap.size := by omega
    clear hl
    have o1 := Own.new w2 #[.int .i64 0, .int .u8 0, .func (.func 116) #[] #[], .int .i64 0, .int .u8 0, .func (.func 116) #[] #[], .bool false] 100
    replace o0 := o0.alloc (.cells #[.int .i64 0, .int .u8 0, .func (.func 116) #[] #[], .int .i64 0, .int .u8 0, .func (.func 116) #[] #[], .bool false] 100)
    replace hb := hb.alloc hb.size (.cells #[.int .i64 0, .int .u8 0, .func (.func 116) #[] #[], .int .i64 0, .int .u8 0, .func (.func 116) #[] #[], .bool false] 100)
    go_upto_block 0 with fail
    generalize w2.alloc (.cells #[.int .i64 0, .int .u8 0, .func (.func 116) #[] #[], .int .i64 0, .int .u8 0, .func (.func 116) #[] #[], .bool false] 100) = w3 at *
    go_wp2_with fail
    refine (short_any _).mono ?_
    rintro e v1 ⟨rfl, bv1⟩
    replace o0 := o0.below bv1
    replace o1 := o1.below bv1
    replace hb := hb.trans (bv1.mono hb.size)
    clear bv1
    go_wp2_with (first | (refine wpList_put rfl 98 (.tmp 36) (.tmp 35) rfl rfl w2.heap.size 0 rfl rfl o1 infoN rfl (by simp) rfl ?_; intro u0 p0 g0; replace o1 := p0; clear p0; replace o0 := o0.put g0 hne; replace hb := hb.grown g0 hb.size (fun k e => by cases e; exact hle); clear g0; obtain ⟨c0, c1, c2, c3, c4, c5, c6, hf⟩ := own7 o1; have o1c := o1; clear o1) | (refine wpList_put rfl 100 (.tmp 2) (.tmp 103) rfl rfl w.heap.size 0 rfl rfl o0 infoL rfl (by simp) rfl ?_; intro z pz gz; clear o0))
    refine bodyPost_cell2 (g := w.heap.size) (t := 100) rfl rfl rfl pz Tryz.underlying100 rfl (by kernel_rfl) ?_
    exact ⟨rfl, hb.grown gz hb.size (fun k e => by cases e; exact Nat.le_refl _)⟩
end Go.Proofs.YtkmmnocooibljaaGreatDoor
