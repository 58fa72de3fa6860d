/-
  Lo3, what is reached of it.
-/
import Derived.Test.YtkmmnocooibljaaGreatDoorLz
import Derived.Test.YtkmmnocooibljaaGreatDoorLaq
namespace Go.Proofs.YtkmmnocooibljaaGreatDoor
open Go.ChangeShapes Go.WideShapes Go.ChangeAt Go.RowKit Go.Deep
set_option linter.unusedVariables false

set_option maxHeartbeats 2000000 in
set_option maxRecDepth 100000 in
theorem lo27 (w : World) : Calls Tryz.prog 60 #[.int .u8 27] w fun e w' => e = .returned (.tuple #[.agg #[.int .i64 1, .int .u8 0, .func (.func 122) #[] #[], .int .i64 0, .int .u8 0, .func (.func 116) #[] #[], .bool false], .bool true]) ∧ Below w.heap.size w w' := by
  have o0 := Own.new w #[.int .i64 0, .int .u8 0, .nilFunc, .int .i64 0, .int .u8 0, .nilFunc, .bool false] 100
  go_enter Tryz.func60, Tryz.ntmps60
  go_wp2_with fail
  refine (nothing_any _).mono ?_
  rintro e w1 ⟨rfl, b1⟩
  replace o0 := o0.below b1
  have hb : Below w.heap.size w w1 := (new_below w _).trans (b1.mono (by simp))
  have hl : w.heap.size < w1.heap.size := by have := b1.size; simp at this; omega
  clear b1
  go_wp2_with fail
  refine (nothing_any _).mono ?_
  rintro e w2 ⟨rfl, b2⟩
  replace o0 := o0.below b2
  replace hb := hb.trans (b2.mono hb.size)
  replace hl := Nat.lt_of_lt_of_le hl b2.size
  clear b2
  have hne : w.heap.size ≠ w2.heap.size := by omega
  have hle : w.heap.size ≤ w2.heap.size := by omega
  clear hl
  have o1 := Own.new w2 #[.int .i64 0, .int .u8 0, .func (.func 116) #[] #[], .int .i64 0, .int .u8 0, .func (.func 116) #[] #[], .bool false] 100
  replace o0 := o0.alloc (.cells #[.int .i64 0, .int .u8 0, .func (.func 116) #[] #[], .int .i64 0, .int .u8 0, .func (.func 116) #[] #[], .bool false] 100)
  replace hb := hb.alloc hb.size (.cells #[.int .i64 0, .int .u8 0, .func (.func 116) #[] #[], .int .i64 0, .int .u8 0, .func (.func 116) #[] #[], .bool false] 100)
  go_upto_block 0 with fail
  generalize w2.alloc (.cells #[.int .i64 0, .int .u8 0, .func (.func 116) #[] #[], .int .i64 0, .int .u8 0, .func (.func 116) #[] #[], .bool false] 100) = w3 at *
  go_wp2_with fail
  refine (width_any _).mono ?_
  rintro e v1 ⟨rfl, bv1⟩
  replace o0 := o0.below bv1
  replace o1 := o1.below bv1
  replace hb := hb.trans (bv1.mono hb.size)
  clear bv1
  go_wp2_with (first | (refine wpList_put rfl 98 (.tmp 62) (.tmp 61) rfl rfl w2.heap.size 0 rfl rfl o1 infoN rfl (by simp) rfl ?_; intro u0 p0 g0; replace o1 := p0; clear p0; replace o0 := o0.put g0 hne; replace hb := hb.grown g0 hb.size (fun k e => by cases e; exact hle); clear g0; obtain ⟨c0, c1, c2, c3, c4, c5, c6, hf⟩ := own7 o1; have o1c := o1; clear o1) | (refine wpList_put rfl 100 (.tmp 2) (.tmp 103) rfl rfl w.heap.size 0 rfl rfl o0 infoL rfl (by simp) rfl ?_; intro z pz gz; clear o0))
  refine bodyPost_cell2 (g := w.heap.size) (t := 100) rfl rfl rfl pz Tryz.underlying100 rfl (by kernel_rfl) ?_
  exact ⟨rfl, hb.grown gz hb.size (fun k e => by cases e; exact Nat.le_refl _)⟩
set_option maxHeartbeats 2000000 in
set_option maxRecDepth 100000 in
theorem lo28 (w : World) : Calls Tryz.prog 60 #[.int .u8 28] w fun e w' => e = .returned (.tuple #[.agg #[.int .i64 1, .int .u8 0, .func (.func 122) #[] #[], .int .i64 0, .int .u8 0, .func (.func 116) #[] #[], .bool false], .bool true]) ∧ Below w.heap.size w w' := by
  have o0 := Own.new w #[.int .i64 0, .int .u8 0, .nilFunc, .int .i64 0, .int .u8 0, .nilFunc, .bool false] 100
  go_enter Tryz.func60, Tryz.ntmps60
  go_wp2_with fail
  refine (nothing_any _).mono ?_
  rintro e w1 ⟨rfl, b1⟩
  replace o0 := o0.below b1
  have hb : Below w.heap.size w w1 := (new_below w _).trans (b1.mono (by simp))
  have hl : w.heap.size < w1.heap.size := by have := b1.size; simp at this; omega
  clear b1
  go_wp2_with fail
  refine (nothing_any _).mono ?_
  rintro e w2 ⟨rfl, b2⟩
  replace o0 := o0.below b2
  replace hb := hb.trans (b2.mono hb.size)
  replace hl := Nat.lt_of_lt_of_le hl b2.size
  clear b2
  have hne : w.heap.size ≠ w2.heap.size := by omega
  have hle : w.heap.size ≤ w2.heap.size := by omega
  clear hl
  have o1 := Own.new w2 #[.int .i64 0, .int .u8 0, .func (.func 116) #[] #[], .int .i64 0, .int .u8 0, .func (.func 116) #[] #[], .bool false] 100
  replace o0 := o0.alloc (.cells #[.int .i64 0, .int .u8 0, .func (.func 116) #[] #[], .int .i64 0, .int .u8 0, .func (.func 116) #[] #[], .bool false] 100)
  replace hb := hb.alloc hb.size (.cells #[.int .i64 0, .int .u8 0, .func (.func 116) #[] #[], .int .i64 0, .int .u8 0, .func (.func 116) #[] #[], .bool false] 100)
  go_upto_block 0 with fail
  generalize w2.alloc (.cells #[.int .i64 0, .int .u8 0, .func (.func 116) #[] #[], .int .i64 0, .int .u8 0, .func (.func 116) #[] #[], .bool false] 100) = w3 at *
  go_wp2_with fail
  refine (width_any _).mono ?_
  rintro e v1 ⟨rfl, bv1⟩
  replace o0 := o0.below bv1
  replace o1 := o1.below bv1
  replace hb := hb.trans (bv1.mono hb.size)
  clear bv1
  go_wp2_with (first | (refine wpList_put rfl 98 (.tmp 62) (.tmp 61) rfl rfl w2.heap.size 0 rfl rfl o1 infoN rfl (by simp) rfl ?_; intro u0 p0 g0; replace o1 := p0; clear p0; replace o0 := o0.put g0 hne; replace hb := hb.grown g0 hb.size (fun k e => by cases e; exact hle); clear g0; obtain ⟨c0, c1, c2, c3, c4, c5, c6, hf⟩ := own7 o1; have o1c := o1; clear o1) | (refine wpList_put rfl 100 (.tmp 2) (.tmp 103) rfl rfl w.heap.size 0 rfl rfl o0 infoL rfl (by simp) rfl ?_; intro z pz gz; clear o0))
  refine bodyPost_cell2 (g := w.heap.size) (t := 100) rfl rfl rfl pz Tryz.underlying100 rfl (by kernel_rfl) ?_
  exact ⟨rfl, hb.grown gz hb.size (fun k e => by cases e; exact Nat.le_refl _)⟩
set_option maxHeartbeats 2000000 in
set_option maxRecDepth 100000 in
theorem lo29 (w : World) : Calls Tryz.prog 60 #[.int .u8 29] w fun e w' => e = .returned (.tuple #[.agg #[.int .i64 1, .int .u8 0, .func (.func 122) #[] #[], .int .i64 1, .int .u8 0, .func (.func 122) #[] #[], .bool false], .bool true]) ∧ Below w.heap.size w w' := by
  have o0 := Own.new w #[.int .i64 0, .int .u8 0, .nilFunc, .int .i64 0, .int .u8 0, .nilFunc, .bool false] 100
  go_enter Tryz.func60, Tryz.ntmps60
  go_wp2_with fail
  refine (nothing_any _).mono ?_
  rintro e w1 ⟨rfl, b1⟩
  replace o0 := o0.below b1
  have hb : Below w.heap.size w w1 := (new_below w _).trans (b1.mono (by simp))
  have hl : w.heap.size < w1.heap.size := by have := b1.size; simp at this; omega
  clear b1
  go_wp2_with fail
  refine (nothing_any _).mono ?_
  rintro e w2 ⟨rfl, b2⟩
  replace o0 := o0.below b2
  replace hb := hb.trans (b2.mono hb.size)
  replace hl := Nat.lt_of_lt_of_le hl b2.size
  clear b2
  have hne : w.heap.size ≠ w2.heap.size := by omega
  have hle : w.heap.size ≤ w2.heap.size := by omega
  clear hl
  have o1 := Own.new w2 #[.int .i64 0, .int .u8 0, .func (.func 116) #[] #[], .int .i64 0, .int .u8 0, .func (.func 116) #[] #[], .bool false] 100
  replace o0 := o0.alloc (.cells #[.int .i64 0, .int .u8 0, .func (.func 116) #[] #[], .int .i64 0, .int .u8 0, .func (.func 116) #[] #[], .bool false] 100)
  replace hb := hb.alloc hb.size (.cells #[.int .i64 0, .int .u8 0, .func (.func 116) #[] #[], .int .i64 0, .int .u8 0, .func (.func 116) #[] #[], .bool false] 100)
  go_upto_block 0 with fail
  generalize w2.alloc (.cells #[.int .i64 0, .int .u8 0, .func (.func 116) #[] #[], .int .i64 0, .int .u8 0, .func (.func 116) #[] #[], .bool false] 100) = w3 at *
  go_wp2_with fail
  refine (width_any _).mono ?_
  rintro e v1 ⟨rfl, bv1⟩
  replace o0 := o0.below bv1
  replace o1 := o1.below bv1
  replace hb := hb.trans (bv1.mono hb.size)
  clear bv1
  go_wp2_with fail
  refine (width_any _).mono ?_
  rintro e v2 ⟨rfl, bv2⟩
  replace o0 := o0.below bv2
  replace o1 := o1.below bv2
  replace hb := hb.trans (bv2.mono hb.size)
  clear bv2
  go_wp2_with (first | (refine wpList_put rfl 98 (.tmp 72) (.tmp 70) rfl rfl w2.heap.size 0 rfl rfl o1 infoN rfl (by simp) rfl ?_; intro u0 p0 g0; replace o1 := p0; clear p0; replace o0 := o0.put g0 hne; replace hb := hb.grown g0 hb.size (fun k e => by cases e; exact hle); clear g0) | (refine wpList_put rfl 98 (.tmp 73) (.tmp 71) rfl rfl w2.heap.size 3 rfl rfl o1 infoN rfl (by simp) rfl ?_; intro u1 p1 g1; replace o1 := p1; clear p1; replace o0 := o0.put g1 hne; replace hb := hb.grown g1 hb.size (fun k e => by cases e; exact hle); clear g1; obtain ⟨c0, c1, c2, c3, c4, c5, c6, hf⟩ := own7 o1; have o1c := o1; clear o1) | (refine wpList_put rfl 100 (.tmp 2) (.tmp 103) rfl rfl w.heap.size 0 rfl rfl o0 infoL rfl (by simp) rfl ?_; intro z pz gz; clear o0))
  refine bodyPost_cell2 (g := w.heap.size) (t := 100) rfl rfl rfl pz Tryz.underlying100 rfl (by kernel_rfl) ?_
  exact ⟨rfl, hb.grown gz hb.size (fun k e => by cases e; exact Nat.le_refl _)⟩
set_option maxHeartbeats 2000000 in
set_option maxRecDepth 100000 in
theorem lo30 (w : World) : Calls Tryz.prog 60 #[.int .u8 30] w fun e w' => e = .returned (.tuple #[.agg #[.int .i64 0, .int .u8 0, .func (.func 116) #[] #[], .int .i64 0, .int .u8 0, .func (.func 116) #[] #[], .bool false], .bool true]) ∧ Below w.heap.size w w' := by
  have o0 := Own.new w #[.int .i64 0, .int .u8 0, .nilFunc, .int .i64 0, .int .u8 0, .nilFunc, .bool false] 100
  go_enter Tryz.func60, Tryz.ntmps60
  go_wp2_with fail
  refine (nothing_any _).mono ?_
  rintro e w1 ⟨rfl, b1⟩
  replace o0 := o0.below b1
  have hb : Below w.heap.size w w1 := (new_below w _).trans (b1.mono (by simp))
  have hl : w.heap.size < w1.heap.size := by have := b1.size; simp at this; omega
  clear b1
  go_wp2_with fail
  refine (nothing_any _).mono ?_
  rintro e w2 ⟨rfl, b2⟩
  replace o0 := o0.below b2
  replace hb := hb.trans (b2.mono hb.size)
  replace hl := Nat.lt_of_lt_of_le hl b2.size
  clear b2
  have hne : w.heap.size ≠ w2.heap.size := by omega
  have hle : w.heap.size ≤ w2.heap.size := by omega
  clear hl
  have o1 := Own.new w2 #[.int .i64 0, .int .u8 0, .func (.func 116) #[] #[], .int .i64 0, .int .u8 0, .func (.func 116) #[] #[], .bool false] 100
  replace o0 := o0.alloc (.cells #[.int .i64 0, .int .u8 0, .func (.func 116) #[] #[], .int .i64 0, .int .u8 0, .func (.func 116) #[] #[], .bool false] 100)
  replace hb := hb.alloc hb.size (.cells #[.int .i64 0, .int .u8 0, .func (.func 116) #[] #[], .int .i64 0, .int .u8 0, .func (.func 116) #[] #[], .bool false] 100)
  go_upto_block 0 with fail
  generalize w2.alloc (.cells #[.int .i64 0, .int .u8 0, .func (.func 116) #[] #[], .int .i64 0, .int .u8 0, .func (.func 116) #[] #[], .bool false] 100) = w3 at *
  obtain ⟨c0, c1, c2, c3, c4, c5, c6, hf⟩ := own7 o1
  clear o1
  go_wp2_with (first | (refine wpList_put rfl 100 (.tmp 2) (.tmp 103) rfl rfl w.heap.size 0 rfl rfl o0 infoL rfl (by simp) rfl ?_; intro z pz gz; clear o0))
  refine bodyPost_cell2 (g := w.heap.size) (t := 100) rfl rfl rfl pz Tryz.underlying100 rfl (by kernel_rfl) ?_
  exact ⟨rfl, hb.grown gz hb.size (fun k e => by cases e; exact Nat.le_refl _)⟩
set_option maxHeartbeats 2000000 in
set_option maxRecDepth 100000 in
theorem lo31 (w : World) : Calls Tryz.prog 60 #[.int .u8 31] w fun e w' => e = .returned (.tuple #[.agg #[.int .i64 0, .int .u8 0, .func (.func 116) #[] #[], .int .i64 0, .int .u8 0, .func (.func 116) #[] #[], .bool false], .bool true]) ∧ Below w.heap.size w w' := by
  have o0 := Own.new w #[.int .i64 0, .int .u8 0, .nilFunc, .int .i64 0, .int .u8 0, .nilFunc, .bool false] 100
  go_enter Tryz.func60, Tryz.ntmps60
  go_wp2_with fail
  refine (nothing_any _).mono ?_
  rintro e w1 ⟨rfl, b1⟩
  replace o0 := o0.below b1
  have hb : Below w.heap.size w w1 := (new_below w _).trans (b1.mono (by simp))
  have hl : w.heap.size < w1.heap.size := by have := b1.size; simp at this; omega
  clear b1
  go_wp2_with fail
  refine (nothing_any _).mono ?_
  rintro e w2 ⟨rfl, b2⟩
  replace o0 := o0.below b2
  replace hb := hb.trans (b2.mono hb.size)
  replace hl := Nat.lt_of_lt_of_le hl b2.size
  clear b2
  have hne : w.heap.size ≠ w2.heap.size := by omega
  have hle : w.heap.size ≤ w2.heap.size := by omega
  clear hl
  have o1 := Own.new w2 #[.int .i64 0, .int .u8 0, .func (.func 116) #[] #[], .int .i64 0, .int .u8 0, .func (.func 116) #[] #[], .bool false] 100
  replace o0 := o0.alloc (.cells #[.int .i64 0, .int .u8 0, .func (.func 116) #[] #[], .int .i64 0, .int .u8 0, .func (.func 116) #[] #[], .bool false] 100)
  replace hb := hb.alloc hb.size (.cells #[.int .i64 0, .int .u8 0, .func (.func 116) #[] #[], .int .i64 0, .int .u8 0, .func (.func 116) #[] #[], .bool false] 100)
  go_upto_block 0 with fail
  generalize w2.alloc (.cells #[.int .i64 0, .int .u8 0, .func (.func 116) #[] #[], .int .i64 0, .int .u8 0, .func (.func 116) #[] #[], .bool false] 100) = w3 at *
  obtain ⟨c0, c1, c2, c3, c4, c5, c6, hf⟩ := own7 o1
  clear o1
  go_wp2_with (first | (refine wpList_put rfl 100 (.tmp 2) (.tmp 103) rfl rfl w.heap.size 0 rfl rfl o0 infoL rfl (by simp) rfl ?_; intro z pz gz; clear o0))
  refine bodyPost_cell2 (g := w.heap.size) (t := 100) rfl rfl rfl pz Tryz.underlying100 rfl (by kernel_rfl) ?_
  exact ⟨rfl, hb.grown gz hb.size (fun k e => by cases e; exact Nat.le_refl _)⟩
set_option maxHeartbeats 2000000 in
set_option maxRecDepth 100000 in
theorem lo32 (w : World) : Calls Tryz.prog 60 #[.int .u8 32] w fun e w' => e = .returned (.tuple #[.agg #[.int .i64 0, .int .u8 0, .func (.func 116) #[] #[], .int .i64 0, .int .u8 0, .func (.func 116) #[] #[], .bool false], .bool true]) ∧ Below w.heap.size w w' := by
  have o0 := Own.new w #[.int .i64 0, .int .u8 0, .nilFunc, .int .i64 0, .int .u8 0, .nilFunc, .bool false] 100
  go_enter Tryz.func60, Tryz.ntmps60
  go_wp2_with fail
  refine (nothing_any _).mono ?_
  rintro e w1 ⟨rfl, b1⟩
  replace o0 := o0.below b1
  have hb : Below w.heap.size w w1 := (new_below w _).trans (b1.mono (by simp))
  have hl : w.heap.size < w1.heap.size := by have := b1.size; simp at this; omega
  clear b1
  go_wp2_with fail
  refine (nothing_any _).mono ?_
  rintro e w2 ⟨rfl, b2⟩
  replace o0 := o0.below b2
  replace hb := hb.trans (b2.mono hb.size)
  replace hl := Nat.lt_of_lt_of_le hl b2.size
  clear b2
  have hne : w.heap.size ≠ w2.heap.size := by omega
  have hle : w.heap.size ≤ w2.heap.size := by omega
  clear hl
  have o1 := Own.new w2 #[.int .i64 0, .int .u8 0, .func (.func 116) #[] #[], .int .i64 0, .int .u8 0, .func (.func 116) #[] #[], .bool false] 100
  replace o0 := o0.alloc (.cells #[.int .i64 0, .int .u8 0, .func (.func 116) #[] #[], .int .i64 0, .int .u8 0, .func (.func 116) #[] #[], .bool false] 100)
  replace hb := hb.alloc hb.size (.cells #[.int .i64 0, .int .u8 0, .func (.func 116) #[] #[], .int .i64 0, .int .u8 0, .func (.func 116) #[] #[], .bool false] 100)
  go_upto_block 0 with fail
  generalize w2.alloc (.cells #[.int .i64 0, .int .u8 0, .func (.func 116) #[] #[], .int .i64 0, .int .u8 0, .func (.func 116) #[] #[], .bool false] 100) = w3 at *
  obtain ⟨c0, c1, c2, c3, c4, c5, c6, hf⟩ := own7 o1
  clear o1
  go_wp2_with (first | (refine wpList_put rfl 100 (.tmp 2) (.tmp 103) rfl rfl w.heap.size 0 rfl rfl o0 infoL rfl (by simp) rfl ?_; intro z pz gz; clear o0))
  refine bodyPost_cell2 (g := w.heap.size) (t := 100) rfl rfl rfl pz Tryz.underlying100 rfl (by kernel_rfl) ?_
  exact ⟨rfl, hb.grown gz hb.size (fun k e => by cases e; exact Nat.le_refl _)⟩
set_option maxHeartbeats 2000000 in
set_option maxRecDepth 100000 in
theorem lo33 (w : World) : Calls Tryz.prog 60 #[.int .u8 33] w fun e w' => e = .returned (.tuple #[.agg #[.int .i64 0, .int .u8 0, .func (.func 116) #[] #[], .int .i64 0, .int .u8 0, .func (.func 116) #[] #[], .bool false], .bool true]) ∧ Below w.heap.size w w' := by
  have o0 := Own.new w #[.int .i64 0, .int .u8 0, .nilFunc, .int .i64 0, .int .u8 0, .nilFunc, .bool false] 100
  go_enter Tryz.func60, Tryz.ntmps60
  go_wp2_with fail
  refine (nothing_any _).mono ?_
  rintro e w1 ⟨rfl, b1⟩
  replace o0 := o0.below b1
  have hb : Below w.heap.size w w1 := (new_below w _).trans (b1.mono (by simp))
  have hl : w.heap.size < w1.heap.size := by have := b1.size; simp at this; omega
  clear b1
  go_wp2_with fail
  refine (nothing_any _).mono ?_
  rintro e w2 ⟨rfl, b2⟩
  replace o0 := o0.below b2
  replace hb := hb.trans (b2.mono hb.size)
  replace hl := Nat.lt_of_lt_of_le hl b2.size
  clear b2
  have hne : w.heap.size ≠ w2.heap.size := by omega
  have hle : w.heap.size ≤ w2.heap.size := by omega
  clear hl
  have o1 := Own.new w2 #[.int .i64 0, .int .u8 0, .func (.func 116) #[] #[], .int .i64 0, .int .u8 0, .func (.func 116) #[] #[], .bool false] 100
  replace o0 := o0.alloc (.cells #[.int .i64 0, .int .u8 0, .func (.func 116) #[] #[], .int .i64 0, .int .u8 0, .func (.func 116) #[] #[], .bool false] 100)
  replace hb := hb.alloc hb.size (.cells #[.int .i64 0, .int .u8 0, .func (.func 116) #[] #[], .int .i64 0, .int .u8 0, .func (.func 116) #[] #[], .bool false] 100)
  go_upto_block 0 with fail
  generalize w2.alloc (.cells #[.int .i64 0, .int .u8 0, .func (.func 116) #[] #[], .int .i64 0, .int .u8 0, .func (.func 116) #[] #[], .bool false] 100) = w3 at *
  obtain ⟨c0, c1, c2, c3, c4, c5, c6, hf⟩ := own7 o1
  clear o1
  go_wp2_with (first | (refine wpList_put rfl 100 (.tmp 2) (.tmp 103) rfl rfl w.heap.size 0 rfl rfl o0 infoL rfl (by simp) rfl ?_; intro z pz gz; clear o0))
  refine bodyPost_cell2 (g := w.heap.size) (t := 100) rfl rfl rfl pz Tryz.underlying100 rfl (by kernel_rfl) ?_
  exact ⟨rfl, hb.grown gz hb.size (fun k e => by cases e; exact Nat.le_refl _)⟩
set_option maxHeartbeats 2000000 in
set_option maxRecDepth 100000 in
theorem lo34 (w : World) : Calls Tryz.prog 60 #[.int .u8 34] w fun e w' => e = .returned (.tuple #[.agg #[.int .i64 0, .int .u8 0, .func (.func 116) #[] #[], .int .i64 0, .int .u8 0, .func (.func 116) #[] #[], .bool false], .bool true]) ∧ Below w.heap.size w w' := by
  have o0 := Own.new w #[.int .i64 0, .int .u8 0, .nilFunc, .int .i64 0, .int .u8 0, .nilFunc, .bool false] 100
  go_enter Tryz.func60, Tryz.ntmps60
  go_wp2_with fail
  refine (nothing_any _).mono ?_
  rintro e w1 ⟨rfl, b1⟩
  replace o0 := o0.below b1
  have hb : Below w.heap.size w w1 := (new_below w _).trans (b1.mono (by simp))
  have hl : w.heap.size < w1.heap.size := by have := b1.size; simp at this; omega
  clear b1
  go_wp2_with fail
  refine (nothing_any _).mono ?_
  rintro e w2 ⟨rfl, b2⟩
  replace o0 := o0.below b2
  replace hb := hb.trans (b2.mono hb.size)
  replace hl := Nat.lt_of_lt_of_le hl b2.size
  clear b2
  have hne : w.heap.size ≠ w2.heap.size := by omega
  have hle : w.heap.size ≤ w2.heap.size := by omega
  clear hl
  have o1 := Own.new w2 #[.int .i64 0, .int .u8 0, .func (.func 116) #[] #[], .int .i64 0, .int .u8 0, .func (.func 116) #[] #[], .bool false] 100
  replace o0 := o0.alloc (.cells #[.int .i64 0, .int .u8 0, .func (.func 116) #[] #[], .int .i64 0, .int .u8 0, .func (.func 116) #[] #[], .bool false] 100)
  replace hb := hb.alloc hb.size (.cells #[.int .i64 0, .int .u8 0, .func (.func 116) #[] #[], .int .i64 0, .int .u8 0, .func (.func 116) #[] #[], .bool false] 100)
  go_upto_block 0 with fail
  generalize w2.alloc (.cells #[.int .i64 0, .int .u8 0, .func (.func 116) #[] #[], .int .i64 0, .int .u8 0, .func (.func 116) #[] #[], .bool false] 100) = w3 at *
  obtain ⟨c0, c1, c2, c3, c4, c5, c6, hf⟩ := own7 o1
  clear o1
  go_wp2_with (first | (refine wpList_put rfl 100 (.tmp 2) (.tmp 103) rfl rfl w.heap.size 0 rfl rfl o0 infoL rfl (by simp) rfl ?_; intro z pz gz; clear o0))
  refine bodyPost_cell2 (g := w.heap.size) (t := 100) rfl rfl rfl pz Tryz.underlying100 rfl (by kernel_rfl) ?_
  exact ⟨rfl, hb.grown gz hb.size (fun k e => by cases e; exact Nat.le_refl _)⟩
set_option maxHeartbeats 2000000 in
set_option maxRecDepth 100000 in
theorem lo35 (w : World) : Calls Tryz.prog 60 #[.int .u8 35] w fun e w' => e = .returned (.tuple #[.agg #[.int .i64 0, .int .u8 0, .func (.func 116) #[] #[], .int .i64 0, .int .u8 0, .func (.func 116) #[] #[], .bool false], .bool true]) ∧ Below w.heap.size w w' := by
  have o0 := Own.new w #[.int .i64 0, .int .u8 0, .nilFunc, .int .i64 0, .int .u8 0, .nilFunc, .bool false] 100
  go_enter Tryz.func60, Tryz.ntmps60
  go_wp2_with fail
  refine (nothing_any _).mono ?_
  rintro e w1 ⟨rfl, b1⟩
  replace o0 := o0.below b1
  have hb : Below w.heap.size w w1 := (new_below w _).trans (b1.mono (by simp))
  have hl : w.heap.size < w1.heap.size := by have := b1.size; simp at this; omega
  clear b1
  go_wp2_with fail
  refine (nothing_any _).mono ?_
  rintro e w2 ⟨rfl, b2⟩
  replace o0 := o0.below b2
  replace hb := hb.trans (b2.mono hb.size)
  replace hl := Nat.lt_of_lt_of_le hl b2.size
  clear b2
  have hne : w.heap.size ≠ w2.heap.size := by omega
  have hle : w.heap.size ≤ w2.heap.size := by omega
  clear hl
  have o1 := Own.new w2 #[.int .i64 0, .int .u8 0, .func (.func 116) #[] #[], .int .i64 0, .int .u8 0, .func (.func 116) #[] #[], .bool false] 100
  replace o0 := o0.alloc (.cells #[.int .i64 0, .int .u8 0, .func (.func 116) #[] #[], .int .i64 0, .int .u8 0, .func (.func 116) #[] #[], .bool false] 100)
  replace hb := hb.alloc hb.size (.cells #[.int .i64 0, .int .u8 0, .func (.func 116) #[] #[], .int .i64 0, .int .u8 0, .func (.func 116) #[] #[], .bool false] 100)
  go_upto_block 0 with fail
  generalize w2.alloc (.cells #[.int .i64 0, .int .u8 0, .func (.func 116) #[] #[], .int .i64 0, .int .u8 0, .func (.func 116) #[] #[], .bool false] 100) = w3 at *
  obtain ⟨c0, c1, c2, c3, c4, c5, c6, hf⟩ := own7 o1
  clear o1
  go_wp2_with (first | (refine wpList_put rfl 100 (.tmp 2) (.tmp 103) rfl rfl w.heap.size 0 rfl rfl o0 infoL rfl (by simp) rfl ?_; intro z pz gz; clear o0))
  refine bodyPost_cell2 (g := w.heap.size) (t := 100) rfl rfl rfl pz Tryz.underlying100 rfl (by kernel_rfl) ?_
  exact ⟨rfl, hb.grown gz hb.size (fun k e => by cases e; exact Nat.le_refl _)⟩
set_option maxHeartbeats 2000000 in
set_option maxRecDepth 100000 in
theorem lo36 (w : World) : Calls Tryz.prog 60 #[.int .u8 36] w fun e w' => e = .returned (.tuple #[.agg #[.int .i64 2, .int .u8 0, .func (.func 121) #[] #[], .int .i64 0, .int .u8 0, .func (.func 116) #[] #[], .bool false], .bool true]) ∧ Below w.heap.size w w' := by
  have o0 := Own.new w #[.int .i64 0, .int .u8 0, .nilFunc, .int .i64 0, .int .u8 0, .nilFunc, .bool false] 100
  go_enter Tryz.func60, Tryz.ntmps60
  go_wp2_with fail
  refine (nothing_any _).mono ?_
  rintro e w1 ⟨rfl, b1⟩
  replace o0 := o0.below b1
  have hb : Below w.heap.size w w1 := (new_below w _).trans (b1.mono (by simp))
  have hl : w.heap.size < w1.heap.size := by have := b1.size; simp at this; omega
  clear b1
  go_wp2_with fail
  refine (nothing_any _).mono ?_
  rintro e w2 ⟨rfl, b2⟩
  replace o0 := o0.below b2
  replace hb := hb.trans (b2.mono hb.size)
  replace hl := Nat.lt_of_lt_of_le hl b2.size
  clear b2
  have hne : w.heap.size ≠ w2.heap.size := by omega
  have hle : w.heap.size ≤ w2.heap.size := by omega
  clear hl
  have o1 := Own.new w2 #[.int .i64 0, .int .u8 0, .func (.func 116) #[] #[], .int .i64 0, .int .u8 0, .func (.func 116) #[] #[], .bool false] 100
  replace o0 := o0.alloc (.cells #[.int .i64 0, .int .u8 0, .func (.func 116) #[] #[], .int .i64 0, .int .u8 0, .func (.func 116) #[] #[], .bool false] 100)
  replace hb := hb.alloc hb.size (.cells #[.int .i64 0, .int .u8 0, .func (.func 116) #[] #[], .int .i64 0, .int .u8 0, .func (.func 116) #[] #[], .bool false] 100)
  go_upto_block 0 with fail
  generalize w2.alloc (.cells #[.int .i64 0, .int .u8 0, .func (.func 116) #[] #[], .int .i64 0, .int .u8 0, .func (.func 116) #[] #[], .bool false] 100) = w3 at *
  go_wp2_with fail
  refine (short_any _).mono ?_
  rintro e v1 ⟨rfl, bv1⟩
  replace o0 := o0.below bv1
  replace o1 := o1.below bv1
  replace hb := hb.trans (bv1.mono hb.size)
  clear bv1
  go_wp2_with (first | (refine wpList_put rfl 98 (.tmp 36) (.tmp 35) rfl rfl w2.heap.size 0 rfl rfl o1 infoN rfl (by simp) rfl ?_; intro u0 p0 g0; replace o1 := p0; clear p0; replace o0 := o0.put g0 hne; replace hb := hb.grown g0 hb.size (fun k e => by cases e; exact hle); clear g0; obtain ⟨c0, c1, c2, c3, c4, c5, c6, hf⟩ := own7 o1; have o1c := o1; clear o1) | (refine wpList_put rfl 100 (.tmp 2) (.tmp 103) rfl rfl w.heap.size 0 rfl rfl o0 infoL rfl (by simp) rfl ?_; intro z pz gz; clear o0))
  refine bodyPost_cell2 (g := w.heap.size) (t := 100) rfl rfl rfl pz Tryz.underlying100 rfl (by kernel_rfl) ?_
  exact ⟨rfl, hb.grown gz hb.size (fun k e => by cases e; exact Nat.le_refl _)⟩
set_option maxHeartbeats 2000000 in
set_option maxRecDepth 100000 in
theorem lo37 (w : World) : Calls Tryz.prog 60 #[.int .u8 37] w fun e w' => e = .returned (.tuple #[.agg #[.int .i64 2, .int .u8 0, .func (.func 121) #[] #[], .int .i64 2, .int .u8 0, .func (.func 121) #[] #[], .bool false], .bool true]) ∧ Below w.heap.size w w' := by
  have o0 := Own.new w #[.int .i64 0, .int .u8 0, .nilFunc, .int .i64 0, .int .u8 0, .nilFunc, .bool false] 100
  go_enter Tryz.func60, Tryz.ntmps60
  go_wp2_with fail
  refine (nothing_any _).mono ?_
  rintro e w1 ⟨rfl, b1⟩
  replace o0 := o0.below b1
  have hb : Below w.heap.size w w1 := (new_below w _).trans (b1.mono (by simp))
  have hl : w.heap.size < w1.heap.size := by have := b1.size; simp at this; omega
  clear b1
  go_wp2_with fail
  refine (nothing_any _).mono ?_
  rintro e w2 ⟨rfl, b2⟩
  replace o0 := o0.below b2
  replace hb := hb.trans (b2.mono hb.size)
  replace hl := Nat.lt_of_lt_of_le hl b2.size
  clear b2
  have hne : w.heap.size ≠ w2.heap.size := by omega
  have hle : w.heap.size ≤ w2.heap.size := by omega
  clear hl
  have o1 := Own.new w2 #[.int .i64 0, .int .u8 0, .func (.func 116) #[] #[], .int .i64 0, .int .u8 0, .func (.func 116) #[] #[], .bool false] 100
  replace o0 := o0.alloc (.cells #[.int .i64 0, .int .u8 0, .func (.func 116) #[] #[], .int .i64 0, .int .u8 0, .func (.func 116) #[] #[], .bool false] 100)
  replace hb := hb.alloc hb.size (.cells #[.int .i64 0, .int .u8 0, .func (.func 116) #[] #[], .int .i64 0, .int .u8 0, .func (.func 116) #[] #[], .bool false] 100)
  go_upto_block 0 with fail
  generalize w2.alloc (.cells #[.int .i64 0, .int .u8 0, .func (.func 116) #[] #[], .int .i64 0, .int .u8 0, .func (.func 116) #[] #[], .bool false] 100) = w3 at *
  go_wp2_with fail
  refine (short_any _).mono ?_
  rintro e v1 ⟨rfl, bv1⟩
  replace o0 := o0.below bv1
  replace o1 := o1.below bv1
  replace hb := hb.trans (bv1.mono hb.size)
  clear bv1
  go_wp2_with fail
  refine (short_any _).mono ?_
  rintro e v2 ⟨rfl, bv2⟩
  replace o0 := o0.below bv2
  replace o1 := o1.below bv2
  replace hb := hb.trans (bv2.mono hb.size)
  clear bv2
  go_wp2_with (first | (refine wpList_put rfl 98 (.tmp 42) (.tmp 40) rfl rfl w2.heap.size 0 rfl rfl o1 infoN rfl (by simp) rfl ?_; intro u0 p0 g0; replace o1 := p0; clear p0; replace o0 := o0.put g0 hne; replace hb := hb.grown g0 hb.size (fun k e => by cases e; exact hle); clear g0) | (refine wpList_put rfl 98 (.tmp 43) (.tmp 41) rfl rfl w2.heap.size 3 rfl rfl o1 infoN rfl (by simp) rfl ?_; intro u1 p1 g1; replace o1 := p1; clear p1; replace o0 := o0.put g1 hne; replace hb := hb.grown g1 hb.size (fun k e => by cases e; exact hle); clear g1; obtain ⟨c0, c1, c2, c3, c4, c5, c6, hf⟩ := own7 o1; have o1c := o1; clear o1) | (refine wpList_put rfl 100 (.tmp 2) (.tmp 103) rfl rfl w.heap.size 0 rfl rfl o0 infoL rfl (by simp) rfl ?_; intro z pz gz; clear o0))
  refine bodyPost_cell2 (g := w.heap.size) (t := 100) rfl rfl rfl pz Tryz.underlying100 rfl (by kernel_rfl) ?_
  exact ⟨rfl, hb.grown gz hb.size (fun k e => by cases e; exact Nat.le_refl _)⟩
set_option maxHeartbeats 2000000 in
set_option maxRecDepth 100000 in
theorem lo38 (w : World) : Calls Tryz.prog 60 #[.int .u8 38] w fun e w' => e = .returned (.tuple #[.agg #[.int .i64 2, .int .u8 0, .func (.func 121) #[] #[], .int .i64 2, .int .u8 0, .func (.func 121) #[] #[], .bool false], .bool true]) ∧ Below w.heap.size w w' := by
  have o0 := Own.new w #[.int .i64 0, .int .u8 0, .nilFunc, .int .i64 0, .int .u8 0, .nilFunc, .bool false] 100
  go_enter Tryz.func60, Tryz.ntmps60
  go_wp2_with fail
  refine (nothing_any _).mono ?_
  rintro e w1 ⟨rfl, b1⟩
  replace o0 := o0.below b1
  have hb : Below w.heap.size w w1 := (new_below w _).trans (b1.mono (by simp))
  have hl : w.heap.size < w1.heap.size := by have := b1.size; simp at this; omega
  clear b1
  go_wp2_with fail
  refine (nothing_any _).mono ?_
  rintro e w2 ⟨rfl, b2⟩
  replace o0 := o0.below b2
  replace hb := hb.trans (b2.mono hb.size)
  replace hl := Nat.lt_of_lt_of_le hl b2.size
  clear b2
  have hne : w.heap.size ≠ w2.heap.size := by omega
  have hle : w.heap.size ≤ w2.heap.size := by omega
  clear hl
  have o1 := Own.new w2 #[.int .i64 0, .int .u8 0, .func (.func 116) #[] #[], .int .i64 0, .int .u8 0, .func (.func 116) #[] #[], .bool false] 100
  replace o0 := o0.alloc (.cells #[.int .i64 0, .int .u8 0, .func (.func 116) #[] #[], .int .i64 0, .int .u8 0, .func (.func 116) #[] #[], .bool false] 100)
  replace hb := hb.alloc hb.size (.cells #[.int .i64 0, .int .u8 0, .func (.func 116) #[] #[], .int .i64 0, .int .u8 0, .func (.func 116) #[] #[], .bool false] 100)
  go_upto_block 0 with fail
  generalize w2.alloc (.cells #[.int .i64 0, .int .u8 0, .func (.func 116) #[] #[], .int .i64 0, .int .u8 0, .func (.func 116) #[] #[], .bool false] 100) = w3 at *
  go_wp2_with fail
  refine (short_any _).mono ?_
  rintro e v1 ⟨rfl, bv1⟩
  replace o0 := o0.below bv1
  replace o1 := o1.below bv1
  replace hb := hb.trans (bv1.mono hb.size)
  clear bv1
  go_wp2_with fail
  refine (short_any _).mono ?_
  rintro e v2 ⟨rfl, bv2⟩
  replace o0 := o0.below bv2
  replace o1 := o1.below bv2
  replace hb := hb.trans (bv2.mono hb.size)
  clear bv2
  go_wp2_with (first | (refine wpList_put rfl 98 (.tmp 42) (.tmp 40) rfl rfl w2.heap.size 0 rfl rfl o1 infoN rfl (by simp) rfl ?_; intro u0 p0 g0; replace o1 := p0; clear p0; replace o0 := o0.put g0 hne; replace hb := hb.grown g0 hb.size (fun k e => by cases e; exact hle); clear g0) | (refine wpList_put rfl 98 (.tmp 43) (.tmp 41) rfl rfl w2.heap.size 3 rfl rfl o1 infoN rfl (by simp) rfl ?_; intro u1 p1 g1; replace o1 := p1; clear p1; replace o0 := o0.put g1 hne; replace hb := hb.grown g1 hb.size (fun k e => by cases e; exact hle); clear g1; obtain ⟨c0, c1, c2, c3, c4, c5, c6, hf⟩ := own7 o1; have o1c := o1; clear o1) | (refine wpList_put rfl 100 (.tmp 2) (.tmp 103) rfl rfl w.heap.size 0 rfl rfl o0 infoL rfl (by simp) rfl ?_; intro z pz gz; clear o0))
  refine bodyPost_cell2 (g := w.heap.size) (t := 100) rfl rfl rfl pz Tryz.underlying100 rfl (by kernel_rfl) ?_
  exact ⟨rfl, hb.grown gz hb.size (fun k e => by cases e; exact Nat.le_refl _)⟩
set_option maxHeartbeats 2000000 in
set_option maxRecDepth 100000 in
theorem lo39 (w : World) : Calls Tryz.prog 60 #[.int .u8 39] w fun e w' => e = .returned (.tuple #[.agg #[.int .i64 2, .int .u8 0, .func (.func 121) #[] #[], .int .i64 0, .int .u8 0, .func (.func 116) #[] #[], .bool false], .bool true]) ∧ Below w.heap.size w w' := by
  have o0 := Own.new w #[.int .i64 0, .int .u8 0, .nilFunc, .int .i64 0, .int .u8 0, .nilFunc, .bool false] 100
  go_enter Tryz.func60, Tryz.ntmps60
  go_wp2_with fail
  refine (nothing_any _).mono ?_
  rintro e w1 ⟨rfl, b1⟩
  replace o0 := o0.below b1
  have hb : Below w.heap.size w w1 := (new_below w _).trans (b1.mono (by simp))
  have hl : w.heap.size < w1.heap.size := by have := b1.size; simp at this; omega
  clear b1
  go_wp2_with fail
  refine (nothing_any _).mono ?_
  rintro e w2 ⟨rfl, b2⟩
  replace o0 := o0.below b2
  replace hb := hb.trans (b2.mono hb.size)
  replace hl := Nat.lt_of_lt_of_le hl b2.size
  clear b2
  have hne : w.heap.size ≠ w2.heap.size := by omega
  have hle : w.heap.size ≤ w2.heap.size := by omega
  clear hl
  have o1 := Own.new w2 #[.int .i64 0, .int .u8 0, .func (.func 116) #[] #[], .int .i64 0, .int .u8 0, .func (.func 116) #[] #[], .bool false] 100
  replace o0 := o0.alloc (.cells #[.int .i64 0, .int .u8 0, .func (.func 116) #[] #[], .int .i64 0, .int .u8 0, .func (.func 116) #[] #[], .bool false] 100)
  replace hb := hb.alloc hb.size (.cells #[.int .i64 0, .int .u8 0, .func (.func 116) #[] #[], .int .i64 0, .int .u8 0, .func (.func 116) #[] #[], .bool false] 100)
  go_upto_block 0 with fail
  generalize w2.alloc (.cells #[.int .i64 0, .int .u8 0, .func (.func 116) #[] #[], .int .i64 0, .int .u8 0, .func (.func 116) #[] #[], .bool false] 100) = w3 at *
  go_wp2_with fail
  refine (short_any _).mono ?_
  rintro e v1 ⟨rfl, bv1⟩
  replace o0 := o0.below bv1
  replace o1 := o1.below bv1
  replace hb := hb.trans (bv1.mono hb.size)
  clear bv1
  go_wp2_with (first | (refine wpList_put rfl 98 (.tmp 36) (.tmp 35) rfl rfl w2.heap.size 0 rfl rfl o1 infoN rfl (by simp) rfl ?_; intro u0 p0 g0; replace o1 := p0; clear p0; replace o0 := o0.put g0 hne; replace hb := hb.grown g0 hb.size (fun k e => by cases e; exact hle); clear g0; obtain ⟨c0, c1, c2, c3, c4, c5, c6, hf⟩ := own7 o1; have o1c := o1; clear o1) | (refine wpList_put rfl 100 (.tmp 2) (.tmp 103) rfl rfl w.heap.size 0 rfl rfl o0 infoL rfl (by simp) rfl ?_; intro z pz gz; clear o0))
  refine bodyPost_cell2 (g := w.heap.size) (t := 100) rfl rfl rfl pz Tryz.underlying100 rfl (by kernel_rfl) ?_
  exact ⟨rfl, hb.grown gz hb.size (fun k e => by cases e; exact Nat.le_refl _)⟩
end Go.Proofs.YtkmmnocooibljaaGreatDoor
