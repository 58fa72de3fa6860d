/-
  CONTRACTS of layoutOf at each Op, class by class (part 3).
  CONTRACTS of layoutOf at each Op, class by class (part 4).
-/
import Derived.Test.YtkmmnocooibljaaGreatDoorLz
import Derived.Test.YtkmmnocooibljaaGreatDoorLaq
namespace Go.Proofs.YtkmmnocooibljaaGreatDoor
open Go.ChangeShapes Go.WideShapes Go.ChangeAt Go.RowKit Go.Deep
set_option linter.unusedVariables false

set_option maxHeartbeats 22000000 in
set_option maxRecDepth 100000 in
theorem loc2 (op : Int) (h : op = 4 ∨ op = 5 ∨ op = 9 ∨ op = 10 ∨ op = 30 ∨ op = 31 ∨ op = 32 ∨ op = 33 ∨ op = 34 ∨ op = 35 ∨ op = 51) (w : World) : Calls Tryz.prog 60 #[.int .u8 op] w fun e w' => e = .returned (.tuple #[.agg #[.int .i64 0, .int .u8 0, .func (.func 116) #[] #[], .int .i64 0, .int .u8 0, .func (.func 116) #[] #[], .bool false], .bool true]) ∧ Below w.heap.size w w' := by
  rcases h with rfl | rfl | rfl | rfl | rfl | rfl | rfl | rfl | rfl | rfl | rfl
  all_goals
    have o0 := Own.new w #[.int .i64 0, .int .u8 0, .nilFunc, .int .i64 0, .int .u8 0, .nilFunc, .bool false] 100
    go_enter Tryz.func60, Tryz.ntmps60
    go_wp2_with fail
    refine (nothing_any _).mono ?_
    rintro e w1 ⟨rfl, b1⟩
    replace o0 := o0.below b1
    have hb : Below w.heap.size w w1 := (new_below w _).trans (b1.mono (by simp))
    have hl : w.heap.size < w1.heap.size := by have := b1.size; simp at this; omega
    clear b1
    go_wp2_with fail
    refine (nothing_any _).mono ?_
    rintro e w2 ⟨rfl, b2⟩
    replace o0 := o0.below b2
    replace hb := hb.trans (b2.mono hb.size)
    replace hl := Nat.lt_of_lt_of_le hl b2.size
    clear b2
    have hne : w.heap.size ≠ w2.heap.size := by omega
    have hle : w.heap.size ≤ w2.heap.size := by omega
    clear hl
    have o1 := Own.new w2 #[.int .i64 0, .int .u8 0, .func (.func 116) #[] #[], .int .i64 0, .int .u8 0, .func (.func 116) #[] #[], .bool false] 100
    replace o0 := o0.alloc (.cells #[.int .i64 0, .int .u8 0, .func (.func 116) #[] #[], .int .i64 0, .int .u8 0, .func (.func 116) #[] #[], .bool false] 100)
    replace hb := hb.alloc hb.size (.cells #[.int .i64 0, .int .u8 0, .func (.func 116) #[] #[], .int .i64 0, .int .u8 0, .func (.func 116) #[] #[], .bool false] 100)
    go_upto_block 0 with fail
    generalize w2.alloc (.cells #[.int .i64 0, .int .u8 0, .func (.func 116) #[] #[], .int .i64 0, .int .u8 0, .func (.func 116) #[] #[], .bool false] 100) = w3 at *
    obtain ⟨c0, c1, c2, c3, c4, c5, c6, hf⟩ := own7 o1
    clear o1
    go_wp2_with (first | (refine wpList_put rfl 100 (.tmp 2) (.tmp 103) rfl rfl w.heap.size 0 rfl rfl o0 infoL rfl (by simp) rfl ?_; intro z pz gz; clear o0))
    refine bodyPost_cell2 (g := w.heap.size) (t := 100) rfl rfl rfl pz Tryz.underlying100 rfl (by kernel_rfl) ?_
    exact ⟨rfl, hb.grown gz hb.size (fun k e => by cases e; exact Nat.le_refl _)⟩
set_option maxHeartbeats 2000000 in
set_option maxRecDepth 100000 in
theorem loc10 (op : Int) (h : op = 52) (w : World) : Calls Tryz.prog 60 #[.int .u8 op] w fun e w' => e = .returned (.tuple #[.agg #[.int .i64 1, .int .u8 0, .func (.func 125) #[] #[], .int .i64 0, .int .u8 0, .func (.func 116) #[] #[], .bool false], .bool true]) ∧ Below w.heap.size w w' := by
  subst h
  have o0 := Own.new w #[.int .i64 0, .int .u8 0, .nilFunc, .int .i64 0, .int .u8 0, .nilFunc, .bool false] 100
  go_enter Tryz.func60, Tryz.ntmps60
  go_wp2_with fail
  refine (nothing_any _).mono ?_
  rintro e w1 ⟨rfl, b1⟩
  replace o0 := o0.below b1
  have hb : Below w.heap.size w w1 := (new_below w _).trans (b1.mono (by simp))
  have hl : w.heap.size < w1.heap.size := by have := b1.size; simp at this; omega
  clear b1
  go_wp2_with fail
  refine (nothing_any _).mono ?_
  rintro e w2 ⟨rfl, b2⟩
  replace o0 := o0.below b2
  replace hb := hb.trans (b2.mono hb.size)
  replace hl := Nat.lt_of_lt_of_le hl b2.size
  clear b2
  have hne : w.heap.size ≠ w2.heap.size := by omega
  have hle : w.heap.size ≤ w2.heap.size := by omega
  clear hl
  have o1 := Own.new w2 #[.int .i64 0, .int .u8 0, .func (.func 116) #[] #[], .int .i64 0, .int .u8 0, .func (.func 116) #[] #[], .bool false] 100
  replace o0 := o0.alloc (.cells #[.int .i64 0, .int .u8 0, .func (.func 116) #[] #[], .int .i64 0, .int .u8 0, .func (.func 116) #[] #[], .bool false] 100)
  replace hb := hb.alloc hb.size (.cells #[.int .i64 0, .int .u8 0, .func (.func 116) #[] #[], .int .i64 0, .int .u8 0, .func (.func 116) #[] #[], .bool false] 100)
  go_upto_block 0 with fail
  generalize w2.alloc (.cells #[.int .i64 0, .int .u8 0, .func (.func 116) #[] #[], .int .i64 0, .int .u8 0, .func (.func 116) #[] #[], .bool false] 100) = w3 at *
  go_wp2_with fail
  refine (letter_any _).mono ?_
  rintro e v1 ⟨rfl, bv1⟩
  replace o0 := o0.below bv1
  replace o1 := o1.below bv1
  replace hb := hb.trans (bv1.mono hb.size)
  clear bv1
  go_wp2_with (first | (refine wpList_put rfl 98 (.tmp 83) (.tmp 82) rfl rfl w2.heap.size 0 rfl rfl o1 infoN rfl (by simp) rfl ?_; intro u0 p0 g0; replace o1 := p0; clear p0; replace o0 := o0.put g0 hne; replace hb := hb.grown g0 hb.size (fun k e => by cases e; exact hle); clear g0; obtain ⟨c0, c1, c2, c3, c4, c5, c6, hf⟩ := own7 o1; have o1c := o1; clear o1) | (refine wpList_put rfl 100 (.tmp 2) (.tmp 103) rfl rfl w.heap.size 0 rfl rfl o0 infoL rfl (by simp) rfl ?_; intro z pz gz; clear o0))
  refine bodyPost_cell2 (g := w.heap.size) (t := 100) rfl rfl rfl pz Tryz.underlying100 rfl (by kernel_rfl) ?_
  exact ⟨rfl, hb.grown gz hb.size (fun k e => by cases e; exact Nat.le_refl _)⟩
end Go.Proofs.YtkmmnocooibljaaGreatDoor
namespace Go.Proofs.YtkmmnocooibljaaGreatDoor
open Go.ChangeShapes Go.WideShapes Go.ChangeAt Go.RowKit Go.Deep
set_option linter.unusedVariables false

set_option maxHeartbeats 6000000 in
set_option maxRecDepth 100000 in
theorem loc3 (op : Int) (h : op = 46 ∨ op = 47 ∨ op = 48) (w : World) : Calls Tryz.prog 60 #[.int .u8 op] w fun e w' => e = .returned (.tuple #[.agg #[.int .i64 4, .int .u8 0, .func (.func 124) #[] #[], .int .i64 0, .int .u8 0, .func (.func 116) #[] #[], .bool false], .bool true]) ∧ Below w.heap.size w w' := by
  rcases h with rfl | rfl | rfl
  all_goals
    have o0 := Own.new w #[.int .i64 0, .int .u8 0, .nilFunc, .int .i64 0, .int .u8 0, .nilFunc, .bool false] 100
    go_enter Tryz.func60, Tryz.ntmps60
    go_wp2_with fail
    refine (nothing_any _).mono ?_
    rintro e w1 ⟨rfl, b1⟩
    replace o0 := o0.below b1
    have hb : Below w.heap.size w w1 := (new_below w _).trans (b1.mono (by simp))
    have hl : w.heap.size < w1.heap.size := by have := b1.size; simp at this; omega
    clear b1
    go_wp2_with fail
    refine (nothing_any _).mono ?_
    rintro e w2 ⟨rfl, b2⟩
    replace o0 := o0.below b2
    replace hb := hb.trans (b2.mono hb.size)
    replace hl := Nat.lt_of_lt_of_le hl b2.size
    clear b2
    have hne : w.heap.size ≠ w2.heap.size := by omega
    have hle : w.heap.size ≤ w2.heap.size := by omega
    clear hl
    have o1 := Own.new w2 #[.int .i64 0, .int .u8 0, .func (.func 116) #[] #[], .int .i64 0, .int .u8 0, .func (.func 116) #[] #[], .bool false] 100
    replace o0 := o0.alloc (.cells #[.int .i64 0, .int .u8 0, .func (.func 116) #[] #[], .int .i64 0, .int .u8 0, .func (.func 116) #[] #[], .bool false] 100)
    replace hb := hb.alloc hb.size (.cells #[.int .i64 0, .int .u8 0, .func (.func 116) #[] #[], .int .i64 0, .int .u8 0, .func (.func 116) #[] #[], .bool false] 100)
    go_upto_block 0 with fail
    generalize w2.alloc (.cells #[.int .i64 0, .int .u8 0, .func (.func 116) #[] #[], .int .i64 0, .int .u8 0, .func (.func 116) #[] #[], .bool false] 100) = w3 at *
    go_wp2_with fail
    refine (place_any _).mono ?_
    rintro e v1 ⟨rfl, bv1⟩
    replace o0 := o0.below bv1
    replace o1 := o1.below bv1
    replace hb := hb.trans (bv1.mono hb.size)
    clear bv1
    go_wp2_with (first | (refine wpList_put rfl 98 (.tmp 79) (.tmp 78) rfl rfl w2.heap.size 0 rfl rfl o1 infoN rfl (by simp) rfl ?_; intro u0 p0 g0; replace o1 := p0; clear p0; replace o0 := o0.put g0 hne; replace hb := hb.grown g0 hb.size (fun k e => by cases e; exact hle); clear g0; obtain ⟨c0, c1, c2, c3, c4, c5, c6, hf⟩ := own7 o1; have o1c := o1; clear o1) | (refine wpList_put rfl 100 (.tmp 2) (.tmp 103) rfl rfl w.heap.size 0 rfl rfl o0 infoL rfl (by simp) rfl ?_; intro z pz gz; clear o0))
    refine bodyPost_cell2 (g := w.heap.size) (t := 100) rfl rfl rfl pz Tryz.underlying100 rfl (by kernel_rfl) ?_
    exact ⟨rfl, hb.grown gz hb.size (fun k e => by cases e; exact Nat.le_refl _)⟩
set_option maxHeartbeats 4000000 in
set_option maxRecDepth 100000 in
theorem loc4 (op : Int) (h : op = 37 ∨ op = 38) (w : World) : Calls Tryz.prog 60 #[.int .u8 op] w fun e w' => e = .returned (.tuple #[.agg #[.int .i64 2, .int .u8 0, .func (.func 121) #[] #[], .int .i64 2, .int .u8 0, .func (.func 121) #[] #[], .bool false], .bool true]) ∧ Below w.heap.size w w' := by
  rcases h with rfl | rfl
  all_goals
    have o0 := Own.new w #[.int .i64 0, .int .u8 0, .nilFunc, .int .i64 0, .int .u8 0, .nilFunc, .bool false] 100
    go_enter Tryz.func60, Tryz.ntmps60
    go_wp2_with fail
    refine (nothing_any _).mono ?_
    rintro e w1 ⟨rfl, b1⟩
    replace o0 := o0.below b1
    have hb : Below w.heap.size w w1 := (new_below w _).trans (b1.mono (by simp))
    have hl : w.heap.size < w1.heap.size := by have := b1.size; simp at this; omega
    clear b1
    go_wp2_with fail
    refine (nothing_any _).mono ?_
    rintro e w2 ⟨rfl, b2⟩
    replace o0 := o0.below b2
    replace hb := hb.trans (b2.mono hb.size)
    replace hl := Nat.lt_of_lt_of_le hl b2.size
    clear b2
    have hne : w.heap.size ≠ w2.heap.size := by omega
    have hle : w.heap.size ≤ w2.heap.size := by omega
    clear hl
    have o1 := Own.new w2 #[.int .i64 0, .int .u8 0, .func (.func 116) #[] #[], .int .i64 0, .int .u8 0, .func (.func 116) #[] #[], .bool false] 100
    replace o0 := o0.alloc (.cells #[.int .i64 0, .int .u8 0, .func (.func 116) #[] #[], .int .i64 0, .int .u8 0, .func (.func 116) #[] #[], .bool false] 100)
    replace hb := hb.alloc hb.size (.cells #[.int .i64 0, .int .u8 0, .func (.func 116) #[] #[], .int .i64 0, .int .u8 0, .func (.func 116) #[] #[], .bool false] 100)
    go_upto_block 0 with fail
    generalize w2.alloc (.cells #[.int .i64 0, .int .u8 0, .func (.func 116) #[] #[], .int .i64 0, .int .u8 0, .func (.func 116) #[] #[], .bool false] 100) = w3 at *
    go_wp2_with fail
    refine (short_any _).mono ?_
    rintro e v1 ⟨rfl, bv1⟩
    replace o0 := o0.below bv1
    replace o1 := o1.below bv1
    replace hb := hb.trans (bv1.mono hb.size)
    clear bv1
    go_wp2_with fail
    refine (short_any _).mono ?_
    rintro e v2 ⟨rfl, bv2⟩
    replace o0 := o0.below bv2
    replace o1 := o1.below bv2
    replace hb := hb.trans (bv2.mono hb.size)
    clear bv2
    go_wp2_with (first | (refine wpList_put rfl 98 (.tmp 42) (.tmp 40) rfl rfl w2.heap.size 0 rfl rfl o1 infoN rfl (by simp) rfl ?_; intro u0 p0 g0; replace o1 := p0; clear p0; replace o0 := o0.put g0 hne; replace hb := hb.grown g0 hb.size (fun k e => by cases e; exact hle); clear g0) | (refine wpList_put rfl 98 (.tmp 43) (.tmp 41) rfl rfl w2.heap.size 3 rfl rfl o1 infoN rfl (by simp) rfl ?_; intro u1 p1 g1; replace o1 := p1; clear p1; replace o0 := o0.put g1 hne; replace hb := hb.grown g1 hb.size (fun k e => by cases e; exact hle); clear g1; obtain ⟨c0, c1, c2, c3, c4, c5, c6, hf⟩ := own7 o1; have o1c := o1; clear o1) | (refine wpList_put rfl 100 (.tmp 2) (.tmp 103) rfl rfl w.heap.size 0 rfl rfl o0 infoL rfl (by simp) rfl ?_; intro z pz gz; clear o0))
    refine bodyPost_cell2 (g := w.heap.size) (t := 100) rfl rfl rfl pz Tryz.underlying100 rfl (by kernel_rfl) ?_
    exact ⟨rfl, hb.grown gz hb.size (fun k e => by cases e; exact Nat.le_refl _)⟩
set_option maxHeartbeats 4000000 in
set_option maxRecDepth 100000 in
theorem loc5 (op : Int) (h : op = 23 ∨ op = 24) (w : World) : Calls Tryz.prog 60 #[.int .u8 op] w fun e w' => e = .returned (.tuple #[.agg #[.int .i64 1, .int .u8 0, .func (.func 123) #[] #[], .int .i64 0, .int .u8 0, .func (.func 116) #[] #[], .bool false], .bool true]) ∧ Below w.heap.size w w' := by
  rcases h with rfl | rfl
  all_goals
    have o0 := Own.new w #[.int .i64 0, .int .u8 0, .nilFunc, .int .i64 0, .int .u8 0, .nilFunc, .bool false] 100
    go_enter Tryz.func60, Tryz.ntmps60
    go_wp2_with fail
    refine (nothing_any _).mono ?_
    rintro e w1 ⟨rfl, b1⟩
    replace o0 := o0.below b1
    have hb : Below w.heap.size w w1 := (new_below w _).trans (b1.mono (by simp))
    have hl : w.heap.size < w1.heap.size := by have := b1.size; simp at this; omega
    clear b1
    go_wp2_with fail
    refine (nothing_any _).mono ?_
    rintro e w2 ⟨rfl, b2⟩
    replace o0 := o0.below b2
    replace hb := hb.trans (b2.mono hb.size)
    replace hl := Nat.lt_of_lt_of_le hl b2.size
    clear b2
    have hne : w.heap.size ≠ w2.heap.size := by omega
    have hle : w.heap.size ≤ w2.heap.size := by omega
    clear hl
    have o1 := Own.new w2 #[.int .i64 0, .int .u8 0, .func (.func 116) #[] #[], .int .i64 0, .int .u8 0, .func (.func 116) #[] #[], .bool false] 100
    replace o0 := o0.alloc (.cells #[.int .i64 0, .int .u8 0, .func (.func 116) #[] #[], .int .i64 0, .int .u8 0, .func (.func 116) #[] #[], .bool false] 100)
    replace hb := hb.alloc hb.size (.cells #[.int .i64 0, .int .u8 0, .func (.func 116) #[] #[], .int .i64 0, .int .u8 0, .func (.func 116) #[] #[], .bool false] 100)
    go_upto_block 0 with fail
    generalize w2.alloc (.cells #[.int .i64 0, .int .u8 0, .func (.func 116) #[] #[], .int .i64 0, .int .u8 0, .func (.func 116) #[] #[], .bool false] 100) = w3 at *
    go_wp2_with fail
    refine (kind_any _).mono ?_
    rintro e v1 ⟨rfl, bv1⟩
    replace o0 := o0.below bv1
    replace o1 := o1.below bv1
    replace hb := hb.trans (bv1.mono hb.size)
    clear bv1
    go_wp2_with (first | (refine wpList_put rfl 98 (.tmp 67) (.tmp 66) rfl rfl w2.heap.size 0 rfl rfl o1 infoN rfl (by simp) rfl ?_; intro u0 p0 g0; replace o1 := p0; clear p0; replace o0 := o0.put g0 hne; replace hb := hb.grown g0 hb.size (fun k e => by cases e; exact hle); clear g0; obtain ⟨c0, c1, c2, c3, c4, c5, c6, hf⟩ := own7 o1; have o1c := o1; clear o1) | (refine wpList_put rfl 100 (.tmp 2) (.tmp 103) rfl rfl w.heap.size 0 rfl rfl o0 infoL rfl (by simp) rfl ?_; intro z pz gz; clear o0))
    refine bodyPost_cell2 (g := w.heap.size) (t := 100) rfl rfl rfl pz Tryz.underlying100 rfl (by kernel_rfl) ?_
    exact ⟨rfl, hb.grown gz hb.size (fun k e => by cases e; exact Nat.le_refl _)⟩
set_option maxHeartbeats 2000000 in
set_option maxRecDepth 100000 in
theorem loc6 (op : Int) (h : op = 1) (w : World) : Calls Tryz.prog 60 #[.int .u8 op] w fun e w' => e = .returned (.tuple #[.agg #[.int .i64 1, .int .u8 1, .func (.func 118) #[] #[], .int .i64 0, .int .u8 0, .func (.func 116) #[] #[], .bool false], .bool true]) ∧ Below w.heap.size w w' := by
  subst h
  have o0 := Own.new w #[.int .i64 0, .int .u8 0, .nilFunc, .int .i64 0, .int .u8 0, .nilFunc, .bool false] 100
  go_enter Tryz.func60, Tryz.ntmps60
  go_wp2_with fail
  refine (nothing_any _).mono ?_
  rintro e w1 ⟨rfl, b1⟩
  replace o0 := o0.below b1
  have hb : Below w.heap.size w w1 := (new_below w _).trans (b1.mono (by simp))
  have hl : w.heap.size < w1.heap.size := by have := b1.size; simp at this; omega
  clear b1
  go_wp2_with fail
  refine (nothing_any _).mono ?_
  rintro e w2 ⟨rfl, b2⟩
  replace o0 := o0.below b2
  replace hb := hb.trans (b2.mono hb.size)
  replace hl := Nat.lt_of_lt_of_le hl b2.size
  clear b2
  have hne : w.heap.size ≠ w2.heap.size := by omega
  have hle : w.heap.size ≤ w2.heap.size := by omega
  clear hl
  have o1 := Own.new w2 #[.int .i64 0, .int .u8 0, .func (.func 116) #[] #[], .int .i64 0, .int .u8 0, .func (.func 116) #[] #[], .bool false] 100
  replace o0 := o0.alloc (.cells #[.int .i64 0, .int .u8 0, .func (.func 116) #[] #[], .int .i64 0, .int .u8 0, .func (.func 116) #[] #[], .bool false] 100)
  replace hb := hb.alloc hb.size (.cells #[.int .i64 0, .int .u8 0, .func (.func 116) #[] #[], .int .i64 0, .int .u8 0, .func (.func 116) #[] #[], .bool false] 100)
  go_upto_block 0 with fail
  generalize w2.alloc (.cells #[.int .i64 0, .int .u8 0, .func (.func 116) #[] #[], .int .i64 0, .int .u8 0, .func (.func 116) #[] #[], .bool false] 100) = w3 at *
  go_wp2_with fail
  refine (whole1 _).mono ?_
  rintro e v1 ⟨rfl, bv1⟩
  replace o0 := o0.below bv1
  replace o1 := o1.below bv1
  replace hb := hb.trans (bv1.mono hb.size)
  clear bv1
  go_wp2_with (first | (refine wpList_put rfl 98 (.tmp 13) (.tmp 12) rfl rfl w2.heap.size 0 rfl rfl o1 infoN rfl (by simp) rfl ?_; intro u0 p0 g0; replace o1 := p0; clear p0; replace o0 := o0.put g0 hne; replace hb := hb.grown g0 hb.size (fun k e => by cases e; exact hle); clear g0; obtain ⟨c0, c1, c2, c3, c4, c5, c6, hf⟩ := own7 o1; have o1c := o1; clear o1) | (refine wpList_put rfl 100 (.tmp 2) (.tmp 103) rfl rfl w.heap.size 0 rfl rfl o0 infoL rfl (by simp) rfl ?_; intro z pz gz; clear o0))
  refine bodyPost_cell2 (g := w.heap.size) (t := 100) rfl rfl rfl pz Tryz.underlying100 rfl (by kernel_rfl) ?_
  exact ⟨rfl, hb.grown gz hb.size (fun k e => by cases e; exact Nat.le_refl _)⟩
set_option maxHeartbeats 2000000 in
set_option maxRecDepth 100000 in
theorem loc7 (op : Int) (h : op = 2) (w : World) : Calls Tryz.prog 60 #[.int .u8 op] w fun e w' => e = .returned (.tuple #[.agg #[.int .i64 4, .int .u8 2, .func (.func 119) #[] #[], .int .i64 0, .int .u8 0, .func (.func 116) #[] #[], .bool false], .bool true]) ∧ Below w.heap.size w w' := by
  subst h
  have o0 := Own.new w #[.int .i64 0, .int .u8 0, .nilFunc, .int .i64 0, .int .u8 0, .nilFunc, .bool false] 100
  go_enter Tryz.func60, Tryz.ntmps60
  go_wp2_with fail
  refine (nothing_any _).mono ?_
  rintro e w1 ⟨rfl, b1⟩
  replace o0 := o0.below b1
  have hb : Below w.heap.size w w1 := (new_below w _).trans (b1.mono (by simp))
  have hl : w.heap.size < w1.heap.size := by have := b1.size; simp at this; omega
  clear b1
  go_wp2_with fail
  refine (nothing_any _).mono ?_
  rintro e w2 ⟨rfl, b2⟩
  replace o0 := o0.below b2
  replace hb := hb.trans (b2.mono hb.size)
  replace hl := Nat.lt_of_lt_of_le hl b2.size
  clear b2
  have hne : w.heap.size ≠ w2.heap.size := by omega
  have hle : w.heap.size ≤ w2.heap.size := by omega
  clear hl
  have o1 := Own.new w2 #[.int .i64 0, .int .u8 0, .func (.func 116) #[] #[], .int .i64 0, .int .u8 0, .func (.func 116) #[] #[], .bool false] 100
  replace o0 := o0.alloc (.cells #[.int .i64 0, .int .u8 0, .func (.func 116) #[] #[], .int .i64 0, .int .u8 0, .func (.func 116) #[] #[], .bool false] 100)
  replace hb := hb.alloc hb.size (.cells #[.int .i64 0, .int .u8 0, .func (.func 116) #[] #[], .int .i64 0, .int .u8 0, .func (.func 116) #[] #[], .bool false] 100)
  go_upto_block 0 with fail
  generalize w2.alloc (.cells #[.int .i64 0, .int .u8 0, .func (.func 116) #[] #[], .int .i64 0, .int .u8 0, .func (.func 116) #[] #[], .bool false] 100) = w3 at *
  go_wp2_with fail
  refine (whole2 _).mono ?_
  rintro e v1 ⟨rfl, bv1⟩
  replace o0 := o0.below bv1
  replace o1 := o1.below bv1
  replace hb := hb.trans (bv1.mono hb.size)
  clear bv1
  go_wp2_with (first | (refine wpList_put rfl 98 (.tmp 17) (.tmp 16) rfl rfl w2.heap.size 0 rfl rfl o1 infoN rfl (by simp) rfl ?_; intro u0 p0 g0; replace o1 := p0; clear p0; replace o0 := o0.put g0 hne; replace hb := hb.grown g0 hb.size (fun k e => by cases e; exact hle); clear g0; obtain ⟨c0, c1, c2, c3, c4, c5, c6, hf⟩ := own7 o1; have o1c := o1; clear o1) | (refine wpList_put rfl 100 (.tmp 2) (.tmp 103) rfl rfl w.heap.size 0 rfl rfl o0 infoL rfl (by simp) rfl ?_; intro z pz gz; clear o0))
  refine bodyPost_cell2 (g := w.heap.size) (t := 100) rfl rfl rfl pz Tryz.underlying100 rfl (by kernel_rfl) ?_
  exact ⟨rfl, hb.grown gz hb.size (fun k e => by cases e; exact Nat.le_refl _)⟩
set_option maxHeartbeats 2000000 in
set_option maxRecDepth 100000 in
theorem loc8 (op : Int) (h : op = 3) (w : World) : Calls Tryz.prog 60 #[.int .u8 op] w fun e w' => e = .returned (.tuple #[.agg #[.int .i64 8, .int .u8 3, .func (.func 120) #[] #[], .int .i64 0, .int .u8 0, .func (.func 116) #[] #[], .bool false], .bool true]) ∧ Below w.heap.size w w' := by
  subst h
  have o0 := Own.new w #[.int .i64 0, .int .u8 0, .nilFunc, .int .i64 0, .int .u8 0, .nilFunc, .bool false] 100
  go_enter Tryz.func60, Tryz.ntmps60
  go_wp2_with fail
  refine (nothing_any _).mono ?_
  rintro e w1 ⟨rfl, b1⟩
  replace o0 := o0.below b1
  have hb : Below w.heap.size w w1 := (new_below w _).trans (b1.mono (by simp))
  have hl : w.heap.size < w1.heap.size := by have := b1.size; simp at this; omega
  clear b1
  go_wp2_with fail
  refine (nothing_any _).mono ?_
  rintro e w2 ⟨rfl, b2⟩
  replace o0 := o0.below b2
  replace hb := hb.trans (b2.mono hb.size)
  replace hl := Nat.lt_of_lt_of_le hl b2.size
  clear b2
  have hne : w.heap.size ≠ w2.heap.size := by omega
  have hle : w.heap.size ≤ w2.heap.size := by omega
  clear hl
  have o1 := Own.new w2 #[.int .i64 0, .int .u8 0, .func (.func 116) #[] #[], .int .i64 0, .int .u8 0, .func (.func 116) #[] #[], .bool false] 100
  replace o0 := o0.alloc (.cells #[.int .i64 0, .int .u8 0, .func (.func 116) #[] #[], .int .i64 0, .int .u8 0, .func (.func 116) #[] #[], .bool false] 100)
  replace hb := hb.alloc hb.size (.cells #[.int .i64 0, .int .u8 0, .func (.func 116) #[] #[], .int .i64 0, .int .u8 0, .func (.func 116) #[] #[], .bool false] 100)
  go_upto_block 0 with fail
  generalize w2.alloc (.cells #[.int .i64 0, .int .u8 0, .func (.func 116) #[] #[], .int .i64 0, .int .u8 0, .func (.func 116) #[] #[], .bool false] 100) = w3 at *
  go_wp2_with fail
  refine (whole3 _).mono ?_
  rintro e v1 ⟨rfl, bv1⟩
  replace o0 := o0.below bv1
  replace o1 := o1.below bv1
  replace hb := hb.trans (bv1.mono hb.size)
  clear bv1
  go_wp2_with (first | (refine wpList_put rfl 98 (.tmp 21) (.tmp 20) rfl rfl w2.heap.size 0 rfl rfl o1 infoN rfl (by simp) rfl ?_; intro u0 p0 g0; replace o1 := p0; clear p0; replace o0 := o0.put g0 hne; replace hb := hb.grown g0 hb.size (fun k e => by cases e; exact hle); clear g0; obtain ⟨c0, c1, c2, c3, c4, c5, c6, hf⟩ := own7 o1; have o1c := o1; clear o1) | (refine wpList_put rfl 100 (.tmp 2) (.tmp 103) rfl rfl w.heap.size 0 rfl rfl o0 infoL rfl (by simp) rfl ?_; intro z pz gz; clear o0))
  refine bodyPost_cell2 (g := w.heap.size) (t := 100) rfl rfl rfl pz Tryz.underlying100 rfl (by kernel_rfl) ?_
  exact ⟨rfl, hb.grown gz hb.size (fun k e => by cases e; exact Nat.le_refl _)⟩
set_option maxHeartbeats 2000000 in
set_option maxRecDepth 100000 in
theorem loc9 (op : Int) (h : op = 29) (w : World) : Calls Tryz.prog 60 #[.int .u8 op] w fun e w' => e = .returned (.tuple #[.agg #[.int .i64 1, .int .u8 0, .func (.func 122) #[] #[], .int .i64 1, .int .u8 0, .func (.func 122) #[] #[], .bool false], .bool true]) ∧ Below w.heap.size w w' := by
  subst h
  have o0 := Own.new w #[.int .i64 0, .int .u8 0, .nilFunc, .int .i64 0, .int .u8 0, .nilFunc, .bool false] 100
  go_enter Tryz.func60, Tryz.ntmps60
  go_wp2_with fail
  refine (nothing_any _).mono ?_
  rintro e w1 ⟨rfl, b1⟩
  replace o0 := o0.below b1
  have hb : Below w.heap.size w w1 := (new_below w _).trans (b1.mono (by simp))
  have hl : w.heap.size < w1.heap.size := by have := b1.size; simp at this; omega
  clear b1
  go_wp2_with fail
  refine (nothing_any _).mono ?_
  rintro e w2 ⟨rfl, b2⟩
  replace o0 := o0.below b2
  replace hb := hb.trans (b2.mono hb.size)
  replace hl := Nat.lt_of_lt_of_le hl b2.size
  clear b2
  have hne : w.heap.size ≠ w2.heap.size := by omega
  have hle : w.heap.size ≤ w2.heap.size := by omega
  clear hl
  have o1 := Own.new w2 #[.int .i64 0, .int .u8 0, .func (.func 116) #[] #[], .int .i64 0, .int .u8 0, .func (.func 116) #[] #[], .bool false] 100
  replace o0 := o0.alloc (.cells #[.int .i64 0, .int .u8 0, .func (.func 116) #[] #[], .int .i64 0, .int .u8 0, .func (.func 116) #[] #[], .bool false] 100)
  replace hb := hb.alloc hb.size (.cells #[.int .i64 0, .int .u8 0, .func (.func 116) #[] #[], .int .i64 0, .int .u8 0, .func (.func 116) #[] #[], .bool false] 100)
  go_upto_block 0 with fail
  generalize w2.alloc (.cells #[.int .i64 0, .int .u8 0, .func (.func 116) #[] #[], .int .i64 0, .int .u8 0, .func (.func 116) #[] #[], .bool false] 100) = w3 at *
  go_wp2_with fail
  refine (width_any _).mono ?_
  rintro e v1 ⟨rfl, bv1⟩
  replace o0 := o0.below bv1
  replace o1 := o1.below bv1
  replace hb := hb.trans (bv1.mono hb.size)
  clear bv1
  go_wp2_with fail
  refine (width_any _).mono ?_
  rintro e v2 ⟨rfl, bv2⟩
  replace o0 := o0.below bv2
  replace o1 := o1.below bv2
  replace hb := hb.trans (bv2.mono hb.size)
  clear bv2
  go_wp2_with (first | (refine wpList_put rfl 98 (.tmp 72) (.tmp 70) rfl rfl w2.heap.size 0 rfl rfl o1 infoN rfl (by simp) rfl ?_; intro u0 p0 g0; replace o1 := p0; clear p0; replace o0 := o0.put g0 hne; replace hb := hb.grown g0 hb.size (fun k e => by cases e; exact hle); clear g0) | (refine wpList_put rfl 98 (.tmp 73) (.tmp 71) rfl rfl w2.heap.size 3 rfl rfl o1 infoN rfl (by simp) rfl ?_; intro u1 p1 g1; replace o1 := p1; clear p1; replace o0 := o0.put g1 hne; replace hb := hb.grown g1 hb.size (fun k e => by cases e; exact hle); clear g1; obtain ⟨c0, c1, c2, c3, c4, c5, c6, hf⟩ := own7 o1; have o1c := o1; clear o1) | (refine wpList_put rfl 100 (.tmp 2) (.tmp 103) rfl rfl w.heap.size 0 rfl rfl o0 infoL rfl (by simp) rfl ?_; intro z pz gz; clear o0))
  refine bodyPost_cell2 (g := w.heap.size) (t := 100) rfl rfl rfl pz Tryz.underlying100 rfl (by kernel_rfl) ?_
  exact ⟨rfl, hb.grown gz hb.size (fun k e => by cases e; exact Nat.le_refl _)⟩
set_option maxHeartbeats 2000000 in
set_option maxRecDepth 100000 in
theorem loc11 (op : Int) (h : op = 49) (w : World) : Calls Tryz.prog 60 #[.int .u8 op] w fun e w' => e = .returned (.tuple #[.agg #[.int .i64 1, .int .u8 0, .func (.func 122) #[] #[], .int .i64 4, .int .u8 0, .func (.func 124) #[] #[], .bool true], .bool true]) ∧ Below w.heap.size w w' := by
  subst h
  have o0 := Own.new w #[.int .i64 0, .int .u8 0, .nilFunc, .int .i64 0, .int .u8 0, .nilFunc, .bool false] 100
  go_enter Tryz.func60, Tryz.ntmps60
  go_wp2_with fail
  refine (nothing_any _).mono ?_
  rintro e w1 ⟨rfl, b1⟩
  replace o0 := o0.below b1
  have hb : Below w.heap.size w w1 := (new_below w _).trans (b1.mono (by simp))
  have hl : w.heap.size < w1.heap.size := by have := b1.size; simp at this; omega
  clear b1
  go_wp2_with fail
  refine (nothing_any _).mono ?_
  rintro e w2 ⟨rfl, b2⟩
  replace o0 := o0.below b2
  replace hb := hb.trans (b2.mono hb.size)
  replace hl := Nat.lt_of_lt_of_le hl b2.size
  clear b2
  have hne : w.heap.size ≠ w2.heap.size := by omega
  have hle : w.heap.size ≤ w2.heap.size := by omega
  clear hl
  have o1 := Own.new w2 #[.int .i64 0, .int .u8 0, .func (.func 116) #[] #[], .int .i64 0, .int .u8 0, .func (.func 116) #[] #[], .bool false] 100
  replace o0 := o0.alloc (.cells #[.int .i64 0, .int .u8 0, .func (.func 116) #[] #[], .int .i64 0, .int .u8 0, .func (.func 116) #[] #[], .bool false] 100)
  replace hb := hb.alloc hb.size (.cells #[.int .i64 0, .int .u8 0, .func (.func 116) #[] #[], .int .i64 0, .int .u8 0, .func (.func 116) #[] #[], .bool false] 100)
  go_upto_block 0 with fail
  generalize w2.alloc (.cells #[.int .i64 0, .int .u8 0, .func (.func 116) #[] #[], .int .i64 0, .int .u8 0, .func (.func 116) #[] #[], .bool false] 100) = w3 at *
  go_wp2_with fail
  refine (width_any _).mono ?_
  rintro e v1 ⟨rfl, bv1⟩
  replace o0 := o0.below bv1
  replace o1 := o1.below bv1
  replace hb := hb.trans (bv1.mono hb.size)
  clear bv1
  go_wp2_with fail
  refine (place_any _).mono ?_
  rintro e v2 ⟨rfl, bv2⟩
  replace o0 := o0.below bv2
  replace o1 := o1.below bv2
  replace hb := hb.trans (bv2.mono hb.size)
  clear bv2
  go_wp2_with (first | (refine wpList_put rfl 98 (.tmp 88) (.tmp 86) rfl rfl w2.heap.size 0 rfl rfl o1 infoN rfl (by simp) rfl ?_; intro u0 p0 g0; replace o1 := p0; clear p0; replace o0 := o0.put g0 hne; replace hb := hb.grown g0 hb.size (fun k e => by cases e; exact hle); clear g0) | (refine wpList_put rfl 98 (.tmp 89) (.tmp 87) rfl rfl w2.heap.size 3 rfl rfl o1 infoN rfl (by simp) rfl ?_; intro u1 p1 g1; replace o1 := p1; clear p1; replace o0 := o0.put g1 hne; replace hb := hb.grown g1 hb.size (fun k e => by cases e; exact hle); clear g1; replace o0 := o0.other (i := 6) hne (.bool true); replace hb := hb.setCell (p := ⟨w2.heap.size, 6, none⟩) hle (.bool true); obtain ⟨c0, c1, c2, c3, c4, c5, c6, hf⟩ := own7 o1; clear o1) | (refine wpList_put rfl 100 (.tmp 2) (.tmp 103) rfl rfl w.heap.size 0 rfl rfl o0 infoL rfl (by simp) rfl ?_; intro z pz gz; clear o0))
  refine bodyPost_cell2 (g := w.heap.size) (t := 100) rfl rfl rfl pz Tryz.underlying100 rfl (by kernel_rfl) ?_
  exact ⟨rfl, hb.grown gz hb.size (fun k e => by cases e; exact Nat.le_refl _)⟩
end Go.Proofs.YtkmmnocooibljaaGreatDoor
