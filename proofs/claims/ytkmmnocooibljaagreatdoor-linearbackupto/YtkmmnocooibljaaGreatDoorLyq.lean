/-
  Ly, what is reached of it.
-/
import Derived.Test.YtkmmnocooibljaaGreatDoorLz
import Derived.Test.YtkmmnocooibljaaGreatDoorJlo
import Derived.Test.YtkmmnocooibljaaGreatDoorJlq
namespace Go.Proofs.YtkmmnocooibljaaGreatDoor
open Go.ChangeShapes Go.WideShapes Go.ChangeAt Go.RowKit Go.Deep
set_option linter.unusedVariables false

/-- A number's struct in the program stands for a number of the mathematics. -/
structure NumIs (k : Nm) (wd : Int) (f : Nat) : Prop where
  ok : k.Ok
  may : MayIs f k
  fn : FnIs f
  w : (k.sg = false ∧ wd = 0 ∧ k.sz ≤ 4) ∨ (k.sg = true ∧ ((wd = 1 ∧ k.sz = 1) ∨ (wd = 2 ∧ k.sz = 4) ∨ (wd = 3 ∧ k.sz = 8)))
theorem numNone : NumIs nNone 0 116 := ⟨okNone, may_nothing, fun a w => by kernel_rfl, .inl ⟨rfl, rfl, by decide⟩⟩
theorem numByte : NumIs nByte 0 125 := ⟨okByte, may_byte, fun a w => by kernel_rfl, .inl ⟨rfl, rfl, by decide⟩⟩
theorem numShort : NumIs nShort 0 121 := ⟨okShort, may_short, fun a w => by kernel_rfl, .inl ⟨rfl, rfl, by decide⟩⟩
theorem numPlace : NumIs nPlace 0 124 := ⟨okPlace, may_place, fun a w => by kernel_rfl, .inl ⟨rfl, rfl, by decide⟩⟩
theorem numWidth : NumIs nWidth 0 122 := ⟨okWidth, may_width, fun a w => by kernel_rfl, .inl ⟨rfl, rfl, by decide⟩⟩
theorem numKind : NumIs nKind 0 123 := ⟨okKind, may_kind, fun a w => by kernel_rfl, .inl ⟨rfl, rfl, by decide⟩⟩
theorem numI8 : NumIs nI8 1 118 := ⟨okI8, may_i8 _ rfl rfl, fun a w => by kernel_rfl, .inr ⟨rfl, .inl ⟨rfl, rfl⟩⟩⟩
theorem numI32 : NumIs nI32 2 119 := ⟨okI32, may_i32 _ rfl rfl, fun a w => by kernel_rfl, .inr ⟨rfl, .inr (.inl ⟨rfl, rfl⟩)⟩⟩
theorem numI64 : NumIs nI64 3 120 := ⟨okI64, may_i64 _ rfl rfl, fun a w => by kernel_rfl, .inr ⟨rfl, .inr (.inr ⟨rfl, rfl⟩)⟩⟩
theorem numVal1 : NumIs (nVal 1) 3 118 := ⟨okVal 1, may_i8 _ rfl rfl, fun a w => by kernel_rfl, .inr ⟨rfl, .inr (.inr ⟨rfl, rfl⟩)⟩⟩
theorem numVal2 : NumIs (nVal 2) 3 119 := ⟨okVal 2, may_i32 _ rfl rfl, fun a w => by kernel_rfl, .inr ⟨rfl, .inr (.inr ⟨rfl, rfl⟩)⟩⟩
/-- value at a width: whatever it is, what may stand there. -/
theorem value_as (x : Int) (h : x = 0 ∨ x = 1 ∨ x = 2 ∨ x = 3) : ∃ f, NumIs (nVal x) 3 f ∧ ∀ w, Calls Tryz.prog 95 #[.int .u8 x] w fun e w' => e = .returned (numV 8 3 f) ∧ Below w.heap.size w w' := by
  rcases h with rfl | rfl | rfl | rfl
  · exact ⟨_, numI64, value0⟩
  · exact ⟨_, numVal1, value1⟩
  · exact ⟨_, numVal2, value2⟩
  · exact ⟨_, numI64, value3⟩
abbrev layV (l : Lay) (wa : Int) (fa : Nat) (wb : Int) (fb : Nat) : Value := .agg #[.int .i64 l.a.sz, .int .u8 wa, .func (.func fa) #[] #[], .int .i64 l.b.sz, .int .u8 wb, .func (.func fb) #[] #[], .bool l.arms]
abbrev layZ : Value := .agg #[.int .i64 0, .int .u8 0, .nilFunc, .int .i64 0, .int .u8 0, .nilFunc, .bool false]
set_option maxHeartbeats 2000000 in
set_option maxRecDepth 100000 in
theorem lo0 (w : World) : Calls Tryz.prog 60 #[.int .u8 0] w fun e w' => e = .returned (.tuple #[layZ, .bool false]) ∧ Below w.heap.size w w' := by
  have o0 := Own.new w #[.int .i64 0, .int .u8 0, .nilFunc, .int .i64 0, .int .u8 0, .nilFunc, .bool false] 100
  go_enter Tryz.func60, Tryz.ntmps60
  go_wp2_with fail
  refine (nothing_any _).mono ?_
  rintro e w1 ⟨rfl, b1⟩
  replace o0 := o0.below b1
  have hb : Below w.heap.size w w1 := (new_below w _).trans (b1.mono (by simp))
  clear b1
  go_wp2_with fail
  refine (nothing_any _).mono ?_
  rintro e w2 ⟨rfl, b2⟩
  replace o0 := o0.below b2
  replace hb := hb.trans (b2.mono hb.size)
  clear b2
  replace o0 := o0.alloc (.cells #[.int .i64 0, .int .u8 0, .func (.func 116) #[] #[], .int .i64 0, .int .u8 0, .func (.func 116) #[] #[], .bool false] 100)
  replace hb := hb.alloc hb.size (.cells #[.int .i64 0, .int .u8 0, .func (.func 116) #[] #[], .int .i64 0, .int .u8 0, .func (.func 116) #[] #[], .bool false] 100)
  go_upto_block 0 with fail
  generalize w2.alloc (.cells #[.int .i64 0, .int .u8 0, .func (.func 116) #[] #[], .int .i64 0, .int .u8 0, .func (.func 116) #[] #[], .bool false] 100) = w3 at *
  go_wp2_with (refine wpList_put rfl 100 (.tmp 2) (.tmp 9) rfl rfl w.heap.size 0 rfl rfl o0 infoL rfl (by simp) rfl ?_; intro z pz gz; clear o0)
  refine bodyPost_cell2 (g := w.heap.size) (t := 100) rfl rfl rfl pz Tryz.underlying100 rfl (by kernel_rfl) ?_
  exact ⟨rfl, hb.grown gz hb.size (fun k e => by cases e; exact Nat.le_refl _)⟩
set_option maxHeartbeats 2000000 in
set_option maxRecDepth 100000 in
theorem loN (op : Int) (h : 53 ≤ op) (w : World) : Calls Tryz.prog 60 #[.int .u8 op] w fun e w' => e = .returned (.tuple #[layZ, .bool false]) ∧ Below w.heap.size w w' := by
  have o0 := Own.new w #[.int .i64 0, .int .u8 0, .nilFunc, .int .i64 0, .int .u8 0, .nilFunc, .bool false] 100
  go_enter Tryz.func60, Tryz.ntmps60
  go_wp2_with fail
  refine (nothing_any _).mono ?_
  rintro e w1 ⟨rfl, b1⟩
  replace o0 := o0.below b1
  have hb : Below w.heap.size w w1 := (new_below w _).trans (b1.mono (by simp))
  clear b1
  go_wp2_with fail
  refine (nothing_any _).mono ?_
  rintro e w2 ⟨rfl, b2⟩
  replace o0 := o0.below b2
  replace hb := hb.trans (b2.mono hb.size)
  clear b2
  replace o0 := o0.alloc (.cells #[.int .i64 0, .int .u8 0, .func (.func 116) #[] #[], .int .i64 0, .int .u8 0, .func (.func 116) #[] #[], .bool false] 100)
  replace hb := hb.alloc hb.size (.cells #[.int .i64 0, .int .u8 0, .func (.func 116) #[] #[], .int .i64 0, .int .u8 0, .func (.func 116) #[] #[], .bool false] 100)
  go_upto_block 0 with fail
  generalize w2.alloc (.cells #[.int .i64 0, .int .u8 0, .func (.func 116) #[] #[], .int .i64 0, .int .u8 0, .func (.func 116) #[] #[], .bool false] 100) = w3 at *
  go_wp2_with (refine wpList_put rfl 100 (.tmp 2) (.tmp 9) rfl rfl w.heap.size 0 rfl rfl o0 infoL rfl (by simp) rfl ?_; intro z pz gz; clear o0)
  refine bodyPost_cell2 (g := w.heap.size) (t := 100) rfl rfl rfl pz Tryz.underlying100 rfl (by kernel_rfl) ?_
  exact ⟨rfl, hb.grown gz hb.size (fun k e => by cases e; exact Nat.le_refl _)⟩
/-- layoutOf at any byte. -/
def LayAt (op : Nat) : Prop := (lay op = none ∧ ∀ w, Calls Tryz.prog 60 #[.int .u8 (op : Int)] w fun e w' => e = .returned (.tuple #[layZ, .bool false]) ∧ Below w.heap.size w w') ∨
  ∃ l wa fa wb fb, lay op = some l ∧ NumIs l.a wa fa ∧ NumIs l.b wb fb ∧ ∀ w, Calls Tryz.prog 60 #[.int .u8 (op : Int)] w fun e w' => e = .returned (.tuple #[layV l wa fa wb fb, .bool true]) ∧ Below w.heap.size w w'
theorem la1 : LayAt 1 := .inr ⟨_, _, _, _, _, rfl, numI8, numNone, fun w => loc6 1 (by rfl) w⟩
theorem la2 : LayAt 2 := .inr ⟨_, _, _, _, _, rfl, numI32, numNone, fun w => loc7 2 (by rfl) w⟩
theorem la3 : LayAt 3 := .inr ⟨_, _, _, _, _, rfl, numI64, numNone, fun w => loc8 3 (by rfl) w⟩
theorem la4 : LayAt 4 := .inr ⟨_, _, _, _, _, rfl, numNone, numNone, fun w => loc2 4 (by decide) w⟩
theorem la5 : LayAt 5 := .inr ⟨_, _, _, _, _, rfl, numNone, numNone, fun w => loc2 5 (by decide) w⟩
theorem la6 : LayAt 6 := .inr ⟨_, _, _, _, _, rfl, numShort, numNone, fun w => loc1 6 (by decide) w⟩
theorem la7 : LayAt 7 := .inr ⟨_, _, _, _, _, rfl, numShort, numNone, fun w => loc1 7 (by decide) w⟩
theorem la8 : LayAt 8 := .inr ⟨_, _, _, _, _, rfl, numShort, numNone, fun w => loc1 8 (by decide) w⟩
theorem la9 : LayAt 9 := .inr ⟨_, _, _, _, _, rfl, numNone, numNone, fun w => loc2 9 (by decide) w⟩
theorem la10 : LayAt 10 := .inr ⟨_, _, _, _, _, rfl, numNone, numNone, fun w => loc2 10 (by decide) w⟩
theorem la11 : LayAt 11 := .inr ⟨_, _, _, _, _, rfl, numWidth, numNone, fun w => loc0 11 (by decide) w⟩
theorem la12 : LayAt 12 := .inr ⟨_, _, _, _, _, rfl, numWidth, numNone, fun w => loc0 12 (by decide) w⟩
theorem la13 : LayAt 13 := .inr ⟨_, _, _, _, _, rfl, numWidth, numNone, fun w => loc0 13 (by decide) w⟩
theorem la14 : LayAt 14 := .inr ⟨_, _, _, _, _, rfl, numWidth, numNone, fun w => loc0 14 (by decide) w⟩
theorem la15 : LayAt 15 := .inr ⟨_, _, _, _, _, rfl, numWidth, numNone, fun w => loc0 15 (by decide) w⟩
theorem la16 : LayAt 16 := .inr ⟨_, _, _, _, _, rfl, numWidth, numNone, fun w => loc0 16 (by decide) w⟩
theorem la17 : LayAt 17 := .inr ⟨_, _, _, _, _, rfl, numWidth, numNone, fun w => loc0 17 (by decide) w⟩
theorem la18 : LayAt 18 := .inr ⟨_, _, _, _, _, rfl, numWidth, numNone, fun w => loc0 18 (by decide) w⟩
theorem la19 : LayAt 19 := .inr ⟨_, _, _, _, _, rfl, numWidth, numNone, fun w => loc0 19 (by decide) w⟩
theorem la20 : LayAt 20 := .inr ⟨_, _, _, _, _, rfl, numWidth, numNone, fun w => loc0 20 (by decide) w⟩
theorem la21 : LayAt 21 := .inr ⟨_, _, _, _, _, rfl, numWidth, numNone, fun w => loc0 21 (by decide) w⟩
theorem la22 : LayAt 22 := .inr ⟨_, _, _, _, _, rfl, numWidth, numNone, fun w => loc0 22 (by decide) w⟩
theorem la23 : LayAt 23 := .inr ⟨_, _, _, _, _, rfl, numKind, numNone, fun w => loc5 23 (by decide) w⟩
theorem la24 : LayAt 24 := .inr ⟨_, _, _, _, _, rfl, numKind, numNone, fun w => loc5 24 (by decide) w⟩
theorem la25 : LayAt 25 := .inr ⟨_, _, _, _, _, rfl, numWidth, numNone, fun w => loc0 25 (by decide) w⟩
theorem la26 : LayAt 26 := .inr ⟨_, _, _, _, _, rfl, numWidth, numNone, fun w => loc0 26 (by decide) w⟩
theorem la27 : LayAt 27 := .inr ⟨_, _, _, _, _, rfl, numWidth, numNone, fun w => loc0 27 (by decide) w⟩
theorem la28 : LayAt 28 := .inr ⟨_, _, _, _, _, rfl, numWidth, numNone, fun w => loc0 28 (by decide) w⟩
theorem la29 : LayAt 29 := .inr ⟨_, _, _, _, _, rfl, numWidth, numWidth, fun w => loc9 29 (by rfl) w⟩
theorem la30 : LayAt 30 := .inr ⟨_, _, _, _, _, rfl, numNone, numNone, fun w => loc2 30 (by decide) w⟩
theorem la31 : LayAt 31 := .inr ⟨_, _, _, _, _, rfl, numNone, numNone, fun w => loc2 31 (by decide) w⟩
theorem la32 : LayAt 32 := .inr ⟨_, _, _, _, _, rfl, numNone, numNone, fun w => loc2 32 (by decide) w⟩
theorem la33 : LayAt 33 := .inr ⟨_, _, _, _, _, rfl, numNone, numNone, fun w => loc2 33 (by decide) w⟩
theorem la34 : LayAt 34 := .inr ⟨_, _, _, _, _, rfl, numNone, numNone, fun w => loc2 34 (by decide) w⟩
theorem la35 : LayAt 35 := .inr ⟨_, _, _, _, _, rfl, numNone, numNone, fun w => loc2 35 (by decide) w⟩
theorem la36 : LayAt 36 := .inr ⟨_, _, _, _, _, rfl, numShort, numNone, fun w => loc1 36 (by decide) w⟩
theorem la37 : LayAt 37 := .inr ⟨_, _, _, _, _, rfl, numShort, numShort, fun w => loc4 37 (by decide) w⟩
theorem la38 : LayAt 38 := .inr ⟨_, _, _, _, _, rfl, numShort, numShort, fun w => loc4 38 (by decide) w⟩
theorem la39 : LayAt 39 := .inr ⟨_, _, _, _, _, rfl, numShort, numNone, fun w => loc1 39 (by decide) w⟩
theorem la40 : LayAt 40 := .inr ⟨_, _, _, _, _, rfl, numShort, numNone, fun w => loc1 40 (by decide) w⟩
theorem la41 : LayAt 41 := .inr ⟨_, _, _, _, _, rfl, numShort, numNone, fun w => loc1 41 (by decide) w⟩
theorem la42 : LayAt 42 := .inr ⟨_, _, _, _, _, rfl, numShort, numNone, fun w => loc1 42 (by decide) w⟩
theorem la43 : LayAt 43 := .inr ⟨_, _, _, _, _, rfl, numShort, numNone, fun w => loc1 43 (by decide) w⟩
theorem la44 : LayAt 44 := .inr ⟨_, _, _, _, _, rfl, numShort, numNone, fun w => loc1 44 (by decide) w⟩
theorem la45 : LayAt 45 := .inr ⟨_, _, _, _, _, rfl, numShort, numNone, fun w => loc1 45 (by decide) w⟩
theorem la46 : LayAt 46 := .inr ⟨_, _, _, _, _, rfl, numPlace, numNone, fun w => loc3 46 (by decide) w⟩
theorem la47 : LayAt 47 := .inr ⟨_, _, _, _, _, rfl, numPlace, numNone, fun w => loc3 47 (by decide) w⟩
theorem la48 : LayAt 48 := .inr ⟨_, _, _, _, _, rfl, numPlace, numNone, fun w => loc3 48 (by decide) w⟩
theorem la49 : LayAt 49 := .inr ⟨_, _, _, _, _, rfl, numWidth, numPlace, fun w => loc11 49 (by rfl) w⟩
theorem la50 : LayAt 50 := .inr ⟨_, _, _, _, _, rfl, numShort, numNone, fun w => loc1 50 (by decide) w⟩
theorem la51 : LayAt 51 := .inr ⟨_, _, _, _, _, rfl, numNone, numNone, fun w => loc2 51 (by decide) w⟩
theorem la52 : LayAt 52 := .inr ⟨_, _, _, _, _, rfl, numByte, numNone, fun w => loc10 52 (by rfl) w⟩
theorem lay_big (op : Nat) (h : 53 ≤ op) : lay op = none := by
  unfold lay
  rw [if_neg (by omega), if_neg (by omega), if_neg (by omega), if_neg (by omega), if_neg (by omega), if_neg (by omega), if_neg (by omega), if_neg (by omega), if_neg (by omega), if_neg (by omega), if_neg (by omega), if_neg (by omega)]
theorem lay_as : ∀ op : Nat, LayAt op
  | 0 => .inl ⟨rfl, lo0⟩
  | 1 => la1
  | 2 => la2
  | 3 => la3
  | 4 => la4
  | 5 => la5
  | 6 => la6
  | 7 => la7
  | 8 => la8
  | 9 => la9
  | 10 => la10
  | 11 => la11
  | 12 => la12
  | 13 => la13
  | 14 => la14
  | 15 => la15
  | 16 => la16
  | 17 => la17
  | 18 => la18
  | 19 => la19
  | 20 => la20
  | 21 => la21
  | 22 => la22
  | 23 => la23
  | 24 => la24
  | 25 => la25
  | 26 => la26
  | 27 => la27
  | 28 => la28
  | 29 => la29
  | 30 => la30
  | 31 => la31
  | 32 => la32
  | 33 => la33
  | 34 => la34
  | 35 => la35
  | 36 => la36
  | 37 => la37
  | 38 => la38
  | 39 => la39
  | 40 => la40
  | 41 => la41
  | 42 => la42
  | 43 => la43
  | 44 => la44
  | 45 => la45
  | 46 => la46
  | 47 => la47
  | 48 => la48
  | 49 => la49
  | 50 => la50
  | 51 => la51
  | 52 => la52
  | op + 53 => .inl ⟨lay_big _ (by omega), loN _ (by omega)⟩
end Go.Proofs.YtkmmnocooibljaaGreatDoor
