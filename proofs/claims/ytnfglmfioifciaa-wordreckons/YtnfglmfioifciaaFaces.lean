/-
  CONTRACTS of word.Two, word.One, word.Test and of the law's own do, width, works.
-/
import Derived.Test.YtnfglmfioifciaaTwos
namespace Go.Proofs.Ytnfglmfioifciaa
open Go.RowKit
set_option linter.unusedVariables false

theorem trapB_other {n : Nat} {op : Int} {y : BitVec n} (h1 : ¬ op = 14) (h2 : ¬ op = 15) : trapB n op y = 0 := by unfold trapB; rw [if_neg (by omega)]
theorem trapB_by {n : Nat} {op : Int} {y : BitVec n} (h : ¬ y = 0#n) : trapB n op y = 0 := by unfold trapB; rw [if_neg (fun q => h q.2.1)]
theorem trapB_zero {n : Nat} {op : Int} (h : op = 14 ∨ op = 15) (hn : n ≠ 0) : trapB n op (BitVec.ofInt n 0) = 1 := by unfold trapB; rw [if_pos ⟨h, by simp, hn⟩]

theorem two8_any (op : Int) (a b : Int) (ha : -128 ≤ a) (ha2 : a ≤ 127) (hb : -128 ≤ b) (hb2 : b ≤ 127) (w : World) : Calls Try.prog 24 #[.int .u8 op, .int .u8 1, .int .i8 a, .int .i8 b] w fun e w' =>
    e = .returned (.tuple #[.int .i64 (twoB 8 op (BitVec.ofInt 8 a) (BitVec.ofInt 8 b)).toInt, .int .i64 (trapB 8 op (BitVec.ofInt 8 b))]) ∧ w = w' := by
  by_cases hop : op < 11 ∨ 20 < op
  · rw [trapB_other (by omega) (by omega)]; exact two8_other op hop a b ha ha2 hb hb2 w
  rcases (by omega : op = 11 ∨ op = 12 ∨ op = 13 ∨ op = 14 ∨ op = 15 ∨ op = 16 ∨ op = 17 ∨ op = 18 ∨ op = 19 ∨ op = 20) with rfl | rfl | rfl | rfl | rfl | rfl | rfl | rfl | rfl | rfl
  · rw [trapB_other (by omega) (by omega)]; exact two8_add a b ha ha2 hb hb2 w
  · rw [trapB_other (by omega) (by omega)]; exact two8_sub a b ha ha2 hb hb2 w
  · rw [trapB_other (by omega) (by omega)]; exact two8_mul a b ha ha2 hb hb2 w
  · by_cases hz : b = 0
    · subst hz; rw [trapB_zero (by omega) (by omega)]; exact two8_div0 a ha ha2 w
    · rw [trapB_by (ne8 hb hb2 hz)]; exact two8_div1 a b ha ha2 hb hb2 hz w
  · by_cases hz : b = 0
    · subst hz; rw [trapB_zero (by omega) (by omega)]; exact two8_rem0 a ha ha2 w
    · rw [trapB_by (ne8 hb hb2 hz)]; exact two8_rem1 a b ha ha2 hb hb2 hz w
  · rw [trapB_other (by omega) (by omega)]; exact two8_and a b ha ha2 hb hb2 w
  · rw [trapB_other (by omega) (by omega)]; exact two8_or a b ha ha2 hb hb2 w
  · rw [trapB_other (by omega) (by omega)]; exact two8_xor a b ha ha2 hb hb2 w
  · rw [trapB_other (by omega) (by omega)]; exact two8_shl a b ha ha2 hb hb2 w
  · rw [trapB_other (by omega) (by omega)]; exact two8_shr a b ha ha2 hb hb2 w
theorem one8_any (op : Int) (a : Int) (ha : -128 ≤ a) (ha2 : a ≤ 127) (w : World) : Calls Try.prog 31 #[.int .u8 op, .int .i8 a] w fun e w' =>
    e = .returned (.int .i64 (oneB 8 op (BitVec.ofInt 8 a)).toInt) ∧ w = w' := by
  by_cases h1 : op = 21
  · subst h1; exact one8_neg a ha ha2 w
  by_cases h2 : op = 22
  · subst h2; exact one8_not a ha ha2 w
  exact one8_other op h1 h2 a ha ha2 w
theorem test8_any (op : Int) (a b : Int) (ha : -128 ≤ a) (ha2 : a ≤ 127) (hb : -128 ≤ b) (hb2 : b ≤ 127) (w : World) : Calls Try.prog 34 #[.int .u8 op, .int .i8 a, .int .i8 b] w fun e w' =>
    e = .returned (.bool (testB 8 op (BitVec.ofInt 8 a) (BitVec.ofInt 8 b))) ∧ w = w' := by
  by_cases hop : op < 23 ∨ 28 < op
  · exact test8_other op hop a b ha ha2 hb hb2 w
  rcases (by omega : op = 23 ∨ op = 24 ∨ op = 25 ∨ op = 26 ∨ op = 27 ∨ op = 28) with rfl | rfl | rfl | rfl | rfl | rfl
  · exact test8_eq a b ha ha2 hb hb2 w
  · exact test8_ne a b ha ha2 hb hb2 w
  · exact test8_lt a b ha ha2 hb hb2 w
  · exact test8_le a b ha ha2 hb hb2 w
  · exact test8_gt a b ha ha2 hb hb2 w
  · exact test8_ge a b ha ha2 hb hb2 w
theorem wi8 (a : Int) : -128 ≤ IntKind.i8.wrap a ∧ IntKind.i8.wrap a ≤ 127 := by rw [wrap_s8]; exact ⟨by have := BitVec.le_toInt (x := BitVec.ofInt 8 a); omega, by have := BitVec.toInt_lt (x := BitVec.ofInt 8 a); omega⟩
theorem two8_w (op a b : Int) (w : World) : Calls Try.prog 24 #[.int .u8 op, .int .u8 1, .int .i8 (IntKind.i8.wrap a), .int .i8 (IntKind.i8.wrap b)] w fun e w' =>
    e = .returned (.tuple #[.int .i64 (two op 1 a b), .int .i64 (trap op 1 b)]) ∧ w = w' := by
  have h := two8_any op (IntKind.i8.wrap a) (IntKind.i8.wrap b) (wi8 a).1 (wi8 a).2 (wi8 b).1 (wi8 b).2 w
  rw [wrap_s8 a, wrap_s8 b, BitVec.ofInt_toInt, BitVec.ofInt_toInt] at h
  rw [wrap_s8 a, wrap_s8 b]
  exact h
theorem one8_w (op a : Int) (w : World) : Calls Try.prog 31 #[.int .u8 op, .int .i8 (IntKind.i8.wrap a)] w fun e w' =>
    e = .returned (.int .i64 (one op 1 a)) ∧ w = w' := by
  have h := one8_any op (IntKind.i8.wrap a) (wi8 a).1 (wi8 a).2 w
  rw [wrap_s8 a, BitVec.ofInt_toInt] at h
  rw [wrap_s8 a]
  exact h
theorem test8_w (op a b : Int) (w : World) : Calls Try.prog 34 #[.int .u8 op, .int .i8 (IntKind.i8.wrap a), .int .i8 (IntKind.i8.wrap b)] w fun e w' =>
    e = .returned (.bool (test op 1 a b)) ∧ w = w' := by
  have h := test8_any op (IntKind.i8.wrap a) (IntKind.i8.wrap b) (wi8 a).1 (wi8 a).2 (wi8 b).1 (wi8 b).2 w
  rw [wrap_s8 a, wrap_s8 b, BitVec.ofInt_toInt, BitVec.ofInt_toInt] at h
  rw [wrap_s8 a, wrap_s8 b]
  exact h
theorem two32_any (op : Int) (a b : Int) (ha : -2147483648 ≤ a) (ha2 : a ≤ 2147483647) (hb : -2147483648 ≤ b) (hb2 : b ≤ 2147483647) (w : World) : Calls Try.prog 25 #[.int .u8 op, .int .u8 2, .int .i32 a, .int .i32 b] w fun e w' =>
    e = .returned (.tuple #[.int .i64 (twoB 32 op (BitVec.ofInt 32 a) (BitVec.ofInt 32 b)).toInt, .int .i64 (trapB 32 op (BitVec.ofInt 32 b))]) ∧ w = w' := by
  by_cases hop : op < 11 ∨ 20 < op
  · rw [trapB_other (by omega) (by omega)]; exact two32_other op hop a b ha ha2 hb hb2 w
  rcases (by omega : op = 11 ∨ op = 12 ∨ op = 13 ∨ op = 14 ∨ op = 15 ∨ op = 16 ∨ op = 17 ∨ op = 18 ∨ op = 19 ∨ op = 20) with rfl | rfl | rfl | rfl | rfl | rfl | rfl | rfl | rfl | rfl
  · rw [trapB_other (by omega) (by omega)]; exact two32_add a b ha ha2 hb hb2 w
  · rw [trapB_other (by omega) (by omega)]; exact two32_sub a b ha ha2 hb hb2 w
  · rw [trapB_other (by omega) (by omega)]; exact two32_mul a b ha ha2 hb hb2 w
  · by_cases hz : b = 0
    · subst hz; rw [trapB_zero (by omega) (by omega)]; exact two32_div0 a ha ha2 w
    · rw [trapB_by (ne32 hb hb2 hz)]; exact two32_div1 a b ha ha2 hb hb2 hz w
  · by_cases hz : b = 0
    · subst hz; rw [trapB_zero (by omega) (by omega)]; exact two32_rem0 a ha ha2 w
    · rw [trapB_by (ne32 hb hb2 hz)]; exact two32_rem1 a b ha ha2 hb hb2 hz w
  · rw [trapB_other (by omega) (by omega)]; exact two32_and a b ha ha2 hb hb2 w
  · rw [trapB_other (by omega) (by omega)]; exact two32_or a b ha ha2 hb hb2 w
  · rw [trapB_other (by omega) (by omega)]; exact two32_xor a b ha ha2 hb hb2 w
  · rw [trapB_other (by omega) (by omega)]; exact two32_shl a b ha ha2 hb hb2 w
  · rw [trapB_other (by omega) (by omega)]; exact two32_shr a b ha ha2 hb hb2 w
theorem one32_any (op : Int) (a : Int) (ha : -2147483648 ≤ a) (ha2 : a ≤ 2147483647) (w : World) : Calls Try.prog 32 #[.int .u8 op, .int .i32 a] w fun e w' =>
    e = .returned (.int .i64 (oneB 32 op (BitVec.ofInt 32 a)).toInt) ∧ w = w' := by
  by_cases h1 : op = 21
  · subst h1; exact one32_neg a ha ha2 w
  by_cases h2 : op = 22
  · subst h2; exact one32_not a ha ha2 w
  exact one32_other op h1 h2 a ha ha2 w
theorem test32_any (op : Int) (a b : Int) (ha : -2147483648 ≤ a) (ha2 : a ≤ 2147483647) (hb : -2147483648 ≤ b) (hb2 : b ≤ 2147483647) (w : World) : Calls Try.prog 35 #[.int .u8 op, .int .i32 a, .int .i32 b] w fun e w' =>
    e = .returned (.bool (testB 32 op (BitVec.ofInt 32 a) (BitVec.ofInt 32 b))) ∧ w = w' := by
  by_cases hop : op < 23 ∨ 28 < op
  · exact test32_other op hop a b ha ha2 hb hb2 w
  rcases (by omega : op = 23 ∨ op = 24 ∨ op = 25 ∨ op = 26 ∨ op = 27 ∨ op = 28) with rfl | rfl | rfl | rfl | rfl | rfl
  · exact test32_eq a b ha ha2 hb hb2 w
  · exact test32_ne a b ha ha2 hb hb2 w
  · exact test32_lt a b ha ha2 hb hb2 w
  · exact test32_le a b ha ha2 hb hb2 w
  · exact test32_gt a b ha ha2 hb hb2 w
  · exact test32_ge a b ha ha2 hb hb2 w
theorem wi32 (a : Int) : -2147483648 ≤ wrap32 a ∧ wrap32 a ≤ 2147483647 := by rw [wrap_w32]; exact ⟨by have := BitVec.le_toInt (x := BitVec.ofInt 32 a); omega, by have := BitVec.toInt_lt (x := BitVec.ofInt 32 a); omega⟩
theorem two32_w (op a b : Int) (w : World) : Calls Try.prog 25 #[.int .u8 op, .int .u8 2, .int .i32 (wrap32 a), .int .i32 (wrap32 b)] w fun e w' =>
    e = .returned (.tuple #[.int .i64 (two op 2 a b), .int .i64 (trap op 2 b)]) ∧ w = w' := by
  have h := two32_any op (wrap32 a) (wrap32 b) (wi32 a).1 (wi32 a).2 (wi32 b).1 (wi32 b).2 w
  rw [wrap_w32 a, wrap_w32 b, BitVec.ofInt_toInt, BitVec.ofInt_toInt] at h
  rw [wrap_w32 a, wrap_w32 b]
  exact h
theorem one32_w (op a : Int) (w : World) : Calls Try.prog 32 #[.int .u8 op, .int .i32 (wrap32 a)] w fun e w' =>
    e = .returned (.int .i64 (one op 2 a)) ∧ w = w' := by
  have h := one32_any op (wrap32 a) (wi32 a).1 (wi32 a).2 w
  rw [wrap_w32 a, BitVec.ofInt_toInt] at h
  rw [wrap_w32 a]
  exact h
theorem test32_w (op a b : Int) (w : World) : Calls Try.prog 35 #[.int .u8 op, .int .i32 (wrap32 a), .int .i32 (wrap32 b)] w fun e w' =>
    e = .returned (.bool (test op 2 a b)) ∧ w = w' := by
  have h := test32_any op (wrap32 a) (wrap32 b) (wi32 a).1 (wi32 a).2 (wi32 b).1 (wi32 b).2 w
  rw [wrap_w32 a, wrap_w32 b, BitVec.ofInt_toInt, BitVec.ofInt_toInt] at h
  rw [wrap_w32 a, wrap_w32 b]
  exact h
theorem two64_any (op : Int) (a b : Int) (ha : -9223372036854775808 ≤ a) (ha2 : a ≤ 9223372036854775807) (hb : -9223372036854775808 ≤ b) (hb2 : b ≤ 9223372036854775807) (w : World) : Calls Try.prog 26 #[.int .u8 op, .int .u8 3, .int .i64 a, .int .i64 b] w fun e w' =>
    e = .returned (.tuple #[.int .i64 (twoB 64 op (BitVec.ofInt 64 a) (BitVec.ofInt 64 b)).toInt, .int .i64 (trapB 64 op (BitVec.ofInt 64 b))]) ∧ w = w' := by
  by_cases hop : op < 11 ∨ 20 < op
  · rw [trapB_other (by omega) (by omega)]; exact two64_other op hop a b ha ha2 hb hb2 w
  rcases (by omega : op = 11 ∨ op = 12 ∨ op = 13 ∨ op = 14 ∨ op = 15 ∨ op = 16 ∨ op = 17 ∨ op = 18 ∨ op = 19 ∨ op = 20) with rfl | rfl | rfl | rfl | rfl | rfl | rfl | rfl | rfl | rfl
  · rw [trapB_other (by omega) (by omega)]; exact two64_add a b ha ha2 hb hb2 w
  · rw [trapB_other (by omega) (by omega)]; exact two64_sub a b ha ha2 hb hb2 w
  · rw [trapB_other (by omega) (by omega)]; exact two64_mul a b ha ha2 hb hb2 w
  · by_cases hz : b = 0
    · subst hz; rw [trapB_zero (by omega) (by omega)]; exact two64_div0 a ha ha2 w
    · rw [trapB_by (ne64 hb hb2 hz)]; exact two64_div1 a b ha ha2 hb hb2 hz w
  · by_cases hz : b = 0
    · subst hz; rw [trapB_zero (by omega) (by omega)]; exact two64_rem0 a ha ha2 w
    · rw [trapB_by (ne64 hb hb2 hz)]; exact two64_rem1 a b ha ha2 hb hb2 hz w
  · rw [trapB_other (by omega) (by omega)]; exact two64_and a b ha ha2 hb hb2 w
  · rw [trapB_other (by omega) (by omega)]; exact two64_or a b ha ha2 hb hb2 w
  · rw [trapB_other (by omega) (by omega)]; exact two64_xor a b ha ha2 hb hb2 w
  · rw [trapB_other (by omega) (by omega)]; exact two64_shl a b ha ha2 hb hb2 w
  · rw [trapB_other (by omega) (by omega)]; exact two64_shr a b ha ha2 hb hb2 w
theorem one64_any (op : Int) (a : Int) (ha : -9223372036854775808 ≤ a) (ha2 : a ≤ 9223372036854775807) (w : World) : Calls Try.prog 33 #[.int .u8 op, .int .i64 a] w fun e w' =>
    e = .returned (.int .i64 (oneB 64 op (BitVec.ofInt 64 a)).toInt) ∧ w = w' := by
  by_cases h1 : op = 21
  · subst h1; exact one64_neg a ha ha2 w
  by_cases h2 : op = 22
  · subst h2; exact one64_not a ha ha2 w
  exact one64_other op h1 h2 a ha ha2 w
theorem test64_any (op : Int) (a b : Int) (ha : -9223372036854775808 ≤ a) (ha2 : a ≤ 9223372036854775807) (hb : -9223372036854775808 ≤ b) (hb2 : b ≤ 9223372036854775807) (w : World) : Calls Try.prog 36 #[.int .u8 op, .int .i64 a, .int .i64 b] w fun e w' =>
    e = .returned (.bool (testB 64 op (BitVec.ofInt 64 a) (BitVec.ofInt 64 b))) ∧ w = w' := by
  by_cases hop : op < 23 ∨ 28 < op
  · exact test64_other op hop a b ha ha2 hb hb2 w
  rcases (by omega : op = 23 ∨ op = 24 ∨ op = 25 ∨ op = 26 ∨ op = 27 ∨ op = 28) with rfl | rfl | rfl | rfl | rfl | rfl
  · exact test64_eq a b ha ha2 hb hb2 w
  · exact test64_ne a b ha ha2 hb hb2 w
  · exact test64_lt a b ha ha2 hb hb2 w
  · exact test64_le a b ha ha2 hb hb2 w
  · exact test64_gt a b ha ha2 hb hb2 w
  · exact test64_ge a b ha ha2 hb hb2 w
theorem two_any (op x a b : Int) (h : -9223372036854775808 ≤ a ∧ a ≤ 9223372036854775807) (h' : -9223372036854775808 ≤ b ∧ b ≤ 9223372036854775807) (w : World) : Calls Try.prog 16 #[.int .u8 op, .int .u8 x, .int .i64 a, .int .i64 b] w fun e w' =>
    e = .returned (.tuple #[.int .i64 (two op x a b), .int .i64 (trap op x b)]) ∧ w = w' := by
  by_cases h1 : x = 1
  · subst h1
    go_enter Try.func16, Try.ntmps16
    go_wp2_with fail
    refine (two8_w _ _ _ _).mono ?_
    rintro e w1 ⟨rfl, rfl⟩
    go_wp2
    go_ret2
    exact ⟨rfl, rfl⟩
  by_cases h2 : x = 2
  · subst h2
    go_enter Try.func16, Try.ntmps16
    go_wp2_with fail
    refine (two32_w _ _ _ _).mono ?_
    rintro e w1 ⟨rfl, rfl⟩
    go_wp2
    go_ret2
    exact ⟨rfl, rfl⟩
  by_cases h3 : x = 3
  · subst h3
    go_enter Try.func16, Try.ntmps16
    go_wp2_with fail
    refine (two64_any _ _ _ h.1 h.2 h'.1 h'.2 _).mono ?_
    rintro e w1 ⟨rfl, rfl⟩
    go_wp2
    go_ret2
    exact ⟨rfl, rfl⟩
  rw [show two op x a b = 0 from bv_none (nb_none h1 h2 h3) _, show trap op x b = 0 by unfold trap trapB; rw [if_neg (fun q => q.2.2 (nb_none h1 h2 h3))]]
  have e1 : (x == 1) = false := by simp [h1]
  have e2 : (x == 2) = false := by simp [h2]
  have e3 : (x == 3) = false := by simp [h3]
  clear h1 h2 h3
  go_enter Try.func16, Try.ntmps16
  go_wp2
  go_ret2
  exact ⟨rfl, rfl⟩
theorem one_any (op x a : Int) (h : -9223372036854775808 ≤ a ∧ a ≤ 9223372036854775807) (w : World) : Calls Try.prog 18 #[.int .u8 op, .int .u8 x, .int .i64 a] w fun e w' =>
    e = .returned (.int .i64 (one op x a)) ∧ w = w' := by
  by_cases h1 : x = 1
  · subst h1
    go_enter Try.func18, Try.ntmps18
    go_wp2_with fail
    refine (one8_w _ _ _).mono ?_
    rintro e w1 ⟨rfl, rfl⟩
    go_wp2
    go_ret
    exact ⟨rfl, rfl⟩
  by_cases h2 : x = 2
  · subst h2
    go_enter Try.func18, Try.ntmps18
    go_wp2_with fail
    refine (one32_w _ _ _).mono ?_
    rintro e w1 ⟨rfl, rfl⟩
    go_wp2
    go_ret
    exact ⟨rfl, rfl⟩
  by_cases h3 : x = 3
  · subst h3
    go_enter Try.func18, Try.ntmps18
    go_wp2_with fail
    refine (one64_any _ _ h.1 h.2 _).mono ?_
    rintro e w1 ⟨rfl, rfl⟩
    go_wp2
    go_ret
    exact ⟨rfl, rfl⟩
  rw [show one op x a = 0 from bv_none (nb_none h1 h2 h3) _]
  have e1 : (x == 1) = false := by simp [h1]
  have e2 : (x == 2) = false := by simp [h2]
  have e3 : (x == 3) = false := by simp [h3]
  clear h1 h2 h3
  go_enter Try.func18, Try.ntmps18
  go_wp2
  go_ret
  exact ⟨rfl, rfl⟩
theorem test_any (op x a b : Int) (h : -9223372036854775808 ≤ a ∧ a ≤ 9223372036854775807) (h' : -9223372036854775808 ≤ b ∧ b ≤ 9223372036854775807) (w : World) : Calls Try.prog 20 #[.int .u8 op, .int .u8 x, .int .i64 a, .int .i64 b] w fun e w' =>
    e = .returned (.bool (test op x a b)) ∧ w = w' := by
  by_cases h1 : x = 1
  · subst h1
    go_enter Try.func20, Try.ntmps20
    go_wp2_with fail
    refine (test8_w _ _ _ _).mono ?_
    rintro e w1 ⟨rfl, rfl⟩
    go_wp2
    go_ret
    exact ⟨rfl, rfl⟩
  by_cases h2 : x = 2
  · subst h2
    go_enter Try.func20, Try.ntmps20
    go_wp2_with fail
    refine (test32_w _ _ _ _).mono ?_
    rintro e w1 ⟨rfl, rfl⟩
    go_wp2
    go_ret
    exact ⟨rfl, rfl⟩
  by_cases h3 : x = 3
  · subst h3
    go_enter Try.func20, Try.ntmps20
    go_wp2_with fail
    refine (test64_any _ _ _ h.1 h.2 h'.1 h'.2 _).mono ?_
    rintro e w1 ⟨rfl, rfl⟩
    go_wp2
    go_ret
    exact ⟨rfl, rfl⟩
  rw [show test op x a b = false by unfold test testB; rw [if_pos (nb_none h1 h2 h3)]]
  have e1 : (x == 1) = false := by simp [h1]
  have e2 : (x == 2) = false := by simp [h2]
  have e3 : (x == 3) = false := by simp [h3]
  clear h1 h2 h3
  go_enter Try.func20, Try.ntmps20
  go_wp2
  go_ret
  exact ⟨rfl, rfl⟩
theorem works_any (w : World) : Calls Try.prog 15 #[] w fun e w' => e = .returned (.bool true) ∧ w = w' := by
  go_enter Try.func15, Try.ntmps15
  go_wp2_with fail
  refine (two_any 11 1 100 100 (by omega) (by omega) _).mono ?_
  rintro e w1 ⟨rfl, rfl⟩
  rw [show two 11 1 100 100 = -56 by decide, show trap 11 1 100 = 0 by decide]
  go_wp2_with fail
  refine (fits_any 1 127 (by omega) (by omega) _).mono ?_
  rintro e w1 ⟨rfl, rfl⟩
  rw [show fits 1 127 = true by decide]
  go_wp2_with fail
  refine (fits_any 1 128 (by omega) (by omega) _).mono ?_
  rintro e w1 ⟨rfl, rfl⟩
  rw [show fits 1 128 = false by decide]
  go_wp2
  go_ret
  exact ⟨rfl, rfl⟩
theorem width_any (x : Int) (h0 : 0 ≤ x) (h : x ≤ 255) (w : World) : Calls Try.prog 22 #[.int .u8 x] w fun e w' => e = .returned (.int .u8 (1 + x % 3)) ∧ w = w' := by
  go_enter Try.func22, Try.ntmps22
  go_wp2
  go_ret
  exact ⟨ret_int rfl, rfl⟩

/-- A number that an int64 has. -/
def In (a : Int) : Prop := -9223372036854775808 ≤ a ∧ a ≤ 9223372036854775807
theorem In.out {a : Int} (h : In a) : -9223372036854775808 ≤ a ∧ a ≤ 9223372036854775807 := h
theorem two_as (op x a b n t : Int) (hn : two op x a b = n) (ht : trap op x b = t) (ha : In a) (hb : In b) (w : World) : Calls Try.prog 16 #[.int .u8 op, .int .u8 x, .int .i64 a, .int .i64 b] w fun e w' =>
    e = .returned (.tuple #[.int .i64 n, .int .i64 t]) ∧ w = w' := by
  subst hn ht; exact two_any op x a b ha hb w
theorem one_as (op x a n : Int) (hn : one op x a = n) (ha : In a) (w : World) : Calls Try.prog 18 #[.int .u8 op, .int .u8 x, .int .i64 a] w fun e w' => e = .returned (.int .i64 n) ∧ w = w' := by
  subst hn; exact one_any op x a ha w
theorem test_as (op x a b : Int) (t : Bool) (ht : test op x a b = t) (ha : In a) (hb : In b) (w : World) : Calls Try.prog 20 #[.int .u8 op, .int .u8 x, .int .i64 a, .int .i64 b] w fun e w' => e = .returned (.bool t) ∧ w = w' := by
  subst ht; exact test_any op x a b ha hb w
theorem wrap_as (x a n : Int) (hn : wrp x a = n) (ha : In a) (w : World) : Calls Try.prog 13 #[.int .u8 x, .int .i64 a] w fun e w' => e = .returned (.int .i64 n) ∧ w = w' := by
  subst hn; exact wrap_any x a ha.1 ha.2 w
theorem fits_as (x a : Int) (t : Bool) (ht : fits x a = t) (ha : In a) (w : World) : Calls Try.prog 11 #[.int .u8 x, .int .i64 a] w fun e w' => e = .returned (.bool t) ∧ w = w' := by
  subst ht; exact fits_any x a ha.1 ha.2 w
theorem bits_as (x n : Int) (hn : (nb x : Int) = n) (w : World) : Calls Try.prog 9 #[.int .u8 x] w fun e w' => e = .returned (.int .i64 n) ∧ w = w' := by
  subst hn; exact bits_any x w
theorem width_as (x n : Int) (hn : 1 + x % 3 = n) (h0 : 0 ≤ x) (h : x ≤ 255) (w : World) : Calls Try.prog 22 #[.int .u8 x] w fun e w' => e = .returned (.int .u8 n) ∧ w = w' := by
  subst hn; exact width_any x h0 h w

end Go.Proofs.Ytnfglmfioifciaa
