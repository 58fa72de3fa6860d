/-
  THE WALK of WordOrder.
-/
import Derived.Test.YtnfglmfioifciabFaces
namespace Go.Proofs.Ytnfglmfioifciab
open Go.RowKit
set_option linter.unusedVariables false

theorem nz {X : Int} (h : X = 1 ∨ X = 2 ∨ X = 3) : ¬ nb X = 0 := by have := nb_pos h; omega
theorem t_eq (X a b : Int) (h : X = 1 ∨ X = 2 ∨ X = 3) : test 23 X a b = decide (wrp X a = wrp X b) := by unfold test testB; rw [if_neg (nz h)]; rfl
theorem t_ne (X a b : Int) (h : X = 1 ∨ X = 2 ∨ X = 3) : test 24 X a b = decide (wrp X a ≠ wrp X b) := by unfold test testB; rw [if_neg (nz h)]; rfl
theorem t_lt (X a b : Int) (h : X = 1 ∨ X = 2 ∨ X = 3) : test 25 X a b = decide (wrp X a < wrp X b) := by unfold test testB; rw [if_neg (nz h)]; rfl
theorem t_le (X a b : Int) (h : X = 1 ∨ X = 2 ∨ X = 3) : test 26 X a b = decide (wrp X a ≤ wrp X b) := by unfold test testB; rw [if_neg (nz h)]; rfl
theorem t_gt (X a b : Int) (h : X = 1 ∨ X = 2 ∨ X = 3) : test 27 X a b = decide (wrp X b < wrp X a) := by unfold test testB; rw [if_neg (nz h)]; rfl
theorem t_ge (X a b : Int) (h : X = 1 ∨ X = 2 ∨ X = 3) : test 28 X a b = decide (wrp X b ≤ wrp X a) := by unfold test testB; rw [if_neg (nz h)]; rfl

set_option maxRecDepth 100000 in
set_option maxHeartbeats 1000000 in
theorem order_LL (x a b c X m p q : Int) (H0 : Hid (0 ≤ x ∧ x ≤ 255)) (HX : Hid (1 + x % 3 = X)) (HV : Hid (X = 1 ∨ X = 2 ∨ X = 3)) (HA : Hid (In a)) (HB : Hid (In b)) (HC : Hid (In c)) (hm : Hid (wrp X a = m)) (hp : Hid (wrp X b = p)) (hq : Hid (wrp X c = q)) (w : World) (CC : Hid (m < p ∧ p < q)) :
    Calls Try.prog 3 #[.int .u8 x, .int .i64 a, .int .i64 b, .int .i64 c] w fun e w' => e = .returned (.bool true) ∧ w = w' := by
  have hne : (m == p) = false := by have h := CC.out; simp; omega
  go_enter Try.func3, Try.ntmps3
  go_wp2_with fail
  refine (width_as x X HX.out H0.out.1 H0.out.2 _).mono ?_
  rintro e wx ⟨rfl, rfl⟩
  go_wp2_with fail
  refine (test_as 25 X a b true (by rw [t_lt _ _ _ HV.out, hm.out, hp.out]; simp; have h := CC.out; omega) HA.out HB.out _).mono ?_
  rintro e wx ⟨rfl, rfl⟩
  go_wp2_with fail
  refine (test_as 23 X a b false (by rw [t_eq _ _ _ HV.out, hm.out, hp.out]; simp; have h := CC.out; omega) HA.out HB.out _).mono ?_
  rintro e wx ⟨rfl, rfl⟩
  go_wp2_with fail
  refine (test_as 27 X a b false (by rw [t_gt _ _ _ HV.out, hm.out, hp.out]; simp; have h := CC.out; omega) HA.out HB.out _).mono ?_
  rintro e wx ⟨rfl, rfl⟩
  go_wp2_with fail
  refine (test_as 24 X a b true (by rw [t_ne _ _ _ HV.out, hm.out, hp.out]; simp; have h := CC.out; omega) HA.out HB.out _).mono ?_
  rintro e wx ⟨rfl, rfl⟩
  go_wp2_with fail
  refine (test_as 26 X a b true (by rw [t_le _ _ _ HV.out, hm.out, hp.out]; simp; have h := CC.out; omega) HA.out HB.out _).mono ?_
  rintro e wx ⟨rfl, rfl⟩
  go_wp2_with fail
  refine (test_as 28 X a b false (by rw [t_ge _ _ _ HV.out, hm.out, hp.out]; simp; have h := CC.out; omega) HA.out HB.out _).mono ?_
  rintro e wx ⟨rfl, rfl⟩
  go_wp2_with fail
  refine (test_as 27 X b a true (by rw [t_gt _ _ _ HV.out, hp.out, hm.out]; simp; have h := CC.out; omega) HB.out HA.out _).mono ?_
  rintro e wx ⟨rfl, rfl⟩
  go_wp2_with fail
  refine (test_as 25 X b c true (by rw [t_lt _ _ _ HV.out, hp.out, hq.out]; simp; have h := CC.out; omega) HB.out HC.out _).mono ?_
  rintro e wx ⟨rfl, rfl⟩
  go_wp2_with fail
  refine (test_as 25 X a c true (by rw [t_lt _ _ _ HV.out, hm.out, hq.out]; simp; have h := CC.out; omega) HA.out HC.out _).mono ?_
  rintro e wx ⟨rfl, rfl⟩
  go_wp2_with fail
  refine (wrap_as X a m hm.out HA.out _).mono ?_
  rintro e wx ⟨rfl, rfl⟩
  go_wp2_with fail
  refine (wrap_as X b p hp.out HB.out _).mono ?_
  rintro e wx ⟨rfl, rfl⟩
  go_wp2_with fail
  refine (works_any _).mono ?_
  rintro e wx ⟨rfl, rfl⟩
  go_wp2
  go_ret
  exact ⟨rfl, rfl⟩

set_option maxRecDepth 100000 in
set_option maxHeartbeats 1000000 in
theorem order_LN (x a b c X m p q : Int) (H0 : Hid (0 ≤ x ∧ x ≤ 255)) (HX : Hid (1 + x % 3 = X)) (HV : Hid (X = 1 ∨ X = 2 ∨ X = 3)) (HA : Hid (In a)) (HB : Hid (In b)) (HC : Hid (In c)) (hm : Hid (wrp X a = m)) (hp : Hid (wrp X b = p)) (hq : Hid (wrp X c = q)) (w : World) (CC : Hid (m < p ∧ ¬ p < q)) :
    Calls Try.prog 3 #[.int .u8 x, .int .i64 a, .int .i64 b, .int .i64 c] w fun e w' => e = .returned (.bool true) ∧ w = w' := by
  have hne : (m == p) = false := by have h := CC.out; simp; omega
  go_enter Try.func3, Try.ntmps3
  go_wp2_with fail
  refine (width_as x X HX.out H0.out.1 H0.out.2 _).mono ?_
  rintro e wx ⟨rfl, rfl⟩
  go_wp2_with fail
  refine (test_as 25 X a b true (by rw [t_lt _ _ _ HV.out, hm.out, hp.out]; simp; have h := CC.out; omega) HA.out HB.out _).mono ?_
  rintro e wx ⟨rfl, rfl⟩
  go_wp2_with fail
  refine (test_as 23 X a b false (by rw [t_eq _ _ _ HV.out, hm.out, hp.out]; simp; have h := CC.out; omega) HA.out HB.out _).mono ?_
  rintro e wx ⟨rfl, rfl⟩
  go_wp2_with fail
  refine (test_as 27 X a b false (by rw [t_gt _ _ _ HV.out, hm.out, hp.out]; simp; have h := CC.out; omega) HA.out HB.out _).mono ?_
  rintro e wx ⟨rfl, rfl⟩
  go_wp2_with fail
  refine (test_as 24 X a b true (by rw [t_ne _ _ _ HV.out, hm.out, hp.out]; simp; have h := CC.out; omega) HA.out HB.out _).mono ?_
  rintro e wx ⟨rfl, rfl⟩
  go_wp2_with fail
  refine (test_as 26 X a b true (by rw [t_le _ _ _ HV.out, hm.out, hp.out]; simp; have h := CC.out; omega) HA.out HB.out _).mono ?_
  rintro e wx ⟨rfl, rfl⟩
  go_wp2_with fail
  refine (test_as 28 X a b false (by rw [t_ge _ _ _ HV.out, hm.out, hp.out]; simp; have h := CC.out; omega) HA.out HB.out _).mono ?_
  rintro e wx ⟨rfl, rfl⟩
  go_wp2_with fail
  refine (test_as 27 X b a true (by rw [t_gt _ _ _ HV.out, hp.out, hm.out]; simp; have h := CC.out; omega) HB.out HA.out _).mono ?_
  rintro e wx ⟨rfl, rfl⟩
  go_wp2_with fail
  refine (test_as 25 X b c false (by rw [t_lt _ _ _ HV.out, hp.out, hq.out]; simp; have h := CC.out; omega) HB.out HC.out _).mono ?_
  rintro e wx ⟨rfl, rfl⟩
  go_wp2_with fail
  refine (wrap_as X a m hm.out HA.out _).mono ?_
  rintro e wx ⟨rfl, rfl⟩
  go_wp2_with fail
  refine (wrap_as X b p hp.out HB.out _).mono ?_
  rintro e wx ⟨rfl, rfl⟩
  go_wp2_with fail
  refine (works_any _).mono ?_
  rintro e wx ⟨rfl, rfl⟩
  go_wp2
  go_ret
  exact ⟨rfl, rfl⟩

set_option maxRecDepth 100000 in
set_option maxHeartbeats 1000000 in
theorem order_E (x a b c X m p q : Int) (H0 : Hid (0 ≤ x ∧ x ≤ 255)) (HX : Hid (1 + x % 3 = X)) (HV : Hid (X = 1 ∨ X = 2 ∨ X = 3)) (HA : Hid (In a)) (HB : Hid (In b)) (HC : Hid (In c)) (hm : Hid (wrp X a = m)) (hp : Hid (wrp X b = p)) (hq : Hid (wrp X c = q)) (w : World) (CC : Hid (m = p)) :
    Calls Try.prog 3 #[.int .u8 x, .int .i64 a, .int .i64 b, .int .i64 c] w fun e w' => e = .returned (.bool true) ∧ w = w' := by
  have hne : (m == p) = true := by have h := CC.out; simp; omega
  go_enter Try.func3, Try.ntmps3
  go_wp2_with fail
  refine (width_as x X HX.out H0.out.1 H0.out.2 _).mono ?_
  rintro e wx ⟨rfl, rfl⟩
  go_wp2_with fail
  refine (test_as 25 X a b false (by rw [t_lt _ _ _ HV.out, hm.out, hp.out]; simp; have h := CC.out; omega) HA.out HB.out _).mono ?_
  rintro e wx ⟨rfl, rfl⟩
  go_wp2_with fail
  refine (test_as 23 X a b true (by rw [t_eq _ _ _ HV.out, hm.out, hp.out]; simp; have h := CC.out; omega) HA.out HB.out _).mono ?_
  rintro e wx ⟨rfl, rfl⟩
  go_wp2_with fail
  refine (test_as 27 X a b false (by rw [t_gt _ _ _ HV.out, hm.out, hp.out]; simp; have h := CC.out; omega) HA.out HB.out _).mono ?_
  rintro e wx ⟨rfl, rfl⟩
  go_wp2_with fail
  refine (test_as 24 X a b false (by rw [t_ne _ _ _ HV.out, hm.out, hp.out]; simp; have h := CC.out; omega) HA.out HB.out _).mono ?_
  rintro e wx ⟨rfl, rfl⟩
  go_wp2_with fail
  refine (test_as 26 X a b true (by rw [t_le _ _ _ HV.out, hm.out, hp.out]; simp; have h := CC.out; omega) HA.out HB.out _).mono ?_
  rintro e wx ⟨rfl, rfl⟩
  go_wp2_with fail
  refine (test_as 28 X a b true (by rw [t_ge _ _ _ HV.out, hm.out, hp.out]; simp; have h := CC.out; omega) HA.out HB.out _).mono ?_
  rintro e wx ⟨rfl, rfl⟩
  go_wp2_with fail
  refine (test_as 27 X b a false (by rw [t_gt _ _ _ HV.out, hp.out, hm.out]; simp; have h := CC.out; omega) HB.out HA.out _).mono ?_
  rintro e wx ⟨rfl, rfl⟩
  go_wp2_with fail
  refine (wrap_as X a m hm.out HA.out _).mono ?_
  rintro e wx ⟨rfl, rfl⟩
  go_wp2_with fail
  refine (wrap_as X b p hp.out HB.out _).mono ?_
  rintro e wx ⟨rfl, rfl⟩
  go_wp2_with fail
  refine (works_any _).mono ?_
  rintro e wx ⟨rfl, rfl⟩
  go_wp2
  go_ret
  exact ⟨rfl, rfl⟩

set_option maxRecDepth 100000 in
set_option maxHeartbeats 1000000 in
theorem order_G (x a b c X m p q : Int) (H0 : Hid (0 ≤ x ∧ x ≤ 255)) (HX : Hid (1 + x % 3 = X)) (HV : Hid (X = 1 ∨ X = 2 ∨ X = 3)) (HA : Hid (In a)) (HB : Hid (In b)) (HC : Hid (In c)) (hm : Hid (wrp X a = m)) (hp : Hid (wrp X b = p)) (hq : Hid (wrp X c = q)) (w : World) (CC : Hid (p < m)) :
    Calls Try.prog 3 #[.int .u8 x, .int .i64 a, .int .i64 b, .int .i64 c] w fun e w' => e = .returned (.bool true) ∧ w = w' := by
  have hne : (m == p) = false := by have h := CC.out; simp; omega
  go_enter Try.func3, Try.ntmps3
  go_wp2_with fail
  refine (width_as x X HX.out H0.out.1 H0.out.2 _).mono ?_
  rintro e wx ⟨rfl, rfl⟩
  go_wp2_with fail
  refine (test_as 25 X a b false (by rw [t_lt _ _ _ HV.out, hm.out, hp.out]; simp; have h := CC.out; omega) HA.out HB.out _).mono ?_
  rintro e wx ⟨rfl, rfl⟩
  go_wp2_with fail
  refine (test_as 23 X a b false (by rw [t_eq _ _ _ HV.out, hm.out, hp.out]; simp; have h := CC.out; omega) HA.out HB.out _).mono ?_
  rintro e wx ⟨rfl, rfl⟩
  go_wp2_with fail
  refine (test_as 27 X a b true (by rw [t_gt _ _ _ HV.out, hm.out, hp.out]; simp; have h := CC.out; omega) HA.out HB.out _).mono ?_
  rintro e wx ⟨rfl, rfl⟩
  go_wp2_with fail
  refine (test_as 24 X a b true (by rw [t_ne _ _ _ HV.out, hm.out, hp.out]; simp; have h := CC.out; omega) HA.out HB.out _).mono ?_
  rintro e wx ⟨rfl, rfl⟩
  go_wp2_with fail
  refine (test_as 26 X a b false (by rw [t_le _ _ _ HV.out, hm.out, hp.out]; simp; have h := CC.out; omega) HA.out HB.out _).mono ?_
  rintro e wx ⟨rfl, rfl⟩
  go_wp2_with fail
  refine (test_as 28 X a b true (by rw [t_ge _ _ _ HV.out, hm.out, hp.out]; simp; have h := CC.out; omega) HA.out HB.out _).mono ?_
  rintro e wx ⟨rfl, rfl⟩
  go_wp2_with fail
  refine (test_as 27 X b a false (by rw [t_gt _ _ _ HV.out, hp.out, hm.out]; simp; have h := CC.out; omega) HB.out HA.out _).mono ?_
  rintro e wx ⟨rfl, rfl⟩
  go_wp2_with fail
  refine (wrap_as X a m hm.out HA.out _).mono ?_
  rintro e wx ⟨rfl, rfl⟩
  go_wp2_with fail
  refine (wrap_as X b p hp.out HB.out _).mono ?_
  rintro e wx ⟨rfl, rfl⟩
  go_wp2_with fail
  refine (works_any _).mono ?_
  rintro e wx ⟨rfl, rfl⟩
  go_wp2
  go_ret
  exact ⟨rfl, rfl⟩

theorem wordOrder_calls (x a b c : Int) (h0 : 0 ≤ x) (h255 : x ≤ 255) (ha : In a) (hb : In b) (hc : In c) (w : World) :
    Calls Try.prog 3 #[.int .u8 x, .int .i64 a, .int .i64 b, .int .i64 c] w fun e w' => e = .returned (.bool true) ∧ w = w' := by
  obtain ⟨X, hX⟩ : ∃ X, 1 + x % 3 = X := ⟨_, rfl⟩
  have HV : X = 1 ∨ X = 2 ∨ X = 3 := by omega
  by_cases h1 : wrp X a < wrp X b
  · by_cases h2 : wrp X b < wrp X c
    · exact order_LL x a b c X _ _ _ ⟨h0, h255⟩ hX HV ha hb hc rfl rfl rfl w ⟨h1, h2⟩
    · exact order_LN x a b c X _ _ _ ⟨h0, h255⟩ hX HV ha hb hc rfl rfl rfl w ⟨h1, h2⟩
  · by_cases h2 : wrp X a = wrp X b
    · exact order_E x a b c X _ _ _ ⟨h0, h255⟩ hX HV ha hb hc rfl rfl rfl w h2
    · exact order_G x a b c X _ _ _ ⟨h0, h255⟩ hX HV ha hb hc rfl rfl rfl w (by unfold Hid; omega)
end Go.Proofs.Ytnfglmfioifciab
