/-
  THE WALK of WordParts.
-/
import Derived.Test.YtnfglmfioifciaaDo
import Derived.Test.YtnfglmfioifciaaPartsMath
namespace Go.Proofs.Ytnfglmfioifciaa
open Go.RowKit
set_option linter.unusedVariables false

set_option maxRecDepth 100000 in
set_option maxHeartbeats 1000000 in
theorem parts_zero (x a b X : Int) (H0 : Hid (0 ≤ x ∧ x ≤ 255)) (HX : Hid (1 + x % 3 = X)) (HV : Hid (X = 1 ∨ X = 2 ∨ X = 3)) (HA : Hid (In a)) (HB : Hid (In b)) (w : World) (hz : Hid (wrp X b = 0)) :
    Calls Try.prog 6 #[.int .u8 x, .int .i64 a, .int .i64 b] w fun e w' => e = .returned (.bool true) ∧ w = w' := by
  obtain ⟨m, hm⟩ : ∃ m, Hid (wrp X a = m) := ⟨_, rfl⟩
  go_enter Try.func6, Try.ntmps6
  go_wp2_with fail
  refine (width_as x X HX.out H0.out.1 H0.out.2 _).mono ?_
  rintro e wx ⟨rfl, rfl⟩
  go_wp2_with fail
  refine (wrap_as X a m hm.out HA.out _).mono ?_
  rintro e wx ⟨rfl, rfl⟩
  go_wp2_with fail
  refine (wrap_as X b 0 hz.out HB.out _).mono ?_
  rintro e wx ⟨rfl, rfl⟩
  go_wp2_with fail
  refine (two_as 14 X a b 0 1 (div_zero' _ _ _ hz.out) (trap_zero' _ _ _ HV.out (.inl rfl) hz.out) HA.out HB.out _).mono ?_
  rintro e wx ⟨rfl, rfl⟩
  go_wp2_with fail
  refine (two_as 15 X a b 0 1 (rem_zero' _ _ _ hz.out) (trap_zero' _ _ _ HV.out (.inr rfl) hz.out) HA.out HB.out _).mono ?_
  rintro e wx ⟨rfl, rfl⟩
  go_wp2_with fail
  refine (works_any _).mono ?_
  rintro e wx ⟨rfl, rfl⟩
  go_wp2
  go_ret
  exact ⟨rfl, rfl⟩

set_option maxRecDepth 100000 in
set_option maxHeartbeats 1000000 in
theorem parts_A (x a b X : Int) (H0 : Hid (0 ≤ x ∧ x ≤ 255)) (HX : Hid (1 + x % 3 = X)) (HV : Hid (X = 1 ∨ X = 2 ∨ X = 3)) (HA : Hid (In a)) (HB : Hid (In b)) (w : World) (m y q r : Int) (hm : Hid (wrp X a = m)) (hy : Hid (wrp X b = y)) (hq : Hid (two 14 X a b = q)) (hr : Hid (two 15 X a b = r)) (hn : Hid (¬ wrp X b = 0)) (Iy : Hid (In y)) (Iq : Hid (In q)) (Ir : Hid (In r))
    (cy : y < 0) (cr : r = 0) (hr1 : y < r) (hr2 : y < -r) :
    Calls Try.prog 6 #[.int .u8 x, .int .i64 a, .int .i64 b] w fun e w' => e = .returned (.bool true) ∧ w = w' := by
  obtain ⟨p, hp, Ip⟩ : ∃ p, Hid (two 13 X q b = p) ∧ Hid (In p) := ⟨_, rfl, two_in _ _ _ _⟩
  have hs : Hid (two 11 X p r = m) := by unfold Hid; rw [← hp.out, ← hq.out, ← hr.out, parts' _ _ _ hn.out, hm.out]
  have y0 : (y == 0) = false := by simp; omega
  have r1 : -9223372036854775807 ≤ r := by have h1 := Iy.out.out; omega
  have r2 : r ≤ 9223372036854775807 := by have h1 := Iy.out.out; omega
  subst cr
  go_enter Try.func6, Try.ntmps6
  go_wp2_with fail
  refine (width_as x X HX.out H0.out.1 H0.out.2 _).mono ?_
  rintro e wx ⟨rfl, rfl⟩
  go_wp2_with fail
  refine (wrap_as X a m hm.out HA.out _).mono ?_
  rintro e wx ⟨rfl, rfl⟩
  go_wp2_with fail
  refine (wrap_as X b y hy.out HB.out _).mono ?_
  rintro e wx ⟨rfl, rfl⟩
  go_wp2_with fail
  refine (two_as 14 X a b q 0 hq.out (trap_by' _ _ _ hn.out) HA.out HB.out _).mono ?_
  rintro e wx ⟨rfl, rfl⟩
  go_wp2_with fail
  refine (two_as 15 X a b 0 0 hr.out (trap_by' _ _ _ hn.out) HA.out HB.out _).mono ?_
  rintro e wx ⟨rfl, rfl⟩
  go_wp2_with fail
  refine (do_as 13 X q b p hp.out Iq.out HB.out _).mono ?_
  rintro e wx ⟨rfl, rfl⟩
  go_wp2_with fail
  refine (do_as 11 X p 0 m hs.out Ip.out Ir.out _).mono ?_
  rintro e wx ⟨rfl, rfl⟩
  go_wp2_with fail
  refine (works_any _).mono ?_
  rintro e wx ⟨rfl, rfl⟩
  go_wp2
  go_ret
  exact ⟨rfl, rfl⟩

set_option maxRecDepth 100000 in
set_option maxHeartbeats 1000000 in
theorem parts_B (x a b X : Int) (H0 : Hid (0 ≤ x ∧ x ≤ 255)) (HX : Hid (1 + x % 3 = X)) (HV : Hid (X = 1 ∨ X = 2 ∨ X = 3)) (HA : Hid (In a)) (HB : Hid (In b)) (w : World) (m y q r : Int) (hm : Hid (wrp X a = m)) (hy : Hid (wrp X b = y)) (hq : Hid (two 14 X a b = q)) (hr : Hid (two 15 X a b = r)) (hn : Hid (¬ wrp X b = 0)) (Iy : Hid (In y)) (Iq : Hid (In q)) (Ir : Hid (In r))
    (cy : y < 0) (cr : r < 0) (cm : m < 0) (hr1 : y < r) (hr2 : y < -r) :
    Calls Try.prog 6 #[.int .u8 x, .int .i64 a, .int .i64 b] w fun e w' => e = .returned (.bool true) ∧ w = w' := by
  obtain ⟨p, hp, Ip⟩ : ∃ p, Hid (two 13 X q b = p) ∧ Hid (In p) := ⟨_, rfl, two_in _ _ _ _⟩
  have hs : Hid (two 11 X p r = m) := by unfold Hid; rw [← hp.out, ← hq.out, ← hr.out, parts' _ _ _ hn.out, hm.out]
  have y0 : (y == 0) = false := by simp; omega
  have r1 : -9223372036854775807 ≤ r := by have h1 := Iy.out.out; omega
  have r2 : r ≤ 9223372036854775807 := by have h1 := Iy.out.out; omega
  have r0 : (r == 0) = false := by simp; omega
  go_enter Try.func6, Try.ntmps6
  go_wp2_with fail
  refine (width_as x X HX.out H0.out.1 H0.out.2 _).mono ?_
  rintro e wx ⟨rfl, rfl⟩
  go_wp2_with fail
  refine (wrap_as X a m hm.out HA.out _).mono ?_
  rintro e wx ⟨rfl, rfl⟩
  go_wp2_with fail
  refine (wrap_as X b y hy.out HB.out _).mono ?_
  rintro e wx ⟨rfl, rfl⟩
  go_wp2_with fail
  refine (two_as 14 X a b q 0 hq.out (trap_by' _ _ _ hn.out) HA.out HB.out _).mono ?_
  rintro e wx ⟨rfl, rfl⟩
  go_wp2_with fail
  refine (two_as 15 X a b r 0 hr.out (trap_by' _ _ _ hn.out) HA.out HB.out _).mono ?_
  rintro e wx ⟨rfl, rfl⟩
  go_wp2_with fail
  refine (do_as 13 X q b p hp.out Iq.out HB.out _).mono ?_
  rintro e wx ⟨rfl, rfl⟩
  go_wp2_with fail
  refine (do_as 11 X p r m hs.out Ip.out Ir.out _).mono ?_
  rintro e wx ⟨rfl, rfl⟩
  go_wp2_with fail
  refine (works_any _).mono ?_
  rintro e wx ⟨rfl, rfl⟩
  go_wp2
  go_ret
  exact ⟨rfl, rfl⟩

set_option maxRecDepth 100000 in
set_option maxHeartbeats 1000000 in
theorem parts_C (x a b X : Int) (H0 : Hid (0 ≤ x ∧ x ≤ 255)) (HX : Hid (1 + x % 3 = X)) (HV : Hid (X = 1 ∨ X = 2 ∨ X = 3)) (HA : Hid (In a)) (HB : Hid (In b)) (w : World) (m y q r : Int) (hm : Hid (wrp X a = m)) (hy : Hid (wrp X b = y)) (hq : Hid (two 14 X a b = q)) (hr : Hid (two 15 X a b = r)) (hn : Hid (¬ wrp X b = 0)) (Iy : Hid (In y)) (Iq : Hid (In q)) (Ir : Hid (In r))
    (cy : y < 0) (cr : 0 < r) (cm : ¬ m < 0) (hr1 : y < r) (hr2 : y < -r) :
    Calls Try.prog 6 #[.int .u8 x, .int .i64 a, .int .i64 b] w fun e w' => e = .returned (.bool true) ∧ w = w' := by
  obtain ⟨p, hp, Ip⟩ : ∃ p, Hid (two 13 X q b = p) ∧ Hid (In p) := ⟨_, rfl, two_in _ _ _ _⟩
  have hs : Hid (two 11 X p r = m) := by unfold Hid; rw [← hp.out, ← hq.out, ← hr.out, parts' _ _ _ hn.out, hm.out]
  have y0 : (y == 0) = false := by simp; omega
  have r1 : -9223372036854775807 ≤ r := by have h1 := Iy.out.out; omega
  have r2 : r ≤ 9223372036854775807 := by have h1 := Iy.out.out; omega
  have r0 : (r == 0) = false := by simp; omega
  have rn : ¬ r < 0 := by omega
  go_enter Try.func6, Try.ntmps6
  go_wp2_with fail
  refine (width_as x X HX.out H0.out.1 H0.out.2 _).mono ?_
  rintro e wx ⟨rfl, rfl⟩
  go_wp2_with fail
  refine (wrap_as X a m hm.out HA.out _).mono ?_
  rintro e wx ⟨rfl, rfl⟩
  go_wp2_with fail
  refine (wrap_as X b y hy.out HB.out _).mono ?_
  rintro e wx ⟨rfl, rfl⟩
  go_wp2_with fail
  refine (two_as 14 X a b q 0 hq.out (trap_by' _ _ _ hn.out) HA.out HB.out _).mono ?_
  rintro e wx ⟨rfl, rfl⟩
  go_wp2_with fail
  refine (two_as 15 X a b r 0 hr.out (trap_by' _ _ _ hn.out) HA.out HB.out _).mono ?_
  rintro e wx ⟨rfl, rfl⟩
  go_wp2_with fail
  refine (do_as 13 X q b p hp.out Iq.out HB.out _).mono ?_
  rintro e wx ⟨rfl, rfl⟩
  go_wp2_with fail
  refine (do_as 11 X p r m hs.out Ip.out Ir.out _).mono ?_
  rintro e wx ⟨rfl, rfl⟩
  go_wp2_with fail
  refine (works_any _).mono ?_
  rintro e wx ⟨rfl, rfl⟩
  go_wp2
  go_ret
  exact ⟨rfl, rfl⟩

set_option maxRecDepth 100000 in
set_option maxHeartbeats 1000000 in
theorem parts_D (x a b X : Int) (H0 : Hid (0 ≤ x ∧ x ≤ 255)) (HX : Hid (1 + x % 3 = X)) (HV : Hid (X = 1 ∨ X = 2 ∨ X = 3)) (HA : Hid (In a)) (HB : Hid (In b)) (w : World) (m y q r : Int) (hm : Hid (wrp X a = m)) (hy : Hid (wrp X b = y)) (hq : Hid (two 14 X a b = q)) (hr : Hid (two 15 X a b = r)) (hn : Hid (¬ wrp X b = 0)) (Iy : Hid (In y)) (Iq : Hid (In q)) (Ir : Hid (In r))
    (cy : 0 < y) (cr : r = 0) (hr1 : r < y) (hr2 : -r < y) :
    Calls Try.prog 6 #[.int .u8 x, .int .i64 a, .int .i64 b] w fun e w' => e = .returned (.bool true) ∧ w = w' := by
  obtain ⟨p, hp, Ip⟩ : ∃ p, Hid (two 13 X q b = p) ∧ Hid (In p) := ⟨_, rfl, two_in _ _ _ _⟩
  have hs : Hid (two 11 X p r = m) := by unfold Hid; rw [← hp.out, ← hq.out, ← hr.out, parts' _ _ _ hn.out, hm.out]
  have y0 : (y == 0) = false := by simp; omega
  have r1 : -9223372036854775807 ≤ r := by have h1 := Iy.out.out; omega
  have r2 : r ≤ 9223372036854775807 := by have h1 := Iy.out.out; omega
  subst cr
  have yn : ¬ y < 0 := by omega
  go_enter Try.func6, Try.ntmps6
  go_wp2_with fail
  refine (width_as x X HX.out H0.out.1 H0.out.2 _).mono ?_
  rintro e wx ⟨rfl, rfl⟩
  go_wp2_with fail
  refine (wrap_as X a m hm.out HA.out _).mono ?_
  rintro e wx ⟨rfl, rfl⟩
  go_wp2_with fail
  refine (wrap_as X b y hy.out HB.out _).mono ?_
  rintro e wx ⟨rfl, rfl⟩
  go_wp2_with fail
  refine (two_as 14 X a b q 0 hq.out (trap_by' _ _ _ hn.out) HA.out HB.out _).mono ?_
  rintro e wx ⟨rfl, rfl⟩
  go_wp2_with fail
  refine (two_as 15 X a b 0 0 hr.out (trap_by' _ _ _ hn.out) HA.out HB.out _).mono ?_
  rintro e wx ⟨rfl, rfl⟩
  go_wp2_with fail
  refine (do_as 13 X q b p hp.out Iq.out HB.out _).mono ?_
  rintro e wx ⟨rfl, rfl⟩
  go_wp2_with fail
  refine (do_as 11 X p 0 m hs.out Ip.out Ir.out _).mono ?_
  rintro e wx ⟨rfl, rfl⟩
  go_wp2_with fail
  refine (works_any _).mono ?_
  rintro e wx ⟨rfl, rfl⟩
  go_wp2
  go_ret
  exact ⟨rfl, rfl⟩

set_option maxRecDepth 100000 in
set_option maxHeartbeats 1000000 in
theorem parts_E (x a b X : Int) (H0 : Hid (0 ≤ x ∧ x ≤ 255)) (HX : Hid (1 + x % 3 = X)) (HV : Hid (X = 1 ∨ X = 2 ∨ X = 3)) (HA : Hid (In a)) (HB : Hid (In b)) (w : World) (m y q r : Int) (hm : Hid (wrp X a = m)) (hy : Hid (wrp X b = y)) (hq : Hid (two 14 X a b = q)) (hr : Hid (two 15 X a b = r)) (hn : Hid (¬ wrp X b = 0)) (Iy : Hid (In y)) (Iq : Hid (In q)) (Ir : Hid (In r))
    (cy : 0 < y) (cr : r < 0) (cm : m < 0) (hr1 : r < y) (hr2 : -r < y) :
    Calls Try.prog 6 #[.int .u8 x, .int .i64 a, .int .i64 b] w fun e w' => e = .returned (.bool true) ∧ w = w' := by
  obtain ⟨p, hp, Ip⟩ : ∃ p, Hid (two 13 X q b = p) ∧ Hid (In p) := ⟨_, rfl, two_in _ _ _ _⟩
  have hs : Hid (two 11 X p r = m) := by unfold Hid; rw [← hp.out, ← hq.out, ← hr.out, parts' _ _ _ hn.out, hm.out]
  have y0 : (y == 0) = false := by simp; omega
  have r1 : -9223372036854775807 ≤ r := by have h1 := Iy.out.out; omega
  have r2 : r ≤ 9223372036854775807 := by have h1 := Iy.out.out; omega
  have r0 : (r == 0) = false := by simp; omega
  have yn : ¬ y < 0 := by omega
  go_enter Try.func6, Try.ntmps6
  go_wp2_with fail
  refine (width_as x X HX.out H0.out.1 H0.out.2 _).mono ?_
  rintro e wx ⟨rfl, rfl⟩
  go_wp2_with fail
  refine (wrap_as X a m hm.out HA.out _).mono ?_
  rintro e wx ⟨rfl, rfl⟩
  go_wp2_with fail
  refine (wrap_as X b y hy.out HB.out _).mono ?_
  rintro e wx ⟨rfl, rfl⟩
  go_wp2_with fail
  refine (two_as 14 X a b q 0 hq.out (trap_by' _ _ _ hn.out) HA.out HB.out _).mono ?_
  rintro e wx ⟨rfl, rfl⟩
  go_wp2_with fail
  refine (two_as 15 X a b r 0 hr.out (trap_by' _ _ _ hn.out) HA.out HB.out _).mono ?_
  rintro e wx ⟨rfl, rfl⟩
  go_wp2_with fail
  refine (do_as 13 X q b p hp.out Iq.out HB.out _).mono ?_
  rintro e wx ⟨rfl, rfl⟩
  go_wp2_with fail
  refine (do_as 11 X p r m hs.out Ip.out Ir.out _).mono ?_
  rintro e wx ⟨rfl, rfl⟩
  go_wp2_with fail
  refine (works_any _).mono ?_
  rintro e wx ⟨rfl, rfl⟩
  go_wp2
  go_ret
  exact ⟨rfl, rfl⟩

set_option maxRecDepth 100000 in
set_option maxHeartbeats 1000000 in
theorem parts_F (x a b X : Int) (H0 : Hid (0 ≤ x ∧ x ≤ 255)) (HX : Hid (1 + x % 3 = X)) (HV : Hid (X = 1 ∨ X = 2 ∨ X = 3)) (HA : Hid (In a)) (HB : Hid (In b)) (w : World) (m y q r : Int) (hm : Hid (wrp X a = m)) (hy : Hid (wrp X b = y)) (hq : Hid (two 14 X a b = q)) (hr : Hid (two 15 X a b = r)) (hn : Hid (¬ wrp X b = 0)) (Iy : Hid (In y)) (Iq : Hid (In q)) (Ir : Hid (In r))
    (cy : 0 < y) (cr : 0 < r) (cm : ¬ m < 0) (hr1 : r < y) (hr2 : -r < y) :
    Calls Try.prog 6 #[.int .u8 x, .int .i64 a, .int .i64 b] w fun e w' => e = .returned (.bool true) ∧ w = w' := by
  obtain ⟨p, hp, Ip⟩ : ∃ p, Hid (two 13 X q b = p) ∧ Hid (In p) := ⟨_, rfl, two_in _ _ _ _⟩
  have hs : Hid (two 11 X p r = m) := by unfold Hid; rw [← hp.out, ← hq.out, ← hr.out, parts' _ _ _ hn.out, hm.out]
  have y0 : (y == 0) = false := by simp; omega
  have r1 : -9223372036854775807 ≤ r := by have h1 := Iy.out.out; omega
  have r2 : r ≤ 9223372036854775807 := by have h1 := Iy.out.out; omega
  have r0 : (r == 0) = false := by simp; omega
  have rn : ¬ r < 0 := by omega
  have yn : ¬ y < 0 := by omega
  go_enter Try.func6, Try.ntmps6
  go_wp2_with fail
  refine (width_as x X HX.out H0.out.1 H0.out.2 _).mono ?_
  rintro e wx ⟨rfl, rfl⟩
  go_wp2_with fail
  refine (wrap_as X a m hm.out HA.out _).mono ?_
  rintro e wx ⟨rfl, rfl⟩
  go_wp2_with fail
  refine (wrap_as X b y hy.out HB.out _).mono ?_
  rintro e wx ⟨rfl, rfl⟩
  go_wp2_with fail
  refine (two_as 14 X a b q 0 hq.out (trap_by' _ _ _ hn.out) HA.out HB.out _).mono ?_
  rintro e wx ⟨rfl, rfl⟩
  go_wp2_with fail
  refine (two_as 15 X a b r 0 hr.out (trap_by' _ _ _ hn.out) HA.out HB.out _).mono ?_
  rintro e wx ⟨rfl, rfl⟩
  go_wp2_with fail
  refine (do_as 13 X q b p hp.out Iq.out HB.out _).mono ?_
  rintro e wx ⟨rfl, rfl⟩
  go_wp2_with fail
  refine (do_as 11 X p r m hs.out Ip.out Ir.out _).mono ?_
  rintro e wx ⟨rfl, rfl⟩
  go_wp2_with fail
  refine (works_any _).mono ?_
  rintro e wx ⟨rfl, rfl⟩
  go_wp2
  go_ret
  exact ⟨rfl, rfl⟩

theorem wordParts_calls (x a b : Int) (h0 : 0 ≤ x) (h255 : x ≤ 255) (ha : In a) (hb : In b) (w : World) :
    Calls Try.prog 6 #[.int .u8 x, .int .i64 a, .int .i64 b] w fun e w' => e = .returned (.bool true) ∧ w = w' := by
  obtain ⟨X, hX⟩ : ∃ X, 1 + x % 3 = X := ⟨_, rfl⟩
  have HV : X = 1 ∨ X = 2 ∨ X = 3 := by omega
  by_cases hz : wrp X b = 0
  · exact parts_zero x a b X ⟨h0, h255⟩ hX HV ha hb w hz
  have hi := rem_is X a b hz
  have h1 := tmod_near (wrp X a) (wrp X b)
  have h2 := tmod_sign (wrp X a) (wrp X b)
  rw [← hi] at h1 h2
  have iy := wrp_in X b
  have iq := two_in 14 X a b
  have ir := two_in 15 X a b
  by_cases cy : wrp X b < 0
  · have h3 := h1.2 cy
    by_cases cr : two 15 X a b = 0
    · exact parts_A x a b X ⟨h0, h255⟩ hX HV ha hb w _ _ _ _ rfl rfl rfl rfl hz iy iq ir cy cr h3.1 h3.2
    · by_cases cm : wrp X a < 0
      · exact parts_B x a b X ⟨h0, h255⟩ hX HV ha hb w _ _ _ _ rfl rfl rfl rfl hz iy iq ir cy (by have := h2.2 cm; omega) cm h3.1 h3.2
      · exact parts_C x a b X ⟨h0, h255⟩ hX HV ha hb w _ _ _ _ rfl rfl rfl rfl hz iy iq ir cy (by have := h2.1 (by omega); omega) cm h3.1 h3.2
  · have cy' : 0 < wrp X b := by omega
    have h3 := h1.1 cy'
    by_cases cr : two 15 X a b = 0
    · exact parts_D x a b X ⟨h0, h255⟩ hX HV ha hb w _ _ _ _ rfl rfl rfl rfl hz iy iq ir cy' cr h3.1 h3.2
    · by_cases cm : wrp X a < 0
      · exact parts_E x a b X ⟨h0, h255⟩ hX HV ha hb w _ _ _ _ rfl rfl rfl rfl hz iy iq ir cy' (by have := h2.2 cm; omega) cm h3.1 h3.2
      · exact parts_F x a b X ⟨h0, h255⟩ hX HV ha hb w _ _ _ _ rfl rfl rfl rfl hz iy iq ir cy' (by have := h2.1 (by omega); omega) cm h3.1 h3.2
end Go.Proofs.Ytnfglmfioifciaa
