/-
  THE WALK of WordNarrow.
-/
import Derived.Test.YtnfglmfioifciaaDo
import Derived.Test.YtnfglmfioifciaaNarrowMath
import Derived.Below
namespace Go.Proofs.Ytnfglmfioifciaa
open Go.RowKit
set_option linter.unusedVariables false

set_option maxRecDepth 100000 in
set_option maxHeartbeats 1000000 in
theorem narrow_0 (x a b : Int) (x0 : 0 ≤ x) (x255 : x ≤ 255) (hx : x.tmod 6 = 0) (HA : Hid (In a)) (HB : Hid (In b)) (w : World) :
    Calls Try.prog 8 #[.int .u8 x, .int .i64 a, .int .i64 b] w fun e w' => e = .returned (.bool true) ∧ Below w.heap.size w w' := by
  obtain ⟨p, hp, Ip⟩ : ∃ p, Hid (two 11 3 a b = p) ∧ Hid (In p) := ⟨_, rfl, two_in _ _ _ _⟩
  obtain ⟨m, hm, Im⟩ : ∃ m, Hid (two 11 2 a b = m) ∧ Hid (In m) := ⟨_, rfl, two_in _ _ _ _⟩
  obtain ⟨s, hs, Is⟩ : ∃ s, Hid (two 11 1 a b = s) ∧ Hid (In s) := ⟨_, rfl, two_in _ _ _ _⟩
  obtain ⟨g, hg, Ig⟩ : ∃ g, Hid (one 21 3 a = g) ∧ Hid (In g) := ⟨_, rfl, one_in _ _ _⟩
  obtain ⟨t, ht, It⟩ : ∃ t, Hid (one 22 3 a = t) ∧ Hid (In t) := ⟨_, rfl, one_in _ _ _⟩
  obtain ⟨g1, hg1⟩ : ∃ g, Hid (one 21 1 a = g) := ⟨_, rfl⟩
  obtain ⟨t2, ht2⟩ : ∃ t, Hid (one 22 2 a = t) := ⟨_, rfl⟩
  have c1 : Hid (wrp 2 p = m) := by unfold Hid; rw [← hp.out, ← hm.out]; exact narrow_two _ _ _ _ _ (by omega) (by decide)
  have c2 : Hid (wrp 1 p = s) := by unfold Hid; rw [← hp.out, ← hs.out]; exact narrow_two _ _ _ _ _ (by omega) (by decide)
  have c3 : Hid (wrp 1 m = s) := by unfold Hid; rw [← hm.out, ← hs.out]; exact narrow_two _ _ _ _ _ (by omega) (by decide)
  have c4 : Hid (wrp 1 g = g1) := by unfold Hid; rw [← hg.out, ← hg1.out]; exact narrow_neg _ _ _ (by decide)
  have c5 : Hid (wrp 2 t = t2) := by unfold Hid; rw [← ht.out, ← ht2.out]; exact narrow_not _ _ _ (by decide)
  go_enter Try.func8, Try.ntmps8
  go_wp2_with fail
  refine (do_as 11 3 a b p hp.out HA.out HB.out _).mono ?_
  rintro e wx ⟨rfl, rfl⟩
  go_wp2_with fail
  refine (do_as 11 2 a b m hm.out HA.out HB.out _).mono ?_
  rintro e wx ⟨rfl, rfl⟩
  go_wp2_with fail
  refine (one_as 21 3 a g hg.out HA.out _).mono ?_
  rintro e wx ⟨rfl, rfl⟩
  go_wp2_with fail
  refine (one_as 22 3 a t ht.out HA.out _).mono ?_
  rintro e wx ⟨rfl, rfl⟩
  go_wp2_with fail
  refine (wrap_as 2 p m c1.out Ip.out _).mono ?_
  rintro e wx ⟨rfl, rfl⟩
  go_wp2_with fail
  refine (do_as 11 1 a b s hs.out HA.out HB.out _).mono ?_
  rintro e wx ⟨rfl, rfl⟩
  go_wp2_with fail
  refine (wrap_as 1 p s c2.out Ip.out _).mono ?_
  rintro e wx ⟨rfl, rfl⟩
  go_wp2_with fail
  refine (do_as 11 1 a b s hs.out HA.out HB.out _).mono ?_
  rintro e wx ⟨rfl, rfl⟩
  go_wp2_with fail
  refine (wrap_as 1 m s c3.out Im.out _).mono ?_
  rintro e wx ⟨rfl, rfl⟩
  go_wp2_with fail
  refine (one_as 21 1 a g1 hg1.out HA.out _).mono ?_
  rintro e wx ⟨rfl, rfl⟩
  go_wp2_with fail
  refine (wrap_as 1 g g1 c4.out Ig.out _).mono ?_
  rintro e wx ⟨rfl, rfl⟩
  go_wp2_with fail
  refine (one_as 22 2 a t2 ht2.out HA.out _).mono ?_
  rintro e wx ⟨rfl, rfl⟩
  go_wp2_with fail
  refine (wrap_as 2 t t2 c5.out It.out _).mono ?_
  rintro e wx ⟨rfl, rfl⟩
  go_wp2_with fail
  refine (works_any _).mono ?_
  rintro e wx ⟨rfl, rfl⟩
  go_wp2
  go_ret
  exact ⟨rfl, (Below.refl _ _).alloc (Nat.le_refl _) _⟩

set_option maxRecDepth 100000 in
set_option maxHeartbeats 1000000 in
theorem narrow_1 (x a b : Int) (x0 : 0 ≤ x) (x255 : x ≤ 255) (hx : x.tmod 6 = 1) (HA : Hid (In a)) (HB : Hid (In b)) (w : World) :
    Calls Try.prog 8 #[.int .u8 x, .int .i64 a, .int .i64 b] w fun e w' => e = .returned (.bool true) ∧ Below w.heap.size w w' := by
  obtain ⟨p, hp, Ip⟩ : ∃ p, Hid (two 12 3 a b = p) ∧ Hid (In p) := ⟨_, rfl, two_in _ _ _ _⟩
  obtain ⟨m, hm, Im⟩ : ∃ m, Hid (two 12 2 a b = m) ∧ Hid (In m) := ⟨_, rfl, two_in _ _ _ _⟩
  obtain ⟨s, hs, Is⟩ : ∃ s, Hid (two 12 1 a b = s) ∧ Hid (In s) := ⟨_, rfl, two_in _ _ _ _⟩
  obtain ⟨g, hg, Ig⟩ : ∃ g, Hid (one 21 3 a = g) ∧ Hid (In g) := ⟨_, rfl, one_in _ _ _⟩
  obtain ⟨t, ht, It⟩ : ∃ t, Hid (one 22 3 a = t) ∧ Hid (In t) := ⟨_, rfl, one_in _ _ _⟩
  obtain ⟨g1, hg1⟩ : ∃ g, Hid (one 21 1 a = g) := ⟨_, rfl⟩
  obtain ⟨t2, ht2⟩ : ∃ t, Hid (one 22 2 a = t) := ⟨_, rfl⟩
  have c1 : Hid (wrp 2 p = m) := by unfold Hid; rw [← hp.out, ← hm.out]; exact narrow_two _ _ _ _ _ (by omega) (by decide)
  have c2 : Hid (wrp 1 p = s) := by unfold Hid; rw [← hp.out, ← hs.out]; exact narrow_two _ _ _ _ _ (by omega) (by decide)
  have c3 : Hid (wrp 1 m = s) := by unfold Hid; rw [← hm.out, ← hs.out]; exact narrow_two _ _ _ _ _ (by omega) (by decide)
  have c4 : Hid (wrp 1 g = g1) := by unfold Hid; rw [← hg.out, ← hg1.out]; exact narrow_neg _ _ _ (by decide)
  have c5 : Hid (wrp 2 t = t2) := by unfold Hid; rw [← ht.out, ← ht2.out]; exact narrow_not _ _ _ (by decide)
  go_enter Try.func8, Try.ntmps8
  go_wp2_with fail
  refine (do_as 12 3 a b p hp.out HA.out HB.out _).mono ?_
  rintro e wx ⟨rfl, rfl⟩
  go_wp2_with fail
  refine (do_as 12 2 a b m hm.out HA.out HB.out _).mono ?_
  rintro e wx ⟨rfl, rfl⟩
  go_wp2_with fail
  refine (one_as 21 3 a g hg.out HA.out _).mono ?_
  rintro e wx ⟨rfl, rfl⟩
  go_wp2_with fail
  refine (one_as 22 3 a t ht.out HA.out _).mono ?_
  rintro e wx ⟨rfl, rfl⟩
  go_wp2_with fail
  refine (wrap_as 2 p m c1.out Ip.out _).mono ?_
  rintro e wx ⟨rfl, rfl⟩
  go_wp2_with fail
  refine (do_as 12 1 a b s hs.out HA.out HB.out _).mono ?_
  rintro e wx ⟨rfl, rfl⟩
  go_wp2_with fail
  refine (wrap_as 1 p s c2.out Ip.out _).mono ?_
  rintro e wx ⟨rfl, rfl⟩
  go_wp2_with fail
  refine (do_as 12 1 a b s hs.out HA.out HB.out _).mono ?_
  rintro e wx ⟨rfl, rfl⟩
  go_wp2_with fail
  refine (wrap_as 1 m s c3.out Im.out _).mono ?_
  rintro e wx ⟨rfl, rfl⟩
  go_wp2_with fail
  refine (one_as 21 1 a g1 hg1.out HA.out _).mono ?_
  rintro e wx ⟨rfl, rfl⟩
  go_wp2_with fail
  refine (wrap_as 1 g g1 c4.out Ig.out _).mono ?_
  rintro e wx ⟨rfl, rfl⟩
  go_wp2_with fail
  refine (one_as 22 2 a t2 ht2.out HA.out _).mono ?_
  rintro e wx ⟨rfl, rfl⟩
  go_wp2_with fail
  refine (wrap_as 2 t t2 c5.out It.out _).mono ?_
  rintro e wx ⟨rfl, rfl⟩
  go_wp2_with fail
  refine (works_any _).mono ?_
  rintro e wx ⟨rfl, rfl⟩
  go_wp2
  go_ret
  exact ⟨rfl, (Below.refl _ _).alloc (Nat.le_refl _) _⟩

set_option maxRecDepth 100000 in
set_option maxHeartbeats 1000000 in
theorem narrow_2 (x a b : Int) (x0 : 0 ≤ x) (x255 : x ≤ 255) (hx : x.tmod 6 = 2) (HA : Hid (In a)) (HB : Hid (In b)) (w : World) :
    Calls Try.prog 8 #[.int .u8 x, .int .i64 a, .int .i64 b] w fun e w' => e = .returned (.bool true) ∧ Below w.heap.size w w' := by
  obtain ⟨p, hp, Ip⟩ : ∃ p, Hid (two 13 3 a b = p) ∧ Hid (In p) := ⟨_, rfl, two_in _ _ _ _⟩
  obtain ⟨m, hm, Im⟩ : ∃ m, Hid (two 13 2 a b = m) ∧ Hid (In m) := ⟨_, rfl, two_in _ _ _ _⟩
  obtain ⟨s, hs, Is⟩ : ∃ s, Hid (two 13 1 a b = s) ∧ Hid (In s) := ⟨_, rfl, two_in _ _ _ _⟩
  obtain ⟨g, hg, Ig⟩ : ∃ g, Hid (one 21 3 a = g) ∧ Hid (In g) := ⟨_, rfl, one_in _ _ _⟩
  obtain ⟨t, ht, It⟩ : ∃ t, Hid (one 22 3 a = t) ∧ Hid (In t) := ⟨_, rfl, one_in _ _ _⟩
  obtain ⟨g1, hg1⟩ : ∃ g, Hid (one 21 1 a = g) := ⟨_, rfl⟩
  obtain ⟨t2, ht2⟩ : ∃ t, Hid (one 22 2 a = t) := ⟨_, rfl⟩
  have c1 : Hid (wrp 2 p = m) := by unfold Hid; rw [← hp.out, ← hm.out]; exact narrow_two _ _ _ _ _ (by omega) (by decide)
  have c2 : Hid (wrp 1 p = s) := by unfold Hid; rw [← hp.out, ← hs.out]; exact narrow_two _ _ _ _ _ (by omega) (by decide)
  have c3 : Hid (wrp 1 m = s) := by unfold Hid; rw [← hm.out, ← hs.out]; exact narrow_two _ _ _ _ _ (by omega) (by decide)
  have c4 : Hid (wrp 1 g = g1) := by unfold Hid; rw [← hg.out, ← hg1.out]; exact narrow_neg _ _ _ (by decide)
  have c5 : Hid (wrp 2 t = t2) := by unfold Hid; rw [← ht.out, ← ht2.out]; exact narrow_not _ _ _ (by decide)
  go_enter Try.func8, Try.ntmps8
  go_wp2_with fail
  refine (do_as 13 3 a b p hp.out HA.out HB.out _).mono ?_
  rintro e wx ⟨rfl, rfl⟩
  go_wp2_with fail
  refine (do_as 13 2 a b m hm.out HA.out HB.out _).mono ?_
  rintro e wx ⟨rfl, rfl⟩
  go_wp2_with fail
  refine (one_as 21 3 a g hg.out HA.out _).mono ?_
  rintro e wx ⟨rfl, rfl⟩
  go_wp2_with fail
  refine (one_as 22 3 a t ht.out HA.out _).mono ?_
  rintro e wx ⟨rfl, rfl⟩
  go_wp2_with fail
  refine (wrap_as 2 p m c1.out Ip.out _).mono ?_
  rintro e wx ⟨rfl, rfl⟩
  go_wp2_with fail
  refine (do_as 13 1 a b s hs.out HA.out HB.out _).mono ?_
  rintro e wx ⟨rfl, rfl⟩
  go_wp2_with fail
  refine (wrap_as 1 p s c2.out Ip.out _).mono ?_
  rintro e wx ⟨rfl, rfl⟩
  go_wp2_with fail
  refine (do_as 13 1 a b s hs.out HA.out HB.out _).mono ?_
  rintro e wx ⟨rfl, rfl⟩
  go_wp2_with fail
  refine (wrap_as 1 m s c3.out Im.out _).mono ?_
  rintro e wx ⟨rfl, rfl⟩
  go_wp2_with fail
  refine (one_as 21 1 a g1 hg1.out HA.out _).mono ?_
  rintro e wx ⟨rfl, rfl⟩
  go_wp2_with fail
  refine (wrap_as 1 g g1 c4.out Ig.out _).mono ?_
  rintro e wx ⟨rfl, rfl⟩
  go_wp2_with fail
  refine (one_as 22 2 a t2 ht2.out HA.out _).mono ?_
  rintro e wx ⟨rfl, rfl⟩
  go_wp2_with fail
  refine (wrap_as 2 t t2 c5.out It.out _).mono ?_
  rintro e wx ⟨rfl, rfl⟩
  go_wp2_with fail
  refine (works_any _).mono ?_
  rintro e wx ⟨rfl, rfl⟩
  go_wp2
  go_ret
  exact ⟨rfl, (Below.refl _ _).alloc (Nat.le_refl _) _⟩

set_option maxRecDepth 100000 in
set_option maxHeartbeats 1000000 in
theorem narrow_3 (x a b : Int) (x0 : 0 ≤ x) (x255 : x ≤ 255) (hx : x.tmod 6 = 3) (HA : Hid (In a)) (HB : Hid (In b)) (w : World) :
    Calls Try.prog 8 #[.int .u8 x, .int .i64 a, .int .i64 b] w fun e w' => e = .returned (.bool true) ∧ Below w.heap.size w w' := by
  obtain ⟨p, hp, Ip⟩ : ∃ p, Hid (two 16 3 a b = p) ∧ Hid (In p) := ⟨_, rfl, two_in _ _ _ _⟩
  obtain ⟨m, hm, Im⟩ : ∃ m, Hid (two 16 2 a b = m) ∧ Hid (In m) := ⟨_, rfl, two_in _ _ _ _⟩
  obtain ⟨s, hs, Is⟩ : ∃ s, Hid (two 16 1 a b = s) ∧ Hid (In s) := ⟨_, rfl, two_in _ _ _ _⟩
  obtain ⟨g, hg, Ig⟩ : ∃ g, Hid (one 21 3 a = g) ∧ Hid (In g) := ⟨_, rfl, one_in _ _ _⟩
  obtain ⟨t, ht, It⟩ : ∃ t, Hid (one 22 3 a = t) ∧ Hid (In t) := ⟨_, rfl, one_in _ _ _⟩
  obtain ⟨g1, hg1⟩ : ∃ g, Hid (one 21 1 a = g) := ⟨_, rfl⟩
  obtain ⟨t2, ht2⟩ : ∃ t, Hid (one 22 2 a = t) := ⟨_, rfl⟩
  have c1 : Hid (wrp 2 p = m) := by unfold Hid; rw [← hp.out, ← hm.out]; exact narrow_two _ _ _ _ _ (by omega) (by decide)
  have c2 : Hid (wrp 1 p = s) := by unfold Hid; rw [← hp.out, ← hs.out]; exact narrow_two _ _ _ _ _ (by omega) (by decide)
  have c3 : Hid (wrp 1 m = s) := by unfold Hid; rw [← hm.out, ← hs.out]; exact narrow_two _ _ _ _ _ (by omega) (by decide)
  have c4 : Hid (wrp 1 g = g1) := by unfold Hid; rw [← hg.out, ← hg1.out]; exact narrow_neg _ _ _ (by decide)
  have c5 : Hid (wrp 2 t = t2) := by unfold Hid; rw [← ht.out, ← ht2.out]; exact narrow_not _ _ _ (by decide)
  go_enter Try.func8, Try.ntmps8
  go_wp2_with fail
  refine (do_as 16 3 a b p hp.out HA.out HB.out _).mono ?_
  rintro e wx ⟨rfl, rfl⟩
  go_wp2_with fail
  refine (do_as 16 2 a b m hm.out HA.out HB.out _).mono ?_
  rintro e wx ⟨rfl, rfl⟩
  go_wp2_with fail
  refine (one_as 21 3 a g hg.out HA.out _).mono ?_
  rintro e wx ⟨rfl, rfl⟩
  go_wp2_with fail
  refine (one_as 22 3 a t ht.out HA.out _).mono ?_
  rintro e wx ⟨rfl, rfl⟩
  go_wp2_with fail
  refine (wrap_as 2 p m c1.out Ip.out _).mono ?_
  rintro e wx ⟨rfl, rfl⟩
  go_wp2_with fail
  refine (do_as 16 1 a b s hs.out HA.out HB.out _).mono ?_
  rintro e wx ⟨rfl, rfl⟩
  go_wp2_with fail
  refine (wrap_as 1 p s c2.out Ip.out _).mono ?_
  rintro e wx ⟨rfl, rfl⟩
  go_wp2_with fail
  refine (do_as 16 1 a b s hs.out HA.out HB.out _).mono ?_
  rintro e wx ⟨rfl, rfl⟩
  go_wp2_with fail
  refine (wrap_as 1 m s c3.out Im.out _).mono ?_
  rintro e wx ⟨rfl, rfl⟩
  go_wp2_with fail
  refine (one_as 21 1 a g1 hg1.out HA.out _).mono ?_
  rintro e wx ⟨rfl, rfl⟩
  go_wp2_with fail
  refine (wrap_as 1 g g1 c4.out Ig.out _).mono ?_
  rintro e wx ⟨rfl, rfl⟩
  go_wp2_with fail
  refine (one_as 22 2 a t2 ht2.out HA.out _).mono ?_
  rintro e wx ⟨rfl, rfl⟩
  go_wp2_with fail
  refine (wrap_as 2 t t2 c5.out It.out _).mono ?_
  rintro e wx ⟨rfl, rfl⟩
  go_wp2_with fail
  refine (works_any _).mono ?_
  rintro e wx ⟨rfl, rfl⟩
  go_wp2
  go_ret
  exact ⟨rfl, (Below.refl _ _).alloc (Nat.le_refl _) _⟩

set_option maxRecDepth 100000 in
set_option maxHeartbeats 1000000 in
theorem narrow_4 (x a b : Int) (x0 : 0 ≤ x) (x255 : x ≤ 255) (hx : x.tmod 6 = 4) (HA : Hid (In a)) (HB : Hid (In b)) (w : World) :
    Calls Try.prog 8 #[.int .u8 x, .int .i64 a, .int .i64 b] w fun e w' => e = .returned (.bool true) ∧ Below w.heap.size w w' := by
  obtain ⟨p, hp, Ip⟩ : ∃ p, Hid (two 17 3 a b = p) ∧ Hid (In p) := ⟨_, rfl, two_in _ _ _ _⟩
  obtain ⟨m, hm, Im⟩ : ∃ m, Hid (two 17 2 a b = m) ∧ Hid (In m) := ⟨_, rfl, two_in _ _ _ _⟩
  obtain ⟨s, hs, Is⟩ : ∃ s, Hid (two 17 1 a b = s) ∧ Hid (In s) := ⟨_, rfl, two_in _ _ _ _⟩
  obtain ⟨g, hg, Ig⟩ : ∃ g, Hid (one 21 3 a = g) ∧ Hid (In g) := ⟨_, rfl, one_in _ _ _⟩
  obtain ⟨t, ht, It⟩ : ∃ t, Hid (one 22 3 a = t) ∧ Hid (In t) := ⟨_, rfl, one_in _ _ _⟩
  obtain ⟨g1, hg1⟩ : ∃ g, Hid (one 21 1 a = g) := ⟨_, rfl⟩
  obtain ⟨t2, ht2⟩ : ∃ t, Hid (one 22 2 a = t) := ⟨_, rfl⟩
  have c1 : Hid (wrp 2 p = m) := by unfold Hid; rw [← hp.out, ← hm.out]; exact narrow_two _ _ _ _ _ (by omega) (by decide)
  have c2 : Hid (wrp 1 p = s) := by unfold Hid; rw [← hp.out, ← hs.out]; exact narrow_two _ _ _ _ _ (by omega) (by decide)
  have c3 : Hid (wrp 1 m = s) := by unfold Hid; rw [← hm.out, ← hs.out]; exact narrow_two _ _ _ _ _ (by omega) (by decide)
  have c4 : Hid (wrp 1 g = g1) := by unfold Hid; rw [← hg.out, ← hg1.out]; exact narrow_neg _ _ _ (by decide)
  have c5 : Hid (wrp 2 t = t2) := by unfold Hid; rw [← ht.out, ← ht2.out]; exact narrow_not _ _ _ (by decide)
  go_enter Try.func8, Try.ntmps8
  go_wp2_with fail
  refine (do_as 17 3 a b p hp.out HA.out HB.out _).mono ?_
  rintro e wx ⟨rfl, rfl⟩
  go_wp2_with fail
  refine (do_as 17 2 a b m hm.out HA.out HB.out _).mono ?_
  rintro e wx ⟨rfl, rfl⟩
  go_wp2_with fail
  refine (one_as 21 3 a g hg.out HA.out _).mono ?_
  rintro e wx ⟨rfl, rfl⟩
  go_wp2_with fail
  refine (one_as 22 3 a t ht.out HA.out _).mono ?_
  rintro e wx ⟨rfl, rfl⟩
  go_wp2_with fail
  refine (wrap_as 2 p m c1.out Ip.out _).mono ?_
  rintro e wx ⟨rfl, rfl⟩
  go_wp2_with fail
  refine (do_as 17 1 a b s hs.out HA.out HB.out _).mono ?_
  rintro e wx ⟨rfl, rfl⟩
  go_wp2_with fail
  refine (wrap_as 1 p s c2.out Ip.out _).mono ?_
  rintro e wx ⟨rfl, rfl⟩
  go_wp2_with fail
  refine (do_as 17 1 a b s hs.out HA.out HB.out _).mono ?_
  rintro e wx ⟨rfl, rfl⟩
  go_wp2_with fail
  refine (wrap_as 1 m s c3.out Im.out _).mono ?_
  rintro e wx ⟨rfl, rfl⟩
  go_wp2_with fail
  refine (one_as 21 1 a g1 hg1.out HA.out _).mono ?_
  rintro e wx ⟨rfl, rfl⟩
  go_wp2_with fail
  refine (wrap_as 1 g g1 c4.out Ig.out _).mono ?_
  rintro e wx ⟨rfl, rfl⟩
  go_wp2_with fail
  refine (one_as 22 2 a t2 ht2.out HA.out _).mono ?_
  rintro e wx ⟨rfl, rfl⟩
  go_wp2_with fail
  refine (wrap_as 2 t t2 c5.out It.out _).mono ?_
  rintro e wx ⟨rfl, rfl⟩
  go_wp2_with fail
  refine (works_any _).mono ?_
  rintro e wx ⟨rfl, rfl⟩
  go_wp2
  go_ret
  exact ⟨rfl, (Below.refl _ _).alloc (Nat.le_refl _) _⟩

set_option maxRecDepth 100000 in
set_option maxHeartbeats 1000000 in
theorem narrow_5 (x a b : Int) (x0 : 0 ≤ x) (x255 : x ≤ 255) (hx : x.tmod 6 = 5) (HA : Hid (In a)) (HB : Hid (In b)) (w : World) :
    Calls Try.prog 8 #[.int .u8 x, .int .i64 a, .int .i64 b] w fun e w' => e = .returned (.bool true) ∧ Below w.heap.size w w' := by
  obtain ⟨p, hp, Ip⟩ : ∃ p, Hid (two 18 3 a b = p) ∧ Hid (In p) := ⟨_, rfl, two_in _ _ _ _⟩
  obtain ⟨m, hm, Im⟩ : ∃ m, Hid (two 18 2 a b = m) ∧ Hid (In m) := ⟨_, rfl, two_in _ _ _ _⟩
  obtain ⟨s, hs, Is⟩ : ∃ s, Hid (two 18 1 a b = s) ∧ Hid (In s) := ⟨_, rfl, two_in _ _ _ _⟩
  obtain ⟨g, hg, Ig⟩ : ∃ g, Hid (one 21 3 a = g) ∧ Hid (In g) := ⟨_, rfl, one_in _ _ _⟩
  obtain ⟨t, ht, It⟩ : ∃ t, Hid (one 22 3 a = t) ∧ Hid (In t) := ⟨_, rfl, one_in _ _ _⟩
  obtain ⟨g1, hg1⟩ : ∃ g, Hid (one 21 1 a = g) := ⟨_, rfl⟩
  obtain ⟨t2, ht2⟩ : ∃ t, Hid (one 22 2 a = t) := ⟨_, rfl⟩
  have c1 : Hid (wrp 2 p = m) := by unfold Hid; rw [← hp.out, ← hm.out]; exact narrow_two _ _ _ _ _ (by omega) (by decide)
  have c2 : Hid (wrp 1 p = s) := by unfold Hid; rw [← hp.out, ← hs.out]; exact narrow_two _ _ _ _ _ (by omega) (by decide)
  have c3 : Hid (wrp 1 m = s) := by unfold Hid; rw [← hm.out, ← hs.out]; exact narrow_two _ _ _ _ _ (by omega) (by decide)
  have c4 : Hid (wrp 1 g = g1) := by unfold Hid; rw [← hg.out, ← hg1.out]; exact narrow_neg _ _ _ (by decide)
  have c5 : Hid (wrp 2 t = t2) := by unfold Hid; rw [← ht.out, ← ht2.out]; exact narrow_not _ _ _ (by decide)
  go_enter Try.func8, Try.ntmps8
  go_wp2_with fail
  refine (do_as 18 3 a b p hp.out HA.out HB.out _).mono ?_
  rintro e wx ⟨rfl, rfl⟩
  go_wp2_with fail
  refine (do_as 18 2 a b m hm.out HA.out HB.out _).mono ?_
  rintro e wx ⟨rfl, rfl⟩
  go_wp2_with fail
  refine (one_as 21 3 a g hg.out HA.out _).mono ?_
  rintro e wx ⟨rfl, rfl⟩
  go_wp2_with fail
  refine (one_as 22 3 a t ht.out HA.out _).mono ?_
  rintro e wx ⟨rfl, rfl⟩
  go_wp2_with fail
  refine (wrap_as 2 p m c1.out Ip.out _).mono ?_
  rintro e wx ⟨rfl, rfl⟩
  go_wp2_with fail
  refine (do_as 18 1 a b s hs.out HA.out HB.out _).mono ?_
  rintro e wx ⟨rfl, rfl⟩
  go_wp2_with fail
  refine (wrap_as 1 p s c2.out Ip.out _).mono ?_
  rintro e wx ⟨rfl, rfl⟩
  go_wp2_with fail
  refine (do_as 18 1 a b s hs.out HA.out HB.out _).mono ?_
  rintro e wx ⟨rfl, rfl⟩
  go_wp2_with fail
  refine (wrap_as 1 m s c3.out Im.out _).mono ?_
  rintro e wx ⟨rfl, rfl⟩
  go_wp2_with fail
  refine (one_as 21 1 a g1 hg1.out HA.out _).mono ?_
  rintro e wx ⟨rfl, rfl⟩
  go_wp2_with fail
  refine (wrap_as 1 g g1 c4.out Ig.out _).mono ?_
  rintro e wx ⟨rfl, rfl⟩
  go_wp2_with fail
  refine (one_as 22 2 a t2 ht2.out HA.out _).mono ?_
  rintro e wx ⟨rfl, rfl⟩
  go_wp2_with fail
  refine (wrap_as 2 t t2 c5.out It.out _).mono ?_
  rintro e wx ⟨rfl, rfl⟩
  go_wp2_with fail
  refine (works_any _).mono ?_
  rintro e wx ⟨rfl, rfl⟩
  go_wp2
  go_ret
  exact ⟨rfl, (Below.refl _ _).alloc (Nat.le_refl _) _⟩

theorem wordNarrow_calls (x a b : Int) (h0 : 0 ≤ x) (h255 : x ≤ 255) (ha : In a) (hb : In b) (w : World) :
    Calls Try.prog 8 #[.int .u8 x, .int .i64 a, .int .i64 b] w fun e w' => e = .returned (.bool true) ∧ Below w.heap.size w w' := by
  have h1 : x.tmod 6 = x % 6 := Int.tmod_eq_emod_of_nonneg h0
  rcases (by omega : x % 6 = 0 ∨ x % 6 = 1 ∨ x % 6 = 2 ∨ x % 6 = 3 ∨ x % 6 = 4 ∨ x % 6 = 5) with h | h | h | h | h | h
  · exact narrow_0 x a b h0 h255 (h1.trans h) ha hb w
  · exact narrow_1 x a b h0 h255 (h1.trans h) ha hb w
  · exact narrow_2 x a b h0 h255 (h1.trans h) ha hb w
  · exact narrow_3 x a b h0 h255 (h1.trans h) ha hb w
  · exact narrow_4 x a b h0 h255 (h1.trans h) ha hb w
  · exact narrow_5 x a b h0 h255 (h1.trans h) ha hb w
end Go.Proofs.Ytnfglmfioifciaa
