/-
  THE WALK of WordMoves.
-/
import Derived.Test.YtnfglmfioifciaaDo
import Derived.Test.YtnfglmfioifciaaMovesMath
namespace Go.Proofs.Ytnfglmfioifciaa
open Go.RowKit
set_option linter.unusedVariables false


set_option maxRecDepth 100000 in
set_option maxHeartbeats 1000000 in
theorem moves_00 (x a k X N M : Int) (H0 : Hid (0 ≤ x ∧ x ≤ 255)) (HX : Hid (1 + x % 3 = X)) (HV : Hid (X = 1 ∨ X = 2 ∨ X = 3)) (HA : Hid (In a)) (HK : Hid (In k)) (HN : Hid ((nb X : Int) = N)) (HM : Hid (k % N = M)) (n1 : 8 ≤ N) (n2 : N ≤ 64) (m1 : 0 ≤ M) (m2 : M < N) (w : World) (ht : k.tmod N = M) (m d : Int) (hm : Hid (wrp X a = m)) (hd : Hid (two 20 X a k = d)) (cm : ¬ m < 0) (cd : ¬ d < 0) :
    Calls Try.prog 7 #[.int .u8 x, .int .i64 a, .int .i64 k] w fun e w' => e = .returned (.bool true) ∧ w = w' := by
  obtain ⟨u, hu, Iu⟩ : ∃ u, Hid (two 19 X a k = u) ∧ Hid (In u) := ⟨_, rfl, two_in _ _ _ _⟩
  obtain ⟨f, hf, If⟩ : ∃ f, Hid (two 19 X d k = f) ∧ Hid (In f) := ⟨_, rfl, two_in _ _ _ _⟩
  obtain ⟨l, hl, Il⟩ : ∃ l, Hid (two 12 X m f = l) ∧ Hid (In l) := ⟨_, rfl, two_in _ _ _ _⟩
  obtain ⟨P, HP, IP⟩ : ∃ P, Hid (wrap64 (IntKind.u64.wrap (2 ^ M.toNat)) = P) ∧ Hid (In P) := ⟨_, rfl, by unfold Hid; rw [wrap_w64]; exact toInt_in64 (by omega) _⟩
  obtain ⟨Q, HQ, IQ⟩ : ∃ Q, Hid (wrap64 (P - 1) = Q) ∧ Hid (In Q) := ⟨_, rfl, by unfold Hid; rw [wrap_w64]; exact toInt_in64 (by omega) _⟩
  have Im : Hid (In m) := by unfold Hid; rw [← hm.out]; exact wrp_in _ _
  have Id : Hid (In d) := by unfold Hid; rw [← hd.out]; exact two_in _ _ _ _
  have IM : Hid (In M) := ⟨by omega, by omega⟩
  have gu : Hid (two 13 X m P = u) := by
    unfold Hid; rw [← hm.out, ← hu.out]; refine mv_up X a k P HV.out ?_; rw [← HP.out, power_bv, HN.out, HM.out]
  have gM : Hid (two 19 X a M = u) := by
    unfold Hid; rw [← hu.out, ← HM.out, ← HN.out]; exact mv_same 19 X a k (.inl rfl) HV.out
  have gd : Hid (two 20 X a M = d) := by
    unfold Hid; rw [← hd.out, ← HM.out, ← HN.out]; exact mv_same 20 X a k (.inr rfl) HV.out
  have gl : Hid (two 16 X m Q = l) := by
    unfold Hid; rw [← hl.out, ← hf.out, ← hd.out, ← hm.out]; refine mv_left X a k Q HV.out ?_; rw [← HQ.out, ← HP.out, mask_power, HN.out, HM.out]
  have n0 : (N == 0) = false := by simp; omega
  have n0' : ¬ N = 0 := by omega
  have mn : ¬ M < 0 := by omega
  go_enter Try.func7, Try.ntmps7
  go_wp2_with fail
  refine (width_as x X HX.out H0.out.1 H0.out.2 _).mono ?_
  rintro e wx ⟨rfl, rfl⟩
  go_wp2_with fail
  refine (bits_as X N HN.out _).mono ?_
  rintro e wx ⟨rfl, rfl⟩
  go_wp2_with fail
  simp only [HP.out]
  refine (wrap_as X a m hm.out HA.out _).mono ?_
  rintro e wx ⟨rfl, rfl⟩
  go_wp2_with fail
  refine (do_as 19 X a k u hu.out HA.out HK.out _).mono ?_
  rintro e wx ⟨rfl, rfl⟩
  go_wp2_with fail
  refine (do_as 20 X a k d hd.out HA.out HK.out _).mono ?_
  rintro e wx ⟨rfl, rfl⟩
  go_wp2_with fail
  refine (do_as 19 X d k f hf.out Id.out HK.out _).mono ?_
  rintro e wx ⟨rfl, rfl⟩
  go_wp2_with fail
  refine (do_as 12 X m f l hl.out Im.out If.out _).mono ?_
  rintro e wx ⟨rfl, rfl⟩
  go_wp2_with fail
  refine (do_as 13 X m P u gu.out Im.out IP.out _).mono ?_
  rintro e wx ⟨rfl, rfl⟩
  go_wp2_with fail
  refine (do_as 19 X a M u gM.out HA.out IM.out _).mono ?_
  rintro e wx ⟨rfl, rfl⟩
  go_wp2_with fail
  refine (do_as 20 X a M d gd.out HA.out IM.out _).mono ?_
  rintro e wx ⟨rfl, rfl⟩
  go_wp2_with fail
  simp only [HQ.out]
  refine (do_as 16 X m Q l gl.out Im.out IQ.out _).mono ?_
  rintro e wx ⟨rfl, rfl⟩
  go_wp2_with fail
  refine (works_any _).mono ?_
  rintro e wx ⟨rfl, rfl⟩
  go_wp2
  go_ret
  exact ⟨rfl, rfl⟩

set_option maxRecDepth 100000 in
set_option maxHeartbeats 1000000 in
theorem moves_01 (x a k X N M : Int) (H0 : Hid (0 ≤ x ∧ x ≤ 255)) (HX : Hid (1 + x % 3 = X)) (HV : Hid (X = 1 ∨ X = 2 ∨ X = 3)) (HA : Hid (In a)) (HK : Hid (In k)) (HN : Hid ((nb X : Int) = N)) (HM : Hid (k % N = M)) (n1 : 8 ≤ N) (n2 : N ≤ 64) (m1 : 0 ≤ M) (m2 : M < N) (w : World) (ht : k.tmod N = M) (m d : Int) (hm : Hid (wrp X a = m)) (hd : Hid (two 20 X a k = d)) (cm : m < 0) (cd : d < 0) :
    Calls Try.prog 7 #[.int .u8 x, .int .i64 a, .int .i64 k] w fun e w' => e = .returned (.bool true) ∧ w = w' := by
  obtain ⟨u, hu, Iu⟩ : ∃ u, Hid (two 19 X a k = u) ∧ Hid (In u) := ⟨_, rfl, two_in _ _ _ _⟩
  obtain ⟨f, hf, If⟩ : ∃ f, Hid (two 19 X d k = f) ∧ Hid (In f) := ⟨_, rfl, two_in _ _ _ _⟩
  obtain ⟨l, hl, Il⟩ : ∃ l, Hid (two 12 X m f = l) ∧ Hid (In l) := ⟨_, rfl, two_in _ _ _ _⟩
  obtain ⟨P, HP, IP⟩ : ∃ P, Hid (wrap64 (IntKind.u64.wrap (2 ^ M.toNat)) = P) ∧ Hid (In P) := ⟨_, rfl, by unfold Hid; rw [wrap_w64]; exact toInt_in64 (by omega) _⟩
  obtain ⟨Q, HQ, IQ⟩ : ∃ Q, Hid (wrap64 (P - 1) = Q) ∧ Hid (In Q) := ⟨_, rfl, by unfold Hid; rw [wrap_w64]; exact toInt_in64 (by omega) _⟩
  have Im : Hid (In m) := by unfold Hid; rw [← hm.out]; exact wrp_in _ _
  have Id : Hid (In d) := by unfold Hid; rw [← hd.out]; exact two_in _ _ _ _
  have IM : Hid (In M) := ⟨by omega, by omega⟩
  have gu : Hid (two 13 X m P = u) := by
    unfold Hid; rw [← hm.out, ← hu.out]; refine mv_up X a k P HV.out ?_; rw [← HP.out, power_bv, HN.out, HM.out]
  have gM : Hid (two 19 X a M = u) := by
    unfold Hid; rw [← hu.out, ← HM.out, ← HN.out]; exact mv_same 19 X a k (.inl rfl) HV.out
  have gd : Hid (two 20 X a M = d) := by
    unfold Hid; rw [← hd.out, ← HM.out, ← HN.out]; exact mv_same 20 X a k (.inr rfl) HV.out
  have gl : Hid (two 16 X m Q = l) := by
    unfold Hid; rw [← hl.out, ← hf.out, ← hd.out, ← hm.out]; refine mv_left X a k Q HV.out ?_; rw [← HQ.out, ← HP.out, mask_power, HN.out, HM.out]
  have n0 : (N == 0) = false := by simp; omega
  have n0' : ¬ N = 0 := by omega
  have mn : ¬ M < 0 := by omega
  go_enter Try.func7, Try.ntmps7
  go_wp2_with fail
  refine (width_as x X HX.out H0.out.1 H0.out.2 _).mono ?_
  rintro e wx ⟨rfl, rfl⟩
  go_wp2_with fail
  refine (bits_as X N HN.out _).mono ?_
  rintro e wx ⟨rfl, rfl⟩
  go_wp2_with fail
  simp only [HP.out]
  refine (wrap_as X a m hm.out HA.out _).mono ?_
  rintro e wx ⟨rfl, rfl⟩
  go_wp2_with fail
  refine (do_as 19 X a k u hu.out HA.out HK.out _).mono ?_
  rintro e wx ⟨rfl, rfl⟩
  go_wp2_with fail
  refine (do_as 20 X a k d hd.out HA.out HK.out _).mono ?_
  rintro e wx ⟨rfl, rfl⟩
  go_wp2_with fail
  refine (do_as 19 X d k f hf.out Id.out HK.out _).mono ?_
  rintro e wx ⟨rfl, rfl⟩
  go_wp2_with fail
  refine (do_as 12 X m f l hl.out Im.out If.out _).mono ?_
  rintro e wx ⟨rfl, rfl⟩
  go_wp2_with fail
  refine (do_as 13 X m P u gu.out Im.out IP.out _).mono ?_
  rintro e wx ⟨rfl, rfl⟩
  go_wp2_with fail
  refine (do_as 19 X a M u gM.out HA.out IM.out _).mono ?_
  rintro e wx ⟨rfl, rfl⟩
  go_wp2_with fail
  refine (do_as 20 X a M d gd.out HA.out IM.out _).mono ?_
  rintro e wx ⟨rfl, rfl⟩
  go_wp2_with fail
  simp only [HQ.out]
  refine (do_as 16 X m Q l gl.out Im.out IQ.out _).mono ?_
  rintro e wx ⟨rfl, rfl⟩
  go_wp2_with fail
  refine (works_any _).mono ?_
  rintro e wx ⟨rfl, rfl⟩
  go_wp2
  go_ret
  exact ⟨rfl, rfl⟩

set_option maxRecDepth 100000 in
set_option maxHeartbeats 1000000 in
theorem moves_10 (x a k X N M : Int) (H0 : Hid (0 ≤ x ∧ x ≤ 255)) (HX : Hid (1 + x % 3 = X)) (HV : Hid (X = 1 ∨ X = 2 ∨ X = 3)) (HA : Hid (In a)) (HK : Hid (In k)) (HN : Hid ((nb X : Int) = N)) (HM : Hid (k % N = M)) (n1 : 8 ≤ N) (n2 : N ≤ 64) (m1 : 0 ≤ M) (m2 : M < N) (w : World) (t : Int) (ht : k.tmod N = t) (tn : t < 0) (t1 : -64 < t) (hs : t + N = M) (m d : Int) (hm : Hid (wrp X a = m)) (hd : Hid (two 20 X a k = d)) (cm : ¬ m < 0) (cd : ¬ d < 0) :
    Calls Try.prog 7 #[.int .u8 x, .int .i64 a, .int .i64 k] w fun e w' => e = .returned (.bool true) ∧ w = w' := by
  obtain ⟨u, hu, Iu⟩ : ∃ u, Hid (two 19 X a k = u) ∧ Hid (In u) := ⟨_, rfl, two_in _ _ _ _⟩
  obtain ⟨f, hf, If⟩ : ∃ f, Hid (two 19 X d k = f) ∧ Hid (In f) := ⟨_, rfl, two_in _ _ _ _⟩
  obtain ⟨l, hl, Il⟩ : ∃ l, Hid (two 12 X m f = l) ∧ Hid (In l) := ⟨_, rfl, two_in _ _ _ _⟩
  obtain ⟨P, HP, IP⟩ : ∃ P, Hid (wrap64 (IntKind.u64.wrap (2 ^ M.toNat)) = P) ∧ Hid (In P) := ⟨_, rfl, by unfold Hid; rw [wrap_w64]; exact toInt_in64 (by omega) _⟩
  obtain ⟨Q, HQ, IQ⟩ : ∃ Q, Hid (wrap64 (P - 1) = Q) ∧ Hid (In Q) := ⟨_, rfl, by unfold Hid; rw [wrap_w64]; exact toInt_in64 (by omega) _⟩
  have Im : Hid (In m) := by unfold Hid; rw [← hm.out]; exact wrp_in _ _
  have Id : Hid (In d) := by unfold Hid; rw [← hd.out]; exact two_in _ _ _ _
  have IM : Hid (In M) := ⟨by omega, by omega⟩
  have gu : Hid (two 13 X m P = u) := by
    unfold Hid; rw [← hm.out, ← hu.out]; refine mv_up X a k P HV.out ?_; rw [← HP.out, power_bv, HN.out, HM.out]
  have gM : Hid (two 19 X a M = u) := by
    unfold Hid; rw [← hu.out, ← HM.out, ← HN.out]; exact mv_same 19 X a k (.inl rfl) HV.out
  have gd : Hid (two 20 X a M = d) := by
    unfold Hid; rw [← hd.out, ← HM.out, ← HN.out]; exact mv_same 20 X a k (.inr rfl) HV.out
  have gl : Hid (two 16 X m Q = l) := by
    unfold Hid; rw [← hl.out, ← hf.out, ← hd.out, ← hm.out]; refine mv_left X a k Q HV.out ?_; rw [← HQ.out, ← HP.out, mask_power, HN.out, HM.out]
  have n0 : (N == 0) = false := by simp; omega
  have n0' : ¬ N = 0 := by omega
  go_enter Try.func7, Try.ntmps7
  go_wp2_with fail
  refine (width_as x X HX.out H0.out.1 H0.out.2 _).mono ?_
  rintro e wx ⟨rfl, rfl⟩
  go_wp2_with fail
  refine (bits_as X N HN.out _).mono ?_
  rintro e wx ⟨rfl, rfl⟩
  go_wp2_with fail
  simp only [HP.out]
  refine (wrap_as X a m hm.out HA.out _).mono ?_
  rintro e wx ⟨rfl, rfl⟩
  go_wp2_with fail
  refine (do_as 19 X a k u hu.out HA.out HK.out _).mono ?_
  rintro e wx ⟨rfl, rfl⟩
  go_wp2_with fail
  refine (do_as 20 X a k d hd.out HA.out HK.out _).mono ?_
  rintro e wx ⟨rfl, rfl⟩
  go_wp2_with fail
  refine (do_as 19 X d k f hf.out Id.out HK.out _).mono ?_
  rintro e wx ⟨rfl, rfl⟩
  go_wp2_with fail
  refine (do_as 12 X m f l hl.out Im.out If.out _).mono ?_
  rintro e wx ⟨rfl, rfl⟩
  go_wp2_with fail
  refine (do_as 13 X m P u gu.out Im.out IP.out _).mono ?_
  rintro e wx ⟨rfl, rfl⟩
  go_wp2_with fail
  refine (do_as 19 X a M u gM.out HA.out IM.out _).mono ?_
  rintro e wx ⟨rfl, rfl⟩
  go_wp2_with fail
  refine (do_as 20 X a M d gd.out HA.out IM.out _).mono ?_
  rintro e wx ⟨rfl, rfl⟩
  go_wp2_with fail
  simp only [HQ.out]
  refine (do_as 16 X m Q l gl.out Im.out IQ.out _).mono ?_
  rintro e wx ⟨rfl, rfl⟩
  go_wp2_with fail
  refine (works_any _).mono ?_
  rintro e wx ⟨rfl, rfl⟩
  go_wp2
  go_ret
  exact ⟨rfl, rfl⟩

set_option maxRecDepth 100000 in
set_option maxHeartbeats 1000000 in
theorem moves_11 (x a k X N M : Int) (H0 : Hid (0 ≤ x ∧ x ≤ 255)) (HX : Hid (1 + x % 3 = X)) (HV : Hid (X = 1 ∨ X = 2 ∨ X = 3)) (HA : Hid (In a)) (HK : Hid (In k)) (HN : Hid ((nb X : Int) = N)) (HM : Hid (k % N = M)) (n1 : 8 ≤ N) (n2 : N ≤ 64) (m1 : 0 ≤ M) (m2 : M < N) (w : World) (t : Int) (ht : k.tmod N = t) (tn : t < 0) (t1 : -64 < t) (hs : t + N = M) (m d : Int) (hm : Hid (wrp X a = m)) (hd : Hid (two 20 X a k = d)) (cm : m < 0) (cd : d < 0) :
    Calls Try.prog 7 #[.int .u8 x, .int .i64 a, .int .i64 k] w fun e w' => e = .returned (.bool true) ∧ w = w' := by
  obtain ⟨u, hu, Iu⟩ : ∃ u, Hid (two 19 X a k = u) ∧ Hid (In u) := ⟨_, rfl, two_in _ _ _ _⟩
  obtain ⟨f, hf, If⟩ : ∃ f, Hid (two 19 X d k = f) ∧ Hid (In f) := ⟨_, rfl, two_in _ _ _ _⟩
  obtain ⟨l, hl, Il⟩ : ∃ l, Hid (two 12 X m f = l) ∧ Hid (In l) := ⟨_, rfl, two_in _ _ _ _⟩
  obtain ⟨P, HP, IP⟩ : ∃ P, Hid (wrap64 (IntKind.u64.wrap (2 ^ M.toNat)) = P) ∧ Hid (In P) := ⟨_, rfl, by unfold Hid; rw [wrap_w64]; exact toInt_in64 (by omega) _⟩
  obtain ⟨Q, HQ, IQ⟩ : ∃ Q, Hid (wrap64 (P - 1) = Q) ∧ Hid (In Q) := ⟨_, rfl, by unfold Hid; rw [wrap_w64]; exact toInt_in64 (by omega) _⟩
  have Im : Hid (In m) := by unfold Hid; rw [← hm.out]; exact wrp_in _ _
  have Id : Hid (In d) := by unfold Hid; rw [← hd.out]; exact two_in _ _ _ _
  have IM : Hid (In M) := ⟨by omega, by omega⟩
  have gu : Hid (two 13 X m P = u) := by
    unfold Hid; rw [← hm.out, ← hu.out]; refine mv_up X a k P HV.out ?_; rw [← HP.out, power_bv, HN.out, HM.out]
  have gM : Hid (two 19 X a M = u) := by
    unfold Hid; rw [← hu.out, ← HM.out, ← HN.out]; exact mv_same 19 X a k (.inl rfl) HV.out
  have gd : Hid (two 20 X a M = d) := by
    unfold Hid; rw [← hd.out, ← HM.out, ← HN.out]; exact mv_same 20 X a k (.inr rfl) HV.out
  have gl : Hid (two 16 X m Q = l) := by
    unfold Hid; rw [← hl.out, ← hf.out, ← hd.out, ← hm.out]; refine mv_left X a k Q HV.out ?_; rw [← HQ.out, ← HP.out, mask_power, HN.out, HM.out]
  have n0 : (N == 0) = false := by simp; omega
  have n0' : ¬ N = 0 := by omega
  go_enter Try.func7, Try.ntmps7
  go_wp2_with fail
  refine (width_as x X HX.out H0.out.1 H0.out.2 _).mono ?_
  rintro e wx ⟨rfl, rfl⟩
  go_wp2_with fail
  refine (bits_as X N HN.out _).mono ?_
  rintro e wx ⟨rfl, rfl⟩
  go_wp2_with fail
  simp only [HP.out]
  refine (wrap_as X a m hm.out HA.out _).mono ?_
  rintro e wx ⟨rfl, rfl⟩
  go_wp2_with fail
  refine (do_as 19 X a k u hu.out HA.out HK.out _).mono ?_
  rintro e wx ⟨rfl, rfl⟩
  go_wp2_with fail
  refine (do_as 20 X a k d hd.out HA.out HK.out _).mono ?_
  rintro e wx ⟨rfl, rfl⟩
  go_wp2_with fail
  refine (do_as 19 X d k f hf.out Id.out HK.out _).mono ?_
  rintro e wx ⟨rfl, rfl⟩
  go_wp2_with fail
  refine (do_as 12 X m f l hl.out Im.out If.out _).mono ?_
  rintro e wx ⟨rfl, rfl⟩
  go_wp2_with fail
  refine (do_as 13 X m P u gu.out Im.out IP.out _).mono ?_
  rintro e wx ⟨rfl, rfl⟩
  go_wp2_with fail
  refine (do_as 19 X a M u gM.out HA.out IM.out _).mono ?_
  rintro e wx ⟨rfl, rfl⟩
  go_wp2_with fail
  refine (do_as 20 X a M d gd.out HA.out IM.out _).mono ?_
  rintro e wx ⟨rfl, rfl⟩
  go_wp2_with fail
  simp only [HQ.out]
  refine (do_as 16 X m Q l gl.out Im.out IQ.out _).mono ?_
  rintro e wx ⟨rfl, rfl⟩
  go_wp2_with fail
  refine (works_any _).mono ?_
  rintro e wx ⟨rfl, rfl⟩
  go_wp2
  go_ret
  exact ⟨rfl, rfl⟩

theorem wordMoves_calls (x a k : Int) (h0 : 0 ≤ x) (h255 : x ≤ 255) (ha : In a) (hk : In k) (w : World) :
    Calls Try.prog 7 #[.int .u8 x, .int .i64 a, .int .i64 k] w fun e w' => e = .returned (.bool true) ∧ w = w' := by
  obtain ⟨X, hX⟩ : ∃ X, 1 + x % 3 = X := ⟨_, rfl⟩
  have HV : X = 1 ∨ X = 2 ∨ X = 3 := by omega
  obtain ⟨N, hN⟩ : ∃ N : Int, (nb X : Int) = N := ⟨_, rfl⟩
  have n1 : 8 ≤ N ∧ N ≤ 64 := by rw [← hN]; rcases HV with rfl | rfl | rfl <;> decide
  have m1 := Int.emod_nonneg k (show N ≠ 0 by omega)
  have m2 := Int.emod_lt_of_pos k (show 0 < N by omega)
  have sg := mv_sign X a k HV
  have t1 : -64 < k.tmod N := by have := (tmod_near k N).1 (by omega); omega
  have t2 : k.tmod N < 0 → k.tmod N + N = k % N := by
    intro h
    have e := Int.tmod_eq_emod (a := k) (b := N)
    split at e <;> omega
  have t3 : ¬ k.tmod N < 0 → k.tmod N = k % N := by
    intro h
    have e := Int.tmod_eq_emod (a := k) (b := N)
    split at e <;> omega
  by_cases ht : k.tmod N < 0
  · by_cases cm : wrp X a < 0
    · exact moves_11 x a k X N (k % N) ⟨h0, h255⟩ hX HV ha hk hN rfl n1.1 n1.2 m1 m2 w _ rfl ht t1 (t2 ht) _ _ rfl rfl cm (sg.mpr cm)
    · exact moves_10 x a k X N (k % N) ⟨h0, h255⟩ hX HV ha hk hN rfl n1.1 n1.2 m1 m2 w _ rfl ht t1 (t2 ht) _ _ rfl rfl cm (fun q => cm (sg.mp q))
  · by_cases cm : wrp X a < 0
    · exact moves_01 x a k X N (k % N) ⟨h0, h255⟩ hX HV ha hk hN rfl n1.1 n1.2 m1 m2 w (t3 ht) _ _ rfl rfl cm (sg.mpr cm)
    · exact moves_00 x a k X N (k % N) ⟨h0, h255⟩ hX HV ha hk hN rfl n1.1 n1.2 m1 m2 w (t3 ht) _ _ rfl rfl cm (fun q => cm (sg.mp q))
end Go.Proofs.Ytnfglmfioifciaa
