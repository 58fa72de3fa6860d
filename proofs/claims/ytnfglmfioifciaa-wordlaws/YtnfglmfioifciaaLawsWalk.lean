/-
  THE WALK of WordLaws.
-/
import Derived.Test.YtnfglmfioifciaaDo
namespace Go.Proofs.Ytnfglmfioifciaa
open Go.RowKit
set_option linter.unusedVariables false

def OpRel (i : Value) : Prop := ∃ n : Int, 11 ≤ n ∧ n ≤ 21 ∧ i = .int .u8 n
set_option maxRecDepth 100000 in
set_option maxHeartbeats 4000000 in
theorem wordLaws_calls (x a b c : Int) (h0 : 0 ≤ x) (h255 : x ≤ 255) (ha : In a) (hb : In b) (hc : In c) (w : World) :
    Calls Try.prog 5 #[.int .u8 x, .int .i64 a, .int .i64 b, .int .i64 c] w fun e w' => e = .returned (.bool true) ∧ w = w' := by
  have HA : Hid (In a) := ha
  have HB : Hid (In b) := hb
  have HC : Hid (In c) := hc
  have H0 : Hid (0 ≤ x ∧ x ≤ 255) := ⟨h0, h255⟩
  obtain ⟨X, hX⟩ : ∃ X, 1 + x % 3 = X := ⟨_, rfl⟩
  have HV : Hid (X = 1 ∨ X = 2 ∨ X = 3) := by unfold Hid; omega
  have HX : Hid (1 + x % 3 = X) := hX
  clear hX ha hb hc h0 h255
  obtain ⟨s, hs, Is⟩ : ∃ s, Hid (two 11 X a b = s) ∧ Hid (In s) := ⟨_, rfl, two_in _ _ _ _⟩
  obtain ⟨m, hm, Im⟩ : ∃ m, Hid (two 13 X a b = m) ∧ Hid (In m) := ⟨_, rfl, two_in _ _ _ _⟩
  obtain ⟨u, hu, Iu⟩ : ∃ u, Hid (two 11 X b c = u) ∧ Hid (In u) := ⟨_, rfl, two_in _ _ _ _⟩
  obtain ⟨p, hp, Ip⟩ : ∃ p, Hid (two 13 X b c = p) ∧ Hid (In p) := ⟨_, rfl, two_in _ _ _ _⟩
  obtain ⟨q, hq, Iq⟩ : ∃ q, Hid (two 13 X a c = q) ∧ Hid (In q) := ⟨_, rfl, two_in _ _ _ _⟩
  obtain ⟨t, ht, It⟩ : ∃ t, Hid (two 11 X (two 11 X a b) c = t) ∧ Hid (In t) := ⟨_, rfl, two_in _ _ _ _⟩
  obtain ⟨v, hv, Iv⟩ : ∃ v, Hid (two 13 X (two 13 X a b) c = v) ∧ Hid (In v) := ⟨_, rfl, two_in _ _ _ _⟩
  obtain ⟨z, hz, Iz⟩ : ∃ z, Hid (two 13 X a (two 11 X b c) = z) ∧ Hid (In z) := ⟨_, rfl, two_in _ _ _ _⟩
  obtain ⟨y, hy, Iy⟩ : ∃ y, Hid (two 18 X a b = y) ∧ Hid (In y) := ⟨_, rfl, two_in _ _ _ _⟩
  obtain ⟨g, hg, Ig⟩ : ∃ g, Hid (wrp X a = g) ∧ Hid (In g) := ⟨_, rfl, wrp_in _ _⟩
  obtain ⟨k, hk, Ik⟩ : ∃ k, Hid (one 22 X a = k) ∧ Hid (In k) := ⟨_, rfl, one_in _ _ _⟩
  obtain ⟨l, hl, Il⟩ : ∃ l, Hid (one 21 X a = l) ∧ Hid (In l) := ⟨_, rfl, one_in _ _ _⟩
  obtain ⟨d, hd, Id⟩ : ∃ d, Hid (two 16 X a b = d) ∧ Hid (In d) := ⟨_, rfl, two_in _ _ _ _⟩
  obtain ⟨r, hr, Ir⟩ : ∃ r, Hid (two 17 X a b = r) ∧ Hid (In r) := ⟨_, rfl, two_in _ _ _ _⟩
  go_enter Try.func5, Try.ntmps5
  go_wp2_with fail
  refine (width_as x X HX.out H0.out.1 H0.out.2 _).mono ?_
  rintro e wx ⟨rfl, rfl⟩
  go_wp2_with fail
  refine (do_as 11 X a b s hs.out HA.out HB.out _).mono ?_
  rintro e wx ⟨rfl, rfl⟩
  go_wp2_with fail
  refine (do_as 11 X b a s ((add_comm' _ _ _).trans hs.out) HB.out HA.out _).mono ?_
  rintro e wx ⟨rfl, rfl⟩
  go_wp2_with fail
  refine (do_as 13 X a b m hm.out HA.out HB.out _).mono ?_
  rintro e wx ⟨rfl, rfl⟩
  go_wp2_with fail
  refine (do_as 13 X b a m ((mul_comm' _ _ _).trans hm.out) HB.out HA.out _).mono ?_
  rintro e wx ⟨rfl, rfl⟩
  go_wp2_with fail
  refine (do_as 11 X a b s hs.out HA.out HB.out _).mono ?_
  rintro e wx ⟨rfl, rfl⟩
  go_wp2_with fail
  refine (do_as 11 X s c t (by rw [← hs.out]; exact ht.out) Is.out HC.out _).mono ?_
  rintro e wx ⟨rfl, rfl⟩
  go_wp2_with fail
  refine (do_as 11 X b c u hu.out HB.out HC.out _).mono ?_
  rintro e wx ⟨rfl, rfl⟩
  go_wp2_with fail
  refine (do_as 11 X a u t (by rw [← hu.out, ← add_assoc']; exact ht.out) HA.out Iu.out _).mono ?_
  rintro e wx ⟨rfl, rfl⟩
  go_wp2_with fail
  refine (do_as 13 X a b m hm.out HA.out HB.out _).mono ?_
  rintro e wx ⟨rfl, rfl⟩
  go_wp2_with fail
  refine (do_as 13 X m c v (by rw [← hm.out]; exact hv.out) Im.out HC.out _).mono ?_
  rintro e wx ⟨rfl, rfl⟩
  go_wp2_with fail
  refine (do_as 13 X b c p hp.out HB.out HC.out _).mono ?_
  rintro e wx ⟨rfl, rfl⟩
  go_wp2_with fail
  refine (do_as 13 X a p v (by rw [← hp.out, ← mul_assoc']; exact hv.out) HA.out Ip.out _).mono ?_
  rintro e wx ⟨rfl, rfl⟩
  go_wp2_with fail
  refine (do_as 11 X b c u hu.out HB.out HC.out _).mono ?_
  rintro e wx ⟨rfl, rfl⟩
  go_wp2_with fail
  refine (do_as 13 X a u z (by rw [← hu.out]; exact hz.out) HA.out Iu.out _).mono ?_
  rintro e wx ⟨rfl, rfl⟩
  go_wp2_with fail
  refine (do_as 13 X a b m hm.out HA.out HB.out _).mono ?_
  rintro e wx ⟨rfl, rfl⟩
  go_wp2_with fail
  refine (do_as 13 X a c q hq.out HA.out HC.out _).mono ?_
  rintro e wx ⟨rfl, rfl⟩
  go_wp2_with fail
  refine (do_as 11 X m q z (by rw [← hm.out, ← hq.out, ← mul_add']; exact hz.out) Im.out Iq.out _).mono ?_
  rintro e wx ⟨rfl, rfl⟩
  go_wp2_with fail
  refine (do_as 11 X a b s hs.out HA.out HB.out _).mono ?_
  rintro e wx ⟨rfl, rfl⟩
  go_wp2_with fail
  refine (do_as 12 X s b g (by rw [← hs.out, sub_back]; exact hg.out) Is.out HB.out _).mono ?_
  rintro e wx ⟨rfl, rfl⟩
  go_wp2_with fail
  refine (wrap_as X a g hg.out HA.out _).mono ?_
  rintro e wx ⟨rfl, rfl⟩
  go_wp2_with fail
  refine (do_as 18 X a b y hy.out HA.out HB.out _).mono ?_
  rintro e wx ⟨rfl, rfl⟩
  go_wp2_with fail
  refine (do_as 18 X y b g (by rw [← hy.out, xor_back]; exact hg.out) Iy.out HB.out _).mono ?_
  rintro e wx ⟨rfl, rfl⟩
  go_wp2_with fail
  refine (wrap_as X a g hg.out HA.out _).mono ?_
  rintro e wx ⟨rfl, rfl⟩
  go_wp2_with fail
  refine (one_as 22 X a k hk.out HA.out _).mono ?_
  rintro e wx ⟨rfl, rfl⟩
  go_wp2_with fail
  refine (do_as 18 X a (-1) k ((not_xor _ _).trans hk.out) HA.out ⟨by omega, by omega⟩ _).mono ?_
  rintro e wx ⟨rfl, rfl⟩
  go_wp2_with fail
  refine (one_as 21 X a l hl.out HA.out _).mono ?_
  rintro e wx ⟨rfl, rfl⟩
  go_wp2_with fail
  refine (do_as 12 X 0 a l ((neg_sub _ _).trans hl.out) ⟨by omega, by omega⟩ HA.out _).mono ?_
  rintro e wx ⟨rfl, rfl⟩
  go_wp2_with fail
  refine (do_as 16 X a b d hd.out HA.out HB.out _).mono ?_
  rintro e wx ⟨rfl, rfl⟩
  go_wp2_with fail
  refine (do_as 17 X a b r hr.out HA.out HB.out _).mono ?_
  rintro e wx ⟨rfl, rfl⟩
  go_wp2_with fail
  refine (do_as 11 X d r s (by rw [← hd.out, ← hr.out, and_or]; exact hs.out) Id.out Ir.out _).mono ?_
  rintro e wx ⟨rfl, rfl⟩
  go_wp2_with fail
  refine (do_as 11 X a b s hs.out HA.out HB.out _).mono ?_
  rintro e wx ⟨rfl, rfl⟩
  go_wp2_with fail
  go_loop [12] (fun i => OpRel i) (fun i => 21 - (intOf i).toNat)
  case atStart => exact ⟨11, by omega, by omega, rfl⟩
  case round =>
    obtain ⟨n, h11, h21, rfl⟩ := hrel
    by_cases hlt : n ≤ 20
    · have hd' : decide (n ≤ 20) = true := by simp [hlt]
      obtain ⟨f, hf, If⟩ : ∃ f, Hid (two n X a b = f) ∧ Hid (In f) := ⟨_, rfl, two_in _ _ _ _⟩
      have hfit : Hid (fits X f = true) := by unfold Hid; rw [← hf.out]; exact fits_two _ _ _ _ HV.out
      have hn' : n + 1 ≤ 255 := by omega
      go_wp2_with fail
      refine (do_as n X a b f hf.out HA.out HB.out _).mono ?_
      rintro e wx ⟨rfl, rfl⟩
      go_wp2_with fail
      refine (fits_as X f true hfit.out If.out _).mono ?_
      rintro e wx ⟨rfl, rfl⟩
      go_wp2
      go_round
      case rel => exact ⟨n + 1, by omega, by omega, by go_num⟩
      case measure => simp [intOf]; omega
    · have hd' : decide (n ≤ 20) = false := by simp [hlt]
      have hfit : Hid (fits X g = true) := by unfold Hid; rw [← hg.out]; exact fits_wrp _ _ HV.out
      go_wp2_with fail
      refine (wrap_as X a g hg.out HA.out _).mono ?_
      rintro e wx ⟨rfl, rfl⟩
      go_wp2_with fail
      refine (fits_as X g true hfit.out Ig.out _).mono ?_
      rintro e wx ⟨rfl, rfl⟩
      go_wp2_with fail
      refine (works_any _).mono ?_
      rintro e wx ⟨rfl, rfl⟩
      go_wp2
      go_ret
      exact ⟨rfl, rfl⟩
end Go.Proofs.Ytnfglmfioifciaa
