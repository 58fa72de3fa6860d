/-
  CONTRACTS of the document's Two, One, Test.
-/
import Derived.Test.YtnfglmfioifciaaRefDiv
import Derived.Test.YtnfglmfioifciaaRefBits
import Derived.Test.YtnfglmfioifciaaEndMath
namespace Go.Proofs.Ytnfglmfioifciaa
open Go.RowKit
set_option linter.unusedVariables false

theorem rand_as (a b M : Int) (h : (BitVec.ofInt 64 a &&& BitVec.ofInt 64 b).toInt = M) (w : World) :
    Calls Try.prog 28 #[.int .i64 a, .int .i64 b, .bool true, .bool false] w fun e w' => e = .returned (.int .i64 M) ∧ w = w' := by
  subst h; exact rand_any a b w
theorem ror_as (a b M : Int) (h : (BitVec.ofInt 64 a ||| BitVec.ofInt 64 b).toInt = M) (w : World) :
    Calls Try.prog 28 #[.int .i64 a, .int .i64 b, .bool true, .bool true] w fun e w' => e = .returned (.int .i64 M) ∧ w = w' := by
  subst h; exact ror_any a b w
theorem rxor_as (a b M : Int) (h : (BitVec.ofInt 64 a ^^^ BitVec.ofInt 64 b).toInt = M) (w : World) :
    Calls Try.prog 28 #[.int .i64 a, .int .i64 b, .bool false, .bool true] w fun e w' => e = .returned (.int .i64 M) ∧ w = w' := by
  subst h; exact rxor_any a b w
theorem rpower_as (K : Nat) (P : Int) (h : wrap64 (IntKind.u64.wrap (2 ^ K)) = P) (h63 : K ≤ 63) (w : World) : Calls Try.prog 29 #[.int .i64 (K : Int)] w fun e w' => e = .returned (.int .i64 P) ∧ w = w' := by
  subst h
  have := rpower_any (K : Int) (by omega) (by omega) w
  rw [Int.toNat_natCast] at this
  exact this
theorem rdown_as (a : Int) (K : Nat) (z : Int) (h : a / 2 ^ K = z) (ha : In a) (h63 : K ≤ 63) (w : World) : Calls Try.prog 30 #[.int .i64 a, .int .i64 (K : Int)] w fun e w' => e = .returned (.int .i64 z) ∧ w = w' := by
  subst h; exact rdown_any a K ha h63 w

set_option maxRecDepth 100000 in
theorem rtwo_add (X a b N m p : Int) (K : Nat) (HV : Hid (X = 1 ∨ X = 2 ∨ X = 3)) (HN : Hid ((nb X : Int) = N)) (n1 : 8 ≤ N) (n2 : N ≤ 64) (hm : Hid (wrp X a = m)) (hp : Hid (wrp X b = p)) (Im : Hid (In m)) (Ip : Hid (In p)) (HK : Hid ((b % (nb X : Int)).toNat = K)) (hk : (IntKind.u64.wrap p).tmod N = (K : Int)) (k63 : K ≤ 63) (w : World) (M : Int) (HM : Hid (two 11 X a b = M)) :
    Calls Try.prog 17 #[.int .u8 11, .int .u8 X, .int .i64 a, .int .i64 b] w fun e w' => e = .returned (.tuple #[.int .i64 M, .int .i64 0]) ∧ w = w' := by
  have n0 : (N == 0) = false := by simp; omega
  have n0' : ¬ N = 0 := by omega
  go_enter Try.func17, Try.ntmps17
  go_wp2_with fail
  refine (rbits_as X N HN.out _).mono ?_
  rintro e wx ⟨rfl, rfl⟩
  go_wp2_with fail
  refine (rwrap_as X a m hm.out _).mono ?_
  rintro e wx ⟨rfl, rfl⟩
  go_wp2_with fail
  refine (rwrap_as X b p hp.out _).mono ?_
  rintro e wx ⟨rfl, rfl⟩
  go_wp2_with fail
  refine (rwrap_as X _ M ((e_add X a b m p hm.out hp.out).trans HM.out) _).mono ?_
  rintro e wx ⟨rfl, rfl⟩
  go_wp2
  go_ret2
  exact ⟨rfl, rfl⟩

set_option maxRecDepth 100000 in
theorem rtwo_sub (X a b N m p : Int) (K : Nat) (HV : Hid (X = 1 ∨ X = 2 ∨ X = 3)) (HN : Hid ((nb X : Int) = N)) (n1 : 8 ≤ N) (n2 : N ≤ 64) (hm : Hid (wrp X a = m)) (hp : Hid (wrp X b = p)) (Im : Hid (In m)) (Ip : Hid (In p)) (HK : Hid ((b % (nb X : Int)).toNat = K)) (hk : (IntKind.u64.wrap p).tmod N = (K : Int)) (k63 : K ≤ 63) (w : World) (M : Int) (HM : Hid (two 12 X a b = M)) :
    Calls Try.prog 17 #[.int .u8 12, .int .u8 X, .int .i64 a, .int .i64 b] w fun e w' => e = .returned (.tuple #[.int .i64 M, .int .i64 0]) ∧ w = w' := by
  have n0 : (N == 0) = false := by simp; omega
  have n0' : ¬ N = 0 := by omega
  go_enter Try.func17, Try.ntmps17
  go_wp2_with fail
  refine (rbits_as X N HN.out _).mono ?_
  rintro e wx ⟨rfl, rfl⟩
  go_wp2_with fail
  refine (rwrap_as X a m hm.out _).mono ?_
  rintro e wx ⟨rfl, rfl⟩
  go_wp2_with fail
  refine (rwrap_as X b p hp.out _).mono ?_
  rintro e wx ⟨rfl, rfl⟩
  go_wp2_with fail
  refine (rwrap_as X _ M ((e_sub X a b m p hm.out hp.out).trans HM.out) _).mono ?_
  rintro e wx ⟨rfl, rfl⟩
  go_wp2
  go_ret2
  exact ⟨rfl, rfl⟩

set_option maxRecDepth 100000 in
theorem rtwo_mul (X a b N m p : Int) (K : Nat) (HV : Hid (X = 1 ∨ X = 2 ∨ X = 3)) (HN : Hid ((nb X : Int) = N)) (n1 : 8 ≤ N) (n2 : N ≤ 64) (hm : Hid (wrp X a = m)) (hp : Hid (wrp X b = p)) (Im : Hid (In m)) (Ip : Hid (In p)) (HK : Hid ((b % (nb X : Int)).toNat = K)) (hk : (IntKind.u64.wrap p).tmod N = (K : Int)) (k63 : K ≤ 63) (w : World) (M : Int) (HM : Hid (two 13 X a b = M)) :
    Calls Try.prog 17 #[.int .u8 13, .int .u8 X, .int .i64 a, .int .i64 b] w fun e w' => e = .returned (.tuple #[.int .i64 M, .int .i64 0]) ∧ w = w' := by
  have n0 : (N == 0) = false := by simp; omega
  have n0' : ¬ N = 0 := by omega
  go_enter Try.func17, Try.ntmps17
  go_wp2_with fail
  refine (rbits_as X N HN.out _).mono ?_
  rintro e wx ⟨rfl, rfl⟩
  go_wp2_with fail
  refine (rwrap_as X a m hm.out _).mono ?_
  rintro e wx ⟨rfl, rfl⟩
  go_wp2_with fail
  refine (rwrap_as X b p hp.out _).mono ?_
  rintro e wx ⟨rfl, rfl⟩
  go_wp2_with fail
  refine (rwrap_as X _ M ((e_mul X a b m p hm.out hp.out).trans HM.out) _).mono ?_
  rintro e wx ⟨rfl, rfl⟩
  go_wp2
  go_ret2
  exact ⟨rfl, rfl⟩

set_option maxRecDepth 100000 in
theorem rtwo_div0 (X a b N m p : Int) (K : Nat) (HV : Hid (X = 1 ∨ X = 2 ∨ X = 3)) (HN : Hid ((nb X : Int) = N)) (n1 : 8 ≤ N) (n2 : N ≤ 64) (hm : Hid (wrp X a = m)) (hp : Hid (wrp X b = p)) (Im : Hid (In m)) (Ip : Hid (In p)) (HK : Hid ((b % (nb X : Int)).toNat = K)) (hk : (IntKind.u64.wrap p).tmod N = (K : Int)) (k63 : K ≤ 63) (w : World) (p0 : p = 0) :
    Calls Try.prog 17 #[.int .u8 14, .int .u8 X, .int .i64 a, .int .i64 b] w fun e w' => e = .returned (.tuple #[.int .i64 0, .int .i64 1]) ∧ w = w' := by
  have n0 : (N == 0) = false := by simp; omega
  have n0' : ¬ N = 0 := by omega
  subst p0
  go_enter Try.func17, Try.ntmps17
  go_wp2_with fail
  refine (rbits_as X N HN.out _).mono ?_
  rintro e wx ⟨rfl, rfl⟩
  go_wp2_with fail
  refine (rwrap_as X a m hm.out _).mono ?_
  rintro e wx ⟨rfl, rfl⟩
  go_wp2_with fail
  refine (rwrap_as X b 0 hp.out _).mono ?_
  rintro e wx ⟨rfl, rfl⟩
  go_wp2
  go_ret2
  exact ⟨rfl, rfl⟩

set_option maxRecDepth 100000 in
theorem rtwo_div1 (X a b N m p : Int) (K : Nat) (HV : Hid (X = 1 ∨ X = 2 ∨ X = 3)) (HN : Hid ((nb X : Int) = N)) (n1 : 8 ≤ N) (n2 : N ≤ 64) (hm : Hid (wrp X a = m)) (hp : Hid (wrp X b = p)) (Im : Hid (In m)) (Ip : Hid (In p)) (HK : Hid ((b % (nb X : Int)).toNat = K)) (hk : (IntKind.u64.wrap p).tmod N = (K : Int)) (k63 : K ≤ 63) (w : World) (pz : ¬ p = 0) (M : Int) (HM : Hid (two 14 X a b = M)) :
    Calls Try.prog 17 #[.int .u8 14, .int .u8 X, .int .i64 a, .int .i64 b] w fun e w' => e = .returned (.tuple #[.int .i64 M, .int .i64 0]) ∧ w = w' := by
  have n0 : (N == 0) = false := by simp; omega
  have n0' : ¬ N = 0 := by omega
  obtain ⟨q, hq, Iq⟩ : ∃ q, Hid (wrap64 (m.tdiv p) = q) ∧ Hid (In q) := ⟨_, rfl, by unfold Hid; rw [wrap_w64]; exact toInt_in64 (by omega) _⟩
  obtain ⟨r, hr⟩ : ∃ r, Hid (m.tmod p = r) := ⟨_, rfl⟩
  have HZ : Hid (¬ p = 0) := pz
  have p0 : (p == 0) = false := by simp [pz]
  clear pz
  go_enter Try.func17, Try.ntmps17
  go_wp2_with fail
  refine (rbits_as X N HN.out _).mono ?_
  rintro e wx ⟨rfl, rfl⟩
  go_wp2_with fail
  refine (rwrap_as X a m hm.out _).mono ?_
  rintro e wx ⟨rfl, rfl⟩
  go_wp2_with fail
  refine (rwrap_as X b p hp.out _).mono ?_
  rintro e wx ⟨rfl, rfl⟩
  go_wp2_with fail
  refine (rdivided_as m p q r hq.out hr.out Im.out Ip.out HZ.out _).mono ?_
  rintro e wx ⟨rfl, rfl⟩
  go_wp2_with fail
  refine (rwrap_as X q M (by rw [← hq.out]; exact (e_div X a b m p hm.out hp.out).trans HM.out) _).mono ?_
  rintro e wx ⟨rfl, rfl⟩
  go_wp2
  go_ret2
  exact ⟨rfl, rfl⟩

set_option maxRecDepth 100000 in
theorem rtwo_rem0 (X a b N m p : Int) (K : Nat) (HV : Hid (X = 1 ∨ X = 2 ∨ X = 3)) (HN : Hid ((nb X : Int) = N)) (n1 : 8 ≤ N) (n2 : N ≤ 64) (hm : Hid (wrp X a = m)) (hp : Hid (wrp X b = p)) (Im : Hid (In m)) (Ip : Hid (In p)) (HK : Hid ((b % (nb X : Int)).toNat = K)) (hk : (IntKind.u64.wrap p).tmod N = (K : Int)) (k63 : K ≤ 63) (w : World) (p0 : p = 0) :
    Calls Try.prog 17 #[.int .u8 15, .int .u8 X, .int .i64 a, .int .i64 b] w fun e w' => e = .returned (.tuple #[.int .i64 0, .int .i64 1]) ∧ w = w' := by
  have n0 : (N == 0) = false := by simp; omega
  have n0' : ¬ N = 0 := by omega
  subst p0
  go_enter Try.func17, Try.ntmps17
  go_wp2_with fail
  refine (rbits_as X N HN.out _).mono ?_
  rintro e wx ⟨rfl, rfl⟩
  go_wp2_with fail
  refine (rwrap_as X a m hm.out _).mono ?_
  rintro e wx ⟨rfl, rfl⟩
  go_wp2_with fail
  refine (rwrap_as X b 0 hp.out _).mono ?_
  rintro e wx ⟨rfl, rfl⟩
  go_wp2
  go_ret2
  exact ⟨rfl, rfl⟩

set_option maxRecDepth 100000 in
theorem rtwo_rem1 (X a b N m p : Int) (K : Nat) (HV : Hid (X = 1 ∨ X = 2 ∨ X = 3)) (HN : Hid ((nb X : Int) = N)) (n1 : 8 ≤ N) (n2 : N ≤ 64) (hm : Hid (wrp X a = m)) (hp : Hid (wrp X b = p)) (Im : Hid (In m)) (Ip : Hid (In p)) (HK : Hid ((b % (nb X : Int)).toNat = K)) (hk : (IntKind.u64.wrap p).tmod N = (K : Int)) (k63 : K ≤ 63) (w : World) (pz : ¬ p = 0) (M : Int) (HM : Hid (two 15 X a b = M)) :
    Calls Try.prog 17 #[.int .u8 15, .int .u8 X, .int .i64 a, .int .i64 b] w fun e w' => e = .returned (.tuple #[.int .i64 M, .int .i64 0]) ∧ w = w' := by
  have n0 : (N == 0) = false := by simp; omega
  have n0' : ¬ N = 0 := by omega
  obtain ⟨q, hq, Iq⟩ : ∃ q, Hid (wrap64 (m.tdiv p) = q) ∧ Hid (In q) := ⟨_, rfl, by unfold Hid; rw [wrap_w64]; exact toInt_in64 (by omega) _⟩
  obtain ⟨r, hr⟩ : ∃ r, Hid (m.tmod p = r) := ⟨_, rfl⟩
  have HZ : Hid (¬ p = 0) := pz
  have p0 : (p == 0) = false := by simp [pz]
  clear pz
  go_enter Try.func17, Try.ntmps17
  go_wp2_with fail
  refine (rbits_as X N HN.out _).mono ?_
  rintro e wx ⟨rfl, rfl⟩
  go_wp2_with fail
  refine (rwrap_as X a m hm.out _).mono ?_
  rintro e wx ⟨rfl, rfl⟩
  go_wp2_with fail
  refine (rwrap_as X b p hp.out _).mono ?_
  rintro e wx ⟨rfl, rfl⟩
  go_wp2_with fail
  refine (rdivided_as m p q r hq.out hr.out Im.out Ip.out HZ.out _).mono ?_
  rintro e wx ⟨rfl, rfl⟩
  go_wp2_with fail
  refine (rwrap_as X r M (by rw [← hr.out]; exact (e_rem X a b m p hm.out hp.out HZ.out).trans HM.out) _).mono ?_
  rintro e wx ⟨rfl, rfl⟩
  go_wp2
  go_ret2
  exact ⟨rfl, rfl⟩

set_option maxRecDepth 100000 in
theorem rtwo_and (X a b N m p : Int) (K : Nat) (HV : Hid (X = 1 ∨ X = 2 ∨ X = 3)) (HN : Hid ((nb X : Int) = N)) (n1 : 8 ≤ N) (n2 : N ≤ 64) (hm : Hid (wrp X a = m)) (hp : Hid (wrp X b = p)) (Im : Hid (In m)) (Ip : Hid (In p)) (HK : Hid ((b % (nb X : Int)).toNat = K)) (hk : (IntKind.u64.wrap p).tmod N = (K : Int)) (k63 : K ≤ 63) (w : World) (M : Int) (HM : Hid (two 16 X a b = M)) :
    Calls Try.prog 17 #[.int .u8 16, .int .u8 X, .int .i64 a, .int .i64 b] w fun e w' => e = .returned (.tuple #[.int .i64 M, .int .i64 0]) ∧ w = w' := by
  have n0 : (N == 0) = false := by simp; omega
  have n0' : ¬ N = 0 := by omega
  obtain ⟨z, hz⟩ : ∃ z, Hid ((BitVec.ofInt 64 m &&& BitVec.ofInt 64 p).toInt = z) := ⟨_, rfl⟩
  go_enter Try.func17, Try.ntmps17
  go_wp2_with fail
  refine (rbits_as X N HN.out _).mono ?_
  rintro e wx ⟨rfl, rfl⟩
  go_wp2_with fail
  refine (rwrap_as X a m hm.out _).mono ?_
  rintro e wx ⟨rfl, rfl⟩
  go_wp2_with fail
  refine (rwrap_as X b p hp.out _).mono ?_
  rintro e wx ⟨rfl, rfl⟩
  go_wp2_with fail
  refine (rand_as m p z hz.out _).mono ?_
  rintro e wx ⟨rfl, rfl⟩
  go_wp2_with fail
  refine (rwrap_as X z M (by rw [← hz.out]; exact (e_and X a b m p hm.out hp.out).trans HM.out) _).mono ?_
  rintro e wx ⟨rfl, rfl⟩
  go_wp2
  go_ret2
  exact ⟨rfl, rfl⟩

set_option maxRecDepth 100000 in
theorem rtwo_or (X a b N m p : Int) (K : Nat) (HV : Hid (X = 1 ∨ X = 2 ∨ X = 3)) (HN : Hid ((nb X : Int) = N)) (n1 : 8 ≤ N) (n2 : N ≤ 64) (hm : Hid (wrp X a = m)) (hp : Hid (wrp X b = p)) (Im : Hid (In m)) (Ip : Hid (In p)) (HK : Hid ((b % (nb X : Int)).toNat = K)) (hk : (IntKind.u64.wrap p).tmod N = (K : Int)) (k63 : K ≤ 63) (w : World) (M : Int) (HM : Hid (two 17 X a b = M)) :
    Calls Try.prog 17 #[.int .u8 17, .int .u8 X, .int .i64 a, .int .i64 b] w fun e w' => e = .returned (.tuple #[.int .i64 M, .int .i64 0]) ∧ w = w' := by
  have n0 : (N == 0) = false := by simp; omega
  have n0' : ¬ N = 0 := by omega
  obtain ⟨z, hz⟩ : ∃ z, Hid ((BitVec.ofInt 64 m ||| BitVec.ofInt 64 p).toInt = z) := ⟨_, rfl⟩
  go_enter Try.func17, Try.ntmps17
  go_wp2_with fail
  refine (rbits_as X N HN.out _).mono ?_
  rintro e wx ⟨rfl, rfl⟩
  go_wp2_with fail
  refine (rwrap_as X a m hm.out _).mono ?_
  rintro e wx ⟨rfl, rfl⟩
  go_wp2_with fail
  refine (rwrap_as X b p hp.out _).mono ?_
  rintro e wx ⟨rfl, rfl⟩
  go_wp2_with fail
  refine (ror_as m p z hz.out _).mono ?_
  rintro e wx ⟨rfl, rfl⟩
  go_wp2_with fail
  refine (rwrap_as X z M (by rw [← hz.out]; exact (e_or X a b m p hm.out hp.out).trans HM.out) _).mono ?_
  rintro e wx ⟨rfl, rfl⟩
  go_wp2
  go_ret2
  exact ⟨rfl, rfl⟩

set_option maxRecDepth 100000 in
theorem rtwo_xor (X a b N m p : Int) (K : Nat) (HV : Hid (X = 1 ∨ X = 2 ∨ X = 3)) (HN : Hid ((nb X : Int) = N)) (n1 : 8 ≤ N) (n2 : N ≤ 64) (hm : Hid (wrp X a = m)) (hp : Hid (wrp X b = p)) (Im : Hid (In m)) (Ip : Hid (In p)) (HK : Hid ((b % (nb X : Int)).toNat = K)) (hk : (IntKind.u64.wrap p).tmod N = (K : Int)) (k63 : K ≤ 63) (w : World) (M : Int) (HM : Hid (two 18 X a b = M)) :
    Calls Try.prog 17 #[.int .u8 18, .int .u8 X, .int .i64 a, .int .i64 b] w fun e w' => e = .returned (.tuple #[.int .i64 M, .int .i64 0]) ∧ w = w' := by
  have n0 : (N == 0) = false := by simp; omega
  have n0' : ¬ N = 0 := by omega
  obtain ⟨z, hz⟩ : ∃ z, Hid ((BitVec.ofInt 64 m ^^^ BitVec.ofInt 64 p).toInt = z) := ⟨_, rfl⟩
  go_enter Try.func17, Try.ntmps17
  go_wp2_with fail
  refine (rbits_as X N HN.out _).mono ?_
  rintro e wx ⟨rfl, rfl⟩
  go_wp2_with fail
  refine (rwrap_as X a m hm.out _).mono ?_
  rintro e wx ⟨rfl, rfl⟩
  go_wp2_with fail
  refine (rwrap_as X b p hp.out _).mono ?_
  rintro e wx ⟨rfl, rfl⟩
  go_wp2_with fail
  refine (rxor_as m p z hz.out _).mono ?_
  rintro e wx ⟨rfl, rfl⟩
  go_wp2_with fail
  refine (rwrap_as X z M (by rw [← hz.out]; exact (e_xor X a b m p hm.out hp.out).trans HM.out) _).mono ?_
  rintro e wx ⟨rfl, rfl⟩
  go_wp2
  go_ret2
  exact ⟨rfl, rfl⟩

set_option maxRecDepth 100000 in
theorem rtwo_shl (X a b N m p : Int) (K : Nat) (HV : Hid (X = 1 ∨ X = 2 ∨ X = 3)) (HN : Hid ((nb X : Int) = N)) (n1 : 8 ≤ N) (n2 : N ≤ 64) (hm : Hid (wrp X a = m)) (hp : Hid (wrp X b = p)) (Im : Hid (In m)) (Ip : Hid (In p)) (HK : Hid ((b % (nb X : Int)).toNat = K)) (hk : (IntKind.u64.wrap p).tmod N = (K : Int)) (k63 : K ≤ 63) (w : World) (M : Int) (HM : Hid (two 19 X a b = M)) :
    Calls Try.prog 17 #[.int .u8 19, .int .u8 X, .int .i64 a, .int .i64 b] w fun e w' => e = .returned (.tuple #[.int .i64 M, .int .i64 0]) ∧ w = w' := by
  have n0 : (N == 0) = false := by simp; omega
  have n0' : ¬ N = 0 := by omega
  obtain ⟨P, hP⟩ : ∃ P, Hid (wrap64 (IntKind.u64.wrap (2 ^ K)) = P) := ⟨_, rfl⟩
  go_enter Try.func17, Try.ntmps17
  go_wp2_with fail
  refine (rbits_as X N HN.out _).mono ?_
  rintro e wx ⟨rfl, rfl⟩
  go_wp2_with fail
  refine (rwrap_as X a m hm.out _).mono ?_
  rintro e wx ⟨rfl, rfl⟩
  go_wp2_with fail
  refine (rwrap_as X b p hp.out _).mono ?_
  rintro e wx ⟨rfl, rfl⟩
  go_wp2_with fail
  refine (rpower_as K P hP.out k63 _).mono ?_
  rintro e wx ⟨rfl, rfl⟩
  go_wp2_with fail
  refine (rwrap_as X _ M (by rw [← hP.out]; exact (e_shl X a b m K HV.out hm.out HK.out).trans HM.out) _).mono ?_
  rintro e wx ⟨rfl, rfl⟩
  go_wp2
  go_ret2
  exact ⟨rfl, rfl⟩

set_option maxRecDepth 100000 in
theorem rtwo_shr (X a b N m p : Int) (K : Nat) (HV : Hid (X = 1 ∨ X = 2 ∨ X = 3)) (HN : Hid ((nb X : Int) = N)) (n1 : 8 ≤ N) (n2 : N ≤ 64) (hm : Hid (wrp X a = m)) (hp : Hid (wrp X b = p)) (Im : Hid (In m)) (Ip : Hid (In p)) (HK : Hid ((b % (nb X : Int)).toNat = K)) (hk : (IntKind.u64.wrap p).tmod N = (K : Int)) (k63 : K ≤ 63) (w : World) (M : Int) (HM : Hid (two 20 X a b = M)) :
    Calls Try.prog 17 #[.int .u8 20, .int .u8 X, .int .i64 a, .int .i64 b] w fun e w' => e = .returned (.tuple #[.int .i64 M, .int .i64 0]) ∧ w = w' := by
  have n0 : (N == 0) = false := by simp; omega
  have n0' : ¬ N = 0 := by omega
  obtain ⟨z, hz⟩ : ∃ z, Hid (m / 2 ^ K = z) := ⟨_, rfl⟩
  go_enter Try.func17, Try.ntmps17
  go_wp2_with fail
  refine (rbits_as X N HN.out _).mono ?_
  rintro e wx ⟨rfl, rfl⟩
  go_wp2_with fail
  refine (rwrap_as X a m hm.out _).mono ?_
  rintro e wx ⟨rfl, rfl⟩
  go_wp2_with fail
  refine (rwrap_as X b p hp.out _).mono ?_
  rintro e wx ⟨rfl, rfl⟩
  go_wp2_with fail
  refine (rdown_as m K z hz.out Im.out k63 _).mono ?_
  rintro e wx ⟨rfl, rfl⟩
  go_wp2_with fail
  refine (rwrap_as X z M (by rw [← hz.out]; exact (e_shr X a b m K HV.out hm.out HK.out).trans HM.out) _).mono ?_
  rintro e wx ⟨rfl, rfl⟩
  go_wp2
  go_ret2
  exact ⟨rfl, rfl⟩

set_option maxRecDepth 100000 in
theorem rtwo_other (X a b N m p : Int) (K : Nat) (HV : Hid (X = 1 ∨ X = 2 ∨ X = 3)) (HN : Hid ((nb X : Int) = N)) (n1 : 8 ≤ N) (n2 : N ≤ 64) (hm : Hid (wrp X a = m)) (hp : Hid (wrp X b = p)) (Im : Hid (In m)) (Ip : Hid (In p)) (HK : Hid ((b % (nb X : Int)).toNat = K)) (hk : (IntKind.u64.wrap p).tmod N = (K : Int)) (k63 : K ≤ 63) (w : World) (op : Int) (hop : op < 11 ∨ 20 < op) (M : Int) (HM : Hid (two op X a b = M)) :
    Calls Try.prog 17 #[.int .u8 op, .int .u8 X, .int .i64 a, .int .i64 b] w fun e w' => e = .returned (.tuple #[.int .i64 M, .int .i64 0]) ∧ w = w' := by
  have n0 : (N == 0) = false := by simp; omega
  have n0' : ¬ N = 0 := by omega
  have e11 : (op == 11) = false := by simp; omega
  have e12 : (op == 12) = false := by simp; omega
  have e13 : (op == 13) = false := by simp; omega
  have e14 : (op == 14) = false := by simp; omega
  have e15 : (op == 15) = false := by simp; omega
  have e16 : (op == 16) = false := by simp; omega
  have e17 : (op == 17) = false := by simp; omega
  have e18 : (op == 18) = false := by simp; omega
  have e19 : (op == 19) = false := by simp; omega
  have e20 : (op == 20) = false := by simp; omega
  have HO : Hid (op < 11 ∨ 20 < op) := hop
  clear hop
  go_enter Try.func17, Try.ntmps17
  go_wp2_with fail
  refine (rbits_as X N HN.out _).mono ?_
  rintro e wx ⟨rfl, rfl⟩
  go_wp2_with fail
  refine (rwrap_as X a m hm.out _).mono ?_
  rintro e wx ⟨rfl, rfl⟩
  go_wp2_with fail
  refine (rwrap_as X b p hp.out _).mono ?_
  rintro e wx ⟨rfl, rfl⟩
  go_wp2_with fail
  refine (rwrap_as X 0 M ((e_other op X a b HO.out).trans HM.out) _).mono ?_
  rintro e wx ⟨rfl, rfl⟩
  go_wp2
  go_ret2
  exact ⟨rfl, rfl⟩

set_option maxRecDepth 100000 in
theorem rtwo_none (op X a b : Int) (HN : Hid ((nb X : Int) = 0)) (w : World) : Calls Try.prog 17 #[.int .u8 op, .int .u8 X, .int .i64 a, .int .i64 b] w fun e w' => e = .returned (.tuple #[.int .i64 0, .int .i64 0]) ∧ w = w' := by
  go_enter Try.func17, Try.ntmps17
  go_wp2_with fail
  refine (rbits_as X 0 HN.out _).mono ?_
  rintro e wx ⟨rfl, rfl⟩
  go_wp2
  go_ret2
  exact ⟨rfl, rfl⟩


theorem rtwo_any (op X a b : Int) (w : World) : Calls Try.prog 17 #[.int .u8 op, .int .u8 X, .int .i64 a, .int .i64 b] w fun e w' => e = .returned (.tuple #[.int .i64 (two op X a b), .int .i64 (trap op X b)]) ∧ w = w' := by
  by_cases hX : X = 1 ∨ X = 2 ∨ X = 3
  · have hn := nb_pos hX
    have h8 : 8 ≤ (nb X : Int) ∧ (nb X : Int) ≤ 64 := by rcases hX with rfl | rfl | rfl <;> decide
    have hk := e_count X b _ hX rfl
    have hK : (b % (nb X : Int)).toNat ≤ 63 := by
      have h1 := Int.emod_lt_of_pos b (show (0 : Int) < nb X by omega)
      have h2 := Int.emod_nonneg b (show (nb X : Int) ≠ 0 by omega)
      omega
    have im := wrp_in X a
    have ip := wrp_in X b
    by_cases hop : op < 11 ∨ 20 < op
    · rw [show trap op X b = 0 from trapB_other (by omega) (by omega)]
      exact rtwo_other X a b _ _ _ _ hX rfl h8.1 h8.2 rfl rfl im ip rfl hk hK w op hop _ rfl
    rcases (by omega : op = 11 ∨ op = 12 ∨ op = 13 ∨ op = 14 ∨ op = 15 ∨ op = 16 ∨ op = 17 ∨ op = 18 ∨ op = 19 ∨ op = 20) with rfl | rfl | rfl | rfl | rfl | rfl | rfl | rfl | rfl | rfl
    · rw [show trap 11 X b = 0 from trapB_other (by omega) (by omega)]
      exact rtwo_add X a b _ _ _ _ hX rfl h8.1 h8.2 rfl rfl im ip rfl hk hK w _ rfl
    · rw [show trap 12 X b = 0 from trapB_other (by omega) (by omega)]
      exact rtwo_sub X a b _ _ _ _ hX rfl h8.1 h8.2 rfl rfl im ip rfl hk hK w _ rfl
    · rw [show trap 13 X b = 0 from trapB_other (by omega) (by omega)]
      exact rtwo_mul X a b _ _ _ _ hX rfl h8.1 h8.2 rfl rfl im ip rfl hk hK w _ rfl
    · by_cases hz : wrp X b = 0
      · rw [div_zero' X a b hz, trap_zero' _ X b hX (by omega) hz]
        exact rtwo_div0 X a b _ _ _ _ hX rfl h8.1 h8.2 rfl rfl im ip rfl hk hK w hz
      · rw [trap_by' _ X b hz]
        exact rtwo_div1 X a b _ _ _ _ hX rfl h8.1 h8.2 rfl rfl im ip rfl hk hK w hz _ rfl
    · by_cases hz : wrp X b = 0
      · rw [rem_zero' X a b hz, trap_zero' _ X b hX (by omega) hz]
        exact rtwo_rem0 X a b _ _ _ _ hX rfl h8.1 h8.2 rfl rfl im ip rfl hk hK w hz
      · rw [trap_by' _ X b hz]
        exact rtwo_rem1 X a b _ _ _ _ hX rfl h8.1 h8.2 rfl rfl im ip rfl hk hK w hz _ rfl
    · rw [show trap 16 X b = 0 from trapB_other (by omega) (by omega)]
      exact rtwo_and X a b _ _ _ _ hX rfl h8.1 h8.2 rfl rfl im ip rfl hk hK w _ rfl
    · rw [show trap 17 X b = 0 from trapB_other (by omega) (by omega)]
      exact rtwo_or X a b _ _ _ _ hX rfl h8.1 h8.2 rfl rfl im ip rfl hk hK w _ rfl
    · rw [show trap 18 X b = 0 from trapB_other (by omega) (by omega)]
      exact rtwo_xor X a b _ _ _ _ hX rfl h8.1 h8.2 rfl rfl im ip rfl hk hK w _ rfl
    · rw [show trap 19 X b = 0 from trapB_other (by omega) (by omega)]
      exact rtwo_shl X a b _ _ _ _ hX rfl h8.1 h8.2 rfl rfl im ip rfl hk hK w _ rfl
    · rw [show trap 20 X b = 0 from trapB_other (by omega) (by omega)]
      exact rtwo_shr X a b _ _ _ _ hX rfl h8.1 h8.2 rfl rfl im ip rfl hk hK w _ rfl
  · have h0 : nb X = 0 := nb_none (by omega) (by omega) (by omega)
    rw [show two op X a b = 0 from bv_none h0 _, show trap op X b = 0 by unfold trap trapB; rw [if_neg (fun q => q.2.2 h0)]]
    exact rtwo_none op X a b (by unfold Hid; omega) w
theorem rtwo_as (op X a b n t : Int) (hn : two op X a b = n) (ht : trap op X b = t) (w : World) : Calls Try.prog 17 #[.int .u8 op, .int .u8 X, .int .i64 a, .int .i64 b] w fun e w' => e = .returned (.tuple #[.int .i64 n, .int .i64 t]) ∧ w = w' := by
  subst hn ht; exact rtwo_any op X a b w

set_option maxRecDepth 100000 in
theorem rone_as (op X a n : Int) (hn : one op X a = n) (w : World) : Calls Try.prog 19 #[.int .u8 op, .int .u8 X, .int .i64 a] w fun e w' => e = .returned (.int .i64 n) ∧ w = w' := by
  have HN : Hid (one op X a = n) := hn
  obtain ⟨m, hm⟩ : ∃ m, Hid (wrp X a = m) := ⟨_, rfl⟩
  clear hn
  by_cases h1 : op = 21
  · subst h1
    go_enter Try.func19, Try.ntmps19
    go_wp2_with fail
    refine (rwrap_as X a m hm.out _).mono ?_
    rintro e wx ⟨rfl, rfl⟩
    go_wp2_with fail
    refine (rwrap_as X _ n ((e_neg X a m hm.out).trans HN.out) _).mono ?_
    rintro e wx ⟨rfl, rfl⟩
    go_wp2
    go_ret
    exact ⟨rfl, rfl⟩
  by_cases h2 : op = 22
  · subst h2
    go_enter Try.func19, Try.ntmps19
    go_wp2_with fail
    refine (rwrap_as X a m hm.out _).mono ?_
    rintro e wx ⟨rfl, rfl⟩
    go_wp2_with fail
    refine (rwrap_as X _ n ((e_not X a m hm.out).trans HN.out) _).mono ?_
    rintro e wx ⟨rfl, rfl⟩
    go_wp2
    go_ret
    exact ⟨rfl, rfl⟩
  have h0 : one op X a = 0 := by unfold one oneB; rw [if_neg h1, if_neg h2, BitVec.toInt_zero]
  obtain rfl : n = 0 := by rw [← HN.out]; exact h0
  have e1 : (op == 21) = false := by simp [h1]
  have e2 : (op == 22) = false := by simp [h2]
  clear h0 h1 h2
  go_enter Try.func19, Try.ntmps19
  go_wp2
  go_ret
  exact ⟨rfl, rfl⟩

set_option maxRecDepth 100000 in
theorem rtest_none (op X a b : Int) (HN : Hid ((nb X : Int) = 0)) (w : World) : Calls Try.prog 21 #[.int .u8 op, .int .u8 X, .int .i64 a, .int .i64 b] w fun e w' => e = .returned (.bool false) ∧ w = w' := by
  go_enter Try.func21, Try.ntmps21
  go_wp2_with fail
  refine (rbits_as X 0 HN.out _).mono ?_
  rintro e wx ⟨rfl, rfl⟩
  go_wp2
  go_ret
  exact ⟨rfl, rfl⟩

set_option maxRecDepth 100000 in
theorem rtest_eq (X a b N m p : Int) (HN : Hid ((nb X : Int) = N)) (n0 : (N == 0) = false) (hm : Hid (wrp X a = m)) (hp : Hid (wrp X b = p)) (w : World) :
    Calls Try.prog 21 #[.int .u8 23, .int .u8 X, .int .i64 a, .int .i64 b] w fun e w' => e = .returned (.bool (decide (m = p))) ∧ w = w' := by
  go_enter Try.func21, Try.ntmps21
  go_wp2_with fail
  refine (rbits_as X N HN.out _).mono ?_
  rintro e wx ⟨rfl, rfl⟩
  go_wp2_with fail
  refine (rwrap_as X a m hm.out _).mono ?_
  rintro e wx ⟨rfl, rfl⟩
  go_wp2_with fail
  refine (rwrap_as X b p hp.out _).mono ?_
  rintro e wx ⟨rfl, rfl⟩
  go_wp2
  go_ret
  exact ⟨ret_bool (by rw [Bool.eq_iff_iff]; simp), rfl⟩

set_option maxRecDepth 100000 in
theorem rtest_ne (X a b N m p : Int) (HN : Hid ((nb X : Int) = N)) (n0 : (N == 0) = false) (hm : Hid (wrp X a = m)) (hp : Hid (wrp X b = p)) (w : World) :
    Calls Try.prog 21 #[.int .u8 24, .int .u8 X, .int .i64 a, .int .i64 b] w fun e w' => e = .returned (.bool (decide (m ≠ p))) ∧ w = w' := by
  go_enter Try.func21, Try.ntmps21
  go_wp2_with fail
  refine (rbits_as X N HN.out _).mono ?_
  rintro e wx ⟨rfl, rfl⟩
  go_wp2_with fail
  refine (rwrap_as X a m hm.out _).mono ?_
  rintro e wx ⟨rfl, rfl⟩
  go_wp2_with fail
  refine (rwrap_as X b p hp.out _).mono ?_
  rintro e wx ⟨rfl, rfl⟩
  go_wp2
  go_ret
  exact ⟨ret_bool (by rw [Bool.eq_iff_iff]; simp), rfl⟩

set_option maxRecDepth 100000 in
theorem rtest_lt (X a b N m p : Int) (HN : Hid ((nb X : Int) = N)) (n0 : (N == 0) = false) (hm : Hid (wrp X a = m)) (hp : Hid (wrp X b = p)) (w : World) :
    Calls Try.prog 21 #[.int .u8 25, .int .u8 X, .int .i64 a, .int .i64 b] w fun e w' => e = .returned (.bool (decide (m < p))) ∧ w = w' := by
  go_enter Try.func21, Try.ntmps21
  go_wp2_with fail
  refine (rbits_as X N HN.out _).mono ?_
  rintro e wx ⟨rfl, rfl⟩
  go_wp2_with fail
  refine (rwrap_as X a m hm.out _).mono ?_
  rintro e wx ⟨rfl, rfl⟩
  go_wp2_with fail
  refine (rwrap_as X b p hp.out _).mono ?_
  rintro e wx ⟨rfl, rfl⟩
  go_wp2
  go_ret
  exact ⟨ret_bool (rfl), rfl⟩

set_option maxRecDepth 100000 in
theorem rtest_le (X a b N m p : Int) (HN : Hid ((nb X : Int) = N)) (n0 : (N == 0) = false) (hm : Hid (wrp X a = m)) (hp : Hid (wrp X b = p)) (w : World) :
    Calls Try.prog 21 #[.int .u8 26, .int .u8 X, .int .i64 a, .int .i64 b] w fun e w' => e = .returned (.bool (decide (m ≤ p))) ∧ w = w' := by
  go_enter Try.func21, Try.ntmps21
  go_wp2_with fail
  refine (rbits_as X N HN.out _).mono ?_
  rintro e wx ⟨rfl, rfl⟩
  go_wp2_with fail
  refine (rwrap_as X a m hm.out _).mono ?_
  rintro e wx ⟨rfl, rfl⟩
  go_wp2_with fail
  refine (rwrap_as X b p hp.out _).mono ?_
  rintro e wx ⟨rfl, rfl⟩
  go_wp2
  go_ret
  exact ⟨ret_bool (rfl), rfl⟩

set_option maxRecDepth 100000 in
theorem rtest_gt (X a b N m p : Int) (HN : Hid ((nb X : Int) = N)) (n0 : (N == 0) = false) (hm : Hid (wrp X a = m)) (hp : Hid (wrp X b = p)) (w : World) :
    Calls Try.prog 21 #[.int .u8 27, .int .u8 X, .int .i64 a, .int .i64 b] w fun e w' => e = .returned (.bool (decide (p < m))) ∧ w = w' := by
  go_enter Try.func21, Try.ntmps21
  go_wp2_with fail
  refine (rbits_as X N HN.out _).mono ?_
  rintro e wx ⟨rfl, rfl⟩
  go_wp2_with fail
  refine (rwrap_as X a m hm.out _).mono ?_
  rintro e wx ⟨rfl, rfl⟩
  go_wp2_with fail
  refine (rwrap_as X b p hp.out _).mono ?_
  rintro e wx ⟨rfl, rfl⟩
  go_wp2
  go_ret
  exact ⟨ret_bool (rfl), rfl⟩

set_option maxRecDepth 100000 in
theorem rtest_ge (X a b N m p : Int) (HN : Hid ((nb X : Int) = N)) (n0 : (N == 0) = false) (hm : Hid (wrp X a = m)) (hp : Hid (wrp X b = p)) (w : World) :
    Calls Try.prog 21 #[.int .u8 28, .int .u8 X, .int .i64 a, .int .i64 b] w fun e w' => e = .returned (.bool (decide (p ≤ m))) ∧ w = w' := by
  go_enter Try.func21, Try.ntmps21
  go_wp2_with fail
  refine (rbits_as X N HN.out _).mono ?_
  rintro e wx ⟨rfl, rfl⟩
  go_wp2_with fail
  refine (rwrap_as X a m hm.out _).mono ?_
  rintro e wx ⟨rfl, rfl⟩
  go_wp2_with fail
  refine (rwrap_as X b p hp.out _).mono ?_
  rintro e wx ⟨rfl, rfl⟩
  go_wp2
  go_ret
  exact ⟨ret_bool (rfl), rfl⟩

set_option maxRecDepth 100000 in
theorem rtest_other (op X a b N m p : Int) (hop : op < 23 ∨ 28 < op) (HN : Hid ((nb X : Int) = N)) (n0 : (N == 0) = false) (hm : Hid (wrp X a = m)) (hp : Hid (wrp X b = p)) (w : World) :
    Calls Try.prog 21 #[.int .u8 op, .int .u8 X, .int .i64 a, .int .i64 b] w fun e w' => e = .returned (.bool false) ∧ w = w' := by
  have e23 : (op == 23) = false := by simp; omega
  have e24 : (op == 24) = false := by simp; omega
  have e25 : (op == 25) = false := by simp; omega
  have e26 : (op == 26) = false := by simp; omega
  have e27 : (op == 27) = false := by simp; omega
  have e28 : (op == 28) = false := by simp; omega
  clear hop
  go_enter Try.func21, Try.ntmps21
  go_wp2_with fail
  refine (rbits_as X N HN.out _).mono ?_
  rintro e wx ⟨rfl, rfl⟩
  go_wp2_with fail
  refine (rwrap_as X a m hm.out _).mono ?_
  rintro e wx ⟨rfl, rfl⟩
  go_wp2_with fail
  refine (rwrap_as X b p hp.out _).mono ?_
  rintro e wx ⟨rfl, rfl⟩
  go_wp2
  go_ret
  exact ⟨rfl, rfl⟩

theorem rtest_any (op X a b : Int) (w : World) : Calls Try.prog 21 #[.int .u8 op, .int .u8 X, .int .i64 a, .int .i64 b] w fun e w' => e = .returned (.bool (test op X a b)) ∧ w = w' := by
  by_cases hX : X = 1 ∨ X = 2 ∨ X = 3
  · have hn := nb_pos hX
    have n0 : ((nb X : Int) == 0) = false := by simp; omega
    have hz : ¬ nb X = 0 := by omega
    by_cases hop : op < 23 ∨ 28 < op
    · have : test op X a b = false := by
        unfold test testB
        iterate 7 rw [if_neg (by omega)]
      rw [this]
      exact rtest_other op X a b _ _ _ hop rfl n0 rfl rfl w
    rcases (by omega : op = 23 ∨ op = 24 ∨ op = 25 ∨ op = 26 ∨ op = 27 ∨ op = 28) with rfl | rfl | rfl | rfl | rfl | rfl
    · rw [show test 23 X a b = decide (wrp X a = wrp X b) by unfold test testB; rw [if_neg hz]; rfl]
      exact rtest_eq X a b _ _ _ rfl n0 rfl rfl w
    · rw [show test 24 X a b = decide (wrp X a ≠ wrp X b) by unfold test testB; rw [if_neg hz]; rfl]
      exact rtest_ne X a b _ _ _ rfl n0 rfl rfl w
    · rw [show test 25 X a b = decide (wrp X a < wrp X b) by unfold test testB; rw [if_neg hz]; rfl]
      exact rtest_lt X a b _ _ _ rfl n0 rfl rfl w
    · rw [show test 26 X a b = decide (wrp X a ≤ wrp X b) by unfold test testB; rw [if_neg hz]; rfl]
      exact rtest_le X a b _ _ _ rfl n0 rfl rfl w
    · rw [show test 27 X a b = decide (wrp X b < wrp X a) by unfold test testB; rw [if_neg hz]; rfl]
      exact rtest_gt X a b _ _ _ rfl n0 rfl rfl w
    · rw [show test 28 X a b = decide (wrp X b ≤ wrp X a) by unfold test testB; rw [if_neg hz]; rfl]
      exact rtest_ge X a b _ _ _ rfl n0 rfl rfl w
  · have h0 : nb X = 0 := nb_none (by omega) (by omega) (by omega)
    rw [show test op X a b = false by unfold test testB; rw [if_pos h0]]
    exact rtest_none op X a b (by unfold Hid; omega) w
theorem rtest_as (op X a b : Int) (t : Bool) (ht : test op X a b = t) (w : World) : Calls Try.prog 21 #[.int .u8 op, .int .u8 X, .int .i64 a, .int .i64 b] w fun e w' => e = .returned (.bool t) ∧ w = w' := by
  subst ht; exact rtest_any op X a b w
end Go.Proofs.Ytnfglmfioifciaa
