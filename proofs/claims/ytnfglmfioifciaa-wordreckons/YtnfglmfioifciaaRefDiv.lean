/-
  CONTRACTS of the document's long division: worth, over, divided; of power, down.
-/
import Derived.Test.YtnfglmfioifciaaRefWrap
import Derived.Test.YtnfglmfioifciaaDivMath
namespace Go.Proofs.Ytnfglmfioifciaa
open Go.RowKit
set_option linter.unusedVariables false

theorem rworth_any (n : Int) (h : In n) (w : World) : Calls Try.prog 41 #[.int .i64 n] w fun e w' => e = .returned (.int .u64 (n.natAbs : Int)) ∧ w = w' := by
  have h1 := h.out
  by_cases hn : n < 0
  · go_enter Try.func41, Try.ntmps41
    go_wp2
    go_ret
    refine ⟨ret_int ?_, rfl⟩
    simp only [IntKind.wrap_u64]; omega
  · go_enter Try.func41, Try.ntmps41
    go_wp2
    go_ret
    refine ⟨ret_int ?_, rfl⟩
    omega

def OverRel (A B : Nat) (q r i : Value) : Prop := ∃ (k Q R : Nat) (c : Int), k ≤ 64 ∧ i = .int .i64 c ∧ c = (k : Int) - 1 ∧ q = .int .u64 (Q : Int) ∧ r = .int .u64 (R : Int) ∧ Q = A / 2 ^ k / B * 2 ^ k ∧ R = A / 2 ^ k % B
set_option maxRecDepth 100000 in
theorem rover_any (A B : Nat) (HA : Hid (A < 18446744073709551616)) (HB : Hid (B < 18446744073709551616)) (hB : Hid (0 < B)) (w : World) :
    Calls Try.prog 40 #[.int .u64 (A : Int), .int .u64 (B : Int)] w fun e w' => e = .returned (.tuple #[.int .u64 ((A / B : Nat) : Int), .int .u64 ((A % B : Nat) : Int)]) ∧ w = w' := by
  go_enter Try.func40, Try.ntmps40
  go_wp2
  go_loop [6, 7, 8] (fun q r i => OverRel A B q r i) (fun _ _ i => (intOf i + 1).toNat)
  case atStart =>
    have hz : A / 2 ^ 64 = 0 := Nat.div_eq_of_lt HA.out
    exact ⟨64, 0, 0, 63, by omega, rfl, by omega, rfl, rfl, by rw [hz]; simp, by rw [hz]; simp⟩
  case round =>
    obtain ⟨k, Q, R, c, hk, rfl, hc, rfl, rfl, hQ, hR⟩ := hrel
    have HQ : Hid (Q = A / 2 ^ k / B * 2 ^ k) := hQ
    have HR : Hid (R = A / 2 ^ k % B) := hR
    clear hQ hR
    by_cases h0 : k = 0
    · subst h0
      obtain rfl : c = -1 := by omega
      clear hc hk
      go_wp2
      go_ret2
      refine ⟨ret2 ?_ ?_, rfl⟩
      · rw [HQ.out]; simp
      · rw [HR.out]; simp
    · obtain ⟨j, rfl⟩ : ∃ j, k = j + 1 := ⟨k - 1, by omega⟩
      obtain rfl : c = (j : Int) := by omega
      have hj : j < 64 := by omega
      clear hc hk h0
      have HRB : Hid (R < B) := by unfold Hid; rw [HR.out]; exact Nat.mod_lt _ hB.out
      by_cases h63 : R < 9223372036854775808
      · have hH : (R : Int) / 9223372036854775808 = 0 := by omega
        have HD : Hid (bits BinOp.or IntKind.u64 ((R : Int) * 2) (bits BinOp.and IntKind.u64 ((A : Int) / 2 ^ j) 1) = ((2 * R + A / 2 ^ j % 2 : Nat) : Int)) := or_bit R A j HA.out h63
        by_cases hlt : 2 * R + A / 2 ^ j % 2 < B
        · have HS := over_less A B j hB.out (by rw [← HR.out]; exact hlt)
          have HS' : Hid _ := HS
          have HL : Hid (2 * R + A / 2 ^ j % 2 < B) := hlt
          have hd : bits BinOp.or IntKind.u64 ((R : Int) * 2) (bits BinOp.and IntKind.u64 ((A : Int) / 2 ^ j) 1) < (B : Int) := by rw [HD.out]; omega
          clear HS hlt
          go_wp2
          go_round
          case rel =>
            refine ⟨j, _, 2 * R + A / 2 ^ j % 2, _, by omega, rfl, rfl, rfl, by rw [HD.out], ?_, ?_⟩
            · rw [HQ.out, HS'.out.1, Nat.pow_succ, Nat.mul_comm 2 (_ / B), Nat.mul_assoc, Nat.mul_comm 2]
            · rw [HS'.out.2, ← HR.out]
          case measure => simp [intOf]
        · have HS := over_more A B j hB.out (by rw [← HR.out]; exact hlt)
          have HS' : Hid _ := HS
          have HL : Hid (¬ 2 * R + A / 2 ^ j % 2 < B) := hlt
          have hd : ¬ bits BinOp.or IntKind.u64 ((R : Int) * 2) (bits BinOp.and IntKind.u64 ((A : Int) / 2 ^ j) 1) < (B : Int) := by rw [HD.out]; omega
          clear HS hlt
          go_wp2
          go_round
          case rel =>
            refine ⟨j, (2 * (A / 2 ^ (j + 1) / B) + 1) * 2 ^ j, 2 * R + A / 2 ^ j % 2 - B, _, by omega, rfl, rfl, ?_, ?_, ?_, ?_⟩
            · rw [HQ.out, or_quot A B j HA.out hj]
            · rw [HD.out, IntKind.wrap_u64]
              have h1 := HL.out
              have h2 := HRB.out
              have h3 := HB.out
              congr 1
              omega
            · rw [HS'.out.1]
            · rw [HS'.out.2, ← HR.out]
          case measure => simp [intOf]
      · have hR2 : R < 18446744073709551616 := by have h1 := HRB.out; have h2 := HB.out; omega
        have hH : (R : Int) / 9223372036854775808 = 1 := by omega
        have HD : Hid (bits BinOp.or IntKind.u64 (IntKind.u64.wrap ((R : Int) * 2)) (bits BinOp.and IntKind.u64 ((A : Int) / 2 ^ j) 1) = ((2 * R + A / 2 ^ j % 2 - 18446744073709551616 : Nat) : Int)) := or_bit_high R A j HA.out h63 hR2
        have HL : Hid (¬ 2 * R + A / 2 ^ j % 2 < B) := by have h2 := HB.out; unfold Hid; omega
        have HS := over_more A B j hB.out (by rw [← HR.out]; exact HL.out)
        have HS' : Hid _ := HS
        clear HS
        go_wp2
        go_round
        case rel =>
          refine ⟨j, (2 * (A / 2 ^ (j + 1) / B) + 1) * 2 ^ j, 2 * R + A / 2 ^ j % 2 - B, _, by omega, rfl, rfl, ?_, ?_, ?_, ?_⟩
          · rw [HQ.out, or_quot A B j HA.out hj]
          · rw [HD.out, IntKind.wrap_u64]
            have h1 := HL.out
            have h2 := HRB.out
            have h3 := HB.out
            congr 1
            omega
          · rw [HS'.out.1]
          · rw [HS'.out.2, ← HR.out]
        case measure => simp [intOf]

theorem rover_as (A B q r : Nat) (hq : A / B = q) (hr : A % B = r) (HA : Hid (A < 18446744073709551616)) (HB : Hid (B < 18446744073709551616)) (hB : Hid (0 < B)) (w : World) :
    Calls Try.prog 40 #[.int .u64 (A : Int), .int .u64 (B : Int)] w fun e w' => e = .returned (.tuple #[.int .u64 (q : Int), .int .u64 (r : Int)]) ∧ w = w' := by
  subst hq hr; exact rover_any A B HA HB hB w
theorem rworth_as (n : Int) (A : Nat) (hA : n.natAbs = A) (h : In n) (w : World) : Calls Try.prog 41 #[.int .i64 n] w fun e w' => e = .returned (.int .u64 (A : Int)) ∧ w = w' := by
  subst hA; exact rworth_any n h w

theorem tdiv_abs (a b : Int) : (0 ≤ a → 0 < b → a.tdiv b = ((a.natAbs / b.natAbs : Nat) : Int) ∧ a.tmod b = ((a.natAbs % b.natAbs : Nat) : Int)) ∧
    (a < 0 → 0 < b → a.tdiv b = -((a.natAbs / b.natAbs : Nat) : Int) ∧ a.tmod b = -((a.natAbs % b.natAbs : Nat) : Int)) ∧
    (0 ≤ a → b < 0 → a.tdiv b = -((a.natAbs / b.natAbs : Nat) : Int) ∧ a.tmod b = ((a.natAbs % b.natAbs : Nat) : Int)) ∧
    (a < 0 → b < 0 → a.tdiv b = ((a.natAbs / b.natAbs : Nat) : Int) ∧ a.tmod b = -((a.natAbs % b.natAbs : Nat) : Int)) := by
  refine ⟨fun h1 h2 => ?_, fun h1 h2 => ?_, fun h1 h2 => ?_, fun h1 h2 => ?_⟩
  · obtain ⟨A, rfl⟩ := Int.eq_ofNat_of_zero_le h1
    obtain ⟨B, rfl⟩ := Int.eq_ofNat_of_zero_le (Int.le_of_lt h2)
    exact ⟨rfl, rfl⟩
  · obtain ⟨A, hA⟩ := Int.eq_ofNat_of_zero_le (show 0 ≤ -a by omega)
    obtain ⟨B, rfl⟩ := Int.eq_ofNat_of_zero_le (Int.le_of_lt h2)
    obtain rfl : a = -(A : Int) := by omega
    rw [Int.neg_tdiv, Int.neg_tmod, Int.natAbs_neg]
    exact ⟨rfl, rfl⟩
  · obtain ⟨A, rfl⟩ := Int.eq_ofNat_of_zero_le h1
    obtain ⟨B, hB⟩ := Int.eq_ofNat_of_zero_le (show 0 ≤ -b by omega)
    obtain rfl : b = -(B : Int) := by omega
    rw [Int.tdiv_neg, Int.tmod_neg, Int.natAbs_neg]
    exact ⟨rfl, rfl⟩
  · obtain ⟨A, hA⟩ := Int.eq_ofNat_of_zero_le (show 0 ≤ -a by omega)
    obtain ⟨B, hB⟩ := Int.eq_ofNat_of_zero_le (show 0 ≤ -b by omega)
    obtain rfl : a = -(A : Int) := by omega
    obtain rfl : b = -(B : Int) := by omega
    rw [Int.neg_tdiv, Int.neg_tmod, Int.tdiv_neg, Int.tmod_neg, Int.natAbs_neg, Int.natAbs_neg, Int.neg_neg]
    exact ⟨rfl, rfl⟩

set_option maxRecDepth 100000 in
theorem rdivided_any (a b : Int) (ha : In a) (hb : In b) (hz : ¬ b = 0) (w : World) :
    Calls Try.prog 27 #[.int .i64 a, .int .i64 b] w fun e w' => e = .returned (.tuple #[.int .i64 (wrap64 (a.tdiv b)), .int .i64 (a.tmod b)]) ∧ w = w' := by
  have HT := tdiv_abs a b
  obtain ⟨A, hA⟩ : ∃ A, a.natAbs = A := ⟨_, rfl⟩
  obtain ⟨B, hB⟩ : ∃ B, b.natAbs = B := ⟨_, rfl⟩
  obtain ⟨q, hq⟩ : ∃ q, A / B = q := ⟨_, rfl⟩
  obtain ⟨r, hr⟩ : ∃ r, A % B = r := ⟨_, rfl⟩
  rw [hA, hB, hq, hr] at HT
  have HA : Hid (A < 18446744073709551616) := by have := ha.out; unfold Hid; omega
  have HB : Hid (B < 18446744073709551616) := by have := hb.out; unfold Hid; omega
  have HB0 : Hid (0 < B) := by unfold Hid; omega
  have hr1 : Hid (r < 9223372036854775808) := by have := hb.out; have h1 := Nat.mod_lt A HB0.out; unfold Hid; omega
  have hq1 : Hid (q ≤ 9223372036854775808) := by have := ha.out; have h1 := Nat.div_le_self A B; unfold Hid; omega
  have KA : Hid (a.natAbs = A) := hA
  have KB : Hid (b.natAbs = B) := hB
  have Kq : Hid (A / B = q) := hq
  have Kr : Hid (A % B = r) := hr
  have IA : Hid (In a) := ha
  have IB : Hid (In b) := hb
  have hr2 : (r : Int) < 9223372036854775808 := by have := hr1.out; omega
  clear hA hB hq hr ha hb
  by_cases ca : a < 0
  · by_cases cb : b < 0
    · obtain ⟨e1, e2⟩ := HT.2.2.2 ca cb
      rw [e1, e2]
      have da : decide (a < 0) = true := by simp; omega
      have db : decide (b < 0) = true := by simp; omega
      clear HT e1 e2 ca cb hz
      go_enter Try.func27, Try.ntmps27
      go_wp2_with fail
      refine (rworth_as a A KA.out IA.out _).mono ?_
      rintro e wx ⟨rfl, rfl⟩
      go_wp2_with fail
      refine (rworth_as b B KB.out IB.out _).mono ?_
      rintro e wx ⟨rfl, rfl⟩
      go_wp2_with fail
      refine (rover_as A B q r Kq.out Kr.out HA HB HB0 _).mono ?_
      rintro e wx ⟨rfl, rfl⟩
      go_wp2
      go_ret2
      exact ⟨ret2 rfl (neg_small r hr1.out), rfl⟩
    · obtain ⟨e1, e2⟩ := HT.2.1 ca (by omega)
      rw [e1, e2]
      have da : decide (a < 0) = true := by simp; omega
      have db : decide (b < 0) = false := by simp; omega
      clear HT e1 e2 ca cb hz
      go_enter Try.func27, Try.ntmps27
      go_wp2_with fail
      refine (rworth_as a A KA.out IA.out _).mono ?_
      rintro e wx ⟨rfl, rfl⟩
      go_wp2_with fail
      refine (rworth_as b B KB.out IB.out _).mono ?_
      rintro e wx ⟨rfl, rfl⟩
      go_wp2_with fail
      refine (rover_as A B q r Kq.out Kr.out HA HB HB0 _).mono ?_
      rintro e wx ⟨rfl, rfl⟩
      go_wp2
      go_ret2
      exact ⟨ret2 (neg_back q) (neg_small r hr1.out), rfl⟩
  · by_cases cb : b < 0
    · obtain ⟨e1, e2⟩ := HT.2.2.1 (by omega) cb
      rw [e1, e2]
      have da : decide (a < 0) = false := by simp; omega
      have db : decide (b < 0) = true := by simp; omega
      clear HT e1 e2 ca cb hz
      go_enter Try.func27, Try.ntmps27
      go_wp2_with fail
      refine (rworth_as a A KA.out IA.out _).mono ?_
      rintro e wx ⟨rfl, rfl⟩
      go_wp2_with fail
      refine (rworth_as b B KB.out IB.out _).mono ?_
      rintro e wx ⟨rfl, rfl⟩
      go_wp2_with fail
      refine (rover_as A B q r Kq.out Kr.out HA HB HB0 _).mono ?_
      rintro e wx ⟨rfl, rfl⟩
      go_wp2
      go_ret2
      exact ⟨ret2 (neg_back q) rfl, rfl⟩
    · obtain ⟨e1, e2⟩ := HT.1 (by omega) (by omega)
      rw [e1, e2]
      have da : decide (a < 0) = false := by simp; omega
      have db : decide (b < 0) = false := by simp; omega
      clear HT e1 e2 ca cb hz
      go_enter Try.func27, Try.ntmps27
      go_wp2_with fail
      refine (rworth_as a A KA.out IA.out _).mono ?_
      rintro e wx ⟨rfl, rfl⟩
      go_wp2_with fail
      refine (rworth_as b B KB.out IB.out _).mono ?_
      rintro e wx ⟨rfl, rfl⟩
      go_wp2_with fail
      refine (rover_as A B q r Kq.out Kr.out HA HB HB0 _).mono ?_
      rintro e wx ⟨rfl, rfl⟩
      go_wp2
      go_ret2
      exact ⟨ret2 rfl rfl, rfl⟩

theorem rdivided_as (a b q r : Int) (hq : wrap64 (a.tdiv b) = q) (hr : a.tmod b = r) (ha : In a) (hb : In b) (hz : ¬ b = 0) (w : World) :
    Calls Try.prog 27 #[.int .i64 a, .int .i64 b] w fun e w' => e = .returned (.tuple #[.int .i64 q, .int .i64 r]) ∧ w = w' := by
  subst hq hr; exact rdivided_any a b ha hb hz w
theorem rpower_any (k : Int) (h0 : 0 ≤ k) (h : k < 64) (w : World) : Calls Try.prog 29 #[.int .i64 k] w fun e w' => e = .returned (.int .i64 (wrap64 (IntKind.u64.wrap (2 ^ k.toNat)))) ∧ w = w' := by
  go_enter Try.func29, Try.ntmps29
  go_wp2
  go_ret
  exact ⟨rfl, rfl⟩

theorem In.div {a : Int} (h : In a) (j : Nat) : In (a / 2 ^ j) := by
  have h1 := h.out
  have hp : (0 : Int) < 2 ^ j := Int.pow_pos (by omega)
  have hp1 : (1 : Int) ≤ 2 ^ j := by omega
  constructor
  · apply (Int.le_ediv_iff_mul_le hp).mpr
    have : (-9223372036854775808 : Int) * 2 ^ j ≤ -9223372036854775808 * 1 := Int.mul_le_mul_of_nonpos_left (by omega) hp1
    omega
  · by_cases hs : a < 0
    · have := Int.ediv_neg_of_neg_of_pos hs hp; omega
    · have := Int.ediv_le_self (2 ^ j) (show 0 ≤ a by omega); omega
theorem div_next (a : Int) (j : Nat) : a / 2 ^ (j + 1) = a / 2 ^ j / 2 := by
  rw [Int.pow_succ, Int.ediv_ediv_of_nonneg (Int.le_of_lt (Int.pow_pos (by omega)))]
def DownRel (a : Int) (K : Nat) (v i : Value) : Prop := ∃ (j : Nat) (T : Int), j ≤ K ∧ i = .int .i64 (j : Int) ∧ v = .int .i64 T ∧ T = a / 2 ^ j
set_option maxRecDepth 100000 in
theorem rdown_any (a : Int) (K : Nat) (ha : In a) (h : K ≤ 63) (w : World) : Calls Try.prog 30 #[.int .i64 a, .int .i64 (K : Int)] w fun e w' => e = .returned (.int .i64 (a / 2 ^ K)) ∧ w = w' := by
  have IA : Hid (In a) := ha
  clear ha
  go_enter Try.func30, Try.ntmps30
  go_wp2
  go_loop [0, 5] (fun v i => DownRel a K v i) (fun _ i => K - (intOf i).toNat)
  case atStart => exact ⟨0, a, by omega, rfl, rfl, by simp⟩
  case round =>
    obtain ⟨j, T, hj, rfl, rfl, hT⟩ := hrel
    have HT : Hid (T = a / 2 ^ j) := hT
    have IT : Hid (In T) := by unfold Hid; rw [hT]; exact IA.out.div j
    clear hT
    by_cases hlt : j < K
    · obtain ⟨q, hq⟩ : ∃ q, T.tdiv 2 = q := ⟨_, rfl⟩
      obtain ⟨r, hr⟩ : ∃ r, T.tmod 2 = r := ⟨_, rfl⟩
      have h1 := half_down T
      have h2 := half_in T IT.out
      rw [hq, hr] at h1
      rw [hq] at h2
      have HQ : Hid (wrap64 (T.tdiv 2) = q) := by unfold Hid; rw [hq]; exact w64_in (by omega)
      have HR : Hid (T.tmod 2 = r) := hr
      have H1 : Hid _ := h1
      clear hq hr h1
      by_cases hn : r < 0
      · go_wp2_with fail
        refine (rdivided_as T 2 q r HQ.out HR.out IT.out ⟨by omega, by omega⟩ (by omega) _).mono ?_
        rintro e wx ⟨rfl, rfl⟩
        go_wp2
        go_round
        case rel => exact ⟨j + 1, _, by omega, by go_num, rfl, by rw [div_next, ← HT.out]; exact H1.out.1 hn⟩
        case measure => simp [intOf]; omega
      · go_wp2_with fail
        refine (rdivided_as T 2 q r HQ.out HR.out IT.out ⟨by omega, by omega⟩ (by omega) _).mono ?_
        rintro e wx ⟨rfl, rfl⟩
        go_wp2
        go_round
        case rel => exact ⟨j + 1, _, by omega, by go_num, rfl, by rw [div_next, ← HT.out]; exact H1.out.2 (by omega)⟩
        case measure => simp [intOf]; omega
    · have hjK : j = K := by omega
      subst hjK
      go_wp2
      go_ret
      exact ⟨ret_int HT.out, rfl⟩
end Go.Proofs.Ytnfglmfioifciaa
