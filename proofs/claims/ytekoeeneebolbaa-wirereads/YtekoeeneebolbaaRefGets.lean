/-
  CONTRACTS of the document's own Get, GetInt (trammelref01).
-/
import Derived.Test.YtekoeeneebolbaaGetInts
namespace Go.Proofs.Ytekoeeneebolbaa
open Go.RowKit
set_option linter.unusedVariables false

theorem ror_shift (acc k c : Nat) (hacc : acc < 128 ^ k) (hk : (k ≤ 8 ∧ c < 256) ∨ (k = 9 ∧ c ≤ 1)) :
    bits BinOp.or IntKind.u64 (acc : Int) (IntKind.u64.wrap ((c : Int) % 128 * 2 ^ (7 * k))) = ((acc + c % 128 * 128 ^ k : Nat) : Int) := by
  have e2 : (2 : Nat) ^ (7 * k) = 128 ^ k := by rw [Nat.pow_mul]
  have hb := get_bound c k hk
  have hp : 128 ^ k ≤ 128 ^ 9 := Nat.pow_le_pow_right (by omega) (by omega)
  have e3 : (c : Int) % 128 * 2 ^ (7 * k) = ((c % 128 * 2 ^ (7 * k) : Nat) : Int) := by simp
  rw [e3, u64_id _ (by rw [e2]; omega), bits_or_u64_nat _ _ (by omega) (by rw [e2]; omega), or_add _ _ _ (by rw [e2]; exact hacc), e2]
theorem ror_shift9 (acc c : Nat) (hacc : acc < 128 ^ 9) (hk : c ≤ 1) :
    bits BinOp.or IntKind.u64 (acc : Int) ((c : Int) % 128 * 9223372036854775808) = ((acc + c % 128 * 128 ^ 9 : Nat) : Int) := by
  have h := ror_shift acc 9 c hacc (.inr ⟨rfl, hk⟩)
  have e : IntKind.u64.wrap ((c : Int) % 128 * 2 ^ (7 * 9)) = (c : Int) % 128 * 9223372036854775808 := by
    rw [IntKind.wrap_u64]
    show (c : Int) % 128 * 9223372036854775808 % 18446744073709551616 = _
    omega
  rw [e] at h
  exact h

set_option maxRecDepth 100000 in
set_option maxHeartbeats 1000000 in
theorem rget_row (b off cap : Nat) (xs : List Nat) (p : Nat) (w : World) (hb : ∀ c ∈ xs, c < 256) (hm : xs.length ≤ 9223372036854775807)
    (hc : ∀ i, i < xs.length → w.cell? ⟨b, off + i, none⟩ = some (.int .u8 ((xs.getD i 0 : Nat) : Int))) (hp : p ≤ xs.length) :
    Calls Try.prog 19 #[.slice (some ⟨b, off, none⟩) xs.length cap, .int .i64 p] w fun e w' =>
      e = .returned (.tuple #[.int .u64 (getN xs p : Nat), .int .i64 (getP xs p), .int .i64 (getE xs p)]) ∧ w = w' := by
  have HC : Hid (∀ i, i < xs.length → w.cell? ⟨b, off + i, none⟩ = some (.int .u8 ((xs.getD i 0 : Nat) : Int))) := hc
  have HB : Hid (∀ i, i < xs.length → xs.getD i 0 < 256) := by
    intro i hi
    exact hb _ (by simp [List.getD, hi])
  obtain ⟨L, hL⟩ : ∃ L, L = xs.length := ⟨_, rfl⟩
  rw [← hL] at hm hp ⊢
  have HL : Hid (L = xs.length) := hL
  clear hc hL hb
  go_enter Try.func19, Try.ntmps19
  go_wp2
  go_loop [7, 8] (fun n i => GetRel xs p L n i) (fun _ i => L - p - (intOf i).toNat)
  case atStart => exact ⟨0, 0, by omega, by omega, rfl, rfl, by simp, rfl⟩
  case round =>
    obtain ⟨k, acc, hk9, hpk, rfl, rfl, hacc, hK⟩ := hrel
    have HK : Hid (getS 0 0 (xs.drop p) = getS k acc (xs.drop (p + k))) := hK
    clear hK
    by_cases hlt : p + k < L
    · obtain ⟨c, hcc⟩ : ∃ c, c = xs.getD (p + k) 0 := ⟨_, rfl⟩
      have hcell : w.cell? ⟨b, off + (p + k), none⟩ = some (.int .u8 (c : Int)) := by rw [hcc]; exact HC.out (p + k) (by rw [← HL.out]; exact hlt)
      have h256 : c < 256 := by rw [hcc]; exact HB.out (p + k) (by rw [← HL.out]; exact hlt)
      have HCC : Hid (c = xs.getD (p + k) 0) := hcc
      have HLT : Hid (p + k < xs.length) := by rw [← HL.out]; exact hlt
      have HA : Hid (acc < 128 ^ k) := hacc
      clear hcc hacc
      go_wp2
      · have ht : 1 < (c : Int) ∨ ((c : Int) == 0) = true := by assumption
        have h9 : (k : Int) = 9 := by assumption
        have hz : c = 0 := by
          rcases ht with h | h
          · omega
          · simpa using h
        obtain ⟨e1, e2, e3⟩ := get_form HK.out HLT.out HCC.out (by omega)
        go_ret3
        exact ⟨ret3 (by omega) (by omega) (by omega), rfl⟩
      · have ht : (c : Int) ≤ 1 ∧ ((c : Int) == 0) = false := by assumption
        have h9 : (k : Int) = 9 := by assumption
        have hz : c ≠ 0 := by simpa using ht.2
        have h9' : k = 9 := by omega
        subst h9'
        obtain ⟨e1, e2, e3⟩ := get_done HK.out HLT.out HCC.out (by omega) (by omega)
        go_ret3
        refine ⟨ret3 ?_ ?_ ?_, rfl⟩
        · rw [ror_shift9 acc c HA.out (by omega), e1, Nat.mod_eq_of_lt (by omega)]
        · omega
        · omega
      · have ht : 1 < (c : Int) := by assumption
        have h9 : (k : Int) = 9 := by assumption
        obtain ⟨e1, e2, e3⟩ := get_form HK.out HLT.out HCC.out (by omega)
        go_ret3
        exact ⟨ret3 (by omega) (by omega) (by omega), rfl⟩
      · have ht : ((c : Int) == 0) = true := by assumption
        have h0 : 0 < k := by assumption
        have hz : c = 0 := by simpa using ht
        obtain ⟨e1, e2, e3⟩ := get_form HK.out HLT.out HCC.out (by omega)
        go_ret3
        exact ⟨ret3 (by omega) (by omega) (by omega), rfl⟩
      · have ht : ((c : Int) == 0) = false := by assumption
        have hz : c ≠ 0 := by simpa using ht
        have h9 : ¬ (k : Int) = 9 := by assumption
        obtain ⟨e1, e2, e3⟩ := get_done HK.out HLT.out HCC.out (by omega) (by omega)
        go_ret3
        refine ⟨ret3 ?_ ?_ ?_, rfl⟩
        · rw [ror_shift acc k c HA.out (by omega), e1, Nat.mod_eq_of_lt (by omega)]
        · omega
        · omega
      · have ht : ((c : Int) == 0) = false := by assumption
        have hz : c ≠ 0 := by simpa using ht
        have h9 : ¬ (k : Int) = 9 := by assumption
        have e1 := get_on HK.out HLT.out HCC.out (by omega) (by omega)
        have hb : acc + c % 128 * 128 ^ k < 128 ^ (k + 1) := by
          have h1 := HA.out
          have h2 : c % 128 * 128 ^ k ≤ 127 * 128 ^ k := Nat.mul_le_mul_right _ (by omega)
          rw [Nat.pow_succ]; omega
        go_round
        case rel =>
          refine ⟨_, _, _, _, _, ?_, rfl, rfl, rfl, rfl, rfl⟩
          exact ⟨k + 1, acc + c % 128 * 128 ^ k, by omega, by omega, by go_num, by rw [ror_shift acc k c HA.out (by omega)], hb, e1⟩
        case measure => simp [intOf]; omega
      · have h9 : ¬ (k : Int) = 9 := by assumption
        have h0 : ¬ 0 < k := by assumption
        obtain ⟨e1, e2, e3⟩ := get_done HK.out HLT.out HCC.out (by omega) (by omega)
        go_ret3
        refine ⟨ret3 ?_ ?_ ?_, rfl⟩
        · rw [ror_shift acc k c HA.out (by omega), e1, Nat.mod_eq_of_lt (by omega)]
        · omega
        · omega
      · have h9 : ¬ (k : Int) = 9 := by assumption
        have h0 : ¬ 0 < k := by assumption
        have e1 := get_on HK.out HLT.out HCC.out (by omega) (by omega)
        have hb : acc + c % 128 * 128 ^ k < 128 ^ (k + 1) := by
          have h1 := HA.out
          have h2 : c % 128 * 128 ^ k ≤ 127 * 128 ^ k := Nat.mul_le_mul_right _ (by omega)
          rw [Nat.pow_succ]; omega
        go_round
        case rel =>
          refine ⟨_, _, _, _, _, ?_, rfl, rfl, rfl, rfl, rfl⟩
          exact ⟨k + 1, acc + c % 128 * 128 ^ k, by omega, by omega, by go_num, by rw [ror_shift acc k c HA.out (by omega)], hb, e1⟩
        case measure => simp [intOf]; omega
    · go_wp2
      obtain ⟨e1, e2, e3⟩ := get_short HK.out (by rw [← HL.out]; omega)
      go_ret3
      exact ⟨ret3 (by omega) (by omega) (by omega), rfl⟩

theorem rget_bad (a : Option Addr) (L cap : Nat) (p : Int) (w : World) (hm : L ≤ 9223372036854775807) (hp : ¬ (0 ≤ p ∧ p ≤ L)) :
    Calls Try.prog 19 #[.slice a L cap, .int .i64 p] w fun e w' => e = .returned (.tuple #[.int .u64 0, .int .i64 0, .int .i64 2]) ∧ w = w' := by
  by_cases h : p < 0
  · go_enter Try.func19, Try.ntmps19
    go_wp2
    go_ret3
    exact ⟨rfl, rfl⟩
  · have h2 : (L : Int) < p := by omega
    go_enter Try.func19, Try.ntmps19
    go_wp2
    go_ret3
    exact ⟨rfl, rfl⟩

theorem rget_empty (a : Option Addr) (cap : Nat) (w : World) :
    Calls Try.prog 19 #[.slice a 0 cap, .int .i64 0] w fun e w' => e = .returned (.tuple #[.int .u64 0, .int .i64 0, .int .i64 10]) ∧ w = w' := by
  go_enter Try.func19, Try.ntmps19
  go_wp2
  go_rounds 1
  go_ret3
  exact ⟨rfl, rfl⟩

theorem rget_any (a : Option Addr) (L cap : Nat) (xs : List Nat) (p : Int) (w : World) (hl : Lies w a xs) (hL : L = xs.length) :
    Calls Try.prog 19 #[.slice a L cap, .int .i64 p] w fun e w' =>
      e = .returned (.tuple #[.int .u64 (gN xs p : Nat), .int .i64 (gP xs p), .int .i64 (gE xs p)]) ∧ w = w' := by
  subst hL
  obtain ⟨hb, hm, hl⟩ := hl
  unfold gN gP gE
  by_cases hp : 0 ≤ p ∧ p ≤ xs.length
  · simp only [hp, and_self, if_true]
    obtain ⟨q, rfl⟩ := Int.eq_ofNat_of_zero_le hp.1
    rw [Int.toNat_natCast]
    rcases hl with rfl | ⟨b, off, rfl, hc⟩
    · have hq : q = 0 := by simpa using hp.2
      subst hq
      refine (rget_empty a cap w).mono ?_
      rintro e w' ⟨rfl, rfl⟩
      exact ⟨rfl, rfl⟩
    · exact rget_row b off cap xs q w hb hm hc (by omega)
  · simp only [hp, if_false]
    exact rget_bad a _ cap p w hm hp


set_option maxHeartbeats 1000000 in
theorem rgetInt_any (a : Option Addr) (L cap : Nat) (xs : List Nat) (p : Int) (w : World) (hl : Lies w a xs) (hL : L = xs.length) :
    Calls Try.prog 21 #[.slice a L cap, .int .i64 p] w fun e w' =>
      e = .returned (.tuple #[.int .i64 (zig (gN xs p)), .int .i64 (gP xs p), .int .i64 (gE xs p)]) ∧ w = w' := by
  have hlt := gN_lt xs p hl.1
  have HG : Hid (Lies w a xs) := hl
  have HL : Hid (L = xs.length) := hL
  obtain ⟨N, hN⟩ : ∃ N, N = gN xs p := ⟨_, rfl⟩
  have HN : Hid (N = gN xs p) := hN
  rw [← hN] at hlt ⊢
  clear hN hl hL
  by_cases h2 : N % 2 = 1
  · have hb : (N : Int) % 2 = 1 := by omega
    have HZ : Hid (zig N = -((N / 2 : Nat) : Int) - 1) := by unfold Hid zig; rw [if_pos h2]
    clear h2
    go_enter Try.func21, Try.ntmps21
    go_wp2_with (go_at_call 19; refine (rget_any a L cap xs p w HG.out HL.out).mono ?_; rw [← HN.out]; rintro e w' ⟨rfl, rfl⟩)
    go_ret3
    refine ⟨ret3 ?_ rfl rfl, rfl⟩
    rw [HZ.out]
    first | omega | (unfold wrap64; omega)
  · have hb : (N : Int) % 2 = 0 := by omega
    have HZ : Hid (zig N = ((N / 2 : Nat) : Int)) := by unfold Hid zig; rw [if_neg h2]
    clear h2
    go_enter Try.func21, Try.ntmps21
    go_wp2_with (go_at_call 19; refine (rget_any a L cap xs p w HG.out HL.out).mono ?_; rw [← HN.out]; rintro e w' ⟨rfl, rfl⟩)
    go_ret3
    refine ⟨ret3 ?_ rfl rfl, rfl⟩
    rw [HZ.out]
    first | omega | (unfold wrap64; omega)
end Go.Proofs.Ytekoeeneebolbaa
