/-
  CONTRACTS of the document's bits (bit by bit).
-/
import Derived.Test.YtnfglmfioifciaaRefWrap
namespace Go.Proofs.Ytnfglmfioifciaa
open Go.RowKit
set_option linter.unusedVariables false

theorem bit_is (A k : Nat) : A.testBit k = decide (A / 2 ^ k % 2 = 1) := by rw [Nat.testBit_eq_decide_div_mod_eq]
theorem or_one (T k : Nat) (hT : T < 2 ^ k) (hk : k < 64) : bits BinOp.or IntKind.u64 (T : Int) (IntKind.u64.wrap (2 ^ k)) = ((T + 2 ^ k : Nat) : Int) := by
  have h := or_high T 1 k hT (by omega) hk
  rw [show ((1 : Nat) : Int) * 2 ^ k = 2 ^ k by simp, Nat.one_mul] at h
  exact h
def BitRel (R : Nat) (v i : Value) : Prop := ∃ k T : Nat, k ≤ 64 ∧ i = .int .i64 k ∧ v = .int .u64 (T : Int) ∧ T = R % 2 ^ k
theorem rel_set (R T k : Nat) (hT : T = R % 2 ^ k) (hk : k < 64) (h : R / 2 ^ k % 2 = 1) : BitRel R (.int .u64 (bits BinOp.or IntKind.u64 (T : Int) (IntKind.u64.wrap (2 ^ k)))) (.int .i64 ((k : Int) + 1)) := by
  refine ⟨k + 1, R % 2 ^ (k + 1), by omega, by simp, ?_, rfl⟩
  rw [or_one T k (by rw [hT]; exact Nat.mod_lt _ (Nat.two_pow_pos k)) hk, Nat.mod_pow_succ, h, hT, Nat.mul_one]
theorem rel_clear (R T k : Nat) (hT : T = R % 2 ^ k) (hk : k < 64) (h : R / 2 ^ k % 2 = 0) : BitRel R (.int .u64 (T : Int)) (.int .i64 ((k : Int) + 1)) := by
  refine ⟨k + 1, T, by omega, by simp, rfl, ?_⟩
  rw [Nat.mod_pow_succ, h, hT, Nat.mul_zero, Nat.add_zero]

theorem and_end (a b : Int) (A B : Nat) (hA : IntKind.u64.wrap a = (A : Int)) (hB : IntKind.u64.wrap b = (B : Int)) : wrap64 (((A &&& B) % 2 ^ 64 : Nat) : Int) = (BitVec.ofInt 64 a &&& BitVec.ofInt 64 b).toInt := by
  rw [IntKind.wrap_u64] at hA hB
  rw [wrap_w64]
  congr 1
  rw [BitVec.ofInt_natCast]
  apply BitVec.eq_of_toNat_eq
  rw [BitVec.toNat_and, BitVec.toNat_ofInt, BitVec.toNat_ofInt, BitVec.toNat_ofNat, Nat.mod_mod]
  have e1 : (a % ((2 ^ 64 : Nat) : Int)).toNat = A := by simp; omega
  have e2 : (b % ((2 ^ 64 : Nat) : Int)).toNat = B := by simp; omega
  rw [e1, e2]
  have h1 : A < 2 ^ 64 := by omega
  have h2 : B < 2 ^ 64 := by omega
  exact Nat.mod_eq_of_lt (Nat.and_lt_two_pow _ h2)
theorem and_fin (a b : Int) (A B T k : Nat) (hA : IntKind.u64.wrap a = (A : Int)) (hB : IntKind.u64.wrap b = (B : Int)) (hT : T = (A &&& B) % 2 ^ k) (hk : k = 64) : wrap64 (T : Int) = (BitVec.ofInt 64 a &&& BitVec.ofInt 64 b).toInt := by
  rw [hT, hk]; exact and_end a b A B hA hB
theorem and_00 (A B k : Nat) (hx : A / 2 ^ k % 2 = 0) (hy : B / 2 ^ k % 2 = 0) : (A &&& B) / 2 ^ k % 2 = 0 := by
  have h := Nat.testBit_and A B k
  rw [bit_is, bit_is, bit_is, hx, hy] at h
  simp at h
  omega
theorem and_01 (A B k : Nat) (hx : A / 2 ^ k % 2 = 0) (hy : B / 2 ^ k % 2 = 1) : (A &&& B) / 2 ^ k % 2 = 0 := by
  have h := Nat.testBit_and A B k
  rw [bit_is, bit_is, bit_is, hx, hy] at h
  simp at h
  omega
theorem and_10 (A B k : Nat) (hx : A / 2 ^ k % 2 = 1) (hy : B / 2 ^ k % 2 = 0) : (A &&& B) / 2 ^ k % 2 = 0 := by
  have h := Nat.testBit_and A B k
  rw [bit_is, bit_is, bit_is, hx, hy] at h
  simp at h
  omega
theorem and_11 (A B k : Nat) (hx : A / 2 ^ k % 2 = 1) (hy : B / 2 ^ k % 2 = 1) : (A &&& B) / 2 ^ k % 2 = 1 := by
  have h := Nat.testBit_and A B k
  rw [bit_is, bit_is, bit_is, hx, hy] at h
  simp at h
  omega

set_option maxRecDepth 100000 in
theorem rbits_and (a b M : Int) (HM : Hid ((BitVec.ofInt 64 a &&& BitVec.ofInt 64 b).toInt = M)) (A B : Nat) (hA : IntKind.u64.wrap a = (A : Int)) (hB : IntKind.u64.wrap b = (B : Int)) (LA : Hid (A < 18446744073709551616)) (LB : Hid (B < 18446744073709551616)) (w : World) :
    Calls Try.prog 28 #[.int .i64 a, .int .i64 b, .bool true, .bool false] w fun e w' => e = .returned (.int .i64 M) ∧ w = w' := by
  have KA : Hid (IntKind.u64.wrap a = (A : Int)) := hA
  have KB : Hid (IntKind.u64.wrap b = (B : Int)) := hB
  go_enter Try.func28, Try.ntmps28
  go_wp2
  go_loop [9, 10] (fun v i => BitRel (A &&& B) v i) (fun _ i => 64 - (intOf i).toNat)
  case atStart => exact ⟨0, 0, by omega, rfl, rfl, by simp [Nat.mod_one]⟩
  case round =>
    obtain ⟨k, T, hk, rfl, rfl, hT⟩ := hrel
    have HT : Hid (T = (A &&& B) % 2 ^ k) := hT
    clear hT
    by_cases hlt : k < 64
    · have hx := bit_u64 A k LA.out
      have hy := bit_u64 B k LB.out
      rcases (by omega : A / 2 ^ k % 2 = 0 ∨ A / 2 ^ k % 2 = 1) with ex | ex <;> rcases (by omega : B / 2 ^ k % 2 = 0 ∨ B / 2 ^ k % 2 = 1) with ey | ey
      · have HN : Hid _ := and_00 A B k ex ey
        rw [ex] at hx
        rw [ey] at hy
        clear ex ey
        go_wp2
        go_round
        case rel => exact rel_clear _ T k HT.out hlt HN.out
        case measure => simp [intOf]; omega
      · have HN : Hid _ := and_01 A B k ex ey
        rw [ex] at hx
        rw [ey] at hy
        clear ex ey
        go_wp2
        go_round
        case rel => exact rel_clear _ T k HT.out hlt HN.out
        case measure => simp [intOf]; omega
      · have HN : Hid _ := and_10 A B k ex ey
        rw [ex] at hx
        rw [ey] at hy
        clear ex ey
        go_wp2
        go_round
        case rel => exact rel_clear _ T k HT.out hlt HN.out
        case measure => simp [intOf]; omega
      · have HN : Hid _ := and_11 A B k ex ey
        rw [ex] at hx
        rw [ey] at hy
        clear ex ey
        go_wp2
        go_round
        case rel => exact rel_set _ T k HT.out hlt HN.out
        case measure => simp [intOf]; omega
    · have hk2 : k = 64 := by omega
      have HF : Hid (wrap64 (T : Int) = M) := (and_fin a b A B T k KA.out KB.out HT.out hk2).trans HM.out
      clear HT
      subst hk2
      go_wp2
      go_ret
      exact ⟨ret_int HF.out, rfl⟩
theorem rand_any (a b : Int) (w : World) :
    Calls Try.prog 28 #[.int .i64 a, .int .i64 b, .bool true, .bool false] w fun e w' => e = .returned (.int .i64 (BitVec.ofInt 64 a &&& BitVec.ofInt 64 b).toInt) ∧ w = w' := by
  obtain ⟨A, hA⟩ := Int.eq_ofNat_of_zero_le (show 0 ≤ IntKind.u64.wrap a by rw [IntKind.wrap_u64]; omega)
  obtain ⟨B, hB⟩ := Int.eq_ofNat_of_zero_le (show 0 ≤ IntKind.u64.wrap b by rw [IntKind.wrap_u64]; omega)
  exact rbits_and a b _ rfl A B hA hB (by rw [IntKind.wrap_u64] at hA; unfold Hid; omega) (by rw [IntKind.wrap_u64] at hB; unfold Hid; omega) w

theorem or_end (a b : Int) (A B : Nat) (hA : IntKind.u64.wrap a = (A : Int)) (hB : IntKind.u64.wrap b = (B : Int)) : wrap64 (((A ||| B) % 2 ^ 64 : Nat) : Int) = (BitVec.ofInt 64 a ||| BitVec.ofInt 64 b).toInt := by
  rw [IntKind.wrap_u64] at hA hB
  rw [wrap_w64]
  congr 1
  rw [BitVec.ofInt_natCast]
  apply BitVec.eq_of_toNat_eq
  rw [BitVec.toNat_or, BitVec.toNat_ofInt, BitVec.toNat_ofInt, BitVec.toNat_ofNat, Nat.mod_mod]
  have e1 : (a % ((2 ^ 64 : Nat) : Int)).toNat = A := by simp; omega
  have e2 : (b % ((2 ^ 64 : Nat) : Int)).toNat = B := by simp; omega
  rw [e1, e2]
  have h1 : A < 2 ^ 64 := by omega
  have h2 : B < 2 ^ 64 := by omega
  exact Nat.mod_eq_of_lt (Nat.or_lt_two_pow h1 h2)
theorem or_fin (a b : Int) (A B T k : Nat) (hA : IntKind.u64.wrap a = (A : Int)) (hB : IntKind.u64.wrap b = (B : Int)) (hT : T = (A ||| B) % 2 ^ k) (hk : k = 64) : wrap64 (T : Int) = (BitVec.ofInt 64 a ||| BitVec.ofInt 64 b).toInt := by
  rw [hT, hk]; exact or_end a b A B hA hB
theorem or_00 (A B k : Nat) (hx : A / 2 ^ k % 2 = 0) (hy : B / 2 ^ k % 2 = 0) : (A ||| B) / 2 ^ k % 2 = 0 := by
  have h := Nat.testBit_or A B k
  rw [bit_is, bit_is, bit_is, hx, hy] at h
  simp at h
  omega
theorem or_01 (A B k : Nat) (hx : A / 2 ^ k % 2 = 0) (hy : B / 2 ^ k % 2 = 1) : (A ||| B) / 2 ^ k % 2 = 1 := by
  have h := Nat.testBit_or A B k
  rw [bit_is, bit_is, bit_is, hx, hy] at h
  simp at h
  omega
theorem or_10 (A B k : Nat) (hx : A / 2 ^ k % 2 = 1) (hy : B / 2 ^ k % 2 = 0) : (A ||| B) / 2 ^ k % 2 = 1 := by
  have h := Nat.testBit_or A B k
  rw [bit_is, bit_is, bit_is, hx, hy] at h
  simp at h
  omega
theorem or_11 (A B k : Nat) (hx : A / 2 ^ k % 2 = 1) (hy : B / 2 ^ k % 2 = 1) : (A ||| B) / 2 ^ k % 2 = 1 := by
  have h := Nat.testBit_or A B k
  rw [bit_is, bit_is, bit_is, hx, hy] at h
  simp at h
  omega

set_option maxRecDepth 100000 in
theorem rbits_or (a b M : Int) (HM : Hid ((BitVec.ofInt 64 a ||| BitVec.ofInt 64 b).toInt = M)) (A B : Nat) (hA : IntKind.u64.wrap a = (A : Int)) (hB : IntKind.u64.wrap b = (B : Int)) (LA : Hid (A < 18446744073709551616)) (LB : Hid (B < 18446744073709551616)) (w : World) :
    Calls Try.prog 28 #[.int .i64 a, .int .i64 b, .bool true, .bool true] w fun e w' => e = .returned (.int .i64 M) ∧ w = w' := by
  have KA : Hid (IntKind.u64.wrap a = (A : Int)) := hA
  have KB : Hid (IntKind.u64.wrap b = (B : Int)) := hB
  go_enter Try.func28, Try.ntmps28
  go_wp2
  go_loop [9, 10] (fun v i => BitRel (A ||| B) v i) (fun _ i => 64 - (intOf i).toNat)
  case atStart => exact ⟨0, 0, by omega, rfl, rfl, by simp [Nat.mod_one]⟩
  case round =>
    obtain ⟨k, T, hk, rfl, rfl, hT⟩ := hrel
    have HT : Hid (T = (A ||| B) % 2 ^ k) := hT
    clear hT
    by_cases hlt : k < 64
    · have hx := bit_u64 A k LA.out
      have hy := bit_u64 B k LB.out
      rcases (by omega : A / 2 ^ k % 2 = 0 ∨ A / 2 ^ k % 2 = 1) with ex | ex <;> rcases (by omega : B / 2 ^ k % 2 = 0 ∨ B / 2 ^ k % 2 = 1) with ey | ey
      · have HN : Hid _ := or_00 A B k ex ey
        rw [ex] at hx
        rw [ey] at hy
        clear ex ey
        go_wp2
        go_round
        case rel => exact rel_clear _ T k HT.out hlt HN.out
        case measure => simp [intOf]; omega
      · have HN : Hid _ := or_01 A B k ex ey
        rw [ex] at hx
        rw [ey] at hy
        clear ex ey
        go_wp2
        go_round
        case rel => exact rel_set _ T k HT.out hlt HN.out
        case measure => simp [intOf]; omega
      · have HN : Hid _ := or_10 A B k ex ey
        rw [ex] at hx
        rw [ey] at hy
        clear ex ey
        go_wp2
        go_round
        case rel => exact rel_set _ T k HT.out hlt HN.out
        case measure => simp [intOf]; omega
      · have HN : Hid _ := or_11 A B k ex ey
        rw [ex] at hx
        rw [ey] at hy
        clear ex ey
        go_wp2
        go_round
        case rel => exact rel_set _ T k HT.out hlt HN.out
        case measure => simp [intOf]; omega
    · have hk2 : k = 64 := by omega
      have HF : Hid (wrap64 (T : Int) = M) := (or_fin a b A B T k KA.out KB.out HT.out hk2).trans HM.out
      clear HT
      subst hk2
      go_wp2
      go_ret
      exact ⟨ret_int HF.out, rfl⟩
theorem ror_any (a b : Int) (w : World) :
    Calls Try.prog 28 #[.int .i64 a, .int .i64 b, .bool true, .bool true] w fun e w' => e = .returned (.int .i64 (BitVec.ofInt 64 a ||| BitVec.ofInt 64 b).toInt) ∧ w = w' := by
  obtain ⟨A, hA⟩ := Int.eq_ofNat_of_zero_le (show 0 ≤ IntKind.u64.wrap a by rw [IntKind.wrap_u64]; omega)
  obtain ⟨B, hB⟩ := Int.eq_ofNat_of_zero_le (show 0 ≤ IntKind.u64.wrap b by rw [IntKind.wrap_u64]; omega)
  exact rbits_or a b _ rfl A B hA hB (by rw [IntKind.wrap_u64] at hA; unfold Hid; omega) (by rw [IntKind.wrap_u64] at hB; unfold Hid; omega) w

theorem xor_end (a b : Int) (A B : Nat) (hA : IntKind.u64.wrap a = (A : Int)) (hB : IntKind.u64.wrap b = (B : Int)) : wrap64 (((A ^^^ B) % 2 ^ 64 : Nat) : Int) = (BitVec.ofInt 64 a ^^^ BitVec.ofInt 64 b).toInt := by
  rw [IntKind.wrap_u64] at hA hB
  rw [wrap_w64]
  congr 1
  rw [BitVec.ofInt_natCast]
  apply BitVec.eq_of_toNat_eq
  rw [BitVec.toNat_xor, BitVec.toNat_ofInt, BitVec.toNat_ofInt, BitVec.toNat_ofNat, Nat.mod_mod]
  have e1 : (a % ((2 ^ 64 : Nat) : Int)).toNat = A := by simp; omega
  have e2 : (b % ((2 ^ 64 : Nat) : Int)).toNat = B := by simp; omega
  rw [e1, e2]
  have h1 : A < 2 ^ 64 := by omega
  have h2 : B < 2 ^ 64 := by omega
  exact Nat.mod_eq_of_lt (Nat.xor_lt_two_pow h1 h2)
theorem xor_fin (a b : Int) (A B T k : Nat) (hA : IntKind.u64.wrap a = (A : Int)) (hB : IntKind.u64.wrap b = (B : Int)) (hT : T = (A ^^^ B) % 2 ^ k) (hk : k = 64) : wrap64 (T : Int) = (BitVec.ofInt 64 a ^^^ BitVec.ofInt 64 b).toInt := by
  rw [hT, hk]; exact xor_end a b A B hA hB
theorem xor_00 (A B k : Nat) (hx : A / 2 ^ k % 2 = 0) (hy : B / 2 ^ k % 2 = 0) : (A ^^^ B) / 2 ^ k % 2 = 0 := by
  have h := Nat.testBit_xor A B k
  rw [bit_is, bit_is, bit_is, hx, hy] at h
  simp at h
  omega
theorem xor_01 (A B k : Nat) (hx : A / 2 ^ k % 2 = 0) (hy : B / 2 ^ k % 2 = 1) : (A ^^^ B) / 2 ^ k % 2 = 1 := by
  have h := Nat.testBit_xor A B k
  rw [bit_is, bit_is, bit_is, hx, hy] at h
  simp at h
  omega
theorem xor_10 (A B k : Nat) (hx : A / 2 ^ k % 2 = 1) (hy : B / 2 ^ k % 2 = 0) : (A ^^^ B) / 2 ^ k % 2 = 1 := by
  have h := Nat.testBit_xor A B k
  rw [bit_is, bit_is, bit_is, hx, hy] at h
  simp at h
  omega
theorem xor_11 (A B k : Nat) (hx : A / 2 ^ k % 2 = 1) (hy : B / 2 ^ k % 2 = 1) : (A ^^^ B) / 2 ^ k % 2 = 0 := by
  have h := Nat.testBit_xor A B k
  rw [bit_is, bit_is, bit_is, hx, hy] at h
  simp at h
  omega

set_option maxRecDepth 100000 in
theorem rbits_xor (a b M : Int) (HM : Hid ((BitVec.ofInt 64 a ^^^ BitVec.ofInt 64 b).toInt = M)) (A B : Nat) (hA : IntKind.u64.wrap a = (A : Int)) (hB : IntKind.u64.wrap b = (B : Int)) (LA : Hid (A < 18446744073709551616)) (LB : Hid (B < 18446744073709551616)) (w : World) :
    Calls Try.prog 28 #[.int .i64 a, .int .i64 b, .bool false, .bool true] w fun e w' => e = .returned (.int .i64 M) ∧ w = w' := by
  have KA : Hid (IntKind.u64.wrap a = (A : Int)) := hA
  have KB : Hid (IntKind.u64.wrap b = (B : Int)) := hB
  go_enter Try.func28, Try.ntmps28
  go_wp2
  go_loop [9, 10] (fun v i => BitRel (A ^^^ B) v i) (fun _ i => 64 - (intOf i).toNat)
  case atStart => exact ⟨0, 0, by omega, rfl, rfl, by simp [Nat.mod_one]⟩
  case round =>
    obtain ⟨k, T, hk, rfl, rfl, hT⟩ := hrel
    have HT : Hid (T = (A ^^^ B) % 2 ^ k) := hT
    clear hT
    by_cases hlt : k < 64
    · have hx := bit_u64 A k LA.out
      have hy := bit_u64 B k LB.out
      rcases (by omega : A / 2 ^ k % 2 = 0 ∨ A / 2 ^ k % 2 = 1) with ex | ex <;> rcases (by omega : B / 2 ^ k % 2 = 0 ∨ B / 2 ^ k % 2 = 1) with ey | ey
      · have HN : Hid _ := xor_00 A B k ex ey
        rw [ex] at hx
        rw [ey] at hy
        clear ex ey
        go_wp2
        go_round
        case rel => exact rel_clear _ T k HT.out hlt HN.out
        case measure => simp [intOf]; omega
      · have HN : Hid _ := xor_01 A B k ex ey
        rw [ex] at hx
        rw [ey] at hy
        clear ex ey
        go_wp2
        go_round
        case rel => exact rel_set _ T k HT.out hlt HN.out
        case measure => simp [intOf]; omega
      · have HN : Hid _ := xor_10 A B k ex ey
        rw [ex] at hx
        rw [ey] at hy
        clear ex ey
        go_wp2
        go_round
        case rel => exact rel_set _ T k HT.out hlt HN.out
        case measure => simp [intOf]; omega
      · have HN : Hid _ := xor_11 A B k ex ey
        rw [ex] at hx
        rw [ey] at hy
        clear ex ey
        go_wp2
        go_round
        case rel => exact rel_clear _ T k HT.out hlt HN.out
        case measure => simp [intOf]; omega
    · have hk2 : k = 64 := by omega
      have HF : Hid (wrap64 (T : Int) = M) := (xor_fin a b A B T k KA.out KB.out HT.out hk2).trans HM.out
      clear HT
      subst hk2
      go_wp2
      go_ret
      exact ⟨ret_int HF.out, rfl⟩
theorem rxor_any (a b : Int) (w : World) :
    Calls Try.prog 28 #[.int .i64 a, .int .i64 b, .bool false, .bool true] w fun e w' => e = .returned (.int .i64 (BitVec.ofInt 64 a ^^^ BitVec.ofInt 64 b).toInt) ∧ w = w' := by
  obtain ⟨A, hA⟩ := Int.eq_ofNat_of_zero_le (show 0 ≤ IntKind.u64.wrap a by rw [IntKind.wrap_u64]; omega)
  obtain ⟨B, hB⟩ := Int.eq_ofNat_of_zero_le (show 0 ≤ IntKind.u64.wrap b by rw [IntKind.wrap_u64]; omega)
  exact rbits_xor a b _ rfl A B hA hB (by rw [IntKind.wrap_u64] at hA; unfold Hid; omega) (by rw [IntKind.wrap_u64] at hB; unfold Hid; omega) w
end Go.Proofs.Ytnfglmfioifciaa
