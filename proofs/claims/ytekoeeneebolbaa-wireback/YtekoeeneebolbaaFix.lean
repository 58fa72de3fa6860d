/-
  CONTRACTS of wire.PutInt, Fixed.
-/
import Derived.Test.YtekoeeneebolbaaPuts
namespace Go.Proofs.Ytekoeeneebolbaa
open Go.RowKit

theorem ofInt64_toNat (a : Int) : ((BitVec.ofInt 64 a).toNat : Int) = a % 18446744073709551616 := by
  rw [BitVec.toNat_ofInt]
  have : (0 : Int) ≤ a % ((2 ^ 64 : Nat) : Int) := Int.emod_nonneg _ (by decide)
  omega
theorem u64_of_xor_i64 (a b : Int) : IntKind.u64.wrap (bits BinOp.xor IntKind.i64 a b) = ((BitVec.ofInt 64 a ^^^ BitVec.ofInt 64 b).toNat : Int) := by
  show IntKind.u64.wrap (IntKind.i64.wrap ((BitVec.ofInt 64 a ^^^ BitVec.ofInt 64 b).toNat : Int)) = _
  have h := (BitVec.ofInt 64 a ^^^ BitVec.ofInt 64 b).isLt
  generalize (BitVec.ofInt 64 a ^^^ BitVec.ofInt 64 b).toNat = z at *
  rw [IntKind.wrap_u64]
  simp only [IntKind.wrap, IntKind.bits, IntKind.signed]
  simp
  split <;> omega
theorem zag_eq (n : Int) (h1 : -9223372036854775808 ≤ n) (h2 : n ≤ 9223372036854775807) :
    IntKind.u64.wrap (bits BinOp.xor IntKind.i64 (wrap64 (n * 2)) (n / 9223372036854775808)) = ((zag n : Nat) : Int) := by
  rw [u64_of_xor_i64]
  have hw : wrap64 (n * 2) % 18446744073709551616 = (n * 2) % 18446744073709551616 := by unfold wrap64; omega
  by_cases h : n < 0
  · rw [show n / 9223372036854775808 = -1 by omega, show BitVec.ofInt 64 (-1) = BitVec.allOnes 64 by decide, BitVec.xor_allOnes, BitVec.toNat_not]
    have e := ofInt64_toNat (wrap64 (n * 2))
    have hlt := (BitVec.ofInt 64 (wrap64 (n * 2))).isLt
    rw [hw] at e
    unfold zag
    rw [if_pos h]
    omega
  · rw [show n / 9223372036854775808 = 0 by omega, show BitVec.ofInt 64 0 = 0#64 by decide, BitVec.xor_zero]
    have e := ofInt64_toNat (wrap64 (n * 2))
    rw [hw] at e
    unfold zag
    rw [if_neg h]
    omega
theorem putInt_any (n : Int) (w : World) (h1 : -9223372036854775808 ≤ n) (h2 : n ≤ 9223372036854775807) :
    Calls Try.prog 10 #[.int .i64 n] w fun e w' => ∃ g, e = .returned (.slice (some ⟨g, 0, none⟩) (putN (zag n)).length (putN (zag n)).length) ∧
      w'.ownsRow w.heap.size 5 1 (.slice (some ⟨g, 0, none⟩) (putN (zag n)).length (putN (zag n)).length) (putN (zag n)).length (nums (putN (zag n))) ∧ Below w.heap.size w w' := by
  have hz := zag_lt h1 (by omega : n < 9223372036854775808)
  go_enter Try.func10, Try.ntmps10
  go_wp2_with (go_at_call 9; refine (put_of _ (zag n) (zag_eq n h1 h2) hz w).mono ?_; rintro e w1 ⟨g, rfl, hown, hbel⟩)
  go_ret
  exact ⟨g, rfl, hown, hbel⟩

theorem fix_byte (n k : Nat) : (n : Int) / 2 ^ (8 * k) % 256 = ((n / 256 ^ k % 256 : Nat) : Int) := by
  have e2 : (2 : Nat) ^ (8 * k) = 256 ^ k := by rw [Nat.pow_mul]
  rw [← e2]; simp

def fixF (n : Nat) (i : Nat) : Nat := n / 256 ^ i % 256
theorem fixN_nums (n k : Nat) : fillK (fixF n) k k = nums (fixN n k) := fillK_full (fixF n) k
set_option maxHeartbeats 1000000 in
theorem fixed_any (n s : Nat) (w : World) (_h : n < 18446744073709551616) (h1 : 1 ≤ s) (h8 : s ≤ 8) :
    Calls Try.prog 11 #[.int .u64 n, .int .i64 s] w fun e w' => ∃ g, e = .returned (.slice (some ⟨g, 0, none⟩) s s) ∧
      w'.ownsRow w.heap.size 5 1 (.slice (some ⟨g, 0, none⟩) s s) s (nums (fixN n s)) ∧ Below w.heap.size w w' := by
  obtain ⟨i8, hi, hz0, hz1, hz2⟩ := info_parts info8
  have hm : i8.bytes * s ≤ 281474976710656 := by rw [hz2]; omega
  have hmade := fillK_made (fixF n) s
  have HG : Hid (∀ s k i : Nat, i < s → (fillK (fixF n) s k)[i]? = some (.int .u8 (if i < k then ((fixF n i : Nat) : Int) else 0))) := fillK_get (fixF n)
  have HT : Hid (∀ (k : Nat) (x : Int), x = fixF n k → (fillK (fixF n) s k).set k (.int .u8 x) = fillK (fixF n) s (k + 1)) := fillK_set (fixF n) s
  go_enter Try.func11, Try.ntmps11
  go_wp2_with (first | (go_at_call 28; refine (isSize_any _ w).mono ?_; rw [decide_eq_true (show (1 : Int) ≤ (s : Int) ∧ (s : Int) ≤ 8 by omega)]; rintro e w' ⟨rfl, rfl⟩) | (at_make; refine wpList_make_full _ rfl _ _ 23 rfl w.heap.size 5 i8 (.int .u8 0) 1 Try.underlying23 hi hz0 hz1 _ _ _ _ s rfl rfl rfl rfl hm (by unfold maxLen; omega) (Nat.le_refl _) ?_))
  intro w1 hown hgrow
  have hbel : Below w.heap.size w w1 := (Below.refl _ _).grown hgrow (Nat.le_refl _) (by simp)
  clear hmade hm hi hz0 hz1 hz2 hgrow
  go_wp2
  go_loopw [13] (fun i wr => ∃ k : Nat, k ≤ s ∧ i = .int .i64 k ∧ wr.ownsRow w.heap.size 5 1 (.slice (some ⟨w.heap.size, 0, none⟩) s s) s (fillK (fixF n) s k) ∧ Below w.heap.size w wr) (fun i _ => s - (intOf i).toNat)
  case atStart => exact ⟨0, Nat.zero_le _, rfl, hown, hbel⟩
  case round =>
    obtain ⟨k, hk, rfl, hownr, hbelr⟩ := hrel
    by_cases hlt' : k < s
    · have hc : wr.cell? ⟨w.heap.size, k, none⟩ = some (.int .u8 (if k < k then ((fixF n k : Nat) : Int) else 0)) := by rw [hownr.cellAt k (by omega), HG.out s k k hlt']
      have hf := hownr.frozenAt k
      go_wp2
      go_roundw
      case rel =>
        refine ⟨k + 1, by omega, by go_num, ?_, hbelr.setCell (Nat.le_refl _) _⟩
        have st := (hownr.stored k (.int .u8 (fixF n k : Nat))).1
        rw [HT.out k _ rfl] at st
        rw [fix_byte n k]
        exact st
      case measure => simp [intOf]; omega
    · have hks : k = s := by omega
      subst hks
      go_wp2
      go_ret
      exact ⟨w.heap.size, rfl, by rw [← fixN_nums]; exact hownr, hbelr⟩

theorem fixed_none (n k : Int) (w : World) (h : ¬ (1 ≤ k ∧ k ≤ 8)) :
    Calls Try.prog 11 #[.int .u64 n, .int .i64 k] w fun e w' => e = .returned (.slice none 0 0) ∧ w = w' := by
  go_enter Try.func11, Try.ntmps11
  go_wp2_with (go_at_call 28; refine (isSize_any _ w).mono ?_; rw [decide_eq_false h]; rintro e w' ⟨rfl, rfl⟩)
  go_ret
  exact ⟨rfl, rfl⟩

end Go.Proofs.Ytekoeeneebolbaa
