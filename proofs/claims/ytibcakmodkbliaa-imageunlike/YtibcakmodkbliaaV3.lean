/-
  CONTRACTS of the small functions: wire.isSize, wire.addBit.
-/
import Derived.Test.YtibcakmodkbliaaV2
import Derived.WalkKit
import Derived.WalkLawsBesides
import Derived.Handy
import Derived.Outline
namespace Go.Proofs.Ytibcakmodkbliaa.Q01
open Go.RowKit

theorem isSize_any (k : Int) (w : World) :
    Calls Try.prog 16 #[.int .i64 k] w fun e w' => e = .returned (.bool (decide (1 ≤ k ∧ k ≤ 8))) ∧ w = w' := by
  by_cases h1 : 1 ≤ k
  · go_enter Try.func16, Try.ntmps16
    go_wp2
    go_ret
    exact ⟨by simp [h1], rfl⟩
  · go_enter Try.func16, Try.ntmps16
    go_wp2
    go_ret
    exact ⟨by simp; omega, rfl⟩

theorem addBit_eq (s b : Nat) (hs : s < 4294967296) (hb : b < 4294967296) :
    bits BinOp.xor IntKind.u32 ((s : Int) / 2) (bits BinOp.and IntKind.u32 (bits BinOp.xor IntKind.u32 s b) 1 * 3988292384 % 4294967296) = (crcBit s (b % 2) : Nat) := by
  have hx : s ^^^ b < 2 ^ 32 := Nat.xor_lt_two_pow (by omega) (by omega)
  have e1 : bits BinOp.and IntKind.u32 (bits BinOp.xor IntKind.u32 s b) 1 = (((s + b % 2) % 2 : Nat) : Int) := by
    rw [u32_xor_nat s b hs hb]
    have := u32_and_nat (s ^^^ b) 1 (by omega) (by omega)
    rw [show ((1 : Nat) : Int) = 1 from rfl] at this
    rw [this, Nat.and_one_is_mod]
    congr 1
    have h1 := Nat.xor_mod_two_eq_one (a := s) (b := b)
    omega
  have e2 : (s : Int) / 2 = ((s / 2 : Nat) : Int) := by omega
  rw [e1, e2]
  unfold crcBit
  rcases (by omega : (s + b % 2) % 2 = 1 ∨ (s + b % 2) % 2 = 0) with h | h
  · rw [if_pos h, h]
    have := u32_xor_nat (s / 2) poly (by omega) (by decide)
    exact this
  · rw [if_neg (by omega), h]
    have := u32_xor_nat (s / 2) 0 (by omega) (by decide)
    simpa using this

theorem addBit_any (s b : Nat) (w : World) (hs : s < 4294967296) (hb : b < 4294967296) :
    Calls Try.prog 17 #[.int .u32 s, .int .u32 b] w fun e w' => e = .returned (.int .u32 (crcBit s (b % 2) : Nat)) ∧ w = w' := by
  go_enter Try.func17, Try.ntmps17
  go_wp2
  go_ret
  exact ⟨ret_int (addBit_eq s b hs hb), rfl⟩
end Go.Proofs.Ytibcakmodkbliaa.Q01
