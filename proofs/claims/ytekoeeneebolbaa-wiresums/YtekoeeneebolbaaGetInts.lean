/-
  CONTRACTS of wire.GetInt.
-/
import Derived.Test.YtekoeeneebolbaaGets
namespace Go.Proofs.Ytekoeeneebolbaa
open Go.RowKit

theorem u64_bit (n : Nat) (h : n < 18446744073709551616) : bits BinOp.and IntKind.u64 (n : Int) 1 = ((n % 2 : Nat) : Int) := by
  have := bits_and_u64_nat n 1 h (by omega)
  refine this.trans ?_
  rw [Nat.and_one_is_mod]

theorem not64 (x : Nat) (hx : x < 9223372036854775808) : bits BinOp.xor IntKind.i64 (-1) (x : Int) = -1 - (x : Int) := by
  show IntKind.i64.wrap ((BitVec.ofInt 64 (-1) ^^^ BitVec.ofInt 64 (x : Int)).toNat : Int) = _
  have h1 : BitVec.ofInt 64 (-1) = BitVec.allOnes 64 := by decide
  have h2 : (BitVec.ofInt 64 (x : Int)).toNat = x := by rw [BitVec.ofInt_natCast, BitVec.toNat_ofNat]; exact Nat.mod_eq_of_lt (by omega)
  rw [h1, BitVec.allOnes_xor, BitVec.toNat_not, h2]
  simp [IntKind.wrap, IntKind.bits, IntKind.signed]
  omega

set_option maxHeartbeats 1000000 in
theorem getInt_any (a : Option Addr) (L cap : Nat) (xs : List Nat) (p : Int) (w : World) (hl : Lies w a xs) (hL : L = xs.length) :
    Calls Try.prog 20 #[.slice a L cap, .int .i64 p] w fun e w' =>
      e = .returned (.tuple #[.int .i64 (zig (gN xs p)), .int .i64 (gP xs p), .int .i64 (gE xs p)]) ∧ w = w' := by
  have hlt := gN_lt xs p hl.1
  have HG : Hid (Lies w a xs) := hl
  have HL : Hid (L = xs.length) := hL
  obtain ⟨N, hN⟩ : ∃ N, N = gN xs p := ⟨_, rfl⟩
  have HN : Hid (N = gN xs p) := hN
  rw [← hN] at hlt ⊢
  clear hN hl hL
  by_cases h2 : N % 2 = 1
  · have hb : bits BinOp.and IntKind.u64 (N : Int) 1 = 1 := by rw [u64_bit N hlt, h2]; rfl
    have HZ : Hid (zig N = -1 - ((N / 2 : Nat) : Int)) := by unfold Hid zig; rw [if_pos h2]; omega
    have HX : Hid (bits BinOp.xor IntKind.i64 (-1) ((N / 2 : Nat) : Int) = -1 - ((N / 2 : Nat) : Int)) := not64 _ (by omega)
    clear h2
    go_enter Try.func20, Try.ntmps20
    go_wp2_with (go_at_call 18; refine (get_any a L cap xs p w HG.out HL.out).mono ?_; rw [← HN.out]; rintro e w' ⟨rfl, rfl⟩)
    go_ret3
    refine ⟨ret3 ?_ rfl rfl, rfl⟩
    rw [HZ.out, ← HX.out]
    congr 1
  · have hb : bits BinOp.and IntKind.u64 (N : Int) 1 = 0 := by rw [u64_bit N hlt, show N % 2 = 0 by omega]; rfl
    have HZ : Hid (zig N = ((N / 2 : Nat) : Int)) := by unfold Hid zig; rw [if_neg h2]
    clear h2
    go_enter Try.func20, Try.ntmps20
    go_wp2_with (go_at_call 18; refine (get_any a L cap xs p w HG.out HL.out).mono ?_; rw [← HN.out]; rintro e w' ⟨rfl, rfl⟩)
    go_ret3
    refine ⟨ret3 ?_ rfl rfl, rfl⟩
    rw [HZ.out]
    omega
end Go.Proofs.Ytekoeeneebolbaa
