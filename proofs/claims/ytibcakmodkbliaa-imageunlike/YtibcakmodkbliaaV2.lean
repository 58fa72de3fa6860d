/-
  CONTRACTS of the small functions: bits.Len64 (math/bits).
-/
import Derived.Test.YtibcakmodkbliaaProg
import Derived.Test.YtibcakmodkbliaaV1
import Derived.WalkKit
import Derived.WalkLawsBesides
import Derived.Handy
import Derived.Outline
namespace Go.Proofs.Ytibcakmodkbliaa.Q01
open Go.RowKit

theorem ret_int {k : IntKind} {a b : Int} (h : a = b) : Ending.returned (.int k a) = .returned (.int k b) := by rw [h]

theorem len_close (n m b : Nat) (B : Int) (hB : B = b) (h : m = n / 2 ^ b) (hm : m < 256) (hb : b ≤ 56) (hz : b = 0 ∨ m ≠ 0) : wrap64 (B + wrap64 ((bitLen m : Nat) : Int)) = ((bitLen n : Nat) : Int) := by
  have h8 := bitLen_le8 m hm
  have e : bitLen n = b + bitLen m := by
    rcases hz with rfl | hz
    · rw [h]; simp
    · rw [h]; exact bitLen_shift n b (by rw [← h]; exact hz)
  unfold wrap64
  omega
theorem len_close0 (n m : Nat) (h : m = n) (hm : m < 256) : wrap64 (wrap64 ((bitLen m : Nat) : Int)) = ((bitLen n : Nat) : Int) := by
  have h8 := bitLen_le8 m hm
  subst h
  unfold wrap64
  omega

set_option maxRecDepth 1000000 in
set_option maxHeartbeats 400000 in
theorem len64_way0 (x : Int) (w : World) (h0 : 0 ≤ x) (hx : x < 18446744073709551616) (h1 : (4294967296 : Int) ≤ x) (h2 : (65536 : Int) ≤ x / 4294967296) (h3 : (256 : Int) ≤ x / 4294967296 / 65536) :
    Calls Try.prog 41 #[.int .u64 x] w fun e w' => e = .returned (.int .i64 (bitLen x.toNat)) ∧ w = w' := by
  go_enter Try.func41, Try.ntmps41
  go_wp2
  go_ret
  refine ⟨congrArg Ending.returned (congrArg (Value.int IntKind.i64) ?_), rfl⟩
  show _ = _
  simp only [len8tab_get]
  have hh : (x / 4294967296 / 65536 / 256).toNat = x.toNat / 2 ^ 56 := by omega
  have hl : (x / 4294967296 / 65536 / 256).toNat < 256 := by omega
  exact len_close x.toNat _ 56 _ rfl hh hl (by omega) (by omega)

set_option maxRecDepth 1000000 in
set_option maxHeartbeats 400000 in
theorem len64_way1 (x : Int) (w : World) (h0 : 0 ≤ x) (hx : x < 18446744073709551616) (h1 : (4294967296 : Int) ≤ x) (h2 : (65536 : Int) ≤ x / 4294967296) (h3 : Hid (x / 4294967296 / 65536 < 256)) :
    Calls Try.prog 41 #[.int .u64 x] w fun e w' => e = .returned (.int .i64 (bitLen x.toNat)) ∧ w = w' := by
  have d3 : decide ((256 : Int) ≤ x / 4294967296 / 65536) = false := by have := h3.out; simp; omega
  go_enter Try.func41, Try.ntmps41
  go_wp2
  go_ret
  refine ⟨congrArg Ending.returned (congrArg (Value.int IntKind.i64) ?_), rfl⟩
  show _ = _
  simp only [len8tab_get]
  have k3 := h3.out
  have hh : (x / 4294967296 / 65536 % 256).toNat = x.toNat / 2 ^ 48 := by omega
  have hl : (x / 4294967296 / 65536 % 256).toNat < 256 := by omega
  exact len_close x.toNat _ 48 _ rfl hh hl (by omega) (by omega)

set_option maxRecDepth 1000000 in
set_option maxHeartbeats 400000 in
theorem len64_way2 (x : Int) (w : World) (h0 : 0 ≤ x) (hx : x < 18446744073709551616) (h1 : (4294967296 : Int) ≤ x) (h2 : Hid (x / 4294967296 < 65536)) (h3 : (256 : Int) ≤ x / 4294967296) :
    Calls Try.prog 41 #[.int .u64 x] w fun e w' => e = .returned (.int .i64 (bitLen x.toNat)) ∧ w = w' := by
  have d2 : decide ((65536 : Int) ≤ x / 4294967296) = false := by have := h2.out; simp; omega
  go_enter Try.func41, Try.ntmps41
  go_wp2
  go_ret
  refine ⟨congrArg Ending.returned (congrArg (Value.int IntKind.i64) ?_), rfl⟩
  show _ = _
  simp only [len8tab_get]
  have k2 := h2.out
  have hh : (x / 4294967296 / 256 % 256).toNat = x.toNat / 2 ^ 40 := by omega
  have hl : (x / 4294967296 / 256 % 256).toNat < 256 := by omega
  exact len_close x.toNat _ 40 _ rfl hh hl (by omega) (by omega)

set_option maxRecDepth 1000000 in
set_option maxHeartbeats 400000 in
theorem len64_way3 (x : Int) (w : World) (h0 : 0 ≤ x) (hx : x < 18446744073709551616) (h1 : (4294967296 : Int) ≤ x) (h2 : Hid (x / 4294967296 < 65536)) (h3 : Hid (x / 4294967296 < 256)) :
    Calls Try.prog 41 #[.int .u64 x] w fun e w' => e = .returned (.int .i64 (bitLen x.toNat)) ∧ w = w' := by
  have d2 : decide ((65536 : Int) ≤ x / 4294967296) = false := by have := h2.out; simp; omega
  have d3 : decide ((256 : Int) ≤ x / 4294967296) = false := by have := h3.out; simp; omega
  go_enter Try.func41, Try.ntmps41
  go_wp2
  go_ret
  refine ⟨congrArg Ending.returned (congrArg (Value.int IntKind.i64) ?_), rfl⟩
  show _ = _
  simp only [len8tab_get]
  have k2 := h2.out
  have k3 := h3.out
  have hh : (x / 4294967296 % 256).toNat = x.toNat / 2 ^ 32 := by omega
  have hl : (x / 4294967296 % 256).toNat < 256 := by omega
  exact len_close x.toNat _ 32 _ rfl hh hl (by omega) (by omega)

set_option maxRecDepth 1000000 in
set_option maxHeartbeats 400000 in
theorem len64_way4 (x : Int) (w : World) (h0 : 0 ≤ x) (hx : x < 18446744073709551616) (h1 : Hid (x < 4294967296)) (h2 : (65536 : Int) ≤ x) (h3 : (256 : Int) ≤ x / 65536) :
    Calls Try.prog 41 #[.int .u64 x] w fun e w' => e = .returned (.int .i64 (bitLen x.toNat)) ∧ w = w' := by
  have d1 : decide ((4294967296 : Int) ≤ x) = false := by have := h1.out; simp; omega
  go_enter Try.func41, Try.ntmps41
  go_wp2
  go_ret
  refine ⟨congrArg Ending.returned (congrArg (Value.int IntKind.i64) ?_), rfl⟩
  show _ = _
  simp only [len8tab_get]
  have k1 := h1.out
  have hh : (x / 65536 / 256 % 256).toNat = x.toNat / 2 ^ 24 := by omega
  have hl : (x / 65536 / 256 % 256).toNat < 256 := by omega
  exact len_close x.toNat _ 24 _ rfl hh hl (by omega) (by omega)

set_option maxRecDepth 1000000 in
set_option maxHeartbeats 400000 in
theorem len64_way5 (x : Int) (w : World) (h0 : 0 ≤ x) (hx : x < 18446744073709551616) (h1 : Hid (x < 4294967296)) (h2 : (65536 : Int) ≤ x) (h3 : Hid (x / 65536 < 256)) :
    Calls Try.prog 41 #[.int .u64 x] w fun e w' => e = .returned (.int .i64 (bitLen x.toNat)) ∧ w = w' := by
  have d1 : decide ((4294967296 : Int) ≤ x) = false := by have := h1.out; simp; omega
  have d3 : decide ((256 : Int) ≤ x / 65536) = false := by have := h3.out; simp; omega
  go_enter Try.func41, Try.ntmps41
  go_wp2
  go_ret
  refine ⟨congrArg Ending.returned (congrArg (Value.int IntKind.i64) ?_), rfl⟩
  show _ = _
  simp only [len8tab_get]
  have k1 := h1.out
  have k3 := h3.out
  have hh : (x / 65536 % 256).toNat = x.toNat / 2 ^ 16 := by omega
  have hl : (x / 65536 % 256).toNat < 256 := by omega
  exact len_close x.toNat _ 16 _ rfl hh hl (by omega) (by omega)

set_option maxRecDepth 1000000 in
set_option maxHeartbeats 400000 in
theorem len64_way6 (x : Int) (w : World) (h0 : 0 ≤ x) (hx : x < 18446744073709551616) (h1 : Hid (x < 4294967296)) (h2 : Hid (x < 65536)) (h3 : (256 : Int) ≤ x) :
    Calls Try.prog 41 #[.int .u64 x] w fun e w' => e = .returned (.int .i64 (bitLen x.toNat)) ∧ w = w' := by
  have d1 : decide ((4294967296 : Int) ≤ x) = false := by have := h1.out; simp; omega
  have d2 : decide ((65536 : Int) ≤ x) = false := by have := h2.out; simp; omega
  go_enter Try.func41, Try.ntmps41
  go_wp2
  go_ret
  refine ⟨congrArg Ending.returned (congrArg (Value.int IntKind.i64) ?_), rfl⟩
  show _ = _
  simp only [len8tab_get]
  have k1 := h1.out
  have k2 := h2.out
  have hh : (x / 256 % 256).toNat = x.toNat / 2 ^ 8 := by omega
  have hl : (x / 256 % 256).toNat < 256 := by omega
  exact len_close x.toNat _ 8 _ rfl hh hl (by omega) (by omega)

set_option maxRecDepth 1000000 in
set_option maxHeartbeats 400000 in
theorem len64_way7 (x : Int) (w : World) (h0 : 0 ≤ x) (hx : x < 18446744073709551616) (h1 : Hid (x < 4294967296)) (h2 : Hid (x < 65536)) (h3 : Hid (x < 256)) :
    Calls Try.prog 41 #[.int .u64 x] w fun e w' => e = .returned (.int .i64 (bitLen x.toNat)) ∧ w = w' := by
  have d1 : decide ((4294967296 : Int) ≤ x) = false := by have := h1.out; simp; omega
  have d2 : decide ((65536 : Int) ≤ x) = false := by have := h2.out; simp; omega
  have d3 : decide ((256 : Int) ≤ x) = false := by have := h3.out; simp; omega
  go_enter Try.func41, Try.ntmps41
  go_wp2
  go_ret
  refine ⟨congrArg Ending.returned (congrArg (Value.int IntKind.i64) ?_), rfl⟩
  show _ = _
  simp only [len8tab_get]
  have k1 := h1.out
  have k2 := h2.out
  have k3 := h3.out
  have hh : (x % 256).toNat = x.toNat := by omega
  have hl : (x % 256).toNat < 256 := by omega
  exact len_close0 x.toNat _ hh hl

theorem len64_any (n : Nat) (w : World) (h : n < 18446744073709551616) :
    Calls Try.prog 41 #[.int .u64 n] w fun e w' => e = .returned (.int .i64 (bitLen n)) ∧ w = w' := by
  have a := (by omega : 0 ≤ (n : Int))
  have b := (by omega : (n : Int) < 18446744073709551616)
  by_cases h1 : (4294967296 : Int) ≤ (n : Int)
  · by_cases h2 : (65536 : Int) ≤ (n : Int) / 4294967296
    · by_cases h3 : (256 : Int) ≤ (n : Int) / 4294967296 / 65536
      · exact len64_way0 n w a b h1 h2 h3
      · exact len64_way1 n w a b h1 h2 (by unfold Hid; omega)
    · by_cases h3 : (256 : Int) ≤ (n : Int) / 4294967296
      · exact len64_way2 n w a b h1 (by unfold Hid; omega) h3
      · exact len64_way3 n w a b h1 (by unfold Hid; omega) (by unfold Hid; omega)
  · by_cases h2 : (65536 : Int) ≤ (n : Int)
    · by_cases h3 : (256 : Int) ≤ (n : Int) / 65536
      · exact len64_way4 n w a b (by unfold Hid; omega) h2 h3
      · exact len64_way5 n w a b (by unfold Hid; omega) h2 (by unfold Hid; omega)
    · by_cases h3 : (256 : Int) ≤ (n : Int)
      · exact len64_way6 n w a b (by unfold Hid; omega) (by unfold Hid; omega) h3
      · exact len64_way7 n w a b (by unfold Hid; omega) (by unfold Hid; omega) (by unfold Hid; omega)

theorem len64_of (x : Int) (n : Nat) (hx : x = n) (h : n < 18446744073709551616) (w : World) :
    Calls Try.prog 41 #[.int .u64 x] w fun e w' => e = .returned (.int .i64 (bitLen n)) ∧ w = w' := by
  subst hx; exact len64_any n w h

end Go.Proofs.Ytibcakmodkbliaa.Q01
