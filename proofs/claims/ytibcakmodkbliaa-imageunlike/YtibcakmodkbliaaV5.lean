/-
  CONTRACTS of wire.Sum.
-/
import Derived.Test.YtibcakmodkbliaaV3
namespace Go.Proofs.Ytibcakmodkbliaa.Q01
open Go.RowKit

theorem addBit_of (s : Nat) (x : Int) (b : Nat) (hx : x = b) (w : World) (hs : s < 4294967296) (hb : b < 4294967296) :
    Calls Try.prog 17 #[.int .u32 s, .int .u32 x] w fun e w' => e = .returned (.int .u32 (crcBit s (b % 2) : Nat)) ∧ w = w' := by
  subst hx; exact addBit_any s b w hs hb
theorem bit_of (c j : Nat) (hc : c < 256) : (c : Int) / 2 ^ j % 4294967296 = ((c / 2 ^ j : Nat) : Int) := by
  rw [show (c : Int) / 2 ^ j = ((c / 2 ^ j : Nat) : Int) by simp]
  have := Nat.div_le_self c (2 ^ j)
  generalize c / 2 ^ j = q at *
  omega
theorem div_lt (c j : Nat) (hc : c < 256) : c / 2 ^ j < 4294967296 := by
  have := Nat.div_le_self c (2 ^ j)
  omega
theorem not32 (n : Nat) (h : n < 4294967296) : bits BinOp.xor IntKind.u32 4294967295 (n : Int) = ((4294967295 - n : Nat) : Int) := by
  have e := u32_xor_nat 4294967295 n (by omega) h
  refine e.trans ?_
  congr 1
  have h2 : 4294967295 ^^^ n = (BitVec.allOnes 32 ^^^ BitVec.ofNat 32 n).toNat := by
    rw [BitVec.toNat_xor, BitVec.toNat_ofNat, Nat.mod_eq_of_lt (by omega)]; rfl
  rw [h2, BitVec.allOnes_xor, BitVec.toNat_not, BitVec.toNat_ofNat, Nat.mod_eq_of_lt (by omega)]
def OutRel (xs : List Nat) (s i : Value) : Prop :=
  ∃ k : Nat, k ≤ xs.length ∧ i = .int .i64 k ∧ s = .int .u32 ((crcAll 4294967295 (xs.take k) : Nat) : Int)
def InRel (S c : Nat) (s i : Value) : Prop :=
  ∃ j : Nat, j ≤ 8 ∧ i = .int .i64 j ∧ s = .int .u32 ((crcBits c j S : Nat) : Int)

set_option maxRecDepth 100000 in
set_option maxHeartbeats 1000000 in
theorem sum_row (b off L cap : Nat) (xs : List Nat) (w : World) (hL : L = xs.length) (hb : ∀ c ∈ xs, c < 256) (hm : L ≤ 9223372036854775807)
    (hc : ∀ i, i < xs.length → w.cell? ⟨b, off + i, none⟩ = some (.int .u8 ((xs.getD i 0 : Nat) : Int))) :
    Calls Try.prog 10 #[.slice (some ⟨b, off, none⟩) L cap] w fun e w' => e = .returned (.int .u32 (sumN xs : Nat)) ∧ w = w' := by
  have HC : Hid (∀ i, i < xs.length → w.cell? ⟨b, off + i, none⟩ = some (.int .u8 ((xs.getD i 0 : Nat) : Int))) := hc
  have HB : Hid (∀ i, i < xs.length → xs.getD i 0 < 256) := by
    intro i hi
    exact hb _ (by simp [List.getD, hi])
  have HL : Hid (L = xs.length) := hL
  clear hc hL hb
  go_enter Try.func10, Try.ntmps10
  go_wp2
  go_loop [3, 9] (fun s i => OutRel xs s i) (fun _ i => L - (intOf i).toNat)
  case atStart => exact ⟨0, by omega, rfl, rfl⟩
  case round =>
    obtain ⟨k, hk, rfl, rfl⟩ := hrel
    rw [← HL.out] at hk
    by_cases hlt : k < L
    · obtain ⟨c, hcc⟩ : ∃ c, c = xs.getD k 0 := ⟨_, rfl⟩
      have hcell : w.cell? ⟨b, off + k, none⟩ = some (.int .u8 (c : Int)) := by rw [hcc]; exact HC.out k (by rw [← HL.out]; omega)
      have h256 : c < 256 := by rw [hcc]; exact HB.out k (by rw [← HL.out]; omega)
      have HS : Hid (crcAll 4294967295 (xs.take (k + 1)) = crcBits c 8 (crcAll 4294967295 (xs.take k))) := by
        have hkl : k < xs.length := by rw [← HL.out]; exact hlt
        unfold Hid
        rw [List.take_succ_eq_append_getElem hkl, crcAll_append, hcc]
        simp [crcAll, List.getD, hkl]
      have hS := crcAll_lt (xs.take k) (s := 4294967295) (by omega)
      obtain ⟨S, hSS⟩ : ∃ S, S = crcAll 4294967295 (xs.take k) := ⟨_, rfl⟩
      rw [← hSS] at HS hS ⊢
      clear hcc hSS
      go_wp2
      go_loop [3, 13] (fun s i => InRel S c s i) (fun _ i => 8 - (intOf i).toNat)
      case atStart => exact ⟨0, by omega, rfl, rfl⟩
      case round =>
        obtain ⟨j, hj, rfl, rfl⟩ := hrel
        have hlt2 := crcBits_lt c hS j
        obtain ⟨T, hT⟩ : ∃ T, T = crcBits c j S := ⟨_, rfl⟩
        rw [← hT] at hlt2 ⊢
        have HT : Hid (T = crcBits c j S) := hT
        clear hT
        by_cases hlt3 : j < 8
        · have HX : Hid (c < 256) := h256
          go_wp2_with (go_at_call 17; refine (addBit_of T _ (c / 2 ^ j) (bit_of c j HX.out) w hlt2 (div_lt c j HX.out)).mono ?_; rintro e w' ⟨rfl, rfl⟩)
          go_round
          case rel => exact ⟨j + 1, by omega, by go_num, by rw [HT.out]; rfl⟩
          case measure => simp [intOf]; omega
        · have hj8 : j = 8 := by omega
          subst hj8
          go_wp2
          go_round
          case rel => exact ⟨k + 1, by rw [← HL.out]; omega, by go_num, by rw [HS.out, HT.out]⟩
          case measure => simp [intOf]; omega
    · have hks : k = L := by omega
      subst hks
      have hlt2 := crcAll_lt xs (s := 4294967295) (by omega)
      have HF : Hid (xs.take k = xs) := by unfold Hid; rw [HL.out]; exact List.take_length
      rw [HF.out]
      have HN : Hid (bits BinOp.xor IntKind.u32 4294967295 ((crcAll 4294967295 xs : Nat) : Int) = ((sumN xs : Nat) : Int)) := not32 _ hlt2
      go_wp2
      go_ret
      exact ⟨ret_int HN.out, rfl⟩

theorem sum_empty (a : Option Addr) (cap : Nat) (w : World) :
    Calls Try.prog 10 #[.slice a 0 cap] w fun e w' => e = .returned (.int .u32 0) ∧ w = w' := by
  have HN : Hid (bits BinOp.xor IntKind.u32 4294967295 (((4294967295 : Nat) : Nat) : Int) = ((4294967295 - 4294967295 : Nat) : Int)) := not32 _ (by omega)
  go_enter Try.func10, Try.ntmps10
  go_wp2
  go_rounds 1
  go_ret
  exact ⟨ret_int HN.out, rfl⟩
end Go.Proofs.Ytibcakmodkbliaa.Q01
