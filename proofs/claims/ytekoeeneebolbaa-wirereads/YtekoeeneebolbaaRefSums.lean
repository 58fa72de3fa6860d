/-
  CONTRACTS of the document's own Sum (trammelref01).
-/
import Derived.Test.YtekoeeneebolbaaSums
namespace Go.Proofs.Ytekoeeneebolbaa
open Go.RowKit
set_option linter.unusedVariables false

theorem u32_bit (n : Nat) (h : n < 4294967296) : bits BinOp.and IntKind.u32 (n : Int) 1 = ((n % 2 : Nat) : Int) := by
  have := u32_and_nat n 1 h (by omega)
  refine this.trans ?_
  rw [Nat.and_one_is_mod]

set_option maxRecDepth 100000 in
set_option maxHeartbeats 1000000 in
theorem rsum_row (b off L cap : Nat) (xs : List Nat) (w : World) (hL : L = xs.length) (hb : ∀ c ∈ xs, c < 256) (hm : L ≤ 9223372036854775807)
    (hc : ∀ i, i < xs.length → w.cell? ⟨b, off + i, none⟩ = some (.int .u8 ((xs.getD i 0 : Nat) : Int))) :
    Calls Try.prog 25 #[.slice (some ⟨b, off, none⟩) L cap] w fun e w' => e = .returned (.int .u32 (sumN xs : Nat)) ∧ w = w' := by
  have HC : Hid (∀ i, i < xs.length → w.cell? ⟨b, off + i, none⟩ = some (.int .u8 ((xs.getD i 0 : Nat) : Int))) := hc
  have HB : Hid (∀ i, i < xs.length → xs.getD i 0 < 256) := by
    intro i hi
    exact hb _ (by simp [List.getD, hi])
  have HL : Hid (L = xs.length) := hL
  clear hc hL hb
  go_enter Try.func25, Try.ntmps25
  go_wp2
  go_loop [3, 4] (fun s i => OutRel xs s i) (fun _ i => L - (intOf i).toNat)
  case atStart => exact ⟨0, by omega, rfl, rfl⟩
  case round =>
    obtain ⟨k, hk, rfl, rfl⟩ := hrel
    rw [← HL.out] at hk
    by_cases hlt : k < L
    · obtain ⟨c, hcc⟩ : ∃ c, c = xs.getD k 0 := ⟨_, rfl⟩
      have hcell : w.cell? ⟨b, off + k, none⟩ = some (.int .u8 (c : Int)) := by rw [hcc]; exact HC.out k (by rw [← HL.out]; omega)
      have h256 : c < 256 := by rw [hcc]; exact HB.out k (by rw [← HL.out]; omega)
      have HS : Hid (crcAll 4294967295 (xs.take (k + 1)) = crcBits c 8 (crcAll 4294967295 (xs.take k))) := by
        have hkl : k < xs.length := by rw [← HL.out]; exact hlt
        unfold Hid
        rw [List.take_succ_eq_append_getElem hkl, crcAll_append, hcc]
        simp [crcAll, List.getD, hkl]
      have hS := crcAll_lt (xs.take k) (s := 4294967295) (by omega)
      obtain ⟨S, hSS⟩ : ∃ S, S = crcAll 4294967295 (xs.take k) := ⟨_, rfl⟩
      rw [← hSS] at HS hS ⊢
      clear hcc hSS
      go_wp2
      go_loop [3, 5] (fun s i => InRel S c s i) (fun _ i => 8 - (intOf i).toNat)
      case atStart => exact ⟨0, by omega, rfl, rfl⟩
      case round =>
        obtain ⟨j, hj, rfl, rfl⟩ := hrel
        have hlt2 := crcBits_lt c hS j
        obtain ⟨T, hT⟩ : ∃ T, T = crcBits c j S := ⟨_, rfl⟩
        rw [← hT] at hlt2 ⊢
        have HT : Hid (T = crcBits c j S) := hT
        clear hT
        by_cases hlt3 : j < 8
        · have hT2 : T % 2 = 0 ∨ T % 2 = 1 := by omega
          have hc2 : c / 2 ^ j % 2 = 0 ∨ c / 2 ^ j % 2 = 1 := by omega
          have hbT : bits BinOp.and IntKind.u32 (T : Int) 1 = ((T % 2 : Nat) : Int) := u32_bit T hlt2
          have hbc : bits BinOp.and IntKind.u32 ((c : Int) / 2 ^ j) 1 = ((c / 2 ^ j % 2 : Nat) : Int) := by
            rw [show (c : Int) / 2 ^ j = ((c / 2 ^ j : Nat) : Int) by simp]; exact u32_bit _ (div_lt c j h256)
          have HX : Hid (bits BinOp.xor IntKind.u32 ((T : Int) / 2) 3988292384 = ((T / 2 ^^^ poly : Nat) : Int)) := by
            have h := u32_xor_nat (T / 2) poly (by omega) (by decide)
            unfold Hid
            rw [show (T : Int) / 2 = ((T / 2 : Nat) : Int) by omega]; exact h
          have HBit : Hid (crcBits c (j + 1) S = crcBit T (c / 2 ^ j % 2)) := by unfold Hid; rw [HT.out]; rfl
          have HD : Hid ((c : Int) / 2 ^ j % 4294967296 = (c : Int) / 2 ^ j) := by
            unfold Hid; rw [bit_of c j h256]; simp
          rcases hT2 with e1 | e1 <;> rcases hc2 with e2 | e2
          · rw [e1] at hbT
            rw [e2] at hbc
            have HV : Hid (crcBit T (c / 2 ^ j % 2) = T / 2) := by unfold Hid crcBit; rw [e2, if_neg (by omega)]
            clear e1 e2 HX
            go_wp2
            go_round
            case rel => exact ⟨j + 1, by omega, by go_num, by rw [HBit.out, HV.out]; go_num⟩
            case measure => simp [intOf]; omega
          · rw [e1] at hbT
            rw [e2] at hbc
            have HV : Hid (crcBit T (c / 2 ^ j % 2) = T / 2 ^^^ poly) := by unfold Hid crcBit; rw [e2, if_pos (by omega)]
            clear e1 e2
            go_wp2
            go_round
            case rel => exact ⟨j + 1, by omega, by go_num, by rw [HBit.out, HV.out, ← HX.out]⟩
            case measure => simp [intOf]; omega
          · rw [e1] at hbT
            rw [e2] at hbc
            have HV : Hid (crcBit T (c / 2 ^ j % 2) = T / 2 ^^^ poly) := by unfold Hid crcBit; rw [e2, if_pos (by omega)]
            clear e1 e2
            go_wp2
            go_round
            case rel => exact ⟨j + 1, by omega, by go_num, by rw [HBit.out, HV.out, ← HX.out]⟩
            case measure => simp [intOf]; omega
          · rw [e1] at hbT
            rw [e2] at hbc
            have HV : Hid (crcBit T (c / 2 ^ j % 2) = T / 2) := by unfold Hid crcBit; rw [e2, if_neg (by omega)]
            clear e1 e2 HX
            go_wp2
            go_round
            case rel => exact ⟨j + 1, by omega, by go_num, by rw [HBit.out, HV.out]; go_num⟩
            case measure => simp [intOf]; omega
        · have hj8 : j = 8 := by omega
          subst hj8
          go_wp2
          go_round
          case rel => exact ⟨k + 1, by rw [← HL.out]; omega, by go_num, by rw [HS.out, HT.out]⟩
          case measure => simp [intOf]; omega
    · have hks : k = L := by omega
      subst hks
      have hlt2 := crcAll_lt xs (s := 4294967295) (by omega)
      have HF : Hid (xs.take k = xs) := by unfold Hid; rw [HL.out]; exact List.take_length
      rw [HF.out]
      have HN : Hid (bits BinOp.xor IntKind.u32 4294967295 ((crcAll 4294967295 xs : Nat) : Int) = ((sumN xs : Nat) : Int)) := not32 _ hlt2
      go_wp2
      go_ret
      exact ⟨ret_int HN.out, rfl⟩

theorem rsum_empty (a : Option Addr) (cap : Nat) (w : World) :
    Calls Try.prog 25 #[.slice a 0 cap] w fun e w' => e = .returned (.int .u32 0) ∧ w = w' := by
  have HN : Hid (bits BinOp.xor IntKind.u32 4294967295 (((4294967295 : Nat) : Nat) : Int) = ((4294967295 - 4294967295 : Nat) : Int)) := not32 _ (by omega)
  go_enter Try.func25, Try.ntmps25
  go_wp2
  go_rounds 1
  go_ret
  exact ⟨ret_int HN.out, rfl⟩

theorem rsum_any (a : Option Addr) (L cap : Nat) (xs : List Nat) (w : World) (hl : Lies w a xs) (hL : L = xs.length) :
    Calls Try.prog 25 #[.slice a L cap] w fun e w' => e = .returned (.int .u32 (sumN xs : Nat)) ∧ w = w' := by
  obtain ⟨hb, hm, hl⟩ := hl
  rcases hl with rfl | ⟨b, off, rfl, hc⟩
  · subst hL; exact rsum_empty a cap w
  · exact rsum_row b off L cap xs w hL hb (by omega) hc
end Go.Proofs.Ytekoeeneebolbaa
