/-
  OpsNames, walked.
-/
import Derived.Test.YthkbjmbameofoabDoorWk
namespace Go.Proofs.YthkbjmbameofoabDoor
open Go.RowKit
set_option linter.unusedVariables false

theorem nameL_small : ∀ i, i < 53 → (nameL.getD i [] = [] ↔ i = 0) := by decide
theorem nameL_diff : ∀ i, i < 53 → ∀ k, k < i → 1 ≤ k → nameL.getD k [] ≠ nameL.getD i [] := by decide
theorem nameB_inj {i k : Nat} (h : nameB i = nameB k) : nameL.getD i [] = nameL.getD k [] := by
  have h2 := congrArg (fun b : ByteArray => b.data.toList) h
  exact h2
theorem nameB_none {i : Nat} (h : ¬ (1 ≤ i ∧ i ≤ 52)) : nameB i = ⟨#[]⟩ := by
  by_cases h0 : i = 0
  · subst h0; rfl
  · exact nameB_big i (by omega)
theorem nameB_some {i : Nat} (h1 : 1 ≤ i) (h2 : i ≤ 52) : nameB i ≠ ⟨#[]⟩ := fun h => by
  have h3 : nameL.getD i [] = [] := nameB_inj (k := 0) h
  have := (nameL_small i (by omega)).1 h3
  omega
theorem nameB_diff {i k : Nat} (h2 : i ≤ 52) (hk : k < i) (h1 : 1 ≤ k) : nameB k ≠ nameB i := fun h => nameL_diff i (by omega) k hk h1 (nameB_inj h)
set_option maxHeartbeats 2000000 in
set_option maxRecDepth 100000 in
theorem names_walk (W : World) (hN : NamesAt W) : Calls Tryd.prog 3 #[] W fun e w' => e = .returned (.bool true) ∧ Below W.heap.size W w' := by
  have HN : Hid (NamesAt W) := hN
  clear hN
  go_enter Tryd.func3, Tryd.ntmps3
  go_wp2_with fail
  go_loopw [1] (fun i wr => ∃ k : Nat, k ≤ 256 ∧ i = .int .i64 (k : Int) ∧ wr = W) (fun i _ => 256 - (intOf i).toNat)
  case atStart => exact ⟨0, by decide, rfl, rfl⟩
  case round =>
    obtain ⟨i, hi, rfl, rfl⟩ := hrel
    by_cases hlt : i < 256
    · have hn := name_as i hlt HN.out
      have hlt2 : (i : Int) < 256 := by omega
      have hi0 : (0 : Int) ≤ (i : Int) := by omega
      by_cases hin : 1 ≤ i ∧ i ≤ 52
      · have hs := nameB_some hin.1 hin.2
        have hd : ∀ k, k < i → 1 ≤ k → nameB k ≠ nameB i := fun k hk h1 => nameB_diff hin.2 hk h1
        have HD : Hid (∀ k, k < i → 1 ≤ k → nameB k ≠ nameB i) := hd
        clear hd
        have h1 : (1 : Int) ≤ (i : Int) := by omega
        have h52 : (i : Int) ≤ 52 := by omega
        generalize nameB i = s at *
        have hs0 : s.toList.isEmpty = false := by
          rw [ByteArray.toList_eq]
          cases hl : s.data.toList with
          | nil => exact absurd (show s = ⟨#[]⟩ by cases s with | mk d => cases d with | mk l => cases hl; rfl) hs
          | cons _ _ => rfl
        go_wp2_with fail
        refine Calls.mono hn ?_
        rintro e w1 ⟨rfl, rfl⟩
        go_wp2_with fail
        go_loopw [3] (fun x wr' => ∃ k : Nat, 1 ≤ k ∧ k ≤ i ∧ x = .int .i64 (k : Int) ∧ wr' = wr) (fun x _ => i - (intOf x).toNat)
        case atStart => exact ⟨1, Nat.le_refl 1, hin.1, rfl, rfl⟩
        case round =>
          obtain ⟨k, hk1, hk2, rfl, rfl⟩ := hrel
          by_cases hkl : k < i
          · have hkn := name_as k (by omega) HN.out
            have hne := HD.out k hkl hk1
            have hk3 : (k : Int) < (i : Int) := by omega
            have hk4 : (0 : Int) ≤ (k : Int) := by omega
            have hk5 : (k : Int) < 256 := by omega
            generalize nameB k = t at *
            go_wp2_with fail
            refine Calls.mono hkn ?_
            rintro e w2 ⟨rfl, rfl⟩
            have hne2 : (t.toList == s.toList) = false := by
              rw [ByteArray.toList_eq, ByteArray.toList_eq]
              cases hq : t.data.toList == s.data.toList
              · rfl
              · exact absurd (show t = s by cases s; cases t; congr 1; exact Array.toList_inj.1 (by simpa using hq)) hne
            go_wp2
            go_roundw
            case rel => exact ⟨k + 1, by omega, hkl, by go_num, by first | rfl | trivial⟩
            case measure => simp [intOf]; omega
          · obtain rfl : k = i := by omega
            go_wp2
            go_roundw
            case rel => exact ⟨k + 1, hlt, by go_num, by first | rfl | trivial⟩
            case measure => simp [intOf]; omega
      · rw [nameB_none hin] at hn
        have hsp : (i : Int) < 1 ∨ (53 : Int) ≤ (i : Int) := by omega
        rcases hsp with h0 | h0
        · have hz := h0
          go_wp2_with fail
          refine Calls.mono hn ?_
          rintro e w1 ⟨rfl, rfl⟩
          go_wp2_with fail
          go_loopw [3] (fun x wr' => ∃ k : Nat, 1 ≤ k ∧ (k ≤ i ∨ k = 1) ∧ x = .int .i64 (k : Int) ∧ wr' = wr) (fun x _ => i - (intOf x).toNat)
          case atStart => exact ⟨1, Nat.le_refl 1, .inr rfl, rfl, rfl⟩
          case round =>
            obtain ⟨k, hk1, hk2, rfl, rfl⟩ := hrel
            by_cases hkl : k < i
            · have hk3 : (k : Int) < (i : Int) := by omega
              go_wp2
              go_roundw
              case rel => exact ⟨k + 1, by omega, .inl hkl, by go_num, by first | rfl | trivial⟩
              case measure => simp [intOf]; omega
            · have hk3 : (i : Int) ≤ (k : Int) := by omega
              go_wp2
              go_roundw
              case rel => exact ⟨i + 1, hlt, by go_num, by first | rfl | trivial⟩
              case measure => simp [intOf]; omega
        · have h1 : (1 : Int) ≤ (i : Int) := by omega
          go_wp2_with fail
          refine Calls.mono hn ?_
          rintro e w1 ⟨rfl, rfl⟩
          go_wp2_with fail
          go_loopw [3] (fun x wr' => ∃ k : Nat, 1 ≤ k ∧ (k ≤ i ∨ k = 1) ∧ x = .int .i64 (k : Int) ∧ wr' = wr) (fun x _ => i - (intOf x).toNat)
          case atStart => exact ⟨1, Nat.le_refl 1, .inr rfl, rfl, rfl⟩
          case round =>
            obtain ⟨k, hk1, hk2, rfl, rfl⟩ := hrel
            by_cases hkl : k < i
            · have hk3 : (k : Int) < (i : Int) := by omega
              go_wp2
              go_roundw
              case rel => exact ⟨k + 1, by omega, .inl hkl, by go_num, by first | rfl | trivial⟩
              case measure => simp [intOf]; omega
            · have hk3 : (i : Int) ≤ (k : Int) := by omega
              go_wp2
              go_roundw
              case rel => exact ⟨i + 1, hlt, by go_num, by first | rfl | trivial⟩
              case measure => simp [intOf]; omega
    · have h256 : (256 : Int) ≤ (i : Int) := by omega
      go_wp2_with fail
      refine Calls.mono (works_any HN.out) ?_
      rintro e w1 ⟨rfl, b1⟩
      go_wp2
      go_ret
      exact ⟨rfl, b1⟩
end Go.Proofs.YthkbjmbameofoabDoor
