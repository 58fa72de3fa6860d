/-
  Wi, what is reached of it.
-/
import Derived.Test.YtkmmnocooibljaaGreatDoorLz
import Derived.Test.YtkmmnocooibljaaGreatDoorLaq
namespace Go.Proofs.YtkmmnocooibljaaGreatDoor
open Go.ChangeShapes Go.WideShapes Go.ChangeAt Go.RowKit Go.Deep
set_option linter.unusedVariables false

theorem isSize_any (k : Int) (w : World) :
    Calls Tryz.prog 126 #[.int .i64 k] w fun e w' => e = .returned (.bool (decide (1 ≤ k ∧ k ≤ 8))) ∧ w = w' := by
  by_cases h1 : 1 ≤ k
  · go_enter Tryz.func126, Tryz.ntmps126
    go_wp2
    go_ret
    exact ⟨by simp [h1], rfl⟩
  · go_enter Tryz.func126, Tryz.ntmps126
    go_wp2
    go_ret
    exact ⟨by simp; omega, rfl⟩
def fillK (f : Nat → Nat) (s k : Nat) : List Value := (List.range s).map fun i => Value.int .u8 (if i < k then ((f i : Nat) : Int) else 0)
theorem fillK_made (f : Nat → Nat) (s : Nat) : (madeCells #[Value.int .u8 0] s).toList = fillK f s 0 := by
  rw [toList_madeCells_one]
  apply List.ext_getElem
  · simp [fillK]
  · intro i h1 h2; simp [fillK]
theorem fillK_set (f : Nat → Nat) (s k : Nat) (x : Int) (hx : x = f k) : (fillK f s k).set k (.int .u8 x) = fillK f s (k + 1) := by
  subst hx
  apply List.ext_getElem
  · simp [fillK]
  · intro i h1 h2
    simp only [fillK, List.getElem_set, List.getElem_map, List.getElem_range]
    by_cases e : k = i
    · subst e; simp
    · rw [if_neg e]; congr 1
      by_cases h : i < k
      · rw [if_pos h, if_pos (by omega)]
      · rw [if_neg h, if_neg (by omega)]
theorem fillK_full (f : Nat → Nat) (s : Nat) : fillK f s s = nums ((List.range s).map f) := by
  simp only [fillK, nums, List.map_map]
  apply List.map_congr_left
  intro i hi
  simp at hi
  simp [hi]
theorem fillK_get (f : Nat → Nat) (s k i : Nat) (h : i < s) : (fillK f s k)[i]? = some (.int .u8 (if i < k then ((f i : Nat) : Int) else 0)) := by
  simp [fillK, h]
theorem fix_byte (n k : Nat) : (n : Int) / 2 ^ (8 * k) % 256 = ((n / 256 ^ k % 256 : Nat) : Int) := by
  have e2 : (2 : Nat) ^ (8 * k) = 256 ^ k := by rw [Nat.pow_mul]
  rw [← e2]; simp
def fixF (n : Nat) (i : Nat) : Nat := n / 256 ^ i % 256
theorem fixN_nums (n k : Nat) : fillK (fixF n) k k = nums (fixN n k) := fillK_full (fixF n) k
set_option maxHeartbeats 1000000 in
theorem fixed_any (n s : Nat) (w : World) (_h : n < 18446744073709551616) (h1 : 1 ≤ s) (h8 : s ≤ 8) :
    Calls Tryz.prog 133 #[.int .u64 n, .int .i64 s] w fun e w' => ∃ g, e = .returned (.slice (some ⟨g, 0, none⟩) s s) ∧
      w'.ownsRow w.heap.size 5 1 (.slice (some ⟨g, 0, none⟩) s s) s (nums (fixN n s)) ∧ Below w.heap.size w w' := by
  obtain ⟨i8, hi, hz0, hz1, hz2⟩ := info_parts info8
  have hm : i8.bytes * s ≤ 281474976710656 := by rw [hz2]; omega
  have hmade := fillK_made (fixF n) s
  have HG : Hid (∀ s k i : Nat, i < s → (fillK (fixF n) s k)[i]? = some (.int .u8 (if i < k then ((fixF n i : Nat) : Int) else 0))) := fillK_get (fixF n)
  have HT : Hid (∀ (k : Nat) (x : Int), x = fixF n k → (fillK (fixF n) s k).set k (.int .u8 x) = fillK (fixF n) s (k + 1)) := fillK_set (fixF n) s
  go_enter Tryz.func133, Tryz.ntmps133
  go_wp2_with (first | (go_at_call 126; refine (isSize_any _ w).mono ?_; rw [decide_eq_true (show (1 : Int) ≤ (s : Int) ∧ (s : Int) ≤ 8 by omega)]; rintro e w' ⟨rfl, rfl⟩) | (at_make; refine wpList_make_full _ rfl _ _ 30 rfl w.heap.size 5 i8 (.int .u8 0) 1 Tryz.underlying30 hi hz0 hz1 _ _ _ _ s rfl rfl rfl rfl hm (by unfold maxLen; omega) (Nat.le_refl _) ?_))
  intro w1 hown hgrow
  have hbel : Below w.heap.size w w1 := (Below.refl _ _).grown hgrow (Nat.le_refl _) (by simp)
  clear hmade hm hi hz0 hz1 hz2 hgrow
  go_wp2
  go_loopw [13] (fun i wr => ∃ k : Nat, k ≤ s ∧ i = .int .i64 k ∧ wr.ownsRow w.heap.size 5 1 (.slice (some ⟨w.heap.size, 0, none⟩) s s) s (fillK (fixF n) s k) ∧ Below w.heap.size w wr) (fun i _ => s - (intOf i).toNat)
  case atStart => exact ⟨0, Nat.zero_le _, rfl, hown, hbel⟩
  case round =>
    obtain ⟨k, hk, rfl, hownr, hbelr⟩ := hrel
    by_cases hlt' : k < s
    · have hc : wr.cell? ⟨w.heap.size, k, none⟩ = some (.int .u8 (if k < k then ((fixF n k : Nat) : Int) else 0)) := by rw [hownr.cellAt k (by omega), HG.out s k k hlt']
      have hf := hownr.frozenAt k
      go_wp2
      go_roundw
      case rel =>
        refine ⟨k + 1, by omega, by go_num, ?_, hbelr.setCell (Nat.le_refl _) _⟩
        have st := (hownr.stored k (.int .u8 (fixF n k : Nat))).1
        rw [HT.out k _ rfl] at st
        rw [fix_byte n k]
        exact st
      case measure => simp [intOf]; omega
    · have hks : k = s := by omega
      subst hks
      go_wp2
      go_ret
      exact ⟨w.heap.size, rfl, by rw [← fixN_nums]; exact hownr, hbelr⟩
theorem fixed_none (n k : Int) (w : World) (h : ¬ (1 ≤ k ∧ k ≤ 8)) :
    Calls Tryz.prog 133 #[.int .u64 n, .int .i64 k] w fun e w' => e = .returned (.slice none 0 0) ∧ w = w' := by
  go_enter Tryz.func133, Tryz.ntmps133
  go_wp2_with (go_at_call 126; refine (isSize_any _ w).mono ?_; rw [decide_eq_false h]; rintro e w' ⟨rfl, rfl⟩)
  go_ret
  exact ⟨rfl, rfl⟩
end Go.Proofs.YtkmmnocooibljaaGreatDoor
