/-
  Wi, what is reached of it.
-/
import Derived.Test.YtkmmnocooibljaaGreatDoorLz
import Derived.Test.YtkmmnocooibljaaGreatDoorLaq
namespace Go.Proofs.YtkmmnocooibljaaGreatDoor
open Go.ChangeShapes Go.WideShapes Go.ChangeAt Go.RowKit Go.Deep
set_option linter.unusedVariables false

theorem isSize_any (k : Int) (w : World) :
    Calls Tryz.prog 126 #[.int .i64 k] w fun e w' => e = .returned (.bool (decide (1 ≤ k ∧ k ≤ 8))) ∧ w = w' := by
  by_cases h1 : 1 ≤ k
  · go_enter Tryz.func126, Tryz.ntmps126
    go_wp2
    go_ret
    exact ⟨by simp [h1], rfl⟩
  · go_enter Tryz.func126, Tryz.ntmps126
    go_wp2
    go_ret
    exact ⟨by simp; omega, rfl⟩
def fillK (f : Nat → Nat) (s k : Nat) : List Value := (List.range s).map fun i => Value.int .u8 (if i < k then ((f i : Nat) : Int) else 0)
theorem fillK_made (f : Nat → Nat) (s : Nat) : (madeCells #[Value.int .u8 0] s).toList = fillK f s 0 := by
  rw [toList_madeCells_one]
  apply List.ext_getElem
  · simp [fillK]
  · intro i h1 h2; simp [fillK]
theorem fillK_set (f : Nat → Nat) (s k : Nat) (x : Int) (hx : x = f k) : (fillK f s k).set k (.int .u8 x) = fillK f s (k + 1) := by
  subst hx
  apply List.ext_getElem
  · simp [fillK]
  · intro i h1 h2
    simp only [fillK, List.getElem_set, List.getElem_map, List.getElem_range]
    by_cases e : k = i
    · subst e; simp
    · rw [if_neg e]; congr 1
      by_cases h : i < k
      · rw [if_pos h, if_pos (by omega)]
      · rw [if_neg h, if_neg (by omega)]
theorem fillK_full (f : Nat → Nat) (s : Nat) : fillK f s s = nums ((List.range s).map f) := by
  simp only [fillK, nums, List.map_map]
  apply List.map_congr_left
  intro i hi
  simp at hi
  simp [hi]
theorem fillK_get (f : Nat → Nat) (s k i : Nat) (h : i < s) : (fillK f s k)[i]? = some (.int .u8 (if i < k then ((f i : Nat) : Int) else 0)) := by
  simp [fillK, h]
theorem fix_byte (n k : Nat) : (n : Int) / 2 ^ (8 * k) % 256 = ((n / 256 ^ k % 256 : Nat) : Int) := by
  have e2 : (2 : Nat) ^ (8 * k) = 256 ^ k := by rw [Nat.pow_mul]
  rw [← e2]; simp
def fixF (n : Nat) (i : Nat) : Nat := n / 256 ^ i % 256
theorem fixN_nums (n k : Nat) : fillK (fixF n) k k = nums (fixN n k) := fillK_full (fixF n) k
set_option maxHeartbeats 1000000 in
theorem fixed_any (n s : Nat) (w : World) (_h : n < 18446744073709551616) (h1 : 1 ≤ s) (h8 : s ≤ 8) :
    Calls Tryz.prog 133 #[.int .u64 n, .int .i64 s] w fun e w' => ∃ g, e = .returned (.slice (some ⟨g, 0, none⟩) s s) ∧
      w'.ownsRow w.heap.size 5 1 (.slice (some ⟨g, 0, none⟩) s s) s (nums (fixN n s)) ∧ Below w.heap.size w w' := by
  obtain ⟨i8, hi, hz0, hz1, hz2⟩ := info_parts info8
  have hm : i8.bytes * s ≤ 281474976710656 := by rw [hz2]; omega
  have hmade := fillK_made (fixF n) s
  have HG : Hid (∀ s k i : Nat, i < s → (fillK (fixF n) s k)[i]? = some (.int .u8 (if i < k then ((fixF n i : Nat) : Int) else 0))) := fillK_get (fixF n)
  have HT : Hid (∀ (k : Nat) (x : Int), x = fixF n k → (fillK (fixF n) s k).set k (.int .u8 x) = fillK (fixF n) s (k + 1)) := fillK_set (fixF n) s
  go_enter Tryz.func133, Tryz.ntmps133
  go_wp2_with (first | (go_at_call 126; refine (isSize_any _ w).mono ?_; rw [decide_eq_true (show (1 : Int) ≤ (s : Int) ∧ (s : Int) ≤ 8 by omega)]; rintro e w' ⟨rfl, rfl⟩) | (at_make; refine wpList_make_full _ rfl _ _ 30 rfl w.heap.size 5 i8 (.int .u8 0) 1 Tryz.underlying30 hi hz0 hz1 _ _ _ _ s rfl rfl rfl rfl hm (by unfold maxLen; omega) (Nat.le_refl _) ?_))
  intro w1 hown hgrow
  have hbel : Below w.heap.size w w1 := (Below.refl _ _).grown hgrow (Nat.le_refl _) (by simp)
  clear hmade hm hi hz0 hz1 hz2 hgrow
  go_wp2
  go_loopw [13] (fun i wr => ∃ k : Nat, k ≤ s ∧ i = .int .i64 k ∧ wr.ownsRow w.heap.size 5 1 (.slice (some ⟨w.heap.size, 0, none⟩) s s) s (fillK (fixF n) s k) ∧ Below w.heap.size w wr) (fun i _ => s - (intOf i).toNat)
  case atStart => exact ⟨0, Nat.zero_le _, rfl, hown, hbel⟩
  case round =>
    obtain ⟨k, hk, rfl, hownr, hbelr⟩ := hrel
    by_cases hlt' : k < s
    · have hc : wr.cell? ⟨w.heap.size, k, none⟩ = some (.int .u8 (if k < k then ((fixF n k : Nat) : Int) else 0)) := by rw [hownr.cellAt k (by omega), HG.out s k k hlt']
      have hf := hownr.frozenAt k
      go_wp2
      go_roundw
      case rel =>
        refine ⟨k + 1, by omega, by go_num, ?_, hbelr.setCell (Nat.le_refl _) _⟩
        have st := (hownr.stored k (.int .u8 (fixF n k : Nat))).1
        rw [HT.out k _ rfl] at st
        rw [fix_byte n k]
        exact st
      case measure => simp [intOf]; omega
    · have hks : k = s := by omega
      subst hks
      go_wp2
      go_ret
      exact ⟨w.heap.size, rfl, by rw [← fixN_nums]; exact hownr, hbelr⟩
theorem fixed_none (n k : Int) (w : World) (h : ¬ (1 ≤ k ∧ k ≤ 8)) :
    Calls Tryz.prog 133 #[.int .u64 n, .int .i64 k] w fun e w' => e = .returned (.slice none 0 0) ∧ w = w' := by
  go_enter Tryz.func133, Tryz.ntmps133
  go_wp2_with (go_at_call 126; refine (isSize_any _ w).mono ?_; rw [decide_eq_false h]; rintro e w' ⟨rfl, rfl⟩)
  go_ret
  exact ⟨rfl, rfl⟩
theorem u64_id (n : Nat) (h : n < 18446744073709551616) : IntKind.u64.wrap (n : Int) = n := by rw [IntKind.wrap_u64]; omega
theorem or_add (acc x j : Nat) (h : acc < 2 ^ j) : acc ||| x * 2 ^ j = acc + x * 2 ^ j := by
  rw [Nat.or_comm, Nat.mul_comm, ← Nat.two_pow_add_eq_or_of_lt h]; omega
theorem wid_step (ys : List Nat) (k c : Nat) (hk : k < ys.length) (hc : c = ys.getD k 0) : wid (ys.take (k + 1)) = wid (ys.take k) + c * 256 ^ k := by
  rw [List.take_succ_eq_append_getElem hk, wid_snoc, List.length_take, Nat.min_eq_left (by omega), hc]
  simp [List.getD, hk]
theorem wide_or (acc k c : Nat) (hacc : acc < 256 ^ k) (hk : k ≤ 7) (hc : c < 256) :
    bits BinOp.or IntKind.u64 (acc : Int) (IntKind.u64.wrap ((c : Int) * 2 ^ (8 * k))) = ((acc + c * 256 ^ k : Nat) : Int) := by
  have e2 : (2 : Nat) ^ (8 * k) = 256 ^ k := by rw [Nat.pow_mul]
  have hp : 256 ^ k ≤ 256 ^ 7 := Nat.pow_le_pow_right (by omega) hk
  have hb : c * 256 ^ k ≤ 255 * 256 ^ 7 := Nat.mul_le_mul (by omega) hp
  have e3 : ((c : Nat) : Int) * 2 ^ (8 * k) = ((c * 2 ^ (8 * k) : Nat) : Int) := by simp
  rw [e3, u64_id _ (by rw [e2]; omega), bits_or_u64_nat _ _ (by omega) (by rw [e2]; omega), or_add _ _ _ (by rw [e2]; exact hacc), e2]
def WideRel (xs : List Nat) (p s : Nat) (n i : Value) : Prop :=
  ∃ k : Nat, k ≤ s ∧ i = .int .i64 k ∧ n = .int .u64 ((wid ((xs.drop p).take k) : Nat) : Int)
theorem wide_short (a : Option Addr) (L cap : Nat) (p s : Int) (w : World) (hm : L ≤ 9223372036854775807) (hs : 1 ≤ s ∧ s ≤ 8) (h0 : 0 ≤ p) (h1 : p ≤ L) (h2 : (L : Int) - p < s) :
    Calls Tryz.prog 93 #[.slice a L cap, .int .i64 p, .int .i64 s] w fun e w' => e = .returned (.tuple #[.int .u64 0, .int .i64 0, .int .i64 10]) ∧ w = w' := by
  go_enter Tryz.func93, Tryz.ntmps93
  go_wp2_with (go_at_call 126; refine (isSize_any _ w).mono ?_; rw [decide_eq_true hs]; rintro e w' ⟨rfl, rfl⟩)
  go_ret3
  exact ⟨rfl, rfl⟩
set_option maxRecDepth 100000 in
set_option maxHeartbeats 1000000 in
theorem wide_row (b off L cap : Nat) (xs : List Nat) (p s : Nat) (w : World) (hL : L = xs.length) (hb : ∀ c ∈ xs, c < 256) (hm : L ≤ 9223372036854775807)
    (hc : ∀ i, i < xs.length → w.cell? ⟨b, off + i, none⟩ = some (.int .u8 ((xs.getD i 0 : Nat) : Int))) (hs1 : 1 ≤ s) (hs8 : s ≤ 8) (hp : p + s ≤ L) :
    Calls Tryz.prog 93 #[.slice (some ⟨b, off, none⟩) L cap, .int .i64 p, .int .i64 s] w fun e w' =>
      e = .returned (.tuple #[.int .u64 (wid ((xs.drop p).take s) : Nat), .int .i64 ((p : Int) + s), .int .i64 0]) ∧ w = w' := by
  have HC : Hid (∀ i, i < xs.length → w.cell? ⟨b, off + i, none⟩ = some (.int .u8 ((xs.getD i 0 : Nat) : Int))) := hc
  have HB : Hid (∀ i, i < xs.length → xs.getD i 0 < 256) := by
    intro i hi
    exact hb _ (by simp [List.getD, hi])
  have HW : Hid (∀ k, wid ((xs.drop p).take k) < 256 ^ ((xs.drop p).take k).length) := fun k => wid_lt _ fun c hc => hb c (List.mem_of_mem_drop (List.mem_of_mem_take hc))
  have HL : Hid (L = xs.length) := hL
  have hs : 1 ≤ (s : Int) ∧ (s : Int) ≤ 8 := by omega
  clear hc hL hb
  go_enter Tryz.func93, Tryz.ntmps93
  go_wp2_with (go_at_call 126; refine (isSize_any _ w).mono ?_; rw [decide_eq_true hs]; rintro e w' ⟨rfl, rfl⟩)
  go_loop [9, 31] (fun n i => WideRel xs p s n i) (fun _ i => s - (intOf i).toNat)
  case atStart => exact ⟨0, by omega, rfl, rfl⟩
  case round =>
    obtain ⟨k, hk, rfl, rfl⟩ := hrel
    by_cases hlt : k < s
    · obtain ⟨c, hcc⟩ : ∃ c, c = xs.getD (p + k) 0 := ⟨_, rfl⟩
      have hcell : w.cell? ⟨b, off + (p + k), none⟩ = some (.int .u8 (c : Int)) := by rw [hcc]; exact HC.out (p + k) (by rw [← HL.out]; omega)
      have h256 : c < 256 := by rw [hcc]; exact HB.out (p + k) (by rw [← HL.out]; omega)
      have hlen : k < (xs.drop p).length := by have := HL.out; simp; omega
      have e1 : wid ((xs.drop p).take (k + 1)) = wid ((xs.drop p).take k) + c * 256 ^ k := wid_step _ k c hlen (by rw [hcc]; simp [List.getD])
      have hw := HW.out k
      rw [List.length_take, Nat.min_eq_left (by omega)] at hw
      have HWK : Hid (wid ((xs.drop p).take k) < 256 ^ k) := hw
      have HE : Hid (wid ((xs.drop p).take (k + 1)) = wid ((xs.drop p).take k) + c * 256 ^ k) := e1
      clear e1 hw hcc hlen
      go_wp2
      go_round
      case rel => exact ⟨k + 1, by omega, by go_num, by rw [HE.out, wide_or _ k c HWK.out (by omega) h256]⟩
      case measure => simp [intOf]; omega
    · have hks : k = s := by omega
      subst hks
      go_wp2
      go_ret3
      exact ⟨rfl, rfl⟩
end Go.Proofs.YtkmmnocooibljaaGreatDoor
