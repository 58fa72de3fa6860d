/-
  slices.Delete of a row's end.
-/
import Derived.Test.YtnnajgbkpilaaaaPop
namespace Go.Proofs.Ytnnajgbkpilaaaa
open Go.RowKit
set_option linter.unusedVariables false

set_option maxHeartbeats 1000000 in
theorem del_same (w : World) (ao : Option Addr) (n cap : Nat) (h1 : n ≤ cap) (h2 : cap ≤ maxLen) (hn : n ≤ 1000000) :
    Calls Try.prog 47 #[.slice ao n cap, .int .i64 (n : Int), .int .i64 (n : Int)] w fun e w' => e = .returned (.slice ao n cap) ∧ w = w' := by
  unfold maxLen at h2
  go_enter Try.func47, Try.ntmps47
  go_wp2
  go_ret
  exact ⟨rfl, rfl⟩
set_option maxHeartbeats 1000000 in
theorem del_end (w : World) (g i n cap : Nat) (xs : List Value) (cur : Array Value) (hg : Own w g cur 71) (h1 : n ≤ cap) (h2 : cap ≤ maxLen) (hn : n ≤ 1000000) (hi : i < n) (hs : cur.size = cap * 2) (hx : cur.toList.take (n * 2) = xs) :
    Calls Try.prog 47 #[.slice (some ⟨g, 0, none⟩) n cap, .int .i64 (i : Int), .int .i64 (n : Int)] w fun e w' => e = .returned (.slice (some ⟨g, 0, none⟩) i cap) ∧ Rw w' 71 2 (.slice (some ⟨g, 0, none⟩) i cap) i (xs.take (i * 2)) ∧ w.grownBy w' (some g) := by
  have h3 := h2
  unfold maxLen at h2
  obtain ⟨i0, hi0, hz0, hz1, hz2⟩ := info_parts okL.info
  go_enter Try.func47, Try.ntmps47
  have hz1' : ∀ u ∈ (Value.agg #[.string ⟨#[]⟩, .int .i64 0]).cells.toList, u.oneCell' = true := by simp [Value.cells, Value.oneCell']
  have hgd := hg.drew
  have hfit : i * 2 + (n - i) * 2 ≤ cur.size := by omega
  go_wp2_with fail
  by_cases hc : n = cap
  · subst hc
    have hle : i ≤ n := by omega
    go_region_law (refine step_append_room rfl (.tmp 22) (.tmp 25) 54 rfl 71 i0 2 Try.underlying54 hi0 hz1 g 0 i n (by simp [Act.eval, Act.put]) ⟨g, 0, none⟩ 0 0 [] (by simp [Act.eval, Act.put]) rfl (by simp) (by simp) (by omega) (by simp) ?_)
    all_goals (
      rw [show w.drew.setCells g (i * 2) [] = w.drew from rfl]
      go_wp2_with (refine wpList_clear okL Try.zeroValue71 hz1' (by rfl) (.tmp 31) (by rfl) g (i * 2) (n - i) (n - i) (by rfl) cur hgd (by omega) hfit ?_; intro w2 cur2 k1 k2 k3 k4)
      go_ret
      refine ⟨rfl, Rw.cut k1 (k2.trans hs) (Nat.le_of_lt hi) h1 h3 hx hs (fun j hj => k3 j hj), ?_⟩
      exact ⟨k4.os, k4.tape, k4.output, k4.size, k4.block⟩)
  · have hlt : n < cap := by omega
    have hle : i ≤ cap := by omega
    have hcc : ¬ cap = n := by omega
    have hcn : ¬ cap = i := by omega
    go_region_law (refine step_append_room rfl (.tmp 22) (.tmp 25) 54 rfl 71 i0 2 Try.underlying54 hi0 hz1 g 0 i cap (by simp [Act.eval, Act.put]) ⟨g, n * 2, none⟩ 0 (cap - n) [] (by simp [Act.eval, Act.put]) rfl (by simp) (by simp) (by omega) (by simp) ?_)
    all_goals (
      rw [show w.drew.setCells g (i * 2) [] = w.drew from rfl]
      go_wp2_with (refine wpList_clear okL Try.zeroValue71 hz1' (by rfl) (.tmp 31) (by rfl) g (i * 2) (n - i) (cap - i) (by rfl) cur hgd (by omega) hfit ?_; intro w2 cur2 k1 k2 k3 k4)
      go_ret
      refine ⟨rfl, Rw.cut k1 (k2.trans hs) (Nat.le_of_lt hi) h1 h3 hx hs (fun j hj => k3 j hj), ?_⟩
      exact ⟨k4.os, k4.tape, k4.output, k4.size, k4.block⟩)
theorem del_as (w : World) (ao : Option Addr) (i n cap : Nat) (xs : List Value) (hr : Rw w 71 2 (.slice ao n cap) n xs) (hi : i ≤ n) (hn : n ≤ 1000000) :
    Calls Try.prog 47 #[.slice ao n cap, .int .i64 (i : Int), .int .i64 (n : Int)] w fun e w' => e = .returned (.slice ao i cap) ∧ Rw w' 71 2 (.slice ao i cap) i (xs.take (i * 2)) ∧ w.grownBy w' (Value.slice ao n cap).ownBlock := by
  rcases Nat.lt_or_ge i n with hlt | hge
  · obtain ⟨g, cap', cur, e, hg, h1, h2, h3, h4⟩ := hr.block (by omega)
    cases e
    exact del_end w g i n cap xs cur hg h1 h2 hn hlt h3 h4
  · obtain rfl : i = n := by omega
    obtain ⟨ao', cap', e, h1, h2⟩ := hr.shape
    cases e
    refine (del_same w ao i cap h1 h2 hn).mono ?_
    rintro e w' ⟨rfl, rfl⟩
    refine ⟨rfl, ?_, ⟨rfl, rfl, rfl, Nat.le_refl _, fun _ _ _ => rfl⟩⟩
    have hl := hr.1
    rw [List.take_of_length_le (by omega)]
    exact hr
end Go.Proofs.Ytnnajgbkpilaaaa
