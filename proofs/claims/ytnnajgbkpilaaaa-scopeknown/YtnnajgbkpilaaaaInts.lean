/-
  CONTRACT of the kit's SameInts.
-/
import Derived.Test.YtnnajgbkpilaaaaPop
namespace Go.Proofs.Ytnnajgbkpilaaaa
open Go.RowKit
set_option linter.unusedVariables false

/-- Numbers lie where a slice leads. -/
def IntsAt (w : World) (ao : Option Addr) (xs : List Int) : Prop := xs = [] ∨ ∃ b o, ao = some ⟨b, o, none⟩ ∧ ∀ i, i < xs.length → w.cell? ⟨b, o + i, none⟩ = some (.int .i64 (xs.getD i 0))
theorem ints_of {w : World} {ao : Option Addr} {n cap : Nat} {xs : List Int} (h : Rw w 3 1 (.slice ao n cap) n (xs.map fun x => .int .i64 x)) : IntsAt w ao xs ∧ xs.length = n := by
  have hl := h.1
  rw [List.length_map, Nat.mul_one] at hl
  refine ⟨?_, hl⟩
  rcases h.2 with ⟨e, h0⟩ | ⟨g, cap', cur, e, _, hg, _⟩
  · left; exact List.eq_nil_of_length_eq_zero (by omega)
  · cases e
    right
    refine ⟨g, 0, rfl, fun i hi => ?_⟩
    rw [Nat.zero_add]
    refine h.cells i _ ?_
    rw [List.getElem?_map, List.getElem?_eq_getElem hi, List.getD_eq_getElem?_getD, List.getElem?_eq_getElem hi]
    rfl
theorem IntsAt.take {w : World} {ao : Option Addr} {xs : List Int} (h : IntsAt w ao xs) (n : Nat) : IntsAt w ao (xs.take n) := by
  rcases h with rfl | ⟨b, o, h1, h2⟩
  · left; simp
  · right
    refine ⟨b, o, h1, fun i hi => ?_⟩
    rw [List.length_take] at hi
    rw [h2 i (by omega), List.getD_eq_getElem?_getD, List.getD_eq_getElem?_getD, List.getElem?_take, if_pos (by omega)]
theorem take_eq {xs ys : List Int} {k : Nat} (hx : k < xs.length) (hy : k < ys.length) (h : xs.take k = ys.take k) (he : xs.getD k 0 = ys.getD k 0) : xs.take (k + 1) = ys.take (k + 1) := by
  rw [List.take_succ_eq_append_getElem hx, List.take_succ_eq_append_getElem hy, h]
  rw [List.getD_eq_getElem?_getD, List.getD_eq_getElem?_getD, List.getElem?_eq_getElem hx, List.getElem?_eq_getElem hy] at he
  simp only [Option.getD_some] at he
  rw [he]
def SameRel (xs ys : List Int) (w : World) (iv : Value) (wr : World) : Prop := ∃ k : Nat, k ≤ xs.length ∧ iv = .int .i64 k ∧ xs.take k = ys.take k ∧ Below w.heap.size w wr
set_option maxHeartbeats 1000000 in
theorem sameI (w : World) (ao bo : Option Addr) (xs ys : List Int) (c d : Nat) (hx : IntsAt w ao xs) (hy : IntsAt w bo ys) (hn : xs.length ≤ 1000000) (hm : ys.length ≤ 1000000) :
    Calls Try.prog 25 #[.slice ao xs.length c, .slice bo ys.length d] w fun e w' => e = .returned (.bool (decide (xs = ys))) ∧ Below w.heap.size w w' := by
  obtain ⟨R, hR⟩ : ∃ R, Hid (decide (xs = ys) = R) := ⟨_, rfl⟩
  rw [hR.out]
  obtain ⟨n, hn'⟩ : ∃ n, Hid (xs.length = n) := ⟨_, rfl⟩
  obtain ⟨m, hm'⟩ : ∃ n, Hid (ys.length = n) := ⟨_, rfl⟩
  rw [hn'.out] at hn ⊢
  rw [hm'.out] at hm ⊢
  by_cases hnm : n = m
  · subst hnm
    go_enter Try.func25, Try.ntmps25
    go_wp2_with fail
    go_loopw [5] (fun iv wr => SameRel xs ys w iv wr) (fun i _ => n - (intOf i).toNat)
    case atStart => exact ⟨0, Nat.zero_le _, rfl, rfl, Below.refl _ _⟩
    case round =>
      obtain ⟨k, hk, rfl, htk, hbw⟩ := hrel
      rw [hn'.out] at hk
      by_cases hlt : k < n
      · have H1 : Hid (k < xs.length) := by unfold Hid; rw [hn'.out]; exact hlt
        have H2 : Hid (k < ys.length) := by unfold Hid; rw [hm'.out]; exact hlt
        rcases hx with q | ⟨b, o, rfl, hb⟩
        · have := H1.out; rw [q] at this; simp at this
        rcases hy with q | ⟨b', o', rfl, hb'⟩
        · have := H2.out; rw [q] at this; simp at this
        have c1 := (hbw.cell (p := ⟨b, o + k, none⟩) (World.block_lt_of_cell? w _ (hb k H1.out))).trans (hb k H1.out)
        have c2 := (hbw.cell (p := ⟨b', o' + k, none⟩) (World.block_lt_of_cell? w _ (hb' k H2.out))).trans (hb' k H2.out)
        have HT : Hid (xs.take k = ys.take k) := htk
        clear hb hb' htk
        obtain ⟨a, ha⟩ : ∃ a, Hid (xs.getD k 0 = a) := ⟨_, rfl⟩
        obtain ⟨a', ha'⟩ : ∃ a, Hid (ys.getD k 0 = a) := ⟨_, rfl⟩
        rw [ha.out] at c1
        rw [ha'.out] at c2
        have c1d : wr.drew.cell? ⟨b, o + k, none⟩ = _ := c1
        have c2d : wr.drew.cell? ⟨b', o' + k, none⟩ = _ := c2
        by_cases hq : a = a'
        · subst hq
          go_wp2_with fail
          go_region
          all_goals (
            go_wp2_with fail
            go_roundw
            case rel => exact ⟨k + 1, by rw [hn'.out]; omega, by simp, take_eq H1.out H2.out HT.out (by rw [ha.out, ha'.out]), hbw.drew⟩
            case measure => simp [intOf]; omega)
        · have hq' : (a == a') = false := by simpa using hq
          have HQ : Hid (¬ a = a') := hq
          clear hq
          have hall : Hid (R = false) := by
            unfold Hid
            rw [← hR.out, decide_eq_false_iff_not]
            rintro rfl
            exact HQ.out (by rw [← ha.out, ha'.out])
          go_wp2_with fail
          go_region
          all_goals (
            go_wp2_with fail
            go_ret
            exact ⟨by rw [hall.out]; rfl, hbw.drew⟩)
      · have hkl : k = n := by omega
        subst hkl
        have hall : Hid (R = true) := by
          unfold Hid
          rw [← hR.out, decide_eq_true_eq, ← List.take_length (l := xs), ← List.take_length (l := ys), hn'.out, hm'.out]
          exact htk
        clear htk
        go_wp2
        go_ret
        exact ⟨by rw [hall.out]; rfl, hbw⟩
  · have hq : ((n : Int) == (m : Int)) = false := by simp; omega
    have hall : Hid (R = false) := by
      unfold Hid
      rw [← hR.out, decide_eq_false_iff_not]
      rintro rfl
      exact hnm (by rw [← hn'.out, hm'.out])
    go_enter Try.func25, Try.ntmps25
    go_wp2
    go_ret
    exact ⟨by rw [hall.out]; rfl, Below.refl _ _⟩
end Go.Proofs.Ytnnajgbkpilaaaa
