/-
  CONTRACTS of the kit's Pick, SameTokens, SpoilTokens.
-/
import Derived.Test.YteeoakbafbnkhaaDoorTokensWalk
namespace Go.Proofs.YteeoakbafbnkhaaDoor
open Go.RowKit
set_option linter.unusedVariables false

theorem pick_as (i n k : Int) (hn : 1 ≤ n) (hm : n ≤ 1048576) (hk : i % n = k) (hi : -9223372036854775808 ≤ i ∧ i ≤ 9223372036854775807) (w : World) :
    Calls Tryd.prog 20 #[.int .i64 i, .int .i64 n] w fun e w' => e = .returned (.int .i64 k) ∧ w = w' := by
  have n0 : ¬ n = 0 := by omega
  have e := Int.tmod_eq_emod (a := i) (b := n)
  have h1 := Int.emod_nonneg i n0
  have h2 := Int.emod_lt_of_pos i (show 0 < n by omega)
  have h3 : -1048576 < i.tmod n ∧ i.tmod n < 1048576 := by split at e <;> omega
  have h4 : i.tmod n < 0 → i.tmod n + n = k := by intro q; split at e <;> omega
  have h5 : ¬ i.tmod n < 0 → i.tmod n = k := by intro q; split at e <;> omega
  obtain ⟨t, ht⟩ : ∃ t, i.tmod n = t := ⟨_, rfl⟩
  rw [ht] at h3 h4 h5
  clear e h1 h2 hk hi
  by_cases hneg : t < 0
  · have h6 := h4 hneg
    clear h4 h5
    go_enter Tryd.func20, Tryd.ntmps20
    go_wp2
    go_ret
    exact ⟨rfl, rfl⟩
  · have h6 := h5 hneg
    clear h4 h5
    go_enter Tryd.func20, Tryd.ntmps20
    go_wp2
    go_ret
    exact ⟨rfl, rfl⟩

/-- Tokens lie there. -/
def TokLies (w : World) (ao : Option Addr) (ts : List (Nat × List Nat × Nat × Nat × Nat)) : Prop :=
  ts = [] ∨ ∃ b, ao = some ⟨b, 0, none⟩ ∧ ∀ i, i < ts.length * 5 → w.cell? ⟨b, i, none⟩ = (rowT ts)[i]?
theorem rowT_get (ts : List (Nat × List Nat × Nat × Nat × Nat)) (k j : Nat) (hk : k < ts.length) (hj : j < 5) : (rowT ts)[k * 5 + j]? = (cellsT ts[k])[j]? := by
  induction ts generalizing k with
  | nil => simp at hk
  | cons t r ih =>
    have e : rowT (t :: r) = cellsT t ++ rowT r := by simp [rowT]
    have hl : (cellsT t).length = 5 := rfl
    cases k with
    | zero => rw [e, Nat.zero_mul, Nat.zero_add, List.getElem?_append_left (by omega)]; rfl
    | succ k =>
      rw [e, List.getElem?_append_right (by omega), hl, show (k + 1) * 5 + j - 5 = k * 5 + j by omega, ih k (by simpa using hk)]; rfl
theorem lies_cells {w : World} {b k n : Nat} {ts : List (Nat × List Nat × Nat × Nat × Nat)} (hn : ts.length = n) (h : ∀ i, i < ts.length * 5 → w.cell? ⟨b, i, none⟩ = (rowT ts)[i]?) (hk : k < n) :
    w.cell? ⟨b, k * 5, none⟩ = some (.int .u8 ((ts.getD k default).1 : Int)) ∧ w.cell? ⟨b, k * 5 + 1, none⟩ = some (.string (strN (ts.getD k default).2.1)) ∧ w.cell? ⟨b, k * 5 + 2, none⟩ = some (.int .u64 ((ts.getD k default).2.2.1 : Int)) ∧ w.cell? ⟨b, k * 5 + 3, none⟩ = some (.int .i64 ((ts.getD k default).2.2.2.1 : Int)) ∧ w.cell? ⟨b, k * 5 + 4, none⟩ = some (.int .i64 ((ts.getD k default).2.2.2.2 : Int)) := by
  have hk2 : k < ts.length := by omega
  have e : ts.getD k default = ts[k] := by rw [List.getD_eq_getElem?_getD, List.getElem?_eq_getElem hk2]; rfl
  rw [e]
  have key : ∀ j, j < 5 → w.cell? ⟨b, k * 5 + j, none⟩ = (cellsT ts[k])[j]? := by
    intro j hj
    rw [← rowT_get ts k j hk2 hj, ← h _ (by omega)]
  exact ⟨key 0 (by omega), key 1 (by omega), key 2 (by omega), key 3 (by omega), key 4 (by omega)⟩
def SameRel (w : World) (n : Nat) (i : Value) (wr : World) : Prop := ∃ k m : Nat, k ≤ n ∧ i = .int .i64 k ∧ wr = w.drewN m
set_option maxRecDepth 100000 in
set_option maxHeartbeats 1000000 in
theorem same_some (w : World) (a b : Nat) (c d n : Nat) (ts : List (Nat × List Nat × Nat × Nat × Nat)) (hn : Hid (ts.length = n)) (hn2 : n ≤ 1048576) (HA : Hid (∀ i, i < ts.length * 5 → w.cell? ⟨a, i, none⟩ = (rowT ts)[i]?)) (HB : Hid (∀ i, i < ts.length * 5 → w.cell? ⟨b, i, none⟩ = (rowT ts)[i]?)) :
    Calls Tryd.prog 17 #[.slice (some ⟨a, 0, none⟩) n c, .slice (some ⟨b, 0, none⟩) n d] w fun e w' => e = .returned (.bool true) ∧ ∃ m, w' = w.drewN m := by
  go_enter Tryd.func17, Tryd.ntmps17
  go_wp2
  go_loopw [5] (fun i wr => SameRel w n i wr) (fun i _ => n - (intOf i).toNat)
  case atStart => exact ⟨0, 0, by omega, rfl, rfl⟩
  case round =>
    obtain ⟨k, m, hk, rfl, rfl⟩ := hrel
    by_cases hlt : k < n
    · obtain ⟨a0, a1, a2, a3, a4⟩ := lies_cells hn.out HA.out hlt
      obtain ⟨b0, b1, b2, b3, b4⟩ := lies_cells hn.out HB.out hlt
      generalize ((ts.getD k default).1 : Int) = q0 at a0 b0
      generalize strN (ts.getD k default).2.1 = q1 at a1 b1
      generalize ((ts.getD k default).2.2.1 : Int) = q2 at a2 b2
      generalize ((ts.getD k default).2.2.2.1 : Int) = q3 at a3 b3
      generalize ((ts.getD k default).2.2.2.2 : Int) = q4 at a4 b4
      go_wp2_with fail
      go_region
      go_wp2
      go_roundw
      case rel => exact ⟨k + 1, m + 1, by omega, by go_num, rfl⟩
      case measure => simp [intOf]; omega
    · have hkn : k = n := by omega
      subst hkn
      go_wp2
      go_ret
      exact ⟨rfl, m, rfl⟩

set_option maxRecDepth 100000 in
theorem same_none (w : World) (ao bo : Option Addr) (c d : Nat) :
    Calls Tryd.prog 17 #[.slice ao 0 c, .slice bo 0 d] w fun e w' => e = .returned (.bool true) ∧ ∃ m, w' = w.drewN m := by
  go_enter Tryd.func17, Tryd.ntmps17
  go_wp2
  go_rounds 1
  go_ret
  exact ⟨rfl, 0, rfl⟩
theorem same_as (w : World) (ao bo : Option Addr) (c d n : Nat) (ts : List (Nat × List Nat × Nat × Nat × Nat)) (hn : ts.length = n) (hn2 : n ≤ 1048576) (ha : TokLies w ao ts) (hb : TokLies w bo ts) :
    Calls Tryd.prog 17 #[.slice ao n c, .slice bo n d] w fun e w' => e = .returned (.bool true) ∧ ∃ m, w' = w.drewN m := by
  rcases ha with rfl | ⟨a, rfl, ha⟩
  · have h0 : n = 0 := by rw [← hn]; rfl
    subst h0
    exact same_none w ao bo c d
  · rcases hb with rfl | ⟨b, rfl, hb⟩
    · have h0 : n = 0 := by rw [← hn]; rfl
      subst h0
      exact same_none w _ bo c d
    · exact same_some w a b c d n ts hn hn2 ha hb
theorem lies_own {w : World} {B n : Nat} {ao : Option Addr} {cap : Nat} {ts : List (Nat × List Nat × Nat × Nat × Nat)} (h : w.ownsRow B 39 5 (.slice ao n cap) n (rowT ts)) (hn : ts.length = n) : TokLies w ao ts := by
  have h' := h
  rcases h.2 with ⟨h1, h2⟩ | ⟨g, cap', cur, h1, _⟩
  · exact .inl (List.eq_nil_of_length_eq_zero (by omega))
  · simp only [Value.slice.injEq] at h1
    obtain ⟨rfl, _, rfl⟩ := h1
    exact .inr ⟨g, rfl, fun i hi => h'.cellAt i (by omega)⟩
theorem lies_below {w w' : World} {B : Nat} {ao : Option Addr} {ts : List (Nat × List Nat × Nat × Nat × Nat)} (h : TokLies w ao ts) (hb : Below B w w') (hlt : ∀ b, ao = some ⟨b, 0, none⟩ → b < B) : TokLies w' ao ts := by
  rcases h with h | ⟨b, rfl, h⟩
  · exact .inl h
  · exact .inr ⟨b, rfl, fun i hi => (hb.cell (p := ⟨b, i, none⟩) (hlt b rfl)).trans (h i hi)⟩
end Go.Proofs.YteeoakbafbnkhaaDoor
