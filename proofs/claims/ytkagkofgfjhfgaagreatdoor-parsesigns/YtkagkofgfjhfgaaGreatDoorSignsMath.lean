/-
  WHICH SIGN BINDS MORE: the 324 expressions of three names with two signs between, and the 36 of two, reckoned.
-/
import Derived.Test.YtkagkofgfjhfgaaGreatDoorJAll
import Derived.Test.YtkagkofgfjhfgaaGreatDoorKLike
namespace Go.Proofs.YtkagkofgfjhfgaaGreatDoor
set_option linter.unusedVariables false

def sgL : List (List Nat) := [[124, 124], [38, 38], [61, 61], [33, 61], [60], [60, 61], [62], [62, 61], [43], [45], [124], [94], [42], [47], [37], [38], [60, 60], [62, 62]]
def lnL : List Nat := [0, 1, 2, 2, 2, 2, 2, 2, 3, 3, 3, 3, 4, 4, 4, 4, 4, 4]
def kdL : List Nat := [77, 76, 70, 71, 72, 73, 74, 75, 60, 61, 66, 67, 62, 63, 64, 65, 68, 69]
def sgN (i : Nat) : List Nat := sgL.getD i []
def lnN (i : Nat) : Nat := lnL.getD i 0
def kdN (i : Nat) : Nat := kdL.getD i 0
def nmT (a : Nat) (x : Nat) : Tree := ⟨44, a, [x], 0, []⟩
def lefT (i : Nat) : Tree := ⟨kdN i, 2, [], 0, [nmT 0 97, nmT (3 + (sgN i).length) 98]⟩
def rigT (k : Nat) : Tree := ⟨kdN k, 2, [], 0, [nmT 0 98, nmT (3 + (sgN k).length) 99]⟩
def midT (i k : Nat) : Tree := ⟨kdN k, (5 + (sgN i).length : Nat), [], 0, [nmT (3 + (sgN i).length) 98, nmT (6 + (sgN i).length + (sgN k).length) 99]⟩
def upL (i k : Nat) : Tree := ⟨kdN k, (5 + (sgN i).length : Nat), [], 0, [lefT i, nmT (6 + (sgN i).length + (sgN k).length) 99]⟩
def upR (i k : Nat) : Tree := ⟨kdN i, 2, [], 0, [nmT 0 97, midT i k]⟩
def bothR (i k : Nat) : Except (Nat × Nat) Tree := if lnN i = 2 ∧ lnN k = 2 then .error (5 + (sgN i).length, 40) else .ok (if lnN k ≤ lnN i then upL i k else upR i k)
def srcB (i k : Nat) : List Nat := [97, 32] ++ sgN i ++ [32, 98, 32] ++ sgN k ++ [32, 99]
def srcL (i : Nat) : List Nat := [97, 32] ++ sgN i ++ [32, 98]
def srcR (k : Nat) : List Nat := [98, 32] ++ sgN k ++ [32, 99]
/-- Are two trees the same? -/
def eqTr : Tree → Tree → Bool
  | ⟨k, a, x, n, ks⟩, u => decide (k = u.kind) && decide (a = u.at_) && decide (x = u.text) && decide (n = u.n) && eqTL ks u.kids
  where eqTL : List Tree → List Tree → Bool
  | [], us => us.isEmpty
  | t :: ts, us => match us with
    | [] => false
    | v :: vs => eqTr t v && eqTL ts vs
theorem eqTL_ok : ∀ (ts us : List Tree), eqTr.eqTL ts us = true → ts = us := by
  intro ts
  induction ts using treeRec with
  | h0 => intro us h; rw [eqTr.eqTL] at h; cases us with
    | nil => rfl
    | cons _ _ => simp at h
  | h1 k a t n ks ts ih1 ih2 =>
    intro us h
    cases us with
    | nil => rw [eqTr.eqTL.eq_def] at h; simp at h
    | cons v vs =>
      rw [eqTr.eqTL.eq_def] at h
      simp only [Bool.and_eq_true] at h
      have h1 := h.1
      rw [eqTr] at h1
      simp only [Bool.and_eq_true, decide_eq_true_eq] at h1
      obtain ⟨k', a', x', n', ks'⟩ := v
      obtain ⟨⟨⟨⟨q1, q2⟩, q3⟩, q4⟩, q5⟩ := h1
      rw [ih2 _ h.2, ih1 _ q5, q1, q2, q3, q4]
def eqRd (a : Option (Except (Nat × Nat) Tree)) (b : Except (Nat × Nat) Tree) : Bool := match a, b with
  | some (.ok t), .ok u => eqTr.eqTL [t] [u]
  | some (.error p), .error q => decide (p = q)
  | _, _ => false
theorem eqRd_ok {a : Option (Except (Nat × Nat) Tree)} {b : Except (Nat × Nat) Tree} (h : eqRd a b = true) : a = some b := by
  unfold eqRd at h
  split at h
  · have := eqTL_ok _ _ h; simp only [List.cons.injEq, and_true] at this; rw [this]
  · simp only [decide_eq_true_eq] at h; rw [h]
  · cases h
theorem both_all : ((List.range 18).all fun i => (List.range 18).all fun k => eqRd (readS (R fuelN).expr (srcB i k)) (bothR i k)) = true := by kernel_rfl
theorem left_all : ((List.range 18).all fun i => eqRd (readS (R fuelN).expr (srcL i)) (.ok (lefT i))) = true := by kernel_rfl
theorem right_all : ((List.range 18).all fun k => eqRd (readS (R fuelN).expr (srcR k)) (.ok (rigT k))) = true := by kernel_rfl
theorem both_is (i k : Nat) (hi : i < 18) (hk : k < 18) : readS (R fuelN).expr (srcB i k) = some (bothR i k) := by
  have := List.all_eq_true.1 both_all i (List.mem_range.2 hi)
  exact eqRd_ok (List.all_eq_true.1 this k (List.mem_range.2 hk))
theorem left_is (i : Nat) (hi : i < 18) : readS (R fuelN).expr (srcL i) = some (.ok (lefT i)) := eqRd_ok (List.all_eq_true.1 left_all i (List.mem_range.2 hi))
theorem right_is (k : Nat) (hk : k < 18) : readS (R fuelN).expr (srcR k) = some (.ok (rigT k)) := eqRd_ok (List.all_eq_true.1 right_all k (List.mem_range.2 hk))
theorem mid_like (i k : Nat) : eqv false (midT i k) (rigT k) := by
  unfold eqv midT rigT nmT
  simp [mapTr, pf]
end Go.Proofs.YtkagkofgfjhfgaaGreatDoor
