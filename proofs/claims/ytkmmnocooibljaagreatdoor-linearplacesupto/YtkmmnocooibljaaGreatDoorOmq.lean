/-
  Om, what is reached of it.
-/
import Derived.Test.YtkmmnocooibljaaGreatDoorLz
import Derived.Laws.MathBits
import Derived.Laws.Bits64b
import Derived.Laws.BitsAllLaws
namespace Go.Proofs.YtkmmnocooibljaaGreatDoor
open Go.ChangeShapes Go.WideShapes Go.ChangeAt Go.RowKit Go.Deep
set_option linter.unusedVariables false

theorem fixN_byte (n k : Nat) : ∀ c ∈ fixN n k, c < 256 := by
  intro c hc; simp [fixN] at hc; obtain ⟨i, _, rfl⟩ := hc; omega
theorem wid_snoc : ∀ (l : List Nat) (c : Nat), wid (l ++ [c]) = wid l + c * 256 ^ l.length := by
  intro l
  induction l with
  | nil => intro c; simp [wid]
  | cons a r ih => intro c; simp only [List.cons_append, wid, ih, List.length_cons, Nat.pow_succ]; rw [Nat.mul_add, ← Nat.add_assoc]; congr 1; rw [Nat.mul_comm 256, Nat.mul_assoc]
theorem wid_lt : ∀ (l : List Nat), (∀ c ∈ l, c < 256) → wid l < 256 ^ l.length := by
  intro l
  induction l with
  | nil => intro _; simp [wid]
  | cons a r ih =>
    intro h
    have := ih fun c hc => h c (by simp [hc])
    have ha := h a (by simp)
    simp only [wid, List.length_cons, Nat.pow_succ]; omega
theorem val_sz (w : Int) : (nVal w).sz = 8 := by unfold nVal; split; rfl; split <;> rfl
theorem Nm.put_byte (k : Nm) (n : Int) : ∀ c ∈ k.put n, c < 256 := fixN_byte _ _
theorem pow8 (s : Nat) (h : s ≤ 8) : ∃ q : Nat, 18446744073709551616 = 256 ^ s * q := by
  refine ⟨256 ^ (8 - s), ?_⟩
  rw [← Nat.pow_add, show s + (8 - s) = 8 by omega]
theorem rd_err (k : Nm) (xs : List Nat) (s : St) (h : s.2 ≠ 0) : k.rd xs s = (0, s) := by unfold Nm.rd; rw [if_pos (.inl h)]
def dec (xs : List Nat) (p : Int) : In × Nat × Nat :=
  if p < 0 ∨ (xs.length : Int) ≤ p then (zI, 0, 2) else
  match lay (xs.getD p.toNat 0) with
  | none => (zI, 0, 120)
  | some l => if (l.rd (xs.getD p.toNat 0) xs (p.toNat + 1, 0)).2.2 ≠ 0 then (zI, 0, (l.rd (xs.getD p.toNat 0) xs (p.toNat + 1, 0)).2.2)
    else ((l.rd (xs.getD p.toNat 0) xs (p.toNat + 1, 0)).1, (l.rd (xs.getD p.toNat 0) xs (p.toNat + 1, 0)).2.1, 0)
def Passes {α : Type} (R : List Nat → St → α × St) : Prop := ∀ xs s, s.2 ≠ 0 → (R xs s).2 = s
theorem armsR_pass (k : Nm) (xs : List Nat) : ∀ n (s : St), s.2 ≠ 0 → armsR k xs n s = ([], s) := by
  intro n
  cases n with
  | zero => intro s _; rfl
  | succ n =>
    intro s h
    unfold armsR
    simp only [rd_err k xs s h, rd_err nPlace xs s h]
    rw [if_pos h]
theorem rdArms_pass (l : Lay) (a : Int) : Passes (l.rdArms a) := by
  intro xs s h
  unfold Lay.rdArms
  split
  · rw [rd_err nShort xs s h, armsR_pass _ xs _ s h]
  · rfl
end Go.Proofs.YtkmmnocooibljaaGreatDoor
