/-
  WHAT THE STATEMENTS SHARE: bytes as a string; Pick; a region that draws and only makes memory; numbers of what is an instruction.
-/
import Derived.Test.YtjfdlphkmpkjdaaDoorJec
import Derived.Laws.BytesArg
namespace Go.Proofs.YtjfdlphkmpkjdaaDoor
open Go.RowKit
set_option linter.unusedVariables false

theorem may_in {k : Nm} (hk : k.Ok) {n : Int} (h : k.may n = true) : -9223372036854775808 ≤ n ∧ n ≤ 9223372036854775807 := by
  have := of_decide_eq_true h
  have := hk.l64
  have := hk.h64
  omega
/-- What is an instruction has numbers in bounds. -/
theorem ok_in {x : In} (h : x.ok = true) : x.op < 256 ∧ (-9223372036854775808 ≤ x.a ∧ x.a ≤ 9223372036854775807) ∧ (-9223372036854775808 ≤ x.b ∧ x.b ≤ 9223372036854775807) ∧ (∀ y ∈ x.arms, (-9223372036854775808 ≤ y.1 ∧ y.1 ≤ 9223372036854775807) ∧ (-9223372036854775808 ≤ y.2 ∧ y.2 ≤ 9223372036854775807)) ∧ x.arms.length ≤ 65535 := by
  unfold In.ok at h
  cases hl : lay x.op with
  | none => rw [hl] at h; cases h
  | some l =>
    rw [hl] at h
    simp only [Lay.has, Bool.and_eq_true] at h
    obtain ⟨h1, h2, h3⟩ := h
    obtain ⟨hok, ho1, ho2⟩ := lay_ok hl
    refine ⟨by omega, may_in hok.a h1, may_in hok.b h2, ?_⟩
    unfold Lay.hasArms at h3
    by_cases ha : l.arms = true
    · rw [if_pos ha, Bool.and_eq_true, decide_eq_true_eq, List.all_eq_true] at h3
      refine ⟨fun y hy => ?_, h3.1⟩
      have := h3.2 y hy
      rw [Bool.and_eq_true] at this
      exact ⟨may_in (okVal _) this.1, may_in okPlace this.2⟩
    · rw [if_neg ha] at h3
      rw [List.isEmpty_iff.1 h3]
      exact ⟨by simp, by simp⟩
theorem enc_small (x : In) : x.enc.length ≤ 1000000 := by
  rw [enc_length]
  by_cases h : x.ok = true
  · have := (ok_in h).2.2.2.2
    unfold In.size
    split
    · omega
    · rename_i l hl
      have ho := (lay_ok hl).1
      have := ho.a.sz
      have := ho.b.sz
      split
      · unfold Lay.size; split <;> omega
      · omega
  · have h0 : ¬ 0 < x.size := fun q => h ((size_pos x).2 q)
    omega
/-- Pick. -/
def pk (i n : Int) : Int := if n < 1 then 0 else i % n
end Go.Proofs.YtjfdlphkmpkjdaaDoor
