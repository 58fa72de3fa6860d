/-
  WHAT IS DONE WITHIN a block that is closed again, and within a loop that is left again: the mathematics.
-/
import Derived.Test.YtnnajgbkpilaaaaRun
namespace Go.Proofs.Ytnnajgbkpilaaaa
set_option linter.unusedVariables false

/-- b blocks and t turns are open within. -/
def Wi (m0 m : M) (b t : Int) : Prop := ∃ e f g, m.out = m0.out ++ [m0.cur] ++ e ∧ ((e.length : Int) + 1 = b) ∧ m.turns = m0.turns ++ f ∧ ((f.length : Int) = t) ∧ m.types = m0.types ++ g ∧ 1 ≤ f.length
theorem Wi.step {m0 m : M} {b t : Int} (h : Wi m0 m b t) (s : St) (h1 : ¬ (pk s.kind 6 = 1 ∧ b = 1)) (h5 : ¬ (pk s.kind 6 = 5 ∧ t = 1)) : Wi m0 (m.step s) (b + dB m s) (t + dT m s) := by
  obtain ⟨e, f, g, q1, q2, q3, q4, q5, q6⟩ := h
  unfold M.step dB dT
  generalize pk s.kind 6 = j at h1 h5 ⊢
  match j, h1, h5 with
  | 0, h1, h5 =>
    exact ⟨e ++ [m.cur], f, g, by simp [M.opened, q1], by show ((e ++ [m.cur]).length : Int) + 1 = b + 1; rw [List.length_append]; simp only [List.length_singleton]; omega, q3, by show _ = t + 0; omega, q5, q6⟩
  | 1, h1, h5 =>
    have hne : e ≠ [] := by
      intro q
      rw [q] at q2
      exact h1 ⟨rfl, by simpa using q2.symm⟩
    obtain ⟨e', c, rfl⟩ : ∃ e' c, e = e' ++ [c] := ⟨e.dropLast, e.getLast hne, (List.dropLast_concat_getLast hne).symm⟩
    have ho : m.out = (m0.out ++ [m0.cur] ++ e') ++ [c] := by rw [q1, List.append_assoc, List.append_assoc, List.append_assoc]
    have hcl : m.closes = true := by simp [M.closes, ho]
    show Wi m0 m.closed (b + if m.closes = true then -1 else 0) (t + 0)
    rw [closed_parts ho, hcl]
    refine ⟨e', f, g, rfl, ?_, q3, by omega, q5, q6⟩
    rw [List.length_append] at q2
    simp only [List.length_singleton, if_true] at q2 ⊢
    omega
  | 2, h1, h5 =>
    show Wi m0 (m.declared s.name s.typ) (b + 0) (t + 0)
    unfold M.declared
    split
    · exact ⟨e, f, g ++ [s.typ], q1, by omega, q3, by omega, by simp [q5], q6⟩
    · exact ⟨e, f, g, q1, by omega, q3, by omega, q5, q6⟩
  | 3, h1, h5 => exact ⟨e, f, g, q1, by show _ = b + 0; omega, q3, by show _ = t + 0; omega, q5, q6⟩
  | 4, h1, h5 =>
    show Wi m0 (m.entered s.name s.turns) (b + 0) (t + if m.entE s.name = 0 then 1 else 0)
    unfold M.entered
    split
    · rename_i hE
      refine ⟨e, f ++ [⟨s.name, s.turns, m.next⟩], g, q1, by omega, by simp [q3], ?_, q5, by simp⟩
      rw [List.length_append]
      simp only [List.length_singleton]
      omega
    · rename_i hE
      exact ⟨e, f, g, q1, by omega, q3, by omega, q5, q6⟩
  | 5, h1, h5 =>
    have hne : m.leaves = true := by
      unfold M.leaves
      rw [q3]
      cases f with
      | nil => simp at q6
      | cons x r => simp
    show Wi m0 m.left (b + 0) (t + if m.leaves = true then -1 else 0)
    rw [hne]
    have hl : 2 ≤ f.length := by
      refine Classical.byContradiction fun q => ?_
      exact h5 ⟨rfl, by omega⟩
    have hf : f ≠ [] := by intro q; rw [q] at hl; simp at hl
    refine ⟨e, f.dropLast, g, q1, by omega, ?_, ?_, q5, ?_⟩
    · show m.turns.dropLast = _
      rw [q3, List.dropLast_append_of_ne_nil hf]
    · rw [List.length_dropLast]; simp only [if_true]; omega
    · rw [List.length_dropLast]; omega
  | j + 6, h1, h5 => exact ⟨e, f, g, q1, by show _ = b + 0; omega, q3, by show _ = t + 0; omega, q5, q6⟩
/-- r blocks are still to be closed. -/
def Ci (m0 m : M) (r : Nat) (t : Int) : Prop := (r = 0 ∧ m.out = m0.out ∧ m.cur = m0.cur ∨ ∃ e, m.out = m0.out ++ [m0.cur] ++ e ∧ e.length + 1 = r) ∧ ∃ f g, m.turns = m0.turns ++ f ∧ ((f.length : Int) = t) ∧ m.types = m0.types ++ g
theorem Wi.ci {m0 m : M} {b t : Int} (h : Wi m0 m b t) (r : Nat) (hr : (r : Int) = b) : Ci m0 m r t := by
  obtain ⟨e, f, g, q1, q2, q3, q4, q5, q6⟩ := h
  exact ⟨.inr ⟨e, q1, by omega⟩, f, g, q3, q4, q5⟩
theorem Ci.step {m0 m : M} {r : Nat} {t : Int} (h : Ci m0 m (r + 1) t) : m.closes = true ∧ Ci m0 m.closed r t := by
  obtain ⟨h1, f, g, q3, q4, q5⟩ := h
  rcases h1 with ⟨q, _⟩ | ⟨e, q1, q2⟩
  · omega
  rcases List.eq_nil_or_concat e with rfl | ⟨e', c, rfl⟩
  · rw [List.append_nil] at q1
    rw [closed_parts q1]
    exact ⟨by simp [M.closes, q1], .inl ⟨by simp at q2; omega, rfl, rfl⟩, f, g, q3, q4, q5⟩
  · rw [List.concat_eq_append] at q1 q2
    have ho : m.out = (m0.out ++ [m0.cur] ++ e') ++ [c] := by rw [q1, List.append_assoc, List.append_assoc, List.append_assoc]
    rw [closed_parts ho]
    exact ⟨by simp [M.closes, ho], .inr ⟨e', rfl, by simp at q2; omega⟩, f, g, q3, q4, q5⟩
/-- r turns are still to be left. -/
def Li (m0 m : M) (r : Nat) : Prop := m.out = m0.out ∧ m.cur = m0.cur ∧ ∃ f g, m.turns = m0.turns ++ f ∧ f.length = r ∧ m.types = m0.types ++ g
theorem Ci.li {m0 m : M} {t : Int} (h : Ci m0 m 0 t) (r : Nat) (hr : (r : Int) = t) : Li m0 m r := by
  obtain ⟨h1, f, g, q3, q4, q5⟩ := h
  rcases h1 with ⟨_, q1, q2⟩ | ⟨e, q1, q2⟩
  · exact ⟨q1, q2, f, g, q3, by omega, q5⟩
  · omega
theorem Li.step {m0 m : M} {r : Nat} (h : Li m0 m (r + 1)) : m.leaves = true ∧ Li m0 m.left r := by
  obtain ⟨q1, q2, f, g, q3, q4, q5⟩ := h
  have hf : f ≠ [] := by intro q; rw [q] at q4; simp at q4
  refine ⟨?_, q1, q2, f.dropLast, g, ?_, by rw [List.length_dropLast]; omega, q5⟩
  · unfold M.leaves
    rw [q3]
    simp [hf]
  · show m.turns.dropLast = _
    rw [q3, List.dropLast_append_of_ne_nil hf]
theorem Li.same {m0 m : M} (h : Li m0 m 0) : (∀ n, m.findV n = m0.findV n) ∧ (∀ n b, m.tgtV n b = m0.tgtV n b ∧ m.tgtE n b = m0.tgtE n b) ∧ ∃ g, m.types = m0.types ++ g := by
  obtain ⟨q1, q2, f, g, q3, q4, q5⟩ := h
  have hf := List.eq_nil_of_length_eq_zero q4
  rw [hf, List.append_nil] at q3
  have e1 : m.flat = m0.flat := by unfold M.flat; rw [q1, q2]
  have e2 : ∀ n b, m.tgt n b = m0.tgt n b := fun n b => by unfold M.tgt; rw [q3]
  exact ⟨fun n => by unfold M.findV M.find; rw [e1], fun n b => by unfold M.tgtV M.tgtE; rw [e2]; exact ⟨rfl, rfl⟩, g, q5⟩
end Go.Proofs.Ytnnajgbkpilaaaa
