/-
  Om, what is reached of it.
-/
import Derived.Test.YtkmmnocooibljaaGreatDoorLp1
import Derived.Laws.MathBits
import Derived.Laws.Bits64b
import Derived.Laws.BitsAllLaws
namespace Go.Proofs.YtkmmnocooibljaaGreatDoor
open Go.ChangeShapes Go.WideShapes Go.ChangeAt Go.RowKit Go.Deep
set_option linter.unusedVariables false

theorem enc_byte (x : In) (h : x.op < 256) : ∀ c ∈ x.enc, c < 256 := by
  unfold In.enc
  split
  · simp
  · split
    · rename_i l _ _
      intro c hc
      unfold Lay.put at hc
      rcases List.mem_cons.1 hc with rfl | hc
      · exact h
      · rcases List.mem_append.1 hc with hc | hc
        · exact Nm.put_byte _ _ c hc
        · rcases List.mem_append.1 hc with hc | hc
          · unfold Lay.putArms at hc
            split at hc
            · rcases List.mem_append.1 hc with hc | hc
              · exact Nm.put_byte _ _ c hc
              · obtain ⟨u, hu, hc⟩ := List.mem_flatten.1 hc
                obtain ⟨y, _, rfl⟩ := List.mem_map.1 hu
                rcases List.mem_append.1 hc with hc | hc
                · exact Nm.put_byte _ _ c hc
                · exact Nm.put_byte _ _ c hc
            · cases hc
          · exact Nm.put_byte _ _ c hc
    · simp
theorem Rds.then {α β : Type} {R : List Nat → St → α × St} {S : α → List Nat → St → β × St} {u v : List Nat} {a : α} {b : β} (h : Rds R u a) (k : Rds (S a) v b) (hp : ∀ c, Passes (S c)) :
    Rds (fun xs s => S (R xs s).1 xs (R xs s).2) (u ++ v) b := by
  refine ⟨fun xs p rest e => ?_, fun xs p j hj e => ?_⟩
  · rw [List.append_assoc] at e
    have e1 := h.whole xs p (v ++ rest) e
    simp only [e1]
    have e2 : xs.drop (p + u.length) = v ++ rest := by rw [← List.drop_drop, e, List.drop_left]
    rw [k.whole xs _ rest e2, List.length_append, Nat.add_assoc]
  · by_cases hju : j < u.length
    · rw [List.take_append_of_le_length (by omega)] at e
      have e1 := h.short xs p j hju e
      have hne : (R xs (p, 0)).2.2 ≠ 0 := by rw [e1]; decide
      show (S (R xs (p, 0)).1 xs (R xs (p, 0)).2).2.2 = 10
      rw [hp _ xs _ hne, e1]
    · obtain ⟨d, rfl⟩ : ∃ d, j = u.length + d := ⟨j - u.length, by omega⟩
      rw [List.take_length_add_append] at e
      have e1 := h.whole xs p (v.take d) e
      show (S (R xs (p, 0)).1 xs (R xs (p, 0)).2).2.2 = 10
      rw [e1]
      exact k.short xs _ d (by rw [List.length_append] at hj; omega) (by rw [← List.drop_drop, e, List.drop_left])
end Go.Proofs.YtkmmnocooibljaaGreatDoor
