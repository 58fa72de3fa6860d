/-
  THE LAW'S SUM OF SIZES AHEAD OF A LABEL.
-/
import Derived.Test.YtkmmnocooibljaaGreatDoorNz
namespace Go.Proofs.YtkmmnocooibljaaGreatDoor
open Go.RowKit Go.Maps
set_option linter.unusedVariables false
set_option linter.unusedSimpArgs false

theorem setTo_snd : ∀ (ar : List (Int × Int)) (tq : List Int), ar.length ≤ tq.length → (setTo ar tq).map Prod.snd = tq.take ar.length
  | [], tq, _ => by simp [setTo]
  | y :: r, [], h => by simp at h
  | y :: r, t :: tq, h => by
    have := setTo_snd r tq (by simpa using h)
    unfold setTo at *
    simp only [List.zipWith_cons_cons, List.map_cons, this, List.length_cons, List.take_succ_cons]
theorem may_plc {n : Int} (h : 0 ≤ n ∧ n ≤ 65536) : nPlace.may n = true := by
  unfold Nm.may nPlace
  simp only [Bool.and_eq_true, decide_eq_true_eq]; omega
theorem atI_ok {g : Int → Int} {x : In} (h : x.ok = true) (hg : ∀ t, 0 ≤ g t ∧ g t ≤ 65536) : (atI g x).ok = true ∧ tgs (atI g x) = (tgs x).map g := by
  obtain ⟨op, a, b, ar⟩ := x
  unfold atI movX
  rw [if_neg (by rw [List.length_map]; omega)]
  simp only
  split
  · rename_i h1
    have hl : lay op = some ⟨nPlace, nNone, false⟩ := by rcases h1 with rfl | rfl | rfl <;> rfl
    unfold In.ok at *
    simp only at h ⊢
    rw [hl] at h ⊢
    have ht : tgs ⟨op, a, b, ar⟩ = [a] := by unfold tgs; rw [if_pos h1]
    rw [ht]
    simp only [Lay.has, Bool.and_eq_true] at h ⊢
    refine ⟨⟨may_plc (hg a), h.2.1, h.2.2⟩, ?_⟩
    unfold tgs; rw [if_pos h1]; rfl
  · split
    · rename_i h1 h2
      subst h2
      have hl : lay 49 = some ⟨nWidth, nPlace, true⟩ := rfl
      have ht : tgs ⟨49, a, b, ar⟩ = ar.map Prod.snd ++ [b] := rfl
      rw [ht]
      have hlen : ((ar.map Prod.snd ++ [b]).map g).length = ar.length + 1 := by simp
      have hlast : ((ar.map Prod.snd ++ [b]).map g).getD ar.length 0 = g b := by simp [List.getD]
      unfold In.ok at *
      simp only at h ⊢
      rw [hl] at h ⊢
      simp only [Lay.has, Lay.hasArms, Bool.and_eq_true, if_true, decide_eq_true_eq, List.all_eq_true] at h ⊢
      refine ⟨⟨h.1, by rw [hlast]; exact may_plc (hg b), by rw [setTo_length (by rw [hlen]; omega)]; exact h.2.2.1, fun y hy => ?_⟩, ?_⟩
      · obtain ⟨⟨z, hz, e⟩, h3⟩ := setTo_mem hy
        obtain ⟨t, _, e2⟩ := List.mem_map.1 h3
        refine ⟨by rw [e]; exact (h.2.2.2 z hz).1, by rw [← e2]; exact may_plc (hg t)⟩
      · unfold tgs
        simp only
        rw [if_neg (by omega), if_pos trivial]
        rw [setTo_snd _ _ (by rw [hlen]; omega), hlast]
        simp
    · rename_i h1 h2
      refine ⟨h, ?_⟩
      unfold tgs
      rw [if_neg h1, if_neg h2]; rfl
theorem size_ok {x : In} (h : x.size ≠ 0) : x.ok = true := by
  unfold In.size at h
  unfold In.ok
  cases hl : lay x.op with
  | none => rw [hl] at h; exact absurd rfl h
  | some l =>
    rw [hl] at h
    simp only at h ⊢
    by_cases h1 : l.has x = true
    · exact h1
    · rw [if_neg h1] at h; exact absurd rfl h
end Go.Proofs.YtkmmnocooibljaaGreatDoor
