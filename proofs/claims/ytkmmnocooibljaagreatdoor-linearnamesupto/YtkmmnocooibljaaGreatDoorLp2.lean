/-
  WHAT STANDS WHERE IN THE BYTES OF LINES.
-/
import Derived.Test.YtkmmnocooibljaaGreatDoorOmz
import Derived.Test.YtkmmnocooibljaaGreatDoorLz
import Derived.Test.YtkmmnocooibljaaGreatDoorLyq
import Derived.Test.YtkmmnocooibljaaGreatDoorWiq
import Derived.Deep.QuietTactic
import Derived.BigQuiet
import Derived.Deep.RegionHeld3
import Derived.Deep.LoopGhost
namespace Go.Proofs.YtkmmnocooibljaaGreatDoor
open Go.RowKit Go.Maps
set_option linter.unusedVariables false

theorem ok_size {x : In} (h : x.ok = true) : ∃ l, lay x.op = some l ∧ x.size = l.size x.arms.length := by
  unfold In.ok at h
  unfold In.size
  cases hl : lay x.op with
  | none => rw [hl] at h; cases h
  | some l =>
    rw [hl] at h
    simp only at h ⊢
    rw [if_pos h]
    exact ⟨l, rfl, rfl⟩
theorem atI_size_eq {g : Int → Int} {x : In} (h : x.size ≠ 0) (hg : ∀ t, 0 ≤ g t ∧ g t ≤ 65536) : (atI g x).size = x.size := by
  have h1 := size_ok h
  obtain ⟨h2, -⟩ := atI_ok h1 hg
  obtain ⟨l1, e1, e2⟩ := ok_size h1
  obtain ⟨l2, e3, e4⟩ := ok_size h2
  obtain ⟨o1, o2⟩ := atI_arms g x
  rw [o1, e1] at e3
  cases e3
  rw [e4, e2, o2]
theorem codeB_len {g : Int → Int} {ys : List (Int × In)} (h : ∀ y ∈ ys, y.2.op ≠ 0 → y.2.size ≠ 0) (hg : ∀ t, 0 ≤ g t ∧ g t ≤ 65536) : (codeB (codeI g ys)).length = sizeL ys := by
  induction ys with
  | nil => rfl
  | cons y ys ih =>
    have hi := ih (fun z hz => h z (List.mem_cons_of_mem _ hz))
    simp only [codeI, sizeL]
    by_cases h0 : y.2.op = 0
    · rw [if_pos h0, if_pos h0]; omega
    · rw [if_neg h0, if_neg h0]
      have e : codeB (atI g y.2 :: codeI g ys) = (atI g y.2).enc ++ codeB (codeI g ys) := by simp [codeB]
      rw [e, List.length_append, enc_length, atI_size_eq (h y (List.mem_cons_self ..) h0) hg, hi]
theorem gOf_range {ys : List (Int × In)} {st : List (Int × Int) × Int} (h : layoutL ys = .inr st) (hb : ¬ 65536 < st.2) (t : Int) : 0 ≤ gOf st.1 t ∧ gOf st.1 t ≤ 65536 := by
  obtain ⟨h1, h2, -⟩ := layoutL_inr h
  have := plF_range h2 (by omega) t
  unfold gOf; omega
theorem code_len {ys : List (Int × In)} {st : List (Int × Int) × Int} (h : layoutL ys = .inr st) (hb : ¬ 65536 < st.2) : (codeB (codeI (gOf st.1) ys)).length = sizeL ys :=
  codeB_len (layoutL_inr h).2.2.1 (gOf_range h hb)
end Go.Proofs.YtkmmnocooibljaaGreatDoor
