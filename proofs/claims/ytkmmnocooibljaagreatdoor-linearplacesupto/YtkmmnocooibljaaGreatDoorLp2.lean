/-
  WHAT STANDS WHERE IN THE BYTES OF LINES.
-/
import Derived.Test.YtkmmnocooibljaaGreatDoorOmz
import Derived.Test.YtkmmnocooibljaaGreatDoorDe2q
namespace Go.Proofs.YtkmmnocooibljaaGreatDoor
open Go.RowKit Go.Maps
set_option linter.unusedVariables false

theorem codeI_app (g : Int → Int) (a b : List (Int × In)) : codeI g (a ++ b) = codeI g a ++ codeI g b := by
  induction a with
  | nil => rfl
  | cons y ys ih =>
    rw [List.cons_append]
    simp only [codeI]
    split
    · exact ih
    · rw [ih]; rfl
theorem ok_size {x : In} (h : x.ok = true) : ∃ l, lay x.op = some l ∧ x.size = l.size x.arms.length := by
  unfold In.ok at h
  unfold In.size
  cases hl : lay x.op with
  | none => rw [hl] at h; cases h
  | some l =>
    rw [hl] at h
    simp only at h ⊢
    rw [if_pos h]
    exact ⟨l, rfl, rfl⟩
theorem atI_size_eq {g : Int → Int} {x : In} (h : x.size ≠ 0) (hg : ∀ t, 0 ≤ g t ∧ g t ≤ 65536) : (atI g x).size = x.size := by
  have h1 := size_ok h
  obtain ⟨h2, -⟩ := atI_ok h1 hg
  obtain ⟨l1, e1, e2⟩ := ok_size h1
  obtain ⟨l2, e3, e4⟩ := ok_size h2
  obtain ⟨o1, o2⟩ := atI_arms g x
  rw [o1, e1] at e3
  cases e3
  rw [e4, e2, o2]
theorem codeB_len {g : Int → Int} {ys : List (Int × In)} (h : ∀ y ∈ ys, y.2.op ≠ 0 → y.2.size ≠ 0) (hg : ∀ t, 0 ≤ g t ∧ g t ≤ 65536) : (codeB (codeI g ys)).length = sizeL ys := by
  induction ys with
  | nil => rfl
  | cons y ys ih =>
    have hi := ih (fun z hz => h z (List.mem_cons_of_mem _ hz))
    simp only [codeI, sizeL]
    by_cases h0 : y.2.op = 0
    · rw [if_pos h0, if_pos h0]; omega
    · rw [if_neg h0, if_neg h0]
      have e : codeB (atI g y.2 :: codeI g ys) = (atI g y.2).enc ++ codeB (codeI g ys) := by simp [codeB]
      rw [e, List.length_append, enc_length, atI_size_eq (h y (List.mem_cons_self ..) h0) hg, hi]
theorem split_l {xs : List LnP} {k : Nat} (h : k < xs.length) : xs.map LnP.l = (xs.take k).map LnP.l ++ ((xs.getD k zLn).l :: (xs.drop (k + 1)).map LnP.l) := by
  conv => lhs; rw [← List.take_append_drop k xs]
  rw [List.map_append, List.drop_eq_getElem_cons h]
  have : xs.getD k zLn = xs[k] := by simp [List.getD, h]
  rw [this]; rfl
theorem gOf_range {ys : List (Int × In)} {st : List (Int × Int) × Int} (h : layoutL ys = .inr st) (hb : ¬ 65536 < st.2) (t : Int) : 0 ≤ gOf st.1 t ∧ gOf st.1 t ≤ 65536 := by
  obtain ⟨h1, h2, -⟩ := layoutL_inr h
  have := plF_range h2 (by omega) t
  unfold gOf; omega
theorem code_len {ys : List (Int × In)} {st : List (Int × Int) × Int} (h : layoutL ys = .inr st) (hb : ¬ 65536 < st.2) : (codeB (codeI (gOf st.1) ys)).length = sizeL ys :=
  codeB_len (layoutL_inr h).2.2.1 (gOf_range h hb)
theorem dec_line {xs : List LnP} {st : List (Int × Int) × Int} (h : layoutL (xs.map LnP.l) = .inr st) (hb : ¬ 65536 < st.2) {k : Nat} (hk : k < xs.length) (h0 : (xs.getD k zLn).x.op ≠ 0) :
    dec (codeB (codeI (gOf st.1) (xs.map LnP.l))) ((sizeL ((xs.take k).map LnP.l) : Nat) : Int) = (atI (gOf st.1) (xs.getD k zLn).x, sizeL ((xs.take k).map LnP.l) + (xs.getD k zLn).x.size, 0) := by
  obtain ⟨h1, h2, h3, h4⟩ := layoutL_inr h
  have hg := gOf_range h hb
  have hX : (xs.getD k zLn).l ∈ xs.map LnP.l := List.mem_map.2 ⟨_, getD_in hk, rfl⟩
  have hs : (xs.getD k zLn).x.size ≠ 0 := h3 _ hX h0
  have hok := (atI_ok (size_ok hs) hg).1
  have hlen : (codeB (codeI (gOf st.1) ((xs.take k).map LnP.l))).length = sizeL ((xs.take k).map LnP.l) := codeB_len (fun y hy => h3 y (by rw [split_l hk]; exact List.mem_append_left _ hy)) hg
  have hd : (codeB (codeI (gOf st.1) (xs.map LnP.l))).drop (sizeL ((xs.take k).map LnP.l)) = (atI (gOf st.1) (xs.getD k zLn).x).enc ++ codeB (codeI (gOf st.1) ((xs.drop (k + 1)).map LnP.l)) := by
    conv => lhs; rw [split_l hk]
    rw [codeI_app, codeB_app, ← hlen, List.drop_left]
    have h0' : ¬ (xs.getD k zLn).l.2.op = 0 := h0
    simp only [codeI]
    rw [if_neg h0']
    simp [codeB]; rfl
  rw [dec_enc _ hok _ _ _ hd, atI_size_eq hs hg]
theorem tgs_line {xs : List LnP} {st : List (Int × Int) × Int} (h : layoutL (xs.map LnP.l) = .inr st) (hb : ¬ 65536 < st.2) {k : Nat} (hk : k < xs.length) (h0 : (xs.getD k zLn).x.op ≠ 0) :
    tgs (atI (gOf st.1) (xs.getD k zLn).x) = (tgs (xs.getD k zLn).x).map fun t => (sizeTo (xs.map LnP.l) t : Int) := by
  obtain ⟨h1, h2, h3, h4⟩ := layoutL_inr h
  have hg := gOf_range h hb
  have hX : (xs.getD k zLn).l ∈ xs.map LnP.l := List.mem_map.2 ⟨_, getD_in hk, rfl⟩
  have hs : (xs.getD k zLn).x.size ≠ 0 := h3 _ hX h0
  rw [(atI_ok (size_ok hs) hg).2]
  refine List.map_congr_left fun t ht => ?_
  have hl := h4 _ hX
  unfold leadsB at hl
  rw [List.all_eq_true] at hl
  have := hl t ht
  cases hf : plF st.1 t with
  | none => rw [hf] at this; cases this
  | some p =>
    unfold gOf
    rw [hf]
    exact layoutL_at h hf
end Go.Proofs.YtkmmnocooibljaaGreatDoor
