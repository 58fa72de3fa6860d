/-
  CONTRACT of the landed lex's readNumber.
-/
import Derived.Test.YteeoakbafbnkhaaDoorXText
import Derived.BigRegion
import Derived.Deep.RegionHeld3
import Derived.Deep.RegionWith
namespace Go.Proofs.YteeoakbafbnkhaaDoor
open Go.RowKit
set_option linter.unusedVariables false

def sfxS : List ByteArray := [⟨#[105, 56]⟩, ⟨#[105, 51, 50]⟩, ⟨#[105, 54, 52]⟩]
theorem has_split {l y : List Nat} (h : hasB l y = true) : l = y ++ l.drop y.length := by
  unfold hasB at h
  simp only [decide_eq_true_eq] at h
  exact (List.take_append_drop y.length l).symm.trans (by rw [h])
theorem first_cases (l : List Nat) : (firstW l sfxS = ⟨#[105, 56]⟩ ∧ hasB l [105, 56] = true) ∨ (firstW l sfxS = ⟨#[105, 51, 50]⟩ ∧ hasB l [105, 51, 50] = true) ∨ (firstW l sfxS = ⟨#[105, 54, 52]⟩ ∧ hasB l [105, 54, 52] = true) ∨
    (firstW l sfxS = ⟨#[]⟩ ∧ hasB l [105, 56] = false ∧ hasB l [105, 51, 50] = false ∧ hasB l [105, 54, 52] = false) := by
  have b1 : bytesN ⟨#[105, 56]⟩ = [105, 56] := rfl
  have b2 : bytesN ⟨#[105, 51, 50]⟩ = [105, 51, 50] := rfl
  have b3 : bytesN ⟨#[105, 54, 52]⟩ = [105, 54, 52] := rfl
  unfold firstW sfxS
  by_cases h1 : hasB l [105, 56] = true
  · exact .inl ⟨by simp [b1, h1], h1⟩
  · have h1' : hasB l [105, 56] = false := by simpa using h1
    by_cases h2 : hasB l [105, 51, 50] = true
    · exact .inr (.inl ⟨by simp [b1, b2, h1', h2], h2⟩)
    · have h2' : hasB l [105, 51, 50] = false := by simpa using h2
      by_cases h3 : hasB l [105, 54, 52] = true
      · exact .inr (.inr (.inl ⟨by simp [b1, b2, b3, h1', h2', h3], h3⟩))
      · have h3' : hasB l [105, 54, 52] = false := by simpa using h3
        exact .inr (.inr (.inr ⟨by simp [b1, b2, b3, h1', h2', h3'], h1', h2', h3'⟩))
theorem take_stop (t : List Nat) (h : ∀ c r, t = c :: r → wordB c = false) : t.takeWhile wordB = [] := by
  cases t with
  | nil => rfl
  | cons c r => rw [List.takeWhile_cons, if_neg (by simp [h c r rfl])]
theorem sfx_end (l : List Nat) (x : ByteArray) (hx : firstW l sfxS = x) (h : ∀ c r, l.drop x.size = c :: r → wordB c = false) : l.takeWhile wordB = bytesN x ∧ sfxB (bytesN x) = true := by
  subst hx
  rcases first_cases l with ⟨e, hb⟩ | ⟨e, hb⟩ | ⟨e, hb⟩ | ⟨e, _, _, _⟩
  · rw [e] at h ⊢
    refine ⟨?_, rfl⟩
    have ht := take_stop (l.drop 2) h
    have hl := has_split hb
    generalize l.drop [105, 56].length = t at hl
    rw [hl] at ht ⊢
    simp only [List.drop_succ_cons, List.drop_zero, List.cons_append, List.nil_append] at ht ⊢
    simp [ht, wordB, letterB, digitB]; rfl
  · rw [e] at h ⊢
    refine ⟨?_, rfl⟩
    have ht := take_stop (l.drop 3) h
    have hl := has_split hb
    generalize l.drop [105, 51, 50].length = t at hl
    rw [hl] at ht ⊢
    simp only [List.drop_succ_cons, List.drop_zero, List.cons_append, List.nil_append] at ht ⊢
    simp [ht, wordB, letterB, digitB]; rfl
  · rw [e] at h ⊢
    refine ⟨?_, rfl⟩
    have ht := take_stop (l.drop 3) h
    have hl := has_split hb
    generalize l.drop [105, 54, 52].length = t at hl
    rw [hl] at ht ⊢
    simp only [List.drop_succ_cons, List.drop_zero, List.cons_append, List.nil_append] at ht ⊢
    simp [ht, wordB, letterB, digitB]; rfl
  · rw [e] at h ⊢
    exact ⟨take_stop l h, rfl⟩
theorem sfx_more (l : List Nat) (x : ByteArray) (hx : firstW l sfxS = x) (c : Nat) (r : List Nat) (h : l.drop x.size = c :: r) (hc : wordB c = true) : sfxB (l.takeWhile wordB) = false := by
  subst hx
  rcases first_cases l with ⟨e, hb⟩ | ⟨e, hb⟩ | ⟨e, hb⟩ | ⟨e, h1, h2, h3⟩
  · rw [e] at h
    have h : l.drop 2 = c :: r := h
    have hl : l = [105, 56] ++ l.drop 2 := has_split hb
    rw [h] at hl
    rw [hl]
    have hc2 := hc
    simp only [List.cons_append, List.nil_append, List.takeWhile_cons, hc2, if_true]
    simp [wordB, letterB, digitB, sfxB]
  · rw [e] at h
    have h : l.drop 3 = c :: r := h
    have hl : l = [105, 51, 50] ++ l.drop 3 := has_split hb
    rw [h] at hl
    rw [hl]
    have hc2 := hc
    simp only [List.cons_append, List.nil_append, List.takeWhile_cons, hc2, if_true]
    simp [wordB, letterB, digitB, sfxB]
  · rw [e] at h
    have h : l.drop 3 = c :: r := h
    have hl : l = [105, 54, 52] ++ l.drop 3 := has_split hb
    rw [h] at hl
    rw [hl]
    have hc2 := hc
    simp only [List.cons_append, List.nil_append, List.takeWhile_cons, hc2, if_true]
    simp [wordB, letterB, digitB, sfxB]
  · rw [e] at h
    have h : l = c :: r := h
    have ht := takeWhile_take wordB l
    have hne : ¬ l.takeWhile wordB = [] := by rw [h, List.takeWhile_cons, if_pos hc]; simp
    simp only [sfxB, Bool.or_eq_false_iff, decide_eq_false_iff_not]
    refine ⟨⟨⟨hne, ?_⟩, ?_⟩, ?_⟩
    · intro q; rw [q] at ht; simp [hasB] at h1; exact h1 ht
    · intro q; rw [q] at ht; simp [hasB] at h2; exact h2 ht
    · intro q; rw [q] at ht; simp [hasB] at h3; exact h3 ht
end Go.Proofs.YteeoakbafbnkhaaDoor
