/-
  ONE TOKEN hangs on its own bytes alone, and on the one behind.
-/
import Derived.Test.YtpjmdiofkkpbgaaDoorNamesMath
namespace Go.Proofs.YtpjmdiofkkpbgaaDoor

/-- r2 may stand behind a token where r stood: the same next byte, or none, or a blank. -/
def mayNext (r r2 : List Nat) : Prop := r2.head? = r.head? ∨ ∀ d, r2.head? = some d → blankB d = true
theorem takeWhile_stop (q : Nat → Bool) (x r : List Nat) (hx : ∀ c ∈ x, q c = true) (hr : ∀ d, r.head? = some d → q d = false) : (x ++ r).takeWhile q = x := by
  induction x with
  | nil =>
    cases r with
    | nil => rfl
    | cons d t => have := hr d rfl; simp [this]
  | cons c t ih =>
    rw [List.cons_append, List.takeWhile_cons, if_pos (hx c (by simp)), ih (fun d hd => hx d (by simp [hd]))]
theorem takeWhile_next (q : Nat → Bool) : ∀ (l : List Nat) (d : Nat), (l.drop (l.takeWhile q).length).head? = some d → q d = false := by
  intro l
  induction l with
  | nil => intro d h; simp at h
  | cons c t ih =>
    intro d h
    rw [List.takeWhile_cons] at h
    by_cases hc : q c = true
    · rw [if_pos hc, List.length_cons, List.drop_succ_cons] at h; exact ih d h
    · rw [if_neg hc] at h; simp at h; subst h; simpa using hc
theorem takeWhile_mem (q : Nat → Bool) : ∀ (l : List Nat), ∀ c ∈ l.takeWhile q, q c = true := by
  intro l
  induction l with
  | nil => intro c h; simp at h
  | cons d t ih =>
    intro c h
    rw [List.takeWhile_cons] at h
    by_cases hd : q d = true
    · rw [if_pos hd] at h
      rcases List.mem_cons.mp h with rfl | h
      · exact hd
      · exact ih c h
    · rw [if_neg hd] at h; simp at h
theorem blank_not_word (d : Nat) (h : blankB d = true) : wordB d = false ∧ digitB d = false := by
  simp [blankB] at h
  constructor
  · simp [wordB, letterB, digitB]; omega
  · simp [digitB]; omega
theorem next_stop (q : Nat → Bool) (hq : ∀ d, blankB d = true → q d = false) (r r2 : List Nat) (hm : mayNext r r2) (hr : ∀ d, r.head? = some d → q d = false) : ∀ d, r2.head? = some d → q d = false := by
  intro d hd
  rcases hm with h | h
  · exact hr d (by rw [← h]; exact hd)
  · exact hq d (h d hd)

/-! ### Texts end by themselves -/
theorem esc_local {r : List Nat} {b k : Nat} (h : escN r = .ok (b, k)) (r2 : List Nat) : escN (r.take (k - 1) ++ r2) = .ok (b, k) := by
  unfold escN at h
  split at h
  · cases h
  · rename_i c r1
    split at h
    · cases h
    · rename_i he
      split at h
      · rename_i h1
        cases h
        simp [escN, he, h1]
      · rename_i h1
        split at h
        · rename_i h2; cases h; subst h2; rfl
        · split at h
          · rename_i h2; cases h; subst h2; rfl
          · split at h
            · rename_i h2; cases h; subst h2; rfl
            · split at h
              · rename_i h6
                subst h6
                split at h
                · cases h
                · rename_i d r2'
                  split at h
                  · cases h
                  · rename_i hd
                    split at h
                    · cases h
                    · rename_i hd2
                      split at h
                      · cases h
                      · rename_i e r3
                        split at h
                        · cases h
                        · rename_i he1
                          split at h
                          · cases h
                          · rename_i he2
                            cases h
                            simp [escN, e120, hd, hd2, he1, he2]
              · cases h
theorem text_local : ∀ (f : Nat) (l o : List Nat) (n : Nat), textN f l = .ok (o, n) → ∀ r2, T (l.take n ++ r2) = .ok (o, n) := by
  intro f
  induction f with
  | zero => intro l o n h; cases h
  | succ f ih =>
    intro l o n h r2
    cases l with
    | nil => cases h
    | cons c r =>
      unfold textN at h
      split at h
      · cases h
      · rename_i he
        have he' : endsB c = false := by simpa using he
        split at h
        · rename_i hq; cases h; subst hq; exact T_quote _
        · rename_i hq
          split at h
          · rename_i hp
            cases hr : textN f r with
            | error x => rw [hr] at h; obtain ⟨q, e⟩ := x; cases q <;> cases h
            | ok x =>
              obtain ⟨a, b⟩ := x
              rw [hr] at h
              simp only [Except.ok.injEq, Prod.mk.injEq] at h
              obtain ⟨rfl, rfl⟩ := h
              rw [List.take_succ_cons, List.cons_append, T_plain c _ he' hq hp, ih r a b hr r2]
              rfl
          · rename_i hp
            have hp' : plainB c = false := by simpa using hp
            cases hesc : escN r with
            | error e => rw [hesc] at h; simp only at h; split at h <;> cases h
            | ok x =>
              obtain ⟨b, k⟩ := x
              rw [hesc] at h
              simp only at h
              have hl := esc_len hesc
              cases hr : textN f (r.drop (k - 1)) with
              | error x => rw [hr] at h; obtain ⟨q, e⟩ := x; cases q <;> cases h
              | ok x =>
                obtain ⟨a, m⟩ := x
                rw [hr] at h
                simp only [Except.ok.injEq, Prod.mk.injEq] at h
                obtain ⟨rfl, rfl⟩ := h
                have h1 := ih _ a m hr r2
                have e1 : (c :: r).take (m + k) = c :: (r.take (k - 1) ++ (r.drop (k - 1)).take m) := by
                  rw [show m + k = (m + k - 1) + 1 by omega, List.take_succ_cons]
                  congr 1
                  have e2 : m + k - 1 = (k - 1) + m := by omega
                  rw [e2, List.take_add]
                rw [e1, List.cons_append, List.append_assoc]
                have h2 := esc_local hesc ((r.drop (k - 1)).take m ++ r2)
                rw [T_esc c _ b k he' hq hp' h2]
                have e3 : (r.take (k - 1) ++ ((r.drop (k - 1)).take m ++ r2)).drop (k - 1) = (r.drop (k - 1)).take m ++ r2 := by
                  rw [List.drop_append_of_le_length (by rw [List.length_take]; omega), List.drop_eq_nil_of_le (by rw [List.length_take]; omega), List.nil_append]
                rw [e3, h1]
                rfl
end Go.Proofs.YtpjmdiofkkpbgaaDoor
