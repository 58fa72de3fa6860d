/-
  A TEXT, piece by piece.
-/
import Derived.Test.YteeoakbafbnkhaaDoorEscape
namespace Go.Proofs.YteeoakbafbnkhaaDoor

def shiftT (n : Nat) (outs : List Nat) (x : Except (Option Nat × Nat) (List Nat × Nat)) : Except (Option Nat × Nat) (List Nat × Nat) :=
  match x with
  | .ok (o, m) => .ok (outs ++ o, m + n)
  | .error (some q, e) => .error (some (q + n), e)
  | .error (none, e) => .error (none, e)
theorem shiftT_zero (x : Except (Option Nat × Nat) (List Nat × Nat)) : shiftT 0 [] x = x := by
  match x with
  | .ok (o, m) => rfl
  | .error (some q, e) => rfl
  | .error (none, e) => rfl
theorem shiftT_shift (n m : Nat) (o o' : List Nat) (x : Except (Option Nat × Nat) (List Nat × Nat)) : shiftT n o (shiftT m o' x) = shiftT (n + m) (o ++ o') x := by
  match x with
  | .ok (a, b) => simp [shiftT]; omega
  | .error (some q, e) => simp [shiftT]; omega
  | .error (none, e) => rfl
theorem esc_len {r : List Nat} {b k : Nat} (h : escN r = .ok (b, k)) : 2 ≤ k ∧ k - 1 ≤ r.length := by
  unfold escN at h
  split at h
  · cases h
  · rename_i c r1
    split at h
    · cases h
    · split at h
      · cases h; simp
      · split at h
        · cases h; simp
        · split at h
          · cases h; simp
          · split at h
            · cases h; simp
            · split at h
              · split at h
                · cases h
                · rename_i d r2
                  split at h
                  · cases h
                  · split at h
                    · cases h
                    · split at h
                      · cases h
                      · rename_i e r3
                        split at h
                        · cases h
                        · split at h
                          · cases h
                          · cases h; simp
              · cases h
theorem text_fuel : ∀ (f g : Nat) (l : List Nat), l.length < f → l.length < g → textN f l = textN g l := by
  intro f
  induction f with
  | zero => intro g l h; omega
  | succ f ih =>
    intro g l hf hg
    cases g with
    | zero => omega
    | succ g =>
      cases l with
      | nil => rfl
      | cons c r =>
        simp only [List.length_cons] at hf hg
        unfold textN
        rw [ih g r (by omega) (by omega)]
        cases he : escN r with
        | error e => rfl
        | ok bk =>
          obtain ⟨b, k⟩ := bk
          have hl := esc_len he
          simp only
          rw [ih g (r.drop (k - 1)) (by rw [List.length_drop]; omega) (by rw [List.length_drop]; omega)]
def T (l : List Nat) : Except (Option Nat × Nat) (List Nat × Nat) := textN (l.length + 1) l
theorem T_nil : T [] = .error (none, 31) := rfl
theorem T_ends (c : Nat) (r : List Nat) (h : endsB c = true) : T (c :: r) = .error (none, 31) := by simp [T, textN, h]
theorem T_quote (r : List Nat) : T (34 :: r) = .ok ([], 1) := by simp [T, textN, endsB]
theorem T_plain (c : Nat) (r : List Nat) (h : endsB c = false) (h2 : ¬ c = 34) (h3 : plainB c = true) : T (c :: r) = shiftT 1 [c] (T r) := by
  unfold T
  rw [List.length_cons, textN]
  simp only [h, h2, h3, if_true, if_false, Bool.false_eq_true]
  rfl
theorem T_esc31 (c : Nat) (r : List Nat) (h : endsB c = false) (h2 : ¬ c = 34) (h3 : plainB c = false) (he : escN r = .error 31) : T (c :: r) = .error (none, 31) := by
  unfold T
  rw [List.length_cons, textN]
  simp [h, h2, h3, he]
theorem T_escE (c : Nat) (r : List Nat) (e : Nat) (h : endsB c = false) (h2 : ¬ c = 34) (h3 : plainB c = false) (he : escN r = .error e) (h31 : ¬ e = 31) : T (c :: r) = .error (some 0, e) := by
  unfold T
  rw [List.length_cons, textN]
  simp [h, h2, h3, he, h31]
theorem T_esc (c : Nat) (r : List Nat) (b k : Nat) (h : endsB c = false) (h2 : ¬ c = 34) (h3 : plainB c = false) (he : escN r = .ok (b, k)) : T (c :: r) = shiftT k [b] (T (r.drop (k - 1))) := by
  have hl := esc_len he
  unfold T
  rw [List.length_cons, textN]
  simp only [h, h2, h3, he, if_false, Bool.false_eq_true]
  rw [text_fuel (r.length + 1) ((r.drop (k - 1)).length + 1) _ (by rw [List.length_drop]; omega) (by omega)]
  rfl
theorem esc_error {r : List Nat} {e : Nat} (h : escN r = .error e) : e = 31 ∨ e = 32 := by
  unfold escN at h
  split at h
  · cases h; simp
  · split at h
    · cases h; simp
    · split at h
      · cases h
      · split at h
        · cases h
        · split at h
          · cases h
          · split at h
            · cases h
            · split at h
              · split at h
                · cases h; simp
                · split at h
                  · cases h; simp
                  · split at h
                    · cases h; simp
                    · split at h
                      · cases h; simp
                      · split at h
                        · cases h; simp
                        · split at h
                          · cases h; simp
                          · cases h
              · cases h; simp
theorem esc_byte {r : List Nat} {b k : Nat} (hr : ∀ c ∈ r, c < 256) (h : escN r = .ok (b, k)) : b < 256 := by
  unfold escN at h
  split at h
  · cases h
  · rename_i c r1
    have hc : c < 256 := hr c (by simp)
    split at h
    · cases h
    · split at h
      · cases h; exact hc
      · split at h
        · cases h; omega
        · split at h
          · cases h; omega
          · split at h
            · cases h; omega
            · split at h
              · split at h
                · cases h
                · rename_i d r2
                  split at h
                  · cases h
                  · split at h
                    · cases h
                    · rename_i hd
                      split at h
                      · cases h
                      · rename_i e r3
                        split at h
                        · cases h
                        · split at h
                          · cases h
                          · rename_i he
                            have h1 := hexN_le d
                            have h2 := hexN_le e
                            cases h; omega
              · cases h
end Go.Proofs.YteeoakbafbnkhaaDoor
