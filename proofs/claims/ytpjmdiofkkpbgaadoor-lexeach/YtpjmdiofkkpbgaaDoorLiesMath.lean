/-
  TOKENS LIE SIDE BY SIDE, each alone is itself, and blanks put between change nothing but places: what LexLies asks.
-/
import Derived.Test.YtpjmdiofkkpbgaaDoorBlankMath
namespace Go.Proofs.YtpjmdiofkkpbgaaDoor

def shiftK (d : Nat) (t : Nat × List Nat × Nat × Nat × Nat) : Nat × List Nat × Nat × Nat × Nat := (t.1, t.2.1, t.2.2.1, t.2.2.2.1 + d, t.2.2.2.2 + d)
theorem TK_inv (k at0 : Nat) (l : List Nat) (ts : List (Nat × List Nat × Nat × Nat × Nat)) (h : TK k at0 l = .ok ts) :
    (ts = [] ∧ l.drop (blankN false l) = []) ∨ ∃ kd tx n len rest, ¬ l.drop (blankN false l) = [] ∧ ¬ k = 32768 ∧ oneN (l.drop (blankN false l)) = .ok (kd, tx, n, len) ∧
      TK (k + 1) (at0 + blankN false l + len) (l.drop (blankN false l + len)) = .ok rest ∧ ts = (kd, tx, n, at0 + blankN false l, at0 + blankN false l + len) :: rest := by
  by_cases he : l.drop (blankN false l) = []
  · rw [TK_end k at0 l he] at h; cases h; exact .inl ⟨rfl, he⟩
  · right
    by_cases hk : k = 32768
    · rw [TK_limit k at0 l he hk] at h; cases h
    · cases ho : oneN (l.drop (blankN false l)) with
      | error x => obtain ⟨p, e⟩ := x; rw [TK_err k at0 l p e he hk ho] at h; cases h
      | ok x =>
        obtain ⟨kd, tx, n, len⟩ := x
        rw [TK_ok k at0 l kd tx n len he hk ho] at h
        cases hr : TK (k + 1) (at0 + blankN false l + len) (l.drop (blankN false l + len)) with
        | error x => rw [hr] at h; cases h
        | ok rest => rw [hr] at h; cases h; exact ⟨kd, tx, n, len, rest, he, hk, rfl, hr, rfl⟩
theorem TK_shift : ∀ (N : Nat) (l : List Nat), l.length ≤ N → ∀ k at0 d ts, TK k at0 l = .ok ts → TK k (at0 + d) l = .ok (ts.map (shiftK d)) := by
  intro N
  induction N with
  | zero =>
    intro l hl k at0 d ts h
    rcases TK_inv k at0 l ts h with ⟨rfl, he⟩ | ⟨kd, tx, n, len, rest, he, _, _, _, _⟩
    · rw [TK_end _ _ _ he]; rfl
    · exfalso; apply he; exact List.drop_eq_nil_of_le (by omega)
  | succ N ih =>
    intro l hl k at0 d ts h
    rcases TK_inv k at0 l ts h with ⟨rfl, he⟩ | ⟨kd, tx, n, len, rest, he, hk, ho, hr, rfl⟩
    · rw [TK_end _ _ _ he]; rfl
    · have h1 := one_len _ _ _ _ _ ho
      rw [List.length_drop] at h1
      have h2 := ih (l.drop (blankN false l + len)) (by rw [List.length_drop]; omega) (k + 1) _ d rest hr
      rw [TK_ok k (at0 + d) l kd tx n len he hk ho, show at0 + d + blankN false l + len = at0 + blankN false l + len + d by omega, h2]
      simp only [preT, List.map_cons, List.singleton_append, Except.ok.injEq, List.cons.injEq, and_true]
      unfold shiftK
      simp only
      rw [show at0 + d + blankN false l = at0 + blankN false l + d by omega]
def chain (bound : Nat) : Nat → List (Nat × List Nat × Nat × Nat × Nat) → Prop
  | _, [] => True
  | at0, t :: r => at0 ≤ t.2.2.2.1 ∧ t.2.2.2.1 < t.2.2.2.2 ∧ t.2.2.2.2 ≤ bound ∧ chain bound t.2.2.2.2 r
theorem TK_chain : ∀ (N : Nat) (l : List Nat), l.length ≤ N → ∀ k at0 ts, TK k at0 l = .ok ts → chain (at0 + l.length) at0 ts := by
  intro N
  induction N with
  | zero =>
    intro l hl k at0 ts h
    rcases TK_inv k at0 l ts h with ⟨rfl, he⟩ | ⟨kd, tx, n, len, rest, he, _, _, _, _⟩
    · trivial
    · exfalso; apply he; exact List.drop_eq_nil_of_le (by omega)
  | succ N ih =>
    intro l hl k at0 ts h
    rcases TK_inv k at0 l ts h with ⟨rfl, he⟩ | ⟨kd, tx, n, len, rest, he, hk, ho, hr, rfl⟩
    · trivial
    · have h1 := one_len _ _ _ _ _ ho
      rw [List.length_drop] at h1
      have h2 := ih (l.drop (blankN false l + len)) (by rw [List.length_drop]; omega) (k + 1) _ rest hr
      rw [List.length_drop] at h2
      refine ⟨by simp, by simp; omega, by simp; omega, ?_⟩
      have e : at0 + blankN false l + len + (l.length - (blankN false l + len)) = at0 + l.length := by omega
      rw [e] at h2
      exact h2
theorem one_err_at (l : List Nat) (p e : Nat) (h : oneN l = .error (p, e)) : p ≤ l.length := by
  cases l with
  | nil => cases h; simp
  | cons c r =>
    unfold oneN at h
    simp only at h
    split at h
    · cases h
    · split at h
      · split at h
        · cases h
        · cases h; simp
      · split at h
        · have key : ∀ (f : Nat) (l : List Nat) (q e : Nat), textN f l = .error (some q, e) → q < l.length := by
            intro f
            induction f with
            | zero => intro l q e h; cases h
            | succ f ih =>
              intro l q e h
              cases l with
              | nil => cases h
              | cons c r =>
                unfold textN at h
                split at h
                · cases h
                · split at h
                  · cases h
                  · split at h
                    · cases hr : textN f r with
                      | ok x => rw [hr] at h; obtain ⟨a, b⟩ := x; cases h
                      | error x =>
                        rw [hr] at h; obtain ⟨q', e'⟩ := x
                        cases q' with
                        | none => cases h
                        | some q' => cases h; have := ih r q' e hr; rw [List.length_cons]; omega
                    · cases he : escN r with
                      | error e' =>
                        rw [he] at h; simp only at h
                        split at h
                        · cases h
                        · cases h; simp
                      | ok x =>
                        obtain ⟨b, k⟩ := x
                        rw [he] at h
                        simp only at h
                        have hl := esc_len he
                        cases hr : textN f (r.drop (k - 1)) with
                        | ok x => rw [hr] at h; obtain ⟨a, m⟩ := x; cases h
                        | error x =>
                          rw [hr] at h; obtain ⟨q', e'⟩ := x
                          cases q' with
                          | none => cases h
                          | some q' => cases h; have := ih _ q' e hr; rw [List.length_drop] at this; rw [List.length_cons]; omega
          cases hr : textN (r.length + 1) r with
          | ok x => rw [hr] at h; obtain ⟨a, b⟩ := x; cases h
          | error x =>
            rw [hr] at h; obtain ⟨q, e'⟩ := x
            cases q with
            | none => cases h; simp
            | some q => cases h; have := key _ _ _ _ hr; rw [List.length_cons]; omega
        · cases hs : signX (c :: r) with
          | none => rw [hs] at h; cases h; simp
          | some x => rw [hs] at h; cases h
theorem TK_err_at : ∀ (N : Nat) (l : List Nat), l.length ≤ N → ∀ k at0 p e, TK k at0 l = .error (p, e) → p ≤ at0 + l.length := by
  intro N
  induction N with
  | zero =>
    intro l hl k at0 p e h
    rw [TK_end k at0 l (List.drop_eq_nil_of_le (by omega))] at h; cases h
  | succ N ih =>
    intro l hl k at0 p e h
    have hb := blank_le l false
    by_cases he : l.drop (blankN false l) = []
    · rw [TK_end k at0 l he] at h; cases h
    · by_cases hk : k = 32768
      · rw [TK_limit k at0 l he hk] at h; cases h; omega
      · cases ho : oneN (l.drop (blankN false l)) with
        | error x =>
          obtain ⟨q, e'⟩ := x
          rw [TK_err k at0 l q e' he hk ho] at h; cases h
          have := one_err_at _ _ _ ho
          rw [List.length_drop] at this
          omega
        | ok x =>
          obtain ⟨kd, tx, n, len⟩ := x
          have h1 := one_len _ _ _ _ _ ho
          rw [List.length_drop] at h1
          rw [TK_ok k at0 l kd tx n len he hk ho] at h
          cases hr : TK (k + 1) (at0 + blankN false l + len) (l.drop (blankN false l + len)) with
          | error x =>
            rw [hr] at h; cases h
            have := ih _ (by rw [List.length_drop]; omega) _ _ _ _ hr
            rw [List.length_drop] at this
            omega
          | ok rest => rw [hr] at h; cases h
theorem tokens_err_at (l : List Nat) (p e : Nat) (h : tokens l = .error (p, e)) : p ≤ l.length := by
  unfold tokens at h
  split at h
  · cases h; omega
  · have := TK_err_at l.length l (Nat.le_refl _) 0 0 p e h; omega
end Go.Proofs.YtpjmdiofkkpbgaaDoor
