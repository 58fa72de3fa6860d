/-
  A NAME is one token, the whole of it.
-/
import Derived.Test.YtpjmdiofkkpbgaaDoorTokensWalk
namespace Go.Proofs.YtpjmdiofkkpbgaaDoor

def wordyB (l : List Nat) : Bool :=
  match l with
  | [] => false
  | c :: _ => letterB c && decide (wordN l = l.length)
def isOne (x : Except (Nat × Nat) (List (Nat × List Nat × Nat × Nat × Nat))) (l : List Nat) : Bool :=
  match x with
  | .ok [t] => decide (t.1 = 1) && decide (t.2.1 = l)
  | _ => false
theorem name_is (l : List Nat) : nameB l = (wordyB l && !keptB l) := by cases l <;> rfl
theorem kept_wordy (l : List Nat) (h : keptB l = true) : wordyB l = true := by
  have : ∀ x ∈ keptL, wordyB x = true := by decide
  exact this l (by simpa [keptB] using h)
theorem letter_not_blank (c : Nat) (h : letterB c = true) : blankB c = false ∧ ¬ c = 47 := by
  simp [letterB] at h
  constructor
  · simp [blankB]; omega
  · omega
theorem take_alln (l : List Nat) (h : wordN l = l.length) : l.takeWhile wordB = l := by
  have h2 := takeWhile_take wordB l
  unfold wordN at h
  rw [h, List.take_length] at h2
  exact h2.symm
theorem one_kind1 (l : List Nat) (tx : List Nat) (n len : Nat) (h : oneN l = .ok (1, tx, n, len)) : ∃ c r, l = c :: r ∧ letterB c = true ∧ tx = l.takeWhile wordB := by
  cases l with
  | nil => cases h
  | cons c r =>
    refine ⟨c, r, rfl, ?_⟩
    unfold oneN at h
    simp only at h
    split at h
    · rename_i hl
      simp only [Except.ok.injEq, Prod.mk.injEq] at h
      exact ⟨hl, h.2.1.symm⟩
    · split at h
      · split at h <;> simp at h
      · split at h
        · cases hr : textN (r.length + 1) r with
          | ok x => rw [hr] at h; obtain ⟨a, b⟩ := x; simp at h
          | error x => rw [hr] at h; obtain ⟨q, e⟩ := x; cases q <;> simp at h
        · cases hs : signX (c :: r) with
          | none => rw [hs] at h; simp at h
          | some x => rw [hs] at h; simp at h
theorem tokens_wordy (l : List Nat) (hl : l.length ≤ 65536) (h : wordyB l = true) : tokens l = .ok [(1, l, 0, 0, l.length)] := by
  cases l with
  | nil => cases h
  | cons c r =>
    have h2 : letterB c = true ∧ wordN (c :: r) = (c :: r).length := by simpa [wordyB] using h
    obtain ⟨hc, hw⟩ := h2
    have hb : blankN false (c :: r) = 0 := by
      obtain ⟨h3, h4⟩ := letter_not_blank c hc
      rw [blankN, if_neg (fun q => h4 q.1), if_neg (by simp [h3])]
    have hone : oneN ((c :: r).drop (blankN false (c :: r))) = .ok (1, c :: r, 0, (c :: r).length) := by
      rw [hb, List.drop_zero]
      unfold oneN
      simp only [hc, if_true]
      rw [take_alln _ hw, hw]
    unfold tokens
    rw [if_neg (by omega)]
    show TK 0 0 (c :: r) = _
    rw [TK_ok 0 0 _ 1 (c :: r) 0 _ (by rw [hb]; simp) (by omega) hone, hb]
    rw [show (c :: r).drop (0 + (c :: r).length) = [] from List.drop_eq_nil_of_le (by omega), TK_end _ _ [] rfl]
    simp [preT]
theorem isOne_wordy (l : List Nat) (hl : l.length ≤ 65536) : isOne (tokens l) l = wordyB l := by
  by_cases h : wordyB l = true
  · rw [tokens_wordy l hl h, h]; simp [isOne]
  · have hf : wordyB l = false := by simpa using h
    rw [hf]
    cases hi : isOne (tokens l) l with
    | false => rfl
    | true =>
      exfalso
      apply h
      unfold tokens at hi
      rw [if_neg (by omega)] at hi
      have hi2 : isOne (TK 0 0 l) l = true := hi
      by_cases he : l.drop (blankN false l) = []
      · rw [TK_end 0 0 l he] at hi2; cases hi2
      · cases ho : oneN (l.drop (blankN false l)) with
        | error x => obtain ⟨p, e⟩ := x; rw [TK_err 0 0 l p e he (by omega) ho] at hi2; cases hi2
        | ok x =>
          obtain ⟨kd, tx, n, len⟩ := x
          rw [TK_ok 0 0 l kd tx n len he (by omega) ho] at hi2
          cases hr : TK (0 + 1) (0 + blankN false l + len) (l.drop (blankN false l + len)) with
          | error x => rw [hr] at hi2; cases hi2
          | ok ts =>
            rw [hr] at hi2
            cases ts with
            | cons a b => simp [preT, isOne] at hi2
            | nil =>
              have hi3 : kd = 1 ∧ tx = l := by simpa [preT, isOne] using hi2
              obtain ⟨rfl, rfl⟩ := hi3
              obtain ⟨c, r, h1, h2, h3⟩ := one_kind1 _ _ _ _ ho
              have hlen := congrArg List.length h3
              have hw := word_le (tx.drop (blankN false tx))
              unfold wordN at hw
              rw [← hlen, List.length_drop] at hw
              have hbl := blank_le tx false
              have hb0 : blankN false tx = 0 := by
                cases tx with
                | nil => rfl
                | cons a b => rw [List.length_cons] at hw hbl; omega
              rw [hb0, List.drop_zero] at h1 h3
              rw [h1]
              simp only [wordyB, h2, Bool.true_and, decide_eq_true_eq]
              rw [← h1]
              unfold wordN
              rw [← h3]
end Go.Proofs.YtpjmdiofkkpbgaaDoor
