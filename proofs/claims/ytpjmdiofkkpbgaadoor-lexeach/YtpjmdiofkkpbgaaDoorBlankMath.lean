/-
  BLANKS: what is skipped is skipped whatever follows; four blanks that may be put in.
-/
import Derived.Test.YtpjmdiofkkpbgaaDoorLocalMore
namespace Go.Proofs.YtpjmdiofkkpbgaaDoor

/-- All of it skipped: how the scan stands behind it (true: within a remark); none: not all of it. -/
def skipF : Bool → List Nat → Option Bool
  | st, [] => some st
  | true, c :: r => skipF (decide (c ≠ 10)) r
  | false, c :: r => if c = 47 ∧ r.head? = some 47 then skipF true r else if blankB c then skipF false r else none
theorem skip_run : ∀ (xs : List Nat) (st st2 : Bool), skipF st xs = some st2 → ∀ l, blankN st (xs ++ l) = xs.length + blankN st2 l := by
  intro xs
  induction xs with
  | nil => intro st st2 h l; simp [skipF] at h; subst h; simp
  | cons c r ih =>
    intro st st2 h l
    cases st with
    | true =>
      rw [skipF] at h
      rw [List.cons_append, blankN, ih _ _ h l, List.length_cons]; omega
    | false =>
      rw [skipF] at h
      rw [List.cons_append, blankN]
      by_cases hc : c = 47 ∧ r.head? = some 47
      · rw [if_pos hc] at h
        have hc2 : c = 47 ∧ (r ++ l).head? = some 47 := ⟨hc.1, by cases r with | nil => simp at hc | cons d t => simpa using hc.2⟩
        rw [if_pos hc2, ih _ _ h l, List.length_cons]; omega
      · rw [if_neg hc] at h
        by_cases hb : blankB c = true
        · rw [if_pos hb] at h
          have h47 : ¬ (c = 47 ∧ (r ++ l).head? = some 47) := by
            intro q; rw [q.1] at hb; simp [blankB] at hb
          rw [if_neg h47, if_pos hb, ih _ _ h l, List.length_cons]; omega
        · rw [if_neg hb] at h; cases h
theorem skip_take : ∀ (l : List Nat) (st : Bool), ∃ st2, skipF st (l.take (blankN st l)) = some st2 ∧ (¬ l.drop (blankN st l) = [] → st2 = false) := by
  intro l
  induction l with
  | nil => intro st; exact ⟨st, by simp [skipF], fun h => by simp at h⟩
  | cons c r ih =>
    intro st
    cases st with
    | true =>
      obtain ⟨st2, h1, h2⟩ := ih (decide (c ≠ 10))
      refine ⟨st2, ?_, ?_⟩
      · rw [blankN, Nat.add_comm, List.take_succ_cons, skipF]; exact h1
      · intro h; rw [blankN, Nat.add_comm, List.drop_succ_cons] at h; exact h2 h
    | false =>
      rw [blankN]
      by_cases hc : c = 47 ∧ r.head? = some 47
      · rw [if_pos hc]
        obtain ⟨st2, h1, h2⟩ := ih true
        refine ⟨st2, ?_, ?_⟩
        · rw [Nat.add_comm, List.take_succ_cons, skipF, if_pos]
          · exact h1
          · refine ⟨hc.1, ?_⟩
            cases r with
            | nil => simp at hc
            | cons d t =>
              have hd : d = 47 := by simpa using hc.2
              rw [blankN, Nat.add_comm, List.take_succ_cons, hd]; rfl
        · intro h; rw [Nat.add_comm, List.drop_succ_cons] at h; exact h2 h
      · rw [if_neg hc]
        by_cases hb : blankB c = true
        · rw [if_pos hb]
          obtain ⟨st2, h1, h2⟩ := ih false
          refine ⟨st2, ?_, ?_⟩
          · rw [Nat.add_comm, List.take_succ_cons, skipF, if_neg, if_pos hb]
            · exact h1
            · intro q; rw [q.1] at hb; simp [blankB] at hb
          · intro h; rw [Nat.add_comm, List.drop_succ_cons] at h; exact h2 h
        · rw [if_neg hb]
          exact ⟨false, rfl, fun _ => rfl⟩
theorem blank_zero (l : List Nat) : ∀ st, ¬ l.drop (blankN st l) = [] → blankN false (l.drop (blankN st l)) = 0 := by
  intro st h
  obtain ⟨st2, h1, h2⟩ := skip_take l st
  have := skip_run _ _ _ h1 (l.drop (blankN st l))
  rw [List.take_append_drop, h2 h, List.length_take] at this
  have hl := blank_le l st
  omega
/-- A blank that may be put in: skipped from either state; behind it, if it was not a remark that it began in, none. -/
def insB (bl : List Nat) : Prop := skipF false bl = some false ∧ (∃ st, skipF true bl = some st) ∧ ∃ d t, bl = d :: t ∧ blankB d = true
theorem ins_four : insB [32] ∧ insB [10] ∧ insB [9, 32, 47, 47, 32, 120, 10] ∧ insB [13, 47, 47, 10] :=
  ⟨⟨rfl, ⟨_, rfl⟩, _, _, rfl, rfl⟩, ⟨rfl, ⟨_, rfl⟩, _, _, rfl, rfl⟩, ⟨rfl, ⟨_, rfl⟩, _, _, rfl, rfl⟩, ⟨rfl, ⟨_, rfl⟩, _, _, rfl, rfl⟩⟩
/-- No blank begins at a token: whatever may stand behind it. -/
theorem token_no_blank (l : List Nat) (kd : Nat) (tx : List Nat) (n len : Nat) (h : oneN l = .ok (kd, tx, n, len)) (hb : blankN false l = 0) (r2 : List Nat) (hm : mayNext (l.drop len) r2) : blankN false (l.take len ++ r2) = 0 := by
  have hlen := one_len l kd tx n len h
  cases l with
  | nil => cases h
  | cons c r =>
    obtain ⟨m, rfl⟩ : ∃ m, len = m + 1 := ⟨len - 1, by omega⟩
    rw [List.take_succ_cons, List.cons_append, blankN]
    rw [blankN] at hb
    have h1 : ¬ (c = 47 ∧ r.head? = some 47) := by intro q; rw [if_pos q] at hb; omega
    rw [if_neg h1] at hb
    have h2 : ¬ blankB c = true := by intro q; rw [if_pos q] at hb; omega
    have h3 : ¬ (c = 47 ∧ (r.take m ++ r2).head? = some 47) := by
      rintro ⟨hc, hh⟩
      cases m with
      | zero =>
        rw [List.take_zero, List.nil_append] at hh
        rcases hm with hm | hm
        · rw [List.drop_succ_cons, List.drop_zero] at hm
          exact h1 ⟨hc, by rw [← hm]; exact hh⟩
        · have := hm 47 hh; simp [blankB] at this
      | succ m =>
        cases r with
        | nil => simp at hlen
        | cons d t =>
          rw [List.take_succ_cons] at hh
          exact h1 ⟨hc, by simpa using hh⟩
    rw [if_neg h3, if_neg h2]
end Go.Proofs.YtpjmdiofkkpbgaaDoor
