/-
  Texts joined: NamesMath, LocalMath, LocalMore, BlankMath, LiesMath, InsMath, TokGood.
-/
import Derived.Test.YtkagkofgfjhfgaaGreatDoorJOne

/-
  A NAME is one token, the whole of it.
-/
namespace Go.Proofs.YtkagkofgfjhfgaaGreatDoor

def wordyB (l : List Nat) : Bool :=
  match l with
  | [] => false
  | c :: _ => letterB c && decide (wordN l = l.length)
def isOne (x : Except (Nat × Nat) (List (Nat × List Nat × Nat × Nat × Nat))) (l : List Nat) : Bool :=
  match x with
  | .ok [t] => decide (t.1 = 1) && decide (t.2.1 = l)
  | _ => false
theorem name_is (l : List Nat) : nameB l = (wordyB l && !keptB l) := by cases l <;> rfl
theorem kept_wordy (l : List Nat) (h : keptB l = true) : wordyB l = true := by
  have : ∀ x ∈ keptL, wordyB x = true := by decide
  exact this l (by simpa [keptB] using h)
theorem letter_not_blank (c : Nat) (h : letterB c = true) : blankB c = false ∧ ¬ c = 47 := by
  simp [letterB] at h
  constructor
  · simp [blankB]; omega
  · omega
theorem take_alln (l : List Nat) (h : wordN l = l.length) : l.takeWhile wordB = l := by
  have h2 := takeWhile_take wordB l
  unfold wordN at h
  rw [h, List.take_length] at h2
  exact h2.symm
theorem one_kind1 (l : List Nat) (tx : List Nat) (n len : Nat) (h : oneN l = .ok (1, tx, n, len)) : ∃ c r, l = c :: r ∧ letterB c = true ∧ tx = l.takeWhile wordB := by
  cases l with
  | nil => cases h
  | cons c r =>
    refine ⟨c, r, rfl, ?_⟩
    unfold oneN at h
    simp only at h
    split at h
    · rename_i hl
      simp only [Except.ok.injEq, Prod.mk.injEq] at h
      exact ⟨hl, h.2.1.symm⟩
    · split at h
      · split at h <;> simp at h
      · split at h
        · cases hr : textN (r.length + 1) r with
          | ok x => rw [hr] at h; obtain ⟨a, b⟩ := x; simp at h
          | error x => rw [hr] at h; obtain ⟨q, e⟩ := x; cases q <;> simp at h
        · cases hs : signX (c :: r) with
          | none => rw [hs] at h; simp at h
          | some x => rw [hs] at h; simp at h
theorem tokens_wordy (l : List Nat) (hl : l.length ≤ 65536) (h : wordyB l = true) : tokens l = .ok [(1, l, 0, 0, l.length)] := by
  cases l with
  | nil => cases h
  | cons c r =>
    have h2 : letterB c = true ∧ wordN (c :: r) = (c :: r).length := by simpa [wordyB] using h
    obtain ⟨hc, hw⟩ := h2
    have hb : blankN false (c :: r) = 0 := by
      obtain ⟨h3, h4⟩ := letter_not_blank c hc
      rw [blankN, if_neg (fun q => h4 q.1), if_neg (by simp [h3])]
    have hone : oneN ((c :: r).drop (blankN false (c :: r))) = .ok (1, c :: r, 0, (c :: r).length) := by
      rw [hb, List.drop_zero]
      unfold oneN
      simp only [hc, if_true]
      rw [take_alln _ hw, hw]
    unfold tokens
    rw [if_neg (by omega)]
    show TK 0 0 (c :: r) = _
    rw [TK_ok 0 0 _ 1 (c :: r) 0 _ (by rw [hb]; simp) (by omega) hone, hb]
    rw [show (c :: r).drop (0 + (c :: r).length) = [] from List.drop_eq_nil_of_le (by omega), TK_end _ _ [] rfl]
    simp [preT]
theorem isOne_wordy (l : List Nat) (hl : l.length ≤ 65536) : isOne (tokens l) l = wordyB l := by
  by_cases h : wordyB l = true
  · rw [tokens_wordy l hl h, h]; simp [isOne]
  · have hf : wordyB l = false := by simpa using h
    rw [hf]
    cases hi : isOne (tokens l) l with
    | false => rfl
    | true =>
      exfalso
      apply h
      unfold tokens at hi
      rw [if_neg (by omega)] at hi
      have hi2 : isOne (TK 0 0 l) l = true := hi
      by_cases he : l.drop (blankN false l) = []
      · rw [TK_end 0 0 l he] at hi2; cases hi2
      · cases ho : oneN (l.drop (blankN false l)) with
        | error x => obtain ⟨p, e⟩ := x; rw [TK_err 0 0 l p e he (by omega) ho] at hi2; cases hi2
        | ok x =>
          obtain ⟨kd, tx, n, len⟩ := x
          rw [TK_ok 0 0 l kd tx n len he (by omega) ho] at hi2
          cases hr : TK (0 + 1) (0 + blankN false l + len) (l.drop (blankN false l + len)) with
          | error x => rw [hr] at hi2; cases hi2
          | ok ts =>
            rw [hr] at hi2
            cases ts with
            | cons a b => simp [preT, isOne] at hi2
            | nil =>
              have hi3 : kd = 1 ∧ tx = l := by simpa [preT, isOne] using hi2
              obtain ⟨rfl, rfl⟩ := hi3
              obtain ⟨c, r, h1, h2, h3⟩ := one_kind1 _ _ _ _ ho
              have hlen := congrArg List.length h3
              have hw := word_le (tx.drop (blankN false tx))
              unfold wordN at hw
              rw [← hlen, List.length_drop] at hw
              have hbl := blank_le tx false
              have hb0 : blankN false tx = 0 := by
                cases tx with
                | nil => rfl
                | cons a b => rw [List.length_cons] at hw hbl; omega
              rw [hb0, List.drop_zero] at h1 h3
              rw [h1]
              simp only [wordyB, h2, Bool.true_and, decide_eq_true_eq]
              rw [← h1]
              unfold wordN
              rw [← h3]
end Go.Proofs.YtkagkofgfjhfgaaGreatDoor

/-
  ONE TOKEN hangs on its own bytes alone, and on the one behind.
-/
namespace Go.Proofs.YtkagkofgfjhfgaaGreatDoor

/-- r2 may stand behind a token where r stood: the same next byte, or none, or a blank. -/
def mayNext (r r2 : List Nat) : Prop := r2.head? = r.head? ∨ ∀ d, r2.head? = some d → blankB d = true
theorem takeWhile_stop (q : Nat → Bool) (x r : List Nat) (hx : ∀ c ∈ x, q c = true) (hr : ∀ d, r.head? = some d → q d = false) : (x ++ r).takeWhile q = x := by
  induction x with
  | nil =>
    cases r with
    | nil => rfl
    | cons d t => have := hr d rfl; simp [this]
  | cons c t ih =>
    rw [List.cons_append, List.takeWhile_cons, if_pos (hx c (by simp)), ih (fun d hd => hx d (by simp [hd]))]
theorem takeWhile_next (q : Nat → Bool) : ∀ (l : List Nat) (d : Nat), (l.drop (l.takeWhile q).length).head? = some d → q d = false := by
  intro l
  induction l with
  | nil => intro d h; simp at h
  | cons c t ih =>
    intro d h
    rw [List.takeWhile_cons] at h
    by_cases hc : q c = true
    · rw [if_pos hc, List.length_cons, List.drop_succ_cons] at h; exact ih d h
    · rw [if_neg hc] at h; simp at h; subst h; simpa using hc
theorem takeWhile_mem (q : Nat → Bool) : ∀ (l : List Nat), ∀ c ∈ l.takeWhile q, q c = true := by
  intro l
  induction l with
  | nil => intro c h; simp at h
  | cons d t ih =>
    intro c h
    rw [List.takeWhile_cons] at h
    by_cases hd : q d = true
    · rw [if_pos hd] at h
      rcases List.mem_cons.mp h with rfl | h
      · exact hd
      · exact ih c h
    · rw [if_neg hd] at h; simp at h
theorem blank_not_word (d : Nat) (h : blankB d = true) : wordB d = false ∧ digitB d = false := by
  simp [blankB] at h
  constructor
  · simp [wordB, letterB, digitB]; omega
  · simp [digitB]; omega
theorem next_stop (q : Nat → Bool) (hq : ∀ d, blankB d = true → q d = false) (r r2 : List Nat) (hm : mayNext r r2) (hr : ∀ d, r.head? = some d → q d = false) : ∀ d, r2.head? = some d → q d = false := by
  intro d hd
  rcases hm with h | h
  · exact hr d (by rw [← h]; exact hd)
  · exact hq d (h d hd)

/-! ### Texts end by themselves -/
theorem esc_local {r : List Nat} {b k : Nat} (h : escN r = .ok (b, k)) (r2 : List Nat) : escN (r.take (k - 1) ++ r2) = .ok (b, k) := by
  unfold escN at h
  split at h
  · cases h
  · rename_i c r1
    split at h
    · cases h
    · rename_i he
      split at h
      · rename_i h1
        cases h
        simp [escN, he, h1]
      · rename_i h1
        split at h
        · rename_i h2; cases h; subst h2; rfl
        · split at h
          · rename_i h2; cases h; subst h2; rfl
          · split at h
            · rename_i h2; cases h; subst h2; rfl
            · split at h
              · rename_i h6
                subst h6
                split at h
                · cases h
                · rename_i d r2'
                  split at h
                  · cases h
                  · rename_i hd
                    split at h
                    · cases h
                    · rename_i hd2
                      split at h
                      · cases h
                      · rename_i e r3
                        split at h
                        · cases h
                        · rename_i he1
                          split at h
                          · cases h
                          · rename_i he2
                            cases h
                            simp [escN, e120, hd, hd2, he1, he2]
              · cases h
theorem text_local : ∀ (f : Nat) (l o : List Nat) (n : Nat), textN f l = .ok (o, n) → ∀ r2, T (l.take n ++ r2) = .ok (o, n) := by
  intro f
  induction f with
  | zero => intro l o n h; cases h
  | succ f ih =>
    intro l o n h r2
    cases l with
    | nil => cases h
    | cons c r =>
      unfold textN at h
      split at h
      · cases h
      · rename_i he
        have he' : endsB c = false := by simpa using he
        split at h
        · rename_i hq; cases h; subst hq; exact T_quote _
        · rename_i hq
          split at h
          · rename_i hp
            cases hr : textN f r with
            | error x => rw [hr] at h; obtain ⟨q, e⟩ := x; cases q <;> cases h
            | ok x =>
              obtain ⟨a, b⟩ := x
              rw [hr] at h
              simp only [Except.ok.injEq, Prod.mk.injEq] at h
              obtain ⟨rfl, rfl⟩ := h
              rw [List.take_succ_cons, List.cons_append, T_plain c _ he' hq hp, ih r a b hr r2]
              rfl
          · rename_i hp
            have hp' : plainB c = false := by simpa using hp
            cases hesc : escN r with
            | error e => rw [hesc] at h; simp only at h; split at h <;> cases h
            | ok x =>
              obtain ⟨b, k⟩ := x
              rw [hesc] at h
              simp only at h
              have hl := esc_len hesc
              cases hr : textN f (r.drop (k - 1)) with
              | error x => rw [hr] at h; obtain ⟨q, e⟩ := x; cases q <;> cases h
              | ok x =>
                obtain ⟨a, m⟩ := x
                rw [hr] at h
                simp only [Except.ok.injEq, Prod.mk.injEq] at h
                obtain ⟨rfl, rfl⟩ := h
                have h1 := ih _ a m hr r2
                have e1 : (c :: r).take (m + k) = c :: (r.take (k - 1) ++ (r.drop (k - 1)).take m) := by
                  rw [show m + k = (m + k - 1) + 1 by omega, List.take_succ_cons]
                  congr 1
                  have e2 : m + k - 1 = (k - 1) + m := by omega
                  rw [e2, List.take_add]
                rw [e1, List.cons_append, List.append_assoc]
                have h2 := esc_local hesc ((r.drop (k - 1)).take m ++ r2)
                rw [T_esc c _ b k he' hq hp' h2]
                have e3 : (r.take (k - 1) ++ ((r.drop (k - 1)).take m ++ r2)).drop (k - 1) = (r.drop (k - 1)).take m ++ r2 := by
                  rw [List.drop_append_of_le_length (by rw [List.length_take]; omega), List.drop_eq_nil_of_le (by rw [List.length_take]; omega), List.nil_append]
                rw [e3, h1]
                rfl
end Go.Proofs.YtkagkofgfjhfgaaGreatDoor

/-
  ONE TOKEN hangs on its own bytes alone, and on the one behind: signs, and all kinds together; blanks.
-/
namespace Go.Proofs.YtkagkofgfjhfgaaGreatDoor

theorem sign_len (x : List Nat) (h : x ∈ signL) : 1 ≤ x.length ∧ x.length ≤ 2 := by
  have : ∀ x ∈ signL, 1 ≤ x.length ∧ x.length ≤ 2 := by decide
  exact this x h
theorem has_cut (x r y : List Nat) (hx : 1 ≤ x.length) (hy : y.length ≤ 2) : hasB (x ++ r) y = hasB (x ++ r.take 1) y := by
  unfold hasB
  have e : (x ++ r).take y.length = (x ++ r.take 1).take y.length := by
    rw [List.take_append, List.take_append, List.take_take]
    congr 2
    omega
  rw [e]
theorem find_same (p q : List Nat → Bool) : ∀ (l : List (List Nat)), (∀ y ∈ l, p y = q y) → l.find? p = l.find? q := by
  intro l
  induction l with
  | nil => intro _; rfl
  | cons a t ih =>
    intro h
    rw [List.find?_cons, List.find?_cons, h a (by simp), ih fun y hy => h y (by simp [hy])]
theorem sign_cut (x r : List Nat) (hx : 1 ≤ x.length) : signX (x ++ r) = signX (x ++ r.take 1) := by
  unfold signX
  apply find_same
  intro y hy
  exact has_cut x r y hx (sign_len y hy).2
theorem sign_alone (x : List Nat) (h : x ∈ signL) : signX x = some x := by
  have : ∀ x ∈ signL, signX x = some x := by decide
  exact this x h
theorem sign_blank (x : List Nat) (h : x ∈ signL) (d : Nat) (hd : blankB d = true) : signX (x ++ [d]) = some x := by
  have : ∀ x ∈ signL, signX (x ++ [9]) = some x ∧ signX (x ++ [10]) = some x ∧ signX (x ++ [13]) = some x ∧ signX (x ++ [32]) = some x := by decide
  have h1 := this x h
  have hd2 : d = 9 ∨ d = 10 ∨ d = 13 ∨ d = 32 := by simpa [blankB, or_assoc] using hd
  rcases hd2 with rfl | rfl | rfl | rfl
  · exact h1.1
  · exact h1.2.1
  · exact h1.2.2.1
  · exact h1.2.2.2
theorem take1_head (r r2 : List Nat) (h : r2.head? = r.head?) : r2.take 1 = r.take 1 := by
  cases r <;> cases r2 <;> simp_all
theorem sign_local (x r r2 : List Nat) (h : signX (x ++ r) = some x) (hm : mayNext r r2) : signX (x ++ r2) = some x := by
  have hmem : x ∈ signL := List.mem_of_find?_eq_some h
  have hl := sign_len x hmem
  rw [sign_cut x r2 hl.1]
  rcases hm with hh | hh
  · rw [take1_head r r2 hh, ← sign_cut x r hl.1]; exact h
  · cases r2 with
    | nil => rw [List.take_nil, List.append_nil]; exact sign_alone x hmem
    | cons d t => exact sign_blank x hmem d (hh d rfl)

/-- A token's own bytes, and what may stand behind them, are that token. -/
theorem one_local (l : List Nat) (kd : Nat) (tx : List Nat) (n len : Nat) (h : oneN l = .ok (kd, tx, n, len)) (r2 : List Nat) (hm : mayNext (l.drop len) r2) : oneN (l.take len ++ r2) = .ok (kd, tx, n, len) := by
  have hlen := one_len l kd tx n len h
  cases l with
  | nil => cases h
  | cons c r =>
    obtain ⟨m, rfl⟩ : ∃ m, len = m + 1 := ⟨len - 1, by omega⟩
    unfold oneN at h
    simp only at h
    split at h
    · rename_i hl
      simp only [Except.ok.injEq, Prod.mk.injEq] at h
      obtain ⟨rfl, rfl, rfl, hw⟩ := h
      have hx : (c :: r).take (m + 1) = (c :: r).takeWhile wordB := by rw [← hw]; exact takeWhile_take _ _
      have hstop := next_stop wordB (fun d hd => (blank_not_word d hd).1) _ r2 hm (by
        intro d hd; rw [← hw] at hd; exact takeWhile_next wordB _ d hd)
      have e : ((c :: r).take (m + 1) ++ r2).takeWhile wordB = (c :: r).takeWhile wordB := by
        rw [hx]; exact takeWhile_stop wordB _ _ (takeWhile_mem _ _) hstop
      have e2 : wordN ((c :: r).take (m + 1) ++ r2) = m + 1 := by unfold wordN; rw [e]; exact hw
      rw [List.take_succ_cons, List.cons_append] at e e2 ⊢
      unfold oneN
      simp only [hl, if_true]
      rw [e, e2]
    · rename_i hl
      have hl' : letterB c = false := by simpa using hl
      split at h
      · rename_i hd
        split at h
        · rename_i hcond
          simp only [Except.ok.injEq, Prod.mk.injEq] at h
          obtain ⟨rfl, rfl, rfl, hlen2⟩ := h
          generalize hds : (c :: r).takeWhile digitB = ds at *
          generalize hsf : ((c :: r).drop ds.length).takeWhile wordB = sfx at *
          have hdsx : (c :: r).take ds.length = ds := by rw [← hds]; exact takeWhile_take _ _
          have hsfx : ((c :: r).drop ds.length).take sfx.length = sfx := by rw [← hsf]; exact takeWhile_take _ _
          have hx : (c :: r).take (m + 1) = ds ++ sfx := by rw [← hlen2, List.take_add, hdsx, hsfx]
          have hstop := next_stop wordB (fun d hd => (blank_not_word d hd).1) _ r2 hm (by
            intro d hd
            rw [← hlen2, ← List.drop_drop, ← hsf] at hd
            exact takeWhile_next wordB _ d hd)
          have hdstop : ∀ d, (sfx ++ r2).head? = some d → digitB d = false := by
            intro d hd
            cases hs2 : sfx with
            | nil =>
              rw [hs2, List.nil_append] at hd
              have := hstop d hd
              simp [wordB] at this; exact this.2
            | cons a b =>
              rw [hs2] at hd
              simp at hd
              subst hd
              have h1 := takeWhile_next digitB (c :: r)
              rw [hds] at h1
              apply h1
              have h2 : ((c :: r).drop ds.length).take 1 = [a] := by
                have h3 := congrArg (List.take 1) hsfx
                rw [List.take_take, hs2] at h3
                simpa using h3
              cases hdr : (c :: r).drop ds.length with
              | nil => rw [hdr] at h2; simp at h2
              | cons u v => rw [hdr] at h2; simp at h2; rw [h2]; rfl
          have e1 : (ds ++ (sfx ++ r2)).takeWhile digitB = ds := takeWhile_stop digitB _ _ (by rw [← hds]; exact takeWhile_mem _ _) hdstop
          have e2 : (sfx ++ r2).takeWhile wordB = sfx := takeWhile_stop wordB _ _ (by rw [← hsf]; exact takeWhile_mem _ _) hstop
          have e3 : ((c :: r).take (m + 1) ++ r2) = ds ++ (sfx ++ r2) := by rw [hx, List.append_assoc]
          have hone := one_num ((c :: r).take (m + 1) ++ r2) c (r.take m ++ r2) (by rw [List.take_succ_cons, List.cons_append]) hl' hd
          rw [e3, e1, show (ds ++ (sfx ++ r2)).drop ds.length = sfx ++ r2 by simp, e2, if_pos hcond] at hone
          rw [e3, hone, hlen2]
        · cases h
      · rename_i hd
        have hd' : digitB c = false := by simpa using hd
        split at h
        · rename_i hq
          subst hq
          cases hr : textN (r.length + 1) r with
          | error x => rw [hr] at h; obtain ⟨q, e⟩ := x; cases q <;> cases h
          | ok x =>
            obtain ⟨a, b⟩ := x
            rw [hr] at h
            simp only [Except.ok.injEq, Prod.mk.injEq] at h
            obtain ⟨rfl, rfl, rfl, hb⟩ := h
            obtain rfl : b = m := by omega
            rw [List.take_succ_cons, List.cons_append, one_text, text_local _ _ _ _ hr r2]
        · rename_i hq
          cases hs : signX (c :: r) with
          | none => rw [hs] at h; cases h
          | some x =>
            rw [hs] at h
            simp only [Except.ok.injEq, Prod.mk.injEq] at h
            obtain ⟨rfl, rfl, rfl, hx⟩ := h
            have hp := List.find?_some hs
            simp only [hasB, decide_eq_true_eq] at hp
            rw [hx] at hp
            have hs2 : signX (x ++ (c :: r).drop (m + 1)) = some x := by rw [← hp, List.take_append_drop]; rw [hp]; exact hs
            have h3 := sign_local x _ r2 hs2 hm
            rw [← hp, List.take_succ_cons, List.cons_append] at h3
            rw [List.take_succ_cons, List.cons_append, one_sign c _ hl' hd' hq, h3, ← List.take_succ_cons, hp]
            simp only
            rw [hx]
end Go.Proofs.YtkagkofgfjhfgaaGreatDoor

/-
  BLANKS: what is skipped is skipped whatever follows; four blanks that may be put in.
-/
namespace Go.Proofs.YtkagkofgfjhfgaaGreatDoor

/-- All of it skipped: how the scan stands behind it (true: within a remark); none: not all of it. -/
def skipF : Bool → List Nat → Option Bool
  | st, [] => some st
  | true, c :: r => skipF (decide (c ≠ 10)) r
  | false, c :: r => if c = 47 ∧ r.head? = some 47 then skipF true r else if blankB c then skipF false r else none
theorem skip_run : ∀ (xs : List Nat) (st st2 : Bool), skipF st xs = some st2 → ∀ l, blankN st (xs ++ l) = xs.length + blankN st2 l := by
  intro xs
  induction xs with
  | nil => intro st st2 h l; simp [skipF] at h; subst h; simp
  | cons c r ih =>
    intro st st2 h l
    cases st with
    | true =>
      rw [skipF] at h
      rw [List.cons_append, blankN, ih _ _ h l, List.length_cons]; omega
    | false =>
      rw [skipF] at h
      rw [List.cons_append, blankN]
      by_cases hc : c = 47 ∧ r.head? = some 47
      · rw [if_pos hc] at h
        have hc2 : c = 47 ∧ (r ++ l).head? = some 47 := ⟨hc.1, by cases r with | nil => simp at hc | cons d t => simpa using hc.2⟩
        rw [if_pos hc2, ih _ _ h l, List.length_cons]; omega
      · rw [if_neg hc] at h
        by_cases hb : blankB c = true
        · rw [if_pos hb] at h
          have h47 : ¬ (c = 47 ∧ (r ++ l).head? = some 47) := by
            intro q; rw [q.1] at hb; simp [blankB] at hb
          rw [if_neg h47, if_pos hb, ih _ _ h l, List.length_cons]; omega
        · rw [if_neg hb] at h; cases h
theorem skip_take : ∀ (l : List Nat) (st : Bool), ∃ st2, skipF st (l.take (blankN st l)) = some st2 ∧ (¬ l.drop (blankN st l) = [] → st2 = false) := by
  intro l
  induction l with
  | nil => intro st; exact ⟨st, by simp [skipF], fun h => by simp at h⟩
  | cons c r ih =>
    intro st
    cases st with
    | true =>
      obtain ⟨st2, h1, h2⟩ := ih (decide (c ≠ 10))
      refine ⟨st2, ?_, ?_⟩
      · rw [blankN, Nat.add_comm, List.take_succ_cons, skipF]; exact h1
      · intro h; rw [blankN, Nat.add_comm, List.drop_succ_cons] at h; exact h2 h
    | false =>
      rw [blankN]
      by_cases hc : c = 47 ∧ r.head? = some 47
      · rw [if_pos hc]
        obtain ⟨st2, h1, h2⟩ := ih true
        refine ⟨st2, ?_, ?_⟩
        · rw [Nat.add_comm, List.take_succ_cons, skipF, if_pos]
          · exact h1
          · refine ⟨hc.1, ?_⟩
            cases r with
            | nil => simp at hc
            | cons d t =>
              have hd : d = 47 := by simpa using hc.2
              rw [blankN, Nat.add_comm, List.take_succ_cons, hd]; rfl
        · intro h; rw [Nat.add_comm, List.drop_succ_cons] at h; exact h2 h
      · rw [if_neg hc]
        by_cases hb : blankB c = true
        · rw [if_pos hb]
          obtain ⟨st2, h1, h2⟩ := ih false
          refine ⟨st2, ?_, ?_⟩
          · rw [Nat.add_comm, List.take_succ_cons, skipF, if_neg, if_pos hb]
            · exact h1
            · intro q; rw [q.1] at hb; simp [blankB] at hb
          · intro h; rw [Nat.add_comm, List.drop_succ_cons] at h; exact h2 h
        · rw [if_neg hb]
          exact ⟨false, rfl, fun _ => rfl⟩
theorem blank_zero (l : List Nat) : ∀ st, ¬ l.drop (blankN st l) = [] → blankN false (l.drop (blankN st l)) = 0 := by
  intro st h
  obtain ⟨st2, h1, h2⟩ := skip_take l st
  have := skip_run _ _ _ h1 (l.drop (blankN st l))
  rw [List.take_append_drop, h2 h, List.length_take] at this
  have hl := blank_le l st
  omega
/-- A blank that may be put in: skipped from either state; behind it, if it was not a remark that it began in, none. -/
def insB (bl : List Nat) : Prop := skipF false bl = some false ∧ (∃ st, skipF true bl = some st) ∧ ∃ d t, bl = d :: t ∧ blankB d = true
theorem ins_four : insB [32] ∧ insB [10] ∧ insB [9, 32, 47, 47, 32, 120, 10] ∧ insB [13, 47, 47, 10] :=
  ⟨⟨rfl, ⟨_, rfl⟩, _, _, rfl, rfl⟩, ⟨rfl, ⟨_, rfl⟩, _, _, rfl, rfl⟩, ⟨rfl, ⟨_, rfl⟩, _, _, rfl, rfl⟩, ⟨rfl, ⟨_, rfl⟩, _, _, rfl, rfl⟩⟩
/-- No blank begins at a token: whatever may stand behind it. -/
theorem token_no_blank (l : List Nat) (kd : Nat) (tx : List Nat) (n len : Nat) (h : oneN l = .ok (kd, tx, n, len)) (hb : blankN false l = 0) (r2 : List Nat) (hm : mayNext (l.drop len) r2) : blankN false (l.take len ++ r2) = 0 := by
  have hlen := one_len l kd tx n len h
  cases l with
  | nil => cases h
  | cons c r =>
    obtain ⟨m, rfl⟩ : ∃ m, len = m + 1 := ⟨len - 1, by omega⟩
    rw [List.take_succ_cons, List.cons_append, blankN]
    rw [blankN] at hb
    have h1 : ¬ (c = 47 ∧ r.head? = some 47) := by intro q; rw [if_pos q] at hb; omega
    rw [if_neg h1] at hb
    have h2 : ¬ blankB c = true := by intro q; rw [if_pos q] at hb; omega
    have h3 : ¬ (c = 47 ∧ (r.take m ++ r2).head? = some 47) := by
      rintro ⟨hc, hh⟩
      cases m with
      | zero =>
        rw [List.take_zero, List.nil_append] at hh
        rcases hm with hm | hm
        · rw [List.drop_succ_cons, List.drop_zero] at hm
          exact h1 ⟨hc, by rw [← hm]; exact hh⟩
        · have := hm 47 hh; simp [blankB] at this
      | succ m =>
        cases r with
        | nil => simp at hlen
        | cons d t =>
          rw [List.take_succ_cons] at hh
          exact h1 ⟨hc, by simpa using hh⟩
    rw [if_neg h3, if_neg h2]
end Go.Proofs.YtkagkofgfjhfgaaGreatDoor

/-
  TOKENS LIE SIDE BY SIDE, each alone is itself, and blanks put between change nothing but places: what LexLies asks.
-/
namespace Go.Proofs.YtkagkofgfjhfgaaGreatDoor

def shiftK (d : Nat) (t : Nat × List Nat × Nat × Nat × Nat) : Nat × List Nat × Nat × Nat × Nat := (t.1, t.2.1, t.2.2.1, t.2.2.2.1 + d, t.2.2.2.2 + d)
theorem TK_inv (k at0 : Nat) (l : List Nat) (ts : List (Nat × List Nat × Nat × Nat × Nat)) (h : TK k at0 l = .ok ts) :
    (ts = [] ∧ l.drop (blankN false l) = []) ∨ ∃ kd tx n len rest, ¬ l.drop (blankN false l) = [] ∧ ¬ k = 32768 ∧ oneN (l.drop (blankN false l)) = .ok (kd, tx, n, len) ∧
      TK (k + 1) (at0 + blankN false l + len) (l.drop (blankN false l + len)) = .ok rest ∧ ts = (kd, tx, n, at0 + blankN false l, at0 + blankN false l + len) :: rest := by
  by_cases he : l.drop (blankN false l) = []
  · rw [TK_end k at0 l he] at h; cases h; exact .inl ⟨rfl, he⟩
  · right
    by_cases hk : k = 32768
    · rw [TK_limit k at0 l he hk] at h; cases h
    · cases ho : oneN (l.drop (blankN false l)) with
      | error x => obtain ⟨p, e⟩ := x; rw [TK_err k at0 l p e he hk ho] at h; cases h
      | ok x =>
        obtain ⟨kd, tx, n, len⟩ := x
        rw [TK_ok k at0 l kd tx n len he hk ho] at h
        cases hr : TK (k + 1) (at0 + blankN false l + len) (l.drop (blankN false l + len)) with
        | error x => rw [hr] at h; cases h
        | ok rest => rw [hr] at h; cases h; exact ⟨kd, tx, n, len, rest, he, hk, rfl, hr, rfl⟩
theorem TK_shift : ∀ (N : Nat) (l : List Nat), l.length ≤ N → ∀ k at0 d ts, TK k at0 l = .ok ts → TK k (at0 + d) l = .ok (ts.map (shiftK d)) := by
  intro N
  induction N with
  | zero =>
    intro l hl k at0 d ts h
    rcases TK_inv k at0 l ts h with ⟨rfl, he⟩ | ⟨kd, tx, n, len, rest, he, _, _, _, _⟩
    · rw [TK_end _ _ _ he]; rfl
    · exfalso; apply he; exact List.drop_eq_nil_of_le (by omega)
  | succ N ih =>
    intro l hl k at0 d ts h
    rcases TK_inv k at0 l ts h with ⟨rfl, he⟩ | ⟨kd, tx, n, len, rest, he, hk, ho, hr, rfl⟩
    · rw [TK_end _ _ _ he]; rfl
    · have h1 := one_len _ _ _ _ _ ho
      rw [List.length_drop] at h1
      have h2 := ih (l.drop (blankN false l + len)) (by rw [List.length_drop]; omega) (k + 1) _ d rest hr
      rw [TK_ok k (at0 + d) l kd tx n len he hk ho, show at0 + d + blankN false l + len = at0 + blankN false l + len + d by omega, h2]
      simp only [preT, List.map_cons, List.singleton_append, Except.ok.injEq, List.cons.injEq, and_true]
      unfold shiftK
      simp only
      rw [show at0 + d + blankN false l = at0 + blankN false l + d by omega]
def chain (bound : Nat) : Nat → List (Nat × List Nat × Nat × Nat × Nat) → Prop
  | _, [] => True
  | at0, t :: r => at0 ≤ t.2.2.2.1 ∧ t.2.2.2.1 < t.2.2.2.2 ∧ t.2.2.2.2 ≤ bound ∧ chain bound t.2.2.2.2 r
theorem TK_chain : ∀ (N : Nat) (l : List Nat), l.length ≤ N → ∀ k at0 ts, TK k at0 l = .ok ts → chain (at0 + l.length) at0 ts := by
  intro N
  induction N with
  | zero =>
    intro l hl k at0 ts h
    rcases TK_inv k at0 l ts h with ⟨rfl, he⟩ | ⟨kd, tx, n, len, rest, he, _, _, _, _⟩
    · trivial
    · exfalso; apply he; exact List.drop_eq_nil_of_le (by omega)
  | succ N ih =>
    intro l hl k at0 ts h
    rcases TK_inv k at0 l ts h with ⟨rfl, he⟩ | ⟨kd, tx, n, len, rest, he, hk, ho, hr, rfl⟩
    · trivial
    · have h1 := one_len _ _ _ _ _ ho
      rw [List.length_drop] at h1
      have h2 := ih (l.drop (blankN false l + len)) (by rw [List.length_drop]; omega) (k + 1) _ rest hr
      rw [List.length_drop] at h2
      refine ⟨by simp, by simp; omega, by simp; omega, ?_⟩
      have e : at0 + blankN false l + len + (l.length - (blankN false l + len)) = at0 + l.length := by omega
      rw [e] at h2
      exact h2
theorem one_err_at (l : List Nat) (p e : Nat) (h : oneN l = .error (p, e)) : p ≤ l.length := by
  cases l with
  | nil => cases h; simp
  | cons c r =>
    unfold oneN at h
    simp only at h
    split at h
    · cases h
    · split at h
      · split at h
        · cases h
        · cases h; simp
      · split at h
        · have key : ∀ (f : Nat) (l : List Nat) (q e : Nat), textN f l = .error (some q, e) → q < l.length := by
            intro f
            induction f with
            | zero => intro l q e h; cases h
            | succ f ih =>
              intro l q e h
              cases l with
              | nil => cases h
              | cons c r =>
                unfold textN at h
                split at h
                · cases h
                · split at h
                  · cases h
                  · split at h
                    · cases hr : textN f r with
                      | ok x => rw [hr] at h; obtain ⟨a, b⟩ := x; cases h
                      | error x =>
                        rw [hr] at h; obtain ⟨q', e'⟩ := x
                        cases q' with
                        | none => cases h
                        | some q' => cases h; have := ih r q' e hr; rw [List.length_cons]; omega
                    · cases he : escN r with
                      | error e' =>
                        rw [he] at h; simp only at h
                        split at h
                        · cases h
                        · cases h; simp
                      | ok x =>
                        obtain ⟨b, k⟩ := x
                        rw [he] at h
                        simp only at h
                        have hl := esc_len he
                        cases hr : textN f (r.drop (k - 1)) with
                        | ok x => rw [hr] at h; obtain ⟨a, m⟩ := x; cases h
                        | error x =>
                          rw [hr] at h; obtain ⟨q', e'⟩ := x
                          cases q' with
                          | none => cases h
                          | some q' => cases h; have := ih _ q' e hr; rw [List.length_drop] at this; rw [List.length_cons]; omega
          cases hr : textN (r.length + 1) r with
          | ok x => rw [hr] at h; obtain ⟨a, b⟩ := x; cases h
          | error x =>
            rw [hr] at h; obtain ⟨q, e'⟩ := x
            cases q with
            | none => cases h; simp
            | some q => cases h; have := key _ _ _ _ hr; rw [List.length_cons]; omega
        · cases hs : signX (c :: r) with
          | none => rw [hs] at h; cases h; simp
          | some x => rw [hs] at h; cases h
theorem TK_err_at : ∀ (N : Nat) (l : List Nat), l.length ≤ N → ∀ k at0 p e, TK k at0 l = .error (p, e) → p ≤ at0 + l.length := by
  intro N
  induction N with
  | zero =>
    intro l hl k at0 p e h
    rw [TK_end k at0 l (List.drop_eq_nil_of_le (by omega))] at h; cases h
  | succ N ih =>
    intro l hl k at0 p e h
    have hb := blank_le l false
    by_cases he : l.drop (blankN false l) = []
    · rw [TK_end k at0 l he] at h; cases h
    · by_cases hk : k = 32768
      · rw [TK_limit k at0 l he hk] at h; cases h; omega
      · cases ho : oneN (l.drop (blankN false l)) with
        | error x =>
          obtain ⟨q, e'⟩ := x
          rw [TK_err k at0 l q e' he hk ho] at h; cases h
          have := one_err_at _ _ _ ho
          rw [List.length_drop] at this
          omega
        | ok x =>
          obtain ⟨kd, tx, n, len⟩ := x
          have h1 := one_len _ _ _ _ _ ho
          rw [List.length_drop] at h1
          rw [TK_ok k at0 l kd tx n len he hk ho] at h
          cases hr : TK (k + 1) (at0 + blankN false l + len) (l.drop (blankN false l + len)) with
          | error x =>
            rw [hr] at h; cases h
            have := ih _ (by rw [List.length_drop]; omega) _ _ _ _ hr
            rw [List.length_drop] at this
            omega
          | ok rest => rw [hr] at h; cases h
theorem tokens_err_at (l : List Nat) (p e : Nat) (h : tokens l = .error (p, e)) : p ≤ l.length := by
  unfold tokens at h
  split at h
  · cases h; omega
  · have := TK_err_at l.length l (Nat.le_refl _) 0 0 p e h; omega
end Go.Proofs.YtkagkofgfjhfgaaGreatDoor

/-
  EACH TOKEN ALONE is itself; A BLANK PUT IN ahead of a token, or at the end, changes nothing but places.
-/
namespace Go.Proofs.YtkagkofgfjhfgaaGreatDoor

theorem tokens_alone (x : List Nat) (kd : Nat) (tx : List Nat) (n : Nat) (hx : x.length ≤ 65536) (ho : oneN x = .ok (kd, tx, n, x.length)) (hb : blankN false x = 0) : tokens x = .ok [(kd, tx, n, 0, x.length)] := by
  have h1 := one_len _ _ _ _ _ ho
  unfold tokens
  rw [if_neg (by omega)]
  show TK 0 0 x = _
  rw [TK_ok 0 0 x kd tx n x.length (by rw [hb, List.drop_zero]; intro q; rw [q] at h1; simp at h1) (by omega) (by rw [hb, List.drop_zero]; exact ho), hb]
  rw [show x.drop (0 + x.length) = [] from List.drop_eq_nil_of_le (by omega), TK_end _ _ [] rfl]
  simp [preT]
theorem TK_alone : ∀ (N : Nat) (l : List Nat), l.length ≤ N → l.length ≤ 65536 → ∀ k at0 ts, TK k at0 l = .ok ts → ∀ t ∈ ts, ∃ len, t.2.2.2.2 = t.2.2.2.1 + len ∧ at0 ≤ t.2.2.2.1 ∧
    tokens ((l.drop (t.2.2.2.1 - at0)).take len) = .ok [(t.1, t.2.1, t.2.2.1, 0, len)] := by
  intro N
  induction N with
  | zero =>
    intro l hl h6 k at0 ts h t ht
    rcases TK_inv k at0 l ts h with ⟨rfl, he⟩ | ⟨kd, tx, n, len, rest, he, _, _, _, _⟩
    · simp at ht
    · exfalso; apply he; exact List.drop_eq_nil_of_le (by omega)
  | succ N ih =>
    intro l hl h6 k at0 ts h t ht
    rcases TK_inv k at0 l ts h with ⟨rfl, he⟩ | ⟨kd, tx, n, len, rest, he, hk, ho, hr, rfl⟩
    · simp at ht
    · have h1 := one_len _ _ _ _ _ ho
      rw [List.length_drop] at h1
      rcases List.mem_cons.mp ht with rfl | ht
      · refine ⟨len, rfl, by simp, ?_⟩
        simp only
        rw [show at0 + blankN false l - at0 = blankN false l by omega]
        have hz := blank_zero l false he
        have hm : mayNext ((l.drop (blankN false l)).drop len) [] := .inr fun d hd => by simp at hd
        have e1 := one_local _ kd tx n len ho [] hm
        have e2 := token_no_blank _ kd tx n len ho hz [] hm
        rw [List.append_nil] at e1 e2
        have hlen : ((l.drop (blankN false l)).take len).length = len := by rw [List.length_take, List.length_drop]; omega
        have := tokens_alone _ kd tx n (by rw [hlen]; omega) (by rw [hlen]; exact e1) e2
        rw [hlen] at this
        exact this
      · obtain ⟨len2, h2, h3, h4⟩ := ih (l.drop (blankN false l + len)) (by rw [List.length_drop]; omega) (by rw [List.length_drop]; omega) (k + 1) _ rest hr t ht
        refine ⟨len2, h2, by omega, ?_⟩
        rw [List.drop_drop] at h4
        rw [show blankN false l + len + (t.2.2.2.1 - (at0 + blankN false l + len)) = t.2.2.2.1 - at0 by omega] at h4
        exact h4
/-- Where the i-th token of ts begins in l, or where l ends. -/
def placeOf (at0 : Nat) (l : List Nat) (ts : List (Nat × List Nat × Nat × Nat × Nat)) (i : Nat) : Nat := match ts[i]? with | some t => t.2.2.2.1 - at0 | none => l.length
theorem chain_le (bound : Nat) : ∀ (ts : List (Nat × List Nat × Nat × Nat × Nat)) (at0 : Nat), chain bound at0 ts → ∀ t ∈ ts, at0 ≤ t.2.2.2.1 ∧ t.2.2.2.2 ≤ bound ∧ t.2.2.2.1 < t.2.2.2.2 := by
  intro ts
  induction ts with
  | nil => intro a _ t ht; simp at ht
  | cons u r ih =>
    intro a h t ht
    obtain ⟨h1, h2, h3, h4⟩ := h
    rcases List.mem_cons.mp ht with rfl | ht
    · exact ⟨h1, h3, h2⟩
    · have := ih _ h4 t ht; omega
theorem TK_ins (bl : List Nat) (hbl : insB bl) : ∀ (N : Nat) (l : List Nat), l.length ≤ N → ∀ k at0 ts, TK k at0 l = .ok ts → ∀ i, i ≤ ts.length →
    TK k at0 (l.take (placeOf at0 l ts i) ++ (bl ++ l.drop (placeOf at0 l ts i))) = .ok (ts.take i ++ (ts.drop i).map (shiftK bl.length)) := by
  obtain ⟨hb1, ⟨st, hb2⟩, d, t, hd, hdb⟩ := hbl
  intro N
  induction N with
  | zero =>
    intro l hl k at0 ts h i hi
    rcases TK_inv k at0 l ts h with ⟨rfl, he⟩ | ⟨kd, tx, n, len, rest, he, _, _, _, _⟩
    · obtain rfl : l = [] := List.eq_nil_of_length_eq_zero (by omega)
      have h0 : i = 0 := by simpa using hi
      subst h0
      have h1 := skip_run bl false false hb1 []
      rw [List.append_nil] at h1
      show TK k at0 ([] ++ (bl ++ [])) = _
      rw [List.nil_append, List.append_nil, TK_end _ _ _ (List.drop_eq_nil_of_le (by rw [h1]; simp [blankN]))]; rfl
    · exfalso; apply he; exact List.drop_eq_nil_of_le (by omega)
  | succ N ih =>
    intro l hl k at0 ts h i hi
    have hbnd := blank_le l false
    obtain ⟨st2, hs1, hs2⟩ := skip_take l false
    rcases TK_inv k at0 l ts h with ⟨rfl, he⟩ | ⟨kd, tx, n, len, rest, he, hk, ho, hr, rfl⟩
    · have h0 : i = 0 := by simpa using hi
      subst h0
      have hlen : blankN false l = l.length := by
        have := congrArg List.length he
        rw [List.length_drop] at this
        simp at this; omega
      rw [hlen, List.take_length] at hs1
      have hp : placeOf at0 l [] 0 = l.length := rfl
      rw [hp, List.take_length, List.drop_length, List.append_nil]
      have h1 := skip_run l false st2 hs1 bl
      have h2 : blankN st2 bl = bl.length := by
        cases st2 with
        | false => have := skip_run bl false false hb1 []; rw [List.append_nil] at this; simpa [blankN] using this
        | true => have := skip_run bl true st hb2 []; rw [List.append_nil] at this; cases st <;> simpa [blankN] using this
      rw [TK_end _ _ _ (List.drop_eq_nil_of_le (by rw [h1, h2, List.length_append]; omega))]; rfl
    · have hst : st2 = false := hs2 he
      subst hst
      have h1 := one_len _ _ _ _ _ ho
      rw [List.length_drop] at h1
      have hz := blank_zero l false he
      cases i with
      | zero =>
        have hp : placeOf at0 l ((kd, tx, n, at0 + blankN false l, at0 + blankN false l + len) :: rest) 0 = blankN false l := by
          show at0 + blankN false l - at0 = _; omega
        rw [hp]
        have e1 : blankN false (l.take (blankN false l) ++ (bl ++ l.drop (blankN false l))) = blankN false l + bl.length := by
          rw [skip_run _ _ _ hs1, skip_run _ _ _ hb1, hz, List.length_take]; omega
        have e2 : ∀ j, (l.take (blankN false l) ++ (bl ++ l.drop (blankN false l))).drop (blankN false l + bl.length + j) = l.drop (blankN false l + j) := by
          intro j
          rw [← List.append_assoc, List.drop_append, List.drop_eq_nil_of_le (by rw [List.length_append, List.length_take]; omega), List.nil_append, List.drop_drop]
          congr 1
          rw [List.length_append, List.length_take]; omega
        have e3 := e2 0
        rw [Nat.add_zero, Nat.add_zero] at e3
        rw [TK_ok k at0 _ kd tx n len (by rw [e1, e3]; exact he) hk (by rw [e1, e3]; exact ho), e1, e2 len]
        have h2 := TK_shift _ _ (Nat.le_refl _) (k + 1) _ bl.length rest hr
        rw [show at0 + (blankN false l + bl.length) + len = at0 + blankN false l + len + bl.length by omega, h2]
        simp only [preT, List.take_zero, List.nil_append, List.drop_zero, List.map_cons, List.singleton_append, Except.ok.injEq, List.cons.injEq, and_true]
        unfold shiftK
        simp only
        rw [show at0 + (blankN false l + bl.length) = at0 + blankN false l + bl.length by omega]
      | succ i =>
        have hi2 : i ≤ rest.length := by simpa using hi
        obtain ⟨L, hL⟩ : ∃ L, l.drop (blankN false l + len) = L := ⟨_, rfl⟩
        have hLlen : L.length = l.length - (blankN false l + len) := by rw [← hL, List.length_drop]
        rw [hL] at hr
        have hch := TK_chain _ L (Nat.le_refl _) _ _ _ hr
        obtain ⟨P, hP⟩ : ∃ P, placeOf (at0 + blankN false l + len) L rest i = P := ⟨_, rfl⟩
        have hPL : P ≤ L.length ∧ placeOf at0 l ((kd, tx, n, at0 + blankN false l, at0 + blankN false l + len) :: rest) (i + 1) = blankN false l + len + P := by
          rw [← hP]
          unfold placeOf
          rw [List.getElem?_cons_succ]
          cases hg : rest[i]? with
          | none => simp only; omega
          | some u =>
            have hm := List.mem_of_getElem? hg
            have := chain_le _ _ _ hch u hm
            simp only; omega
        rw [hPL.2]
        have hih := ih L (by omega) (k + 1) _ rest hr i hi2
        rw [hP] at hih
        obtain ⟨r2, hr2⟩ : ∃ r2, L.take P ++ (bl ++ L.drop P) = r2 := ⟨_, rfl⟩
        rw [hr2] at hih
        have hdd : (l.drop (blankN false l)).drop len = L := by rw [List.drop_drop, hL]
        have hm : mayNext ((l.drop (blankN false l)).drop len) r2 := by
          rw [hdd, ← hr2]
          cases hc : L.take P with
          | nil => right; intro q hq; rw [hd] at hq; simp at hq; rw [← hq]; exact hdb
          | cons a b =>
            left
            cases hLc : L with
            | nil => rw [hLc] at hc; simp at hc
            | cons u v =>
              rw [hLc] at hc
              cases P with
              | zero => simp at hc
              | succ P => rw [List.take_succ_cons] at hc; simp at hc; simp [hc.1]
        have hnew : l.take (blankN false l + len + P) ++ (bl ++ l.drop (blankN false l + len + P)) = l.take (blankN false l) ++ ((l.drop (blankN false l)).take len ++ r2) := by
          rw [← hr2, ← hL, List.drop_drop, List.take_add, List.take_add]
          simp [List.append_assoc]
        have e1 : blankN false (l.take (blankN false l) ++ ((l.drop (blankN false l)).take len ++ r2)) = blankN false l := by
          rw [skip_run _ _ _ hs1, token_no_blank _ kd tx n len ho hz r2 hm, List.length_take]; omega
        have e2 : (l.take (blankN false l) ++ ((l.drop (blankN false l)).take len ++ r2)).drop (blankN false l) = (l.drop (blankN false l)).take len ++ r2 := by
          rw [List.drop_append, List.drop_eq_nil_of_le (by rw [List.length_take]; omega), List.nil_append, List.length_take, show blankN false l - min (blankN false l) l.length = 0 by omega, List.drop_zero]
        have e3 : (l.take (blankN false l) ++ ((l.drop (blankN false l)).take len ++ r2)).drop (blankN false l + len) = r2 := by
          rw [← List.drop_drop, e2, List.drop_append, List.drop_eq_nil_of_le (by rw [List.length_take]; omega), List.nil_append, List.length_take, List.length_drop, show len - min len (l.length - blankN false l) = 0 by omega, List.drop_zero]
        rw [hnew]
        have hone := one_local _ kd tx n len ho r2 hm
        rw [TK_ok k at0 _ kd tx n len (by rw [e1, e2]; intro q; rw [q] at hone; cases hone) hk (by rw [e1, e2]; exact hone), e1, e3, hih]
        simp [preT]
theorem tokens_ins (bl : List Nat) (hbl : insB bl) (hb : bl.length ≤ 7) (l : List Nat) (hl : l.length ≤ 8192) (ts : List (Nat × List Nat × Nat × Nat × Nat)) (h : tokens l = .ok ts) (i : Nat) (hi : i ≤ ts.length) :
    tokens (l.take (placeOf 0 l ts i) ++ (bl ++ l.drop (placeOf 0 l ts i))) = .ok (ts.take i ++ (ts.drop i).map (shiftK bl.length)) := by
  unfold tokens at h ⊢
  rw [if_neg (by omega)] at h
  rw [if_neg (by rw [List.length_append, List.length_append, List.length_take, List.length_drop]; omega)]
  exact TK_ins bl hbl _ l (Nat.le_refl _) 0 0 ts h i hi
end Go.Proofs.YtkagkofgfjhfgaaGreatDoor

/-
  TOKENS are made of bytes, and are no more than the source's bytes.
-/
namespace Go.Proofs.YtkagkofgfjhfgaaGreatDoor
set_option linter.unusedVariables false

theorem hex_lt (c : Nat) (h : hexN c ≠ 16) : hexN c < 16 := by
  unfold hexN at h ⊢
  split
  · rename_i hd
    unfold digitB at hd
    simp at hd
    omega
  · rename_i hd
    rw [if_neg hd] at h
    split
    · omega
    · rename_i h2
      rw [if_neg h2] at h
      split
      · omega
      · rename_i h3
        rw [if_neg h3] at h
        exact absurd rfl h
theorem esc_good {r : List Nat} {b k : Nat} (h : escN r = .ok (b, k)) : b < 256 ∧ 2 ≤ k := by
  cases r with
  | nil => simp [escN] at h
  | cons c r1 =>
    unfold escN at h
    simp only at h
    split at h
    · cases h
    · split at h
      · rename_i hc; cases h; omega
      · split at h
        · cases h; omega
        · split at h
          · cases h; omega
          · split at h
            · cases h; omega
            · split at h
              · cases r1 with
                | nil => cases h
                | cons d r2 =>
                  simp only at h
                  split at h
                  · cases h
                  · split at h
                    · cases h
                    · rename_i hd
                      cases r2 with
                      | nil => cases h
                      | cons e r3 =>
                        simp only at h
                        split at h
                        · cases h
                        · split at h
                          · cases h
                          · rename_i he
                            cases h
                            have := hex_lt d hd
                            have := hex_lt e he
                            omega
              · cases h
theorem text_good : ∀ (f : Nat) (l o : List Nat) (n : Nat), textN f l = .ok (o, n) → (∀ c ∈ l, c < 256) → (∀ c ∈ o, c < 256) ∧ o.length ≤ f := by
  intro f
  induction f with
  | zero => intro l o n h; simp [textN] at h
  | succ f ih =>
    intro l o n h hl
    cases l with
    | nil => simp [textN] at h
    | cons c r =>
      unfold textN at h
      split at h
      · cases h
      · split at h
        · cases h; exact ⟨by simp, by simp⟩
        · split at h
          · cases hr : textN f r with
            | error x => rw [hr] at h; obtain ⟨p, e⟩ := x; cases p <;> cases h
            | ok x =>
              obtain ⟨o1, n1⟩ := x
              rw [hr] at h
              cases h
              obtain ⟨g1, g2⟩ := ih r o1 n1 hr fun d hd => hl d (List.mem_cons_of_mem _ hd)
              refine ⟨fun d hd => ?_, by simp; omega⟩
              rcases List.mem_cons.1 hd with rfl | hd
              · exact hl _ (by simp)
              · exact g1 d hd
          · cases he : escN r with
            | error e => rw [he] at h; simp only at h; split at h <;> cases h
            | ok x =>
              obtain ⟨b, k⟩ := x
              rw [he] at h
              simp only at h
              cases hr : textN f (r.drop (k - 1)) with
              | error x => rw [hr] at h; obtain ⟨p, e⟩ := x; cases p <;> cases h
              | ok x =>
                obtain ⟨o1, n1⟩ := x
                rw [hr] at h
                cases h
                obtain ⟨g1, g2⟩ := ih _ o1 n1 hr fun d hd => hl d (List.mem_cons_of_mem _ (List.mem_of_mem_drop hd))
                refine ⟨fun d hd => ?_, by simp; omega⟩
                rcases List.mem_cons.1 hd with rfl | hd
                · exact (esc_good he).1
                · exact g1 d hd
theorem sign_good (x : List Nat) (h : x ∈ signL) : (∀ c ∈ x, c < 256) ∧ x.length ≤ 2 := by
  have : ∀ x ∈ signL, (∀ c ∈ x, c < 256) ∧ x.length ≤ 2 := by decide
  exact this x h
theorem takeWhile_good (q : Nat → Bool) (l : List Nat) (hl : ∀ c ∈ l, c < 256) : (∀ c ∈ l.takeWhile q, c < 256) ∧ (l.takeWhile q).length ≤ l.length :=
  ⟨fun c hc => hl c ((List.takeWhile_sublist q).subset hc), (List.takeWhile_sublist q).length_le⟩
theorem one_good (l : List Nat) (kd : Nat) (tx : List Nat) (n len : Nat) (h : oneN l = .ok (kd, tx, n, len)) (hl : ∀ c ∈ l, c < 256) : (∀ c ∈ tx, c < 256) ∧ tx.length ≤ l.length + 2 := by
  cases l with
  | nil => simp [oneN] at h
  | cons c r =>
    unfold oneN at h
    simp only at h
    split at h
    · cases h
      have := takeWhile_good wordB (c :: r) hl
      exact ⟨this.1, by omega⟩
    · split at h
      · split at h
        · cases h
          have := takeWhile_good wordB ((c :: r).drop ((c :: r).takeWhile digitB).length) fun d hd => hl d (List.mem_of_mem_drop hd)
          exact ⟨this.1, by have := this.2; rw [List.length_drop] at this; omega⟩
        · cases h
      · split at h
        · cases hr : textN (r.length + 1) r with
          | error x => rw [hr] at h; obtain ⟨p, e⟩ := x; cases p <;> cases h
          | ok x =>
            obtain ⟨o1, n1⟩ := x
            rw [hr] at h
            cases h
            have := text_good _ _ _ _ hr fun d hd => hl d (List.mem_cons_of_mem _ hd)
            exact ⟨this.1, by simp; omega⟩
        · cases hs : signX (c :: r) with
          | none => rw [hs] at h; cases h
          | some x =>
            rw [hs] at h
            cases h
            have := sign_good _ (List.mem_of_find?_eq_some hs)
            exact ⟨this.1, by omega⟩
theorem toks_good : ∀ (f k at0 : Nat) (l : List Nat) (ts : List (Nat × List Nat × Nat × Nat × Nat)), toksN f k at0 l = .ok ts → (∀ c ∈ l, c < 256) → ts.length ≤ f ∧ ∀ t ∈ ts, (∀ c ∈ t.2.1, c < 256) ∧ t.2.1.length ≤ l.length + 2 := by
  intro f
  induction f with
  | zero => intro k at0 l ts h hl; simp [toksN] at h; subst h; exact ⟨by simp, by simp⟩
  | succ f ih =>
    intro k at0 l ts h hl
    unfold toksN at h
    simp only at h
    split at h
    · cases h; exact ⟨by simp, by simp⟩
    · split at h
      · cases h
      · cases ho : oneN (l.drop (blankN false l)) with
        | error x => rw [ho] at h; cases h
        | ok x =>
          obtain ⟨kd, tx, n, len⟩ := x
          rw [ho] at h
          simp only at h
          cases hr : toksN f (k + 1) (at0 + blankN false l + len) (l.drop (blankN false l + len)) with
          | error x => rw [hr] at h; cases h
          | ok us =>
            rw [hr] at h
            cases h
            obtain ⟨g1, g2⟩ := ih _ _ _ _ hr fun c hc => hl c (List.mem_of_mem_drop hc)
            refine ⟨by simp; omega, fun t ht => ?_⟩
            rcases List.mem_cons.1 ht with rfl | ht
            · have := one_good _ _ _ _ _ ho fun c hc => hl c (List.mem_of_mem_drop hc)
              rw [List.length_drop] at this
              exact ⟨this.1, by have := this.2; simp only; omega⟩
            · have := g2 t ht
              rw [List.length_drop] at this
              exact ⟨this.1, by omega⟩
theorem tokens_good (l : List Nat) (ts : List (Nat × List Nat × Nat × Nat × Nat)) (h : tokens l = .ok ts) (hl : ∀ c ∈ l, c < 256) : ts.length ≤ 65537 ∧ ∀ t ∈ ts, (∀ c ∈ t.2.1, c < 256) ∧ t.2.1.length ≤ 1048576 := by
  unfold tokens at h
  split at h
  · cases h
  · rename_i hn
    obtain ⟨h1, h2⟩ := toks_good _ _ _ _ _ h hl
    exact ⟨by omega, fun t ht => ⟨(h2 t ht).1, by have := (h2 t ht).2; omega⟩⟩
end Go.Proofs.YtkagkofgfjhfgaaGreatDoor
