/-
  ONE TOKEN hangs on its own bytes alone, and on the one behind: signs, and all kinds together; blanks.
-/
import Derived.Test.YtpjmdiofkkpbgaaDoorLocalMath
namespace Go.Proofs.YtpjmdiofkkpbgaaDoor

theorem sign_len (x : List Nat) (h : x ∈ signL) : 1 ≤ x.length ∧ x.length ≤ 2 := by
  have : ∀ x ∈ signL, 1 ≤ x.length ∧ x.length ≤ 2 := by decide
  exact this x h
theorem has_cut (x r y : List Nat) (hx : 1 ≤ x.length) (hy : y.length ≤ 2) : hasB (x ++ r) y = hasB (x ++ r.take 1) y := by
  unfold hasB
  have e : (x ++ r).take y.length = (x ++ r.take 1).take y.length := by
    rw [List.take_append, List.take_append, List.take_take]
    congr 2
    omega
  rw [e]
theorem find_same (p q : List Nat → Bool) : ∀ (l : List (List Nat)), (∀ y ∈ l, p y = q y) → l.find? p = l.find? q := by
  intro l
  induction l with
  | nil => intro _; rfl
  | cons a t ih =>
    intro h
    rw [List.find?_cons, List.find?_cons, h a (by simp), ih fun y hy => h y (by simp [hy])]
theorem sign_cut (x r : List Nat) (hx : 1 ≤ x.length) : signX (x ++ r) = signX (x ++ r.take 1) := by
  unfold signX
  apply find_same
  intro y hy
  exact has_cut x r y hx (sign_len y hy).2
theorem sign_alone (x : List Nat) (h : x ∈ signL) : signX x = some x := by
  have : ∀ x ∈ signL, signX x = some x := by decide
  exact this x h
theorem sign_blank (x : List Nat) (h : x ∈ signL) (d : Nat) (hd : blankB d = true) : signX (x ++ [d]) = some x := by
  have : ∀ x ∈ signL, signX (x ++ [9]) = some x ∧ signX (x ++ [10]) = some x ∧ signX (x ++ [13]) = some x ∧ signX (x ++ [32]) = some x := by decide
  have h1 := this x h
  have hd2 : d = 9 ∨ d = 10 ∨ d = 13 ∨ d = 32 := by simpa [blankB, or_assoc] using hd
  rcases hd2 with rfl | rfl | rfl | rfl
  · exact h1.1
  · exact h1.2.1
  · exact h1.2.2.1
  · exact h1.2.2.2
theorem take1_head (r r2 : List Nat) (h : r2.head? = r.head?) : r2.take 1 = r.take 1 := by
  cases r <;> cases r2 <;> simp_all
theorem sign_local (x r r2 : List Nat) (h : signX (x ++ r) = some x) (hm : mayNext r r2) : signX (x ++ r2) = some x := by
  have hmem : x ∈ signL := List.mem_of_find?_eq_some h
  have hl := sign_len x hmem
  rw [sign_cut x r2 hl.1]
  rcases hm with hh | hh
  · rw [take1_head r r2 hh, ← sign_cut x r hl.1]; exact h
  · cases r2 with
    | nil => rw [List.take_nil, List.append_nil]; exact sign_alone x hmem
    | cons d t => exact sign_blank x hmem d (hh d rfl)

/-- A token's own bytes, and what may stand behind them, are that token. -/
theorem one_local (l : List Nat) (kd : Nat) (tx : List Nat) (n len : Nat) (h : oneN l = .ok (kd, tx, n, len)) (r2 : List Nat) (hm : mayNext (l.drop len) r2) : oneN (l.take len ++ r2) = .ok (kd, tx, n, len) := by
  have hlen := one_len l kd tx n len h
  cases l with
  | nil => cases h
  | cons c r =>
    obtain ⟨m, rfl⟩ : ∃ m, len = m + 1 := ⟨len - 1, by omega⟩
    unfold oneN at h
    simp only at h
    split at h
    · rename_i hl
      simp only [Except.ok.injEq, Prod.mk.injEq] at h
      obtain ⟨rfl, rfl, rfl, hw⟩ := h
      have hx : (c :: r).take (m + 1) = (c :: r).takeWhile wordB := by rw [← hw]; exact takeWhile_take _ _
      have hstop := next_stop wordB (fun d hd => (blank_not_word d hd).1) _ r2 hm (by
        intro d hd; rw [← hw] at hd; exact takeWhile_next wordB _ d hd)
      have e : ((c :: r).take (m + 1) ++ r2).takeWhile wordB = (c :: r).takeWhile wordB := by
        rw [hx]; exact takeWhile_stop wordB _ _ (takeWhile_mem _ _) hstop
      have e2 : wordN ((c :: r).take (m + 1) ++ r2) = m + 1 := by unfold wordN; rw [e]; exact hw
      rw [List.take_succ_cons, List.cons_append] at e e2 ⊢
      unfold oneN
      simp only [hl, if_true]
      rw [e, e2]
    · rename_i hl
      have hl' : letterB c = false := by simpa using hl
      split at h
      · rename_i hd
        split at h
        · rename_i hcond
          simp only [Except.ok.injEq, Prod.mk.injEq] at h
          obtain ⟨rfl, rfl, rfl, hlen2⟩ := h
          generalize hds : (c :: r).takeWhile digitB = ds at *
          generalize hsf : ((c :: r).drop ds.length).takeWhile wordB = sfx at *
          have hdsx : (c :: r).take ds.length = ds := by rw [← hds]; exact takeWhile_take _ _
          have hsfx : ((c :: r).drop ds.length).take sfx.length = sfx := by rw [← hsf]; exact takeWhile_take _ _
          have hx : (c :: r).take (m + 1) = ds ++ sfx := by rw [← hlen2, List.take_add, hdsx, hsfx]
          have hstop := next_stop wordB (fun d hd => (blank_not_word d hd).1) _ r2 hm (by
            intro d hd
            rw [← hlen2, ← List.drop_drop, ← hsf] at hd
            exact takeWhile_next wordB _ d hd)
          have hdstop : ∀ d, (sfx ++ r2).head? = some d → digitB d = false := by
            intro d hd
            cases hs2 : sfx with
            | nil =>
              rw [hs2, List.nil_append] at hd
              have := hstop d hd
              simp [wordB] at this; exact this.2
            | cons a b =>
              rw [hs2] at hd
              simp at hd
              subst hd
              have h1 := takeWhile_next digitB (c :: r)
              rw [hds] at h1
              apply h1
              have h2 : ((c :: r).drop ds.length).take 1 = [a] := by
                have h3 := congrArg (List.take 1) hsfx
                rw [List.take_take, hs2] at h3
                simpa using h3
              cases hdr : (c :: r).drop ds.length with
              | nil => rw [hdr] at h2; simp at h2
              | cons u v => rw [hdr] at h2; simp at h2; rw [h2]; rfl
          have e1 : (ds ++ (sfx ++ r2)).takeWhile digitB = ds := takeWhile_stop digitB _ _ (by rw [← hds]; exact takeWhile_mem _ _) hdstop
          have e2 : (sfx ++ r2).takeWhile wordB = sfx := takeWhile_stop wordB _ _ (by rw [← hsf]; exact takeWhile_mem _ _) hstop
          have e3 : ((c :: r).take (m + 1) ++ r2) = ds ++ (sfx ++ r2) := by rw [hx, List.append_assoc]
          have hone := one_num ((c :: r).take (m + 1) ++ r2) c (r.take m ++ r2) (by rw [List.take_succ_cons, List.cons_append]) hl' hd
          rw [e3, e1, show (ds ++ (sfx ++ r2)).drop ds.length = sfx ++ r2 by simp, e2, if_pos hcond] at hone
          rw [e3, hone, hlen2]
        · cases h
      · rename_i hd
        have hd' : digitB c = false := by simpa using hd
        split at h
        · rename_i hq
          subst hq
          cases hr : textN (r.length + 1) r with
          | error x => rw [hr] at h; obtain ⟨q, e⟩ := x; cases q <;> cases h
          | ok x =>
            obtain ⟨a, b⟩ := x
            rw [hr] at h
            simp only [Except.ok.injEq, Prod.mk.injEq] at h
            obtain ⟨rfl, rfl, rfl, hb⟩ := h
            obtain rfl : b = m := by omega
            rw [List.take_succ_cons, List.cons_append, one_text, text_local _ _ _ _ hr r2]
        · rename_i hq
          cases hs : signX (c :: r) with
          | none => rw [hs] at h; cases h
          | some x =>
            rw [hs] at h
            simp only [Except.ok.injEq, Prod.mk.injEq] at h
            obtain ⟨rfl, rfl, rfl, hx⟩ := h
            have hp := List.find?_some hs
            simp only [hasB, decide_eq_true_eq] at hp
            rw [hx] at hp
            have hs2 : signX (x ++ (c :: r).drop (m + 1)) = some x := by rw [← hp, List.take_append_drop]; rw [hp]; exact hs
            have h3 := sign_local x _ r2 hs2 hm
            rw [← hp, List.take_succ_cons, List.cons_append] at h3
            rw [List.take_succ_cons, List.cons_append, one_sign c _ hl' hd' hq, h3, ← List.take_succ_cons, hp]
            simp only
            rw [hx]
end Go.Proofs.YtpjmdiofkkpbgaaDoor
