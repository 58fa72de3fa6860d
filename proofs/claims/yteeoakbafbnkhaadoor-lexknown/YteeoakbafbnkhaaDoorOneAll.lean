/-
  CONTRACT of the document's one, all ways together.
-/
import Derived.Test.YteeoakbafbnkhaaDoorOne
namespace Go.Proofs.YteeoakbafbnkhaaDoor
open Go.RowKit
set_option linter.unusedVariables false

theorem one_num (l : List Nat) (c : Nat) (r : List Nat) (h : l = c :: r) (h1 : letterB c = false) (h2 : digitB c = true) : oneN l =
    if sfxB ((l.drop (l.takeWhile digitB).length).takeWhile wordB) ∧ valN (l.takeWhile digitB) ≤ topN ((l.drop (l.takeWhile digitB).length).takeWhile wordB) then .ok (2, (l.drop (l.takeWhile digitB).length).takeWhile wordB, valN (l.takeWhile digitB), (l.takeWhile digitB).length + ((l.drop (l.takeWhile digitB).length).takeWhile wordB).length) else .error (0, 33) := by
  subst h; unfold oneN; simp only [h1, h2, if_true, Bool.false_eq_true, if_false]
theorem one_text (r : List Nat) : oneN (34 :: r) = match T r with | .ok (out, n) => .ok (3, out, 0, n + 1) | .error (some p, e) => .error (p + 1, e) | .error (none, e) => .error (0, e) := by
  unfold oneN; simp [letterB, digitB]; rfl
theorem one_sign (c : Nat) (r : List Nat) (h1 : letterB c = false) (h2 : digitB c = false) (h3 : ¬ c = 34) : oneN (c :: r) = match signX (c :: r) with | none => .error (0, 30) | some x => .ok (4, x, 0, x.length) := by
  unfold oneN; simp only [h1, h2, h3, Bool.false_eq_true, if_false]
  cases signX (c :: r) <;> rfl

theorem rone_as (s : ByteArray) (y : Int) (p : Nat) (hy : y = p) (hp : p < s.size) (h : s.size ≤ 1048576) (w : World) :
    Calls Tryd.prog 29 #[.string s, .int .i64 y] w fun e w' => (∃ pl, e = .returned (oneV p (oneN ((bytesN s).drop p)) pl)) ∧ Below w.heap.size w w' := by
  subst hy
  obtain ⟨c, hc⟩ : ∃ c, (s[p]'hp).toNat = c := ⟨_, rfl⟩
  have hdrop := bytesN_drop s p hp
  rw [hc] at hdrop
  by_cases hl : letterB c = true
  · exact rone_name s p c hp h hc hl w
  have hl' : letterB c = false := by simpa using hl
  by_cases hd : digitB c = true
  · obtain ⟨E, hE⟩ : ∃ E, p + digN ((bytesN s).drop p) = E := ⟨_, rfl⟩
    have hEs : E ≤ s.size := by rw [← hE]; have := dig_le ((bytesN s).drop p); rw [List.length_drop, bytesN_length] at this; omega
    obtain ⟨F, hF⟩ : ∃ F, E + wordN ((bytesN s).drop E) = F := ⟨_, rfl⟩
    have hFs : F ≤ s.size := by rw [← hF]; have := word_le ((bytesN s).drop E); rw [List.length_drop, bytesN_length] at this; omega
    obtain ⟨VT, hV⟩ : ∃ V, valN (((bytesN s).drop p).takeWhile digitB) = V := ⟨_, rfl⟩
    have hde : ((bytesN s).drop p).drop (((bytesN s).drop p).takeWhile digitB).length = (bytesN s).drop E := by
      rw [List.drop_drop, ← hE]; rfl
    have hx : s.extract E F = strN (((bytesN s).drop E).takeWhile wordB) := extract_strN s E F _ (by rw [← hF, Nat.add_sub_cancel_left]; exact takeWhile_take _ _)
    have hxb : bytesN (strN (((bytesN s).drop E).takeWhile wordB)) = ((bytesN s).drop E).takeWhile wordB := by rw [← hx, bytesN_extract, ← hF, Nat.add_sub_cancel_left]; exact takeWhile_take _ _
    have hone := one_num _ c _ hdrop hl' hd
    rw [hde, hV] at hone
    by_cases hok : numOk (strN (((bytesN s).drop E).takeWhile wordB)) VT = true
    · have hcond : sfxB (((bytesN s).drop E).takeWhile wordB) = true ∧ VT ≤ topN (((bytesN s).drop E).takeWhile wordB) := by
        unfold numOk at hok; rw [hxb] at hok; simpa using hok
      rw [if_pos hcond] at hone
      refine (rone_num_ok s p c E F VT _ hp h hc hl' hd hE hV hF hFs hx (numRes_ok _ _ _ _ hok) w).mono ?_
      rintro e w' ⟨rfl, hb⟩
      refine ⟨⟨p, ?_⟩, hb⟩
      rw [hone, oneV_ok p 2 VT _ _ p (F : Int)]
      · rfl
      · rw [← hF, ← hE]; unfold digN wordN; omega
    · have hno : numOk (strN (((bytesN s).drop E).takeWhile wordB)) VT = false := by simpa using hok
      have hcond : ¬ (sfxB (((bytesN s).drop E).takeWhile wordB) = true ∧ VT ≤ topN (((bytesN s).drop E).takeWhile wordB)) := by
        unfold numOk at hok; rw [hxb] at hok; simpa using hok
      rw [if_neg hcond] at hone
      refine (rone_num_no s p c E F VT _ hp h hc hl' hd hE hV hF hFs hx (numRes_no _ _ _ _ hno) w).mono ?_
      rintro e w' ⟨rfl, hb⟩
      refine ⟨⟨p, ?_⟩, hb⟩
      rw [hone, oneV_no p 0 33 p (p : Int) (by omega)]
      rfl
  have hd' : digitB c = false := by simpa using hd
  by_cases hq : c = 34
  · subst hq
    have hone := one_text ((bytesN s).drop (p + 1))
    rw [← hdrop] at hone
    cases hT : T ((bytesN s).drop (p + 1)) with
    | ok x =>
      obtain ⟨out, m⟩ := x
      rw [hT] at hone
      refine (rone_text_ok s p hp h hc out m hT w).mono ?_
      rintro e w' ⟨rfl, hb⟩
      refine ⟨⟨0, ?_⟩, hb⟩
      rw [hone, oneV_ok p 3 0 (m + 1) out 0 ((p + 1 + m : Nat) : Int) (by omega)]
      rfl
    | error x =>
      obtain ⟨q, k⟩ := x
      rw [hT] at hone
      cases q with
      | none =>
        refine (rone_text_none s p hp h hc k hT w).mono ?_
        rintro e w' ⟨rfl, hb⟩
        refine ⟨⟨0, ?_⟩, hb⟩
        rw [hone, oneV_no p 0 k 0 (p : Int) (by omega)]
      | some q =>
        refine (rone_text_some s p hp h hc q k hT w).mono ?_
        rintro e w' ⟨rfl, hb⟩
        refine ⟨⟨0, ?_⟩, hb⟩
        rw [hone, oneV_no p (q + 1) k 0 ((p + 1 + q : Nat) : Int) (by omega)]
  · have hone := one_sign c ((bytesN s).drop (p + 1)) hl' hd' hq
    rw [← hdrop] at hone
    rw [hone]
    exact rone_sign s p c hp h hc hl' hd' (by simp; omega) _ rfl w
end Go.Proofs.YteeoakbafbnkhaaDoor
