/-
  CONTRACT of the landed lex's read, all ways together.
-/
import Derived.Test.YteeoakbafbnkhaaDoorXReadW
namespace Go.Proofs.YteeoakbafbnkhaaDoor
open Go.RowKit
set_option linter.unusedVariables false

theorem foundV_shape (p : Nat) (o : Except (Nat × Nat) (Nat × List Nat × Nat × Nat)) : ∃ (a0 : Int) (a1 : ByteArray) (a2 a3 a4 a5 a6 : Int), foundV p o = .agg #[.int .u8 a0, .string a1, .int .u64 a2, .int .i64 a3, .int .i64 a4, .int .i64 a5, .int .i64 a6] := by
  match o with
  | .ok (kd, tx, n, len) => exact ⟨_, _, _, _, _, _, _, rfl⟩
  | .error (q, e) => exact ⟨_, _, _, _, _, _, _, rfl⟩
theorem textF_found (p : Nat) (r : List Nat) : textF p (T r) = foundV p (oneN (34 :: r)) := by
  rw [one_text]
  match T r with
  | .ok (out, m) => show foundOk 3 0 p ((p + 1 + m : Nat) : Int) (strN out) = foundOk 3 0 p ((p + (m + 1) : Nat) : Int) (strN out); rw [show p + 1 + m = p + (m + 1) by omega]
  | .error (none, e) => rfl
  | .error (some q, e) => show foundNo p ((p + 1 + q : Nat) : Int) e = foundNo p ((p + (q + 1) : Nat) : Int) e; rw [show p + 1 + q = p + (q + 1) by omega]
theorem xread_as (s : ByteArray) (y : Int) (p : Nat) (hy : y = p) (hp : p < s.size) (h : s.size ≤ 1048576) (w : World) (hL : Laid w) :
    Calls Tryd.prog 40 #[.string s, .int .i64 y] w fun e w' => e = .returned (foundV p (oneN ((bytesN s).drop p))) ∧ Below w.heap.size w w' := by
  subst hy
  have hdrop := bytesN_drop s p hp
  obtain ⟨c, hc⟩ : ∃ c, (s[p]'hp).toNat = c := ⟨_, rfl⟩
  rw [hc] at hdrop
  obtain ⟨l, hl⟩ : ∃ l, (bytesN s).drop p = l := ⟨_, rfl⟩
  have hll : l.length = s.size - p := by rw [← hl, List.length_drop, bytesN_length]
  have hlc : l = c :: (bytesN s).drop (p + 1) := hl.symm.trans hdrop
  by_cases h1 : letterB c = true
  · have hone : oneN l = .ok (1, l.takeWhile wordB, 0, wordN l) := by rw [hlc]; unfold oneN; simp only [h1, if_true]
    have hw := word_le l
    refine xread_name s p c (p + wordN l) (strN (l.takeWhile wordB)) _ hp h hc h1 (by unfold Hid; rw [hl]) (by omega) (by omega) ?_ ?_ w
    · exact ext_bytes s p _ _ (by rw [hl, Nat.add_sub_cancel_left]; exact takeWhile_take wordB l)
    · unfold Hid; rw [hl, hone]; rfl
  · have h1' : letterB c = false := by simpa using h1
    by_cases h2 : digitB c = true
    · obtain ⟨a0, a1, a2, a3, a4, a5, a6, hsh⟩ := foundV_shape p (oneN ((bytesN s).drop p))
      exact xread_num s p c a0 a1 a2 a3 a4 a5 a6 _ hp h hc h1' h2 hsh hsh.symm w hL
    · have h2' : digitB c = false := by simpa using h2
      by_cases h3 : c = 34
      · subst h3
        have hf : textF p (T ((bytesN s).drop (p + 1))) = foundV p (oneN ((bytesN s).drop p)) := by rw [textF_found, hdrop]
        obtain ⟨a0, a1, a2, a3, a4, a5, a6, hsh⟩ := foundV_shape p (oneN ((bytesN s).drop p))
        exact xread_text s p a0 a1 a2 a3 a4 a5 a6 _ hp h hc (hf.trans hsh) hsh.symm w
      · have hone := one_sign c ((bytesN s).drop (p + 1)) h1' h2' h3
        rw [← hlc] at hone
        have hq : ((c : Int) == 34) = false := by simp; omega
        have hsw := signW l
        cases hx : signX l with
        | none =>
          rw [hx] at hone hsw
          refine xread_none s p c _ hp h hc h1' h2' hq (by unfold Hid; rw [hl]; exact hsw) ?_ w
          unfold Hid; rw [hl, hone]; rfl
        | some z =>
          rw [hx] at hone hsw
          obtain ⟨hb, hz1, hz2, hz3⟩ := sign_some hx
          have hzs : (strN z).size = z.length := by rw [← bytesN_length, hz3]
          have hzl := congrArg List.length (has_split hb)
          rw [List.length_append] at hzl
          have hz10 : (strN z).size ≤ 10 := by
            have := signL_fact z (List.mem_of_find?_eq_some hx)
            omega
          refine xread_sign s p c (p + (strN z).size) (strN z) _ hp h hc h1' h2' hq (by unfold Hid; rw [hl]; exact hsw) ?_ hz10 rfl (by omega) ?_ ?_ w
          · rw [list_is]; simpa using hz2
          · refine ext_bytes s p _ _ ?_
            rw [hl, Nat.add_sub_cancel_left, hzs]
            unfold hasB at hb; simpa using hb
          · unfold Hid; rw [hl, hone, hzs]; rfl
end Go.Proofs.YteeoakbafbnkhaaDoor
