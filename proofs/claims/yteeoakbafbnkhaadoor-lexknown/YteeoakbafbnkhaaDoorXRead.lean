/-
  CONTRACT of the landed lex's readNumber and read.
-/
import Derived.Test.YteeoakbafbnkhaaDoorXNumW
import Derived.Test.YteeoakbafbnkhaaDoorSigns
namespace Go.Proofs.YteeoakbafbnkhaaDoor
open Go.RowKit
set_option linter.unusedVariables false

theorem run_take (q : Nat → Bool) (l : List Nat) : l.take (runN q l) = l.takeWhile q := takeWhile_take q l
theorem take_all (q : Nat → Bool) : ∀ l : List Nat, ∀ c ∈ l.takeWhile q, q c = true
  | [], c, h => by simp at h
  | d :: r, c, h => by
    by_cases hd : q d = true
    · rw [List.takeWhile_cons, if_pos hd] at h
      rcases List.mem_cons.1 h with rfl | h'
      · exact hd
      · exact take_all q r c h'
    · rw [List.takeWhile_cons, if_neg hd] at h; simp at h
theorem digit_letter (c : Nat) (h : digitB c = true) : letterB c = false := by
  simp [digitB] at h
  simp [letterB]; omega
theorem top_cases (l : List Nat) : topN l = 255 ∨ topN l = 4294967295 ∨ topN l = 18446744073709551615 := by
  unfold topN; split
  · exact .inl rfl
  · split
    · exact .inr (.inl rfl)
    · exact .inr (.inr rfl)
theorem first_le (l : List Nat) : (firstW l sfxS).size ≤ l.length := by
  rcases first_cases l with ⟨e, hb⟩ | ⟨e, hb⟩ | ⟨e, hb⟩ | ⟨e, _⟩
  · rw [e]; have := congrArg List.length (has_split hb); rw [List.length_append] at this; show 2 ≤ _; simp at this; omega
  · rw [e]; have := congrArg List.length (has_split hb); rw [List.length_append] at this; show 3 ≤ _; simp at this; omega
  · rw [e]; have := congrArg List.length (has_split hb); rw [List.length_append] at this; show 3 ≤ _; simp at this; omega
  · rw [e]; exact Nat.zero_le _
theorem xnumber_as (s : ByteArray) (y : Int) (p c : Nat) (hy : y = p) (hp : p < s.size) (h : s.size ≤ 1048576) (hc : (s[p]'hp).toNat = c) (hd : digitB c = true) (w : World) (hL : Laid w) :
    Calls Tryd.prog 52 #[.string s, .int .i64 y] w fun e w' => e = .returned (foundV p (oneN ((bytesN s).drop p))) ∧ Below w.heap.size w w' := by
  subst hy
  have hdrop := bytesN_drop s p hp
  rw [hc] at hdrop
  obtain ⟨l, hl⟩ : ∃ l, (bytesN s).drop p = l := ⟨_, rfl⟩
  have hll : l.length = s.size - p := by rw [← hl, List.length_drop, bytesN_length]
  have hone := one_num l c _ (hl.symm.trans hdrop) (digit_letter c hd) hd
  obtain ⟨D, hD⟩ : ∃ D, digN l = D := ⟨_, rfl⟩
  have hD1 : 1 ≤ D := by rw [← hD, ← hl, hdrop, digN_cons _ _ hd]; omega
  have hD2 : D ≤ l.length := by rw [← hD]; exact dig_le l
  obtain ⟨t, ht⟩ : ∃ t, s.extract p (p + D) = t := ⟨_, rfl⟩
  have htb : bytesN t = l.takeWhile digitB := by
    rw [← ht, bytesN_extract, Nat.add_sub_cancel_left, hl, ← hD]; exact takeWhile_take digitB l
  have hlen : (l.takeWhile digitB).length = D := hD
  have hts : t.size = D := by rw [← bytesN_length, htb, hlen]
  have hdE : (bytesN s).drop (p + D) = l.drop D := by rw [← hl, List.drop_drop]
  obtain ⟨x, hx⟩ : ∃ x, firstW (l.drop D) sfxS = x := ⟨_, rfl⟩
  have hxs : x.size ≤ l.length - D := by rw [← hx]; have := first_le (l.drop D); rwa [List.length_drop] at this
  have hne : bytesN t ≠ [] := by intro e; rw [htb] at e; rw [e] at hlen; simp at hlen; omega
  have hdg : ∀ c ∈ bytesN t, digitB c = true := by rw [htb]; exact take_all digitB l
  obtain ⟨V, hV⟩ : ∃ V, valN (bytesN t) = V := ⟨_, rfl⟩
  have hV' : valN (l.takeWhile digitB) = V := by rw [← htb]; exact hV
  obtain ⟨TP, hTP⟩ : ∃ TP, topN (bytesN x) = TP := ⟨_, rfl⟩
  have hTP2 : TP = 255 ∨ TP = 4294967295 ∨ TP = 18446744073709551615 := by rw [← hTP]; exact top_cases _
  have hE : p + digN ((bytesN s).drop p) = p + D := by rw [hl, hD]
  rw [hlen, hV'] at hone
  obtain ⟨F, hF⟩ : ∃ F, p + D + x.size = F := ⟨_, rfl⟩
  have hdF : (l.drop D).drop x.size = (bytesN s).drop F := by rw [← hdE, List.drop_drop, hF]
  rw [hl]
  by_cases hle : V ≤ TP
  · by_cases hend : F = s.size
    · have hstop : ∀ c r, (l.drop D).drop x.size = c :: r → wordB c = false := by
        intro c r e; rw [hdF, hend, drop_size] at e; cases e
      obtain ⟨e1, e2⟩ := sfx_end (l.drop D) x hx hstop
      rw [e1, if_pos ⟨e2, by rw [hTP]; exact hle⟩, bytesN_length] at hone
      rw [hone]
      refine (xnum_end s p (p + D) F V TP x t hp h hE (by omega) (by omega) ht (by rw [hdE]; exact hx) hF (by omega) (by omega) hTP hTP2 hne hdg hV hle hend w).mono ?_
      rintro e w' ⟨rfl, hb⟩
      refine ⟨?_, hb⟩
      show _ = Ending.returned (foundOk 2 V p ((p + (D + x.size) : Nat) : Int) (strN (bytesN x)))
      rw [strN_bytesN, show ((p + (D + x.size) : Nat) : Int) = (F : Int) by omega]
    · have hlt : F < s.size := by omega
      have hcF := bytesN_drop s F hlt
      obtain ⟨d, hdd⟩ : ∃ d, (s[F]'hlt).toNat = d := ⟨_, rfl⟩
      rw [hdd] at hcF
      by_cases hw : wordB d = true
      · have e1 := sfx_more (l.drop D) x hx d _ (hdF.trans hcF) hw
        rw [e1, if_neg (by simp)] at hone
        rw [hone]
        refine (xnum_more s p (p + D) F V TP x t hp h hE (by omega) (by omega) ht (by rw [hdE]; exact hx) hF (by omega) (by omega) hTP hTP2 hne hdg hV hle hlt d hdd hw w).mono ?_
        rintro e w' ⟨rfl, hb⟩
        exact ⟨rfl, hb⟩
      · have hw' : wordB d = false := by simpa using hw
        have hstop : ∀ c r, (l.drop D).drop x.size = c :: r → wordB c = false := by
          intro c r e; rw [hdF, hcF] at e; obtain ⟨rfl, _⟩ := List.cons.inj e; exact hw'
        obtain ⟨e1, e2⟩ := sfx_end (l.drop D) x hx hstop
        rw [e1, if_pos ⟨e2, by rw [hTP]; exact hle⟩, bytesN_length] at hone
        rw [hone]
        refine (xnum_stop s p (p + D) F V TP x t hp h hE (by omega) (by omega) ht (by rw [hdE]; exact hx) hF (by omega) (by omega) hTP hTP2 hne hdg hV hle hlt d hdd hw' w).mono ?_
        rintro e w' ⟨rfl, hb⟩
        refine ⟨?_, hb⟩
        show _ = Ending.returned (foundOk 2 V p ((p + (D + x.size) : Nat) : Int) (strN (bytesN x)))
        rw [strN_bytesN, show ((p + (D + x.size) : Nat) : Int) = (F : Int) by omega]
  · have hno : oneN l = .error (0, 33) := by
      rw [hone]
      by_cases hstop : ∀ c r, (l.drop D).drop x.size = c :: r → wordB c = false
      · obtain ⟨e1, e2⟩ := sfx_end (l.drop D) x hx hstop
        rw [e1, if_neg (by rw [hTP]; exact fun q => hle q.2)]
      · have : ∃ c r, (l.drop D).drop x.size = c :: r ∧ wordB c = true := by
          cases hq : (l.drop D).drop x.size with
          | nil => exact absurd (fun c r e => by rw [hq] at e; cases e) hstop
          | cons c r =>
            refine ⟨c, r, rfl, ?_⟩
            cases hw : wordB c with
            | true => rfl
            | false => exact absurd (fun c' r' e => by rw [hq] at e; obtain ⟨rfl, _⟩ := List.cons.inj e; exact hw) hstop
        obtain ⟨c', r', e, hw⟩ := this
        rw [sfx_more (l.drop D) x hx c' r' e hw, if_neg (by simp)]
    rw [hno]
    refine (xnum_big s p (p + D) F V TP x t hp h hE (by omega) (by omega) ht (by rw [hdE]; exact hx) hF (by omega) (by omega) hTP hTP2 hne hdg hV hle w hL).mono ?_
    rintro e w' ⟨rfl, hb⟩
    exact ⟨rfl, hb⟩

/-! ### read -/
theorem signW (l : List Nat) : firstW l signS = match signX l with | none => ⟨#[]⟩ | some y => strN y := by
  unfold firstW signX
  rw [← sign_same, List.find?_map]
  show (signS.find? ((fun x => hasB l x) ∘ bytesN)).getD ⟨#[]⟩ = _
  cases signS.find? ((fun x => hasB l x) ∘ bytesN) with
  | none => rfl
  | some y => show y = strN (bytesN y); rw [strN_bytesN]
theorem signS_size (j : Nat) : (signS.getD j ⟨#[]⟩).size ≤ 10 := by
  by_cases h : j < 31
  · have := sign_size j h; omega
  · rw [List.getD_eq_getElem?_getD, List.getElem?_eq_none (by show 31 ≤ j; omega)]; exact Nat.zero_le _
theorem signL_fact : ∀ y ∈ signL, 1 ≤ y.length ∧ y.length ≤ 2 ∧ (∀ c ∈ y, c < 256) := by decide
theorem sign_some {l y : List Nat} (h : signX l = some y) : hasB l y = true ∧ 1 ≤ y.length ∧ ¬ bytesN (strN y) = [] ∧ bytesN (strN y) = y := by
  unfold signX at h
  have h1 := List.find?_some h
  have h2 := signL_fact y (List.mem_of_find?_eq_some h)
  have h3 := bytesN_strN y h2.2.2
  refine ⟨h1, h2.1, ?_, h3⟩
  rw [h3]; intro e; rw [e] at h2; simp at h2
end Go.Proofs.YteeoakbafbnkhaaDoor
