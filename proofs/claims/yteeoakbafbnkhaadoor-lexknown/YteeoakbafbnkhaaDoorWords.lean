/-
  CONTRACTS of the document's words and blank.
-/
import Derived.Test.YteeoakbafbnkhaaDoorSmall
namespace Go.Proofs.YteeoakbafbnkhaaDoor
open Go.RowKit
set_option linter.unusedVariables false

theorem wordN_cons (c : Nat) (r : List Nat) (h : wordB c = true) : wordN (c :: r) = 1 + wordN r := by unfold wordN; rw [List.takeWhile_cons, if_pos h, List.length_cons]; omega
theorem wordN_stop (c : Nat) (r : List Nat) (h : wordB c = false) : wordN (c :: r) = 0 := by unfold wordN; rw [List.takeWhile_cons, if_neg (by simp [h])]; rfl
theorem wordN_nil : wordN [] = 0 := rfl
theorem drop_size (s : ByteArray) : (bytesN s).drop s.size = [] := by rw [← bytesN_length]; exact List.drop_length

def WordRel (s : ByteArray) (E : Nat) (i : Value) : Prop := ∃ k : Nat, k ≤ s.size ∧ i = .int .i64 k ∧ k + wordN ((bytesN s).drop k) = E
set_option maxRecDepth 100000 in
theorem rwords_as (s : ByteArray) (y : Int) (p E : Nat) (hy : y = p) (hp : p ≤ s.size) (h : s.size ≤ 1048576) (hE : p + wordN ((bytesN s).drop p) = E) (w : World) :
    Calls Tryd.prog 37 #[.string s, .int .i64 y] w fun e w' => e = .returned (.int .i64 (E : Int)) ∧ w = w' := by
  subst hy
  go_enter Tryd.func37, Tryd.ntmps37
  go_wp2
  go_loop [1] (fun i => WordRel s E i) (fun i => s.size - (intOf i).toNat)
  case atStart => exact ⟨p, hp, rfl, hE⟩
  case round =>
    obtain ⟨k, hk, rfl, hkE⟩ := hrel
    have HE : Hid (k + wordN ((bytesN s).drop k) = E) := hkE
    clear hkE hE
    by_cases hlt : k < s.size
    · have hdrop := bytesN_drop s k hlt
      obtain ⟨c, hc⟩ : ∃ c, (s[k]'hlt).toNat = c := ⟨_, rfl⟩
      rw [hc] at hdrop
      have HD : Hid ((bytesN s).drop k = c :: (bytesN s).drop (k + 1)) := hdrop
      clear hdrop
      by_cases hl : letterB c = true
      · have HL : Hid (letterB c = true) := hl
        clear hl
        go_wp2_with fail
        refine (rletter_any c _).mono ?_
        rw [HL.out]
        rintro e wx ⟨rfl, rfl⟩
        go_wp2
        go_round
        case rel => exact ⟨k + 1, by omega, by go_num, by rw [← HE.out, HD.out, wordN_cons c _ (by simp [wordB, HL.out])]; omega⟩
        case measure => simp [intOf]; omega
      · have HL : Hid (letterB c = false) := by simpa [Hid] using hl
        clear hl
        by_cases hd : digitB c = true
        · have HG : Hid (digitB c = true) := hd
          clear hd
          go_wp2_with fail
          refine (rletter_any c _).mono ?_
          rw [HL.out]
          rintro e wx ⟨rfl, rfl⟩
          go_wp2_with fail
          refine (rdigit_any c _).mono ?_
          rw [HG.out]
          rintro e wx ⟨rfl, rfl⟩
          go_wp2
          go_round
          case rel => exact ⟨k + 1, by omega, by go_num, by rw [← HE.out, HD.out, wordN_cons c _ (by simp [wordB, HG.out])]; omega⟩
          case measure => simp [intOf]; omega
        · have HG : Hid (digitB c = false) := by simpa [Hid] using hd
          clear hd
          go_wp2_with fail
          refine (rletter_any c _).mono ?_
          rw [HL.out]
          rintro e wx ⟨rfl, rfl⟩
          go_wp2_with fail
          refine (rdigit_any c _).mono ?_
          rw [HG.out]
          rintro e wx ⟨rfl, rfl⟩
          go_wp2
          go_ret
          refine ⟨ret_int ?_, rfl⟩
          rw [← HE.out, HD.out, wordN_stop c _ (by simp [wordB, HL.out, HG.out])]; omega
    · have hks : k = s.size := by omega
      have HF : Hid (k = E) := by unfold Hid; rw [← HE.out, hks, drop_size]; rfl
      clear HE
      subst hks
      go_wp2
      go_ret
      exact ⟨ret_int (by rw [HF.out]), rfl⟩

theorem blank_rem (c : Nat) (r : List Nat) : blankN true (c :: r) = 1 + blankN (decide (c ≠ 10)) r := by rw [blankN]
theorem blank_start (l : List Nat) (h : hasB l [47, 47] = true) : blankN false l = blankN true l := by
  unfold hasB at h
  simp only [decide_eq_true_eq] at h
  match l, h with
  | 47 :: 47 :: r, _ => simp [blankN]
theorem blank_ten (r : List Nat) : blankN true (10 :: r) = blankN false (10 :: r) := by simp [blankN, blankB]
theorem blank_step (c : Nat) (r : List Nat) (h : hasB (c :: r) [47, 47] = false) (hb : blankB c = true) : blankN false (c :: r) = 1 + blankN false r := by
  rw [blankN, if_neg, if_pos hb]
  intro q
  unfold hasB at h
  simp only [decide_eq_false_iff_not] at h
  apply h
  obtain ⟨rfl, q⟩ := q
  cases r with
  | nil => simp at q
  | cons d t => simp at q; subst q; rfl
theorem blank_stop (c : Nat) (r : List Nat) (h : hasB (c :: r) [47, 47] = false) (hb : blankB c = false) : blankN false (c :: r) = 0 := by
  rw [blankN, if_neg, if_neg (by simp [hb])]
  intro q
  unfold hasB at h
  simp only [decide_eq_false_iff_not] at h
  apply h
  obtain ⟨rfl, q⟩ := q
  cases r with
  | nil => simp at q
  | cons d t => simp at q; subst q; rfl

def RemRel (s : ByteArray) (E K : Nat) (i : Value) : Prop := ∃ j : Nat, K ≤ j ∧ j ≤ s.size ∧ i = .int .i64 j ∧ j + blankN true ((bytesN s).drop j) = E
def BlankRel (s : ByteArray) (E : Nat) (m : Bool) (i : Value) : Prop := ∃ k : Nat, k ≤ s.size ∧ i = .int .i64 k ∧ k + blankN m ((bytesN s).drop k) = E
set_option maxRecDepth 100000 in
set_option maxHeartbeats 1000000 in
theorem rblank_as (s : ByteArray) (y : Int) (p E : Nat) (hy : y = p) (hp : p ≤ s.size) (h : s.size ≤ 1048576) (hE : p + blankN false ((bytesN s).drop p) = E) (w : World) :
    Calls Tryd.prog 28 #[.string s, .int .i64 y] w fun e w' => e = .returned (.int .i64 (E : Int)) ∧ w = w' := by
  subst hy
  go_enter Tryd.func28, Tryd.ntmps28
  go_wp2
  go_loop [1] (fun i => BlankRel s E false i) (fun i => s.size - (intOf i).toNat)
  case atStart => exact ⟨p, hp, rfl, hE⟩
  case round =>
    obtain ⟨k, hk, rfl, hkE⟩ := hrel
    have HE : Hid (k + blankN false ((bytesN s).drop k) = E) := hkE
    clear hkE hE
    by_cases hlt : k < s.size
    · have hdrop := bytesN_drop s k hlt
      obtain ⟨c, hc⟩ : ∃ c, (s[k]'hlt).toNat = c := ⟨_, rfl⟩
      rw [hc] at hdrop
      have HD : Hid ((bytesN s).drop k = c :: (bytesN s).drop (k + 1)) := hdrop
      clear hdrop
      by_cases hr : hasB ((bytesN s).drop k) [47, 47] = true
      · have HR : Hid (hasB ((bytesN s).drop k) [47, 47] = true) := hr
        have HL : Hid (k + blankN true ((bytesN s).drop k) = E) := by unfold Hid; rw [← blank_start _ hr]; exact HE.out
        have HC : Hid (c ≠ 10) := by
          unfold Hid; intro q; subst q
          rw [HD.out] at hr; simp [hasB] at hr
        clear hr
        go_wp2_with fail
        refine (rhas_any s ⟨#[47, 47]⟩ k k rfl hk h (by decide) _).mono ?_
        rw [show bytesN ⟨#[47, 47]⟩ = [47, 47] from rfl, HR.out]
        rintro e wx ⟨rfl, rfl⟩
        go_wp2_with fail
        go_loop [1] (fun i => RemRel s E k i) (fun i => s.size - (intOf i).toNat)
        case atStart => exact ⟨k, by omega, by omega, rfl, HL.out⟩
        case round =>
          obtain ⟨j, hkj, hj, rfl, hjE⟩ := hrel
          have HJ : Hid (j + blankN true ((bytesN s).drop j) = E) := hjE
          clear hjE
          by_cases hlt2 : j < s.size
          · have hdrop := bytesN_drop s j hlt2
            obtain ⟨d, hd⟩ : ∃ d, (s[j]'hlt2).toNat = d := ⟨_, rfl⟩
            rw [hd] at hdrop
            have HD2 : Hid ((bytesN s).drop j = d :: (bytesN s).drop (j + 1)) := hdrop
            clear hdrop
            by_cases h10 : d = 10
            · have hne : k ≠ j := by
                intro q; subst q
                exact HC.out (by rw [← hc, hd]; exact h10)
              subst h10
              have HJ2 : Hid (j + blankN false ((bytesN s).drop j) = E) := by
                unfold Hid; rw [← HJ.out, HD2.out, blank_ten]
              go_wp2
              go_round
              case rel => exact ⟨j, by omega, by go_num, HJ2.out⟩
              case measure => simp [intOf]; omega
            · have hb : ((d : Int) != 10) = true := by simp; omega
              have HJ2 : Hid (j + 1 + blankN true ((bytesN s).drop (j + 1)) = E) := by
                unfold Hid; rw [← HJ.out, HD2.out, blank_rem]; simp [h10]; omega
              clear h10
              go_wp2
              go_round
              case rel => exact ⟨j + 1, by omega, by omega, by go_num, HJ2.out⟩
              case measure => simp [intOf]; omega
          · have hjs : j = s.size := by omega
            have HF : Hid (j + blankN false ((bytesN s).drop j) = E) := by
              unfold Hid; rw [← HJ.out, hjs, drop_size]; rfl
            have hne : k < j := by omega
            have hj0 : ¬ (j : Int) < (s.size : Int) := by omega
            clear HJ
            go_wp2
            go_round
            case rel => exact ⟨j, by omega, by go_num, HF.out⟩
            case measure => simp [intOf]; omega
      · have HR : Hid (hasB ((bytesN s).drop k) [47, 47] = false) := by simpa [Hid] using hr
        clear hr
        have HR2 : Hid (hasB (c :: (bytesN s).drop (k + 1)) [47, 47] = false) := by unfold Hid; rw [← HD.out]; exact HR.out
        by_cases hb : blankB c = true
        · have HE2 : Hid (k + 1 + blankN false ((bytesN s).drop (k + 1)) = E) := by
            unfold Hid; rw [← HE.out, HD.out, blank_step c _ HR2.out hb]; omega
          have hcs : c = 9 ∨ c = 10 ∨ c = 13 ∨ c = 32 := by simpa [blankB, or_assoc] using hb
          clear hb
          rcases hcs with rfl | rfl | rfl | rfl
          all_goals
            go_wp2_with fail
            refine (rhas_any s ⟨#[47, 47]⟩ k k rfl hk h (by decide) _).mono ?_
            rw [show bytesN ⟨#[47, 47]⟩ = [47, 47] from rfl, HR.out]
            rintro e wx ⟨rfl, rfl⟩
            go_wp2
            go_round
            case rel => exact ⟨k + 1, by omega, by go_num, HE2.out⟩
            case measure => simp [intOf]; omega
        · have hb' : blankB c = false := by simpa using hb
          have HF : Hid (k = E) := by unfold Hid; rw [← HE.out, HD.out, blank_stop c _ HR2.out hb']; rfl
          have hcs : ¬ c = 9 ∧ ¬ c = 10 ∧ ¬ c = 13 ∧ ¬ c = 32 := by simpa [blankB, and_assoc] using hb'
          have e1 : ((c : Int) != 9) = true := by simp; omega
          have e2 : ((c : Int) != 10) = true := by simp; omega
          have e3 : ((c : Int) != 13) = true := by simp; omega
          have e4 : ((c : Int) != 32) = true := by simp; omega
          clear hb hb' hcs
          go_wp2_with fail
          refine (rhas_any s ⟨#[47, 47]⟩ k k rfl hk h (by decide) _).mono ?_
          rw [show bytesN ⟨#[47, 47]⟩ = [47, 47] from rfl, HR.out]
          rintro e wx ⟨rfl, rfl⟩
          go_wp2
          go_ret
          exact ⟨ret_int (by rw [HF.out]), rfl⟩
    · have hks : k = s.size := by omega
      have HF : Hid (k = E) := by unfold Hid; rw [← HE.out, hks, drop_size]; rfl
      clear HE
      subst hks
      go_wp2
      go_ret
      exact ⟨ret_int (by rw [HF.out]), rfl⟩
end Go.Proofs.YteeoakbafbnkhaaDoor
