/-
  CONTRACT of the landed lex's skip: behind blanks and remarks.
-/
import Derived.Test.YteeoakbafbnkhaaDoorXLib
import Derived.Test.YteeoakbafbnkhaaDoorOne
namespace Go.Proofs.YteeoakbafbnkhaaDoor
open Go.RowKit
set_option linter.unusedVariables false

theorem runN_le (q : Nat → Bool) : ∀ l : List Nat, runN q l ≤ l.length
  | [] => Nat.le_refl _
  | c :: r => by
    by_cases h : q c = true
    · rw [runN_cons _ _ _ h, List.length_cons]; have := runN_le q r; omega
    · rw [runN_stop _ _ _ (by simpa using h)]; omega
theorem runN_next (q : Nat → Bool) : ∀ (l : List Nat) (c : Nat) (r : List Nat), l.drop (runN q l) = c :: r → q c = false
  | [], c, r, h => by simp [runN] at h
  | d :: t, c, r, h => by
    by_cases hd : q d = true
    · rw [runN_cons _ _ _ hd, Nat.add_comm, List.drop_succ_cons] at h
      exact runN_next q t c r h
    · rw [runN_stop _ _ _ (by simpa using hd), List.drop_zero] at h
      obtain ⟨rfl, _⟩ := List.cons.inj h
      simpa using hd
theorem has_head (c : Nat) (r : List Nat) (h : ¬ c = 47) : hasB (c :: r) [47, 47] = false := by
  unfold hasB
  simp only [decide_eq_false_iff_not]
  intro q
  simp at q
  exact h q.1
theorem blank_run : ∀ l : List Nat, blankN false l = runN blankB l + blankN false (l.drop (runN blankB l))
  | [] => rfl
  | c :: r => by
    by_cases h : blankB c = true
    · have h47 : ¬ c = 47 := by intro e; subst e; simp [blankB] at h
      rw [runN_cons _ _ _ h, Nat.add_comm 1, List.drop_succ_cons, blank_step c r (has_head c r h47) h, blank_run r]
      have := blank_run r
      omega
    · rw [runN_stop _ _ _ (by simpa using h), List.drop_zero]; omega
theorem blank_rest (l : List Nat) (h : hasB (l.drop (runN blankB l)) [47, 47] = false) : blankN false l = runN blankB l := by
  rw [blank_run]
  cases hd : l.drop (runN blankB l) with
  | nil => rfl
  | cons c r =>
    have hb := runN_next _ _ _ _ hd
    rw [hd] at h
    rw [blank_stop c r h hb]; rfl
theorem blank_tens : ∀ l : List Nat, blankN true l = tenN l + blankN false (l.drop (tenN l))
  | [] => rfl
  | c :: r => by
    unfold tenN
    by_cases h : c = 10
    · subst h
      rw [runN_stop _ _ _ (by decide), List.drop_zero, blank_ten]; omega
    · rw [runN_cons _ _ _ (by simpa using h), Nat.add_comm 1, List.drop_succ_cons, blank_rem]
      have := blank_tens r
      unfold tenN at this
      simp only [ne_eq, h, not_false_eq_true, decide_true]
      simp only [ne_eq] at this
      omega
theorem ten_pos (l : List Nat) (h : hasB l [47, 47] = true) : 1 ≤ tenN l := by
  unfold hasB at h
  simp only [decide_eq_true_eq] at h
  match l, h with
  | 47 :: 47 :: r, _ => unfold tenN; rw [runN_cons _ _ _ (by decide)]; omega

theorem isB0 : isB [0] = blankB := by funext c; simp [isB, kindB]
theorem isB1 : isB [1] = letterB := by funext c; simp [isB, kindB]
theorem isB2 : isB [2] = digitB := by funext c; simp [isB, kindB]
theorem isB4 : isB [4] = endsB := by funext c; simp [isB, kindB]
theorem isB12 : isB [1, 2] = wordB := by funext c; simp [isB, kindB, wordB]
theorem kinds1 (w : World) (k : Nat) (hk : k < 5) (v : Int) (hv : v = k) (t : TypeId) : KindsAt (w.alloc (.cells #[.int .u8 v] t)) w.heap.size [k] := by
  subst hv
  refine ⟨?_, by simpa using hk⟩
  intro i hi
  match i, hi with
  | 0, _ => exact cell_of_row _ _ 0 _ _ _ (heap_alloc_new _ _)
theorem kinds2 (w : World) (k j : Nat) (hk : k < 5) (hj : j < 5) (v u : Int) (hv : v = k) (hu : u = j) (t : TypeId) : KindsAt (w.alloc (.cells #[.int .u8 v, .int .u8 u] t)) w.heap.size [k, j] := by
  subst hv; subst hu
  refine ⟨?_, by simp; omega⟩
  intro i hi
  match i, hi with
  | 0, _ => exact cell_of_row _ _ 0 _ _ _ (heap_alloc_new _ _)
  | 1, _ => exact cell_of_row _ _ 1 _ _ _ (heap_alloc_new _ _)
theorem tail_bytes (s : ByteArray) (k : Nat) (hk : k ≤ s.size) : bytesN (s.extract k s.size) = (bytesN s).drop k := by
  rw [bytesN_extract]
  exact List.take_of_length_le (by rw [List.length_drop, bytesN_length]; exact Nat.le_refl _)
theorem tail_size (s : ByteArray) (k : Nat) (hk : k ≤ s.size) : (s.extract k s.size).size = s.size - k := by
  rw [← bytesN_length, tail_bytes s k hk, List.length_drop, bytesN_length]

def SkipRel (s : ByteArray) (w : World) (E : Nat) (i : Value) (wr : World) : Prop := ∃ k : Nat, k ≤ s.size ∧ i = .int .i64 k ∧ k + blankN false ((bytesN s).drop k) = E ∧ Below w.heap.size w wr
set_option maxRecDepth 100000 in
set_option maxHeartbeats 1000000 in
theorem xskip_as (s : ByteArray) (y : Int) (p E : Nat) (hy : y = p) (hp : p ≤ s.size) (h : s.size ≤ 1048576) (hE : p + blankN false ((bytesN s).drop p) = E) (w : World) :
    Calls Tryd.prog 39 #[.string s, .int .i64 y] w fun e w' => e = .returned (.int .i64 (E : Int)) ∧ Below w.heap.size w w' := by
  subst hy
  have HE0 : Hid (p + blankN false ((bytesN s).drop p) = E) := hE
  clear hE
  go_enter Tryd.func39, Tryd.ntmps39
  go_wp2_with fail
  go_loopw [1] (fun i wr => SkipRel s w E i wr) (fun i _ => s.size - (intOf i).toNat)
  case atStart => exact ⟨p, hp, rfl, HE0.out, Below.refl _ _⟩
  case round =>
    obtain ⟨k, hk, rfl, hkE, hbel⟩ := hrel
    have HE : Hid (k + blankN false ((bytesN s).drop k) = E) := hkE
    have BL : Hid (Below w.heap.size w wr) := hbel
    have hbw : w.heap.size ≤ wr.heap.size := hbel.size
    obtain ⟨K, hK⟩ : ∃ K, Hid (k + runN blankB ((bytesN s).drop k) = K) := ⟨_, rfl⟩
    have hKs : k ≤ K ∧ K ≤ s.size := by
      have := runN_le blankB ((bytesN s).drop k)
      rw [List.length_drop, bytesN_length] at this
      rw [← hK.out]; omega
    have hdd : ((bytesN s).drop k).drop (runN blankB ((bytesN s).drop k)) = (bytesN s).drop K := by rw [List.drop_drop, hK.out]
    have HDD : Hid (((bytesN s).drop k).drop (runN blankB ((bytesN s).drop k)) = (bytesN s).drop K) := hdd
    have hts := tail_size s K hKs.2
    obtain ⟨t, ht⟩ : ∃ t, Hid (s.extract K s.size = t) := ⟨_, rfl⟩
    rw [ht.out] at hts
    have HTB : Hid (bytesN t = (bytesN s).drop K) := by unfold Hid; rw [← ht.out]; exact tail_bytes s K hKs.2
    have hext : s.extract K s.size = t := ht.out
    have hts2 : t.size ≤ 1048576 := by omega
    have HTS : Hid (t.size = s.size - K) := hts
    clear hkE hbel hdd hts
    by_cases hr : hasB ((bytesN s).drop K) [47, 47] = true
    · have HR : Hid (hasB ((bytesN s).drop K) [47, 47] = true) := hr
      have HE2 : Hid (K + tenN ((bytesN s).drop K) + blankN false ((bytesN s).drop (K + tenN ((bytesN s).drop K))) = E) := by
        unfold Hid
        rw [← HE.out, blank_run ((bytesN s).drop k), HDD.out, blank_start _ hr, blank_tens ((bytesN s).drop K), List.drop_drop, ← hK.out]; omega
      obtain ⟨m, hm⟩ : ∃ m, Hid (tenN ((bytesN s).drop K) = m) := ⟨_, rfl⟩
      have hm1 : 1 ≤ m := by rw [← hm.out]; exact ten_pos _ hr
      have hml : m ≤ s.size - K := by
        have := runN_le (fun d => decide (d ≠ 10)) ((bytesN s).drop K)
        rw [List.length_drop, bytesN_length] at this
        rw [← hm.out]; exact this
      rw [hm.out] at HE2
      clear hr
      by_cases hin : m < s.size - K
      · have HV : Hid ((if tenN (bytesN t) < (bytesN t).length then (tenN (bytesN t) : Int) else -1) = (m : Int)) := by
          unfold Hid; rw [HTB.out, hm.out, List.length_drop, bytesN_length, if_pos hin]
        go_wp2_with fail
        refine (xpast_any s k k K [0] wr.heap.size 1 _ rfl hk h rfl (by omega) (by rw [isB0]; exact hK.out) (kinds1 wr 0 (by omega) 0 rfl _)).mono ?_
        rintro e wx ⟨rfl, rfl⟩
        go_wp2_with fail
        refine (xpre_any t ⟨#[47, 47]⟩ hts2 (by decide) _).mono ?_
        rw [HTB.out, show bytesN ⟨#[47, 47]⟩ = [47, 47] from rfl, HR.out]
        rintro e wx ⟨rfl, rfl⟩
        go_wp2_with fail
        refine (xindex_as t (m : Int) HV.out _).mono ?_
        rintro e wx ⟨rfl, rfl⟩
        go_wp2
        go_roundw
        case rel => exact ⟨K + m, by omega, by go_num, HE2.out, BL.out.alloc hbw _⟩
        case measure => simp [intOf]; omega
      · have hme : m = s.size - K := by omega
        have HV : Hid ((if tenN (bytesN t) < (bytesN t).length then (tenN (bytesN t) : Int) else -1) = -1) := by
          unfold Hid; rw [HTB.out, hm.out, List.length_drop, bytesN_length, if_neg hin]
        have HF : Hid (s.size = E) := by
          unfold Hid; rw [← HE2.out, hme, show K + (s.size - K) = s.size by omega, drop_size]; rfl
        go_wp2_with fail
        refine (xpast_any s k k K [0] wr.heap.size 1 _ rfl hk h rfl (by omega) (by rw [isB0]; exact hK.out) (kinds1 wr 0 (by omega) 0 rfl _)).mono ?_
        rintro e wx ⟨rfl, rfl⟩
        go_wp2_with fail
        refine (xpre_any t ⟨#[47, 47]⟩ hts2 (by decide) _).mono ?_
        rw [HTB.out, show bytesN ⟨#[47, 47]⟩ = [47, 47] from rfl, HR.out]
        rintro e wx ⟨rfl, rfl⟩
        go_wp2_with fail
        refine (xindex_as t (-1) HV.out _).mono ?_
        rintro e wx ⟨rfl, rfl⟩
        go_wp2
        go_ret
        exact ⟨ret_int (by rw [HF.out]), BL.out.alloc hbw _⟩
    · have HR : Hid (hasB ((bytesN s).drop K) [47, 47] = false) := by simpa [Hid] using hr
      have HF : Hid (K = E) := by
        unfold Hid; rw [← HE.out, blank_rest _ (by rw [HDD.out]; exact HR.out), hK.out]
      clear hr
      go_wp2_with fail
      refine (xpast_any s k k K [0] wr.heap.size 1 _ rfl hk h rfl (by omega) (by rw [isB0]; exact hK.out) (kinds1 wr 0 (by omega) 0 rfl _)).mono ?_
      rintro e wx ⟨rfl, rfl⟩
      go_wp2_with fail
      refine (xpre_any t ⟨#[47, 47]⟩ hts2 (by decide) _).mono ?_
      rw [HTB.out, show bytesN ⟨#[47, 47]⟩ = [47, 47] from rfl, HR.out]
      rintro e wx ⟨rfl, rfl⟩
      go_wp2
      go_ret
      exact ⟨ret_int (by rw [HF.out]), BL.out.alloc hbw _⟩
end Go.Proofs.YteeoakbafbnkhaaDoor
