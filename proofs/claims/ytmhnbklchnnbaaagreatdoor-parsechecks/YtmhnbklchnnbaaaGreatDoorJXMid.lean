import Derived.Test.YtmhnbklchnnbaaaGreatDoorJXLow
import Derived.Test.YtmhnbklchnnbaaaGreatDoorQ4
import Derived.Test.YtmhnbklchnnbaaaGreatDoorJLow
set_option maxHeartbeats 2000000
set_option maxRecDepth 100000
namespace Go.Proofs.YtmhnbklchnnbaaaGreatDoor
open Go.RowKit
set_option linter.unusedVariables false
theorem runN_le (q : Nat → Bool) : ∀ l : List Nat, runN q l ≤ l.length
  | [] => Nat.le_refl _
  | c :: r => by
    by_cases h : q c = true
    · rw [runN_cons _ _ _ h, List.length_cons]; have := runN_le q r; omega
    · rw [runN_stop _ _ _ (by simpa using h)]; omega
theorem runN_next (q : Nat → Bool) : ∀ (l : List Nat) (c : Nat) (r : List Nat), l.drop (runN q l) = c :: r → q c = false
  | [], c, r, h => by simp [runN] at h
  | d :: t, c, r, h => by
    by_cases hd : q d = true
    · rw [runN_cons _ _ _ hd, Nat.add_comm, List.drop_succ_cons] at h
      exact runN_next q t c r h
    · rw [runN_stop _ _ _ (by simpa using hd), List.drop_zero] at h
      obtain ⟨rfl, _⟩ := List.cons.inj h
      simpa using hd
theorem has_head (c : Nat) (r : List Nat) (h : ¬ c = 47) : hasB (c :: r) [47, 47] = false := by
  unfold hasB
  simp only [decide_eq_false_iff_not]
  intro q
  simp at q
  exact h q.1
theorem blank_run : ∀ l : List Nat, blankN false l = runN blankB l + blankN false (l.drop (runN blankB l))
  | [] => rfl
  | c :: r => by
    by_cases h : blankB c = true
    · have h47 : ¬ c = 47 := by intro e; subst e; simp [blankB] at h
      rw [runN_cons _ _ _ h, Nat.add_comm 1, List.drop_succ_cons, blank_step c r (has_head c r h47) h, blank_run r]
      have := blank_run r
      omega
    · rw [runN_stop _ _ _ (by simpa using h), List.drop_zero]; omega
theorem blank_rest (l : List Nat) (h : hasB (l.drop (runN blankB l)) [47, 47] = false) : blankN false l = runN blankB l := by
  rw [blank_run]
  cases hd : l.drop (runN blankB l) with
  | nil => rfl
  | cons c r =>
    have hb := runN_next _ _ _ _ hd
    rw [hd] at h
    rw [blank_stop c r h hb]; rfl
theorem blank_tens : ∀ l : List Nat, blankN true l = tenN l + blankN false (l.drop (tenN l))
  | [] => rfl
  | c :: r => by
    unfold tenN
    by_cases h : c = 10
    · subst h
      rw [runN_stop _ _ _ (by decide), List.drop_zero, blank_ten]; omega
    · rw [runN_cons _ _ _ (by simpa using h), Nat.add_comm 1, List.drop_succ_cons, blank_rem]
      have := blank_tens r
      unfold tenN at this
      simp only [ne_eq, h, not_false_eq_true, decide_true]
      simp only [ne_eq] at this
      omega
theorem ten_pos (l : List Nat) (h : hasB l [47, 47] = true) : 1 ≤ tenN l := by
  unfold hasB at h
  simp only [decide_eq_true_eq] at h
  match l, h with
  | 47 :: 47 :: r, _ => unfold tenN; rw [runN_cons _ _ _ (by decide)]; omega
theorem isB0 : isB [0] = blankB := by funext c; simp [isB, kindB]
theorem isB1 : isB [1] = letterB := by funext c; simp [isB, kindB]
theorem isB2 : isB [2] = digitB := by funext c; simp [isB, kindB]
theorem isB4 : isB [4] = endsB := by funext c; simp [isB, kindB]
theorem isB12 : isB [1, 2] = wordB := by funext c; simp [isB, kindB, wordB]
theorem kinds1 (w : World) (k : Nat) (hk : k < 5) (v : Int) (hv : v = k) (t : TypeId) : KindsAt (w.alloc (.cells #[.int .u8 v] t)) w.heap.size [k] := by
  subst hv
  refine ⟨?_, by simpa using hk⟩
  intro i hi
  match i, hi with
  | 0, _ => exact cell_of_row _ _ 0 _ _ _ (heap_alloc_new _ _)
theorem kinds2 (w : World) (k j : Nat) (hk : k < 5) (hj : j < 5) (v u : Int) (hv : v = k) (hu : u = j) (t : TypeId) : KindsAt (w.alloc (.cells #[.int .u8 v, .int .u8 u] t)) w.heap.size [k, j] := by
  subst hv; subst hu
  refine ⟨?_, by simp; omega⟩
  intro i hi
  match i, hi with
  | 0, _ => exact cell_of_row _ _ 0 _ _ _ (heap_alloc_new _ _)
  | 1, _ => exact cell_of_row _ _ 1 _ _ _ (heap_alloc_new _ _)
theorem tail_bytes (s : ByteArray) (k : Nat) (hk : k ≤ s.size) : bytesN (s.extract k s.size) = (bytesN s).drop k := by
  rw [bytesN_extract]
  exact List.take_of_length_le (by rw [List.length_drop, bytesN_length]; exact Nat.le_refl _)
theorem tail_size (s : ByteArray) (k : Nat) (hk : k ≤ s.size) : (s.extract k s.size).size = s.size - k := by
  rw [← bytesN_length, tail_bytes s k hk, List.length_drop, bytesN_length]
def SkipRel (s : ByteArray) (w : World) (E : Nat) (i : Value) (wr : World) : Prop := ∃ k : Nat, k ≤ s.size ∧ i = .int .i64 k ∧ k + blankN false ((bytesN s).drop k) = E ∧ Below w.heap.size w wr
theorem xskip_as (s : ByteArray) (y : Int) (p E : Nat) (hy : y = p) (hp : p ≤ s.size) (h : s.size ≤ 1048576) (hE : p + blankN false ((bytesN s).drop p) = E) (w : World) :
    Calls Tryz.prog 75 #[.string s, .int .i64 y] w fun e w' => e = .returned (.int .i64 (E : Int)) ∧ Below w.heap.size w w' := by
  subst hy
  have HE0 : Hid (p + blankN false ((bytesN s).drop p) = E) := hE
  clear hE
  go_enter Tryz.func75, Tryz.ntmps75
  go_wp2_with fail
  go_loopw [1] (fun i wr => SkipRel s w E i wr) (fun i _ => s.size - (intOf i).toNat)
  case atStart => exact ⟨p, hp, rfl, HE0.out, Below.refl _ _⟩
  case round =>
    obtain ⟨k, hk, rfl, hkE, hbel⟩ := hrel
    have HE : Hid (k + blankN false ((bytesN s).drop k) = E) := hkE
    have BL : Hid (Below w.heap.size w wr) := hbel
    have hbw : w.heap.size ≤ wr.heap.size := hbel.size
    obtain ⟨K, hK⟩ : ∃ K, Hid (k + runN blankB ((bytesN s).drop k) = K) := ⟨_, rfl⟩
    have hKs : k ≤ K ∧ K ≤ s.size := by
      have := runN_le blankB ((bytesN s).drop k)
      rw [List.length_drop, bytesN_length] at this
      rw [← hK.out]; omega
    have hdd : ((bytesN s).drop k).drop (runN blankB ((bytesN s).drop k)) = (bytesN s).drop K := by rw [List.drop_drop, hK.out]
    have HDD : Hid (((bytesN s).drop k).drop (runN blankB ((bytesN s).drop k)) = (bytesN s).drop K) := hdd
    have hts := tail_size s K hKs.2
    obtain ⟨t, ht⟩ : ∃ t, Hid (s.extract K s.size = t) := ⟨_, rfl⟩
    rw [ht.out] at hts
    have HTB : Hid (bytesN t = (bytesN s).drop K) := by unfold Hid; rw [← ht.out]; exact tail_bytes s K hKs.2
    have hext : s.extract K s.size = t := ht.out
    have hts2 : t.size ≤ 1048576 := by omega
    have HTS : Hid (t.size = s.size - K) := hts
    clear hkE hbel hdd hts
    by_cases hr : hasB ((bytesN s).drop K) [47, 47] = true
    · have HR : Hid (hasB ((bytesN s).drop K) [47, 47] = true) := hr
      have HE2 : Hid (K + tenN ((bytesN s).drop K) + blankN false ((bytesN s).drop (K + tenN ((bytesN s).drop K))) = E) := by
        unfold Hid
        rw [← HE.out, blank_run ((bytesN s).drop k), HDD.out, blank_start _ hr, blank_tens ((bytesN s).drop K), List.drop_drop, ← hK.out]; omega
      obtain ⟨m, hm⟩ : ∃ m, Hid (tenN ((bytesN s).drop K) = m) := ⟨_, rfl⟩
      have hm1 : 1 ≤ m := by rw [← hm.out]; exact ten_pos _ hr
      have hml : m ≤ s.size - K := by
        have := runN_le (fun d => decide (d ≠ 10)) ((bytesN s).drop K)
        rw [List.length_drop, bytesN_length] at this
        rw [← hm.out]; exact this
      rw [hm.out] at HE2
      clear hr
      by_cases hin : m < s.size - K
      · have HV : Hid ((if tenN (bytesN t) < (bytesN t).length then (tenN (bytesN t) : Int) else -1) = (m : Int)) := by
          unfold Hid; rw [HTB.out, hm.out, List.length_drop, bytesN_length, if_pos hin]
        go_wp2_with fail
        refine (xpast_any s k k K [0] wr.heap.size 1 _ rfl hk h rfl (by omega) (by rw [isB0]; exact hK.out) (kinds1 wr 0 (by omega) 0 rfl _)).mono ?_
        rintro e wx ⟨rfl, rfl⟩
        go_wp2_with fail
        refine (xpre_any t ⟨#[47, 47]⟩ hts2 (by decide) _).mono ?_
        rw [HTB.out, show bytesN ⟨#[47, 47]⟩ = [47, 47] from rfl, HR.out]
        rintro e wx ⟨rfl, rfl⟩
        go_wp2_with fail
        refine (xindex_as t (m : Int) HV.out _).mono ?_
        rintro e wx ⟨rfl, rfl⟩
        go_wp2
        go_roundw
        case rel => exact ⟨K + m, by omega, by go_num, HE2.out, BL.out.alloc hbw _⟩
        case measure => simp [intOf]; omega
      · have hme : m = s.size - K := by omega
        have HV : Hid ((if tenN (bytesN t) < (bytesN t).length then (tenN (bytesN t) : Int) else -1) = -1) := by
          unfold Hid; rw [HTB.out, hm.out, List.length_drop, bytesN_length, if_neg hin]
        have HF : Hid (s.size = E) := by
          unfold Hid; rw [← HE2.out, hme, show K + (s.size - K) = s.size by omega, drop_size]; rfl
        go_wp2_with fail
        refine (xpast_any s k k K [0] wr.heap.size 1 _ rfl hk h rfl (by omega) (by rw [isB0]; exact hK.out) (kinds1 wr 0 (by omega) 0 rfl _)).mono ?_
        rintro e wx ⟨rfl, rfl⟩
        go_wp2_with fail
        refine (xpre_any t ⟨#[47, 47]⟩ hts2 (by decide) _).mono ?_
        rw [HTB.out, show bytesN ⟨#[47, 47]⟩ = [47, 47] from rfl, HR.out]
        rintro e wx ⟨rfl, rfl⟩
        go_wp2_with fail
        refine (xindex_as t (-1) HV.out _).mono ?_
        rintro e wx ⟨rfl, rfl⟩
        go_wp2
        go_ret
        exact ⟨ret_int (by rw [HF.out]), BL.out.alloc hbw _⟩
    · have HR : Hid (hasB ((bytesN s).drop K) [47, 47] = false) := by simpa [Hid] using hr
      have HF : Hid (K = E) := by
        unfold Hid; rw [← HE.out, blank_rest _ (by rw [HDD.out]; exact HR.out), hK.out]
      clear hr
      go_wp2_with fail
      refine (xpast_any s k k K [0] wr.heap.size 1 _ rfl hk h rfl (by omega) (by rw [isB0]; exact hK.out) (kinds1 wr 0 (by omega) 0 rfl _)).mono ?_
      rintro e wx ⟨rfl, rfl⟩
      go_wp2_with fail
      refine (xpre_any t ⟨#[47, 47]⟩ hts2 (by decide) _).mono ?_
      rw [HTB.out, show bytesN ⟨#[47, 47]⟩ = [47, 47] from rfl, HR.out]
      rintro e wx ⟨rfl, rfl⟩
      go_wp2
      go_ret
      exact ⟨ret_int (by rw [HF.out]), BL.out.alloc hbw _⟩
theorem isB23 (c : Nat) : isB [2, 3] c = decide (¬ hexN c = 16) := by
  rw [Bool.eq_iff_iff]
  simp only [isB, List.any_cons, List.any_nil, Bool.or_false, Bool.or_eq_true, decide_eq_true_eq]
  constructor
  · rintro (h | h)
    · have : 48 ≤ c ∧ c ≤ 57 := by simpa [kindB, digitB] using h
      unfold hexN; rw [if_pos (by simpa [digitB] using this)]; omega
    · have : (97 ≤ c ∧ c ≤ 102) ∨ (65 ≤ c ∧ c ≤ 70) := by simpa [kindB, hexL] using h
      unfold hexN
      rw [if_neg (by simp [digitB]; omega)]
      rcases this with h | h
      · rw [if_pos h]; omega
      · rw [if_neg (by omega), if_pos h]; omega
  · intro h
    rcases hex_cases c h with ⟨h1, h2, _⟩ | ⟨h1, h2, _⟩ | ⟨h1, h2, _⟩
    · exact .inl (by simp [kindB, digitB]; omega)
    · exact .inr (by simp [kindB, hexL]; omega)
    · exact .inr (by simp [kindB, hexL]; omega)
theorem xbo_out (s : ByteArray) (x : Int) (k : Nat) (hx : x = k) (hk : s.size ≤ k) (h : s.size ≤ 1048576) (w : World) :
    Calls Tryz.prog 117 #[.string s, .int .i64 x] w fun e w' => e = .returned (.bool true) ∧ w = w' := by
  subst hx
  go_enter Tryz.func117, Tryz.ntmps117
  go_wp2
  go_ret
  exact ⟨rfl, rfl⟩
theorem xbo_in (s : ByteArray) (x : Int) (k c : Nat) (hx : x = k) (hk : k < s.size) (hc : (s[k]'hk).toNat = c) (h : s.size ≤ 1048576) (b : Bool) (hb : endsB c = b) (w : World) :
    Calls Tryz.prog 117 #[.string s, .int .i64 x] w fun e w' => e = .returned (.bool b) ∧ Below w.heap.size w w' := by
  subst hx
  have HB : Hid (endsB c = b) := hb
  clear hb
  go_enter Tryz.func117, Tryz.ntmps117
  go_wp2_with fail
  refine (xis_any [4] w.heap.size 1 c _ rfl (by omega) b (by rw [isB4]; exact HB.out) (kinds1 w 4 (by omega) 4 rfl _)).mono ?_
  rintro e wx ⟨rfl, rfl⟩
  go_wp2
  go_ret
  exact ⟨ret_bool (by rw [decide_eq_false (by omega)]; rfl), (Below.refl _ _).alloc (Nat.le_refl _) _⟩
def pairR : Nat → Nat → List Nat → Nat × Nat × Nat
  | 0, acc, _ => (acc, 4, 0)
  | _ + 1, _, [] => (0, 0, 31)
  | n + 1, acc, c :: r => if endsB c then (0, 0, 31) else if hexN c = 16 then (0, 0, 32) else pairR n (16 * acc + hexN c) r
theorem pair_ends (n a c : Nat) (r : List Nat) (h : endsB c = true) : pairR (n + 1) a (c :: r) = (0, 0, 31) := by rw [pairR, if_pos h]
theorem pair_bad (n a c : Nat) (r : List Nat) (h : endsB c = false) (h2 : hexN c = 16) : pairR (n + 1) a (c :: r) = (0, 0, 32) := by rw [pairR, if_neg (by simp [h]), if_pos h2]
theorem pair_ok (n a c : Nat) (r : List Nat) (h : endsB c = false) (h2 : ¬ hexN c = 16) : pairR (n + 1) a (c :: r) = pairR n (16 * a + hexN c) r := by rw [pairR, if_neg (by simp [h]), if_neg h2]
def PairRel (s : ByteArray) (w : World) (q : Nat) (R : Nat × Nat × Nat) (i : Value) (wr : World) : Prop :=
  Below w.heap.size w wr ∧ ∃ (n acc k : Nat), n + k = 2 ∧ q + k ≤ s.size + 2 ∧ i = .int .i64 ((q : Int) + k) ∧ pairR n acc ((bytesN s).drop (q + k)) = R ∧
    (k = 0 → acc = 0) ∧ (k = 1 → ∃ d, (bytesN s)[q]? = some d ∧ ¬ hexN d = 16 ∧ acc = hexN d) ∧ (k = 2 → ∃ d e, (bytesN s)[q]? = some d ∧ (bytesN s)[q + 1]? = some e ∧ ¬ hexN d = 16 ∧ ¬ hexN e = 16 ∧ acc = 16 * hexN d + hexN e)
theorem xpair_as (s : ByteArray) (y : Int) (q B K X : Nat) (hy : y = q) (hq : q ≤ s.size) (h : s.size ≤ 1048576) (hR : pairR 2 0 ((bytesN s).drop q) = (B, K, X)) (w : World) :
    Calls Tryz.prog 118 #[.string s, .int .i64 y] w fun e w' => e = .returned (.tuple #[.int .u8 (B : Int), .int .i64 (K : Int), .int .i64 (X : Int)]) ∧ Below w.heap.size w w' := by
  subst hy
  have HR0 : Hid (pairR 2 0 ((bytesN s).drop q) = (B, K, X)) := hR
  clear hR
  go_enter Tryz.func118, Tryz.ntmps118
  go_wp2_with fail
  go_loopw [7] (fun i wr => PairRel s w q (B, K, X) i wr) (fun i _ => q + 2 - (intOf i).toNat)
  case atStart => exact ⟨Below.refl _ _, 2, 0, 0, rfl, by omega, by simp, by rw [Nat.add_zero]; exact HR0.out, fun _ => rfl, fun e => by omega, fun e => by omega⟩
  case round =>
    obtain ⟨hbel, n, acc, k, hnk, hqk, rfl, hR, hk0, hk1, hk2⟩ := hrel
    have BL : Hid (Below w.heap.size w wr) := hbel
    have hbw : w.heap.size ≤ wr.heap.size := hbel.size
    have HR : Hid (pairR n acc ((bytesN s).drop (q + k)) = (B, K, X)) := hR
    have H0 : Hid (k = 0 → acc = 0) := hk0
    have H1 : Hid (k = 1 → ∃ d, (bytesN s)[q]? = some d ∧ ¬ hexN d = 16 ∧ acc = hexN d) := hk1
    have H2 : Hid (k = 2 → ∃ d e, (bytesN s)[q]? = some d ∧ (bytesN s)[q + 1]? = some e ∧ ¬ hexN d = 16 ∧ ¬ hexN e = 16 ∧ acc = 16 * hexN d + hexN e) := hk2
    clear hbel hR hk0 hk1 hk2 HR0
    obtain ⟨j, hj⟩ : ∃ j, q + k = j := ⟨_, rfl⟩
    have hji : ((q : Int) + (k : Int)) = (j : Int) := by omega
    rw [hj] at HR
    rw [hji]
    by_cases hlt : k < 2
    · have hj2 : (j : Int) < (q : Int) + 2 := by omega
      obtain ⟨m, rfl⟩ : ∃ m, n = m + 1 := ⟨n - 1, by omega⟩
      by_cases hin : j < s.size
      · have hdrop := bytesN_drop s j hin
        obtain ⟨c, hc⟩ : ∃ c, (s[j]'hin).toNat = c := ⟨_, rfl⟩
        rw [hc] at hdrop
        have hget := bytesN_get s j hin
        rw [hc] at hget
        have HG : Hid ((bytesN s)[j]? = some c) := hget
        rw [hdrop] at HR
        clear hdrop hget
        by_cases he : endsB c = true
        · have HE : Hid (endsB c = true) := he
          have HF : Hid ((0, 0, 31) = (B, K, X)) := by unfold Hid; rw [← HR.out, pair_ends _ _ _ _ he]
          clear he
          obtain ⟨rfl, h2⟩ := Prod.mk.inj HF.out
          obtain ⟨rfl, rfl⟩ := Prod.mk.inj h2
          clear h2 HF HR
          go_wp2_with fail
          refine (xbo_in s j j c rfl hin hc h true HE.out _).mono ?_
          rintro e w2 ⟨rfl, hb2⟩
          have HB2 : Hid (Below w.heap.size w w2) := below_chain BL.out hb2 (Nat.le_refl _)
          clear hb2
          go_wp2
          go_ret3
          exact ⟨rfl, HB2.out⟩
        · have HE : Hid (endsB c = false) := by simpa [Hid] using he
          clear he
          by_cases hx : hexN c = 16
          · have HX : Hid (isB [2, 3] c = false) := by unfold Hid; rw [isB23]; simp [hx]
            have HF : Hid ((0, 0, 32) = (B, K, X)) := by unfold Hid; rw [← HR.out, pair_bad _ _ _ _ HE.out hx]
            obtain ⟨rfl, h2⟩ := Prod.mk.inj HF.out
            obtain ⟨rfl, rfl⟩ := Prod.mk.inj h2
            clear h2 HF HR hx
            go_wp2_with fail
            refine (xbo_in s j j c rfl hin hc h false HE.out _).mono ?_
            rintro e w2 ⟨rfl, hb2⟩
            have HB2 : Hid (Below w.heap.size w w2) := below_chain BL.out hb2 (Nat.le_refl _)
            clear hb2
            go_wp2_with fail
            refine (xis_any [2, 3] w2.heap.size 2 c _ rfl (by omega) false HX.out (kinds2 w2 2 3 (by omega) (by omega) 2 3 rfl rfl _)).mono ?_
            rintro e wx ⟨rfl, rfl⟩
            go_wp2
            go_ret3
            exact ⟨rfl, HB2.out.alloc HB2.out.size _⟩
          · have HX : Hid (isB [2, 3] c = true) := by unfold Hid; rw [isB23]; simp [hx]
            have HF : Hid (pairR m (16 * acc + hexN c) ((bytesN s).drop (j + 1)) = (B, K, X)) := by unfold Hid; rw [← HR.out, pair_ok _ _ _ _ HE.out hx]
            have HXX : Hid (¬ hexN c = 16) := hx
            clear hx HR
            go_wp2_with fail
            refine (xbo_in s j j c rfl hin hc h false HE.out _).mono ?_
            rintro e w2 ⟨rfl, hb2⟩
            have HB2 : Hid (Below w.heap.size w w2) := below_chain BL.out hb2 (Nat.le_refl _)
            clear hb2
            go_wp2_with fail
            refine (xis_any [2, 3] w2.heap.size 2 c _ rfl (by omega) true HX.out (kinds2 w2 2 3 (by omega) (by omega) 2 3 rfl rfl _)).mono ?_
            rintro e wx ⟨rfl, rfl⟩
            go_wp2
            go_roundw
            case rel =>
              refine ⟨HB2.out.alloc HB2.out.size _, m, 16 * acc + hexN c, k + 1, by omega, by omega, by congr 1; omega, by rw [← Nat.add_assoc, hj]; exact HF.out, fun e => by omega, fun e => ?_, fun e => ?_⟩
              · have k0 : k = 0 := by omega
                have hq0 : q = j := by omega
                exact ⟨c, by rw [hq0]; exact HG.out, HXX.out, by rw [H0.out k0]; omega⟩
              · have k1 : k = 1 := by omega
                obtain ⟨d, g1, g2, g3⟩ := H1.out k1
                have hq1 : q + 1 = j := by omega
                exact ⟨d, c, g1, by rw [hq1]; exact HG.out, g2, HXX.out, by rw [g3]⟩
            case measure => simp [intOf]; omega
      · have HF : Hid ((0, 0, 31) = (B, K, X)) := by
          unfold Hid; rw [← HR.out, List.drop_eq_nil_of_le (by rw [bytesN_length]; omega)]; rfl
        obtain ⟨rfl, h2⟩ := Prod.mk.inj HF.out
        obtain ⟨rfl, rfl⟩ := Prod.mk.inj h2
        clear h2 HF HR
        go_wp2_with fail
        refine (xbo_out s j j rfl (by omega) h _).mono ?_
        rintro e w2 ⟨rfl, rfl⟩
        go_wp2
        go_ret3
        exact ⟨rfl, BL.out⟩
    · have hk2 : k = 2 := by omega
      have hn0 : n = 0 := by omega
      obtain ⟨d, e, g1, g2, g3, g4, g5⟩ := H2.out hk2
      subst hk2
      subst hn0
      have hq2 : q + 2 ≤ s.size := by
        have := (List.getElem?_eq_some_iff.1 g2).1
        rw [bytesN_length] at this; omega
      have HF : Hid ((acc, 4, 0) = (B, K, X)) := HR.out
      obtain ⟨rfl, h2⟩ := Prod.mk.inj HF.out
      obtain ⟨rfl, rfl⟩ := Prod.mk.inj h2
      have hd15 : hexN d ≤ 15 := by have := hexN_le d; omega
      have he15 : hexN e ≤ 15 := by have := hexN_le e; omega
      have hacc : acc ≤ 255 := by omega
      have G5 : Hid (16 * hexN d + hexN e = acc) := g5.symm
      obtain ⟨t, ht⟩ : ∃ t, Hid (s.extract q (q + 2) = t) := ⟨_, rfl⟩
      have HT : Hid (bytesN t = [d, e]) := by
        unfold Hid; rw [← ht.out, bytesN_extract, show q + 2 - q = 2 by omega]
        obtain ⟨p1, q1⟩ := List.getElem?_eq_some_iff.1 g1
        obtain ⟨p2, q2⟩ := List.getElem?_eq_some_iff.1 g2
        rw [List.drop_eq_getElem_cons p1, q1, List.drop_eq_getElem_cons p2, q2]; rfl
      have hext : s.extract q (q + 2) = t := ht.out
      have hj2 : ¬ (j : Int) < (q : Int) + 2 := by omega
      have G3 : Hid (¬ hexN d = 16) := g3
      have G4 : Hid (¬ hexN e = 16) := g4
      clear h2 HF HR g1 g2 g3 g4 g5 hd15 he15 H0 H1 H2 hj hji
      go_wp2_with fail
      refine (xhex_as t d e HT.out G3.out G4.out acc G5.out _).mono ?_
      rintro e w2 ⟨rfl, hb2⟩
      have HB2 : Hid (Below w.heap.size w w2) := below_chain BL.out hb2 (Nat.le_refl _)
      clear hb2
      go_wp2
      go_ret3
      exact ⟨ret3' (by first | rfl | simp) rfl rfl, HB2.out⟩
theorem esc_pair (r : List Nat) : escR (120 :: r) = pairR 2 0 r := by
  match r with
  | [] => rfl
  | d :: r1 =>
    by_cases h : endsB d = true
    · rw [esc_x1 d r1 h, pair_ends _ _ _ _ h]
    · have h' : endsB d = false := by simpa using h
      by_cases hd : hexN d = 16
      · rw [esc_x2 d r1 h' hd, pair_bad _ _ _ _ h' hd]
      · rw [pair_ok _ _ _ _ h' hd]
        match r1 with
        | [] => rw [esc_x3 d h' hd]; rfl
        | e :: r2 =>
          by_cases he : endsB e = true
          · rw [esc_x4 d e r2 h' hd he, pair_ends _ _ _ _ he]
          · have he' : endsB e = false := by simpa using he
            by_cases hx : hexN e = 16
            · rw [esc_x5 d e r2 h' hd he' hx, pair_bad _ _ _ _ he' hx]
            · rw [esc_x6 d e r2 h' hd he' hx, pair_ok _ _ _ _ he' hx, pairR]
              simp
def pieceR (l : List Nat) : Nat × Nat × Nat := match l with | [] => (0, 0, 31) | c :: r => if endsB c then (0, 0, 31) else if c = 92 then escR r else (c, 1, 0)
theorem piece_ends (c : Nat) (r : List Nat) (h : endsB c = true) : pieceR (c :: r) = (0, 0, 31) := by simp [pieceR, h]
theorem piece_self (c : Nat) (r : List Nat) (h : endsB c = false) (h2 : ¬ c = 92) : pieceR (c :: r) = (c, 1, 0) := by simp [pieceR, h, h2]
theorem piece_esc (r : List Nat) : pieceR (92 :: r) = escR r := by simp [pieceR, endsB]
theorem xpiece_as (s : ByteArray) (y : Int) (p B K X : Nat) (hy : y = p) (hp : p ≤ s.size) (h : s.size ≤ 1048576) (hR : pieceR ((bytesN s).drop p) = (B, K, X)) (w : World) :
    Calls Tryz.prog 106 #[.string s, .int .i64 y] w fun e w' => e = .returned (.tuple #[.int .u8 (B : Int), .int .i64 (K : Int), .int .i64 (X : Int)]) ∧ Below w.heap.size w w' := by
  subst hy
  have HR : Hid (pieceR ((bytesN s).drop p) = (B, K, X)) := hR
  clear hR
  by_cases hin : p < s.size
  · have hdrop := bytesN_drop s p hin
    obtain ⟨c, hc⟩ : ∃ c, (s[p]'hin).toNat = c := ⟨_, rfl⟩
    rw [hc] at hdrop
    rw [hdrop] at HR
    clear hdrop
    by_cases he : endsB c = true
    · have HE : Hid (endsB c = true) := he
      have HF : Hid ((0, 0, 31) = (B, K, X)) := by unfold Hid; rw [← HR.out, piece_ends _ _ he]
      clear he
      obtain ⟨rfl, h2⟩ := Prod.mk.inj HF.out
      obtain ⟨rfl, rfl⟩ := Prod.mk.inj h2
      clear h2 HF HR
      go_enter Tryz.func106, Tryz.ntmps106
      go_wp2_with fail
      refine (xbo_in s p p c rfl hin hc h true HE.out _).mono ?_
      rintro e w2 ⟨rfl, hb2⟩
      have HB2 : Hid (Below w.heap.size w w2) := hb2
      clear hb2
      go_wp2
      go_ret3
      exact ⟨rfl, HB2.out⟩
    · have HE : Hid (endsB c = false) := by simpa [Hid] using he
      clear he
      by_cases h92 : c = 92
      · subst h92
        have HR2 : Hid (escR ((bytesN s).drop (p + 1)) = (B, K, X)) := by unfold Hid; rw [← HR.out, piece_esc]
        clear HR
        by_cases hin2 : p + 1 < s.size
        · have hdrop := bytesN_drop s (p + 1) hin2
          obtain ⟨d, hd⟩ : ∃ d, (s[p + 1]'hin2).toNat = d := ⟨_, rfl⟩
          rw [hd] at hdrop
          rw [hdrop] at HR2
          clear hdrop
          by_cases he : endsB d = true
          · have HE2 : Hid (endsB d = true) := he
            have HF : Hid ((0, 0, 31) = (B, K, X)) := by unfold Hid; rw [← HR2.out, esc_ends _ _ he]
            clear he
            obtain ⟨rfl, h2⟩ := Prod.mk.inj HF.out
            obtain ⟨rfl, rfl⟩ := Prod.mk.inj h2
            clear h2 HF HR2
            go_enter Tryz.func106, Tryz.ntmps106
            go_wp2_with fail
            refine (xbo_in s p p 92 rfl hin hc h false HE.out _).mono ?_
            rintro e w2 ⟨rfl, hb2⟩
            have HB2 : Hid (Below w.heap.size w w2) := hb2
            clear hb2
            go_wp2_with fail
            refine (xbo_in s ((p : Int) + 1) (p + 1) d (by omega) hin2 hd h true HE2.out _).mono ?_
            rintro e w3 ⟨rfl, hb3⟩
            have HB3 : Hid (Below w.heap.size w w3) := below_chain HB2.out hb3 (Nat.le_refl _)
            clear hb3
            go_wp2
            go_ret3
            exact ⟨rfl, HB3.out⟩
          · have HE2 : Hid (endsB d = false) := by simpa [Hid] using he
            clear he
            by_cases hx : d = 120
            · subst hx
              have HF : Hid (pairR 2 0 ((bytesN s).drop (p + 2)) = (B, K, X)) := by unfold Hid; rw [← HR2.out, esc_pair]
              clear HR2
              go_enter Tryz.func106, Tryz.ntmps106
              go_wp2_with fail
              refine (xbo_in s p p 92 rfl hin hc h false HE.out _).mono ?_
              rintro e w2 ⟨rfl, hb2⟩
              have HB2 : Hid (Below w.heap.size w w2) := hb2
              clear hb2
              go_wp2_with fail
              refine (xbo_in s ((p : Int) + 1) (p + 1) 120 (by omega) hin2 hd h false HE2.out _).mono ?_
              rintro e w3 ⟨rfl, hb3⟩
              have HB3 : Hid (Below w.heap.size w w3) := below_chain HB2.out hb3 (Nat.le_refl _)
              clear hb3
              go_wp2_with fail
              refine (xpair_as s ((p : Int) + 2) (p + 2) B K X (by omega) (by omega) h HF.out _).mono ?_
              rintro e w4 ⟨rfl, hb4⟩
              have HB4 : Hid (Below w.heap.size w w4) := below_chain HB3.out hb4 (Nat.le_refl _)
              clear hb4
              go_wp2
              go_ret3
              exact ⟨rfl, HB4.out⟩
            · have HD : Hid ((d = 34 ∧ (34, 2, 0) = (B, K, X)) ∨ (d = 92 ∧ (92, 2, 0) = (B, K, X)) ∨ (d = 110 ∧ (10, 2, 0) = (B, K, X)) ∨ (d = 116 ∧ (9, 2, 0) = (B, K, X)) ∨ (d = 114 ∧ (13, 2, 0) = (B, K, X)) ∨ (¬ d = 34 ∧ ¬ d = 92 ∧ ¬ d = 110 ∧ ¬ d = 116 ∧ ¬ d = 114 ∧ (0, 0, 32) = (B, K, X))) := by
                unfold Hid
                rw [← HR2.out]
                by_cases h1 : d = 34
                · subst h1; exact .inl ⟨rfl, rfl⟩
                by_cases h2 : d = 92
                · subst h2; exact .inr (.inl ⟨rfl, rfl⟩)
                by_cases h3 : d = 110
                · subst h3; exact .inr (.inr (.inl ⟨rfl, rfl⟩))
                by_cases h4 : d = 116
                · subst h4; exact .inr (.inr (.inr (.inl ⟨rfl, rfl⟩)))
                by_cases h5 : d = 114
                · subst h5; exact .inr (.inr (.inr (.inr (.inl ⟨rfl, rfl⟩))))
                exact .inr (.inr (.inr (.inr (.inr ⟨h1, h2, h3, h4, h5, (esc_other d _ HE2.out h1 h2 h3 h4 h5 hx).symm⟩))))
              clear HR2
              rcases HD.out with ⟨rfl, q⟩ | ⟨rfl, q⟩ | ⟨rfl, q⟩ | ⟨rfl, q⟩ | ⟨rfl, q⟩ | ⟨n1, n2, n3, n4, n5, q⟩
              case inr.inr.inr.inr.inr =>
                obtain ⟨rfl, q2⟩ := Prod.mk.inj q
                obtain ⟨rfl, rfl⟩ := Prod.mk.inj q2
                have e1 : ((d : Int) == 34) = false := by simp; omega
                have e2 : ((d : Int) == 92) = false := by simp; omega
                have e3 : ((d : Int) == 110) = false := by simp; omega
                have e4 : ((d : Int) == 116) = false := by simp; omega
                have e5 : ((d : Int) == 114) = false := by simp; omega
                have e6 : ((d : Int) == 120) = false := by simp; omega
                clear q q2 HD hx n1 n2 n3 n4 n5
                go_enter Tryz.func106, Tryz.ntmps106
                go_wp2_with fail
                refine (xbo_in s p p 92 rfl hin hc h false HE.out _).mono ?_
                rintro e w2 ⟨rfl, hb2⟩
                have HB2 : Hid (Below w.heap.size w w2) := hb2
                clear hb2
                go_wp2_with fail
                refine (xbo_in s ((p : Int) + 1) (p + 1) d (by omega) hin2 hd h false HE2.out _).mono ?_
                rintro e w3 ⟨rfl, hb3⟩
                have HB3 : Hid (Below w.heap.size w w3) := below_chain HB2.out hb3 (Nat.le_refl _)
                clear hb3
                go_wp2
                go_ret3
                exact ⟨rfl, HB3.out⟩
              all_goals
                obtain ⟨rfl, q2⟩ := Prod.mk.inj q
                obtain ⟨rfl, rfl⟩ := Prod.mk.inj q2
                clear q q2 HD hx
                go_enter Tryz.func106, Tryz.ntmps106
                go_wp2_with fail
                refine (xbo_in s p p 92 rfl hin hc h false HE.out _).mono ?_
                rintro e w2 ⟨rfl, hb2⟩
                have HB2 : Hid (Below w.heap.size w w2) := hb2
                clear hb2
                go_wp2_with fail
                refine (xbo_in s ((p : Int) + 1) (p + 1) _ (by omega) hin2 hd h false HE2.out _).mono ?_
                rintro e w3 ⟨rfl, hb3⟩
                have HB3 : Hid (Below w.heap.size w w3) := below_chain HB2.out hb3 (Nat.le_refl _)
                clear hb3
                go_wp2
                go_ret3
                exact ⟨rfl, HB3.out⟩
        · have HF : Hid ((0, 0, 31) = (B, K, X)) := by
            unfold Hid; rw [← HR2.out, List.drop_eq_nil_of_le (by rw [bytesN_length]; omega)]; rfl
          obtain ⟨rfl, h2⟩ := Prod.mk.inj HF.out
          obtain ⟨rfl, rfl⟩ := Prod.mk.inj h2
          clear h2 HF HR2
          go_enter Tryz.func106, Tryz.ntmps106
          go_wp2_with fail
          refine (xbo_in s p p 92 rfl hin hc h false HE.out _).mono ?_
          rintro e w2 ⟨rfl, hb2⟩
          have HB2 : Hid (Below w.heap.size w w2) := hb2
          clear hb2
          go_wp2_with fail
          refine (xbo_out s ((p : Int) + 1) (p + 1) (by omega) (by omega) h _).mono ?_
          rintro e w3 ⟨rfl, rfl⟩
          go_wp2
          go_ret3
          exact ⟨rfl, HB2.out⟩
      · have HF : Hid ((c, 1, 0) = (B, K, X)) := by unfold Hid; rw [← HR.out, piece_self _ _ HE.out h92]
        obtain ⟨rfl, h2⟩ := Prod.mk.inj HF.out
        obtain ⟨rfl, rfl⟩ := Prod.mk.inj h2
        have e1 : ((c : Int) != 92) = true := by simp; omega
        clear h2 HF HR h92
        go_enter Tryz.func106, Tryz.ntmps106
        go_wp2_with fail
        refine (xbo_in s p p c rfl hin hc h false HE.out _).mono ?_
        rintro e w2 ⟨rfl, hb2⟩
        have HB2 : Hid (Below w.heap.size w w2) := hb2
        clear hb2
        go_wp2
        go_ret3
        exact ⟨rfl, HB2.out⟩
  · have HF : Hid ((0, 0, 31) = (B, K, X)) := by
      unfold Hid; rw [← HR.out, List.drop_eq_nil_of_le (by rw [bytesN_length]; omega)]; rfl
    obtain ⟨rfl, h2⟩ := Prod.mk.inj HF.out
    obtain ⟨rfl, rfl⟩ := Prod.mk.inj h2
    clear h2 HF HR
    go_enter Tryz.func106, Tryz.ntmps106
    go_wp2_with fail
    refine (xbo_out s p p rfl (by omega) h _).mono ?_
    rintro e w2 ⟨rfl, rfl⟩
    go_wp2
    go_ret3
    exact ⟨rfl, Below.refl _ _⟩
theorem bodyPost_cell1 {P : Program} {fn : Func} {R : Ending → World → Prop} {a : Act} {w : World} {p : Tmp} {ty : TypeId} {g : Nat} {t : TypeId} {cs : Array Value} {fr : Nat × Nat} {d : TypeDesc} (h : fn.results = #[.cell p ty])
    (hp : a.tmps.getD p undef = .pointer (some ⟨g, 0, none⟩)) (hd : a.defers = []) (hg : w.heap[g]? = some (.cells cs t fr))
    (hu : P.underlying ty = some d) (hd2 : (match d with | .struct _ | .array _ _ => true | _ => false) = true) (hi : (P.info? ty).map (·.size) = some cs.size)
    (hR : R (.returned (.agg cs)) w) : bodyPost P fn R .ret a w := by
  refine bodyPost_ret ?_ hd hR
  have hp' : a.tmps[p]?.getD undef = .pointer (some ⟨g, 0, none⟩) := by simpa using hp
  simp [results, h, hp', asAddr, run_loadVar_row w g t ty cs fr d hg hu hd2 hi]
theorem set7_block (w : World) (g : Nat) (a0 a1 a2 a3 a4 a5 a6 b0 b1 b2 b3 b4 b5 b6 : Value) (t : TypeId) (fr : Nat × Nat) (h : w.heap[g]? = some (.cells #[a0, a1, a2, a3, a4, a5, a6] t fr)) :
    (((((((w.setCell ⟨g, 0, none⟩ b0).setCell ⟨g, 1, none⟩ b1).setCell ⟨g, 2, none⟩ b2).setCell ⟨g, 3, none⟩ b3).setCell ⟨g, 4, none⟩ b4).setCell ⟨g, 5, none⟩ b5).setCell ⟨g, 6, none⟩ b6).heap[g]? = some (.cells #[b0, b1, b2, b3, b4, b5, b6] t fr) := by
  have h0 := heap_set w g 0 _ t fr b0 h
  have h1 := heap_set _ g 1 _ t fr b1 h0
  have h2 := heap_set _ g 2 _ t fr b2 h1
  have h3 := heap_set _ g 3 _ t fr b3 h2
  have h4 := heap_set _ g 4 _ t fr b4 h3
  have h5 := heap_set _ g 5 _ t fr b5 h4
  have h6 := heap_set _ g 6 _ t fr b6 h5
  rw [h6]
  rfl
theorem set7_below {w0 w : World} {g B : Nat} {b0 b1 b2 b3 b4 b5 b6 : Value} (h : Below B w0 w) (hg : B ≤ g) :
    Below B w0 (((((((w.setCell ⟨g, 0, none⟩ b0).setCell ⟨g, 1, none⟩ b1).setCell ⟨g, 2, none⟩ b2).setCell ⟨g, 3, none⟩ b3).setCell ⟨g, 4, none⟩ b4).setCell ⟨g, 5, none⟩ b5).setCell ⟨g, 6, none⟩ b6) :=
  ((((((h.setCell (p := ⟨g, 0, none⟩) hg _).setCell (p := ⟨g, 1, none⟩) hg _).setCell (p := ⟨g, 2, none⟩) hg _).setCell (p := ⟨g, 3, none⟩) hg _).setCell (p := ⟨g, 4, none⟩) hg _).setCell (p := ⟨g, 5, none⟩) hg _).setCell (p := ⟨g, 6, none⟩) hg _
def zeroF : Obj := .cells #[.int .u8 0, .string ⟨#[]⟩, .int .u64 0, .int .i64 0, .int .i64 0, .int .i64 0, .int .i64 0] 79
theorem zeroF_kept {w w2 : World} {g : Nat} (hg : g = w.heap.size) (hb : Below (w.alloc zeroF).heap.size (w.alloc zeroF) w2) : w2.heap[g]? = some zeroF ∧ g < w2.heap.size ∧ Below g w w2 := by
  have hs : (w.alloc zeroF).heap.size = w.heap.size + 1 := Array.size_push _
  refine ⟨?_, ?_, ?_⟩
  · rw [hb.block g (by omega), hg]; exact heap_alloc_new w _
  · have := hb.size; omega
  · exact ((Below.refl g w).alloc (by omega) _).trans (hb.mono (by omega))
def foundOk (kd n a b : Int) (x : ByteArray) : Value := .agg #[.int .u8 kd, .string x, .int .u64 n, .int .i64 a, .int .i64 b, .int .i64 0, .int .i64 0]
def foundNo (a pl e : Int) : Value := .agg #[.int .u8 0, .string ⟨#[]⟩, .int .u64 0, .int .i64 a, .int .i64 0, .int .i64 e, .int .i64 pl]
def foundV (p : Nat) (o : Except (Nat × Nat) (Nat × List Nat × Nat × Nat)) : Value :=
  match o with
  | .ok (kd, tx, n, len) => foundOk kd n p ((p + len : Nat) : Int) (strN tx)
  | .error (q, e) => foundNo p ((p + q : Nat) : Int) e
theorem xfault_any (a pl e : Int) (w : World) : Calls Tryz.prog 94 #[.int .i64 a, .int .i64 pl, .int .i64 e] w fun e' w' => e' = .returned (foundNo a pl e) ∧ Below w.heap.size w w' := by
  go_enter Tryz.func94, Tryz.ntmps94
  go_wp2
  refine bodyPost_cell1 (g := w.heap.size) (t := 79) rfl rfl rfl (heap_alloc_new w _) Tryz.underlying79 rfl (by kernel_rfl) ?_
  exact ⟨rfl, (Below.refl _ _).alloc (Nat.le_refl _) _⟩
theorem xtoken_as (kd : Int) (s : ByteArray) (a b : Nat) (ya yb : Int) (x : ByteArray) (hya : ya = a) (hyb : yb = b) (hab : a ≤ b) (hb : b ≤ s.size) (h : s.size ≤ 1048576) (hx : s.extract a b = x) (w : World) :
    Calls Tryz.prog 90 #[.int .u8 kd, .string s, .int .i64 ya, .int .i64 yb] w fun e w' => e = .returned (foundOk kd 0 a b x) ∧ Below w.heap.size w w' := by
  subst hya; subst hyb
  have hxs : x.size ≤ 1048576 := by
    have := congrArg List.length (bytesN_extract s a b)
    rw [hx, bytesN_length, List.length_take, List.length_drop, bytesN_length] at this
    omega
  obtain ⟨g, hg⟩ : ∃ g, g = w.heap.size := ⟨_, rfl⟩
  have HG : Hid (g = w.heap.size) := hg
  go_enter Tryz.func90, Tryz.ntmps90
  go_wp2_with fail
  refine (xclone_any x hxs _).mono ?_
  rintro e w2 ⟨rfl, hb2⟩
  rw [← hg]
  clear hg
  obtain ⟨hblk, hgs, BW⟩ := zeroF_kept HG.out hb2
  have BW : Hid (Below g w w2) := BW
  unfold zeroF at hblk
  have c0 : w2.cell? ⟨g, 0, none⟩ = some (.int .u8 0) := cell_of_row _ g 0 _ _ _ hblk
  have c1 : w2.cell? ⟨g, 1, none⟩ = some (.string ⟨#[]⟩) := cell_of_row _ g 1 _ _ _ hblk
  have c2 : w2.cell? ⟨g, 2, none⟩ = some (.int .u64 0) := cell_of_row _ g 2 _ _ _ hblk
  have c3 : w2.cell? ⟨g, 3, none⟩ = some (.int .i64 0) := cell_of_row _ g 3 _ _ _ hblk
  have c4 : w2.cell? ⟨g, 4, none⟩ = some (.int .i64 0) := cell_of_row _ g 4 _ _ _ hblk
  have c5 : w2.cell? ⟨g, 5, none⟩ = some (.int .i64 0) := cell_of_row _ g 5 _ _ _ hblk
  have c6 : w2.cell? ⟨g, 6, none⟩ = some (.int .i64 0) := cell_of_row _ g 6 _ _ _ hblk
  have f0 : ∀ j, w2.frozen? ⟨g, j, none⟩ = false := fun j => by simp [World.frozen?, hblk]
  have HBK : Hid (w2.heap[g]? = some (.cells #[.int .u8 0, .string ⟨#[]⟩, .int .u64 0, .int .i64 0, .int .i64 0, .int .i64 0, .int .i64 0] 79)) := hblk
  clear hblk hb2
  go_wp2
  refine bodyPost_cell1 (g := g) (t := 79) rfl rfl rfl (set7_block _ _ _ _ _ _ _ _ _ _ _ _ _ _ _ _ _ _ HBK.out) Tryz.underlying79 rfl (by kernel_rfl) ?_
  exact ⟨rfl, by rw [← HG.out]; exact set7_below BW.out (Nat.le_refl _)⟩
theorem in_kept (s : ByteArray) (l : List UInt8) (h : (s.toList == l) = true) (hl : l.map UInt8.toNat ∈ keptL) : true = keptB (bytesN s) := by
  rw [list_is] at h
  have e : bytesN s = l.map UInt8.toNat := by simpa using h
  unfold keptB
  rw [e, decide_eq_true hl]
theorem kept_none (s : ByteArray) (h : ∀ l ∈ keptS, (s.toList == l.data.toList) = false) : false = keptB (bytesN s) := by
  unfold keptB
  rw [eq_comm, decide_eq_false_iff_not, ← kept_same, List.mem_map]
  rintro ⟨x, hx, he⟩
  have h1 := h x hx
  rw [list_is] at h1
  have h2 : ¬ bytesN s = x.data.toList.map UInt8.toNat := by simpa using h1
  exact h2 he.symm
theorem xkept_as (s : ByteArray) (b : Bool) (hb : keptB (bytesN s) = b) (w : World) :
    Calls Tryz.prog 55 #[.string s] w fun e w' => e = .returned (.bool b) ∧ Below w.heap.size w w' := by
  subst hb
  go_enter Tryz.func55, Tryz.ntmps55
  go_wp2
  all_goals (go_ret; refine ⟨ret_bool ?_, Below.refl _ _⟩)
  all_goals first
    | exact in_kept s _ (by assumption) (by decide)
    | (exfalso; rename_i h1 h2; rw [h1] at h2; cases h2; done)
    | (refine kept_none s ?_; intro l hl; simp only [keptS, List.mem_cons, List.not_mem_nil, or_false] at hl; rcases hl with rfl | rfl | rfl | rfl | rfl | rfl | rfl | rfl | rfl | rfl | rfl | rfl | rfl | rfl | rfl | rfl | rfl | rfl | rfl | rfl | rfl | rfl | rfl | rfl | rfl | rfl | rfl <;> assumption)
theorem xname_big (s : ByteArray) (b : Bool) (h : s.size ≤ 9223372036854775807) (hb : nameB (bytesN s) = b) (w : World) :
    Calls Tryz.prog 41 #[.string s] w fun e w' => e = .returned (.bool b) ∧ Below w.heap.size w w' := by
  by_cases h0 : s.size = 0
  · obtain rfl := empty_is s h0
    have HF : Hid (false = b) := by unfold Hid; rw [← hb]; rfl
    clear hb h0
    go_enter Tryz.func41, Tryz.ntmps41
    go_wp2
    go_ret
    exact ⟨ret_bool HF.out, Below.refl _ _⟩
  · have hp : 0 < s.size := by omega
    have hne : (s.toList == []) = false := by
      rw [ByteArray.toList_eq, beq_eq_false_iff_ne]
      intro q
      have h1 : bytesN s = [] := by unfold bytesN; rw [q]; rfl
      have h2 := bytesN_length s
      rw [h1] at h2
      simp at h2; omega
    obtain ⟨c, hc⟩ : ∃ c, (s[0]'hp).toNat = c := ⟨_, rfl⟩
    have hd := bytesN_drop s 0 hp
    rw [hc, List.drop_zero] at hd
    have hnm : nameB (bytesN s) = (letterB c && decide (wordN (bytesN s) = (bytesN s).length) && !keptB (bytesN s)) := by
      rw [hd]; rfl
    have HNM : Hid ((letterB c && decide (wordN (bytesN s) = (bytesN s).length) && !keptB (bytesN s)) = b) := by unfold Hid; rw [← hnm]; exact hb
    clear hd hnm hb h0
    by_cases hl : letterB c = true
    · have HL : Hid (letterB c = true) := hl
      clear hl
      obtain ⟨E, hE⟩ : ∃ E, Hid (0 + wordN ((bytesN s).drop 0) = E) := ⟨_, rfl⟩
      have hk2 : ∀ w : World, KindsAt ((w.alloc (.cells #[.int .u8 1] 71)).alloc (.cells #[.int .u8 1, .int .u8 2] 71)) (w.heap.size + 1) [1, 2] := by
        intro w
        have := kinds2 (w.alloc (.cells #[.int .u8 1] 71)) 1 2 (by omega) (by omega) 1 2 rfl rfl 71
        rwa [World.size_alloc] at this
      have HK2 : Hid _ := hk2
      have hb2 : Below w.heap.size w ((w.alloc (.cells #[.int .u8 1] 71)).alloc (.cells #[.int .u8 1, .int .u8 2] 71)) := ((Below.refl _ _).alloc (Nat.le_refl _) _).alloc (by simp) _
      have HB2 : Hid _ := hb2
      clear hk2 hb2
      by_cases hw : E = s.size
      · have HW : Hid (decide (wordN (bytesN s) = (bytesN s).length) = true) := by
          unfold Hid; have := hE.out; rw [List.drop_zero, Nat.zero_add] at this; rw [this, bytesN_length]; simp [hw]
        obtain ⟨k, hk⟩ : ∃ k, Hid (keptB (bytesN s) = k) := ⟨_, rfl⟩
        have HR : Hid ((!k) = b) := by unfold Hid; rw [← HNM.out, HL.out, HW.out, hk.out]; rfl
        have heq : ((E : Int) == (s.size : Int)) = true := by simp [hw]
        have HWE : Hid (E = s.size) := hw
        clear hw
        go_enter Tryz.func41, Tryz.ntmps41
        go_wp2_with fail
        refine (xis_any [1] w.heap.size 1 c _ rfl (by omega) true (by rw [isB1]; exact HL.out) (kinds1 w 1 (by omega) 1 rfl _)).mono ?_
        rintro e wx ⟨rfl, rfl⟩
        go_wp2_with fail
        refine (xpast_big s 0 0 E [1, 2] (w.heap.size + 1) 2 _ rfl (by omega) h rfl (by omega) (by rw [isB12]; exact hE.out) (HK2.out w)).mono ?_
        rintro e wx ⟨rfl, rfl⟩
        go_wp2_with fail
        refine (xkept_as s k hk.out _).mono ?_
        rintro e w2 ⟨rfl, hb2⟩
        go_wp2
        go_ret
        exact ⟨ret_bool HR.out, below_chain HB2.out hb2 (Nat.le_refl _)⟩
      · have HR : Hid (false = b) := by
          unfold Hid; rw [← HNM.out]
          have := hE.out; rw [List.drop_zero, Nat.zero_add] at this
          rw [this, bytesN_length]; simp [hw]
        have heq : ((E : Int) == (s.size : Int)) = false := by simp; omega
        go_enter Tryz.func41, Tryz.ntmps41
        go_wp2_with fail
        refine (xis_any [1] w.heap.size 1 c _ rfl (by omega) true (by rw [isB1]; exact HL.out) (kinds1 w 1 (by omega) 1 rfl _)).mono ?_
        rintro e wx ⟨rfl, rfl⟩
        go_wp2_with fail
        refine (xpast_big s 0 0 E [1, 2] (w.heap.size + 1) 2 _ rfl (by omega) h rfl (by omega) (by rw [isB12]; exact hE.out) (HK2.out w)).mono ?_
        rintro e wx ⟨rfl, rfl⟩
        go_wp2
        go_ret
        exact ⟨ret_bool HR.out, HB2.out⟩
    · have HL : Hid (letterB c = false) := by simpa [Hid] using hl
      have HR : Hid (false = b) := by unfold Hid; rw [← HNM.out, HL.out]; rfl
      clear hl
      go_enter Tryz.func41, Tryz.ntmps41
      go_wp2_with fail
      refine (xis_any [1] w.heap.size 1 c _ rfl (by omega) false (by rw [isB1]; exact HL.out) (kinds1 w 1 (by omega) 1 rfl _)).mono ?_
      rintro e wx ⟨rfl, rfl⟩
      go_wp2
      go_ret
      exact ⟨ret_bool HR.out, (Below.refl _ _).alloc (Nat.le_refl _) _⟩
theorem xname_as (s : ByteArray) (b : Bool) (h : s.size ≤ 1048576) (hb : nameB (bytesN s) = b) (w : World) :
    Calls Tryz.prog 41 #[.string s] w fun e w' => e = .returned (.bool b) ∧ Below w.heap.size w w' := xname_big s b (by omega) hb w
end Go.Proofs.YtmhnbklchnnbaaaGreatDoor
