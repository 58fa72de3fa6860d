/-
  CONTRACT of wire.Get.
  CONTRACTS of wire.Wide.
-/
import Derived.Test.YtmmbdpdpkkikjaaGreatJv
import Derived.Test.YtmmbdpdpkkikjaaGreatJbs
namespace Go.Proofs.YtmmbdpdpkkikjaaGreat.Q01
open Go.RowKit
set_option linter.unusedVariables false

theorem ret3 {k1 k2 k3 : IntKind} {a b c a' b' c' : Int} (h1 : a = a') (h2 : b = b') (h3 : c = c') :
    Ending.returned (.tuple #[.int k1 a, .int k2 b, .int k3 c]) = .returned (.tuple #[.int k1 a', .int k2 b', .int k3 c']) := by rw [h1, h2, h3]
def getN (xs : List Nat) (p : Nat) : Nat := (getS 0 0 (xs.drop p)).1
def getP (xs : List Nat) (p : Nat) : Int := if (getS 0 0 (xs.drop p)).2.2 = 0 then ((p + (getS 0 0 (xs.drop p)).2.1 : Nat) : Int) else 0
def getE (xs : List Nat) (p : Nat) : Int := (((getS 0 0 (xs.drop p)).2.2 : Nat) : Int)

/-- What one round does. -/
theorem get_short {xs : List Nat} {p k acc : Nat} (h : getS 0 0 (xs.drop p) = getS k acc (xs.drop (p + k))) (hl : xs.length ≤ p + k) : getN xs p = 0 ∧ getP xs p = 0 ∧ getE xs p = 10 := by
  rw [List.drop_eq_nil_of_le hl] at h
  simp [getN, getP, getE, h, getS]
theorem drop_cons (xs : List Nat) (q : Nat) (h : q < xs.length) : xs.drop q = xs.getD q 0 :: xs.drop (q + 1) := by
  rw [List.drop_eq_getElem_cons h]; simp [List.getD, h]
theorem get_form {xs : List Nat} {p k acc c : Nat} (h : getS 0 0 (xs.drop p) = getS k acc (xs.drop (p + k))) (hl : p + k < xs.length) (hc : c = xs.getD (p + k) 0)
    (he : (k = 9 ∧ 1 < c) ∨ (0 < k ∧ c = 0)) : getN xs p = 0 ∧ getP xs p = 0 ∧ getE xs p = 11 := by
  rw [drop_cons xs _ hl, ← hc] at h
  simp [getN, getP, getE, h, getS, he]
theorem get_done {xs : List Nat} {p k acc c : Nat} (h : getS 0 0 (xs.drop p) = getS k acc (xs.drop (p + k))) (hl : p + k < xs.length) (hc : c = xs.getD (p + k) 0)
    (he : ¬ ((k = 9 ∧ 1 < c) ∨ (0 < k ∧ c = 0))) (h1 : c < 128) : getN xs p = acc + c * 128 ^ k ∧ getP xs p = ((p + (k + 1) : Nat) : Int) ∧ getE xs p = 0 := by
  rw [drop_cons xs _ hl, ← hc] at h
  simp [getN, getP, getE, h, getS, he, h1]
theorem get_on {xs : List Nat} {p k acc c : Nat} (h : getS 0 0 (xs.drop p) = getS k acc (xs.drop (p + k))) (hl : p + k < xs.length) (hc : c = xs.getD (p + k) 0)
    (he : ¬ ((k = 9 ∧ 1 < c) ∨ (0 < k ∧ c = 0))) (h1 : ¬ c < 128) : getS 0 0 (xs.drop p) = getS (k + 1) (acc + (c % 128) * 128 ^ k) (xs.drop (p + (k + 1))) := by
  rw [drop_cons xs _ hl, ← hc] at h
  rw [h]
  simp [getS, he, h1, Nat.add_assoc]

theorem u8_low (c : Nat) (hc : c < 256) : bits BinOp.and IntKind.u8 (c : Int) 127 = ((c % 128 : Nat) : Int) := by
  have h := u8_and_nat c 127 hc (by omega)
  refine h.trans ?_
  have : c &&& 127 = c % 2 ^ 7 := Nat.and_two_pow_sub_one_eq_mod c 7
  rw [this]
theorem u64_id (n : Nat) (h : n < 18446744073709551616) : IntKind.u64.wrap (n : Int) = n := by rw [IntKind.wrap_u64]; omega
theorem or_add (acc x j : Nat) (h : acc < 2 ^ j) : acc ||| x * 2 ^ j = acc + x * 2 ^ j := by
  rw [Nat.or_comm, Nat.mul_comm, ← Nat.two_pow_add_eq_or_of_lt h]; omega
theorem get_bound (c k : Nat) (hk : (k ≤ 8 ∧ c < 256) ∨ (k = 9 ∧ c ≤ 1)) : c % 128 * 128 ^ k ≤ 9223372036854775808 := by
  rcases hk with ⟨h8, _⟩ | ⟨rfl, h1⟩
  · have : c % 128 * 128 ^ k ≤ c % 128 * 128 ^ 8 := Nat.mul_le_mul_left _ (Nat.pow_le_pow_right (by omega) h8)
    omega
  · omega
theorem or_shift (acc k c : Nat) (hacc : acc < 128 ^ k) (hk : (k ≤ 8 ∧ c < 256) ∨ (k = 9 ∧ c ≤ 1)) :
    bits BinOp.or IntKind.u64 (acc : Int) (IntKind.u64.wrap (IntKind.u64.wrap (bits BinOp.and IntKind.u8 (c : Int) 127) * 2 ^ (7 * k))) = ((acc + c % 128 * 128 ^ k : Nat) : Int) := by
  have e2 : (2 : Nat) ^ (7 * k) = 128 ^ k := by rw [Nat.pow_mul]
  have hb := get_bound c k hk
  have hp : 128 ^ k ≤ 128 ^ 9 := Nat.pow_le_pow_right (by omega) (by omega)
  rw [u8_low c (by omega), u64_id _ (by omega)]
  have e3 : ((c % 128 : Nat) : Int) * 2 ^ (7 * k) = ((c % 128 * 2 ^ (7 * k) : Nat) : Int) := by simp
  rw [e3, u64_id _ (by rw [e2]; omega), bits_or_u64_nat _ _ (by omega) (by rw [e2]; omega), or_add _ _ _ (by rw [e2]; exact hacc), e2]
theorem or_shift9 (acc c : Nat) (hacc : acc < 128 ^ 9) (hk : c ≤ 1) :
    bits BinOp.or IntKind.u64 (acc : Int) (IntKind.u64.wrap (IntKind.u64.wrap (bits BinOp.and IntKind.u8 (c : Int) 127) * 9223372036854775808)) = ((acc + c % 128 * 128 ^ 9 : Nat) : Int) :=
  or_shift acc 9 c hacc (.inr ⟨rfl, hk⟩)

def GetRel (xs : List Nat) (p L : Nat) (n i : Value) : Prop :=
  ∃ k acc : Nat, k ≤ 9 ∧ p + k ≤ L ∧ i = .int .i64 k ∧ n = .int .u64 acc ∧ acc < 128 ^ k ∧ getS 0 0 (xs.drop p) = getS k acc (xs.drop (p + k))

set_option maxRecDepth 100000 in
set_option maxHeartbeats 1000000 in
theorem get_row (b off cap : Nat) (xs : List Nat) (p : Nat) (w : World) (hb : ∀ c ∈ xs, c < 256) (hm : xs.length ≤ 9223372036854775807)
    (hc : ∀ i, i < xs.length → w.cell? ⟨b, off + i, none⟩ = some (.int .u8 ((xs.getD i 0 : Nat) : Int))) (hp : p ≤ xs.length) :
    Calls Tryz.prog 127 #[.slice (some ⟨b, off, none⟩) xs.length cap, .int .i64 p] w fun e w' =>
      e = .returned (.tuple #[.int .u64 (getN xs p : Nat), .int .i64 (getP xs p), .int .i64 (getE xs p)]) ∧ w = w' := by
  have HC : Hid (∀ i, i < xs.length → w.cell? ⟨b, off + i, none⟩ = some (.int .u8 ((xs.getD i 0 : Nat) : Int))) := hc
  have HB : Hid (∀ i, i < xs.length → xs.getD i 0 < 256) := by
    intro i hi
    exact hb _ (by simp [List.getD, hi])
  obtain ⟨L, hL⟩ : ∃ L, L = xs.length := ⟨_, rfl⟩
  rw [← hL] at hm hp ⊢
  have HL : Hid (L = xs.length) := hL
  clear hc hL hb
  go_enter Tryz.func127, Tryz.ntmps127
  go_wp2
  go_loop [7, 22] (fun n i => GetRel xs p L n i) (fun _ i => L - p - (intOf i).toNat)
  case atStart => exact ⟨0, 0, by omega, by omega, rfl, rfl, by simp, rfl⟩
  case round =>
    obtain ⟨k, acc, hk9, hpk, rfl, rfl, hacc, hK⟩ := hrel
    have HK : Hid (getS 0 0 (xs.drop p) = getS k acc (xs.drop (p + k))) := hK
    clear hK
    by_cases hlt : p + k < L
    · obtain ⟨c, hcc⟩ : ∃ c, c = xs.getD (p + k) 0 := ⟨_, rfl⟩
      have hcell : w.cell? ⟨b, off + (p + k), none⟩ = some (.int .u8 (c : Int)) := by rw [hcc]; exact HC.out (p + k) (by rw [← HL.out]; exact hlt)
      have h256 : c < 256 := by rw [hcc]; exact HB.out (p + k) (by rw [← HL.out]; exact hlt)
      have HCC : Hid (c = xs.getD (p + k) 0) := hcc
      have HLT : Hid (p + k < xs.length) := by rw [← HL.out]; exact hlt
      have HA : Hid (acc < 128 ^ k) := hacc
      clear hcc hacc
      go_wp2
      · have ht : 1 < (c : Int) ∨ ((c : Int) == 0) = true := by assumption
        have h9 : (k : Int) = 9 := by assumption
        have hz : c = 0 := by
          rcases ht with h | h
          · omega
          · simpa using h
        obtain ⟨e1, e2, e3⟩ := get_form HK.out HLT.out HCC.out (by omega)
        go_ret3
        exact ⟨ret3 (by omega) (by omega) (by omega), rfl⟩
      · have ht : (c : Int) ≤ 1 ∧ ((c : Int) == 0) = false := by assumption
        have h9 : (k : Int) = 9 := by assumption
        have hz : c ≠ 0 := by simpa using ht.2
        have h9' : k = 9 := by omega
        subst h9'
        obtain ⟨e1, e2, e3⟩ := get_done HK.out HLT.out HCC.out (by omega) (by omega)
        go_ret3
        refine ⟨ret3 ?_ ?_ ?_, rfl⟩
        · rw [or_shift9 acc c HA.out (by omega), e1, Nat.mod_eq_of_lt (by omega)]
        · omega
        · omega
      · have ht : 1 < (c : Int) := by assumption
        have h9 : (k : Int) = 9 := by assumption
        obtain ⟨e1, e2, e3⟩ := get_form HK.out HLT.out HCC.out (by omega)
        go_ret3
        exact ⟨ret3 (by omega) (by omega) (by omega), rfl⟩
      · have ht : ((c : Int) == 0) = true := by assumption
        have h0 : 0 < k := by assumption
        have hz : c = 0 := by simpa using ht
        obtain ⟨e1, e2, e3⟩ := get_form HK.out HLT.out HCC.out (by omega)
        go_ret3
        exact ⟨ret3 (by omega) (by omega) (by omega), rfl⟩
      · have ht : ((c : Int) == 0) = false := by assumption
        have hz : c ≠ 0 := by simpa using ht
        have h9 : ¬ (k : Int) = 9 := by assumption
        obtain ⟨e1, e2, e3⟩ := get_done HK.out HLT.out HCC.out (by omega) (by omega)
        go_ret3
        refine ⟨ret3 ?_ ?_ ?_, rfl⟩
        · rw [or_shift acc k c HA.out (by omega), e1, Nat.mod_eq_of_lt (by omega)]
        · omega
        · omega
      · have ht : ((c : Int) == 0) = false := by assumption
        have hz : c ≠ 0 := by simpa using ht
        have h9 : ¬ (k : Int) = 9 := by assumption
        have e1 := get_on HK.out HLT.out HCC.out (by omega) (by omega)
        have hb : acc + c % 128 * 128 ^ k < 128 ^ (k + 1) := by
          have h1 := HA.out
          have h2 : c % 128 * 128 ^ k ≤ 127 * 128 ^ k := Nat.mul_le_mul_right _ (by omega)
          rw [Nat.pow_succ]; omega
        go_round
        case rel =>
          refine ⟨_, _, _, _, _, _, _, ?_, rfl, rfl, rfl, rfl, rfl, rfl, rfl⟩
          exact ⟨k + 1, acc + c % 128 * 128 ^ k, by omega, by omega, by go_num, by rw [or_shift acc k c HA.out (by omega)], hb, e1⟩
        case measure => simp [intOf]; omega
      · have h9 : ¬ (k : Int) = 9 := by assumption
        have h0 : ¬ 0 < k := by assumption
        obtain ⟨e1, e2, e3⟩ := get_done HK.out HLT.out HCC.out (by omega) (by omega)
        go_ret3
        refine ⟨ret3 ?_ ?_ ?_, rfl⟩
        · rw [or_shift acc k c HA.out (by omega), e1, Nat.mod_eq_of_lt (by omega)]
        · omega
        · omega
      · have h9 : ¬ (k : Int) = 9 := by assumption
        have h0 : ¬ 0 < k := by assumption
        have e1 := get_on HK.out HLT.out HCC.out (by omega) (by omega)
        have hb : acc + c % 128 * 128 ^ k < 128 ^ (k + 1) := by
          have h1 := HA.out
          have h2 : c % 128 * 128 ^ k ≤ 127 * 128 ^ k := Nat.mul_le_mul_right _ (by omega)
          rw [Nat.pow_succ]; omega
        go_round
        case rel =>
          refine ⟨_, _, _, _, _, _, _, ?_, rfl, rfl, rfl, rfl, rfl, rfl, rfl⟩
          exact ⟨k + 1, acc + c % 128 * 128 ^ k, by omega, by omega, by go_num, by rw [or_shift acc k c HA.out (by omega)], hb, e1⟩
        case measure => simp [intOf]; omega
    · go_wp2
      obtain ⟨e1, e2, e3⟩ := get_short HK.out (by rw [← HL.out]; omega)
      go_ret3
      exact ⟨ret3 (by omega) (by omega) (by omega), rfl⟩

theorem get_bad (a : Option Addr) (L cap : Nat) (p : Int) (w : World) (hm : L ≤ 9223372036854775807) (hp : ¬ (0 ≤ p ∧ p ≤ L)) :
    Calls Tryz.prog 127 #[.slice a L cap, .int .i64 p] w fun e w' => e = .returned (.tuple #[.int .u64 0, .int .i64 0, .int .i64 2]) ∧ w = w' := by
  by_cases h : p < 0
  · go_enter Tryz.func127, Tryz.ntmps127
    go_wp2
    go_ret3
    exact ⟨rfl, rfl⟩
  · have h2 : (L : Int) < p := by omega
    go_enter Tryz.func127, Tryz.ntmps127
    go_wp2
    go_ret3
    exact ⟨rfl, rfl⟩

theorem get_empty (a : Option Addr) (cap : Nat) (w : World) :
    Calls Tryz.prog 127 #[.slice a 0 cap, .int .i64 0] w fun e w' => e = .returned (.tuple #[.int .u64 0, .int .i64 0, .int .i64 10]) ∧ w = w' := by
  go_enter Tryz.func127, Tryz.ntmps127
  go_wp2
  go_rounds 1
  go_ret3
  exact ⟨rfl, rfl⟩

def gN (xs : List Nat) (p : Int) : Nat := if 0 ≤ p ∧ p ≤ xs.length then getN xs p.toNat else 0
def gP (xs : List Nat) (p : Int) : Int := if 0 ≤ p ∧ p ≤ xs.length then getP xs p.toNat else 0
def gE (xs : List Nat) (p : Int) : Int := if 0 ≤ p ∧ p ≤ xs.length then getE xs p.toNat else 2

theorem get_any (a : Option Addr) (L cap : Nat) (xs : List Nat) (p : Int) (w : World) (hl : Lies w a xs) (hL : L = xs.length) :
    Calls Tryz.prog 127 #[.slice a L cap, .int .i64 p] w fun e w' =>
      e = .returned (.tuple #[.int .u64 (gN xs p : Nat), .int .i64 (gP xs p), .int .i64 (gE xs p)]) ∧ w = w' := by
  subst hL
  obtain ⟨hb, hm, hl⟩ := hl
  unfold gN gP gE
  by_cases hp : 0 ≤ p ∧ p ≤ xs.length
  · simp only [hp, and_self, if_true]
    obtain ⟨q, rfl⟩ := Int.eq_ofNat_of_zero_le hp.1
    rw [Int.toNat_natCast]
    rcases hl with rfl | ⟨b, off, rfl, hc⟩
    · have hq : q = 0 := by simpa using hp.2
      subst hq
      refine (get_empty a cap w).mono ?_
      rintro e w' ⟨rfl, rfl⟩
      exact ⟨rfl, rfl⟩
    · exact get_row b off cap xs q w hb hm hc (by omega)
  · simp only [hp, if_false]
    exact get_bad a _ cap p w hm hp

theorem gN_lt (xs : List Nat) (p : Int) (hb : ∀ c ∈ xs, c < 256) : gN xs p < 18446744073709551616 := by
  unfold gN
  split
  · unfold getN
    rcases getS_once (xs.drop p.toNat) 0 0 (by omega) (fun c hc => hb c (List.mem_of_mem_drop hc)) with ⟨_, h, _⟩ | ⟨_, m, h, _, _, _, _, h7⟩
    · rw [h]; omega
    · rw [h]; simpa using h7
  · omega

end Go.Proofs.YtmmbdpdpkkikjaaGreat.Q01
namespace Go.Proofs.YtmmbdpdpkkikjaaGreat.Q01
open Go.RowKit
set_option linter.unusedVariables false

def wN (xs : List Nat) (p s : Int) : Nat := if ((1 ≤ s ∧ s ≤ 8) ∧ (0 ≤ p ∧ p ≤ xs.length)) ∧ s ≤ xs.length - p then wid ((xs.drop p.toNat).take s.toNat) else 0
def wP (xs : List Nat) (p s : Int) : Int := if ((1 ≤ s ∧ s ≤ 8) ∧ (0 ≤ p ∧ p ≤ xs.length)) ∧ s ≤ xs.length - p then p + s else 0
def wE (xs : List Nat) (p s : Int) : Int := if ((1 ≤ s ∧ s ≤ 8) ∧ (0 ≤ p ∧ p ≤ xs.length)) then (if s ≤ xs.length - p then 0 else 10) else 2

theorem wide_bad (a : Option Addr) (xs : List Nat) (L cap : Nat) (p s : Int) (w : World) (hm : L ≤ 9223372036854775807) (hL : L = xs.length) (h : ¬ ((1 ≤ s ∧ s ≤ 8) ∧ (0 ≤ p ∧ p ≤ xs.length))) :
    Calls Tryz.prog 56 #[.slice a L cap, .int .i64 p, .int .i64 s] w fun e w' => e = .returned (.tuple #[.int .u64 0, .int .i64 0, .int .i64 2]) ∧ w = w' := by
  rw [← hL] at h
  clear hL
  by_cases hs : 1 ≤ s ∧ s ≤ 8
  · by_cases hp : p < 0
    · go_enter Tryz.func56, Tryz.ntmps56
      go_wp2_with (go_at_call 51; refine (isSize_any _ w).mono ?_; rw [decide_eq_true hs]; rintro e w' ⟨rfl, rfl⟩)
      go_ret3
      exact ⟨rfl, rfl⟩
    · have hp2 : (L : Int) < p := by omega
      go_enter Tryz.func56, Tryz.ntmps56
      go_wp2_with (go_at_call 51; refine (isSize_any _ w).mono ?_; rw [decide_eq_true hs]; rintro e w' ⟨rfl, rfl⟩)
      go_ret3
      exact ⟨rfl, rfl⟩
  · go_enter Tryz.func56, Tryz.ntmps56
    go_wp2_with (go_at_call 51; refine (isSize_any _ w).mono ?_; rw [decide_eq_false hs]; rintro e w' ⟨rfl, rfl⟩)
    go_ret3
    exact ⟨rfl, rfl⟩

theorem wide_short (a : Option Addr) (L cap : Nat) (p s : Int) (w : World) (hm : L ≤ 9223372036854775807) (hs : 1 ≤ s ∧ s ≤ 8) (h0 : 0 ≤ p) (h1 : p ≤ L) (h2 : (L : Int) - p < s) :
    Calls Tryz.prog 56 #[.slice a L cap, .int .i64 p, .int .i64 s] w fun e w' => e = .returned (.tuple #[.int .u64 0, .int .i64 0, .int .i64 10]) ∧ w = w' := by
  go_enter Tryz.func56, Tryz.ntmps56
  go_wp2_with (go_at_call 51; refine (isSize_any _ w).mono ?_; rw [decide_eq_true hs]; rintro e w' ⟨rfl, rfl⟩)
  go_ret3
  exact ⟨rfl, rfl⟩

theorem wid_step (ys : List Nat) (k c : Nat) (hk : k < ys.length) (hc : c = ys.getD k 0) : wid (ys.take (k + 1)) = wid (ys.take k) + c * 256 ^ k := by
  rw [List.take_succ_eq_append_getElem hk, wid_snoc, List.length_take, Nat.min_eq_left (by omega), hc]
  simp [List.getD, hk]
theorem wide_or (acc k c : Nat) (hacc : acc < 256 ^ k) (hk : k ≤ 7) (hc : c < 256) :
    bits BinOp.or IntKind.u64 (acc : Int) (IntKind.u64.wrap ((c : Int) * 2 ^ (8 * k))) = ((acc + c * 256 ^ k : Nat) : Int) := by
  have e2 : (2 : Nat) ^ (8 * k) = 256 ^ k := by rw [Nat.pow_mul]
  have hp : 256 ^ k ≤ 256 ^ 7 := Nat.pow_le_pow_right (by omega) hk
  have hb : c * 256 ^ k ≤ 255 * 256 ^ 7 := Nat.mul_le_mul (by omega) hp
  have e3 : ((c : Nat) : Int) * 2 ^ (8 * k) = ((c * 2 ^ (8 * k) : Nat) : Int) := by simp
  rw [e3, u64_id _ (by rw [e2]; omega), bits_or_u64_nat _ _ (by omega) (by rw [e2]; omega), or_add _ _ _ (by rw [e2]; exact hacc), e2]

def WideRel (xs : List Nat) (p s : Nat) (n i : Value) : Prop :=
  ∃ k : Nat, k ≤ s ∧ i = .int .i64 k ∧ n = .int .u64 ((wid ((xs.drop p).take k) : Nat) : Int)

set_option maxRecDepth 100000 in
set_option maxHeartbeats 1000000 in
theorem wide_row (b off L cap : Nat) (xs : List Nat) (p s : Nat) (w : World) (hL : L = xs.length) (hb : ∀ c ∈ xs, c < 256) (hm : L ≤ 9223372036854775807)
    (hc : ∀ i, i < xs.length → w.cell? ⟨b, off + i, none⟩ = some (.int .u8 ((xs.getD i 0 : Nat) : Int))) (hs1 : 1 ≤ s) (hs8 : s ≤ 8) (hp : p + s ≤ L) :
    Calls Tryz.prog 56 #[.slice (some ⟨b, off, none⟩) L cap, .int .i64 p, .int .i64 s] w fun e w' =>
      e = .returned (.tuple #[.int .u64 (wid ((xs.drop p).take s) : Nat), .int .i64 ((p : Int) + s), .int .i64 0]) ∧ w = w' := by
  have HC : Hid (∀ i, i < xs.length → w.cell? ⟨b, off + i, none⟩ = some (.int .u8 ((xs.getD i 0 : Nat) : Int))) := hc
  have HB : Hid (∀ i, i < xs.length → xs.getD i 0 < 256) := by
    intro i hi
    exact hb _ (by simp [List.getD, hi])
  have HW : Hid (∀ k, wid ((xs.drop p).take k) < 256 ^ ((xs.drop p).take k).length) := fun k => wid_lt _ fun c hc => hb c (List.mem_of_mem_drop (List.mem_of_mem_take hc))
  have HL : Hid (L = xs.length) := hL
  have hs : 1 ≤ (s : Int) ∧ (s : Int) ≤ 8 := by omega
  clear hc hL hb
  go_enter Tryz.func56, Tryz.ntmps56
  go_wp2_with (go_at_call 51; refine (isSize_any _ w).mono ?_; rw [decide_eq_true hs]; rintro e w' ⟨rfl, rfl⟩)
  go_loop [9, 31] (fun n i => WideRel xs p s n i) (fun _ i => s - (intOf i).toNat)
  case atStart => exact ⟨0, by omega, rfl, rfl⟩
  case round =>
    obtain ⟨k, hk, rfl, rfl⟩ := hrel
    by_cases hlt : k < s
    · obtain ⟨c, hcc⟩ : ∃ c, c = xs.getD (p + k) 0 := ⟨_, rfl⟩
      have hcell : w.cell? ⟨b, off + (p + k), none⟩ = some (.int .u8 (c : Int)) := by rw [hcc]; exact HC.out (p + k) (by rw [← HL.out]; omega)
      have h256 : c < 256 := by rw [hcc]; exact HB.out (p + k) (by rw [← HL.out]; omega)
      have hlen : k < (xs.drop p).length := by have := HL.out; simp; omega
      have e1 : wid ((xs.drop p).take (k + 1)) = wid ((xs.drop p).take k) + c * 256 ^ k := wid_step _ k c hlen (by rw [hcc]; simp [List.getD])
      have hw := HW.out k
      rw [List.length_take, Nat.min_eq_left (by omega)] at hw
      have HWK : Hid (wid ((xs.drop p).take k) < 256 ^ k) := hw
      have HE : Hid (wid ((xs.drop p).take (k + 1)) = wid ((xs.drop p).take k) + c * 256 ^ k) := e1
      clear e1 hw hcc hlen
      go_wp2
      go_round
      case rel => exact ⟨k + 1, by omega, by go_num, by rw [HE.out, wide_or _ k c HWK.out (by omega) h256]⟩
      case measure => simp [intOf]; omega
    · have hks : k = s := by omega
      subst hks
      go_wp2
      go_ret3
      exact ⟨rfl, rfl⟩

theorem wide_any (a : Option Addr) (L cap : Nat) (xs : List Nat) (p s : Int) (w : World) (hl : Lies w a xs) (hL : L = xs.length) :
    Calls Tryz.prog 56 #[.slice a L cap, .int .i64 p, .int .i64 s] w fun e w' =>
      e = .returned (.tuple #[.int .u64 (wN xs p s : Nat), .int .i64 (wP xs p s), .int .i64 (wE xs p s)]) ∧ w = w' := by
  obtain ⟨hb, hm, hl⟩ := hl
  rw [← hL] at hm
  unfold wN wP wE
  by_cases ho : ((1 ≤ s ∧ s ≤ 8) ∧ (0 ≤ p ∧ p ≤ xs.length))
  · obtain ⟨hs, hp0, hp1⟩ := ho
    have ho : ((1 ≤ s ∧ s ≤ 8) ∧ (0 ≤ p ∧ p ≤ xs.length)) := ⟨hs, hp0, hp1⟩
    by_cases h2 : s ≤ (xs.length : Int) - p
    · simp only [ho, h2, and_self, if_true]
      obtain ⟨q, rfl⟩ := Int.eq_ofNat_of_zero_le hp0
      obtain ⟨z, rfl⟩ := Int.eq_ofNat_of_zero_le (show 0 ≤ s by omega)
      rw [Int.toNat_natCast, Int.toNat_natCast]
      rcases hl with rfl | ⟨b, off, rfl, hc⟩
      · simp at h2; omega
      · exact wide_row b off L cap xs q z w hL hb hm hc (by omega) (by omega) (by omega)
    · simp only [ho, h2, and_false, if_false]
      exact wide_short a L cap p s w hm hs hp0 (by omega) (by omega)
  · simp only [ho, false_and, if_false]
    exact wide_bad a xs L cap p s w hm hL ho
end Go.Proofs.YtmmbdpdpkkikjaaGreat.Q01
