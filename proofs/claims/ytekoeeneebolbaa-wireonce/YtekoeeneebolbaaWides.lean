/-
  CONTRACTS of wire.Wide.
-/
import Derived.Test.YtekoeeneebolbaaGets
namespace Go.Proofs.Ytekoeeneebolbaa
open Go.RowKit
set_option linter.unusedVariables false

def wN (xs : List Nat) (p s : Int) : Nat := if ((1 ≤ s ∧ s ≤ 8) ∧ (0 ≤ p ∧ p ≤ xs.length)) ∧ s ≤ xs.length - p then wid ((xs.drop p.toNat).take s.toNat) else 0
def wP (xs : List Nat) (p s : Int) : Int := if ((1 ≤ s ∧ s ≤ 8) ∧ (0 ≤ p ∧ p ≤ xs.length)) ∧ s ≤ xs.length - p then p + s else 0
def wE (xs : List Nat) (p s : Int) : Int := if ((1 ≤ s ∧ s ≤ 8) ∧ (0 ≤ p ∧ p ≤ xs.length)) then (if s ≤ xs.length - p then 0 else 10) else 2

theorem wide_bad (a : Option Addr) (xs : List Nat) (L cap : Nat) (p s : Int) (w : World) (hm : L ≤ 9223372036854775807) (hL : L = xs.length) (h : ¬ ((1 ≤ s ∧ s ≤ 8) ∧ (0 ≤ p ∧ p ≤ xs.length))) :
    Calls Try.prog 22 #[.slice a L cap, .int .i64 p, .int .i64 s] w fun e w' => e = .returned (.tuple #[.int .u64 0, .int .i64 0, .int .i64 2]) ∧ w = w' := by
  rw [← hL] at h
  clear hL
  by_cases hs : 1 ≤ s ∧ s ≤ 8
  · by_cases hp : p < 0
    · go_enter Try.func22, Try.ntmps22
      go_wp2_with (go_at_call 28; refine (isSize_any _ w).mono ?_; rw [decide_eq_true hs]; rintro e w' ⟨rfl, rfl⟩)
      go_ret3
      exact ⟨rfl, rfl⟩
    · have hp2 : (L : Int) < p := by omega
      go_enter Try.func22, Try.ntmps22
      go_wp2_with (go_at_call 28; refine (isSize_any _ w).mono ?_; rw [decide_eq_true hs]; rintro e w' ⟨rfl, rfl⟩)
      go_ret3
      exact ⟨rfl, rfl⟩
  · go_enter Try.func22, Try.ntmps22
    go_wp2_with (go_at_call 28; refine (isSize_any _ w).mono ?_; rw [decide_eq_false hs]; rintro e w' ⟨rfl, rfl⟩)
    go_ret3
    exact ⟨rfl, rfl⟩

theorem wide_short (a : Option Addr) (L cap : Nat) (p s : Int) (w : World) (hm : L ≤ 9223372036854775807) (hs : 1 ≤ s ∧ s ≤ 8) (h0 : 0 ≤ p) (h1 : p ≤ L) (h2 : (L : Int) - p < s) :
    Calls Try.prog 22 #[.slice a L cap, .int .i64 p, .int .i64 s] w fun e w' => e = .returned (.tuple #[.int .u64 0, .int .i64 0, .int .i64 10]) ∧ w = w' := by
  go_enter Try.func22, Try.ntmps22
  go_wp2_with (go_at_call 28; refine (isSize_any _ w).mono ?_; rw [decide_eq_true hs]; rintro e w' ⟨rfl, rfl⟩)
  go_ret3
  exact ⟨rfl, rfl⟩

theorem wid_step (ys : List Nat) (k c : Nat) (hk : k < ys.length) (hc : c = ys.getD k 0) : wid (ys.take (k + 1)) = wid (ys.take k) + c * 256 ^ k := by
  rw [List.take_succ_eq_append_getElem hk, wid_snoc, List.length_take, Nat.min_eq_left (by omega), hc]
  simp [List.getD, hk]
theorem wide_or (acc k c : Nat) (hacc : acc < 256 ^ k) (hk : k ≤ 7) (hc : c < 256) :
    bits BinOp.or IntKind.u64 (acc : Int) (IntKind.u64.wrap ((c : Int) * 2 ^ (8 * k))) = ((acc + c * 256 ^ k : Nat) : Int) := by
  have e2 : (2 : Nat) ^ (8 * k) = 256 ^ k := by rw [Nat.pow_mul]
  have hp : 256 ^ k ≤ 256 ^ 7 := Nat.pow_le_pow_right (by omega) hk
  have hb : c * 256 ^ k ≤ 255 * 256 ^ 7 := Nat.mul_le_mul (by omega) hp
  have e3 : ((c : Nat) : Int) * 2 ^ (8 * k) = ((c * 2 ^ (8 * k) : Nat) : Int) := by simp
  rw [e3, u64_id _ (by rw [e2]; omega), bits_or_u64_nat _ _ (by omega) (by rw [e2]; omega), or_add _ _ _ (by rw [e2]; exact hacc), e2]

def WideRel (xs : List Nat) (p s : Nat) (n i : Value) : Prop :=
  ∃ k : Nat, k ≤ s ∧ i = .int .i64 k ∧ n = .int .u64 ((wid ((xs.drop p).take k) : Nat) : Int)

set_option maxRecDepth 100000 in
set_option maxHeartbeats 1000000 in
theorem wide_row (b off L cap : Nat) (xs : List Nat) (p s : Nat) (w : World) (hL : L = xs.length) (hb : ∀ c ∈ xs, c < 256) (hm : L ≤ 9223372036854775807)
    (hc : ∀ i, i < xs.length → w.cell? ⟨b, off + i, none⟩ = some (.int .u8 ((xs.getD i 0 : Nat) : Int))) (hs1 : 1 ≤ s) (hs8 : s ≤ 8) (hp : p + s ≤ L) :
    Calls Try.prog 22 #[.slice (some ⟨b, off, none⟩) L cap, .int .i64 p, .int .i64 s] w fun e w' =>
      e = .returned (.tuple #[.int .u64 (wid ((xs.drop p).take s) : Nat), .int .i64 ((p : Int) + s), .int .i64 0]) ∧ w = w' := by
  have HC : Hid (∀ i, i < xs.length → w.cell? ⟨b, off + i, none⟩ = some (.int .u8 ((xs.getD i 0 : Nat) : Int))) := hc
  have HB : Hid (∀ i, i < xs.length → xs.getD i 0 < 256) := by
    intro i hi
    exact hb _ (by simp [List.getD, hi])
  have HW : Hid (∀ k, wid ((xs.drop p).take k) < 256 ^ ((xs.drop p).take k).length) := fun k => wid_lt _ fun c hc => hb c (List.mem_of_mem_drop (List.mem_of_mem_take hc))
  have HL : Hid (L = xs.length) := hL
  have hs : 1 ≤ (s : Int) ∧ (s : Int) ≤ 8 := by omega
  clear hc hL hb
  go_enter Try.func22, Try.ntmps22
  go_wp2_with (go_at_call 28; refine (isSize_any _ w).mono ?_; rw [decide_eq_true hs]; rintro e w' ⟨rfl, rfl⟩)
  go_loop [9, 31] (fun n i => WideRel xs p s n i) (fun _ i => s - (intOf i).toNat)
  case atStart => exact ⟨0, by omega, rfl, rfl⟩
  case round =>
    obtain ⟨k, hk, rfl, rfl⟩ := hrel
    by_cases hlt : k < s
    · obtain ⟨c, hcc⟩ : ∃ c, c = xs.getD (p + k) 0 := ⟨_, rfl⟩
      have hcell : w.cell? ⟨b, off + (p + k), none⟩ = some (.int .u8 (c : Int)) := by rw [hcc]; exact HC.out (p + k) (by rw [← HL.out]; omega)
      have h256 : c < 256 := by rw [hcc]; exact HB.out (p + k) (by rw [← HL.out]; omega)
      have hlen : k < (xs.drop p).length := by have := HL.out; simp; omega
      have e1 : wid ((xs.drop p).take (k + 1)) = wid ((xs.drop p).take k) + c * 256 ^ k := wid_step _ k c hlen (by rw [hcc]; simp [List.getD])
      have hw := HW.out k
      rw [List.length_take, Nat.min_eq_left (by omega)] at hw
      have HWK : Hid (wid ((xs.drop p).take k) < 256 ^ k) := hw
      have HE : Hid (wid ((xs.drop p).take (k + 1)) = wid ((xs.drop p).take k) + c * 256 ^ k) := e1
      clear e1 hw hcc hlen
      go_wp2
      go_round
      case rel => exact ⟨k + 1, by omega, by go_num, by rw [HE.out, wide_or _ k c HWK.out (by omega) h256]⟩
      case measure => simp [intOf]; omega
    · have hks : k = s := by omega
      subst hks
      go_wp2
      go_ret3
      exact ⟨rfl, rfl⟩

theorem wide_any (a : Option Addr) (L cap : Nat) (xs : List Nat) (p s : Int) (w : World) (hl : Lies w a xs) (hL : L = xs.length) :
    Calls Try.prog 22 #[.slice a L cap, .int .i64 p, .int .i64 s] w fun e w' =>
      e = .returned (.tuple #[.int .u64 (wN xs p s : Nat), .int .i64 (wP xs p s), .int .i64 (wE xs p s)]) ∧ w = w' := by
  obtain ⟨hb, hm, hl⟩ := hl
  rw [← hL] at hm
  unfold wN wP wE
  by_cases ho : ((1 ≤ s ∧ s ≤ 8) ∧ (0 ≤ p ∧ p ≤ xs.length))
  · obtain ⟨hs, hp0, hp1⟩ := ho
    have ho : ((1 ≤ s ∧ s ≤ 8) ∧ (0 ≤ p ∧ p ≤ xs.length)) := ⟨hs, hp0, hp1⟩
    by_cases h2 : s ≤ (xs.length : Int) - p
    · simp only [ho, h2, and_self, if_true]
      obtain ⟨q, rfl⟩ := Int.eq_ofNat_of_zero_le hp0
      obtain ⟨z, rfl⟩ := Int.eq_ofNat_of_zero_le (show 0 ≤ s by omega)
      rw [Int.toNat_natCast, Int.toNat_natCast]
      rcases hl with rfl | ⟨b, off, rfl, hc⟩
      · simp at h2; omega
      · exact wide_row b off L cap xs q z w hL hb hm hc (by omega) (by omega) (by omega)
    · simp only [ho, h2, and_false, if_false]
      exact wide_short a L cap p s w hm hs hp0 (by omega) (by omega)
  · simp only [ho, false_and, if_false]
    exact wide_bad a xs L cap p s w hm hL ho
end Go.Proofs.Ytekoeeneebolbaa
