/-
  CONTRACTS of wire.Put, PutInt, Fixed.
-/
import Derived.Test.YtibcakmodkbliaaV3
namespace Go.Proofs.Ytibcakmodkbliaa.Q01
open Go.RowKit

theorem info8 : (Try.prog.info? 5).map (fun i => (i.zero, i.size, i.bytes)) = some (some (.int .u8 0), 1, 1) := by kernel_rfl

def nums (xs : List Nat) : List Value := xs.map fun (c : Nat) => Value.int .u8 (c : Int)
theorem nums_length (xs : List Nat) : (nums xs).length = xs.length := by simp [nums]

/-- A row that is filled from the left. -/
def fillK (f : Nat → Nat) (s k : Nat) : List Value := (List.range s).map fun i => Value.int .u8 (if i < k then ((f i : Nat) : Int) else 0)
theorem fillK_length (f : Nat → Nat) (s k : Nat) : (fillK f s k).length = s := by simp [fillK]
theorem fillK_made (f : Nat → Nat) (s : Nat) : (madeCells #[Value.int .u8 0] s).toList = fillK f s 0 := by
  rw [toList_madeCells_one]
  apply List.ext_getElem
  · simp [fillK]
  · intro i h1 h2; simp [fillK]
theorem fillK_set (f : Nat → Nat) (s k : Nat) (x : Int) (hx : x = f k) : (fillK f s k).set k (.int .u8 x) = fillK f s (k + 1) := by
  subst hx
  apply List.ext_getElem
  · simp [fillK]
  · intro i h1 h2
    simp only [fillK, List.getElem_set, List.getElem_map, List.getElem_range]
    by_cases e : k = i
    · subst e; simp
    · rw [if_neg e]; congr 1
      by_cases h : i < k
      · rw [if_pos h, if_pos (by omega)]
      · rw [if_neg h, if_neg (by omega)]
theorem fillK_full (f : Nat → Nat) (s : Nat) : fillK f s s = nums ((List.range s).map f) := by
  simp only [fillK, nums, List.map_map]
  apply List.map_congr_left
  intro i hi
  simp at hi
  simp [hi]
theorem fillK_get (f : Nat → Nat) (s k i : Nat) (h : i < s) : (fillK f s k)[i]? = some (.int .u8 (if i < k then ((f i : Nat) : Int) else 0)) := by
  simp [fillK, h]

def putF (n : Nat) (i : Nat) : Nat := n / 128 ^ i % 128 + 128
theorem put_end (n : Nat) (x : Int) (hx : x = ((n / 128 ^ ((putN n).length - 1) % 128 : Nat) : Int)) : (fillK (putF n) (putN n).length (putN n).length).set ((putN n).length - 1) (.int .u8 x) = nums (putN n) := by
  subst hx
  have hp := plen_pos n
  rw [fillK_full]
  apply List.ext_getElem
  · simp [nums]
  · intro i h1 h2
    have hi : i < (putN n).length := by simpa [nums] using h2
    have hg := putN_get n i hi
    have hg' : (putN n)[i] = n / 128 ^ i % 128 + if i + 1 < (putN n).length then 128 else 0 := by simpa [List.getD, hi] using hg
    simp only [nums, List.getElem_set, List.getElem_map, List.getElem_range, hg', putF]
    by_cases e : (putN n).length - 1 = i
    · rw [if_pos e, if_neg (by omega), e]; simp
    · rw [if_neg e, if_pos (by omega)]

set_option maxRecDepth 10000 in
theorem or128 : ∀ x : Nat, x < 256 → x ||| 128 = x % 128 + 128 := by decide
set_option maxRecDepth 10000 in
theorem and127 : ∀ x : Nat, x < 256 → x &&& 127 = x % 128 := by decide
theorem shr_nat (n c : Nat) : (n : Int) / 2 ^ c = ((n / 2 ^ c : Nat) : Int) := by simp
theorem put_byte (n k : Nat) : bits BinOp.or IntKind.u8 ((n : Int) / 2 ^ (7 * k) % 256) 128 = (putF n k : Nat) := by
  have e : (n : Int) / 2 ^ (7 * k) % 256 = ((n / 2 ^ (7 * k) % 256 : Nat) : Int) := by simp
  have h := u8_or_nat (n / 2 ^ (7 * k) % 256) 128 (by omega) (by omega)
  rw [e]
  refine h.trans ?_
  have e2 : (2 : Nat) ^ (7 * k) = 128 ^ k := by rw [Nat.pow_mul]
  rw [or128 _ (by omega), e2, putF]
  congr 1
  omega
theorem put_low (n k : Nat) : bits BinOp.and IntKind.u8 ((putF n k : Nat) : Int) 127 = ((n / 128 ^ k % 128 : Nat) : Int) := by
  have h := u8_and_nat (putF n k) 127 (by unfold putF; omega) (by omega)
  refine h.trans ?_
  rw [and127 _ (by unfold putF; omega), putF]
  congr 1
  omega

set_option maxHeartbeats 1000000 in
theorem put_any (n : Nat) (w : World) (h : n < 18446744073709551616) :
    Calls Try.prog 32 #[.int .u64 n] w fun e w' => ∃ g, e = .returned (.slice (some ⟨g, 0, none⟩) (putN n).length (putN n).length) ∧
      w'.ownsRow w.heap.size 5 1 (.slice (some ⟨g, 0, none⟩) (putN n).length (putN n).length) (putN n).length (nums (putN n)) ∧ Below w.heap.size w w' := by
  obtain ⟨i8, hi, hz0, hz1, hz2⟩ := info_parts info8
  have hor : bits BinOp.or IntKind.u64 (n : Int) 1 = ((n ||| 1 : Nat) : Int) := bits_or_u64_nat n 1 h (by omega)
  have HO : Hid (bits BinOp.or IntKind.u64 (n : Int) 1 = ((n ||| 1 : Nat) : Int)) := hor
  have hlt : n ||| 1 < 18446744073709551616 := by rw [or_one]; omega
  have h64 : bitLen (n ||| 1) ≤ 64 := bitLen_le_of_lt (by omega)
  have hs := plen_eq n
  have hp := plen_pos n
  have h10 := plen_ten h
  have hlast := putN_last n
  have hend := put_end n
  have hget := fillK_get (putF n)
  have hset := fillK_set (putF n) (putN n).length
  have hmade := fillK_made (putF n) (putN n).length
  obtain ⟨L, hL⟩ : ∃ L, L = bitLen (n ||| 1) := ⟨_, rfl⟩
  rw [← hL] at hs h64
  obtain ⟨s, hS⟩ : ∃ s, s = (putN n).length := ⟨_, rfl⟩
  rw [← hS] at hs hp h10 hlast hend hset hmade ⊢
  have HL : Hid (L = bitLen (n ||| 1)) := hL
  have HE : Hid (∀ x : Int, x = ((n / 128 ^ (s - 1) % 128 : Nat) : Int) → (fillK (putF n) s s).set (s - 1) (.int .u8 x) = nums (putN n)) := hend
  have HG : Hid (∀ s k i : Nat, i < s → (fillK (putF n) s k)[i]? = some (.int .u8 (if i < k then ((putF n i : Nat) : Int) else 0))) := hget
  have HT : Hid (∀ (k : Nat) (x : Int), x = putF n k → (fillK (putF n) s k).set k (.int .u8 x) = fillK (putF n) s (k + 1)) := hset
  have hm : i8.bytes * s ≤ 281474976710656 := by rw [hz2]; omega
  have hq : ((L : Int) + 6) / 7 = (s : Int) := by omega
  clear hor hL hS hs hend hget hset
  go_enter Try.func32, Try.ntmps32
  go_wp2_with (first | (go_at_call 41; refine (len64_of _ (n ||| 1) HO.out hlt w).mono ?_; rw [← HL.out]; rintro e w' ⟨rfl, rfl⟩) | (at_make; simp only [hq]; refine wpList_make_full _ rfl _ _ 29 rfl w.heap.size 5 i8 (.int .u8 0) 1 Try.underlying29 hi hz0 hz1 _ _ _ _ s rfl rfl rfl rfl hm (by unfold maxLen; omega) (Nat.le_refl _) ?_))
  intro w1 hown hgrow
  have hbel : Below w.heap.size w w1 := (Below.refl _ _).grown hgrow (Nat.le_refl _) (by simp)
  clear hmade hm hi hz0 hz1 hz2 hgrow
  go_wp2
  go_loopw [14] (fun i wr => ∃ k : Nat, k ≤ s ∧ i = .int .i64 k ∧ wr.ownsRow w.heap.size 5 1 (.slice (some ⟨w.heap.size, 0, none⟩) s s) s (fillK (putF n) s k) ∧ Below w.heap.size w wr) (fun i _ => s - (intOf i).toNat)
  case atStart => exact ⟨0, Nat.zero_le _, rfl, hown, hbel⟩
  case round =>
    obtain ⟨k, hk, rfl, hownr, hbelr⟩ := hrel
    by_cases hlt' : k < s
    · have hc : wr.cell? ⟨w.heap.size, k, none⟩ = some (.int .u8 (if k < k then ((putF n k : Nat) : Int) else 0)) := by rw [hownr.cellAt k (by omega), HG.out s k k hlt']
      have hf := hownr.frozenAt k
      go_wp2
      go_roundw
      case rel =>
        refine ⟨k + 1, by omega, by go_num, ?_, hbelr.setCell (Nat.le_refl _) _⟩
        have st := (hownr.stored k (.int .u8 (putF n k : Nat))).1
        rw [HT.out k _ rfl] at st
        rw [put_byte n k]
        exact st
      case measure => simp [intOf]; omega
    · have hks : k = s := by omega
      subst hks
      have hc : wr.cell? ⟨w.heap.size, k - 1, none⟩ = some (.int .u8 (putF n (k - 1) : Nat)) := by rw [hownr.cellAt (k - 1) (by omega), HG.out k k (k - 1) (by omega), if_pos (by omega)]
      have hf := hownr.frozenAt (k - 1)
      go_wp2
      go_ret
      refine ⟨w.heap.size, rfl, ?_, hbelr.setCell (Nat.le_refl _) _⟩
      have st := (hownr.stored (k - 1) (.int .u8 ((n / 128 ^ (k - 1) % 128 : Nat) : Int))).1
      rw [HE.out _ rfl] at st
      rw [put_low n (k - 1)]
      exact st

theorem put_of (x : Int) (n : Nat) (hx : x = n) (h : n < 18446744073709551616) (w : World) :
    Calls Try.prog 32 #[.int .u64 x] w fun e w' => ∃ g, e = .returned (.slice (some ⟨g, 0, none⟩) (putN n).length (putN n).length) ∧
      w'.ownsRow w.heap.size 5 1 (.slice (some ⟨g, 0, none⟩) (putN n).length (putN n).length) (putN n).length (nums (putN n)) ∧ Below w.heap.size w w' := by
  subst hx; exact put_any n w h

end Go.Proofs.Ytibcakmodkbliaa.Q01
