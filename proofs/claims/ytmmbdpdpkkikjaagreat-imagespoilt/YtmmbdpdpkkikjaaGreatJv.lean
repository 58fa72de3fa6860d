/-
  THE PLAIN MATHEMATICS of layer 1 (wire): numbers as bytes, there and back; the sum and why one other byte makes another sum. No Go in sight.
  CONTRACTS of the small functions: bits.Len64 (math/bits).
  CONTRACTS of the small functions: wire.isSize, wire.addBit.
  CONTRACTS of wire.Sum.
  THE PLAIN MATHEMATICS of layer 13 (image): modules as bytes, there and back. No Go in sight.
  CONTRACTS of wire.Put, PutInt, Fixed.
-/
import Derived.Laws.MathBits
import Derived.Laws.Bits64b
import Derived.Laws.BitsAllLaws
import Derived.Test.YtmmbdpdpkkikjaaGreatProg
import Derived.WalkKit
import Derived.WalkLawsBesides
import Derived.Handy
import Derived.Outline
import Derived.Test.YtmmbdpdpkkikjaaGreatJbs
namespace Go.Proofs.YtmmbdpdpkkikjaaGreat.Q01

/-! ### The short form -/
def putFuel : Nat → Nat → List Nat
  | 0, n => [n]
  | f + 1, n => if n < 128 then [n] else (n % 128 + 128) :: putFuel f (n / 128)
theorem putFuel_eq : ∀ f g n, n ≤ f → n ≤ g → putFuel f n = putFuel g n := by
  intro f
  induction f with
  | zero =>
    intro g n hf _
    have hn : n = 0 := by omega
    subst hn
    cases g with
    | zero => rfl
    | succ g => simp [putFuel]
  | succ f ih =>
    intro g n hf hg
    cases g with
    | zero =>
      have hn : n = 0 := by omega
      subst hn
      simp [putFuel]
    | succ g =>
      simp only [putFuel]
      by_cases h : n < 128
      · rw [if_pos h, if_pos h]
      · rw [if_neg h, if_neg h, ih g (n / 128) (by omega) (by omega)]
def putN (n : Nat) : List Nat := putFuel n n

theorem putN_lt {n : Nat} (h : n < 128) : putN n = [n] := by
  unfold putN
  cases n with
  | zero => rfl
  | succ k => simp [putFuel, h]
theorem putN_ge {n : Nat} (h : 128 ≤ n) : putN n = (n % 128 + 128) :: putN (n / 128) := by
  unfold putN
  cases n with
  | zero => omega
  | succ k =>
    simp only [putFuel]
    rw [if_neg (by omega), putFuel_eq k ((k + 1) / 128) ((k + 1) / 128) (by omega) (by omega)]

theorem putN_byte : ∀ n c, c ∈ putN n → c < 256 := by
  intro n
  induction n using Nat.strongRecOn with
  | ind n ih =>
    intro c hc
    by_cases h : n < 128
    · rw [putN_lt h] at hc; simp at hc; omega
    · rw [putN_ge (by omega)] at hc
      simp at hc
      rcases hc with rfl | hc
      · omega
      · exact ih (n / 128) (by omega) c hc

theorem or_one (n : Nat) : n ||| 1 = n / 2 * 2 + 1 := by
  have h1 : (n ||| 1) / 2 = n / 2 := by rw [Nat.or_div_two]; simp
  have h2 : (n ||| 1) % 2 = 1 := by simp
  omega

theorem bitLen_pos {n : Nat} (h : n ≠ 0) : 1 ≤ bitLen n := by unfold bitLen; rw [if_neg h]; omega
theorem bitLen_step {n : Nat} (h : 2 ≤ n) : bitLen n = 1 + bitLen (n / 2) := by
  have := bitLen_shift n 1 (by simp; omega)
  simpa using this
theorem bitLen_or_one {n : Nat} (h : n ≠ 0) : bitLen (n ||| 1) = bitLen n := by
  rw [or_one]
  by_cases h1 : n = 1
  · subst h1; rfl
  · rw [bitLen_step (n := n / 2 * 2 + 1) (by omega), bitLen_step (n := n) (by omega)]
    congr 2; omega
theorem bitLen_le_of_lt {n b : Nat} (h : n < 2 ^ b) : bitLen n ≤ b := by
  unfold bitLen
  split
  · omega
  · rename_i h0
    have := (Nat.log2_lt h0).2 h
    omega

theorem plen_eq : ∀ n, (putN n).length = (bitLen (n ||| 1) + 6) / 7 := by
  intro n
  induction n using Nat.strongRecOn with
  | ind n ih =>
    by_cases h : n < 128
    · rw [putN_lt h]
      have h1 : bitLen (n ||| 1) ≤ 7 := bitLen_le_of_lt (by rw [or_one]; omega)
      have h2 : 1 ≤ bitLen (n ||| 1) := bitLen_pos (by rw [or_one]; omega)
      simp; omega
    · rw [putN_ge (by omega), List.length_cons, ih (n / 128) (by omega)]
      have e : (n ||| 1) / 2 ^ 7 = n / 128 := by rw [or_one]; omega
      have h1 : bitLen (n ||| 1) = 7 + bitLen ((n ||| 1) / 2 ^ 7) := bitLen_shift _ 7 (by rw [e]; omega)
      rw [h1, e, bitLen_or_one (n := n / 128) (by omega)]
      omega

theorem plen_pos (n : Nat) : 1 ≤ (putN n).length := by
  by_cases h : n < 128
  · rw [putN_lt h]; simp
  · rw [putN_ge (by omega)]; simp

theorem plen_le : ∀ n k, n < 128 ^ (k + 1) → (putN n).length ≤ k + 1 := by
  intro n
  induction n using Nat.strongRecOn with
  | ind n ih =>
    intro k hk
    by_cases h : n < 128
    · rw [putN_lt h]; simp
    · rw [putN_ge (by omega), List.length_cons]
      cases k with
      | zero => simp at hk; omega
      | succ k =>
        have := ih (n / 128) (by omega) k (by rw [Nat.pow_succ] at hk; omega)
        omega

theorem plen_ten {n : Nat} (h : n < 18446744073709551616) : (putN n).length ≤ 10 := plen_le n 9 (by omega)

theorem plen_mono : ∀ a b, a ≤ b → (putN a).length ≤ (putN b).length := by
  intro a
  induction a using Nat.strongRecOn with
  | ind a ih =>
    intro b hb
    by_cases h : a < 128
    · rw [putN_lt h]; exact plen_pos b
    · rw [putN_ge (by omega), putN_ge (n := b) (by omega), List.length_cons, List.length_cons]
      have := ih (a / 128) (by omega) (b / 128) (by omega)
      omega

theorem putN_get : ∀ n i, i < (putN n).length → (putN n).getD i 0 = n / 128 ^ i % 128 + if i + 1 < (putN n).length then 128 else 0 := by
  intro n
  induction n using Nat.strongRecOn with
  | ind n ih =>
    intro i hi
    by_cases h : n < 128
    · rw [putN_lt h] at hi ⊢
      simp at hi; subst hi
      simp; omega
    · rw [putN_ge (by omega)] at hi ⊢
      cases i with
      | zero =>
        have := plen_pos (n / 128)
        simp [show putN (n / 128) ≠ [] from fun e => by rw [e] at this; simp at this]
      | succ i =>
        have := ih (n / 128) (by omega) i (by simpa using hi)
        simp only [List.getD_cons_succ, List.length_cons, this, Nat.pow_succ]
        rw [Nat.div_div_eq_div_mul, Nat.mul_comm 128]
        simp

theorem putN_last : ∀ n, n / 128 ^ ((putN n).length - 1) < 128 := by
  intro n
  induction n using Nat.strongRecOn with
  | ind n ih =>
    by_cases h : n < 128
    · rw [putN_lt h]; simpa using h
    · have hp := plen_pos (n / 128)
      have := ih (n / 128) (by omega)
      rw [putN_ge (by omega), List.length_cons]
      rw [Nat.div_div_eq_div_mul] at this
      have e : (putN (n / 128)).length + 1 - 1 = ((putN (n / 128)).length - 1) + 1 := by omega
      rw [e, Nat.pow_succ, Nat.mul_comm]
      exact this

/-! ### Reading -/
def getS (i acc : Nat) : List Nat → Nat × Nat × Nat
  | [] => (0, 0, 10)
  | c :: r => if (i = 9 ∧ 1 < c) ∨ (0 < i ∧ c = 0) then (0, 0, 11) else if c < 128 then (acc + c * 128 ^ i, i + 1, 0) else getS (i + 1) (acc + (c % 128) * 128 ^ i) r

theorem getS_put : ∀ n i acc rest, n * 128 ^ i < 18446744073709551616 → (i = 0 ∨ n ≠ 0) → i ≤ 9 → getS i acc (putN n ++ rest) = (acc + n * 128 ^ i, i + (putN n).length, 0) := by
  intro n
  induction n using Nat.strongRecOn with
  | ind n ih =>
    intro i acc rest hn h0 hi
    by_cases h : n < 128
    · rw [putN_lt h]
      have hno : ¬ ((i = 9 ∧ 1 < n) ∨ (0 < i ∧ n = 0)) := by
        rintro (⟨rfl, h1⟩ | ⟨h1, h2⟩)
        · simp at hn; omega
        · omega
      simp [getS, hno, h]
    · rw [putN_ge (by omega)]
      have hi9 : i ≠ 9 := by rintro rfl; simp at hn; omega
      have hno : ¬ ((i = 9 ∧ 1 < n % 128 + 128) ∨ (0 < i ∧ n % 128 + 128 = 0)) := by omega
      have hpow : n / 128 * 128 ^ (i + 1) ≤ n * 128 ^ i := by
        rw [Nat.pow_succ, Nat.mul_comm (128 ^ i), ← Nat.mul_assoc]
        exact Nat.mul_le_mul_right _ (Nat.div_mul_le_self n 128)
      have := ih (n / 128) (by omega) (i + 1) (acc + (n % 128) * 128 ^ i) rest (by omega) (by omega) (by omega)
      simp only [List.cons_append, getS, hno, if_false, show ¬ (n % 128 + 128 < 128) by omega, List.length_cons, Nat.add_mod_right, Nat.mod_mod, this]
      refine Prod.ext ?_ (Prod.ext ?_ rfl)
      · show acc + n % 128 * 128 ^ i + n / 128 * 128 ^ (i + 1) = acc + n * 128 ^ i
        have e : n * 128 ^ i = n % 128 * 128 ^ i + n / 128 * 128 ^ (i + 1) := by
          rw [Nat.pow_succ, Nat.mul_comm (128 ^ i) 128, ← Nat.mul_assoc, ← Nat.add_mul]
          congr 1; omega
        omega
      · show i + 1 + _ = i + (_ + 1); omega

theorem getS_short : ∀ n i acc k, i + (putN n).length ≤ 10 → (i = 0 ∨ n ≠ 0) → k < (putN n).length → getS i acc ((putN n).take k) = (0, 0, 10) := by
  intro n
  induction n using Nat.strongRecOn with
  | ind n ih =>
    intro i acc k hn h0 hk
    cases k with
    | zero => simp [getS]
    | succ k =>
      by_cases h : n < 128
      · rw [putN_lt h] at hk; simp at hk
      · rw [putN_ge (by omega)] at hk hn ⊢
        simp only [List.length_cons] at hk hn
        have hp := plen_pos (n / 128)
        have hno : ¬ ((i = 9 ∧ 1 < n % 128 + 128) ∨ (0 < i ∧ n % 128 + 128 = 0)) := by omega
        simp only [List.take_succ_cons, getS, hno, if_false, show ¬ (n % 128 + 128 < 128) by omega]
        exact ih (n / 128) (by omega) (i + 1) _ k (by omega) (by omega) (by omega)

/-- What is read, and that its short form is the bytes that were read. -/
theorem getS_once : ∀ (l : List Nat) (i acc : Nat), i ≤ 9 → (∀ c ∈ l, c < 256) →
    ((getS i acc l).2.2 ≠ 0 ∧ (getS i acc l).1 = 0 ∧ (getS i acc l).2.1 = 0) ∨
    ((getS i acc l).2.2 = 0 ∧ ∃ m, (getS i acc l).1 = acc + m * 128 ^ i ∧ i < (getS i acc l).2.1 ∧ (getS i acc l).2.1 ≤ i + l.length ∧ putN m = l.take ((getS i acc l).2.1 - i) ∧ (0 < i → m ≠ 0) ∧ m * 128 ^ i < 18446744073709551616) := by
  intro l
  induction l with
  | nil => intro i acc _ _; exact .inl ⟨by simp [getS], rfl, rfl⟩
  | cons c r ih =>
    intro i acc hi hb
    have hc : c < 256 := hb c (by simp)
    by_cases hno : (i = 9 ∧ 1 < c) ∨ (0 < i ∧ c = 0)
    · exact .inl (by simp [getS, hno])
    · by_cases h : c < 128
      · refine .inr ?_
        simp only [getS, hno, h, if_false, if_true]
        refine ⟨trivial, c, rfl, by omega, by simp, ?_, by omega, ?_⟩
        · rw [putN_lt h, show i + 1 - i = 1 by omega]; simp
        · rcases (by omega : i ≤ 8 ∨ i = 9) with h8 | rfl
          · have := Nat.mul_le_mul_left c (Nat.pow_le_pow_right (show 0 < 128 by omega) h8)
            omega
          · simp; omega
      · simp only [getS, hno, h, if_false]
        have hi9 : i ≠ 9 := by omega
        rcases ih (i + 1) (acc + c % 128 * 128 ^ i) (by omega) (fun x hx => hb x (by simp [hx])) with hl | ⟨h1, m, h2, h3, h4, h5, h6, h7⟩
        · exact .inl hl
        · refine .inr ⟨h1, m * 128 + c % 128, ?_, by omega, by simp; omega, ?_, by omega, ?_⟩
          · rw [h2, Nat.add_mul, Nat.pow_succ]
            have : m * (128 ^ i * 128) = m * 128 * 128 ^ i := by rw [Nat.mul_comm (128 ^ i), Nat.mul_assoc]
            omega
          · have hm := h6 (by omega)
            rw [putN_ge (by omega), show (m * 128 + c % 128) / 128 = m by omega, show (m * 128 + c % 128) % 128 + 128 = c by omega, h5]
            rw [show (getS (i + 1) (acc + c % 128 * 128 ^ i) r).2.1 - i = ((getS (i + 1) (acc + c % 128 * 128 ^ i) r).2.1 - (i + 1)) + 1 by omega, List.take_succ_cons]
          · rw [Nat.pow_succ] at h7
            have e : m * (128 ^ i * 128) = m * 128 * 128 ^ i := by rw [Nat.mul_comm (128 ^ i), Nat.mul_assoc]
            rw [e] at h7
            rw [Nat.add_mul]
            have hp : 0 < 128 ^ i := Nat.pow_pos (by omega)
            have hlt : c % 128 * 128 ^ i < 128 * 128 ^ i := Nat.mul_lt_mul_of_pos_right (by omega) hp
            -- both are multiples of 128^(i+1) resp. below it, and 2^64 is a multiple of 128^(i+1)
            have hdiv : ∃ q, 18446744073709551616 = q * (128 * 128 ^ i) := by
              refine ⟨18446744073709551616 / (128 * 128 ^ i), ?_⟩
              have : i = 0 ∨ i = 1 ∨ i = 2 ∨ i = 3 ∨ i = 4 ∨ i = 5 ∨ i = 6 ∨ i = 7 ∨ i = 8 := by omega
              rcases this with rfl | rfl | rfl | rfl | rfl | rfl | rfl | rfl | rfl <;> rfl
            obtain ⟨q, hq⟩ := hdiv
            have e2 : m * 128 * 128 ^ i = m * (128 * 128 ^ i) := by rw [Nat.mul_assoc]
            rw [hq, e2] at h7
            have hmq : m < q := Nat.lt_of_mul_lt_mul_right h7
            have : (m + 1) * (128 * 128 ^ i) ≤ q * (128 * 128 ^ i) := Nat.mul_le_mul_right _ (by omega)
            rw [Nat.add_mul, Nat.one_mul] at this
            rw [hq, e2]
            omega

/-! ### Signed numbers -/
def zig (u : Nat) : Int := if u % 2 = 1 then -((u / 2 : Nat) : Int) - 1 else ((u / 2 : Nat) : Int)
def zag (n : Int) : Nat := if n < 0 then (-2 * n - 1).toNat else (2 * n).toNat
theorem zig_zag (n : Int) : zig (zag n) = n := by
  unfold zig zag; split <;> split <;> omega
theorem zag_zig (u : Nat) : zag (zig u) = u := by
  unfold zig zag; split <;> split <;> omega
theorem zag_lt {n : Int} (h1 : -9223372036854775808 ≤ n) (h2 : n < 9223372036854775808) : zag n < 18446744073709551616 := by
  unfold zag; split <;> omega
theorem zig_bd {u : Nat} (h : u < 18446744073709551616) : -9223372036854775808 ≤ zig u ∧ zig u < 9223372036854775808 := by
  unfold zig; split <;> omega

/-! ### Fixed forms -/
def fixN (n k : Nat) : List Nat := (List.range k).map fun i => n / 256 ^ i % 256
def wid : List Nat → Nat
  | [] => 0
  | c :: r => c + 256 * wid r
theorem fixN_length (n k : Nat) : (fixN n k).length = k := by simp [fixN]
theorem fixN_byte (n k : Nat) : ∀ c ∈ fixN n k, c < 256 := by
  intro c hc; simp [fixN] at hc; obtain ⟨i, _, rfl⟩ := hc; omega
theorem fixN_take (n k j : Nat) (h : j ≤ k) : (fixN n k).take j = fixN n j := by
  unfold fixN; rw [← List.map_take, List.take_range, Nat.min_eq_left h]
theorem wid_snoc : ∀ (l : List Nat) (c : Nat), wid (l ++ [c]) = wid l + c * 256 ^ l.length := by
  intro l
  induction l with
  | nil => intro c; simp [wid]
  | cons a r ih => intro c; simp only [List.cons_append, wid, ih, List.length_cons, Nat.pow_succ]; rw [Nat.mul_add, ← Nat.add_assoc]; congr 1; rw [Nat.mul_comm 256, Nat.mul_assoc]
theorem wid_lt : ∀ (l : List Nat), (∀ c ∈ l, c < 256) → wid l < 256 ^ l.length := by
  intro l
  induction l with
  | nil => intro _; simp [wid]
  | cons a r ih =>
    intro h
    have := ih fun c hc => h c (by simp [hc])
    have ha := h a (by simp)
    simp only [wid, List.length_cons, Nat.pow_succ]; omega
theorem fixN_succ (n k : Nat) : fixN n (k + 1) = fixN n k ++ [n / 256 ^ k % 256] := by simp [fixN, List.range_succ]
theorem wid_fixN (n : Nat) : ∀ k, wid (fixN n k) = n % 256 ^ k := by
  intro k
  induction k with
  | zero => simp [fixN, wid]; omega
  | succ k ih =>
    rw [fixN_succ, wid_snoc, ih, fixN_length, Nat.pow_succ, Nat.mod_mul]
    rw [Nat.mul_comm]

/-! ### The sum -/
def poly : Nat := 3988292384
def crcBit (s b : Nat) : Nat := if (s + b) % 2 = 1 then (s / 2) ^^^ poly else s / 2
def crcBits (c : Nat) : Nat → Nat → Nat
  | 0, s => s
  | k + 1, s => crcBit (crcBits c k s) (c / 2 ^ k % 2)
def crcAll : Nat → List Nat → Nat
  | s, [] => s
  | s, c :: r => crcAll (crcBits c 8 s) r
def sumN (l : List Nat) : Nat := 4294967295 - crcAll 4294967295 l

theorem crcBit_lt {s : Nat} (b : Nat) (h : s < 4294967296) : crcBit s b < 4294967296 := by
  unfold crcBit
  split
  · exact Nat.xor_lt_two_pow (n := 32) (by omega) (by decide)
  · omega
theorem crcBits_lt {s : Nat} (c : Nat) (h : s < 4294967296) : ∀ k, crcBits c k s < 4294967296 := by
  intro k
  induction k with
  | zero => exact h
  | succ k ih => exact crcBit_lt _ ih
theorem crcAll_lt : ∀ (l : List Nat) {s : Nat}, s < 4294967296 → crcAll s l < 4294967296 := by
  intro l
  induction l with
  | nil => intro s h; exact h
  | cons c r ih => intro s h; exact ih (crcBits_lt c h 8)
theorem crcAll_append : ∀ (l r : List Nat) (s : Nat), crcAll s (l ++ r) = crcAll (crcAll s l) r := by
  intro l
  induction l with
  | nil => intro r s; rfl
  | cons c t ih => intro r s; simp [crcAll, ih]

/-- The highest bit of what comes out tells whether the bits were unlike. -/
theorem crcBit_top {s : Nat} (b : Nat) (h : s < 4294967296) : (crcBit s b).testBit 31 = decide ((s + b) % 2 = 1) := by
  have h0 : (s / 2).testBit 31 = false := Nat.testBit_lt_two_pow (by omega)
  unfold crcBit
  split
  · rename_i h1; rw [Nat.testBit_xor, h0, h1]; decide
  · rename_i h1; rw [h0]; simp [h1]

theorem crcBit_inj {s s' b b' m : Nat} (hm : m ≤ 30) (hs : s < 4294967296) (hs' : s' < 4294967296) (h : crcBit s b / 2 ^ m = crcBit s' b' / 2 ^ m) :
    (s + b) % 2 = (s' + b') % 2 ∧ s / 2 ^ (m + 1) = s' / 2 ^ (m + 1) := by
  have ht : (crcBit s b).testBit 31 = (crcBit s' b').testBit 31 := by
    have h1 : (crcBit s b / 2 ^ m).testBit (31 - m) = (crcBit s b).testBit 31 := by rw [Nat.testBit_div_two_pow]; congr 1; omega
    have h2 : (crcBit s' b' / 2 ^ m).testBit (31 - m) = (crcBit s' b').testBit 31 := by rw [Nat.testBit_div_two_pow]; congr 1; omega
    rw [← h1, ← h2, h]
  rw [crcBit_top b hs, crcBit_top b' hs'] at ht
  have hp : (s + b) % 2 = (s' + b') % 2 := by
    have := decide_eq_decide.1 ht; omega
  refine ⟨hp, ?_⟩
  have e : ∀ x : Nat, x / 2 ^ (m + 1) = (x / 2) / 2 ^ m := fun x => by rw [Nat.div_div_eq_div_mul, Nat.pow_succ, Nat.mul_comm]
  rw [e s, e s']
  unfold crcBit at h
  rw [hp] at h
  split at h
  · rw [← Nat.shiftRight_eq_div_pow, ← Nat.shiftRight_eq_div_pow, Nat.shiftRight_xor_distrib, Nat.shiftRight_xor_distrib] at h
    have h' := congrArg (· ^^^ (poly >>> m)) h
    simp only [Nat.xor_assoc, Nat.xor_self, Nat.xor_zero] at h'
    rwa [Nat.shiftRight_eq_div_pow, Nat.shiftRight_eq_div_pow] at h'
  · exact h

/-- From the sum back: what bits behind it can undo. -/
theorem crcBits_back (c c' : Nat) {s s' : Nat} (hs : s < 4294967296) (hs' : s' < 4294967296) (k : Nat) : ∀ m j, j + m ≤ 30 → crcBits c (k + m) s / 2 ^ j = crcBits c' (k + m) s' / 2 ^ j → crcBits c k s / 2 ^ (j + m) = crcBits c' k s' / 2 ^ (j + m) := by
  intro m
  induction m with
  | zero => intro j _ h; simpa using h
  | succ m ih =>
    intro j hj h
    have h' : crcBit (crcBits c (k + m) s) (c / 2 ^ (k + m) % 2) / 2 ^ j = crcBit (crcBits c' (k + m) s') (c' / 2 ^ (k + m) % 2) / 2 ^ j := h
    have := (crcBit_inj (by omega) (crcBits_lt c hs _) (crcBits_lt c' hs' _) h').2
    have := ih (j + 1) (by omega) this
    rwa [show j + 1 + m = j + (m + 1) by omega] at this

/-- Bits that are read out of one state, and come to one, are the same. -/
theorem crcBits_bit (c c' : Nat) {s : Nat} (hs : s < 4294967296) (h : crcBits c 8 s = crcBits c' 8 s) : ∀ k, k ≤ 8 → crcBits c k s = crcBits c' k s ∧ ∀ j, j < k → c / 2 ^ j % 2 = c' / 2 ^ j % 2 := by
  intro k
  induction k with
  | zero => intro _; exact ⟨rfl, fun j hj => absurd hj (by omega)⟩
  | succ k ih =>
    intro hk
    obtain ⟨e, hb⟩ := ih (by omega)
    have h1 := crcBits_back c c' hs hs (k + 1) (7 - k) 0 (by omega) (by rw [show k + 1 + (7 - k) = 8 by omega, h])
    have h1' : crcBit (crcBits c k s) (c / 2 ^ k % 2) / 2 ^ (0 + (7 - k)) = crcBit (crcBits c' k s) (c' / 2 ^ k % 2) / 2 ^ (0 + (7 - k)) := h1
    have h2 := (crcBit_inj (by omega) (crcBits_lt c hs _) (crcBits_lt c' hs _) h1').1
    rw [e] at h2
    have hbit : c / 2 ^ k % 2 = c' / 2 ^ k % 2 := by omega
    refine ⟨?_, fun j hj => ?_⟩
    · show crcBit _ _ = crcBit _ _; rw [e, hbit]
    · rcases (by omega : j < k ∨ j = k) with hj | rfl
      · exact hb j hj
      · exact hbit

theorem byte_ext {c c' : Nat} (hc : c < 256) (hc' : c' < 256) (h : ∀ j, j < 8 → c / 2 ^ j % 2 = c' / 2 ^ j % 2) : c = c' := by
  have h0 := h 0 (by omega); have h1 := h 1 (by omega); have h2 := h 2 (by omega); have h3 := h 3 (by omega)
  have h4 := h 4 (by omega); have h5 := h 5 (by omega); have h6 := h 6 (by omega); have h7 := h 7 (by omega)
  simp only [Nat.reducePow] at h0 h1 h2 h3 h4 h5 h6 h7
  omega

theorem crcBits_inj_state (c : Nat) {s s' : Nat} (hs : s < 4294967296) (hs' : s' < 4294967296) (h : crcBits c 8 s = crcBits c 8 s') : s = s' := by
  have step : ∀ k, k ≤ 8 → crcBits c k s = crcBits c k s' → s = s' := by
    intro k
    induction k with
    | zero => intro _ h; exact h
    | succ k ih =>
      intro hk h
      have h' : crcBit (crcBits c k s) (c / 2 ^ k % 2) / 2 ^ 0 = crcBit (crcBits c k s') (c / 2 ^ k % 2) / 2 ^ 0 := by
        have : crcBit (crcBits c k s) (c / 2 ^ k % 2) = crcBit (crcBits c k s') (c / 2 ^ k % 2) := h
        rw [this]
      obtain ⟨h1, h2⟩ := crcBit_inj (by omega) (crcBits_lt c hs _) (crcBits_lt c hs' _) h'
      refine ih (by omega) ?_
      simp only [Nat.zero_add, Nat.pow_one] at h2
      omega
  exact step 8 (by omega) h

theorem crcAll_inj_state : ∀ (l : List Nat) {s s' : Nat}, s < 4294967296 → s' < 4294967296 → crcAll s l = crcAll s' l → s = s' := by
  intro l
  induction l with
  | nil => intro s s' _ _ h; exact h
  | cons c r ih => intro s s' hs hs' h; exact crcBits_inj_state c hs hs' (ih (crcBits_lt c hs 8) (crcBits_lt c hs' 8) h)

theorem sum_other (p q : List Nat) (c c' : Nat) (hc : c < 256) (hc' : c' < 256) : sumN (p ++ c :: q) = sumN (p ++ c' :: q) ↔ c = c' := by
  refine ⟨fun h => ?_, fun h => by rw [h]⟩
  unfold sumN at h
  have b1 := crcAll_lt (p ++ c :: q) (s := 4294967295) (by omega)
  have b2 := crcAll_lt (p ++ c' :: q) (s := 4294967295) (by omega)
  have h1 : crcAll 4294967295 (p ++ c :: q) = crcAll 4294967295 (p ++ c' :: q) := by omega
  rw [crcAll_append, crcAll_append] at h1
  have hp := crcAll_lt p (s := 4294967295) (by omega)
  have h2 : crcBits c 8 (crcAll 4294967295 p) = crcBits c' 8 (crcAll 4294967295 p) := crcAll_inj_state q (crcBits_lt c hp 8) (crcBits_lt c' hp 8) h1
  exact byte_ext hc hc' (crcBits_bit c c' hp h2 8 (by omega)).2

end Go.Proofs.YtmmbdpdpkkikjaaGreat.Q01
namespace Go.Proofs.YtmmbdpdpkkikjaaGreat.Q01
open Go.RowKit

theorem ret_int {k : IntKind} {a b : Int} (h : a = b) : Ending.returned (.int k a) = .returned (.int k b) := by rw [h]

theorem len_close (n m b : Nat) (B : Int) (hB : B = b) (h : m = n / 2 ^ b) (hm : m < 256) (hb : b ≤ 56) (hz : b = 0 ∨ m ≠ 0) : wrap64 (B + wrap64 ((bitLen m : Nat) : Int)) = ((bitLen n : Nat) : Int) := by
  have h8 := bitLen_le8 m hm
  have e : bitLen n = b + bitLen m := by
    rcases hz with rfl | hz
    · rw [h]; simp
    · rw [h]; exact bitLen_shift n b (by rw [← h]; exact hz)
  unfold wrap64
  omega
theorem len_close0 (n m : Nat) (h : m = n) (hm : m < 256) : wrap64 (wrap64 ((bitLen m : Nat) : Int)) = ((bitLen n : Nat) : Int) := by
  have h8 := bitLen_le8 m hm
  subst h
  unfold wrap64
  omega

set_option maxRecDepth 1000000 in
set_option maxHeartbeats 400000 in
theorem len64_way0 (x : Int) (w : World) (h0 : 0 ≤ x) (hx : x < 18446744073709551616) (h1 : (4294967296 : Int) ≤ x) (h2 : (65536 : Int) ≤ x / 4294967296) (h3 : (256 : Int) ≤ x / 4294967296 / 65536) :
    Calls Tryz.prog 150 #[.int .u64 x] w fun e w' => e = .returned (.int .i64 (bitLen x.toNat)) ∧ w = w' := by
  go_enter Tryz.func150, Tryz.ntmps150
  go_wp2
  go_ret
  refine ⟨congrArg Ending.returned (congrArg (Value.int IntKind.i64) ?_), rfl⟩
  show _ = _
  simp only [len8tab_get]
  have hh : (x / 4294967296 / 65536 / 256).toNat = x.toNat / 2 ^ 56 := by omega
  have hl : (x / 4294967296 / 65536 / 256).toNat < 256 := by omega
  exact len_close x.toNat _ 56 _ rfl hh hl (by omega) (by omega)

set_option maxRecDepth 1000000 in
set_option maxHeartbeats 400000 in
theorem len64_way1 (x : Int) (w : World) (h0 : 0 ≤ x) (hx : x < 18446744073709551616) (h1 : (4294967296 : Int) ≤ x) (h2 : (65536 : Int) ≤ x / 4294967296) (h3 : Hid (x / 4294967296 / 65536 < 256)) :
    Calls Tryz.prog 150 #[.int .u64 x] w fun e w' => e = .returned (.int .i64 (bitLen x.toNat)) ∧ w = w' := by
  have d3 : decide ((256 : Int) ≤ x / 4294967296 / 65536) = false := by have := h3.out; simp; omega
  go_enter Tryz.func150, Tryz.ntmps150
  go_wp2
  go_ret
  refine ⟨congrArg Ending.returned (congrArg (Value.int IntKind.i64) ?_), rfl⟩
  show _ = _
  simp only [len8tab_get]
  have k3 := h3.out
  have hh : (x / 4294967296 / 65536 % 256).toNat = x.toNat / 2 ^ 48 := by omega
  have hl : (x / 4294967296 / 65536 % 256).toNat < 256 := by omega
  exact len_close x.toNat _ 48 _ rfl hh hl (by omega) (by omega)

set_option maxRecDepth 1000000 in
set_option maxHeartbeats 400000 in
theorem len64_way2 (x : Int) (w : World) (h0 : 0 ≤ x) (hx : x < 18446744073709551616) (h1 : (4294967296 : Int) ≤ x) (h2 : Hid (x / 4294967296 < 65536)) (h3 : (256 : Int) ≤ x / 4294967296) :
    Calls Tryz.prog 150 #[.int .u64 x] w fun e w' => e = .returned (.int .i64 (bitLen x.toNat)) ∧ w = w' := by
  have d2 : decide ((65536 : Int) ≤ x / 4294967296) = false := by have := h2.out; simp; omega
  go_enter Tryz.func150, Tryz.ntmps150
  go_wp2
  go_ret
  refine ⟨congrArg Ending.returned (congrArg (Value.int IntKind.i64) ?_), rfl⟩
  show _ = _
  simp only [len8tab_get]
  have k2 := h2.out
  have hh : (x / 4294967296 / 256 % 256).toNat = x.toNat / 2 ^ 40 := by omega
  have hl : (x / 4294967296 / 256 % 256).toNat < 256 := by omega
  exact len_close x.toNat _ 40 _ rfl hh hl (by omega) (by omega)

set_option maxRecDepth 1000000 in
set_option maxHeartbeats 400000 in
theorem len64_way3 (x : Int) (w : World) (h0 : 0 ≤ x) (hx : x < 18446744073709551616) (h1 : (4294967296 : Int) ≤ x) (h2 : Hid (x / 4294967296 < 65536)) (h3 : Hid (x / 4294967296 < 256)) :
    Calls Tryz.prog 150 #[.int .u64 x] w fun e w' => e = .returned (.int .i64 (bitLen x.toNat)) ∧ w = w' := by
  have d2 : decide ((65536 : Int) ≤ x / 4294967296) = false := by have := h2.out; simp; omega
  have d3 : decide ((256 : Int) ≤ x / 4294967296) = false := by have := h3.out; simp; omega
  go_enter Tryz.func150, Tryz.ntmps150
  go_wp2
  go_ret
  refine ⟨congrArg Ending.returned (congrArg (Value.int IntKind.i64) ?_), rfl⟩
  show _ = _
  simp only [len8tab_get]
  have k2 := h2.out
  have k3 := h3.out
  have hh : (x / 4294967296 % 256).toNat = x.toNat / 2 ^ 32 := by omega
  have hl : (x / 4294967296 % 256).toNat < 256 := by omega
  exact len_close x.toNat _ 32 _ rfl hh hl (by omega) (by omega)

set_option maxRecDepth 1000000 in
set_option maxHeartbeats 400000 in
theorem len64_way4 (x : Int) (w : World) (h0 : 0 ≤ x) (hx : x < 18446744073709551616) (h1 : Hid (x < 4294967296)) (h2 : (65536 : Int) ≤ x) (h3 : (256 : Int) ≤ x / 65536) :
    Calls Tryz.prog 150 #[.int .u64 x] w fun e w' => e = .returned (.int .i64 (bitLen x.toNat)) ∧ w = w' := by
  have d1 : decide ((4294967296 : Int) ≤ x) = false := by have := h1.out; simp; omega
  go_enter Tryz.func150, Tryz.ntmps150
  go_wp2
  go_ret
  refine ⟨congrArg Ending.returned (congrArg (Value.int IntKind.i64) ?_), rfl⟩
  show _ = _
  simp only [len8tab_get]
  have k1 := h1.out
  have hh : (x / 65536 / 256 % 256).toNat = x.toNat / 2 ^ 24 := by omega
  have hl : (x / 65536 / 256 % 256).toNat < 256 := by omega
  exact len_close x.toNat _ 24 _ rfl hh hl (by omega) (by omega)

set_option maxRecDepth 1000000 in
set_option maxHeartbeats 400000 in
theorem len64_way5 (x : Int) (w : World) (h0 : 0 ≤ x) (hx : x < 18446744073709551616) (h1 : Hid (x < 4294967296)) (h2 : (65536 : Int) ≤ x) (h3 : Hid (x / 65536 < 256)) :
    Calls Tryz.prog 150 #[.int .u64 x] w fun e w' => e = .returned (.int .i64 (bitLen x.toNat)) ∧ w = w' := by
  have d1 : decide ((4294967296 : Int) ≤ x) = false := by have := h1.out; simp; omega
  have d3 : decide ((256 : Int) ≤ x / 65536) = false := by have := h3.out; simp; omega
  go_enter Tryz.func150, Tryz.ntmps150
  go_wp2
  go_ret
  refine ⟨congrArg Ending.returned (congrArg (Value.int IntKind.i64) ?_), rfl⟩
  show _ = _
  simp only [len8tab_get]
  have k1 := h1.out
  have k3 := h3.out
  have hh : (x / 65536 % 256).toNat = x.toNat / 2 ^ 16 := by omega
  have hl : (x / 65536 % 256).toNat < 256 := by omega
  exact len_close x.toNat _ 16 _ rfl hh hl (by omega) (by omega)

set_option maxRecDepth 1000000 in
set_option maxHeartbeats 400000 in
theorem len64_way6 (x : Int) (w : World) (h0 : 0 ≤ x) (hx : x < 18446744073709551616) (h1 : Hid (x < 4294967296)) (h2 : Hid (x < 65536)) (h3 : (256 : Int) ≤ x) :
    Calls Tryz.prog 150 #[.int .u64 x] w fun e w' => e = .returned (.int .i64 (bitLen x.toNat)) ∧ w = w' := by
  have d1 : decide ((4294967296 : Int) ≤ x) = false := by have := h1.out; simp; omega
  have d2 : decide ((65536 : Int) ≤ x) = false := by have := h2.out; simp; omega
  go_enter Tryz.func150, Tryz.ntmps150
  go_wp2
  go_ret
  refine ⟨congrArg Ending.returned (congrArg (Value.int IntKind.i64) ?_), rfl⟩
  show _ = _
  simp only [len8tab_get]
  have k1 := h1.out
  have k2 := h2.out
  have hh : (x / 256 % 256).toNat = x.toNat / 2 ^ 8 := by omega
  have hl : (x / 256 % 256).toNat < 256 := by omega
  exact len_close x.toNat _ 8 _ rfl hh hl (by omega) (by omega)

set_option maxRecDepth 1000000 in
set_option maxHeartbeats 400000 in
theorem len64_way7 (x : Int) (w : World) (h0 : 0 ≤ x) (hx : x < 18446744073709551616) (h1 : Hid (x < 4294967296)) (h2 : Hid (x < 65536)) (h3 : Hid (x < 256)) :
    Calls Tryz.prog 150 #[.int .u64 x] w fun e w' => e = .returned (.int .i64 (bitLen x.toNat)) ∧ w = w' := by
  have d1 : decide ((4294967296 : Int) ≤ x) = false := by have := h1.out; simp; omega
  have d2 : decide ((65536 : Int) ≤ x) = false := by have := h2.out; simp; omega
  have d3 : decide ((256 : Int) ≤ x) = false := by have := h3.out; simp; omega
  go_enter Tryz.func150, Tryz.ntmps150
  go_wp2
  go_ret
  refine ⟨congrArg Ending.returned (congrArg (Value.int IntKind.i64) ?_), rfl⟩
  show _ = _
  simp only [len8tab_get]
  have k1 := h1.out
  have k2 := h2.out
  have k3 := h3.out
  have hh : (x % 256).toNat = x.toNat := by omega
  have hl : (x % 256).toNat < 256 := by omega
  exact len_close0 x.toNat _ hh hl

theorem len64_any (n : Nat) (w : World) (h : n < 18446744073709551616) :
    Calls Tryz.prog 150 #[.int .u64 n] w fun e w' => e = .returned (.int .i64 (bitLen n)) ∧ w = w' := by
  have a := (by omega : 0 ≤ (n : Int))
  have b := (by omega : (n : Int) < 18446744073709551616)
  by_cases h1 : (4294967296 : Int) ≤ (n : Int)
  · by_cases h2 : (65536 : Int) ≤ (n : Int) / 4294967296
    · by_cases h3 : (256 : Int) ≤ (n : Int) / 4294967296 / 65536
      · exact len64_way0 n w a b h1 h2 h3
      · exact len64_way1 n w a b h1 h2 (by unfold Hid; omega)
    · by_cases h3 : (256 : Int) ≤ (n : Int) / 4294967296
      · exact len64_way2 n w a b h1 (by unfold Hid; omega) h3
      · exact len64_way3 n w a b h1 (by unfold Hid; omega) (by unfold Hid; omega)
  · by_cases h2 : (65536 : Int) ≤ (n : Int)
    · by_cases h3 : (256 : Int) ≤ (n : Int) / 65536
      · exact len64_way4 n w a b (by unfold Hid; omega) h2 h3
      · exact len64_way5 n w a b (by unfold Hid; omega) h2 (by unfold Hid; omega)
    · by_cases h3 : (256 : Int) ≤ (n : Int)
      · exact len64_way6 n w a b (by unfold Hid; omega) (by unfold Hid; omega) h3
      · exact len64_way7 n w a b (by unfold Hid; omega) (by unfold Hid; omega) (by unfold Hid; omega)

theorem len64_of (x : Int) (n : Nat) (hx : x = n) (h : n < 18446744073709551616) (w : World) :
    Calls Tryz.prog 150 #[.int .u64 x] w fun e w' => e = .returned (.int .i64 (bitLen n)) ∧ w = w' := by
  subst hx; exact len64_any n w h

end Go.Proofs.YtmmbdpdpkkikjaaGreat.Q01
namespace Go.Proofs.YtmmbdpdpkkikjaaGreat.Q01
open Go.RowKit

theorem isSize_any (k : Int) (w : World) :
    Calls Tryz.prog 51 #[.int .i64 k] w fun e w' => e = .returned (.bool (decide (1 ≤ k ∧ k ≤ 8))) ∧ w = w' := by
  by_cases h1 : 1 ≤ k
  · go_enter Tryz.func51, Tryz.ntmps51
    go_wp2
    go_ret
    exact ⟨by simp [h1], rfl⟩
  · go_enter Tryz.func51, Tryz.ntmps51
    go_wp2
    go_ret
    exact ⟨by simp; omega, rfl⟩

theorem addBit_eq (s b : Nat) (hs : s < 4294967296) (hb : b < 4294967296) :
    bits BinOp.xor IntKind.u32 ((s : Int) / 2) (bits BinOp.and IntKind.u32 (bits BinOp.xor IntKind.u32 s b) 1 * 3988292384 % 4294967296) = (crcBit s (b % 2) : Nat) := by
  have hx : s ^^^ b < 2 ^ 32 := Nat.xor_lt_two_pow (by omega) (by omega)
  have e1 : bits BinOp.and IntKind.u32 (bits BinOp.xor IntKind.u32 s b) 1 = (((s + b % 2) % 2 : Nat) : Int) := by
    rw [u32_xor_nat s b hs hb]
    have := u32_and_nat (s ^^^ b) 1 (by omega) (by omega)
    rw [show ((1 : Nat) : Int) = 1 from rfl] at this
    rw [this, Nat.and_one_is_mod]
    congr 1
    have h1 := Nat.xor_mod_two_eq_one (a := s) (b := b)
    omega
  have e2 : (s : Int) / 2 = ((s / 2 : Nat) : Int) := by omega
  rw [e1, e2]
  unfold crcBit
  rcases (by omega : (s + b % 2) % 2 = 1 ∨ (s + b % 2) % 2 = 0) with h | h
  · rw [if_pos h, h]
    have := u32_xor_nat (s / 2) poly (by omega) (by decide)
    exact this
  · rw [if_neg (by omega), h]
    have := u32_xor_nat (s / 2) 0 (by omega) (by decide)
    simpa using this

theorem addBit_any (s b : Nat) (w : World) (hs : s < 4294967296) (hb : b < 4294967296) :
    Calls Tryz.prog 52 #[.int .u32 s, .int .u32 b] w fun e w' => e = .returned (.int .u32 (crcBit s (b % 2) : Nat)) ∧ w = w' := by
  go_enter Tryz.func52, Tryz.ntmps52
  go_wp2
  go_ret
  exact ⟨ret_int (addBit_eq s b hs hb), rfl⟩
end Go.Proofs.YtmmbdpdpkkikjaaGreat.Q01
namespace Go.Proofs.YtmmbdpdpkkikjaaGreat.Q01
open Go.RowKit

theorem addBit_of (s : Nat) (x : Int) (b : Nat) (hx : x = b) (w : World) (hs : s < 4294967296) (hb : b < 4294967296) :
    Calls Tryz.prog 52 #[.int .u32 s, .int .u32 x] w fun e w' => e = .returned (.int .u32 (crcBit s (b % 2) : Nat)) ∧ w = w' := by
  subst hx; exact addBit_any s b w hs hb
theorem bit_of (c j : Nat) (hc : c < 256) : (c : Int) / 2 ^ j % 4294967296 = ((c / 2 ^ j : Nat) : Int) := by
  rw [show (c : Int) / 2 ^ j = ((c / 2 ^ j : Nat) : Int) by simp]
  have := Nat.div_le_self c (2 ^ j)
  generalize c / 2 ^ j = q at *
  omega
theorem div_lt (c j : Nat) (hc : c < 256) : c / 2 ^ j < 4294967296 := by
  have := Nat.div_le_self c (2 ^ j)
  omega
theorem not32 (n : Nat) (h : n < 4294967296) : bits BinOp.xor IntKind.u32 4294967295 (n : Int) = ((4294967295 - n : Nat) : Int) := by
  have e := u32_xor_nat 4294967295 n (by omega) h
  refine e.trans ?_
  congr 1
  have h2 : 4294967295 ^^^ n = (BitVec.allOnes 32 ^^^ BitVec.ofNat 32 n).toNat := by
    rw [BitVec.toNat_xor, BitVec.toNat_ofNat, Nat.mod_eq_of_lt (by omega)]; rfl
  rw [h2, BitVec.allOnes_xor, BitVec.toNat_not, BitVec.toNat_ofNat, Nat.mod_eq_of_lt (by omega)]
def OutRel (xs : List Nat) (s i : Value) : Prop :=
  ∃ k : Nat, k ≤ xs.length ∧ i = .int .i64 k ∧ s = .int .u32 ((crcAll 4294967295 (xs.take k) : Nat) : Int)
def InRel (S c : Nat) (s i : Value) : Prop :=
  ∃ j : Nat, j ≤ 8 ∧ i = .int .i64 j ∧ s = .int .u32 ((crcBits c j S : Nat) : Int)

set_option maxRecDepth 100000 in
set_option maxHeartbeats 1000000 in
theorem sum_row (b off L cap : Nat) (xs : List Nat) (w : World) (hL : L = xs.length) (hb : ∀ c ∈ xs, c < 256) (hm : L ≤ 9223372036854775807)
    (hc : ∀ i, i < xs.length → w.cell? ⟨b, off + i, none⟩ = some (.int .u8 ((xs.getD i 0 : Nat) : Int))) :
    Calls Tryz.prog 30 #[.slice (some ⟨b, off, none⟩) L cap] w fun e w' => e = .returned (.int .u32 (sumN xs : Nat)) ∧ w = w' := by
  have HC : Hid (∀ i, i < xs.length → w.cell? ⟨b, off + i, none⟩ = some (.int .u8 ((xs.getD i 0 : Nat) : Int))) := hc
  have HB : Hid (∀ i, i < xs.length → xs.getD i 0 < 256) := by
    intro i hi
    exact hb _ (by simp [List.getD, hi])
  have HL : Hid (L = xs.length) := hL
  clear hc hL hb
  go_enter Tryz.func30, Tryz.ntmps30
  go_wp2
  go_loop [3, 9] (fun s i => OutRel xs s i) (fun _ i => L - (intOf i).toNat)
  case atStart => exact ⟨0, by omega, rfl, rfl⟩
  case round =>
    obtain ⟨k, hk, rfl, rfl⟩ := hrel
    rw [← HL.out] at hk
    by_cases hlt : k < L
    · obtain ⟨c, hcc⟩ : ∃ c, c = xs.getD k 0 := ⟨_, rfl⟩
      have hcell : w.cell? ⟨b, off + k, none⟩ = some (.int .u8 (c : Int)) := by rw [hcc]; exact HC.out k (by rw [← HL.out]; omega)
      have h256 : c < 256 := by rw [hcc]; exact HB.out k (by rw [← HL.out]; omega)
      have HS : Hid (crcAll 4294967295 (xs.take (k + 1)) = crcBits c 8 (crcAll 4294967295 (xs.take k))) := by
        have hkl : k < xs.length := by rw [← HL.out]; exact hlt
        unfold Hid
        rw [List.take_succ_eq_append_getElem hkl, crcAll_append, hcc]
        simp [crcAll, List.getD, hkl]
      have hS := crcAll_lt (xs.take k) (s := 4294967295) (by omega)
      obtain ⟨S, hSS⟩ : ∃ S, S = crcAll 4294967295 (xs.take k) := ⟨_, rfl⟩
      rw [← hSS] at HS hS ⊢
      clear hcc hSS
      go_wp2
      go_loop [3, 13] (fun s i => InRel S c s i) (fun _ i => 8 - (intOf i).toNat)
      case atStart => exact ⟨0, by omega, rfl, rfl⟩
      case round =>
        obtain ⟨j, hj, rfl, rfl⟩ := hrel
        have hlt2 := crcBits_lt c hS j
        obtain ⟨T, hT⟩ : ∃ T, T = crcBits c j S := ⟨_, rfl⟩
        rw [← hT] at hlt2 ⊢
        have HT : Hid (T = crcBits c j S) := hT
        clear hT
        by_cases hlt3 : j < 8
        · have HX : Hid (c < 256) := h256
          go_wp2_with (go_at_call 52; refine (addBit_of T _ (c / 2 ^ j) (bit_of c j HX.out) w hlt2 (div_lt c j HX.out)).mono ?_; rintro e w' ⟨rfl, rfl⟩)
          go_round
          case rel => exact ⟨j + 1, by omega, by go_num, by rw [HT.out]; rfl⟩
          case measure => simp [intOf]; omega
        · have hj8 : j = 8 := by omega
          subst hj8
          go_wp2
          go_round
          case rel => exact ⟨k + 1, by rw [← HL.out]; omega, by go_num, by rw [HS.out, HT.out]⟩
          case measure => simp [intOf]; omega
    · have hks : k = L := by omega
      subst hks
      have hlt2 := crcAll_lt xs (s := 4294967295) (by omega)
      have HF : Hid (xs.take k = xs) := by unfold Hid; rw [HL.out]; exact List.take_length
      rw [HF.out]
      have HN : Hid (bits BinOp.xor IntKind.u32 4294967295 ((crcAll 4294967295 xs : Nat) : Int) = ((sumN xs : Nat) : Int)) := not32 _ hlt2
      go_wp2
      go_ret
      exact ⟨ret_int HN.out, rfl⟩

theorem sum_empty (a : Option Addr) (cap : Nat) (w : World) :
    Calls Tryz.prog 30 #[.slice a 0 cap] w fun e w' => e = .returned (.int .u32 0) ∧ w = w' := by
  have HN : Hid (bits BinOp.xor IntKind.u32 4294967295 (((4294967295 : Nat) : Nat) : Int) = ((4294967295 - 4294967295 : Nat) : Int)) := not32 _ (by omega)
  go_enter Tryz.func30, Tryz.ntmps30
  go_wp2
  go_rounds 1
  go_ret
  exact ⟨ret_int HN.out, rfl⟩
end Go.Proofs.YtmmbdpdpkkikjaaGreat.Q01
namespace Go.Proofs.YtmmbdpdpkkikjaaGreat
open Go.RowKit
set_option linter.unusedVariables false

/-! ### Bytes of texts -/
def byS (s : ByteArray) : List Nat := s.data.toList.map UInt8.toNat
theorem byS_length (s : ByteArray) : (byS s).length = s.size := by
  unfold byS
  rw [List.length_map, Array.length_toList]
  rfl
theorem byS_byte (s : ByteArray) : ∀ c ∈ byS s, c < 256 := by
  intro c hc
  obtain ⟨b, _, rfl⟩ := List.mem_map.1 hc
  exact b.toNat_lt
theorem byS_inj {a b : ByteArray} (h : byS a = byS b) : a = b := by
  have h1 : a.data.toList = b.data.toList := by
    have hi : Function.Injective UInt8.toNat := fun x y e => UInt8.toNat_inj.1 e
    exact (List.map_inj_right hi).1 h
  cases a; cases b
  simp only at h1
  congr 1
  exact Array.toList_inj.mp h1
theorem byS_strN (l : List Nat) (h : ∀ c ∈ l, c < 256) : byS (strN l) = l := by
  unfold byS strN
  have : (strOfNums (l.map fun (c : Nat) => (c : Int))).data.toList.map UInt8.toNat = l := by
    simp only [strOfNums]
    simp only [List.map_map]
    conv => rhs; rw [← List.map_id l]
    apply List.map_congr_left
    intro c hc
    have := h c hc
    simp
    omega
  exact this

/-! ### Writing -/
def nuB (n : Int) : List Nat := Q01.putN n.toNat
def txB (s : ByteArray) : List Nat := Q01.putN s.size ++ byS s
def flB (f : Fl) : List Nat := txB f.name ++ nuB f.typ
def liB {α : Type} (f : α → List Nat) (l : List α) : List Nat := Q01.putN l.length ++ (l.map f).flatten
def tyB (t : Ty) : List Nat := t.kind :: (if t.kind = 6 then txB t.name ++ liB flB t.fields else if t.kind = 7 then nuB t.elem ++ nuB t.len else if t.kind = 8 then nuB t.elem else [])
def roB (r : Ro) : List Nat := txB r.name ++ (liB nuB r.params ++ (liB nuB r.results ++ (nuB r.locals ++ (nuB r.stack ++ (Q01.putN r.code.length ++ r.code)))))
def moB (m : Mo) : List Nat := liB tyB m.types ++ (liB txB m.texts ++ liB roB m.funcs)

/-! ### Reading: a fault (its place, its number), or what is read and the place behind it -/
abbrev Rs (α : Type) := (Nat × Nat) ⊕ (α × Nat)
def Rs.bind {α β : Type} (r : Rs α) (f : α → Nat → Rs β) : Rs β := match r with
  | .inl x => .inl x
  | .inr y => f y.1 y.2
def rNum (xs : List Nat) (p : Nat) : Rs Int :=
  if (Q01.getS 0 0 (xs.drop p)).2.2 = 10 then .inl (xs.length, 10)
  else if (Q01.getS 0 0 (xs.drop p)).2.2 ≠ 0 then .inl (p, (Q01.getS 0 0 (xs.drop p)).2.2)
  else if 2147483647 < (Q01.getS 0 0 (xs.drop p)).1 then .inl (p, 130)
  else .inr (((Q01.getS 0 0 (xs.drop p)).1 : Int), p + (Q01.getS 0 0 (xs.drop p)).2.1)
def rCount (lim : Nat) (xs : List Nat) (p : Nat) : Rs Nat := (rNum xs p).bind fun n q => if (lim : Int) < n then .inl (p, 3) else .inr (n.toNat, q)
def rBytes (n : Nat) (xs : List Nat) (p : Nat) : Rs (List Nat) := if xs.length < p + n then .inl (xs.length, 10) else .inr ((xs.drop p).take n, p + n)
def rText (xs : List Nat) (p : Nat) : Rs ByteArray := (rCount 65536 xs p).bind fun n q => (rBytes n xs q).bind fun b r => .inr (strN b, r)
def rCode (xs : List Nat) (p : Nat) : Rs (List Nat) := (rCount 65536 xs p).bind fun n q => rBytes n xs q
def rSev {α : Type} (f : Nat → Rs α) : Nat → Nat → Rs (List α)
  | 0, p => .inr ([], p)
  | n + 1, p => (f p).bind fun a q => (rSev f n q).bind fun l r => .inr (a :: l, r)
def rList {α : Type} (lim : Nat) (f : List Nat → Nat → Rs α) (xs : List Nat) (p : Nat) : Rs (List α) := (rCount lim xs p).bind fun n q => rSev (f xs) n q
def rFl (xs : List Nat) (p : Nat) : Rs Fl := (rText xs p).bind fun a q => (rNum xs q).bind fun t r => .inr (⟨a, t⟩, r)
def rKind (xs : List Nat) (p : Nat) : Rs Nat := if xs.length < p + 1 then .inl (xs.length, 10) else if xs.getD p 0 = 6 ∨ xs.getD p 0 = 7 ∨ xs.getD p 0 = 8 then .inr (xs.getD p 0, p + 1) else .inl (p, 130)
def rTy (xs : List Nat) (p : Nat) : Rs Ty := (rKind xs p).bind fun k q =>
  if k = 6 then (rText xs q).bind fun a q => (rList 32 rFl xs q).bind fun l r => .inr (⟨6, a, l, 0, 0⟩, r)
  else if k = 7 then (rNum xs q).bind fun e q => (rNum xs q).bind fun n r => .inr (⟨7, ⟨#[]⟩, [], e, n⟩, r)
  else (rNum xs q).bind fun e r => .inr (⟨8, ⟨#[]⟩, [], e, 0⟩, r)
def rRo (xs : List Nat) (p : Nat) : Rs Ro := (rText xs p).bind fun a q => (rList 32 rNum xs q).bind fun ps q => (rList 8 rNum xs q).bind fun rs q => (rNum xs q).bind fun l q => (rNum xs q).bind fun s q => (rCode xs q).bind fun c r => .inr (⟨a, ps, rs, l, s, c⟩, r)
def rMo (xs : List Nat) (p : Nat) : Rs Mo := (rList 256 rTy xs p).bind fun ts q => (rList 32768 rText xs q).bind fun ss q => (rList 256 rRo xs q).bind fun fs q => if q < xs.length then .inl (q, 130) else .inr (⟨ts, ss, fs⟩, q)

/-! ### What is written is read again -/
def Enc {α : Type} (f : List Nat → Nat → Rs α) (u : List Nat) (a : α) : Prop := ∀ xs p rest, p ≤ xs.length → xs.drop p = u ++ rest → f xs p = .inr (a, p + u.length)
theorem Rs.bind_inr {α β : Type} (a : α) (q : Nat) (f : α → Nat → Rs β) : Rs.bind (.inr (a, q)) f = f a q := rfl
theorem Rs.bind_inl {α β : Type} (x : Nat × Nat) (f : α → Nat → Rs β) : Rs.bind (.inl x : Rs α) f = .inl x := rfl
theorem Enc.then {α β : Type} {f : List Nat → Nat → Rs α} {g : α → List Nat → Nat → Rs β} {u v : List Nat} {a : α} {b : β} (h : Enc f u a) (k : Enc (g a) v b) : Enc (fun xs p => (f xs p).bind fun c q => g c xs q) (u ++ v) b := by
  intro xs p rest hp e
  rw [List.append_assoc] at e
  have e1 := h xs p _ hp e
  have e2 : xs.drop (p + u.length) = v ++ rest := by rw [← List.drop_drop, e, List.drop_left]
  have hl := congrArg List.length e
  rw [List.length_append, List.length_drop] at hl
  simp only [e1, Rs.bind_inr]
  rw [k xs _ rest (by omega) e2, List.length_append, Nat.add_assoc]
theorem Enc.map {α β : Type} {f : List Nat → Nat → Rs α} {u : List Nat} {a : α} (h : Enc f u a) (g : α → β) : Enc (fun xs p => (f xs p).bind fun c q => .inr (g c, q)) u (g a) := by
  intro xs p rest hp e
  have e1 := h xs p rest hp e
  simp only [e1, Rs.bind_inr]
def NumOk (n : Int) : Prop := 0 ≤ n ∧ n ≤ 2147483647
theorem enc_nat (n : Nat) (h : n ≤ 2147483647) : Enc rNum (Q01.putN n) (n : Int) := by
  intro xs p rest hp e
  have hg := Q01.getS_put n 0 0 rest (by simp; omega) (.inl rfl) (by omega)
  unfold rNum
  rw [e, hg]
  simp
  omega
theorem enc_num (n : Int) (h : NumOk n) : Enc rNum (nuB n) n := by
  have := enc_nat n.toNat (by have := h.2; have := h.1; omega)
  rw [Int.toNat_of_nonneg h.1] at this
  exact this
theorem enc_count (lim n : Nat) (h : n ≤ lim) (hl : lim ≤ 2147483647) : Enc (rCount lim) (Q01.putN n) n := by
  intro xs p rest hp e
  unfold rCount
  rw [enc_nat n (by omega) xs p rest hp e, Rs.bind_inr, if_neg (by omega)]
  simp
theorem enc_bytes (u : List Nat) : Enc (rBytes u.length) u u := by
  intro xs p rest hp e
  have hl := congrArg List.length e
  rw [List.length_append, List.length_drop] at hl
  unfold rBytes
  rw [if_neg (by omega), e, List.take_left]
theorem strN_byS (s : ByteArray) : strN (byS s) = s := byS_inj (byS_strN _ (byS_byte s))
theorem enc_text (s : ByteArray) (h : s.size ≤ 65536) : Enc rText (txB s) s := by
  have h1 := enc_count 65536 s.size h (by omega)
  have h2 := (byS_length s ▸ enc_bytes (byS s) : Enc (rBytes s.size) (byS s) (byS s)).map strN
  rw [strN_byS] at h2
  exact h1.then (g := fun n xs q => (rBytes n xs q).bind fun b r => .inr (strN b, r)) h2
theorem enc_code (l : List Nat) (h : l.length ≤ 65536) : Enc rCode (Q01.putN l.length ++ l) l :=
  (enc_count 65536 l.length h (by omega)).then (g := fun n xs q => rBytes n xs q) (enc_bytes l)
theorem enc_sev {α : Type} {f : List Nat → Nat → Rs α} {u : α → List Nat} : ∀ l : List α, (∀ a ∈ l, Enc f (u a) a) → Enc (fun xs p => rSev (f xs) l.length p) (l.map u).flatten l := by
  intro l
  induction l with
  | nil => intro _ xs p rest hp e; rfl
  | cons a r ih =>
    intro h
    have h1 := h a (by simp)
    have h2 := (ih fun b hb => h b (by simp [hb])).map (fun l => a :: l)
    exact h1.then (g := fun a xs q => (rSev (f xs) r.length q).bind fun l q => .inr (a :: l, q)) h2
theorem enc_list {α : Type} {f : List Nat → Nat → Rs α} {u : α → List Nat} (lim : Nat) (hl : lim ≤ 2147483647) (l : List α) (hn : l.length ≤ lim) (h : ∀ a ∈ l, Enc f (u a) a) : Enc (rList lim f) (liB u l) l :=
  (enc_count lim l.length hn hl).then (g := fun n xs q => rSev (f xs) n q) (enc_sev l h)
def FlOk (f : Fl) : Prop := f.name.size ≤ 65536 ∧ NumOk f.typ
def TyOk (t : Ty) : Prop := (t.kind = 6 ∧ t.name.size ≤ 65536 ∧ t.fields.length ≤ 32 ∧ (∀ f ∈ t.fields, FlOk f) ∧ t.elem = 0 ∧ t.len = 0) ∨ (t.kind = 7 ∧ t.name = ⟨#[]⟩ ∧ t.fields = [] ∧ NumOk t.elem ∧ NumOk t.len) ∨ (t.kind = 8 ∧ t.name = ⟨#[]⟩ ∧ t.fields = [] ∧ NumOk t.elem ∧ t.len = 0)
def RoOk (r : Ro) : Prop := r.name.size ≤ 65536 ∧ r.params.length ≤ 32 ∧ (∀ n ∈ r.params, NumOk n) ∧ r.results.length ≤ 8 ∧ (∀ n ∈ r.results, NumOk n) ∧ NumOk r.locals ∧ NumOk r.stack ∧ r.code.length ≤ 65536
structure MoFit (m : Mo) : Prop where
  tl : m.types.length ≤ 256
  xl : m.texts.length ≤ 32768
  fl : m.funcs.length ≤ 256
  ty : ∀ t ∈ m.types, TyOk t
  tx : ∀ s ∈ m.texts, s.size ≤ 65536
  ro : ∀ r ∈ m.funcs, RoOk r
theorem enc_fl (f : Fl) (h : FlOk f) : Enc rFl (flB f) f := by
  have h2 := (enc_num f.typ h.2).map (fun t => (⟨f.name, t⟩ : Fl))
  exact (enc_text f.name h.1).then (g := fun a xs q => (rNum xs q).bind fun t r => .inr ((⟨a, t⟩ : Fl), r)) h2
theorem enc_kind (k : Nat) (h : k = 6 ∨ k = 7 ∨ k = 8) : Enc rKind [k] k := by
  intro xs p rest hp e
  have hl := congrArg List.length e
  rw [List.length_append, List.length_drop] at hl
  have hg : xs.getD p 0 = k := by
    have := congrArg (fun l => l.getD 0 0) e
    simpa [List.getD] using this
  unfold rKind
  rw [if_neg (by simp at hl; omega), hg, if_pos h]
  rfl
theorem enc_ty (t : Ty) (h : TyOk t) : Enc rTy (tyB t) t := by
  obtain ⟨k, nm, fs, el, le⟩ := t
  rcases h with ⟨h1, h2, h3, h4, h5, h6⟩ | ⟨h1, h2, h3, h4, h5⟩ | ⟨h1, h2, h3, h4, h5⟩
  · simp only at h1 h2 h3 h4 h5 h6
    subst h1 h5 h6
    have e1 := (enc_list 32 (by omega) fs h3 (fun f hf => enc_fl f (h4 f hf))).map (fun l => (⟨6, nm, l, 0, 0⟩ : Ty))
    have e2 := (enc_text nm h2).then (g := fun a xs q => (rList 32 rFl xs q).bind fun l r => .inr ((⟨6, a, l, 0, 0⟩ : Ty), r)) e1
    have e3 := (enc_kind 6 (by omega)).then (g := fun k xs q => if k = 6 then (rText xs q).bind fun a q => (rList 32 rFl xs q).bind fun l r => .inr ((⟨6, a, l, 0, 0⟩ : Ty), r) else if k = 7 then (rNum xs q).bind fun e q => (rNum xs q).bind fun n r => .inr (⟨7, ⟨#[]⟩, [], e, n⟩, r) else (rNum xs q).bind fun e r => .inr (⟨8, ⟨#[]⟩, [], e, 0⟩, r)) e2
    exact e3
  · simp only at h1 h2 h3 h4 h5
    subst h1 h2 h3
    have e1 := (enc_num le h5).map (fun l => (⟨7, ⟨#[]⟩, [], el, l⟩ : Ty))
    have e2 := (enc_num el h4).then (g := fun a xs q => (rNum xs q).bind fun l r => .inr ((⟨7, ⟨#[]⟩, [], a, l⟩ : Ty), r)) e1
    have e3 := (enc_kind 7 (by omega)).then (g := fun k xs q => if k = 6 then (rText xs q).bind fun a q => (rList 32 rFl xs q).bind fun l r => .inr ((⟨6, a, l, 0, 0⟩ : Ty), r) else if k = 7 then (rNum xs q).bind fun e q => (rNum xs q).bind fun n r => .inr (⟨7, ⟨#[]⟩, [], e, n⟩, r) else (rNum xs q).bind fun e r => .inr (⟨8, ⟨#[]⟩, [], e, 0⟩, r)) e2
    exact e3
  · simp only at h1 h2 h3 h4 h5
    subst h1 h2 h3 h5
    have e2 := (enc_num el h4).map (fun a => (⟨8, ⟨#[]⟩, [], a, 0⟩ : Ty))
    have e3 := (enc_kind 8 (by omega)).then (g := fun k xs q => if k = 6 then (rText xs q).bind fun a q => (rList 32 rFl xs q).bind fun l r => .inr ((⟨6, a, l, 0, 0⟩ : Ty), r) else if k = 7 then (rNum xs q).bind fun e q => (rNum xs q).bind fun n r => .inr (⟨7, ⟨#[]⟩, [], e, n⟩, r) else (rNum xs q).bind fun e r => .inr (⟨8, ⟨#[]⟩, [], e, 0⟩, r)) e2
    exact e3
theorem enc_ro (r : Ro) (h : RoOk r) : Enc rRo (roB r) r := by
  obtain ⟨nm, ps, rs, lo, st, co⟩ := r
  obtain ⟨h1, h2, h3, h4, h5, h6, h7, h8⟩ := h
  simp only at h1 h2 h3 h4 h5 h6 h7 h8
  have e6 := (enc_code co h8).map (fun c => (⟨nm, ps, rs, lo, st, c⟩ : Ro))
  have e5 := (enc_num st h7).then (g := fun s xs q => (rCode xs q).bind fun c r => .inr ((⟨nm, ps, rs, lo, s, c⟩ : Ro), r)) e6
  have e4 := (enc_num lo h6).then (g := fun l xs q => (rNum xs q).bind fun s q => (rCode xs q).bind fun c r => .inr ((⟨nm, ps, rs, l, s, c⟩ : Ro), r)) e5
  have e3 := (enc_list 8 (by omega) rs h4 (fun n hn => enc_num n (h5 n hn))).then (g := fun rs xs q => (rNum xs q).bind fun l q => (rNum xs q).bind fun s q => (rCode xs q).bind fun c r => .inr ((⟨nm, ps, rs, l, s, c⟩ : Ro), r)) e4
  have e2 := (enc_list 32 (by omega) ps h2 (fun n hn => enc_num n (h3 n hn))).then (g := fun ps xs q => (rList 8 rNum xs q).bind fun rs q => (rNum xs q).bind fun l q => (rNum xs q).bind fun s q => (rCode xs q).bind fun c r => .inr ((⟨nm, ps, rs, l, s, c⟩ : Ro), r)) e3
  exact (enc_text nm h1).then (g := fun a xs q => (rList 32 rNum xs q).bind fun ps q => (rList 8 rNum xs q).bind fun rs q => (rNum xs q).bind fun l q => (rNum xs q).bind fun s q => (rCode xs q).bind fun c r => .inr ((⟨a, ps, rs, l, s, c⟩ : Ro), r)) e2
/-- THERE AND BACK. -/
theorem enc_mo (m : Mo) (h : MoFit m) (xs : List Nat) (p : Nat) (hp : p ≤ xs.length) (e : xs.drop p = moB m) : rMo xs p = .inr (m, xs.length) := by
  have e3 := enc_list 256 (by omega) m.funcs h.fl (fun r hr => enc_ro r (h.ro r hr))
  have e2 := (enc_list 32768 (by omega) m.texts h.xl (fun r hr => enc_text r (h.tx r hr)))
  have e1 := (enc_list 256 (by omega) m.types h.tl (fun r hr => enc_ty r (h.ty r hr)))
  unfold moB at e
  have d1 := e1 xs p _ hp e
  have f1 : xs.drop (p + (liB tyB m.types).length) = liB txB m.texts ++ liB roB m.funcs := by rw [← List.drop_drop, e, List.drop_left]
  have hl := congrArg List.length e
  rw [List.length_append, List.length_append, List.length_drop] at hl
  have d2 := e2 xs _ _ (by omega) f1
  have f2 : xs.drop (p + (liB tyB m.types).length + (liB txB m.texts).length) = liB roB m.funcs ++ [] := by rw [← List.drop_drop, f1, List.drop_left, List.append_nil]
  have d3 := e3 xs _ _ (by omega) f2
  unfold rMo
  simp only [d1, d2, d3, Rs.bind_inr]
  rw [if_neg (by omega)]
  congr 2
  omega
/-! ### What is read is written again -/
def Dec {α : Type} (f : List Nat → Nat → Rs α) (u : α → List Nat) : Prop := ∀ xs p a q, (∀ c ∈ xs, c < 256) → p ≤ xs.length → f xs p = .inr (a, q) → p ≤ q ∧ q ≤ xs.length ∧ u a = (xs.drop p).take (q - p)
theorem bind_eq {α β : Type} {r : Rs α} {f : α → Nat → Rs β} {b : β} {q : Nat} (h : r.bind f = .inr (b, q)) : ∃ a p, r = .inr (a, p) ∧ f a p = .inr (b, q) := by
  match r with
  | .inl x => cases h
  | .inr (a, p) => exact ⟨a, p, rfl, h⟩
theorem take_join {xs : List Nat} {p q r : Nat} (h1 : p ≤ q) (h2 : q ≤ r) (u v : List Nat) (hu : u = (xs.drop p).take (q - p)) (hv : v = (xs.drop q).take (r - q)) : u ++ v = (xs.drop p).take (r - p) := by
  rw [hu, hv]
  have e : xs.drop q = (xs.drop p).drop (q - p) := by rw [List.drop_drop]; congr 1; omega
  rw [e, show r - p = (q - p) + (r - q) by omega, List.take_add]
theorem dec_num : Dec rNum nuB := by
  intro xs p a q hb hp h
  unfold rNum at h
  split at h
  · cases h
  · split at h
    · cases h
    · split at h
      · cases h
      · rename_i h1 h2 h3
        have h2 : (Q01.getS 0 0 (xs.drop p)).2.2 = 0 := by omega
        cases h
        rcases Q01.getS_once (xs.drop p) 0 0 (by omega) (fun c hc => hb c (List.mem_of_mem_drop hc)) with ⟨h4, _⟩ | ⟨_, m, h4, h5, h6, h7, _⟩
        · exact absurd h2 h4
        · rw [List.length_drop] at h6
          refine ⟨by omega, by omega, ?_⟩
          unfold nuB
          rw [h4]
          simp only [Nat.pow_zero, Nat.mul_one, Nat.zero_add, Int.toNat_natCast]
          rw [h7]
          congr 1
          omega
theorem dec_count (lim : Nat) : Dec (rCount lim) Q01.putN := by
  intro xs p a q hb hp h
  obtain ⟨n, r, h1, h2⟩ := bind_eq h
  split at h2
  · cases h2
  · cases h2
    exact dec_num xs p n q hb hp h1
theorem dec_bytes (n : Nat) (xs : List Nat) (p : Nat) (a : List Nat) (q : Nat) (hp : p ≤ xs.length) (h : rBytes n xs p = .inr (a, q)) : p ≤ q ∧ q ≤ xs.length ∧ a = (xs.drop p).take (q - p) ∧ a.length = n := by
  unfold rBytes at h
  split at h
  · cases h
  · rename_i h1
    cases h
    refine ⟨by omega, by omega, by congr 1; omega, by rw [List.length_take, List.length_drop]; omega⟩
theorem mem_part {xs : List Nat} {p n c : Nat} (h : c ∈ (xs.drop p).take n) : c ∈ xs := List.mem_of_mem_drop (List.mem_of_mem_take h)
theorem dec_text : Dec rText txB := by
  intro xs p a q hb hp h
  obtain ⟨n, r, h1, h2⟩ := bind_eq h
  obtain ⟨b, s, h3, h4⟩ := bind_eq h2
  cases h4
  obtain ⟨i1, i2, i3⟩ := dec_count _ xs p n r hb hp h1
  obtain ⟨j1, j2, j3, j4⟩ := dec_bytes n xs r b q i2 h3
  have hbb : ∀ c ∈ b, c < 256 := fun c hc => hb c (mem_part (j3 ▸ hc))
  refine ⟨by omega, j2, ?_⟩
  unfold txB
  rw [← byS_length, byS_strN b hbb, j4]
  exact take_join i1 j1 _ _ i3 j3
theorem dec_code : Dec rCode (fun l => Q01.putN l.length ++ l) := by
  intro xs p a q hb hp h
  obtain ⟨n, r, h1, h2⟩ := bind_eq h
  obtain ⟨i1, i2, i3⟩ := dec_count _ xs p n r hb hp h1
  obtain ⟨j1, j2, j3, j4⟩ := dec_bytes n xs r a q i2 h2
  refine ⟨by omega, j2, ?_⟩
  show Q01.putN a.length ++ a = _
  rw [j4]
  exact take_join i1 j1 _ _ i3 j3
theorem dec_sev {α : Type} {f : List Nat → Nat → Rs α} {u : α → List Nat} (hd : Dec f u) (xs : List Nat) (hb : ∀ c ∈ xs, c < 256) : ∀ n p l q, p ≤ xs.length → rSev (f xs) n p = .inr (l, q) → p ≤ q ∧ q ≤ xs.length ∧ (l.map u).flatten = (xs.drop p).take (q - p) ∧ l.length = n := by
  intro n
  induction n with
  | zero => intro p l q hp h; cases h; exact ⟨Nat.le_refl _, hp, by simp, rfl⟩
  | succ n ih =>
    intro p l q hp h
    obtain ⟨a, r, h1, h2⟩ := bind_eq h
    obtain ⟨l', s, h3, h4⟩ := bind_eq h2
    cases h4
    obtain ⟨i1, i2, i3⟩ := hd xs p a r hb hp h1
    obtain ⟨j1, j2, j3, j4⟩ := ih r l' q i2 h3
    exact ⟨by omega, j2, by rw [List.map_cons, List.flatten_cons]; exact take_join i1 j1 _ _ i3 j3, by rw [List.length_cons, j4]⟩
theorem dec_list {α : Type} {f : List Nat → Nat → Rs α} {u : α → List Nat} (hd : Dec f u) (lim : Nat) : Dec (rList lim f) (liB u) := by
  intro xs p l q hb hp h
  obtain ⟨n, r, h1, h2⟩ := bind_eq h
  obtain ⟨i1, i2, i3⟩ := dec_count _ xs p n r hb hp h1
  obtain ⟨j1, j2, j3, j4⟩ := dec_sev hd xs hb n r l q i2 h2
  refine ⟨by omega, j2, ?_⟩
  unfold liB
  rw [j4]
  exact take_join i1 j1 _ _ i3 j3
theorem dec_fl : Dec rFl flB := by
  intro xs p a q hb hp h
  obtain ⟨n, r, h1, h2⟩ := bind_eq h
  obtain ⟨b, s, h3, h4⟩ := bind_eq h2
  cases h4
  obtain ⟨i1, i2, i3⟩ := dec_text xs p n r hb hp h1
  obtain ⟨j1, j2, j3⟩ := dec_num xs r b q hb i2 h3
  exact ⟨by omega, j2, take_join i1 j1 _ _ i3 j3⟩
theorem dec_kind : Dec rKind (fun k => [k]) := by
  intro xs p a q hb hp h
  unfold rKind at h
  split at h
  · cases h
  · split at h
    · rename_i h1 h2
      cases h
      refine ⟨by omega, by omega, ?_⟩
      have hlt : p < xs.length := by omega
      rw [show p + 1 - p = 1 by omega, List.drop_eq_getElem_cons hlt]
      show [xs.getD p 0] = [xs[p]]
      simp [List.getD, hlt]
    · cases h
theorem rKind_in {xs : List Nat} {p k q : Nat} (h : rKind xs p = .inr (k, q)) : k = 6 ∨ k = 7 ∨ k = 8 := by
  unfold rKind at h
  split at h
  · cases h
  · split at h
    · rename_i h2; cases h; exact h2
    · cases h
theorem dec_ty : Dec rTy tyB := by
  intro xs p a q hb hp h
  obtain ⟨k, r, h1, h2⟩ := bind_eq h
  obtain ⟨i1, i2, i3⟩ := dec_kind xs p k r hb hp h1
  have hk := rKind_in h1
  by_cases k6 : k = 6
  · subst k6
    rw [if_pos rfl] at h2
    obtain ⟨n, s, h3, h4⟩ := bind_eq h2
    obtain ⟨l, t, h5, h6⟩ := bind_eq h4
    cases h6
    obtain ⟨j1, j2, j3⟩ := dec_text xs r n s hb i2 h3
    obtain ⟨l1, l2, l3⟩ := dec_list dec_fl 32 xs s l q hb j2 h5
    refine ⟨by omega, l2, ?_⟩
    have e := take_join (show p ≤ r from i1) (show r ≤ q by omega) _ _ i3 (take_join j1 l1 _ _ j3 l3)
    exact e
  · rw [if_neg k6] at h2
    by_cases k7 : k = 7
    · subst k7
      rw [if_pos rfl] at h2
      obtain ⟨n, s, h3, h4⟩ := bind_eq h2
      obtain ⟨l, t, h5, h6⟩ := bind_eq h4
      cases h6
      obtain ⟨j1, j2, j3⟩ := dec_num xs r n s hb i2 h3
      obtain ⟨l1, l2, l3⟩ := dec_num xs s l q hb j2 h5
      refine ⟨by omega, l2, ?_⟩
      have e := take_join (show p ≤ r from i1) (show r ≤ q by omega) _ _ i3 (take_join j1 l1 _ _ j3 l3)
      exact e
    · have k8 : k = 8 := by omega
      subst k8
      rw [if_neg (by omega)] at h2
      obtain ⟨n, s, h3, h4⟩ := bind_eq h2
      cases h4
      obtain ⟨j1, j2, j3⟩ := dec_num xs r n q hb i2 h3
      refine ⟨by omega, j2, ?_⟩
      have e := take_join (show p ≤ r from i1) (show r ≤ q by omega) _ _ i3 j3
      exact e
theorem dec_ro : Dec rRo roB := by
  intro xs p a q hb hp h
  obtain ⟨n, r1, h1, h⟩ := bind_eq h
  obtain ⟨ps, r2, h2, h⟩ := bind_eq h
  obtain ⟨rs, r3, h3, h⟩ := bind_eq h
  obtain ⟨lo, r4, h4, h⟩ := bind_eq h
  obtain ⟨st, r5, h5, h⟩ := bind_eq h
  obtain ⟨co, r6, h6, h⟩ := bind_eq h
  cases h
  obtain ⟨a1, b1, c1⟩ := dec_text xs p n r1 hb hp h1
  obtain ⟨a2, b2, c2⟩ := dec_list dec_num 32 xs r1 ps r2 hb b1 h2
  obtain ⟨a3, b3, c3⟩ := dec_list dec_num 8 xs r2 rs r3 hb b2 h3
  obtain ⟨a4, b4, c4⟩ := dec_num xs r3 lo r4 hb b3 h4
  obtain ⟨a5, b5, c5⟩ := dec_num xs r4 st r5 hb b4 h5
  obtain ⟨a6, b6, c6⟩ := dec_code xs r5 co q hb b5 h6
  refine ⟨by omega, b6, ?_⟩
  exact take_join a1 (by omega) _ _ c1 (take_join a2 (by omega) _ _ c2 (take_join a3 (by omega) _ _ c3 (take_join a4 (by omega) _ _ c4 (take_join a5 a6 _ _ c5 c6))))
theorem dec_mo (xs : List Nat) (p : Nat) (m : Mo) (q : Nat) (hb : ∀ c ∈ xs, c < 256) (hp : p ≤ xs.length) (h : rMo xs p = .inr (m, q)) : q = xs.length ∧ moB m = xs.drop p := by
  obtain ⟨ts, r1, h1, h⟩ := bind_eq h
  obtain ⟨ss, r2, h2, h⟩ := bind_eq h
  obtain ⟨fs, r3, h3, h⟩ := bind_eq h
  obtain ⟨a1, b1, c1⟩ := dec_list dec_ty 256 xs p ts r1 hb hp h1
  obtain ⟨a2, b2, c2⟩ := dec_list dec_text 32768 xs r1 ss r2 hb b1 h2
  obtain ⟨a3, b3, c3⟩ := dec_list dec_ro 256 xs r2 fs r3 hb b2 h3
  split at h
  · cases h
  · cases h
    have hq : q = xs.length := by omega
    refine ⟨hq, ?_⟩
    have e := take_join a1 (by omega) _ _ c1 (take_join a2 a3 _ _ c2 c3)
    have e2 : (xs.drop p).take (q - p) = xs.drop p := by rw [List.take_of_length_le]; rw [List.length_drop]; omega
    rw [e2] at e
    exact e
/-- Modules with the same bytes are the same. -/
theorem moB_inj {m n : Mo} (hm : MoFit m) (hn : MoFit n) (h : moB m = moB n) : m = n := by
  have h1 := enc_mo m hm (moB m) 0 (Nat.zero_le _) (by simp)
  have h2 := enc_mo n hn (moB m) 0 (Nat.zero_le _) (by simp [h])
  rw [h1] at h2
  injection h2 with h2
  injection h2
end Go.Proofs.YtmmbdpdpkkikjaaGreat
namespace Go.Proofs.YtmmbdpdpkkikjaaGreat.Q01
open Go.RowKit

theorem info8 : (Tryz.prog.info? 5).map (fun i => (i.zero, i.size, i.bytes)) = some (some (.int .u8 0), 1, 1) := by kernel_rfl

def nums (xs : List Nat) : List Value := xs.map fun (c : Nat) => Value.int .u8 (c : Int)
theorem nums_length (xs : List Nat) : (nums xs).length = xs.length := by simp [nums]

/-- A row that is filled from the left. -/
def fillK (f : Nat → Nat) (s k : Nat) : List Value := (List.range s).map fun i => Value.int .u8 (if i < k then ((f i : Nat) : Int) else 0)
theorem fillK_length (f : Nat → Nat) (s k : Nat) : (fillK f s k).length = s := by simp [fillK]
theorem fillK_made (f : Nat → Nat) (s : Nat) : (madeCells #[Value.int .u8 0] s).toList = fillK f s 0 := by
  rw [toList_madeCells_one]
  apply List.ext_getElem
  · simp [fillK]
  · intro i h1 h2; simp [fillK]
theorem fillK_set (f : Nat → Nat) (s k : Nat) (x : Int) (hx : x = f k) : (fillK f s k).set k (.int .u8 x) = fillK f s (k + 1) := by
  subst hx
  apply List.ext_getElem
  · simp [fillK]
  · intro i h1 h2
    simp only [fillK, List.getElem_set, List.getElem_map, List.getElem_range]
    by_cases e : k = i
    · subst e; simp
    · rw [if_neg e]; congr 1
      by_cases h : i < k
      · rw [if_pos h, if_pos (by omega)]
      · rw [if_neg h, if_neg (by omega)]
theorem fillK_full (f : Nat → Nat) (s : Nat) : fillK f s s = nums ((List.range s).map f) := by
  simp only [fillK, nums, List.map_map]
  apply List.map_congr_left
  intro i hi
  simp at hi
  simp [hi]
theorem fillK_get (f : Nat → Nat) (s k i : Nat) (h : i < s) : (fillK f s k)[i]? = some (.int .u8 (if i < k then ((f i : Nat) : Int) else 0)) := by
  simp [fillK, h]

def putF (n : Nat) (i : Nat) : Nat := n / 128 ^ i % 128 + 128
theorem put_end (n : Nat) (x : Int) (hx : x = ((n / 128 ^ ((putN n).length - 1) % 128 : Nat) : Int)) : (fillK (putF n) (putN n).length (putN n).length).set ((putN n).length - 1) (.int .u8 x) = nums (putN n) := by
  subst hx
  have hp := plen_pos n
  rw [fillK_full]
  apply List.ext_getElem
  · simp [nums]
  · intro i h1 h2
    have hi : i < (putN n).length := by simpa [nums] using h2
    have hg := putN_get n i hi
    have hg' : (putN n)[i] = n / 128 ^ i % 128 + if i + 1 < (putN n).length then 128 else 0 := by simpa [List.getD, hi] using hg
    simp only [nums, List.getElem_set, List.getElem_map, List.getElem_range, hg', putF]
    by_cases e : (putN n).length - 1 = i
    · rw [if_pos e, if_neg (by omega), e]; simp
    · rw [if_neg e, if_pos (by omega)]

set_option maxRecDepth 10000 in
theorem or128 : ∀ x : Nat, x < 256 → x ||| 128 = x % 128 + 128 := by decide
set_option maxRecDepth 10000 in
theorem and127 : ∀ x : Nat, x < 256 → x &&& 127 = x % 128 := by decide
theorem shr_nat (n c : Nat) : (n : Int) / 2 ^ c = ((n / 2 ^ c : Nat) : Int) := by simp
theorem put_byte (n k : Nat) : bits BinOp.or IntKind.u8 ((n : Int) / 2 ^ (7 * k) % 256) 128 = (putF n k : Nat) := by
  have e : (n : Int) / 2 ^ (7 * k) % 256 = ((n / 2 ^ (7 * k) % 256 : Nat) : Int) := by simp
  have h := u8_or_nat (n / 2 ^ (7 * k) % 256) 128 (by omega) (by omega)
  rw [e]
  refine h.trans ?_
  have e2 : (2 : Nat) ^ (7 * k) = 128 ^ k := by rw [Nat.pow_mul]
  rw [or128 _ (by omega), e2, putF]
  congr 1
  omega
theorem put_low (n k : Nat) : bits BinOp.and IntKind.u8 ((putF n k : Nat) : Int) 127 = ((n / 128 ^ k % 128 : Nat) : Int) := by
  have h := u8_and_nat (putF n k) 127 (by unfold putF; omega) (by omega)
  refine h.trans ?_
  rw [and127 _ (by unfold putF; omega), putF]
  congr 1
  omega

set_option maxHeartbeats 1000000 in
theorem put_any (n : Nat) (w : World) (h : n < 18446744073709551616) :
    Calls Tryz.prog 123 #[.int .u64 n] w fun e w' => ∃ g, e = .returned (.slice (some ⟨g, 0, none⟩) (putN n).length (putN n).length) ∧
      w'.ownsRow w.heap.size 5 1 (.slice (some ⟨g, 0, none⟩) (putN n).length (putN n).length) (putN n).length (nums (putN n)) ∧ Below w.heap.size w w' := by
  obtain ⟨i8, hi, hz0, hz1, hz2⟩ := info_parts info8
  have hor : bits BinOp.or IntKind.u64 (n : Int) 1 = ((n ||| 1 : Nat) : Int) := bits_or_u64_nat n 1 h (by omega)
  have HO : Hid (bits BinOp.or IntKind.u64 (n : Int) 1 = ((n ||| 1 : Nat) : Int)) := hor
  have hlt : n ||| 1 < 18446744073709551616 := by rw [or_one]; omega
  have h64 : bitLen (n ||| 1) ≤ 64 := bitLen_le_of_lt (by omega)
  have hs := plen_eq n
  have hp := plen_pos n
  have h10 := plen_ten h
  have hlast := putN_last n
  have hend := put_end n
  have hget := fillK_get (putF n)
  have hset := fillK_set (putF n) (putN n).length
  have hmade := fillK_made (putF n) (putN n).length
  obtain ⟨L, hL⟩ : ∃ L, L = bitLen (n ||| 1) := ⟨_, rfl⟩
  rw [← hL] at hs h64
  obtain ⟨s, hS⟩ : ∃ s, s = (putN n).length := ⟨_, rfl⟩
  rw [← hS] at hs hp h10 hlast hend hset hmade ⊢
  have HL : Hid (L = bitLen (n ||| 1)) := hL
  have HE : Hid (∀ x : Int, x = ((n / 128 ^ (s - 1) % 128 : Nat) : Int) → (fillK (putF n) s s).set (s - 1) (.int .u8 x) = nums (putN n)) := hend
  have HG : Hid (∀ s k i : Nat, i < s → (fillK (putF n) s k)[i]? = some (.int .u8 (if i < k then ((putF n i : Nat) : Int) else 0))) := hget
  have HT : Hid (∀ (k : Nat) (x : Int), x = putF n k → (fillK (putF n) s k).set k (.int .u8 x) = fillK (putF n) s (k + 1)) := hset
  have hm : i8.bytes * s ≤ 281474976710656 := by rw [hz2]; omega
  have hq : ((L : Int) + 6) / 7 = (s : Int) := by omega
  clear hor hL hS hs hend hget hset
  go_enter Tryz.func123, Tryz.ntmps123
  go_wp2_with (first | (go_at_call 150; refine (len64_of _ (n ||| 1) HO.out hlt w).mono ?_; rw [← HL.out]; rintro e w' ⟨rfl, rfl⟩) | (at_make; simp only [hq]; refine wpList_make_full _ rfl _ _ 29 rfl w.heap.size 5 i8 (.int .u8 0) 1 Tryz.underlying29 hi hz0 hz1 _ _ _ _ s rfl rfl rfl rfl hm (by unfold maxLen; omega) (Nat.le_refl _) ?_))
  intro w1 hown hgrow
  have hbel : Below w.heap.size w w1 := (Below.refl _ _).grown hgrow (Nat.le_refl _) (by simp)
  clear hmade hm hi hz0 hz1 hz2 hgrow
  go_wp2
  go_loopw [14] (fun i wr => ∃ k : Nat, k ≤ s ∧ i = .int .i64 k ∧ wr.ownsRow w.heap.size 5 1 (.slice (some ⟨w.heap.size, 0, none⟩) s s) s (fillK (putF n) s k) ∧ Below w.heap.size w wr) (fun i _ => s - (intOf i).toNat)
  case atStart => exact ⟨0, Nat.zero_le _, rfl, hown, hbel⟩
  case round =>
    obtain ⟨k, hk, rfl, hownr, hbelr⟩ := hrel
    by_cases hlt' : k < s
    · have hc : wr.cell? ⟨w.heap.size, k, none⟩ = some (.int .u8 (if k < k then ((putF n k : Nat) : Int) else 0)) := by rw [hownr.cellAt k (by omega), HG.out s k k hlt']
      have hf := hownr.frozenAt k
      go_wp2
      go_roundw
      case rel =>
        refine ⟨k + 1, by omega, by go_num, ?_, hbelr.setCell (Nat.le_refl _) _⟩
        have st := (hownr.stored k (.int .u8 (putF n k : Nat))).1
        rw [HT.out k _ rfl] at st
        rw [put_byte n k]
        exact st
      case measure => simp [intOf]; omega
    · have hks : k = s := by omega
      subst hks
      have hc : wr.cell? ⟨w.heap.size, k - 1, none⟩ = some (.int .u8 (putF n (k - 1) : Nat)) := by rw [hownr.cellAt (k - 1) (by omega), HG.out k k (k - 1) (by omega), if_pos (by omega)]
      have hf := hownr.frozenAt (k - 1)
      go_wp2
      go_ret
      refine ⟨w.heap.size, rfl, ?_, hbelr.setCell (Nat.le_refl _) _⟩
      have st := (hownr.stored (k - 1) (.int .u8 ((n / 128 ^ (k - 1) % 128 : Nat) : Int))).1
      rw [HE.out _ rfl] at st
      rw [put_low n (k - 1)]
      exact st

theorem put_of (x : Int) (n : Nat) (hx : x = n) (h : n < 18446744073709551616) (w : World) :
    Calls Tryz.prog 123 #[.int .u64 x] w fun e w' => ∃ g, e = .returned (.slice (some ⟨g, 0, none⟩) (putN n).length (putN n).length) ∧
      w'.ownsRow w.heap.size 5 1 (.slice (some ⟨g, 0, none⟩) (putN n).length (putN n).length) (putN n).length (nums (putN n)) ∧ Below w.heap.size w w' := by
  subst hx; exact put_any n w h

end Go.Proofs.YtmmbdpdpkkikjaaGreat.Q01
