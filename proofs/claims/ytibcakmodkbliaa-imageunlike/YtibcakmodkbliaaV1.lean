/-
  THE PLAIN MATHEMATICS of layer 1 (wire): numbers as bytes, there and back; the sum and why one other byte makes another sum. No Go in sight.
-/
import Derived.Laws.MathBits
import Derived.Laws.Bits64b
import Derived.Laws.BitsAllLaws
namespace Go.Proofs.Ytibcakmodkbliaa.Q01

/-! ### The short form -/
def putFuel : Nat → Nat → List Nat
  | 0, n => [n]
  | f + 1, n => if n < 128 then [n] else (n % 128 + 128) :: putFuel f (n / 128)
theorem putFuel_eq : ∀ f g n, n ≤ f → n ≤ g → putFuel f n = putFuel g n := by
  intro f
  induction f with
  | zero =>
    intro g n hf _
    have hn : n = 0 := by omega
    subst hn
    cases g with
    | zero => rfl
    | succ g => simp [putFuel]
  | succ f ih =>
    intro g n hf hg
    cases g with
    | zero =>
      have hn : n = 0 := by omega
      subst hn
      simp [putFuel]
    | succ g =>
      simp only [putFuel]
      by_cases h : n < 128
      · rw [if_pos h, if_pos h]
      · rw [if_neg h, if_neg h, ih g (n / 128) (by omega) (by omega)]
def putN (n : Nat) : List Nat := putFuel n n

theorem putN_lt {n : Nat} (h : n < 128) : putN n = [n] := by
  unfold putN
  cases n with
  | zero => rfl
  | succ k => simp [putFuel, h]
theorem putN_ge {n : Nat} (h : 128 ≤ n) : putN n = (n % 128 + 128) :: putN (n / 128) := by
  unfold putN
  cases n with
  | zero => omega
  | succ k =>
    simp only [putFuel]
    rw [if_neg (by omega), putFuel_eq k ((k + 1) / 128) ((k + 1) / 128) (by omega) (by omega)]

theorem putN_byte : ∀ n c, c ∈ putN n → c < 256 := by
  intro n
  induction n using Nat.strongRecOn with
  | ind n ih =>
    intro c hc
    by_cases h : n < 128
    · rw [putN_lt h] at hc; simp at hc; omega
    · rw [putN_ge (by omega)] at hc
      simp at hc
      rcases hc with rfl | hc
      · omega
      · exact ih (n / 128) (by omega) c hc

theorem or_one (n : Nat) : n ||| 1 = n / 2 * 2 + 1 := by
  have h1 : (n ||| 1) / 2 = n / 2 := by rw [Nat.or_div_two]; simp
  have h2 : (n ||| 1) % 2 = 1 := by simp
  omega

theorem bitLen_pos {n : Nat} (h : n ≠ 0) : 1 ≤ bitLen n := by unfold bitLen; rw [if_neg h]; omega
theorem bitLen_step {n : Nat} (h : 2 ≤ n) : bitLen n = 1 + bitLen (n / 2) := by
  have := bitLen_shift n 1 (by simp; omega)
  simpa using this
theorem bitLen_or_one {n : Nat} (h : n ≠ 0) : bitLen (n ||| 1) = bitLen n := by
  rw [or_one]
  by_cases h1 : n = 1
  · subst h1; rfl
  · rw [bitLen_step (n := n / 2 * 2 + 1) (by omega), bitLen_step (n := n) (by omega)]
    congr 2; omega
theorem bitLen_le_of_lt {n b : Nat} (h : n < 2 ^ b) : bitLen n ≤ b := by
  unfold bitLen
  split
  · omega
  · rename_i h0
    have := (Nat.log2_lt h0).2 h
    omega

theorem plen_eq : ∀ n, (putN n).length = (bitLen (n ||| 1) + 6) / 7 := by
  intro n
  induction n using Nat.strongRecOn with
  | ind n ih =>
    by_cases h : n < 128
    · rw [putN_lt h]
      have h1 : bitLen (n ||| 1) ≤ 7 := bitLen_le_of_lt (by rw [or_one]; omega)
      have h2 : 1 ≤ bitLen (n ||| 1) := bitLen_pos (by rw [or_one]; omega)
      simp; omega
    · rw [putN_ge (by omega), List.length_cons, ih (n / 128) (by omega)]
      have e : (n ||| 1) / 2 ^ 7 = n / 128 := by rw [or_one]; omega
      have h1 : bitLen (n ||| 1) = 7 + bitLen ((n ||| 1) / 2 ^ 7) := bitLen_shift _ 7 (by rw [e]; omega)
      rw [h1, e, bitLen_or_one (n := n / 128) (by omega)]
      omega

theorem plen_pos (n : Nat) : 1 ≤ (putN n).length := by
  by_cases h : n < 128
  · rw [putN_lt h]; simp
  · rw [putN_ge (by omega)]; simp

theorem plen_le : ∀ n k, n < 128 ^ (k + 1) → (putN n).length ≤ k + 1 := by
  intro n
  induction n using Nat.strongRecOn with
  | ind n ih =>
    intro k hk
    by_cases h : n < 128
    · rw [putN_lt h]; simp
    · rw [putN_ge (by omega), List.length_cons]
      cases k with
      | zero => simp at hk; omega
      | succ k =>
        have := ih (n / 128) (by omega) k (by rw [Nat.pow_succ] at hk; omega)
        omega

theorem plen_ten {n : Nat} (h : n < 18446744073709551616) : (putN n).length ≤ 10 := plen_le n 9 (by omega)

theorem plen_mono : ∀ a b, a ≤ b → (putN a).length ≤ (putN b).length := by
  intro a
  induction a using Nat.strongRecOn with
  | ind a ih =>
    intro b hb
    by_cases h : a < 128
    · rw [putN_lt h]; exact plen_pos b
    · rw [putN_ge (by omega), putN_ge (n := b) (by omega), List.length_cons, List.length_cons]
      have := ih (a / 128) (by omega) (b / 128) (by omega)
      omega

theorem putN_get : ∀ n i, i < (putN n).length → (putN n).getD i 0 = n / 128 ^ i % 128 + if i + 1 < (putN n).length then 128 else 0 := by
  intro n
  induction n using Nat.strongRecOn with
  | ind n ih =>
    intro i hi
    by_cases h : n < 128
    · rw [putN_lt h] at hi ⊢
      simp at hi; subst hi
      simp; omega
    · rw [putN_ge (by omega)] at hi ⊢
      cases i with
      | zero =>
        have := plen_pos (n / 128)
        simp [show putN (n / 128) ≠ [] from fun e => by rw [e] at this; simp at this]
      | succ i =>
        have := ih (n / 128) (by omega) i (by simpa using hi)
        simp only [List.getD_cons_succ, List.length_cons, this, Nat.pow_succ]
        rw [Nat.div_div_eq_div_mul, Nat.mul_comm 128]
        simp

theorem putN_last : ∀ n, n / 128 ^ ((putN n).length - 1) < 128 := by
  intro n
  induction n using Nat.strongRecOn with
  | ind n ih =>
    by_cases h : n < 128
    · rw [putN_lt h]; simpa using h
    · have hp := plen_pos (n / 128)
      have := ih (n / 128) (by omega)
      rw [putN_ge (by omega), List.length_cons]
      rw [Nat.div_div_eq_div_mul] at this
      have e : (putN (n / 128)).length + 1 - 1 = ((putN (n / 128)).length - 1) + 1 := by omega
      rw [e, Nat.pow_succ, Nat.mul_comm]
      exact this

/-! ### Reading -/
def getS (i acc : Nat) : List Nat → Nat × Nat × Nat
  | [] => (0, 0, 10)
  | c :: r => if (i = 9 ∧ 1 < c) ∨ (0 < i ∧ c = 0) then (0, 0, 11) else if c < 128 then (acc + c * 128 ^ i, i + 1, 0) else getS (i + 1) (acc + (c % 128) * 128 ^ i) r

theorem getS_put : ∀ n i acc rest, n * 128 ^ i < 18446744073709551616 → (i = 0 ∨ n ≠ 0) → i ≤ 9 → getS i acc (putN n ++ rest) = (acc + n * 128 ^ i, i + (putN n).length, 0) := by
  intro n
  induction n using Nat.strongRecOn with
  | ind n ih =>
    intro i acc rest hn h0 hi
    by_cases h : n < 128
    · rw [putN_lt h]
      have hno : ¬ ((i = 9 ∧ 1 < n) ∨ (0 < i ∧ n = 0)) := by
        rintro (⟨rfl, h1⟩ | ⟨h1, h2⟩)
        · simp at hn; omega
        · omega
      simp [getS, hno, h]
    · rw [putN_ge (by omega)]
      have hi9 : i ≠ 9 := by rintro rfl; simp at hn; omega
      have hno : ¬ ((i = 9 ∧ 1 < n % 128 + 128) ∨ (0 < i ∧ n % 128 + 128 = 0)) := by omega
      have hpow : n / 128 * 128 ^ (i + 1) ≤ n * 128 ^ i := by
        rw [Nat.pow_succ, Nat.mul_comm (128 ^ i), ← Nat.mul_assoc]
        exact Nat.mul_le_mul_right _ (Nat.div_mul_le_self n 128)
      have := ih (n / 128) (by omega) (i + 1) (acc + (n % 128) * 128 ^ i) rest (by omega) (by omega) (by omega)
      simp only [List.cons_append, getS, hno, if_false, show ¬ (n % 128 + 128 < 128) by omega, List.length_cons, Nat.add_mod_right, Nat.mod_mod, this]
      refine Prod.ext ?_ (Prod.ext ?_ rfl)
      · show acc + n % 128 * 128 ^ i + n / 128 * 128 ^ (i + 1) = acc + n * 128 ^ i
        have e : n * 128 ^ i = n % 128 * 128 ^ i + n / 128 * 128 ^ (i + 1) := by
          rw [Nat.pow_succ, Nat.mul_comm (128 ^ i) 128, ← Nat.mul_assoc, ← Nat.add_mul]
          congr 1; omega
        omega
      · show i + 1 + _ = i + (_ + 1); omega

theorem getS_short : ∀ n i acc k, i + (putN n).length ≤ 10 → (i = 0 ∨ n ≠ 0) → k < (putN n).length → getS i acc ((putN n).take k) = (0, 0, 10) := by
  intro n
  induction n using Nat.strongRecOn with
  | ind n ih =>
    intro i acc k hn h0 hk
    cases k with
    | zero => simp [getS]
    | succ k =>
      by_cases h : n < 128
      · rw [putN_lt h] at hk; simp at hk
      · rw [putN_ge (by omega)] at hk hn ⊢
        simp only [List.length_cons] at hk hn
        have hp := plen_pos (n / 128)
        have hno : ¬ ((i = 9 ∧ 1 < n % 128 + 128) ∨ (0 < i ∧ n % 128 + 128 = 0)) := by omega
        simp only [List.take_succ_cons, getS, hno, if_false, show ¬ (n % 128 + 128 < 128) by omega]
        exact ih (n / 128) (by omega) (i + 1) _ k (by omega) (by omega) (by omega)

/-- What is read, and that its short form is the bytes that were read. -/
theorem getS_once : ∀ (l : List Nat) (i acc : Nat), i ≤ 9 → (∀ c ∈ l, c < 256) →
    ((getS i acc l).2.2 ≠ 0 ∧ (getS i acc l).1 = 0 ∧ (getS i acc l).2.1 = 0) ∨
    ((getS i acc l).2.2 = 0 ∧ ∃ m, (getS i acc l).1 = acc + m * 128 ^ i ∧ i < (getS i acc l).2.1 ∧ (getS i acc l).2.1 ≤ i + l.length ∧ putN m = l.take ((getS i acc l).2.1 - i) ∧ (0 < i → m ≠ 0) ∧ m * 128 ^ i < 18446744073709551616) := by
  intro l
  induction l with
  | nil => intro i acc _ _; exact .inl ⟨by simp [getS], rfl, rfl⟩
  | cons c r ih =>
    intro i acc hi hb
    have hc : c < 256 := hb c (by simp)
    by_cases hno : (i = 9 ∧ 1 < c) ∨ (0 < i ∧ c = 0)
    · exact .inl (by simp [getS, hno])
    · by_cases h : c < 128
      · refine .inr ?_
        simp only [getS, hno, h, if_false, if_true]
        refine ⟨trivial, c, rfl, by omega, by simp, ?_, by omega, ?_⟩
        · rw [putN_lt h, show i + 1 - i = 1 by omega]; simp
        · rcases (by omega : i ≤ 8 ∨ i = 9) with h8 | rfl
          · have := Nat.mul_le_mul_left c (Nat.pow_le_pow_right (show 0 < 128 by omega) h8)
            omega
          · simp; omega
      · simp only [getS, hno, h, if_false]
        have hi9 : i ≠ 9 := by omega
        rcases ih (i + 1) (acc + c % 128 * 128 ^ i) (by omega) (fun x hx => hb x (by simp [hx])) with hl | ⟨h1, m, h2, h3, h4, h5, h6, h7⟩
        · exact .inl hl
        · refine .inr ⟨h1, m * 128 + c % 128, ?_, by omega, by simp; omega, ?_, by omega, ?_⟩
          · rw [h2, Nat.add_mul, Nat.pow_succ]
            have : m * (128 ^ i * 128) = m * 128 * 128 ^ i := by rw [Nat.mul_comm (128 ^ i), Nat.mul_assoc]
            omega
          · have hm := h6 (by omega)
            rw [putN_ge (by omega), show (m * 128 + c % 128) / 128 = m by omega, show (m * 128 + c % 128) % 128 + 128 = c by omega, h5]
            rw [show (getS (i + 1) (acc + c % 128 * 128 ^ i) r).2.1 - i = ((getS (i + 1) (acc + c % 128 * 128 ^ i) r).2.1 - (i + 1)) + 1 by omega, List.take_succ_cons]
          · rw [Nat.pow_succ] at h7
            have e : m * (128 ^ i * 128) = m * 128 * 128 ^ i := by rw [Nat.mul_comm (128 ^ i), Nat.mul_assoc]
            rw [e] at h7
            rw [Nat.add_mul]
            have hp : 0 < 128 ^ i := Nat.pow_pos (by omega)
            have hlt : c % 128 * 128 ^ i < 128 * 128 ^ i := Nat.mul_lt_mul_of_pos_right (by omega) hp
            -- both are multiples of 128^(i+1) resp. below it, and 2^64 is a multiple of 128^(i+1)
            have hdiv : ∃ q, 18446744073709551616 = q * (128 * 128 ^ i) := by
              refine ⟨18446744073709551616 / (128 * 128 ^ i), ?_⟩
              have : i = 0 ∨ i = 1 ∨ i = 2 ∨ i = 3 ∨ i = 4 ∨ i = 5 ∨ i = 6 ∨ i = 7 ∨ i = 8 := by omega
              rcases this with rfl | rfl | rfl | rfl | rfl | rfl | rfl | rfl | rfl <;> rfl
            obtain ⟨q, hq⟩ := hdiv
            have e2 : m * 128 * 128 ^ i = m * (128 * 128 ^ i) := by rw [Nat.mul_assoc]
            rw [hq, e2] at h7
            have hmq : m < q := Nat.lt_of_mul_lt_mul_right h7
            have : (m + 1) * (128 * 128 ^ i) ≤ q * (128 * 128 ^ i) := Nat.mul_le_mul_right _ (by omega)
            rw [Nat.add_mul, Nat.one_mul] at this
            rw [hq, e2]
            omega

/-! ### Signed numbers -/
def zig (u : Nat) : Int := if u % 2 = 1 then -((u / 2 : Nat) : Int) - 1 else ((u / 2 : Nat) : Int)
def zag (n : Int) : Nat := if n < 0 then (-2 * n - 1).toNat else (2 * n).toNat
theorem zig_zag (n : Int) : zig (zag n) = n := by
  unfold zig zag; split <;> split <;> omega
theorem zag_zig (u : Nat) : zag (zig u) = u := by
  unfold zig zag; split <;> split <;> omega
theorem zag_lt {n : Int} (h1 : -9223372036854775808 ≤ n) (h2 : n < 9223372036854775808) : zag n < 18446744073709551616 := by
  unfold zag; split <;> omega
theorem zig_bd {u : Nat} (h : u < 18446744073709551616) : -9223372036854775808 ≤ zig u ∧ zig u < 9223372036854775808 := by
  unfold zig; split <;> omega

/-! ### Fixed forms -/
def fixN (n k : Nat) : List Nat := (List.range k).map fun i => n / 256 ^ i % 256
def wid : List Nat → Nat
  | [] => 0
  | c :: r => c + 256 * wid r
theorem fixN_length (n k : Nat) : (fixN n k).length = k := by simp [fixN]
theorem fixN_byte (n k : Nat) : ∀ c ∈ fixN n k, c < 256 := by
  intro c hc; simp [fixN] at hc; obtain ⟨i, _, rfl⟩ := hc; omega
theorem fixN_take (n k j : Nat) (h : j ≤ k) : (fixN n k).take j = fixN n j := by
  unfold fixN; rw [← List.map_take, List.take_range, Nat.min_eq_left h]
theorem wid_snoc : ∀ (l : List Nat) (c : Nat), wid (l ++ [c]) = wid l + c * 256 ^ l.length := by
  intro l
  induction l with
  | nil => intro c; simp [wid]
  | cons a r ih => intro c; simp only [List.cons_append, wid, ih, List.length_cons, Nat.pow_succ]; rw [Nat.mul_add, ← Nat.add_assoc]; congr 1; rw [Nat.mul_comm 256, Nat.mul_assoc]
theorem wid_lt : ∀ (l : List Nat), (∀ c ∈ l, c < 256) → wid l < 256 ^ l.length := by
  intro l
  induction l with
  | nil => intro _; simp [wid]
  | cons a r ih =>
    intro h
    have := ih fun c hc => h c (by simp [hc])
    have ha := h a (by simp)
    simp only [wid, List.length_cons, Nat.pow_succ]; omega
theorem fixN_succ (n k : Nat) : fixN n (k + 1) = fixN n k ++ [n / 256 ^ k % 256] := by simp [fixN, List.range_succ]
theorem wid_fixN (n : Nat) : ∀ k, wid (fixN n k) = n % 256 ^ k := by
  intro k
  induction k with
  | zero => simp [fixN, wid]; omega
  | succ k ih =>
    rw [fixN_succ, wid_snoc, ih, fixN_length, Nat.pow_succ, Nat.mod_mul]
    rw [Nat.mul_comm]

/-! ### The sum -/
def poly : Nat := 3988292384
def crcBit (s b : Nat) : Nat := if (s + b) % 2 = 1 then (s / 2) ^^^ poly else s / 2
def crcBits (c : Nat) : Nat → Nat → Nat
  | 0, s => s
  | k + 1, s => crcBit (crcBits c k s) (c / 2 ^ k % 2)
def crcAll : Nat → List Nat → Nat
  | s, [] => s
  | s, c :: r => crcAll (crcBits c 8 s) r
def sumN (l : List Nat) : Nat := 4294967295 - crcAll 4294967295 l

theorem crcBit_lt {s : Nat} (b : Nat) (h : s < 4294967296) : crcBit s b < 4294967296 := by
  unfold crcBit
  split
  · exact Nat.xor_lt_two_pow (n := 32) (by omega) (by decide)
  · omega
theorem crcBits_lt {s : Nat} (c : Nat) (h : s < 4294967296) : ∀ k, crcBits c k s < 4294967296 := by
  intro k
  induction k with
  | zero => exact h
  | succ k ih => exact crcBit_lt _ ih
theorem crcAll_lt : ∀ (l : List Nat) {s : Nat}, s < 4294967296 → crcAll s l < 4294967296 := by
  intro l
  induction l with
  | nil => intro s h; exact h
  | cons c r ih => intro s h; exact ih (crcBits_lt c h 8)
theorem crcAll_append : ∀ (l r : List Nat) (s : Nat), crcAll s (l ++ r) = crcAll (crcAll s l) r := by
  intro l
  induction l with
  | nil => intro r s; rfl
  | cons c t ih => intro r s; simp [crcAll, ih]

/-- The highest bit of what comes out tells whether the bits were unlike. -/
theorem crcBit_top {s : Nat} (b : Nat) (h : s < 4294967296) : (crcBit s b).testBit 31 = decide ((s + b) % 2 = 1) := by
  have h0 : (s / 2).testBit 31 = false := Nat.testBit_lt_two_pow (by omega)
  unfold crcBit
  split
  · rename_i h1; rw [Nat.testBit_xor, h0, h1]; decide
  · rename_i h1; rw [h0]; simp [h1]

theorem crcBit_inj {s s' b b' m : Nat} (hm : m ≤ 30) (hs : s < 4294967296) (hs' : s' < 4294967296) (h : crcBit s b / 2 ^ m = crcBit s' b' / 2 ^ m) :
    (s + b) % 2 = (s' + b') % 2 ∧ s / 2 ^ (m + 1) = s' / 2 ^ (m + 1) := by
  have ht : (crcBit s b).testBit 31 = (crcBit s' b').testBit 31 := by
    have h1 : (crcBit s b / 2 ^ m).testBit (31 - m) = (crcBit s b).testBit 31 := by rw [Nat.testBit_div_two_pow]; congr 1; omega
    have h2 : (crcBit s' b' / 2 ^ m).testBit (31 - m) = (crcBit s' b').testBit 31 := by rw [Nat.testBit_div_two_pow]; congr 1; omega
    rw [← h1, ← h2, h]
  rw [crcBit_top b hs, crcBit_top b' hs'] at ht
  have hp : (s + b) % 2 = (s' + b') % 2 := by
    have := decide_eq_decide.1 ht; omega
  refine ⟨hp, ?_⟩
  have e : ∀ x : Nat, x / 2 ^ (m + 1) = (x / 2) / 2 ^ m := fun x => by rw [Nat.div_div_eq_div_mul, Nat.pow_succ, Nat.mul_comm]
  rw [e s, e s']
  unfold crcBit at h
  rw [hp] at h
  split at h
  · rw [← Nat.shiftRight_eq_div_pow, ← Nat.shiftRight_eq_div_pow, Nat.shiftRight_xor_distrib, Nat.shiftRight_xor_distrib] at h
    have h' := congrArg (· ^^^ (poly >>> m)) h
    simp only [Nat.xor_assoc, Nat.xor_self, Nat.xor_zero] at h'
    rwa [Nat.shiftRight_eq_div_pow, Nat.shiftRight_eq_div_pow] at h'
  · exact h

/-- From the sum back: what bits behind it can undo. -/
theorem crcBits_back (c c' : Nat) {s s' : Nat} (hs : s < 4294967296) (hs' : s' < 4294967296) (k : Nat) : ∀ m j, j + m ≤ 30 → crcBits c (k + m) s / 2 ^ j = crcBits c' (k + m) s' / 2 ^ j → crcBits c k s / 2 ^ (j + m) = crcBits c' k s' / 2 ^ (j + m) := by
  intro m
  induction m with
  | zero => intro j _ h; simpa using h
  | succ m ih =>
    intro j hj h
    have h' : crcBit (crcBits c (k + m) s) (c / 2 ^ (k + m) % 2) / 2 ^ j = crcBit (crcBits c' (k + m) s') (c' / 2 ^ (k + m) % 2) / 2 ^ j := h
    have := (crcBit_inj (by omega) (crcBits_lt c hs _) (crcBits_lt c' hs' _) h').2
    have := ih (j + 1) (by omega) this
    rwa [show j + 1 + m = j + (m + 1) by omega] at this

/-- Bits that are read out of one state, and come to one, are the same. -/
theorem crcBits_bit (c c' : Nat) {s : Nat} (hs : s < 4294967296) (h : crcBits c 8 s = crcBits c' 8 s) : ∀ k, k ≤ 8 → crcBits c k s = crcBits c' k s ∧ ∀ j, j < k → c / 2 ^ j % 2 = c' / 2 ^ j % 2 := by
  intro k
  induction k with
  | zero => intro _; exact ⟨rfl, fun j hj => absurd hj (by omega)⟩
  | succ k ih =>
    intro hk
    obtain ⟨e, hb⟩ := ih (by omega)
    have h1 := crcBits_back c c' hs hs (k + 1) (7 - k) 0 (by omega) (by rw [show k + 1 + (7 - k) = 8 by omega, h])
    have h1' : crcBit (crcBits c k s) (c / 2 ^ k % 2) / 2 ^ (0 + (7 - k)) = crcBit (crcBits c' k s) (c' / 2 ^ k % 2) / 2 ^ (0 + (7 - k)) := h1
    have h2 := (crcBit_inj (by omega) (crcBits_lt c hs _) (crcBits_lt c' hs _) h1').1
    rw [e] at h2
    have hbit : c / 2 ^ k % 2 = c' / 2 ^ k % 2 := by omega
    refine ⟨?_, fun j hj => ?_⟩
    · show crcBit _ _ = crcBit _ _; rw [e, hbit]
    · rcases (by omega : j < k ∨ j = k) with hj | rfl
      · exact hb j hj
      · exact hbit

theorem byte_ext {c c' : Nat} (hc : c < 256) (hc' : c' < 256) (h : ∀ j, j < 8 → c / 2 ^ j % 2 = c' / 2 ^ j % 2) : c = c' := by
  have h0 := h 0 (by omega); have h1 := h 1 (by omega); have h2 := h 2 (by omega); have h3 := h 3 (by omega)
  have h4 := h 4 (by omega); have h5 := h 5 (by omega); have h6 := h 6 (by omega); have h7 := h 7 (by omega)
  simp only [Nat.reducePow] at h0 h1 h2 h3 h4 h5 h6 h7
  omega

theorem crcBits_inj_state (c : Nat) {s s' : Nat} (hs : s < 4294967296) (hs' : s' < 4294967296) (h : crcBits c 8 s = crcBits c 8 s') : s = s' := by
  have step : ∀ k, k ≤ 8 → crcBits c k s = crcBits c k s' → s = s' := by
    intro k
    induction k with
    | zero => intro _ h; exact h
    | succ k ih =>
      intro hk h
      have h' : crcBit (crcBits c k s) (c / 2 ^ k % 2) / 2 ^ 0 = crcBit (crcBits c k s') (c / 2 ^ k % 2) / 2 ^ 0 := by
        have : crcBit (crcBits c k s) (c / 2 ^ k % 2) = crcBit (crcBits c k s') (c / 2 ^ k % 2) := h
        rw [this]
      obtain ⟨h1, h2⟩ := crcBit_inj (by omega) (crcBits_lt c hs _) (crcBits_lt c hs' _) h'
      refine ih (by omega) ?_
      simp only [Nat.zero_add, Nat.pow_one] at h2
      omega
  exact step 8 (by omega) h

theorem crcAll_inj_state : ∀ (l : List Nat) {s s' : Nat}, s < 4294967296 → s' < 4294967296 → crcAll s l = crcAll s' l → s = s' := by
  intro l
  induction l with
  | nil => intro s s' _ _ h; exact h
  | cons c r ih => intro s s' hs hs' h; exact crcBits_inj_state c hs hs' (ih (crcBits_lt c hs 8) (crcBits_lt c hs' 8) h)

theorem sum_other (p q : List Nat) (c c' : Nat) (hc : c < 256) (hc' : c' < 256) : sumN (p ++ c :: q) = sumN (p ++ c' :: q) ↔ c = c' := by
  refine ⟨fun h => ?_, fun h => by rw [h]⟩
  unfold sumN at h
  have b1 := crcAll_lt (p ++ c :: q) (s := 4294967295) (by omega)
  have b2 := crcAll_lt (p ++ c' :: q) (s := 4294967295) (by omega)
  have h1 : crcAll 4294967295 (p ++ c :: q) = crcAll 4294967295 (p ++ c' :: q) := by omega
  rw [crcAll_append, crcAll_append] at h1
  have hp := crcAll_lt p (s := 4294967295) (by omega)
  have h2 : crcBits c 8 (crcAll 4294967295 p) = crcBits c' 8 (crcAll 4294967295 p) := crcAll_inj_state q (crcBits_lt c hp 8) (crcBits_lt c' hp 8) h1
  exact byte_ext hc hc' (crcBits_bit c c' hp h2 8 (by omega)).2

end Go.Proofs.Ytibcakmodkbliaa.Q01
