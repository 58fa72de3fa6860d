/-
  THE PLAIN MATHEMATICS of WireBack and WireOnce: what reading answers behind writing, and the other way.
-/
import Derived.Test.YtekoeeneebolbaaIn
namespace Go.Proofs.Ytekoeeneebolbaa
open Go.RowKit

theorem gets_at (pre post : List Nat) (n : Nat) (hn : n < 18446744073709551616) (p : Int) (hp : p = pre.length) :
    gN (pre ++ putN n ++ post) p = n ∧ gP (pre ++ putN n ++ post) p = ((pre.length + (putN n).length : Nat) : Int) ∧ gE (pre ++ putN n ++ post) p = 0 := by
  subst hp
  have hc : (0 : Int) ≤ (pre.length : Int) ∧ (pre.length : Int) ≤ ((pre ++ putN n ++ post).length : Int) := by simp only [List.length_append]; omega
  have h := getS_put n 0 0 post (by simpa using hn) (.inl rfl) (by omega)
  simp only [gN, gP, gE, hc, and_self, if_true, Int.toNat_natCast, getN, getP, getE]
  have hd : (pre ++ putN n ++ post).drop pre.length = putN n ++ post := by rw [List.append_assoc, List.drop_left]
  rw [hd, h]
  simp

theorem wide_at (pre post : List Nat) (n : Nat) (hn : n < 18446744073709551616) (p : Int) (hp : p = pre.length) :
    wN (pre ++ fixN n 8 ++ post) p 8 = n ∧ wP (pre ++ fixN n 8 ++ post) p 8 = p + 8 ∧ wE (pre ++ fixN n 8 ++ post) p 8 = 0 := by
  have hl : ((pre ++ fixN n 8 ++ post).length : Int) = pre.length + 8 + post.length := by simp only [List.length_append, fixN_length]; omega
  have ho : ((1 ≤ (8 : Int) ∧ (8 : Int) ≤ 8) ∧ (0 ≤ p ∧ p ≤ ((pre ++ fixN n 8 ++ post).length : Int))) := ⟨⟨by omega, by omega⟩, by omega, by omega⟩
  have h2 : (8 : Int) ≤ ((pre ++ fixN n 8 ++ post).length : Int) - p := by omega
  unfold wN wP wE
  rw [if_pos ⟨ho, h2⟩, if_pos ⟨ho, h2⟩, if_pos ho, if_pos h2]
  refine ⟨?_, rfl, rfl⟩
  subst hp
  have hd : (pre ++ fixN n 8 ++ post).drop pre.length = fixN n 8 ++ post := by rw [List.append_assoc, List.drop_left]
  rw [Int.toNat_natCast, hd, show (8 : Int).toNat = (fixN n 8).length by rw [fixN_length]; rfl, List.take_left, wid_fixN]
  exact Nat.mod_eq_of_lt (by simpa using hn)

theorem get_cut (n k : Nat) (hn : n < 18446744073709551616) (hk : k < (putN n).length) : gN ((putN n).take k) 0 = 0 ∧ gP ((putN n).take k) 0 = 0 ∧ gE ((putN n).take k) 0 = 10 := by
  have h10 := plen_ten hn
  have h := getS_short n 0 0 k (by omega) (.inl rfl) hk
  simp [gN, gP, gE, getN, getP, getE, h]

/-- What is read: an error, and nothing; or a number whose short form is the bytes that were read. -/
theorem once (xs : List Nat) (p : Int) (hb : ∀ c ∈ xs, c < 256) :
    (gE xs p ≠ 0 ∧ gN xs p = 0 ∧ gP xs p = 0) ∨
    (gE xs p = 0 ∧ 0 ≤ p ∧ p < gP xs p ∧ gP xs p ≤ xs.length ∧ putN (gN xs p) = (xs.drop p.toNat).take (gP xs p - p).toNat) := by
  by_cases hc : 0 ≤ p ∧ p ≤ xs.length
  · simp only [gN, gP, gE, hc, and_self, if_true, getN, getP, getE]
    have hd : ∀ c ∈ xs.drop p.toNat, c < 256 := fun c h => hb c (List.mem_of_mem_drop h)
    rcases getS_once (xs.drop p.toNat) 0 0 (by omega) hd with ⟨h1, h2, h3⟩ | ⟨h1, m, h2, h3, h4, h5, _, _⟩
    · left
      rw [if_neg h1]
      exact ⟨by omega, h2, rfl⟩
    · right
      rw [if_pos h1, h1]
      simp only [List.length_drop, Nat.zero_add] at h4
      refine ⟨rfl, trivial, by omega, by omega, ?_⟩
      have e : (getS 0 0 (xs.drop p.toNat)).1 = m := by rw [h2]; simp
      rw [e, h5]
      congr 1
      omega
  · left
    simp [gN, gP, gE, hc]
end Go.Proofs.Ytekoeeneebolbaa
