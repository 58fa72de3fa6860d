/-
  HeapKnown: the heap at its bounds, call by call.
-/
import Derived.Test.YtchamkiffkngjaaKn1
namespace Go.Proofs.Ytchamkiffkngjaa
open Go.RowKit
set_option linter.unusedVariables false

theorem made_yes (m : M) (t : Th) (c : Nat) (h : m.used + c ≤ m.limit) : m.made t c = ⟨m.ths ++ [t], m.used + c, m.limit⟩ ∧ m.madeR c = (m.ths.length : Int) + 1 ∧ m.madeT c = 0 := by
  unfold M.made M.madeR M.madeT M.paid M.keep
  rw [if_pos h, if_pos h, if_pos h, if_pos h]
  exact ⟨rfl, rfl, rfl⟩
theorem made_no (m : M) (t : Th) (c : Nat) (h : ¬ m.used + c ≤ m.limit) : m.made t c = m ∧ m.madeR c = 0 ∧ m.madeT c = 4 := by
  unfold M.made M.madeR M.madeT
  rw [if_neg h, if_neg h, if_neg h]
  exact ⟨rfl, rfl, rfl⟩
theorem fill_yes (m : M) (t n x : Int) (h0 : 0 ≤ n) (h1 : n ≤ 65536) (h : m.used + (1 + n.toNat) ≤ m.limit) : m.filled t n x = ⟨m.ths ++ [tFix t n.toNat x], m.used + (1 + n.toNat), m.limit⟩ ∧ m.fillR n = (m.ths.length : Int) + 1 ∧ m.fillT n = 0 := by
  unfold M.filled M.fillR M.fillT
  rw [if_neg (by omega), if_neg (by omega), if_neg (by omega)]
  exact made_yes m _ _ h
theorem fill_no (m : M) (t n x : Int) (h0 : 0 ≤ n) (h1 : n ≤ 65536) (h : ¬ m.used + (1 + n.toNat) ≤ m.limit) : m.filled t n x = m ∧ m.fillR n = 0 ∧ m.fillT n = 4 := by
  unfold M.filled M.fillR M.fillT
  rw [if_neg (by omega), if_neg (by omega), if_neg (by omega)]
  exact made_no m _ _ h
def g0 : M := ⟨[], 0, 1048576⟩
def g1 (L : ByteArray) : M := ⟨[tText L], 8193, 1048576⟩
def g2 (L : ByteArray) (fx : Th) : M := ⟨[tText L, fx], 73730, 1048576⟩
def gk (L : ByteArray) (fx : Th) (l : List Int) (u : Nat) : M := ⟨[tText L, fx, ⟨4, 17, empt, l⟩], u, 1048576⟩
def gj (L : ByteArray) (fx : Th) (l : List Int) (fz : Th) (j : Nat) : M := ⟨[tText L, fx, ⟨4, 17, empt, l⟩] ++ List.replicate j fz, 139267 + 65537 * j, 1048576⟩
def gz (L : ByteArray) (fx : Th) (l : List Int) (fz fy : Th) : M := ⟨([tText L, fx, ⟨4, 17, empt, l⟩] ++ List.replicate 13 fz) ++ [fy], 1048576, 1048576⟩
def fx : Th := tFix 18 65536 7
def fz : Th := tFix 18 65536 0
def fy : Th := tFix 18 57327 0
section
variable {A W : World} {p : Nat}
theorem b0 (w : World) : Calls Try.prog 4 #[.int .i64 4611686018427387903] w fun e w' => e = .returned (ptr w.heap.size) ∧ Hs w w' w.heap.size g0 := hsNew w 4611686018427387903 (by omega) (by omega)
theorem b1 (h : Hs A W p g0) (s : ByteArray) (hs : s.size = 65537) : Calls Try.prog 7 #[ptr p, .string s] W fun e w' => e = .returned (.tuple #[.int .u64 0, .int .i64 3]) ∧ Hs A w' p g0 := by
  have := hsText h (by decide) s (by unfold maxLen; omega)
  unfold M.textR M.textT M.texted at this
  rwa [if_pos (by omega), if_pos (by omega), if_pos (by omega)] at this
theorem b2 (h : Hs A W p g0) (s : ByteArray) (hs : s.size = 65536) : Calls Try.prog 7 #[ptr p, .string s] W fun e w' => e = .returned (.tuple #[.int .u64 1, .int .i64 0]) ∧ Hs A w' p (g1 s) := by
  have := hsText h (by decide) s (by unfold maxLen; omega)
  unfold M.textR M.textT M.texted at this
  rw [if_neg (by omega), if_neg (by omega), if_neg (by omega)] at this
  have hc : cText s = 8193 := by unfold cText; omega
  obtain ⟨q1, q2, q3⟩ := made_yes g0 (tText s) (cText s) (by rw [hc]; decide)
  rw [q1, q2, q3, hc] at this
  exact this
theorem b3 {L : ByteArray} (h : Hs A W p (g1 L)) : Calls Try.prog 14 #[ptr p, .int .i64 18, .int .i64 65536, .int .u64 7] W fun e w' => e = .returned (.tuple #[.int .u64 2, .int .i64 0]) ∧ Hs A w' p (g2 L fx) := by
  have := hsFill h (by simp [g1]) 18 65536 7 (by omega) (by omega) (by omega)
  obtain ⟨q1, q2, q3⟩ := fill_yes (g1 L) 18 65536 7 (by omega) (by omega) (by show 8193 + (1 + (65536 : Int).toNat) ≤ 1048576; omega)
  have q0 : (65536 : Int).toNat = 65536 := rfl
  have q5 : (g1 L).used + (1 + 65536) = 73730 := by show 8193 + (1 + 65536) = 73730; omega
  have q6 : tFix 18 65536 7 = fx := by unfold fx; rfl
  have q7 : (((g1 L).ths.length : Nat) : Int) + 1 = 2 := rfl
  rw [q1, q2, q3, q0, q5, q6, q7] at this
  exact this
theorem b4 {L : ByteArray} {f : Th} (h : Hs A W p (g2 L f)) : Calls Try.prog 11 #[ptr p, .int .i64 17] W fun e w' => e = .returned (.tuple #[.int .u64 3, .int .i64 0]) ∧ Hs A w' p (gk L f [] 73731) := by
  have := hsEmpty h (by simp [g2]) 17
  obtain ⟨q1, q2, q3⟩ := made_yes (g2 L f) (tGrow 17) 1 (by show 73730 + 1 ≤ 1048576; omega)
  rw [q1, q2, q3] at this
  exact this
theorem gk_at (L : ByteArray) (f : Th) (l : List Int) (u : Nat) : (gk L f l u).at 3 = ⟨4, 17, empt, l⟩ := rfl
theorem b5 {L : ByteArray} {f : Th} {l : List Int} {u : Nat} (h : Hs A W p (gk L f l u)) (h1 : l.length < 65536) (h2 : u < 1048576) : Calls Try.prog 12 #[ptr p, .int .u64 3, .int .u64 1] W fun e w' => e = .returned (.int .i64 0) ∧ Hs A w' p (gk L f (l ++ [1]) (u + 1)) := by
  have := hsPush h (by simp [gk]) 3 1 (by omega) (by omega) (by omega)
  have e : (gk L f l u).pushT 3 = 0 := by
    unfold M.pushT M.madeT
    rw [gk_at]
    rw [if_neg (by simp), if_neg (by show ¬ l.length = 65536; omega), if_pos (by show u + 1 ≤ 1048576; omega)]
  have e2 : (gk L f l u).pushed 3 1 = gk L f (l ++ [1]) (u + 1) := by
    unfold M.pushed
    rw [if_pos e, gk_at]
    have ep : (gk L f l u).paid 1 = gk L f l (u + 1) := by unfold M.paid; rw [if_pos (by show u + 1 ≤ 1048576; omega)]; rfl
    rw [ep]; rfl
  rwa [e, e2] at this
theorem b6 {L : ByteArray} {l : List Int} {u : Nat} (h : Hs A W p (gk L fx l u)) : Calls Try.prog 9 #[ptr p, .int .u64 2, .int .i64 65535] W fun e w' => e = .returned (.tuple #[.int .u64 7, .int .i64 0]) ∧ W = w' := by
  have := hsGet h (by simp [gk]) 2 65535 (by omega) (by omega) (by omega) (by omega)
  have ea : (gk L fx l u).at 2 = fx := rfl
  have hh : (gk L fx l u).has 2 65535 = true := by
    rw [has_iff, ea]
    refine ⟨by show ¬ (3 : Nat) = 1; decide, by omega, ?_⟩
    show (65535 : Int) < ((List.replicate 65536 (7 : Int)).length : Nat)
    rw [List.length_replicate]; decide
  have e1 : (gk L fx l u).getV 2 65535 = 7 := by
    unfold M.getV
    rw [if_pos hh, ea]
    show (List.replicate 65536 (7 : Int)).getD (65535 : Int).toNat 0 = 7
    rw [List.getD_eq_getElem?_getD, List.getElem?_replicate, if_pos (by omega)]; rfl
  have e2 : (gk L fx l u).getT 2 65535 = 0 := by unfold M.getT; rw [if_pos hh]
  rwa [e1, e2] at this
theorem b7 {L : ByteArray} {f : Th} {l : List Int} {u : Nat} (h : Hs A W p (gk L f l u)) (hl : l.length = 65536) : Calls Try.prog 17 #[ptr p, .int .u64 3] W fun e w' => e = .returned (.tuple #[.int .i64 65536, .bool true]) ∧ W = w' := by
  have := hsLen h (by simp [gk]) 3 (by omega) (by omega)
  rw [gk_at] at this
  have e3 : (((⟨4, 17, empt, l⟩ : Th).len : Nat) : Int) = 65536 := by
    show ((l.length : Nat) : Int) = 65536
    omega
  rw [e3] at this
  exact this
theorem b8 {L : ByteArray} {f : Th} {l : List Int} {u : Nat} (h : Hs A W p (gk L f l u)) (hl : l.length = 65536) : Calls Try.prog 12 #[ptr p, .int .u64 3, .int .u64 1] W fun e w' => e = .returned (.int .i64 3) ∧ Hs A w' p (gk L f l u) := by
  have := hsPush h (by simp [gk]) 3 1 (by omega) (by omega) (by omega)
  have e : (gk L f l u).pushT 3 = 3 := by
    unfold M.pushT
    rw [gk_at]
    rw [if_neg (by simp), if_pos (by show l.length = 65536; omega)]
  have e2 : (gk L f l u).pushed 3 1 = gk L f l u := by
    unfold M.pushed
    rw [if_neg (by rw [e]; decide)]
  rwa [e, e2] at this
theorem b9 {L : ByteArray} {f : Th} {l : List Int} (h : Hs A W p (gk L f l 139267)) : Calls Try.prog 6 #[ptr p] W fun e w' => e = .returned (.int .i64 139267) ∧ W = w' := hsUsed h
theorem gj_zero (L : ByteArray) (f : Th) (l : List Int) (z : Th) : gj L f l z 0 = gk L f l 139267 := rfl
theorem b10 {L : ByteArray} {f : Th} {l : List Int} {j : Nat} (h : Hs A W p (gj L f l fz j)) (hj : j < 13) : Calls Try.prog 14 #[ptr p, .int .i64 18, .int .i64 65536, .int .u64 0] W fun e w' => e = .returned (.tuple #[.int .u64 ((j : Int) + 4), .int .i64 0]) ∧ Hs A w' p (gj L f l fz (j + 1)) := by
  have hlen : (gj L f l fz j).ths.length = 3 + j := by unfold gj; rw [List.length_append, List.length_replicate]; rfl
  have := hsFill h (by rw [hlen]; omega) 18 65536 0 (by omega) (by omega) (by omega)
  obtain ⟨q1, q2, q3⟩ := fill_yes (gj L f l fz j) 18 65536 0 (by omega) (by omega) (by show 139267 + 65537 * j + (1 + (65536 : Int).toNat) ≤ 1048576; omega)
  have q4 : (⟨(gj L f l fz j).ths ++ [tFix 18 (65536 : Int).toNat 0], (gj L f l fz j).used + (1 + (65536 : Int).toNat), (gj L f l fz j).limit⟩ : M) = gj L f l fz (j + 1) := by
    unfold gj
    rw [List.replicate_succ', List.append_assoc]
    have : 139267 + 65537 * j + (1 + (65536 : Int).toNat) = 139267 + 65537 * (j + 1) := by omega
    rw [← this]; rfl
  rw [q1, q2, q3, q4, hlen] at this
  have e : (((3 + j : Nat) : Int) + 1) = (j : Int) + 4 := by omega
  rwa [e] at this
theorem b11 {L : ByteArray} {f : Th} {l : List Int} {z : Th} (h : Hs A W p (gj L f l z 13)) : Calls Try.prog 6 #[ptr p] W fun e w' => e = .returned (.int .i64 991248) ∧ W = w' := hsUsed h
theorem b12 {L : ByteArray} {f : Th} {l : List Int} {z : Th} (h : Hs A W p (gj L f l z 13)) : Calls Try.prog 14 #[ptr p, .int .i64 18, .int .i64 57328, .int .u64 0] W fun e w' => e = .returned (.tuple #[.int .u64 0, .int .i64 4]) ∧ Hs A w' p (gj L f l z 13) := by
  have hlen : (gj L f l z 13).ths.length = 3 + 13 := by unfold gj; rw [List.length_append, List.length_replicate]; rfl
  have := hsFill h (by rw [hlen]; omega) 18 57328 0 (by omega) (by omega) (by omega)
  obtain ⟨q1, q2, q3⟩ := fill_no (gj L f l z 13) 18 57328 0 (by omega) (by omega) (by show ¬ 139267 + 65537 * 13 + (1 + (57328 : Int).toNat) ≤ 1048576; omega)
  rwa [q1, q2, q3] at this
theorem b13 {L : ByteArray} {f : Th} {l : List Int} {z : Th} (h : Hs A W p (gj L f l z 13)) : Calls Try.prog 14 #[ptr p, .int .i64 18, .int .i64 57327, .int .u64 0] W fun e w' => e = .returned (.tuple #[.int .u64 17, .int .i64 0]) ∧ Hs A w' p (gz L f l z fy) := by
  have hlen : (gj L f l z 13).ths.length = 3 + 13 := by unfold gj; rw [List.length_append, List.length_replicate]; rfl
  have := hsFill h (by rw [hlen]; omega) 18 57327 0 (by omega) (by omega) (by omega)
  obtain ⟨q1, q2, q3⟩ := fill_yes (gj L f l z 13) 18 57327 0 (by omega) (by omega) (by show 139267 + 65537 * 13 + (1 + (57327 : Int).toNat) ≤ 1048576; omega)
  have q0 : (57327 : Int).toNat = 57327 := rfl
  have q5 : (gj L f l z 13).used + (1 + 57327) = 1048576 := by show 139267 + 65537 * 13 + (1 + 57327) = 1048576; omega
  have q6 : tFix 18 57327 0 = fy := by unfold fy; rfl
  rw [q1, q2, q3, hlen, q0, q5, q6] at this
  exact this
theorem b14 {L : ByteArray} {f : Th} {l : List Int} {z y : Th} (h : Hs A W p (gz L f l z y)) : Calls Try.prog 11 #[ptr p, .int .i64 17] W fun e w' => e = .returned (.tuple #[.int .u64 0, .int .i64 4]) ∧ Hs A w' p (gz L f l z y) := by
  have hlen : (gz L f l z y).ths.length = 17 := by unfold gz; rw [List.length_append, List.length_append, List.length_replicate]; rfl
  have := hsEmpty h (by rw [hlen]; omega) 17
  obtain ⟨q1, q2, q3⟩ := made_no (gz L f l z y) (tGrow 17) 1 (by show ¬ 1048576 + 1 ≤ 1048576; omega)
  rwa [q1, q2, q3] at this
def exx : ByteArray := ⟨#[120]⟩
def z0 : M := M.new (-5)
def z1 : M := z0.keep (tText exx)
theorem c0 (w : World) : Calls Try.prog 4 #[.int .i64 (-5)] w fun e w' => e = .returned (ptr w.heap.size) ∧ Hs w w' w.heap.size z0 := hsNew w (-5) (by omega) (by omega)
theorem c1 (h : Hs A W p z0) : Calls Try.prog 5 #[ptr p, .string ⟨#[120]⟩] W fun e w' => e = .returned (.int .u64 1) ∧ Hs A w' p z1 := hsConst h (by decide) exx (by decide)
theorem c2 (h : Hs A W p z1) : Calls Try.prog 7 #[ptr p, .string ⟨#[]⟩] W fun e w' => e = .returned (.tuple #[.int .u64 0, .int .i64 4]) ∧ Hs A w' p z1 := hsText h (by decide) empt (by unfold maxLen; decide)
end
end Go.Proofs.Ytchamkiffkngjaa
