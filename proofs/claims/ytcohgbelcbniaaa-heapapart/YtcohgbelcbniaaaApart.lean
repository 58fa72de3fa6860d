/-
  HeapApart, walked.
-/
import Derived.Test.YtcohgbelcbniaaaStack
namespace Go.Proofs.Ytcohgbelcbniaaa
open Go.RowKit
set_option linter.unusedVariables false

/-- A heap with two records. -/
def rk (a b : List Int) (u : Nat) : M := ⟨[tRec 16 a, tRec 16 b], u, 10000⟩
theorem rk_get1 (a b : List Int) (u i : Nat) (h : i < a.length) : (rk a b u).getV 1 (i : Int) = a.getD i 0 ∧ (rk a b u).getT 1 (i : Int) = 0 := by
  have hh : (rk a b u).has 1 (i : Int) = true := by rw [has_iff]; exact ⟨by show (2 : Nat) ≠ 1; simp, by omega, by show (i : Int) < a.length; omega⟩
  rcases has_cases (rk a b u) 1 i with ⟨_, e1, e2⟩ | ⟨e, _⟩
  · rw [e1, e2]; exact ⟨by show a.getD (i : Int).toNat 0 = _; simp, rfl⟩
  · rw [hh] at e; cases e
theorem rk_get2 (a b : List Int) (u i : Nat) (h : i < b.length) : (rk a b u).getV 2 (i : Int) = b.getD i 0 ∧ (rk a b u).getT 2 (i : Int) = 0 := by
  have hh : (rk a b u).has 2 (i : Int) = true := by rw [has_iff]; exact ⟨by show (2 : Nat) ≠ 1; simp, by omega, by show (i : Int) < b.length; omega⟩
  rcases has_cases (rk a b u) 2 i with ⟨_, e1, e2⟩ | ⟨e, _⟩
  · rw [e1, e2]; exact ⟨by show b.getD (i : Int).toNat 0 = _; simp, rfl⟩
  · rw [hh] at e; cases e
theorem rk_set (a b : List Int) (u i : Nat) (x : Int) (h : i < a.length) : (rk a b u).put 1 (i : Int) x = rk (a.set i x) b u ∧ (rk a b u).getT 1 (i : Int) = 0 := by
  have hh : (rk a b u).has 1 (i : Int) = true := by rw [has_iff]; exact ⟨by show (2 : Nat) ≠ 1; simp, by omega, by show (i : Int) < a.length; omega⟩
  refine ⟨?_, (rk_get1 a b u i h).2⟩
  unfold M.put
  rw [if_pos hh]
  have e : (i : Int).toNat = i := by omega
  rw [e]; rfl
theorem rk_out (a b : List Int) (u : Nat) (i x : Int) (h : i < 0 ∨ (a.length : Int) ≤ i) : (rk a b u).put 1 i x = rk a b u ∧ (rk a b u).getT 1 i = 2 := by
  have hh : (rk a b u).has 1 i = false := by
    cases e : (rk a b u).has 1 i
    · rfl
    · obtain ⟨_, h2, h3⟩ := has_iff.1 e
      have h4 : i < (a.length : Int) := h3
      omega
  rcases has_cases (rk a b u) 1 i with ⟨e, _⟩ | ⟨_, e1, _⟩
  · rw [hh] at e; cases e
  · refine ⟨?_, e1⟩
    unfold M.put; rw [if_neg (by rw [hh]; simp)]
theorem rk_new1 (a : List Int) (h : a.length ≤ 1000) : (M.new 10000).made (tRec 16 a) (1 + a.length) = ⟨[tRec 16 a], 1 + a.length, 10000⟩ ∧ (M.new 10000).madeR (1 + a.length) = 1 ∧ (M.new 10000).madeT (1 + a.length) = 0 := by
  have hp : (M.new 10000).used + (1 + a.length) ≤ (M.new 10000).limit := by show 0 + (1 + a.length) ≤ 10000; omega
  obtain ⟨e1, e2, e3, _⟩ := made_paid (tRec 16 a) hp
  rw [e1, e2, e3]
  refine ⟨?_, rfl, rfl⟩
  unfold M.paid
  rw [if_pos hp]
  show (⟨[tRec 16 a], 0 + (1 + a.length), 10000⟩ : M) = _
  rw [Nat.zero_add]
theorem rk_new2 (a b : List Int) (h : a.length ≤ 1000) (hb : b.length ≤ 1000) : (⟨[tRec 16 a], 1 + a.length, 10000⟩ : M).made (tRec 16 b) (1 + b.length) = rk a b (1 + a.length + (1 + b.length)) ∧ (⟨[tRec 16 a], 1 + a.length, 10000⟩ : M).madeR (1 + b.length) = 2 ∧ (⟨[tRec 16 a], 1 + a.length, 10000⟩ : M).madeT (1 + b.length) = 0 := by
  have hp : (⟨[tRec 16 a], 1 + a.length, 10000⟩ : M).used + (1 + b.length) ≤ (⟨[tRec 16 a], 1 + a.length, 10000⟩ : M).limit := by show 1 + a.length + (1 + b.length) ≤ 10000; omega
  obtain ⟨e1, e2, e3, _⟩ := made_paid (tRec 16 b) hp
  rw [e1, e2, e3]
  refine ⟨?_, rfl, rfl⟩
  unfold M.paid
  rw [if_pos hp]
  rfl
def A1 (w : World) (p : Nat) (m : M) (n : Nat) (iv : Value) (wr : World) : Prop := ∃ k : Nat, k ≤ n ∧ iv = .int .i64 (k : Int) ∧ Hs w wr p m
theorem getD_set (a : List Int) (j k : Nat) (x : Int) (hk : k < a.length) : (a.set j x).getD k 0 = if k = j then x else a.getD k 0 := by
  rw [List.getD_eq_getElem?_getD, List.getD_eq_getElem?_getD, List.getElem?_set]
  by_cases h : k = j
  · subst h; simp [hk]
  · rw [if_neg (Ne.symm h), if_neg h]
/-- What is to be told of the first record behind the store. -/
def wantA (a : List Int) (i x : Int) (k : Nat) : Int := if (k : Int) = i then x else a.getD k 0
set_option maxRecDepth 100000 in
set_option maxHeartbeats 2000000 in
theorem apart_walk (w : World) (ao : Option Addr) (cap : Nat) (xs : List Int) (hx : WordsAt w ao cap xs) (bo : Option Addr) (dap : Nat) (ys : List Int) (hy : WordsAt w bo dap ys) (i : Int) (hi : -9223372036854775808 ≤ i ∧ i < 9223372036854775808) (z : Int) (hz : 0 ≤ z ∧ z < 18446744073709551616) :
    Calls Try.prog 7 #[.slice ao xs.length cap, .slice bo ys.length dap, .int .i64 i, .int .u64 z] w fun e w' => e = .returned (.bool true) ∧ Below w.heap.size w w' := by
  obtain ⟨n, hn⟩ : ∃ n, Hid (xs.length = n) := ⟨_, rfl⟩
  obtain ⟨n2, hn2⟩ : ∃ n, Hid (ys.length = n) := ⟨_, rfl⟩
  have hcl := hx.capl
  have hcm := hx.capm
  have hdl := hy.capl
  have hdm := hy.capm
  unfold maxLen at hcm hdm
  have HX : Hid (WordsAt w ao cap xs) := hx
  have HY : Hid (WordsAt w bo dap ys) := hy
  have hwk := hsWorks (Below.refl _ w)
  rw [hn.out] at hcl ⊢
  rw [hn2.out] at hdl ⊢
  clear hx hy
  by_cases hbig : 1000 < n
  · go_enter Try.func7, Try.ntmps7
    go_wp2_with (go_at_call 9; refine hwk.mono ?_; rintro e w1 ⟨rfl, hB⟩)
    go_ret
    exact ⟨rfl, hB⟩
  have hle : n ≤ 1000 := by omega
  by_cases hbig2 : 1000 < n2
  · clear hbig
    go_enter Try.func7, Try.ntmps7
    go_wp2_with (go_at_call 9; refine hwk.mono ?_; rintro e w1 ⟨rfl, hB⟩)
    go_ret
    exact ⟨rfl, hB⟩
  have hle2 : n2 ≤ 1000 := by omega
  clear hbig hbig2 hwk
  have hN := hsNew w 10000 (by omega) (by omega)
  have HE : Hid (∀ w1, Hs w w1 w.heap.size (M.new 10000) → Calls Try.prog 20 #[ptr w.heap.size, .int .i64 16, .slice ao n cap] w1 fun e w' => e = .returned (.tuple #[.int .u64 1, .int .i64 0]) ∧ Hs w w' w.heap.size ⟨[tRec 16 xs], 1 + xs.length, 10000⟩) := by
    intro w1 h1
    have q := hsRecord h1 (by simp [M.new]) 16 ao cap xs HX.out (by rw [hn.out]; omega)
    obtain ⟨e1, e2, e3⟩ := rk_new1 xs (by rw [hn.out]; exact hle)
    rw [e1, e2, e3] at q
    rwa [hn.out] at q ⊢
  have HE2 : Hid (∀ w1, Hs w w1 w.heap.size ⟨[tRec 16 xs], 1 + xs.length, 10000⟩ → Calls Try.prog 20 #[ptr w.heap.size, .int .i64 16, .slice bo n2 dap] w1 fun e w' => e = .returned (.tuple #[.int .u64 2, .int .i64 0]) ∧ Hs w w' w.heap.size (rk xs ys (1 + xs.length + (1 + ys.length)))) := by
    intro w1 h1
    have q := hsRecord h1 (by simp) 16 bo dap ys HY.out (by rw [hn2.out]; omega)
    obtain ⟨e1, e2, e3⟩ := rk_new2 xs ys (by rw [hn.out]; exact hle) (by rw [hn2.out]; exact hle2)
    rw [e1, e2, e3] at q
    rwa [hn2.out] at q ⊢
  obtain ⟨u, hu⟩ : ∃ u, Hid (1 + xs.length + (1 + ys.length) = u) := ⟨_, rfl⟩
  rw [hu.out] at HE2
  -- what Set leaves
  have HS : Hid (∃ (T : Int) (m : M), ((0 ≤ i ∧ i < n ∧ T = 0) ∨ (i < 0 ∧ T = 2) ∨ ((n : Int) ≤ i ∧ T = 2)) ∧ (∀ w1, Hs w w1 w.heap.size (rk xs ys u) → Calls Try.prog 21 #[ptr w.heap.size, .int .u64 1, .int .i64 i, .int .u64 z] w1 fun e w' => e = .returned (.int .i64 T) ∧ Hs w w' w.heap.size m) ∧ (∀ w1 (k : Nat), k < n → Hs w w1 w.heap.size m → Calls Try.prog 22 #[ptr w.heap.size, .int .u64 1, .int .i64 (k : Int)] w1 fun e w' => e = .returned (.tuple #[.int .u64 (wantA xs i z k), .int .i64 0]) ∧ w1 = w') ∧ (∀ w1 (k : Nat), k < n2 → Hs w w1 w.heap.size m → Calls Try.prog 22 #[ptr w.heap.size, .int .u64 2, .int .i64 (k : Int)] w1 fun e w' => e = .returned (.tuple #[.int .u64 (ys.getD k 0), .int .i64 0]) ∧ w1 = w')) := by
    by_cases hin : 0 ≤ i ∧ i < n
    · obtain ⟨j, rfl⟩ : ∃ j : Nat, i = (j : Int) := ⟨i.toNat, by omega⟩
      obtain ⟨e1, e2⟩ := rk_set xs ys u j z (by rw [hn.out]; omega)
      refine ⟨0, rk (xs.set j z) ys u, .inl ⟨hin.1, hin.2, rfl⟩, fun w1 h1 => ?_, fun w1 k hk h1 => ?_, fun w1 k hk h1 => ?_⟩
      · have q := hsSet h1 (by simp [rk]) 1 (j : Int) z (by omega) (by omega) hi.1 hi.2 hz
        rwa [e1, e2] at q
      · have q := hsGet h1 (by simp [rk]) 1 (k : Int) (by omega) (by omega) (by omega) (by omega)
        obtain ⟨g1, g2⟩ := rk_get1 (xs.set j z) ys u k (by rw [List.length_set, hn.out]; exact hk)
        rw [g1, g2, getD_set xs j k z (by rw [hn.out]; exact hk)] at q
        have e3 : wantA xs (j : Int) z k = if k = j then z else xs.getD k 0 := by
          unfold wantA
          by_cases h : k = j
          · rw [if_pos h, if_pos (by omega)]
          · rw [if_neg h, if_neg (by omega)]
        rwa [e3]
      · have q := hsGet h1 (by simp [rk]) 2 (k : Int) (by omega) (by omega) (by omega) (by omega)
        obtain ⟨g1, g2⟩ := rk_get2 (xs.set j z) ys u k (by rw [hn2.out]; exact hk)
        rwa [g1, g2] at q
    · obtain ⟨e1, e2⟩ := rk_out xs ys u i z (by rw [hn.out]; omega)
      refine ⟨2, rk xs ys u, .inr (by omega), fun w1 h1 => ?_, fun w1 k hk h1 => ?_, fun w1 k hk h1 => ?_⟩
      · have q := hsSet h1 (by simp [rk]) 1 i z (by omega) (by omega) hi.1 hi.2 hz
        rwa [e1, e2] at q
      · have q := hsGet h1 (by simp [rk]) 1 (k : Int) (by omega) (by omega) (by omega) (by omega)
        obtain ⟨g1, g2⟩ := rk_get1 xs ys u k (by rw [hn.out]; exact hk)
        have e3 : wantA xs i z k = xs.getD k 0 := by unfold wantA; rw [if_neg (by omega)]
        rwa [g1, g2, ← e3] at q
      · have q := hsGet h1 (by simp [rk]) 2 (k : Int) (by omega) (by omega) (by omega) (by omega)
        obtain ⟨g1, g2⟩ := rk_get2 xs ys u k (by rw [hn2.out]; exact hk)
        rwa [g1, g2] at q
  obtain ⟨T, m, hT, hS, hG1, hG2⟩ := HS.out
  have HSS : Hid _ := hS
  have HG1 : Hid _ := hG1
  have HG2 : Hid _ := hG2
  clear HS hS hG1 hG2 hu
  rcases hT with ⟨t1, t2, rfl⟩ | ⟨t1, rfl⟩ | ⟨t1, rfl⟩
  case' inr.inr => have t3 : ¬ i < 0 := by omega
  all_goals
    go_enter Try.func7, Try.ntmps7
    go_wp2_with (first | (go_at_call 10; refine hN.mono ?_; rintro e w1 ⟨rfl, h1⟩; have hE := HE.out w1 h1; clear h1 hN) | (go_at_call 20; refine hE.mono ?_; clear hE; rintro e w2 ⟨rfl, h2⟩; have hE2 := HE2.out w2 h2; clear h2) | (go_at_call 20; refine hE2.mono ?_; clear hE2; rintro e w3 ⟨rfl, h3⟩; have hS := HSS.out w3 h3; clear h3) | (go_at_call 21; refine hS.mono ?_; rintro e w4 ⟨rfl, h4⟩; have H4 : Hid _ := h4; clear h4 hS))
    clear HE HE2 HSS
    go_loopw [15] (fun iv wr => A1 w w.heap.size m n iv wr) (fun i _ => n - (intOf i).toNat)
    case atStart => exact ⟨0, Nat.zero_le _, rfl, H4.out⟩
    case round =>
      clear H4
      obtain ⟨k, hk, rfl, hs⟩ := hrel
      by_cases hlt : k < n
      · have HL : Hid (k < xs.length) := by unfold Hid; rw [hn.out]; exact hlt
        obtain ⟨x, hxk⟩ : ∃ x, Hid (xs.getD k 0 = x) := ⟨_, rfl⟩
        obtain ⟨b, o, rfl⟩ : ∃ b o, ao = some ⟨b, o, none⟩ := by
          rcases HX.out.cell with q | ⟨b, o, e, _⟩
          · have := HL.out; rw [q] at this; simp at this
          · exact ⟨b, o, e⟩
        have hcell := (HX.out.below hs.bel).get HL.out
        rw [hxk.out] at hcell
        have hg := HG1.out wr k hlt hs
        have HH : Hid (Hs w wr w.heap.size m) := hs
        clear hs
        by_cases hki : (k : Int) = i
        · have e : wantA xs i z k = z := by unfold wantA; rw [if_pos hki]
          rw [e] at hg
          have hkb : ((k : Int) == i) = true := by simpa using hki
          clear e hki
          go_wp2_with (go_at_call 22; refine hg.mono ?_; rintro e w3 ⟨rfl, rfl⟩)
          go_roundw
          case rel => exact ⟨k + 1, hlt, by simp, HH.out⟩
          case measure => simp [intOf]; omega
        · have e : wantA xs i z k = x := by unfold wantA; rw [if_neg hki]; exact hxk.out
          rw [e] at hg
          have hkb : ((k : Int) == i) = false := by simpa using hki
          clear e
          go_wp2_with (go_at_call 22; refine hg.mono ?_; rintro e w3 ⟨rfl, rfl⟩)
          go_roundw
          case rel => exact ⟨k + 1, hlt, by simp, HH.out⟩
          case measure => simp [intOf]; omega
      · have hkn : k = n := by omega
        subst hkn
        have HH : Hid (Hs w wr w.heap.size m) := hs
        clear hs
        go_wp2_with fail
        go_loopw [19] (fun iv wr => A1 w w.heap.size m n2 iv wr) (fun i _ => n2 - (intOf i).toNat)
        case atStart => exact ⟨0, Nat.zero_le _, rfl, HH.out⟩
        case round =>
          clear HH
          obtain ⟨k2, hk2, rfl, hs⟩ := hrel
          by_cases hlt2 : k2 < n2
          · have HL : Hid (k2 < ys.length) := by unfold Hid; rw [hn2.out]; exact hlt2
            obtain ⟨x, hxk⟩ : ∃ x, Hid (ys.getD k2 0 = x) := ⟨_, rfl⟩
            obtain ⟨b, o, rfl⟩ : ∃ b o, bo = some ⟨b, o, none⟩ := by
              rcases HY.out.cell with q | ⟨b, o, e, _⟩
              · have := HL.out; rw [q] at this; simp at this
              · exact ⟨b, o, e⟩
            have hcell := (HY.out.below hs.bel).get HL.out
            rw [hxk.out] at hcell
            have hg := HG2.out wr k2 hlt2 hs
            rw [hxk.out] at hg
            have HH : Hid (Hs w wr w.heap.size m) := hs
            clear hs
            go_wp2_with (go_at_call 22; refine hg.mono ?_; rintro e w3 ⟨rfl, rfl⟩)
            go_roundw
            case rel => exact ⟨k2 + 1, hlt2, by simp, HH.out⟩
            case measure => simp [intOf]; omega
          · have hwk := hsWorks hs.bel
            clear hs
            go_wp2_with (go_at_call 9; refine hwk.mono ?_; rintro e w1 ⟨rfl, hB⟩)
            go_ret
            exact ⟨rfl, hB⟩
end Go.Proofs.Ytcohgbelcbniaaa
