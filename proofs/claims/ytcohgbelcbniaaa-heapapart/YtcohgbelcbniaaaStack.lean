/-
  HeapStack, walked.
-/
import Derived.Test.YtcohgbelcbniaaaHs
namespace Go.Proofs.Ytcohgbelcbniaaa
open Go.RowKit
set_option linter.unusedVariables false

/-- A heap with one array that grows. -/
def sk (l : List Int) (u : Nat) : M := ⟨[⟨4, 17, empt, l⟩], u, 1048576⟩
theorem sk_at (l : List Int) (u : Nat) : (sk l u).at 1 = ⟨4, 17, empt, l⟩ := rfl
theorem sk_push (l : List Int) (u : Nat) (x : Int) (h1 : l.length < 65536) (h2 : u < 1048576) : (sk l u).pushT 1 = 0 ∧ (sk l u).pushed 1 x = sk (l ++ [x]) (u + 1) := by
  have e : (sk l u).pushT 1 = 0 := by
    unfold M.pushT M.madeT
    rw [sk_at]
    rw [if_neg (by simp), if_neg (by show ¬ l.length = 65536; omega), if_pos (by show u + 1 ≤ 1048576; omega)]
  refine ⟨e, ?_⟩
  unfold M.pushed
  rw [if_pos e, sk_at]
  have ep : (sk l u).paid 1 = sk l (u + 1) := by unfold M.paid; rw [if_pos (by show u + 1 ≤ 1048576; omega)]; rfl
  rw [ep]; rfl
theorem sk_get (l : List Int) (u i : Nat) (h : i < l.length) : (sk l u).getV 1 (i : Int) = l.getD i 0 ∧ (sk l u).getT 1 (i : Int) = 0 := by
  have hh : (sk l u).has 1 (i : Int) = true := by rw [has_iff, sk_at]; exact ⟨by simp, by omega, by show (i : Int) < l.length; omega⟩
  rcases has_cases (sk l u) 1 i with ⟨_, e1, e2⟩ | ⟨e, _⟩
  · rw [e1, e2, sk_at]; exact ⟨by simp, rfl⟩
  · rw [hh] at e; cases e
theorem sk_drop (l : List Int) (u : Nat) (y : Int) : (sk (l ++ [y]) u).dropT 1 = 0 ∧ (sk (l ++ [y]) u).dropV 1 = y ∧ (sk (l ++ [y]) u).dropped 1 = sk l u := by
  have e : (sk (l ++ [y]) u).dropT 1 = 0 := by unfold M.dropT; rw [sk_at]; simp
  refine ⟨e, ?_, ?_⟩
  · unfold M.dropV; rw [if_pos e, sk_at]; simp
  · unfold M.dropped; rw [if_pos e, sk_at]; simp [M.upd, sk, Th.with]
theorem sk_drop0 (u : Nat) : (sk [] u).dropT 1 = 7 ∧ (sk [] u).dropV 1 = 0 ∧ (sk [] u).dropped 1 = sk [] u := ⟨rfl, rfl, rfl⟩
theorem sk_new : (M.new 1048576).made (tGrow 17) 1 = sk [] 1 ∧ (M.new 1048576).madeR 1 = 1 ∧ (M.new 1048576).madeT 1 = 0 := ⟨rfl, rfl, rfl⟩
def S1 (w : World) (p : Nat) (xs : List Int) (iv : Value) (wr : World) : Prop := ∃ k : Nat, k ≤ xs.length ∧ iv = .int .i64 (k : Int) ∧ Hs w wr p (sk (xs.take k) (1 + k))
def S2 (w : World) (p : Nat) (xs : List Int) (iv : Value) (wr : World) : Prop := ∃ k : Nat, k ≤ xs.length ∧ iv = .int .i64 ((k : Int) - 1) ∧ Hs w wr p (sk (xs.take k) (1 + xs.length))
theorem take_snoc (xs : List Int) (k : Nat) (h : k < xs.length) : xs.take (k + 1) = xs.take k ++ [xs.getD k 0] := by
  rw [List.take_succ_eq_append_getElem h, List.getD_eq_getElem?_getD, List.getElem?_eq_getElem h]; rfl
set_option maxRecDepth 100000 in
set_option maxHeartbeats 2000000 in
theorem stack_walk (w : World) (ao : Option Addr) (cap : Nat) (xs : List Int) (hx : WordsAt w ao cap xs) : Calls Try.prog 8 #[.slice ao xs.length cap] w fun e w' => e = .returned (.bool true) ∧ Below w.heap.size w w' := by
  obtain ⟨n, hn⟩ : ∃ n, Hid (xs.length = n) := ⟨_, rfl⟩
  have hcl := hx.capl
  have hcm := hx.capm
  unfold maxLen at hcm
  rw [hn.out] at hcl ⊢
  have HX : Hid (WordsAt w ao cap xs) := hx
  have hwk := hsWorks (Below.refl _ w)
  clear hx
  by_cases hbig : 1000 < n
  · go_enter Try.func8, Try.ntmps8
    go_wp2_with (go_at_call 9; refine hwk.mono ?_; rintro e w1 ⟨rfl, hB⟩)
    go_ret
    exact ⟨rfl, hB⟩
  have hle : n ≤ 1000 := by omega
  clear hbig hwk
  have hN := hsNew w 1048576 (by omega) (by omega)
  have HE : Hid (∀ w1, Hs w w1 w.heap.size (M.new 1048576) → Calls Try.prog 23 #[ptr w.heap.size, .int .i64 17] w1 fun e w' => e = .returned (.tuple #[.int .u64 1, .int .i64 0]) ∧ Hs w w' w.heap.size (sk [] 1)) := by
    intro w1 h1
    have := hsEmpty h1 (by simp [M.new]) 17
    rwa [sk_new.1, sk_new.2.1, sk_new.2.2] at this
  go_enter Try.func8, Try.ntmps8
  go_wp2_with (first | (go_at_call 10; refine hN.mono ?_; rintro e w1 ⟨rfl, h1⟩; have hE := HE.out w1 h1; clear h1) | (go_at_call 23; refine hE.mono ?_; rintro e w2 ⟨rfl, h2⟩; have H2 : Hid _ := h2; clear h2))
  clear HE hE hN
  go_loopw [6] (fun iv wr => S1 w w.heap.size xs iv wr) (fun i _ => n - (intOf i).toNat)
  case atStart => exact ⟨0, Nat.zero_le _, rfl, H2.out⟩
  case round =>
    clear H2
    obtain ⟨k, hk, rfl, hs⟩ := hrel
    rw [hn.out] at hk
    by_cases hlt : k < n
    · have HL : Hid (k < xs.length) := by unfold Hid; rw [hn.out]; exact hlt
      obtain ⟨x, hxk⟩ : ∃ x, Hid (xs.getD k 0 = x) := ⟨_, rfl⟩
      obtain ⟨b, o, rfl⟩ : ∃ b o, ao = some ⟨b, o, none⟩ := by
        rcases HX.out.cell with q | ⟨b, o, e, _⟩
        · have := HL.out; rw [q] at this; simp at this
        · exact ⟨b, o, e⟩
      have hcell := (HX.out.below hs.bel).get HL.out
      rw [hxk.out] at hcell
      have hxb : 0 ≤ x ∧ x < 18446744073709551616 := by
        rw [← hxk.out, List.getD_eq_getElem?_getD, List.getElem?_eq_getElem HL.out]
        exact HX.out.bits _ (List.getElem_mem _)
      obtain ⟨e1, e2⟩ := sk_push (xs.take k) (1 + k) x (by rw [List.length_take]; omega) (by omega)
      have hp := hsPush hs (by simp [sk]) 1 x (by omega) (by omega) hxb
      rw [e1, e2, ← hxk.out, ← take_snoc xs k HL.out, hxk.out] at hp
      have hlk : (xs.take (k + 1)).length = k + 1 := by rw [List.length_take, hn.out]; omega
      have HG : Hid (∀ w2, Hs w w2 w.heap.size (sk (xs.take (k + 1)) (1 + k + 1)) → Calls Try.prog 22 #[ptr w.heap.size, .int .u64 1, .int .i64 (k : Int)] w2 fun e w' => e = .returned (.tuple #[.int .u64 x, .int .i64 0]) ∧ w2 = w') := by
        intro w2 h2
        have := hsGet h2 (by simp [sk]) 1 (k : Int) (by omega) (by omega) (by omega) (by omega)
        obtain ⟨g1, g2⟩ := sk_get (xs.take (k + 1)) (1 + k + 1) k (by omega)
        have g3 : (xs.take (k + 1)).getD k 0 = x := by
          rw [← hxk.out, List.getD_eq_getElem?_getD, List.getD_eq_getElem?_getD, List.getElem?_take, if_pos (by omega)]
        rwa [g1, g2, g3] at this
      have HN : Hid (∀ w2, Hs w w2 w.heap.size (sk (xs.take (k + 1)) (1 + k + 1)) → Calls Try.prog 25 #[ptr w.heap.size, .int .u64 1] w2 fun e w' => e = .returned (.tuple #[.int .i64 ((k : Int) + 1), .bool true]) ∧ w2 = w') := by
        intro w2 h2
        have := hsLen h2 (by simp [sk]) 1 (by omega) (by omega)
        rw [sk_at] at this
        have e3 : (((⟨4, 17, empt, xs.take (k + 1)⟩ : Th).len : Nat) : Int) = (k : Int) + 1 := by
          show (((xs.take (k + 1)).length : Nat) : Int) = (k : Int) + 1
          rw [hlk]; omega
        rw [e3] at this
        exact this
      have HC : Hid (∀ w2, Hs w w2 w.heap.size (sk (xs.take (k + 1)) (1 + k + 1)) → w2.cell? ⟨b, o + k, none⟩ = some (.int .u64 x)) := by
        intro w2 h2
        have := (HX.out.below h2.bel).get HL.out
        rwa [hxk.out] at this
      clear hs e1 e2 hxb hlk
      go_wp2_with (first | (go_at_call 24; refine hp.mono ?_; rintro e w2 ⟨rfl, h2⟩; have hg := HG.out w2 h2; have hln := HN.out w2 h2; have hc2 := HC.out w2 h2; have H2 : Hid _ := h2; clear h2) | (go_at_call 22; refine hg.mono ?_; rintro e w3 ⟨rfl, rfl⟩) | (go_at_call 25; refine hln.mono ?_; rintro e w3 ⟨rfl, rfl⟩))
      go_roundw
      case rel => exact ⟨k + 1, HL.out, by simp, H2.out⟩
      case measure => simp [intOf]; omega
    · have hkn : k = n := by omega
      subst hkn
      have HS : Hid (Hs w wr w.heap.size (sk xs (1 + k))) := by
        rw [List.take_of_length_le (by rw [hn.out]; exact Nat.le_refl _)] at hs
        exact hs
      clear hs
      go_wp2_with fail
      go_loopw [11] (fun iv wr => S2 w w.heap.size xs iv wr) (fun i _ => (intOf i + 1).toNat)
      case atStart => exact ⟨k, by rw [hn.out]; exact Nat.le_refl _, rfl, by rw [List.take_of_length_le (by rw [hn.out]; exact Nat.le_refl _), hn.out]; exact HS.out⟩
      case round =>
        clear HS
        obtain ⟨j, hj, rfl, hs⟩ := hrel
        rw [hn.out] at hj hs
        rcases Nat.eq_zero_or_pos j with rfl | hpos
        · have hd := hsDrop hs (by simp [sk]) 1 (by omega) (by omega)
          rw [List.take_zero, (sk_drop0 _).1, (sk_drop0 _).2.1, (sk_drop0 _).2.2] at hd
          have HU : Hid (∀ w2, Hs w w2 w.heap.size (sk [] (1 + k)) → Calls Try.prog 13 #[ptr w.heap.size] w2 fun e w' => e = .returned (.int .i64 (1 + (k : Int))) ∧ w2 = w') := by
            intro w2 h2
            have := hsUsed h2
            have e3 : (((sk [] (1 + k)).used : Nat) : Int) = 1 + (k : Int) := by show (((1 + k : Nat)) : Int) = _; omega
            rwa [e3] at this
          have HW : Hid (∀ w2, Hs w w2 w.heap.size (sk [] (1 + k)) → Calls Try.prog 9 #[] w2 fun e w' => e = .returned (.bool true) ∧ Below w.heap.size w w') := fun w2 h2 => hsWorks h2.bel
          clear hs
          go_wp2_with (first | (go_at_call 26; refine hd.mono ?_; rintro e w2 ⟨rfl, h2⟩; have hu := HU.out w2 h2; have hwk := HW.out w2 h2; clear h2) | (go_at_call 13; refine hu.mono ?_; rintro e w3 ⟨rfl, rfl⟩) | (go_at_call 9; refine hwk.mono ?_; rintro e w4 ⟨rfl, hB⟩))
          go_ret
          exact ⟨rfl, hB⟩
        · obtain ⟨q, rfl⟩ : ∃ q, j = q + 1 := ⟨j - 1, by omega⟩
          have HL : Hid (q < xs.length) := by unfold Hid; rw [hn.out]; omega
          obtain ⟨x, hxk⟩ : ∃ x, Hid (xs.getD q 0 = x) := ⟨_, rfl⟩
          obtain ⟨b, o, rfl⟩ : ∃ b o, ao = some ⟨b, o, none⟩ := by
            rcases HX.out.cell with q | ⟨b, o, e, _⟩
            · have := HL.out; rw [q] at this; simp at this
            · exact ⟨b, o, e⟩
          rw [take_snoc xs q HL.out, hxk.out] at hs
          obtain ⟨e1, e2, e3⟩ := sk_drop (xs.take q) (1 + k) x
          have hd := hsDrop hs (by simp [sk]) 1 (by omega) (by omega)
          rw [e1, e2, e3] at hd
          have HC : Hid (∀ w2, Hs w w2 w.heap.size (sk (xs.take q) (1 + k)) → w2.cell? ⟨b, o + q, none⟩ = some (.int .u64 x)) := by
            intro w2 h2
            have := (HX.out.below h2.bel).get HL.out
            rwa [hxk.out] at this
          have hq1 : ((q + 1 : Nat) : Int) - 1 = (q : Int) := by omega
          rw [hq1]
          have hqk : q < k := by omega
          clear hs e1 e2 e3 hpos hq1
          go_wp2_with (first | (go_at_call 26; refine hd.mono ?_; rintro e w2 ⟨rfl, h2⟩; have hc2 := HC.out w2 h2; have H2 : Hid _ := h2; clear h2))
          go_roundw
          case rel => exact ⟨q, by rw [hn.out]; omega, rfl, by rw [hn.out]; exact H2.out⟩
          case measure => simp [intOf]
end Go.Proofs.Ytcohgbelcbniaaa
