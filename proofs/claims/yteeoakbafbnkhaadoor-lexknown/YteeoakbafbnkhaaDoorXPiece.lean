/-
  CONTRACTS of the landed lex's breaksOff, pair, piece.
-/
import Derived.Test.YteeoakbafbnkhaaDoorXHex
import Derived.Test.YteeoakbafbnkhaaDoorXSkip
import Derived.Test.YteeoakbafbnkhaaDoorEscape
namespace Go.Proofs.YteeoakbafbnkhaaDoor
open Go.RowKit
set_option linter.unusedVariables false

theorem isB23 (c : Nat) : isB [2, 3] c = decide (¬ hexN c = 16) := by
  rw [Bool.eq_iff_iff]
  simp only [isB, List.any_cons, List.any_nil, Bool.or_false, Bool.or_eq_true, decide_eq_true_eq]
  constructor
  · rintro (h | h)
    · have : 48 ≤ c ∧ c ≤ 57 := by simpa [kindB, digitB] using h
      unfold hexN; rw [if_pos (by simpa [digitB] using this)]; omega
    · have : (97 ≤ c ∧ c ≤ 102) ∨ (65 ≤ c ∧ c ≤ 70) := by simpa [kindB, hexL] using h
      unfold hexN
      rw [if_neg (by simp [digitB]; omega)]
      rcases this with h | h
      · rw [if_pos h]; omega
      · rw [if_neg (by omega), if_pos h]; omega
  · intro h
    rcases hex_cases c h with ⟨h1, h2, _⟩ | ⟨h1, h2, _⟩ | ⟨h1, h2, _⟩
    · exact .inl (by simp [kindB, digitB]; omega)
    · exact .inr (by simp [kindB, hexL]; omega)
    · exact .inr (by simp [kindB, hexL]; omega)

theorem xbo_out (s : ByteArray) (x : Int) (k : Nat) (hx : x = k) (hk : s.size ≤ k) (h : s.size ≤ 1048576) (w : World) :
    Calls Tryd.prog 72 #[.string s, .int .i64 x] w fun e w' => e = .returned (.bool true) ∧ w = w' := by
  subst hx
  go_enter Tryd.func72, Tryd.ntmps72
  go_wp2
  go_ret
  exact ⟨rfl, rfl⟩
theorem xbo_in (s : ByteArray) (x : Int) (k c : Nat) (hx : x = k) (hk : k < s.size) (hc : (s[k]'hk).toNat = c) (h : s.size ≤ 1048576) (b : Bool) (hb : endsB c = b) (w : World) :
    Calls Tryd.prog 72 #[.string s, .int .i64 x] w fun e w' => e = .returned (.bool b) ∧ Below w.heap.size w w' := by
  subst hx
  have HB : Hid (endsB c = b) := hb
  clear hb
  go_enter Tryd.func72, Tryd.ntmps72
  go_wp2_with fail
  refine (xis_any [4] w.heap.size 1 c _ rfl (by omega) b (by rw [isB4]; exact HB.out) (kinds1 w 4 (by omega) 4 rfl _)).mono ?_
  rintro e wx ⟨rfl, rfl⟩
  go_wp2
  go_ret
  exact ⟨ret_bool (by rw [decide_eq_false (by omega)]; rfl), (Below.refl _ _).alloc (Nat.le_refl _) _⟩

/-- The digits that are left to read behind \x; what they make. -/
def pairR : Nat → Nat → List Nat → Nat × Nat × Nat
  | 0, acc, _ => (acc, 4, 0)
  | _ + 1, _, [] => (0, 0, 31)
  | n + 1, acc, c :: r => if endsB c then (0, 0, 31) else if hexN c = 16 then (0, 0, 32) else pairR n (16 * acc + hexN c) r
theorem pair_nil (n a : Nat) : pairR (n + 1) a [] = (0, 0, 31) := rfl
theorem pair_ends (n a c : Nat) (r : List Nat) (h : endsB c = true) : pairR (n + 1) a (c :: r) = (0, 0, 31) := by rw [pairR, if_pos h]
theorem pair_bad (n a c : Nat) (r : List Nat) (h : endsB c = false) (h2 : hexN c = 16) : pairR (n + 1) a (c :: r) = (0, 0, 32) := by rw [pairR, if_neg (by simp [h]), if_pos h2]
theorem pair_ok (n a c : Nat) (r : List Nat) (h : endsB c = false) (h2 : ¬ hexN c = 16) : pairR (n + 1) a (c :: r) = pairR n (16 * a + hexN c) r := by rw [pairR, if_neg (by simp [h]), if_neg h2]
def PairRel (s : ByteArray) (w : World) (q : Nat) (R : Nat × Nat × Nat) (i : Value) (wr : World) : Prop :=
  Below w.heap.size w wr ∧ ∃ (n acc k : Nat), n + k = 2 ∧ q + k ≤ s.size + 2 ∧ i = .int .i64 ((q : Int) + k) ∧ pairR n acc ((bytesN s).drop (q + k)) = R ∧
    (k = 0 → acc = 0) ∧ (k = 1 → ∃ d, (bytesN s)[q]? = some d ∧ ¬ hexN d = 16 ∧ acc = hexN d) ∧ (k = 2 → ∃ d e, (bytesN s)[q]? = some d ∧ (bytesN s)[q + 1]? = some e ∧ ¬ hexN d = 16 ∧ ¬ hexN e = 16 ∧ acc = 16 * hexN d + hexN e)
set_option maxRecDepth 100000 in
set_option maxHeartbeats 2000000 in
theorem xpair_as (s : ByteArray) (y : Int) (q B K X : Nat) (hy : y = q) (hq : q ≤ s.size) (h : s.size ≤ 1048576) (hR : pairR 2 0 ((bytesN s).drop q) = (B, K, X)) (w : World) :
    Calls Tryd.prog 73 #[.string s, .int .i64 y] w fun e w' => e = .returned (.tuple #[.int .u8 (B : Int), .int .i64 (K : Int), .int .i64 (X : Int)]) ∧ Below w.heap.size w w' := by
  subst hy
  have HR0 : Hid (pairR 2 0 ((bytesN s).drop q) = (B, K, X)) := hR
  clear hR
  go_enter Tryd.func73, Tryd.ntmps73
  go_wp2_with fail
  go_loopw [7] (fun i wr => PairRel s w q (B, K, X) i wr) (fun i _ => q + 2 - (intOf i).toNat)
  case atStart => exact ⟨Below.refl _ _, 2, 0, 0, rfl, by omega, by simp, by rw [Nat.add_zero]; exact HR0.out, fun _ => rfl, fun e => by omega, fun e => by omega⟩
  case round =>
    obtain ⟨hbel, n, acc, k, hnk, hqk, rfl, hR, hk0, hk1, hk2⟩ := hrel
    have BL : Hid (Below w.heap.size w wr) := hbel
    have hbw : w.heap.size ≤ wr.heap.size := hbel.size
    have HR : Hid (pairR n acc ((bytesN s).drop (q + k)) = (B, K, X)) := hR
    have H0 : Hid (k = 0 → acc = 0) := hk0
    have H1 : Hid (k = 1 → ∃ d, (bytesN s)[q]? = some d ∧ ¬ hexN d = 16 ∧ acc = hexN d) := hk1
    have H2 : Hid (k = 2 → ∃ d e, (bytesN s)[q]? = some d ∧ (bytesN s)[q + 1]? = some e ∧ ¬ hexN d = 16 ∧ ¬ hexN e = 16 ∧ acc = 16 * hexN d + hexN e) := hk2
    clear hbel hR hk0 hk1 hk2 HR0
    obtain ⟨j, hj⟩ : ∃ j, q + k = j := ⟨_, rfl⟩
    have hji : ((q : Int) + (k : Int)) = (j : Int) := by omega
    rw [hj] at HR
    rw [hji]
    by_cases hlt : k < 2
    · have hj2 : (j : Int) < (q : Int) + 2 := by omega
      obtain ⟨m, rfl⟩ : ∃ m, n = m + 1 := ⟨n - 1, by omega⟩
      by_cases hin : j < s.size
      · have hdrop := bytesN_drop s j hin
        obtain ⟨c, hc⟩ : ∃ c, (s[j]'hin).toNat = c := ⟨_, rfl⟩
        rw [hc] at hdrop
        have hget := bytesN_get s j hin
        rw [hc] at hget
        have HG : Hid ((bytesN s)[j]? = some c) := hget
        rw [hdrop] at HR
        clear hdrop hget
        by_cases he : endsB c = true
        · have HE : Hid (endsB c = true) := he
          have HF : Hid ((0, 0, 31) = (B, K, X)) := by unfold Hid; rw [← HR.out, pair_ends _ _ _ _ he]
          clear he
          obtain ⟨rfl, h2⟩ := Prod.mk.inj HF.out
          obtain ⟨rfl, rfl⟩ := Prod.mk.inj h2
          clear h2 HF HR
          go_wp2_with fail
          refine (xbo_in s j j c rfl hin hc h true HE.out _).mono ?_
          rintro e w2 ⟨rfl, hb2⟩
          have HB2 : Hid (Below w.heap.size w w2) := below_chain BL.out hb2 (Nat.le_refl _)
          clear hb2
          go_wp2
          go_ret3
          exact ⟨rfl, HB2.out⟩
        · have HE : Hid (endsB c = false) := by simpa [Hid] using he
          clear he
          by_cases hx : hexN c = 16
          · have HX : Hid (isB [2, 3] c = false) := by unfold Hid; rw [isB23]; simp [hx]
            have HF : Hid ((0, 0, 32) = (B, K, X)) := by unfold Hid; rw [← HR.out, pair_bad _ _ _ _ HE.out hx]
            obtain ⟨rfl, h2⟩ := Prod.mk.inj HF.out
            obtain ⟨rfl, rfl⟩ := Prod.mk.inj h2
            clear h2 HF HR hx
            go_wp2_with fail
            refine (xbo_in s j j c rfl hin hc h false HE.out _).mono ?_
            rintro e w2 ⟨rfl, hb2⟩
            have HB2 : Hid (Below w.heap.size w w2) := below_chain BL.out hb2 (Nat.le_refl _)
            clear hb2
            go_wp2_with fail
            refine (xis_any [2, 3] w2.heap.size 2 c _ rfl (by omega) false HX.out (kinds2 w2 2 3 (by omega) (by omega) 2 3 rfl rfl _)).mono ?_
            rintro e wx ⟨rfl, rfl⟩
            go_wp2
            go_ret3
            exact ⟨rfl, HB2.out.alloc HB2.out.size _⟩
          · have HX : Hid (isB [2, 3] c = true) := by unfold Hid; rw [isB23]; simp [hx]
            have HF : Hid (pairR m (16 * acc + hexN c) ((bytesN s).drop (j + 1)) = (B, K, X)) := by unfold Hid; rw [← HR.out, pair_ok _ _ _ _ HE.out hx]
            have HXX : Hid (¬ hexN c = 16) := hx
            clear hx HR
            go_wp2_with fail
            refine (xbo_in s j j c rfl hin hc h false HE.out _).mono ?_
            rintro e w2 ⟨rfl, hb2⟩
            have HB2 : Hid (Below w.heap.size w w2) := below_chain BL.out hb2 (Nat.le_refl _)
            clear hb2
            go_wp2_with fail
            refine (xis_any [2, 3] w2.heap.size 2 c _ rfl (by omega) true HX.out (kinds2 w2 2 3 (by omega) (by omega) 2 3 rfl rfl _)).mono ?_
            rintro e wx ⟨rfl, rfl⟩
            go_wp2
            go_roundw
            case rel =>
              refine ⟨HB2.out.alloc HB2.out.size _, m, 16 * acc + hexN c, k + 1, by omega, by omega, by congr 1; omega, by rw [← Nat.add_assoc, hj]; exact HF.out, fun e => by omega, fun e => ?_, fun e => ?_⟩
              · have k0 : k = 0 := by omega
                have hq0 : q = j := by omega
                exact ⟨c, by rw [hq0]; exact HG.out, HXX.out, by rw [H0.out k0]; omega⟩
              · have k1 : k = 1 := by omega
                obtain ⟨d, g1, g2, g3⟩ := H1.out k1
                have hq1 : q + 1 = j := by omega
                exact ⟨d, c, g1, by rw [hq1]; exact HG.out, g2, HXX.out, by rw [g3]⟩
            case measure => simp [intOf]; omega
      · have HF : Hid ((0, 0, 31) = (B, K, X)) := by
          unfold Hid; rw [← HR.out, List.drop_eq_nil_of_le (by rw [bytesN_length]; omega)]; rfl
        obtain ⟨rfl, h2⟩ := Prod.mk.inj HF.out
        obtain ⟨rfl, rfl⟩ := Prod.mk.inj h2
        clear h2 HF HR
        go_wp2_with fail
        refine (xbo_out s j j rfl (by omega) h _).mono ?_
        rintro e w2 ⟨rfl, rfl⟩
        go_wp2
        go_ret3
        exact ⟨rfl, BL.out⟩
    · have hk2 : k = 2 := by omega
      have hn0 : n = 0 := by omega
      obtain ⟨d, e, g1, g2, g3, g4, g5⟩ := H2.out hk2
      subst hk2
      subst hn0
      have hq2 : q + 2 ≤ s.size := by
        have := (List.getElem?_eq_some_iff.1 g2).1
        rw [bytesN_length] at this; omega
      have HF : Hid ((acc, 4, 0) = (B, K, X)) := HR.out
      obtain ⟨rfl, h2⟩ := Prod.mk.inj HF.out
      obtain ⟨rfl, rfl⟩ := Prod.mk.inj h2
      have hd15 : hexN d ≤ 15 := by have := hexN_le d; omega
      have he15 : hexN e ≤ 15 := by have := hexN_le e; omega
      have hacc : acc ≤ 255 := by omega
      have G5 : Hid (16 * hexN d + hexN e = acc) := g5.symm
      obtain ⟨t, ht⟩ : ∃ t, Hid (s.extract q (q + 2) = t) := ⟨_, rfl⟩
      have HT : Hid (bytesN t = [d, e]) := by
        unfold Hid; rw [← ht.out, bytesN_extract, show q + 2 - q = 2 by omega]
        obtain ⟨p1, q1⟩ := List.getElem?_eq_some_iff.1 g1
        obtain ⟨p2, q2⟩ := List.getElem?_eq_some_iff.1 g2
        rw [List.drop_eq_getElem_cons p1, q1, List.drop_eq_getElem_cons p2, q2]; rfl
      have hext : s.extract q (q + 2) = t := ht.out
      have hj2 : ¬ (j : Int) < (q : Int) + 2 := by omega
      have G3 : Hid (¬ hexN d = 16) := g3
      have G4 : Hid (¬ hexN e = 16) := g4
      clear h2 HF HR g1 g2 g3 g4 g5 hd15 he15 H0 H1 H2 hj hji
      go_wp2_with fail
      refine (xhex_as t d e HT.out G3.out G4.out acc G5.out _).mono ?_
      rintro e w2 ⟨rfl, hb2⟩
      have HB2 : Hid (Below w.heap.size w w2) := below_chain BL.out hb2 (Nat.le_refl _)
      clear hb2
      go_wp2
      go_ret3
      exact ⟨ret3' (by first | rfl | simp) rfl rfl, HB2.out⟩
end Go.Proofs.YteeoakbafbnkhaaDoor
