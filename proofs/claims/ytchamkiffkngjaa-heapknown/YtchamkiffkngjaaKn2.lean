/-
  HeapKnown, walked.
-/
import Derived.Test.YtchamkiffkngjaaKn3
namespace Go.Proofs.Ytchamkiffkngjaa
open Go.RowKit
set_option linter.unusedVariables false
def strLen (v : Value) : Nat := match v with | .string s => s.size | _ => 0
def K26 (wg : World) (sv : Value) (wr : World) : Prop := ∃ s : ByteArray, sv = .string s ∧ wr = wg ∧ ∃ k : Nat, k ≤ 13 ∧ s.size = 8 * 2 ^ k
theorem k26_end {s : ByteArray} {k : Nat} (hk : k ≤ 13) (h : s.size = 8 * 2 ^ k) (hn : ¬ s.size < 65536) : s.size = 65536 := by
  have : 2 ^ k ≤ 2 ^ 13 := Nat.pow_le_pow_right (by omega) hk
  have e : (2 : Nat) ^ 13 = 8192 := rfl
  omega
theorem k26_next {s : ByteArray} {k : Nat} (hk : k ≤ 13) (h : s.size = 8 * 2 ^ k) (hn : s.size < 65536) : k + 1 ≤ 13 ∧ (s ++ s).size = 8 * 2 ^ (k + 1) ∧ 0 < s.size := by
  have hp : 0 < 2 ^ k := Nat.pow_pos (by omega)
  refine ⟨?_, ?_, by omega⟩
  · rcases Nat.lt_or_ge k 13 with q | q
    · omega
    · obtain rfl : k = 13 := by omega
      have e : (2 : Nat) ^ 13 = 8192 := rfl
      omega
  · rw [ByteArray.size_append, Nat.pow_succ]; omega
def IntsAre (l : List Int) (k : Nat) : Prop := l.length = k
def K35 (A : World) (p : Nat) (L : ByteArray) (iv : Value) (wr : World) : Prop := ∃ (l : List Int) (i : Int), i = (l.length : Int) ∧ l.length ≤ 65536 ∧ iv = .int .i64 i ∧ Hs A wr p (gk L fx l (73731 + l.length))
def K41 (A : World) (p : Nat) (L : ByteArray) (l : List Int) (iv : Value) (wr : World) : Prop := ∃ j : Nat, j ≤ 13 ∧ iv = .int .i64 (j : Int) ∧ Hs A wr p (gj L fx l fz j)
set_option maxRecDepth 100000 in
set_option maxHeartbeats 8000000 in
theorem known_walk (w : World) : Calls Try.prog 3 #[] w fun e w' => e = .returned (.bool true) ∧ Below w.heap.size w w' := by
  have hN := hsNew w 10 (by omega) (by omega)
  go_enter Try.func3, Try.ntmps3
  go_wp2_with (first | (go_at_call 4; refine hN.mono ?_; clear hN; rintro e w0 ⟨rfl, h0⟩; replace h0 : Hs w w0 w.heap.size k1 := h0) |
    (have q := e1 h0; go_at_call 5; refine q.mono ?_; clear q h0; rintro e w1 ⟨rfl, h1⟩) |
    (have q := e2 h1; go_at_call 6; refine q.mono ?_; clear q; rintro e w2 ⟨rfl, rfl⟩; have h2 := h1; clear h1) |
    (have q := e3 h2; go_at_call 7; refine q.mono ?_; clear q h2; rintro e w3 ⟨rfl, h3⟩) |
    (have q := e4 h3; go_at_call 8; refine q.mono ?_; clear q h3; rintro e w4 ⟨rfl, h4⟩) |
    (have q := e5 h4; go_at_call 9; refine q.mono ?_; clear q; rintro e w5 ⟨rfl, rfl⟩; have h5 := h4; clear h4) |
    (have q := e6 h5; go_at_call 6; refine q.mono ?_; clear q; rintro e w6 ⟨rfl, rfl⟩; have h6 := h5; clear h5) |
    (have q := e7 h6; go_at_call 10; refine q.mono ?_; clear q h6; rintro e w7 ⟨rfl, h7⟩) |
    (have q := e8 h7; go_at_call 11; refine q.mono ?_; clear q h7; rintro e w8 ⟨rfl, h8⟩) |
    (have q := e9 h8; go_at_call 12; refine q.mono ?_; clear q h8; rintro e w9 ⟨rfl, h9⟩) |
    (have q := e10 h9; go_at_call 12; refine q.mono ?_; clear q h9; rintro e w10 ⟨rfl, h10⟩) |
    (have q := e11 h10; go_at_call 6; refine q.mono ?_; clear q; rintro e w11 ⟨rfl, rfl⟩; have h11 := h10; clear h10) |
    (have q := e12 h11; go_at_call 12; refine q.mono ?_; clear q h11; rintro e w12 ⟨rfl, h12⟩) |
    (have q := e13 h12; go_at_call 12; refine q.mono ?_; clear q h12; rintro e w13 ⟨rfl, h13⟩) |
    (have q := e14 h13; go_at_call 13; refine q.mono ?_; clear q h13; rintro e w14 ⟨rfl, h14⟩) |
    (have q := e15 h14; go_at_call 14; refine q.mono ?_; clear q h14; rintro e w15 ⟨rfl, h15⟩) |
    (have q := e16 h15; go_at_call 14; refine q.mono ?_; clear q h15; rintro e w16 ⟨rfl, h16⟩) |
    (have q := e17 h16; go_at_call 14; refine q.mono ?_; clear q h16; rintro e w17 ⟨rfl, h17⟩) |
    (have q := e18 h17; go_at_call 9; refine q.mono ?_; clear q; rintro e w18 ⟨rfl, rfl⟩; have h18 := h17; clear h17) |
    (have q := e19 h18; go_at_call 15; refine q.mono ?_; clear q; rintro e w19 ⟨rfl, rfl⟩; have h19 := h18; clear h18) |
    (have q := e20 h19; go_at_call 15; refine q.mono ?_; clear q; rintro e w20 ⟨rfl, rfl⟩; have h20 := h19; clear h19) |
    (have q := e21 h20; go_at_call 12; refine q.mono ?_; clear q h20; rintro e w21 ⟨rfl, h21⟩) |
    (have q := e22 h21; go_at_call 12; refine q.mono ?_; clear q h21; rintro e w22 ⟨rfl, h22⟩) |
    (have q := e23 h22; go_at_call 16; refine q.mono ?_; clear q h22; rintro e w23 ⟨rfl, h23⟩) |
    (have q := e24 h23; go_at_call 16; refine q.mono ?_; clear q h23; rintro e w24 ⟨rfl, h24⟩) |
    (have q := e25 h24; go_at_call 16; refine q.mono ?_; clear q h24; rintro e w25 ⟨rfl, h25⟩) |
    (have q := b0 w25; go_at_call 4; refine q.mono ?_; clear q; rintro e wg ⟨rfl, G0⟩; have HB : Hid _ := h25.bel; clear h25))
  go_loopw [26] (fun sv wr => K26 wg sv wr) (fun sv _ => 65536 - strLen sv)
  case atStart => exact ⟨⟨#[120, 120, 120, 120, 120, 120, 120, 120]⟩, rfl, rfl, 0, by omega, rfl⟩
  case round =>
    obtain ⟨s, rfl, rfl, k, hk, hsz⟩ := hrel
    have HS : Hid (s.size = 8 * 2 ^ k) := hsz
    have HK : Hid (k ≤ 13) := hk
    clear hsz hk
    obtain ⟨n, hn⟩ : ∃ n : Int, (s.size : Int) = n := ⟨_, rfl⟩
    by_cases hlt : s.size < 65536
    · have hd2 : decide (n < 65536) = true := decide_eq_true (by omega)
      have HL : Hid (s.size < 65536) := hlt
      have hz : ¬ 9223372036854775807 < s.size + s.size := by omega
      clear hlt
      go_wp2_with fail
      all_goals first | (exfalso; have := HL.out; omega) | skip
      obtain ⟨a1, a2, a3⟩ := k26_next HK.out HS.out HL.out
      refine ⟨⟨_, rfl, rfl, k + 1, a1, a2⟩, ?_⟩
      show 65536 - (s ++ s).size < 65536 - s.size
      have := HL.out
      rw [ByteArray.size_append]; omega
    · have hd2 : decide (n < 65536) = false := decide_eq_false (by omega)
      have HL : Hid (s.size = 65536) := k26_end HK.out HS.out hlt
      have hz : ¬ 9223372036854775807 < s.size + 1 := by have := HL.out; omega
      have H1 : Hid ((s ++ (⟨#[120]⟩ : ByteArray)).size = 65537) := by
        have := HL.out
        unfold Hid; rw [ByteArray.size_append, this]; rfl
      clear hlt HS HK
      go_wp2_with (first |
        (have q := b1 G0 (s ++ ⟨#[120]⟩) H1.out; go_at_call 7; refine q.mono ?_; clear q G0; rintro e w30 ⟨rfl, G1⟩) |
        (have q := b2 G1 s HL.out; go_at_call 7; refine q.mono ?_; clear q G1; rintro e w31 ⟨rfl, G2⟩) |
        (have q := b3 G2; go_at_call 14; refine q.mono ?_; clear q G2; rintro e w32 ⟨rfl, G3⟩) |
        (have q := b4 G3; go_at_call 11; refine q.mono ?_; clear q G3; rintro e w33 ⟨rfl, G4⟩))
      all_goals first | (exfalso; have := HL.out; omega) | skip
      clear hz hd2 hn H1
      go_loopw [35] (fun iv wr => K35 w25 w25.heap.size s iv wr) (fun i _ => 65536 - (intOf i).toNat)
      case atStart => exact ⟨[], 0, rfl, by show (0 : Nat) ≤ 65536; omega, rfl, G4⟩
      case round =>
        clear G4
        obtain ⟨l, i, hi, hle, rfl, hs⟩ := hrel
        have HI : Hid (i = (l.length : Int)) := hi
        have HE : Hid (l.length ≤ 65536) := hle
        have hi0 : 0 ≤ i := by omega
        have hi1 : i < 100000 := by omega
        by_cases hlt : l.length < 65536
        · have hd3 : decide (i < 65536) = true := decide_eq_true (by omega)
          have H2 : Hid (l.length < 65536) := hlt
          have hq := b5 hs hlt (by omega)
          clear hlt hi hle hs
          go_wp2_with (go_at_call 12; refine hq.mono ?_; clear hq; rintro e w34 ⟨rfl, G5⟩)
          go_roundw
          case rel =>
            refine ⟨l ++ [1], _, ?_, ?_, rfl, ?_⟩
            · rw [List.length_append, HI.out]; simp
            · have := H2.out
              rw [List.length_append]; simp; omega
            · have e : 73731 + (l ++ [1]).length = 73731 + l.length + 1 := by rw [List.length_append]; rfl
              rw [e]; exact G5
          case measure =>
            have h2 := H2.out
            have h3 := HI.out
            simp [intOf]; omega
        · have hd3 : decide (i < 65536) = false := decide_eq_false (by omega)
          have H2 : Hid (l.length = 65536) := by unfold Hid; omega
          have e : 73731 + l.length = 139267 := by omega
          rw [e] at hs
          clear hlt hi hle HI HE e
          have G5 := hs
          clear hs
          go_wp2_with (first |
            (have q := b6 G5; go_at_call 9; refine q.mono ?_; clear q; rintro e w35 ⟨rfl, rfl⟩; have G6 := G5; clear G5) |
            (have q := b7 G6 H2.out; go_at_call 17; refine q.mono ?_; clear q; rintro e w36 ⟨rfl, rfl⟩; have G7 := G6; clear G6) |
            (have q := b8 G7 H2.out; go_at_call 12; refine q.mono ?_; clear q G7; rintro e w37 ⟨rfl, G8⟩) |
            (have q := b9 G8; go_at_call 6; refine q.mono ?_; clear q; rintro e w38 ⟨rfl, rfl⟩; have G9 := G8; clear G8))
          clear hd3 hi0 hi1
          go_loopw [41] (fun iv wr => K41 w25 w25.heap.size s l iv wr) (fun i _ => 13 - (intOf i).toNat)
          case atStart => exact ⟨0, by omega, rfl, G9⟩
          case round =>
            clear G9
            obtain ⟨j, hj, rfl, hs⟩ := hrel
            by_cases hlt : j < 13
            · have hq := b10 hs hlt
              clear hs
              go_wp2_with (go_at_call 14; refine hq.mono ?_; clear hq; rintro e w40 ⟨rfl, G10⟩)
              go_roundw
              case rel => exact ⟨j + 1, hlt, by simp, G10⟩
              case measure => simp [intOf]; omega
            · obtain rfl : j = 13 := by omega
              clear hlt hj
              have G10 := hs
              clear hs
              go_wp2_with (first |
                (have q := b11 G10; go_at_call 6; refine q.mono ?_; clear q; rintro e w41 ⟨rfl, rfl⟩; have G11 := G10; clear G10) |
                (have q := b12 G11; go_at_call 14; refine q.mono ?_; clear q G11; rintro e w42 ⟨rfl, G12⟩) |
                (have q := b13 G12; go_at_call 14; refine q.mono ?_; clear q G12; rintro e w43 ⟨rfl, G13⟩) |
                (have q := b14 G13; go_at_call 11; refine q.mono ?_; clear q G13; rintro e w44 ⟨rfl, G14⟩) |
                (have q := c0 w44; go_at_call 4; refine q.mono ?_; clear q; rintro e w45 ⟨rfl, Z0⟩; have HG : Hid _ := HB.out.trans (G14.bel.mono HB.out.size); clear G14) |
                (have q := c1 Z0; go_at_call 5; refine q.mono ?_; clear q Z0; rintro e w46 ⟨rfl, Z1⟩) |
                (have q := c2 Z1; go_at_call 7; refine q.mono ?_; clear q Z1; rintro e w47 ⟨rfl, Z2⟩) |
                (have q := hsWorks (HG.out.trans (Z2.bel.mono HG.out.size)); go_at_call 18; refine q.mono ?_; clear q Z2; rintro e w48 ⟨rfl, hF⟩))
              go_ret
              exact ⟨rfl, hF⟩

end Go.Proofs.Ytchamkiffkngjaa
