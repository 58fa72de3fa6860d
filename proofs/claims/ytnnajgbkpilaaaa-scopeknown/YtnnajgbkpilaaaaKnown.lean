/-
  ScopeKnown, walked.
-/
import Derived.Test.YtnnajgbkpilaaaaKnMath
namespace Go.Proofs.Ytnnajgbkpilaaaa
open Go.RowKit
set_option linter.unusedVariables false
set_option linter.unusedSimpArgs false
def Kn1 (W : World) (iv : Value) (wr : World) : Prop := ∃ k : Nat, k ≤ 24 ∧ iv = .int .i64 (k : Int) ∧ Below W.heap.size W wr
def Kn2 (A : World) (p : Nat) (iv : Value) (wr : World) : Prop := ∃ k : Nat, k ≤ 256 ∧ iv = .int .i64 (k : Int) ∧ Sl p A wr p (md k)
set_option maxRecDepth 100000 in
set_option maxHeartbeats 8000000 in
theorem known_walk (w : World) : Calls Try.prog 7 #[] w fun e w' => e = .returned (.bool true) ∧ Below w.heap.size w w' := by
  have hb1 : Below w.heap.size w ((w.alloc (.cells oneC 29)).alloc (.cells twoC 29)) := ((Below.refl _ _).alloc (Nat.le_refl _) _).alloc (by rw [World.size_alloc]; omega) _
  have o1 := (Own.new w oneC 29).alloc (.cells twoC 29)
  have o2 := Own.new (w.alloc (.cells oneC 29)) twoC 29
  rw [World.size_alloc] at o2
  obtain ⟨W, hW⟩ : ∃ W, Hid ((w.alloc (.cells oneC 29)).alloc (.cells twoC 29) = W) := ⟨_, rfl⟩
  have hsW : W.heap.size = w.heap.size + 1 + 1 := by rw [← hW.out, World.size_alloc, World.size_alloc]
  rw [hW.out] at hb1 o1 o2
  have S1 : StIn W W.heap.size (some ⟨w.heap.size, 0, none⟩) oneSt := by
    rw [oneC_eq] at o1
    refine (stIn_lit o1 ?_).mono (by omega)
    unfold maxLen
    decide
  have S2 : StIn W W.heap.size (some ⟨w.heap.size + 1, 0, none⟩) twoSt := by
    rw [twoC_eq] at o2
    refine (stIn_lit o2 ?_).mono (by omega)
    unfold maxLen
    decide
  have HB : Hid (Below w.heap.size w W) := hb1
  have HS1 : Hid _ := S1
  have HS2 : Hid _ := S2
  clear o1 o2 S1 S2 hb1
  have l1 : oneSt.length = 23 := rfl
  have l2 : twoSt.length = 24 := rfl
  go_enter Try.func7, Try.ntmps7
  go_upto_region 1 with fail
  go_cut [1] (fun b wx => b = .slice (some ⟨w.heap.size, 0, none⟩) 23 23 ∧ wx = w.alloc (.cells oneC 29))
  case first =>
    go_wp2_with fail
    go_meet
    exact ⟨rfl, rfl⟩
  case rest =>
  obtain ⟨rfl, rfl⟩ := hcut
  obtain ⟨V, hV⟩ : ∃ V, Hid (w.alloc (.cells oneC 29) = V) := ⟨_, rfl⟩
  have hVs : V.heap.size = w.heap.size + 1 := by rw [← hV.out, World.size_alloc]
  rw [hV.out] at hW ⊢
  go_upto_region 2 with fail
  go_cut [2] (fun b wx => b = .slice (some ⟨w.heap.size + 1, 0, none⟩) 24 24 ∧ wx = V.alloc (.cells twoC 29))
  case first =>
    go_wp2_with fail
    go_meet
    exact ⟨by rw [← hVs], rfl⟩
  case rest =>
  obtain ⟨rfl, rfl⟩ := hcut
  rw [hW.out]
  clear hW hV hVs
  have m23 : (23 : Nat) ≤ maxLen := by unfold maxLen; omega
  have m24 : (24 : Nat) ≤ maxLen := by unfold maxLen; omega
  go_wp2_with fail
  go_loopw [3] (fun iv wr => Kn1 W iv wr) (fun i _ => 25 - (intOf i).toNat)
  case atStart => exact ⟨0, by omega, rfl, Below.refl _ _⟩
  case round =>
    obtain ⟨k, hk, rfl, hbw⟩ := hrel
    by_cases hlt : k ≤ 23
    · have hc1 := kPlays HS1.out hbw k 23 (by omega) (by omega) m23
      have HBw : Hid _ := hbw
      clear hbw
      have hmin : min (k : Int) 24 = (k : Int) := by omega
      go_wp2_with (first
        | (go_at_call 3; refine hc1.mono ?_; clear hc1; rintro e w1 ⟨rfl, b1⟩; have hc2 := kPlays HS2.out b1 k 24 (by omega) (by omega) m24; clear b1)
        | (go_at_call 3; refine hc2.mono ?_; clear hc2; rintro e w2 ⟨rfl, b2⟩; have hc3 := kRises HS1.out b2 k 23 (by omega) (by omega) m23; clear b2)
        | (go_at_call 6; refine hc3.mono ?_; clear hc3; rintro e w3 ⟨rfl, b3⟩; have hc4 := kBlocks HS1.out HS2.out b3 k 23 (by omega) (by omega) m23 24 24 (by omega) (by omega) m24 ⟨#[97]⟩ (by unfold maxLen; decide) true; clear b3)
        | (go_at_call 5; refine hc4.mono ?_; clear hc4; rintro e w4 ⟨rfl, b4⟩; have hc5 := kBlocks HS2.out HS1.out b4 24 24 (by omega) (by omega) m24 k 23 (by omega) (by omega) m23 ⟨#[75]⟩ (by unfold maxLen; decide) false; clear b4)
        | (go_at_call 5; refine hc5.mono ?_; clear hc5; rintro e w5 ⟨rfl, b5⟩; have B5 : Hid _ := b5; clear b5))
      exact ⟨⟨k + 1, by omega, by simp, B5.out⟩, by simp [intOf]; omega⟩
    · have hk24 : k = 24 := by omega
      subst hk24
      have hc1 := kPlays HS2.out hbw 24 24 (by omega) (by omega) m24
      clear hbw
      go_upto_region 10 with (first
        | (go_at_call 3; refine hc1.mono ?_; clear hc1; rintro e w1 ⟨rfl, b1⟩; have hc2 := kNone b1 ⟨#[]⟩ 0 false; clear b1)
        | (go_at_call 4; refine hc2.mono ?_; clear hc2; rintro e w2 ⟨rfl, b2⟩; have hc3 := kNone b2 ⟨#[97]⟩ (-5) true; clear b2)
        | (go_at_call 4; refine hc3.mono ?_; clear hc3; rintro e w3 ⟨rfl, b3⟩; have B3 : Hid _ := b3; clear b3))
      have hN := slNew w3
      go_wp2_with (go_at_call 8; refine hN.mono ?_; clear hN; rintro e w4 ⟨rfl, h4⟩; have H4 : Hid _ := h4; clear h4)
      obtain ⟨p, hp⟩ : ∃ p, Hid (w3.heap.size = p) := ⟨_, rfl⟩
      have H4' : Hid (Sl p w3 w4 p M.new) := by rw [← hp.out]; exact H4.out
      rw [hp.out]
      clear H4
      go_loopw [5] (fun iv wr => Kn2 w3 p iv wr) (fun i _ => 257 - (intOf i).toNat)
      case atStart => exact ⟨0, by omega, rfl, H4'.out⟩
      case round =>
        clear H4' hlt m23 m24 l1 l2
        obtain ⟨k, hk, rfl, hsl⟩ := hrel
        obtain ⟨f1, f2, f3⟩ := md_facts k hk
        by_cases hlt : k < 256
        · have hd := slDecl hsl (by omega) ⟨#[97]⟩ (k : Int)
          have g1 : (md k).decV ⟨#[97]⟩ = k := (md_decl hlt).2
          have g2 : (md k).decE ⟨#[97]⟩ = 0 := (md_decl hlt).1
          rw [g1, g2] at hd
          have hlen : ((md k).declared ⟨#[97]⟩ (k : Int)).out.length ≤ 100000 := by
            unfold M.declared
            split <;> (show (md k).out.length ≤ 100000; omega)
          clear hsl g1 g2 f1 f2 f3
          go_wp2_with (first | (go_at_call 16; refine hd.mono ?_; clear hd; rintro e w5 ⟨rfl, h5⟩; have ho := slOpen h5 hlen; clear h5) | (go_at_call 20; refine ho.mono ?_; clear ho; rintro e w6 ⟨rfl, h6⟩; have H6 : Hid _ := h6; clear h6))
          exact ⟨⟨k + 1, by omega, by simp, H6.out⟩, by simp [intOf]; omega⟩
        · have hk6 : k = 256 := by omega
          have hlast : (md k).out = (md 255).out ++ [[⟨bA, 255, 255⟩]] := by rw [hk6]; exact md_last (k := 255) (by omega)
          obtain ⟨m, hm⟩ : ∃ m, Hid (md k = m) := ⟨_, rfl⟩
          obtain ⟨o, hoo⟩ : ∃ o, Hid ((md 255).out = o) := ⟨_, rfl⟩
          rw [hm.out] at hsl f1 f2 f3 hlast
          rw [hoo.out] at hlast
          have hL := limit_facts f1 (f2.trans hk6) hlast
          have L1 : m.decE ⟨#[97]⟩ = 73 := hL.1
          have L2 : m.decV ⟨#[97]⟩ = 0 := hL.2.1
          have L3 : m.declared ⟨#[97]⟩ 1 = m := hL.2.2.1 1
          have L4 : m.closes = true := hL.2.2.2.1
          have L5 : m.closed.decE ⟨#[97]⟩ = 70 := hL.2.2.2.2.1
          have L6 : m.closed.decV ⟨#[97]⟩ = 0 := hL.2.2.2.2.2.1
          have L7 : m.closed.declared ⟨#[97]⟩ 1 = m.closed := hL.2.2.2.2.2.2.1 1
          have L8 : m.closed.findV ⟨#[97]⟩ = .tuple #[.int .i64 255, .int .i64 255, .bool true] := hL.2.2.2.2.2.2.2.1
          have L9 : m.closed.types.length = 256 := hL.2.2.2.2.2.2.2.2
          have hout : m.out.length ≤ 100000 := by omega
          have hout2 : m.closed.out.length ≤ 100000 := by
            rw [closed_parts hlast]
            have := congrArg List.length hlast
            simp at this
            show o.length ≤ 100000
            omega
          have hA := slDecl hsl hout ⟨#[97]⟩ 1
          rw [L2, L1, L3] at hA
          have hK1 : Hid _ := L1
          have hK2 : Hid _ := L2
          have hK3 : Hid _ := L3
          have hK4 : Hid _ := L4
          have hK5 : Hid _ := L5
          have hK6 : Hid _ := L6
          have hK7 : Hid _ := L7
          have hK8 : Hid _ := L8
          have hK9 : Hid _ := L9
          clear hsl hL L1 L2 L3 L4 L5 L6 L7 L8 L9 hlast f1 f2 f3
          subst hk6
          go_wp2_with (first
            | (go_at_call 16; refine hA.mono ?_; clear hA; rintro e w5 ⟨rfl, h5⟩; have hA2 := slDecl h5 hout ⟨#[97]⟩ 1; rw [hK2.out, hK1.out, hK3.out] at hA2; clear h5)
            | (go_at_call 16; refine hA2.mono ?_; clear hA2; rintro e w6 ⟨rfl, h6⟩; have hC := slClose h6 hout; rw [hK4.out] at hC; clear h6)
            | (go_at_call 21; refine hC.mono ?_; clear hC; rintro e w7 ⟨rfl, h7⟩; have hD := slDecl h7 hout2 ⟨#[97]⟩ 1; rw [hK6.out, hK5.out, hK7.out] at hD; clear h7)
            | (go_at_call 16; refine hD.mono ?_; clear hD; rintro e w8 ⟨rfl, h8⟩; have hF := slFind h8 ⟨#[97]⟩; rw [hK8.out] at hF; clear h8)
            | (go_at_call 19; refine hF.mono ?_; clear hF; rintro e w9 ⟨rfl, h9⟩; have hS := slSlots h9; rw [hK9.out] at hS; clear h9)
            | (go_at_call 23; refine hS.mono ?_; clear hS; rintro e w10 ⟨ao2, cap2, rfl, _, _, h10, _⟩; have hwk := works_as w10; have HB10 : Hid _ := h10.bel; clear h10)
            | (go_at_call 15; refine hwk.mono ?_; clear hwk; rintro e w11 ⟨rfl, hB11⟩))
          go_ret
          refine ⟨rfl, ?_⟩
          have T0 := HB.out.size
          have T1 := HB.out.trans (B3.out.mono T0)
          have T2 := T1.size
          have T3 := HB10.out
          rw [← hp.out] at T3
          have T4 := T1.trans (T3.mono T2)
          exact T4.trans (hB11.mono T4.size)
end Go.Proofs.Ytnnajgbkpilaaaa
