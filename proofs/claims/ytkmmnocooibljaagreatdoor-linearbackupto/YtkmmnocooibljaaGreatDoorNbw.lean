/-
  LINEARBACK: THE LAW IS WALKED.
-/
import Derived.Test.YtkmmnocooibljaaGreatDoorNli
import Derived.Test.YtkmmnocooibljaaGreatDoorJna
namespace Go.Proofs.YtkmmnocooibljaaGreatDoor
open Go.RowKit Go.Maps
set_option linter.unusedVariables false
set_option linter.unusedSimpArgs false

theorem codeA_zero {ys : List (Int × In)} (h : (codeA ys).2 = 0) : ∃ st, layoutL ys = .inr st ∧ ¬ 65536 < st.2 := by
  unfold codeA at h
  cases hl : layoutL ys with
  | inl er =>
    rw [hl] at h
    have := layoutL_er hl
    simp only at h
    omega
  | inr st =>
    rw [hl] at h
    simp only at h
    refine ⟨st, rfl, fun hb => ?_⟩
    rw [if_pos hb] at h
    cases h
theorem lies_rw {w : World} {ao : Option Addr} {L cp : Nat} {xs : List Nat} (hL : xs.length = L) (h : Rw w 5 1 (.slice ao L cp) L (nums xs)) (hb : ∀ c ∈ xs, c < 256) (hm : xs.length ≤ 9223372036854775807) : Lies w ao xs := by
  subst hL
  by_cases h0 : xs = []
  · exact ⟨hb, hm, .inl h0⟩
  · obtain ⟨g, cap, cur, e, -⟩ := h.block (List.length_pos_iff.2 h0)
    cases e
    exact lies_row rfl h hb hm
set_option maxHeartbeats 16000000 in
set_option maxRecDepth 100000 in
theorem back_walk (W : World) (aa : Option Addr) (ca : Nat) (xs : List LnP) (hxs : LnsIn W aa xs) (hno : ∀ y ∈ xs, y.ao = none → y.cp = 0) (hm : xs.length ≤ 150000) (hA : ∀ y ∈ xs, y.x.arms.length ≤ 350000) (ab : Option Addr) (cb : Nat) (xb : List Nat) (hb : Lies W ab xb) (hN : NmAt W) :
    Calls Tryz.prog 6 #[.slice aa xs.length ca, .slice ab xb.length cb] W fun e w' => e = .returned (.bool true) ∧ Below W.heap.size W w' := by
  have HWORKS : Hid (∀ w, Below W.heap.size W w → Calls Tryz.prog 22 #[] w fun e w' => e = .returned (.bool true) ∧ Below w.heap.size w w') := fun w h => lworks_any (hN.below hN.lt h)
  have HFA : Hid (∀ w, Below W.heap.size W w → Calls Tryz.prog 9 #[.slice aa xs.length ca] w fun e w' => ∃ b : Bool, e = .returned (.bool b) ∧ Below w.heap.size w w') := fun w h => few_as rfl (hxs.below h)
  have HC1 : Hid (∀ w, Below W.heap.size W w → Calls Tryz.prog 13 #[.slice aa xs.length ca] w (CodR w (codeA (xs.map LnP.l)))) := fun w h => lnCode_as rfl (hxs.below h) hno (by omega) (fun y hy => by have := hA y hy; omega)
  have HN1 : Hid (∀ w, Below W.heap.size W w → Calls Tryz.prog 11 #[.slice aa xs.length ca] w (NrmR w (normL (xs.map LnP.l)))) := fun w h => lnNormal_as rfl (hxs.below h) hno hm hA
  have HOP : Hid (∀ y ∈ xs.map LnP.l, y.2.op < 256) := fun y hy => by obtain ⟨X, hX, rfl⟩ := List.mem_map.1 hy; exact (hxs.each X hX).ins.op
  have hbig0 := hb.2.1
  have HBB : Hid ((∀ c ∈ xb, c < 256) ∧ xb.length ≤ 9223372036854775807 ∧ Lies W ab xb) := ⟨hb.1, hb.2.1, hb⟩
  have HLX0 : Hid (xb.length ≤ 2000 → ∀ w, Below W.heap.size W w → Calls Tryz.prog 24 #[.slice ab xb.length cb] w (NrmR w (linesA xb))) := fun h w q => lnLines_as (hb.below q) rfl (by omega)
  have HMN0 : Hid (xb.length ≤ 2000 → (∀ z ∈ (linesA xb).1, N64 z.1 ∧ Num z.2 ∧ z.2.arms.length ≤ 350000) ∧ (linesA xb).1.length ≤ 4001) := fun h => ⟨linesA_num hb.1, by have := linesA_len xb; omega⟩
  have HBC : Hid ((linesA xb).2 = 0 → codeA (linesA xb).1 = (xb, 0) ∧ ∃ st, layoutL (linesA xb).1 = .inr st) := fun h => back_code hb.1 (Prod.ext rfl h)
  obtain ⟨n, hn⟩ : ∃ n, xs.length = n := ⟨_, rfl⟩
  obtain ⟨L, hL⟩ : ∃ L, xb.length = L := ⟨_, rfl⟩
  have HLB : Hid (xb.length = L) := hL
  rw [hn] at HFA HC1 HN1 ⊢
  rw [hL] at HLX0 HMN0 hbig0 ⊢
  clear hxs hno hm hA hb hN hn hL
  go_enter Tryz.func6, Tryz.ntmps6
  go_wp2_with fail
  refine Calls.mono (HFA.out W (Below.refl _ _)) ?_
  rintro e w1 ⟨bf, rfl, b1⟩
  have HB1 : Hid (Below W.heap.size W w1) := b1
  clear b1 HFA
  cases bf with
  | false =>
    clear HWORKS HC1 HN1 HOP HBB HLX0 HMN0 HBC HLB
    go_wp2
    go_ret
    exact ⟨rfl, HB1.out⟩
  | true =>
    by_cases hbg : (2000 : Int) < (L : Int)
    · clear HWORKS HC1 HN1 HOP HBB HLX0 HMN0 HBC HLB
      go_wp2
      go_ret
      exact ⟨rfl, HB1.out⟩
    · have HLX : Hid (∀ w, Below W.heap.size W w → Calls Tryz.prog 24 #[.slice ab L cb] w (NrmR w (linesA xb))) := HLX0.out (by omega)
      have HML : Hid ((linesA xb).1.length ≤ 4001) := (HMN0.out (by omega)).2
      have HMN : Hid ((∀ z ∈ (linesA xb).1, N64 z.1 ∧ Num z.2 ∧ z.2.arms.length ≤ 350000) ∧ (linesA xb).1.length ≤ 1000000) := ⟨(HMN0.out (by omega)).1, by have := HML.out; omega⟩
      clear HLX0 HMN0
      by_cases hCE : (codeA (xs.map LnP.l)).2 = 0
      · obtain ⟨st, hst, hsb⟩ := codeA_zero hCE
        obtain ⟨hcs, hcl⟩ := codeA_small hst HOP.out
        obtain ⟨NB, n1, n2, n3, n4⟩ := back_lines hst hsb
        have hnb := linesA_num hcs
        have hnl := linesA_len (codeA (xs.map LnP.l)).1
        rw [n2] at hnb hnl
        simp only at hnb hnl
        rw [n1] at HN1
        have hca : codeA (xs.map LnP.l) = ((codeA (xs.map LnP.l)).1, 0) := Prod.ext rfl hCE
        rw [hca] at HC1
        generalize (codeA (xs.map LnP.l)).1 = CB at *
        have HCS : Hid ((∀ c ∈ CB, c < 256) ∧ CB.length ≤ 65536) := ⟨hcs, hcl⟩
        have HNB : Hid ((∀ z ∈ NB, N64 z.1 ∧ Num z.2 ∧ z.2.arms.length ≤ 350000) ∧ NB.length ≤ 1000000) := ⟨hnb, by omega⟩
        have HNL : Hid (NB.length ≤ 131073) := by unfold Hid; omega
        have HEQ : Hid (linesA CB = (NB, 0) ∧ normL NB = (NB, 0) ∧ codeA NB = (CB, 0)) := ⟨n2, n3, n4⟩
        obtain ⟨LC, hLC⟩ : ∃ LC, CB.length = LC := ⟨_, rfl⟩
        obtain ⟨LN, hLN⟩ : ∃ LN, NB.length = LN := ⟨_, rfl⟩
        have HLC : Hid (CB.length = LC) := hLC
        have HLN : Hid (NB.length = LN) := hLN
        clear hst hsb hcs hcl n1 n2 n3 n4 hnb hnl hCE hca hLC hLN HOP
        go_wp2_with (first | (refine Calls.mono (HC1.out w1 HB1.out) ?_) | fail)
        intro e w2 hr
        obtain ⟨a1, c1, rfl, r1, q1⟩ := codr_sh hr
        simp only at r1 ⊢
        rw [HLC.out] at r1 ⊢
        have HB2 : Hid (Below W.heap.size W w2) := HB1.out.trans (q1.mono HB1.out.size)
        have HR2 : Hid (Rw w2 5 1 (.slice a1 LC c1) LC (nums CB)) := r1
        clear hr r1 q1 HC1 HB1
        go_wp2_with (first | (refine Calls.mono (HN1.out w2 HB2.out) ?_) | fail)
        intro e w3 hr
        obtain ⟨a3, c3, xs3, rfl, l3, i3, e3, no3, ar3, q3⟩ := nrm_in2 hr HNB.out.1 HNB.out.2
        simp only at l3 e3 ⊢
        rw [HLN.out] at l3 ⊢
        have HB3 : Hid (Below W.heap.size W w3) := HB2.out.trans (q3.mono HB2.out.size)
        have HR3 : Hid (Rw w3 5 1 (.slice a1 LC c1) LC (nums CB)) := HR2.out.belowR q3
        have HX3 : Hid (LnsIn w3 a3 xs3 ∧ xs3.map LnP.l = NB ∧ xs3.length = LN ∧ (∀ y ∈ xs3, y.ao = none → y.cp = 0) ∧ ∀ y ∈ xs3, y.x.arms.length ≤ 350000) := ⟨i3, e3, l3, no3, ar3⟩
        clear hr l3 i3 e3 no3 ar3 q3 HN1 HB2 HR2
        have HLL : Hid (Calls Tryz.prog 24 #[.slice a1 LC c1] w3 (NrmR w3 (NB, 0))) := by
          have := lnLines_as (cap := c1) (lies_rw HLC.out HR3.out HCS.out.1 (Nat.le_trans HCS.out.2 (by omega))) HLC.out.symm (by rw [← HLC.out]; exact Nat.le_trans HCS.out.2 (by omega))
          rw [HEQ.out.1] at this
          exact this
        go_wp2_with (first | (refine Calls.mono HLL.out ?_) | fail)
        intro e w4 hr
        obtain ⟨a4, c4, xs4, rfl, l4, i4, e4, -, -, q4⟩ := nrm_in2 hr HNB.out.1 HNB.out.2
        simp only at l4 e4 ⊢
        rw [HLN.out] at l4 ⊢
        have HB4 : Hid (Below W.heap.size W w4) := HB3.out.trans (q4.mono HB3.out.size)
        have HR4 : Hid (Rw w4 5 1 (.slice a1 LC c1) LC (nums CB)) := HR3.out.belowR q4
        have HX4 : Hid (LnsIn w4 a3 xs3 ∧ LnsIn w4 a4 xs4 ∧ xs4.map LnP.l = NB ∧ xs4.length = LN) := ⟨HX3.out.1.below q4, i4, e4, l4⟩
        clear hr l4 i4 e4 q4 HLL HB3 HR3
        have HNN : Hid (Calls Tryz.prog 11 #[.slice a3 LN c3] w4 (NrmR w4 (NB, 0))) := by
          have := lnNormal_as (c := c3) HX3.out.2.2.1.symm HX4.out.1 HX3.out.2.2.2.1 (by rw [← HLN.out]; exact Nat.le_trans HNL.out (by omega)) HX3.out.2.2.2.2
          rw [HX3.out.2.1, HEQ.out.2.1] at this
          exact this
        go_wp2_with (first | (refine Calls.mono HNN.out ?_) | fail)
        intro e w5 hr
        obtain ⟨a5, c5, xs5, rfl, l5, i5, e5, -, -, q5⟩ := nrm_in2 hr HNB.out.1 HNB.out.2
        simp only at l5 e5 ⊢
        rw [HLN.out] at l5 ⊢
        have HB5 : Hid (Below W.heap.size W w5) := HB4.out.trans (q5.mono HB4.out.size)
        have HR5 : Hid (Rw w5 5 1 (.slice a1 LC c1) LC (nums CB)) := HR4.out.belowR q5
        have HX5 : Hid (LnsIn w5 a3 xs3 ∧ LnsIn w5 a4 xs4 ∧ LnsIn w5 a5 xs5 ∧ xs5.map LnP.l = NB ∧ xs5.length = LN) := ⟨HX4.out.1.below q5, HX4.out.2.1.below q5, i5, e5, l5⟩
        clear hr l5 i5 e5 q5 HNN HB4 HR4
        have HCC : Hid (Calls Tryz.prog 13 #[.slice a3 LN c3] w5 (CodR w5 (CB, 0))) := by
          have := lnCode_as (c := c3) HX3.out.2.2.1.symm HX5.out.1 HX3.out.2.2.2.1 (by rw [← HLN.out]; exact Nat.le_trans HNL.out (by omega)) (fun y hy => by have := HX3.out.2.2.2.2 y hy; omega)
          rw [HX3.out.2.1, HEQ.out.2.2] at this
          exact this
        go_wp2_with (first | (refine Calls.mono HCC.out ?_) | fail)
        intro e w6 hr
        obtain ⟨a6, c6, rfl, r6, q6⟩ := codr_sh hr
        simp only at r6 ⊢
        rw [HLC.out] at r6 ⊢
        have HB6 : Hid (Below W.heap.size W w6) := HB5.out.trans (q6.mono HB5.out.size)
        have HSA : Hid (∀ w, Below w6.heap.size w6 w → Calls Tryz.prog 34 #[.slice a3 LN c3, .slice a4 LN c4] w fun e w' => e = .returned (.bool true) ∧ Below w.heap.size w w') := fun w q => lnSame_as HX3.out.2.2.1.symm HX4.out.2.2.2.symm ((HX5.out.1.below q6).below q) ((HX5.out.2.1.below q6).below q) true (by rw [HX3.out.2.1, HX4.out.2.2.1]; simp)
        have HSB : Hid (∀ w, Below w6.heap.size w6 w → Calls Tryz.prog 34 #[.slice a3 LN c3, .slice a5 LN c5] w fun e w' => e = .returned (.bool true) ∧ Below w.heap.size w w') := fun w q => lnSame_as HX3.out.2.2.1.symm HX5.out.2.2.2.2.symm ((HX5.out.1.below q6).below q) ((HX5.out.2.2.1.below q6).below q) true (by rw [HX3.out.2.1, HX5.out.2.2.2.1]; simp)
        have HCV : Hid (∀ w, Below w6.heap.size w6 w → (convert 30 9 (.slice a1 LC c1)).run Tryz.prog w = .ok (.string (strN CB)) w ∧ (convert 30 9 (.slice a6 LC c6)).run Tryz.prog w = .ok (.string (strN CB)) w) := fun w q => ⟨conv_rw HLC.out ((HR5.out.belowR q6).belowR q) HCS.out.1 (Nat.le_trans HCS.out.2 (by omega)), conv_rw HLC.out (r6.belowR q) HCS.out.1 (Nat.le_trans HCS.out.2 (by omega))⟩
        clear hr r6 q6 HCC HB5 HR5 HX3 HX4 HX5 HCS HNB HNL HEQ HLC HLN
        generalize strN CB = SC at *
        go_wp2_with (first | (refine Calls.mono (HSA.out w6 (Below.refl _ _)) ?_) | fail)
        rintro e w7 ⟨rfl, b7⟩
        have HR7 : Hid (Below w6.heap.size w6 w7) := b7
        clear b7 HSA
        go_wp2_with (first | (refine Calls.mono (HSB.out w7 HR7.out) ?_) | fail)
        rintro e w8 ⟨rfl, b8⟩
        have HR8 : Hid (Below w6.heap.size w6 w8) := HR7.out.trans (b8.mono HR7.out.size)
        have HB8 : Hid (Below W.heap.size W w8) := HB6.out.trans (HR8.out.mono HB6.out.size)
        obtain ⟨cv1, cv2⟩ := HCV.out w8 HR8.out
        clear b8 HSB HR7 HR8 HCV HB6
        have HLC := HLX.out w8 HB8.out
        clear HLX
        go_wp2_with (first | (refine Calls.mono HLC ?_) | fail)
        intro e v1 hr
        obtain ⟨a7, c7, xs7, rfl, l7, i7, e7, no7, ar7, q7⟩ := nrm_in2 hr HMN.out.1 HMN.out.2
        have HV1 : Hid (Below W.heap.size W v1) := HB8.out.trans (q7.mono HB8.out.size)
        clear hr q7 HLC HB8
        by_cases hME : (linesA xb).2 = 0
        · obtain ⟨k1, st7, k2⟩ := HBC.out hME
          have HI7 : Hid (LnsIn v1 a7 xs7) := i7
          have hl7 : (linesA xb).1.length ≤ 4001 := HML.out
          have HCD : Hid (∀ w, Below v1.heap.size v1 w → Calls Tryz.prog 13 #[.slice a7 (linesA xb).1.length c7] w (CodR w (xb, 0))) := fun w q => by
            have := lnCode_as (c := c7) l7.symm (i7.below q) no7 (by omega) (fun y hy => by have := ar7 y hy; omega)
            rw [e7, k1] at this
            exact this
          have HCK : Hid (∀ w, Below v1.heap.size v1 w → Calls Tryz.prog 17 #[.slice a7 (linesA xb).1.length c7] w fun e w' => e = .returned (.int .i64 0) ∧ Below w.heap.size w w') := fun w q => by
            have := lnCheck_as (c := c7) l7.symm (i7.below q) (by omega) (fun y hy => by have := ar7 y hy; omega)
            rw [e7, k2] at this
            exact this
          rw [hME]
          clear hME k1 k2 l7 i7 e7 no7 ar7 HI7 HBC HMN HML hl7
          generalize (linesA xb).1.length = LM at *
          go_wp2_with (first | (refine Calls.mono (HCD.out v1 (Below.refl _ _)) ?_) | fail)
          intro e v2 hr
          obtain ⟨a8, c8, rfl, r8, q8⟩ := codr_sh hr
          simp only at r8 ⊢
          rw [HLB.out] at r8 ⊢
          have HV2 : Hid (Below W.heap.size W v2) := HV1.out.trans (q8.mono HV1.out.size)
          have cv8 := conv_rw HLB.out r8 HBB.out.1 HBB.out.2.1
          have cv9 : (convert 30 9 (.slice ab L cb)).run Tryz.prog v2 = .ok (.string (strN xb)) v2 := conv_any (HBB.out.2.2.below HV2.out) HLB.out.symm
          have HCK2 := HCK.out v2 q8
          clear hr r8 q8 HCD HCK HV1
          generalize strN xb = SB at *
          go_wp2_with (first | (refine Calls.mono HCK2 ?_) | fail)
          rintro e v3 ⟨rfl, b3⟩
          have HV3 : Hid (Below W.heap.size W v3) := HV2.out.trans (b3.mono HV2.out.size)
          clear b3 HV2 cv8 cv9 HCK2
          go_wp2_with (first | (refine Calls.mono (HWORKS.out v3 HV3.out) ?_) | fail)
          rintro e v4 ⟨rfl, b4⟩
          have HV4 : Hid (Below W.heap.size W v4) := HV3.out.trans (b4.mono HV3.out.size)
          clear b4 HWORKS HV3
          go_wp2
          go_ret
          exact ⟨rfl, HV4.out⟩
        · have hr1 : (((linesA xb).2 : Int) == 0) = false := by rw [beq_eq_false_iff_ne]; omega
          have hr2 : (((linesA xb).2 : Int) != 0) = true := by simp [bne, hr1]
          clear l7 i7 e7 no7 ar7 HBC HMN HML hME
          generalize (linesA xb).1.length = LM at *
          generalize ((linesA xb).2 : Int) = ME at *
          go_wp2_with (first | (refine Calls.mono (HWORKS.out v1 HV1.out) ?_) | fail)
          rintro e v4 ⟨rfl, b4⟩
          have HV4 : Hid (Below W.heap.size W v4) := HV1.out.trans (b4.mono HV1.out.size)
          clear b4 HWORKS HV1
          go_wp2
          go_ret
          exact ⟨rfl, HV4.out⟩
      · have hr1 : (((codeA (xs.map LnP.l)).2 : Int) == 0) = false := by rw [beq_eq_false_iff_ne]; omega
        have hr2 : (((codeA (xs.map LnP.l)).2 : Int) != 0) = true := by simp [bne, hr1]
        clear hCE HN1 HOP
        generalize codeA (xs.map LnP.l) = CA at *
        obtain ⟨CB, CE⟩ := CA
        simp only at hr1 hr2
        go_wp2_with (first | (refine Calls.mono (HC1.out w1 HB1.out) ?_) | fail)
        intro e w2 hr
        obtain ⟨a1, c1, rfl, r1, q1⟩ := codr_sh hr
        simp only at r1 ⊢
        have HB2 : Hid (Below W.heap.size W w2) := HB1.out.trans (q1.mono HB1.out.size)
        clear hr r1 q1 HC1 HB1
        generalize CB.length = LC at *
        have HLC := HLX.out w2 HB2.out
        clear HLX
        go_wp2_with (first | (refine Calls.mono HLC ?_) | fail)
        intro e v1 hr
        obtain ⟨a7, c7, xs7, rfl, l7, i7, e7, no7, ar7, q7⟩ := nrm_in2 hr HMN.out.1 HMN.out.2
        have HV1 : Hid (Below W.heap.size W v1) := HB2.out.trans (q7.mono HB2.out.size)
        clear hr q7 HLC HB2
        by_cases hME : (linesA xb).2 = 0
        · obtain ⟨k1, st7, k2⟩ := HBC.out hME
          have HI7 : Hid (LnsIn v1 a7 xs7) := i7
          have hl7 : (linesA xb).1.length ≤ 4001 := HML.out
          have HCD : Hid (∀ w, Below v1.heap.size v1 w → Calls Tryz.prog 13 #[.slice a7 (linesA xb).1.length c7] w (CodR w (xb, 0))) := fun w q => by
            have := lnCode_as (c := c7) l7.symm (i7.below q) no7 (by omega) (fun y hy => by have := ar7 y hy; omega)
            rw [e7, k1] at this
            exact this
          have HCK : Hid (∀ w, Below v1.heap.size v1 w → Calls Tryz.prog 17 #[.slice a7 (linesA xb).1.length c7] w fun e w' => e = .returned (.int .i64 0) ∧ Below w.heap.size w w') := fun w q => by
            have := lnCheck_as (c := c7) l7.symm (i7.below q) (by omega) (fun y hy => by have := ar7 y hy; omega)
            rw [e7, k2] at this
            exact this
          rw [hME]
          clear hME k1 k2 l7 i7 e7 no7 ar7 HI7 HBC HMN HML hl7
          generalize (linesA xb).1.length = LM at *
          go_wp2_with (first | (refine Calls.mono (HCD.out v1 (Below.refl _ _)) ?_) | fail)
          intro e v2 hr
          obtain ⟨a8, c8, rfl, r8, q8⟩ := codr_sh hr
          simp only at r8 ⊢
          rw [HLB.out] at r8 ⊢
          have HV2 : Hid (Below W.heap.size W v2) := HV1.out.trans (q8.mono HV1.out.size)
          have cv8 := conv_rw HLB.out r8 HBB.out.1 HBB.out.2.1
          have cv9 : (convert 30 9 (.slice ab L cb)).run Tryz.prog v2 = .ok (.string (strN xb)) v2 := conv_any (HBB.out.2.2.below HV2.out) HLB.out.symm
          have HCK2 := HCK.out v2 q8
          clear hr r8 q8 HCD HCK HV1
          generalize strN xb = SB at *
          go_wp2_with (first | (refine Calls.mono HCK2 ?_) | fail)
          rintro e v3 ⟨rfl, b3⟩
          have HV3 : Hid (Below W.heap.size W v3) := HV2.out.trans (b3.mono HV2.out.size)
          clear b3 HV2 cv8 cv9 HCK2
          go_wp2_with (first | (refine Calls.mono (HWORKS.out v3 HV3.out) ?_) | fail)
          rintro e v4 ⟨rfl, b4⟩
          have HV4 : Hid (Below W.heap.size W v4) := HV3.out.trans (b4.mono HV3.out.size)
          clear b4 HWORKS HV3
          go_wp2
          go_ret
          exact ⟨rfl, HV4.out⟩
        · have hr1 : (((linesA xb).2 : Int) == 0) = false := by rw [beq_eq_false_iff_ne]; omega
          have hr2 : (((linesA xb).2 : Int) != 0) = true := by simp [bne, hr1]
          clear l7 i7 e7 no7 ar7 HBC HMN HML hME
          generalize (linesA xb).1.length = LM at *
          generalize ((linesA xb).2 : Int) = ME at *
          go_wp2_with (first | (refine Calls.mono (HWORKS.out v1 HV1.out) ?_) | fail)
          rintro e v4 ⟨rfl, b4⟩
          have HV4 : Hid (Below W.heap.size W v4) := HV1.out.trans (b4.mono HV1.out.size)
          clear b4 HWORKS HV1
          go_wp2
          go_ret
          exact ⟨rfl, HV4.out⟩
end Go.Proofs.YtkmmnocooibljaaGreatDoor
