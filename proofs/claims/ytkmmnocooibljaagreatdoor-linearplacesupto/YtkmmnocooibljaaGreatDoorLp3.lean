/-
  LINEARPLACES: THE LAW IS WALKED.
-/
import Derived.Test.YtkmmnocooibljaaGreatDoorLp2
import Derived.Test.YtkmmnocooibljaaGreatDoorLwk
import Derived.Test.YtkmmnocooibljaaGreatDoorNc
namespace Go.Proofs.YtkmmnocooibljaaGreatDoor
open Go.RowKit Go.Maps
set_option linter.unusedVariables false
set_option linter.unusedSimpArgs false

theorem codr_shape {w : World} {r : List Nat × Nat} {e : Ending} {w' : World} (h : CodR w r e w') : ∃ ao cp, e = .returned (.tuple #[.slice ao r.1.length cp, .int .i64 (r.2 : Int)]) ∧ Rw w' 5 1 (.slice ao r.1.length cp) r.1.length (nums r.1) ∧ (∀ b, (Value.slice ao r.1.length cp).ownBlock = some b → w.heap.size ≤ b) ∧ Below w.heap.size w w' := by
  obtain ⟨v, rfl, h1, h2, h3⟩ := h
  obtain ⟨ao, cp, rfl, -⟩ := h1.shape
  exact ⟨ao, cp, rfl, h1, h2, h3⟩
theorem tgs_len2 (x : In) : (tgs x).length ≤ x.arms.length + 1 := by
  unfold tgs
  split
  · simp
  · split
    · simp
    · simp
theorem lies_any {w : World} {ao : Option Addr} {cp : Nat} {xs : List Nat} (h : Rw w 5 1 (.slice ao xs.length cp) xs.length (nums xs)) (hb : ∀ c ∈ xs, c < 256) (hm : xs.length ≤ 9223372036854775807) : Lies w ao xs := by
  by_cases h0 : xs = []
  · exact ⟨hb, hm, .inl h0⟩
  · obtain ⟨g, cap, cur, e, -⟩ := h.block (List.length_pos_iff.2 h0)
    cases e
    exact lies_row rfl h hb hm
theorem lsz_quiet {W wr : World} {aa : Option Addr} {n ca : Nat} {xs : List LnP} (HLS : ∀ w t, Below W.heap.size W w → Calls Tryz.prog 38 #[.slice aa n ca, .int .i64 t] w fun e w' => e = .returned (.int .i64 (sizeTo (xs.map LnP.l) t : Int)) ∧ Below w.heap.size w w') (hb : Below W.heap.size W wr) (TJ SV : Int) (hSV : ((sizeTo (xs.map LnP.l) TJ : Nat) : Int) = SV) (z : After wr) : Calls Tryz.prog 38 #[.slice aa n ca, .int .i64 TJ] z.1 fun e w'' => e = .returned (.int .i64 SV) ∧ ∃ t' : After wr, w'' = t'.1 := by
  have h1 := HLS z.1 TJ (hb.trans (z.2.mono hb.size))
  rw [hSV] at h1
  exact quiet_new z h1
set_option maxHeartbeats 16000000 in
set_option maxRecDepth 100000 in
theorem places_walk (W : World) (aa : Option Addr) (ca : Nat) (xs : List LnP) (hxs : LnsIn W aa xs) (hno : ∀ y ∈ xs, y.ao = none → y.cp = 0) (hm : xs.length ≤ 300000) (hA : ∀ y ∈ xs, y.x.arms.length ≤ 600000) (hN : NmAt W) :
    Calls Tryz.prog 8 #[.slice aa xs.length ca] W fun e w' => e = .returned (.bool true) ∧ Below W.heap.size W w' := by
  have HWORKS : Hid (∀ w, Below W.heap.size W w → Calls Tryz.prog 22 #[] w fun e w' => e = .returned (.bool true) ∧ Below w.heap.size w w') := fun w h => lworks_any (hN.below hN.lt h)
  have HFA : Hid (∀ w, Below W.heap.size W w → Calls Tryz.prog 9 #[.slice aa xs.length ca] w fun e w' => ∃ b : Bool, e = .returned (.bool b) ∧ Below w.heap.size w w') := fun w h => few_as rfl (hxs.below h)
  have HCO : Hid (∀ w, Below W.heap.size W w → Calls Tryz.prog 13 #[.slice aa xs.length ca] w (CodR w (codeA (xs.map LnP.l)))) := fun w h => lnCode_as rfl (hxs.below h) hno (by omega) (fun y hy => by have := hA y hy; omega)
  have HCK : Hid (∀ w, Below W.heap.size W w → Calls Tryz.prog 17 #[.slice aa xs.length ca] w fun e w' => e = .returned (.int .i64 (match layoutL (xs.map LnP.l) with | .inl er => (er : Int) | .inr _ => 0)) ∧ Below w.heap.size w w') := fun w h => lnCheck_as rfl (hxs.below h) (by omega) (fun y hy => by have := hA y hy; omega)
  obtain ⟨n, hn⟩ : ∃ n, xs.length = n := ⟨_, rfl⟩
  cases hl : layoutL (xs.map LnP.l) with
  | inl er =>
    have her := layoutL_er hl
    have hr1 : ((er : Int) == 0) = false := by rw [beq_eq_false_iff_ne]; omega
    have hr2 : ((er : Int) != 0) = true := by simp [bne, hr1]
    have hca : codeA (xs.map LnP.l) = ([], er) := by unfold codeA; rw [hl]
    rw [hca] at HCO
    rw [hl] at HCK
    simp only at HCK
    rw [hn] at HFA HCO HCK ⊢
    clear hxs hno hm hA hN hl hca hn
    go_enter Tryz.func8, Tryz.ntmps8
    go_wp2_with fail
    refine Calls.mono (HFA.out W (Below.refl _ _)) ?_
    rintro e w1 ⟨bf, rfl, b1⟩
    have HB1 : Hid (Below W.heap.size W w1) := b1
    clear b1 HFA
    cases bf with
    | false =>
      clear HWORKS HCO HCK
      go_wp2
      go_ret
      exact ⟨rfl, HB1.out⟩
    | true =>
      go_wp2_with fail
      refine Calls.mono (HCO.out w1 HB1.out) ?_
      intro e w2 hr
      obtain ⟨ao, cp, rfl, h1, h2, h3⟩ := codr_shape hr
      have HB2 : Hid (Below W.heap.size W w2) := HB1.out.trans (h3.mono HB1.out.size)
      clear hr h1 h2 h3 HCO HB1
      simp only [List.length_nil]
      go_wp2_with (first | (refine Calls.mono (HCK.out w2 HB2.out) ?_) | fail)
      rintro e w3 ⟨rfl, b3⟩
      have HB3 : Hid (Below W.heap.size W w3) := HB2.out.trans (b3.mono HB2.out.size)
      clear b3 HCK HB2
      go_wp2_with fail
      refine Calls.mono (HWORKS.out w3 HB3.out) ?_
      rintro e w4 ⟨rfl, b4⟩
      have HB4 : Hid (Below W.heap.size W w4) := HB3.out.trans (b4.mono HB3.out.size)
      clear b4 HWORKS HB3
      go_wp2
      go_ret
      exact ⟨rfl, HB4.out⟩
  | inr st =>
    by_cases hbig : 65536 < st.2
    · have hca : codeA (xs.map LnP.l) = ([], 3) := by unfold codeA; rw [hl]; simp only; rw [if_pos hbig]
      rw [hca] at HCO
      rw [hl] at HCK
      simp only at HCK
      rw [hn] at HFA HCO HCK ⊢
      clear hxs hno hm hA hN hl hca hn hbig
      go_enter Tryz.func8, Tryz.ntmps8
      go_wp2_with fail
      refine Calls.mono (HFA.out W (Below.refl _ _)) ?_
      rintro e w1 ⟨bf, rfl, b1⟩
      have HB1 : Hid (Below W.heap.size W w1) := b1
      clear b1 HFA
      cases bf with
      | false =>
        clear HWORKS HCO HCK
        go_wp2
        go_ret
        exact ⟨rfl, HB1.out⟩
      | true =>
        go_wp2_with fail
        refine Calls.mono (HCO.out w1 HB1.out) ?_
        intro e w2 hr
        obtain ⟨ao, cp, rfl, h1, h2, h3⟩ := codr_shape hr
        have HB2 : Hid (Below W.heap.size W w2) := HB1.out.trans (h3.mono HB1.out.size)
        clear hr h1 h2 h3 HCO HB1
        simp only [List.length_nil]
        go_wp2_with (first | (refine Calls.mono (HCK.out w2 HB2.out) ?_) | fail)
        rintro e w3 ⟨rfl, b3⟩
        have HB3 : Hid (Below W.heap.size W w3) := HB2.out.trans (b3.mono HB2.out.size)
        clear b3 HCK HB2
        go_wp2_with fail
        refine Calls.mono (HWORKS.out w3 HB3.out) ?_
        rintro e w4 ⟨rfl, b4⟩
        have HB4 : Hid (Below W.heap.size W w4) := HB3.out.trans (b4.mono HB3.out.size)
        clear b4 HWORKS HB3
        go_wp2
        go_ret
        exact ⟨rfl, HB4.out⟩
    · have hsm : ¬ 65536 < st.2 := hbig
      obtain ⟨CD, hCD⟩ : ∃ CD, codeB (codeI (gOf st.1) (xs.map LnP.l)) = CD := ⟨_, rfl⟩
      have hca : codeA (xs.map LnP.l) = (CD, 0) := by unfold codeA; rw [hl]; simp only; rw [if_neg hbig, hCD]
      rw [hca] at HCO
      have hg := gOf_range hl hsm
      have hlenC : CD.length = sizeL (xs.map LnP.l) := by rw [← hCD]; exact code_len hl hsm
      have hsL : CD.length ≤ 65536 := by have := (layoutL_inr hl).1; omega
      have hbyte : ∀ c ∈ CD, c < 256 := by
        intro c hc
        rw [← hCD] at hc
        obtain ⟨l, hl1, hc⟩ := List.mem_flatten.1 hc
        obtain ⟨y, hy, rfl⟩ := List.mem_map.1 hl1
        obtain ⟨z, hz, rfl⟩ := codeI_mem hy
        obtain ⟨X, hX, rfl⟩ := List.mem_map.1 hz
        exact enc_byte _ (by rw [(atI_arms _ _).1]; exact (hxs.each X hX).ins.op) c hc
      have HXS : Hid (LnsIn W aa xs) := hxs
      have HA : Hid (∀ y ∈ xs, y.x.arms.length ≤ 600000) := hA
      have HLI : Hid (∀ w ao cp, Rw w 5 1 (.slice ao CD.length cp) CD.length (nums CD) → Lies w ao CD) := fun w ao cp h => lies_any h hbyte (by omega)
      have HDL : Hid (∀ k, k < xs.length → (xs.getD k zLn).x.op ≠ 0 → dec CD ((sizeL ((xs.take k).map LnP.l) : Nat) : Int) = (atI (gOf st.1) (xs.getD k zLn).x, sizeL ((xs.take k).map LnP.l) + (xs.getD k zLn).x.size, 0) ∧ tgs (atI (gOf st.1) (xs.getD k zLn).x) = (tgs (xs.getD k zLn).x).map fun t => (sizeTo (xs.map LnP.l) t : Int)) := fun k hk h0 => ⟨by rw [← hCD]; exact dec_line hl hsm hk h0, tgs_line hl hsm hk h0⟩
      have HNG : Hid (∀ X ∈ xs, Num (atI (gOf st.1) X.x) ∧ (atI (gOf st.1) X.x).op = X.x.op ∧ (atI (gOf st.1) X.x).arms.length = X.x.arms.length) := fun X hX => ⟨atI_num (num_of (hxs.each X hX).ins) (fun t => by have := hg t; unfold N64; omega), atI_arms _ _⟩
      have HLC : Hid (CD.length = sizeL (xs.map LnP.l)) := hlenC
      have HNN : Hid (xs.length = n) := hn
      have HN3 : Hid (n ≤ 300000) := by rw [← hn]; exact hm
      generalize gOf st.1 = g at *
      rw [hn] at HFA HCO ⊢
      clear hxs hno hm hA hN hl hca hn hbig hsm hg hlenC hbyte HCK hCD
      go_enter Tryz.func8, Tryz.ntmps8
      go_wp2_with fail
      refine Calls.mono (HFA.out W (Below.refl _ _)) ?_
      rintro e w1 ⟨bf, rfl, b1⟩
      have HB1 : Hid (Below W.heap.size W w1) := b1
      clear b1 HFA
      cases bf with
      | false =>
        clear HWORKS HCO
        go_wp2
        go_ret
        exact ⟨rfl, HB1.out⟩
      | true =>
        go_wp2_with fail
        refine Calls.mono (HCO.out w1 HB1.out) ?_
        intro e w2 hr
        obtain ⟨ao, cp, rfl, h1, h2, h3⟩ := codr_shape hr
        have HB2 : Hid (Below W.heap.size W w2) := HB1.out.trans (h3.mono HB1.out.size)
        have HLIE : Hid (Lies w2 ao CD) := HLI.out _ _ _ h1
        clear hr h1 h2 h3 HCO HB1 HLI
        obtain ⟨L, hL⟩ : ∃ L, CD.length = L := ⟨_, rfl⟩
        have HL : Hid (L = CD.length) := hL.symm
        simp only
        rw [hL] at hsL ⊢
        rw [hL] at HLC
        clear hL
        go_wp2_with fail
        go_loopg [5, 6] n (fun g0 at_ i wr => ∃ k : Nat, k + g0 = n ∧ i = .int .i64 (k : Int) ∧ at_ = .int .i64 (sizeL ((xs.take k).map LnP.l) : Int) ∧ Below w2.heap.size w2 wr)
        case atStart => exact ⟨0, by omega, rfl, rfl, Below.refl _ _⟩
        case round =>
          obtain ⟨k, hk, rfl, rfl, hbel⟩ := hrel
          have HBR : Hid (Below w2.heap.size w2 wr) := hbel
          clear hbel
          cases gk with
          | succ gq =>
            have hlt : k < n := by omega
            have HKQ : Hid (k + 1 + gq = n) := by unfold Hid; omega
            have hkx : k < xs.length := by rw [HNN.out]; exact hlt
            have HBW : Hid (Below W.heap.size W wr) := HB2.out.trans (HBR.out.mono HB2.out.size)
            obtain ⟨b1, o1, ha1, g1⟩ := (HXS.out.row.below HBW.out).at hkx
            have hX0 := HXS.out.each _ (getD_in (z := zLn) hkx)
            have hAX := HA.out _ (getD_in (z := zLn) hkx)
            have hDL := HDL.out k hkx
            obtain ⟨hNG, hop, hnar⟩ := HNG.out _ (getD_in (z := zLn) hkx)
            have HTK : Hid (sizeL ((xs.take (k + 1)).map LnP.l) = sizeL ((xs.take k).map LnP.l) + (if (xs.getD k zLn).x.op = 0 then 0 else (xs.getD k zLn).x.size)) := by rw [Hid, take_l hkx, sizeL_snoc]; rfl
            have HLS : Hid (∀ w t, Below W.heap.size W w → Calls Tryz.prog 38 #[.slice aa n ca, .int .i64 t] w fun e w' => e = .returned (.int .i64 (sizeTo (xs.map LnP.l) t : Int)) ∧ Below w.heap.size w w') := fun w t q => lawsize_as HNN.out.symm (HXS.out.below q) (by have := HN3.out; omega) (fun y hy => by have := HA.out y hy; omega) t
            unfold lnF at g1
            generalize xs.getD k zLn = X at *
            have HTXL : Hid ((tgs X.x).length ≤ 1000000) := Nat.le_trans (tgs_len2 X.x) (by omega)
            have HTG : Hid (∀ w, Below W.heap.size W w → Calls Tryz.prog 28 #[insV X.x (.slice X.ao X.x.arms.length X.cp)] w (TgR w (tgs X.x))) := fun w q => lnTargets_as (hX0.ins.below q) _ rfl (by omega)
            have HSZ : Hid (∀ w, Below W.heap.size W w → Calls Tryz.prog 37 #[insV X.x (.slice X.ao X.x.arms.length X.cp)] w fun e w' => e = .returned (.int .i64 (X.x.size : Int)) ∧ Below w.heap.size w w') := fun w q => size_as (cp := X.cp) (hX0.ins.below q) _ rfl (by omega)
            have HDC : Hid (X.x.op ≠ 0 → ∀ w, Below w2.heap.size w2 w → Calls Tryz.prog 36 #[.slice ao L cp, .int .i64 (sizeL ((xs.take k).map LnP.l) : Int)] w (DecRet w (atI g X.x, sizeL ((xs.take k).map LnP.l) + X.x.size, 0))) := fun h0 w q => by
              have := dec_as (cap := cp) (HLIE.out.below q) HL.out ((sizeL ((xs.take k).map LnP.l) : Nat) : Int)
              rw [(hDL h0).1] at this
              exact this
            have HT2 : Hid (X.x.op ≠ 0 → ∀ w v, Rw w 51 2 v (atI g X.x).arms.length (armC (atI g X.x).arms) → Calls Tryz.prog 28 #[insV (atI g X.x) v] w (TgR w ((tgs X.x).map fun t => (sizeTo (xs.map LnP.l) t : Int)))) := fun h0 w v q => by
              obtain ⟨a9, c9, rfl, q2⟩ := rw_armLies q hNG.arms
              rw [← (hDL h0).2]
              exact lnTargets_as ⟨hNG.op, hNG.a, hNG.b, q2⟩ _ rfl (by omega)
            have HSM : Hid (sizeL ((xs.take k).map LnP.l) ≤ 1000000000000 ∧ X.x.size ≤ 1000000) := ⟨by
              have h1 := sizeL_le ((xs.take k).map LnP.l)
              rw [List.length_map, List.length_take] at h1
              have := HN3.out
              have := Nat.min_le_left k xs.length
              omega, size_small _⟩
            have HOP : Hid (X.x.op = 0 ↔ (X.x.op : Int) = 0) := by unfold Hid; omega
            subst ha1
            have d0 : wr.cell? ⟨b1, o1 + k * 5, none⟩ = some (.int .i64 X.lab) := g1 0 (by omega)
            have d1 : wr.cell? ⟨b1, o1 + k * 5 + 1, none⟩ = some (.int .u8 (X.x.op : Int)) := g1 1 (by omega)
            have d2 : wr.cell? ⟨b1, o1 + k * 5 + 2, none⟩ = some (.int .i64 X.x.a) := g1 2 (by omega)
            have d3 : wr.cell? ⟨b1, o1 + k * 5 + 3, none⟩ = some (.int .i64 X.x.b) := g1 3 (by omega)
            have d4 : wr.cell? ⟨b1, o1 + k * 5 + 4, none⟩ = some (.slice X.ao X.x.arms.length X.cp) := g1 4 (by omega)
            clear g1 hX0 hAX hDL hNG hnar
            unfold DecRet at HDC
            unfold insV at HDC HT2 HTG HSZ
            simp only [hop] at HDC HT2
            generalize X.x.size = SX at *
            generalize sizeL ((xs.take k).map LnP.l) = AT at *
            generalize tgs X.x = TX at *
            generalize (atI g X.x).a = GA at *
            generalize (atI g X.x).b = GB at *
            generalize armC (atI g X.x).arms = GC at *
            generalize (atI g X.x).arms.length = gn at *
            have HTK0 : Hid ((X.x.op : Int) = 0 → sizeL ((xs.take (k + 1)).map LnP.l) = AT) := fun q => by rw [HTK.out, if_pos (HOP.out.2 q)]; rfl
            have HTK1 : Hid (¬ (X.x.op : Int) = 0 → sizeL ((xs.take (k + 1)).map LnP.l) = AT + SX) := fun q => by rw [HTK.out, if_neg (fun q2 => q (HOP.out.1 q2))]
            have HDC1 : Hid (¬ (X.x.op : Int) = 0 → _) := fun q => HDC.out (fun q2 => q (HOP.out.1 q2))
            have HT21 : Hid (¬ (X.x.op : Int) = 0 → _) := fun q => HT2.out (fun q2 => q (HOP.out.1 q2))
            clear HTK HDC HT2 HOP hop
            generalize X.lab = zK at *
            generalize (X.x.op : Int) = zO at *
            generalize X.x.a = zA at *
            generalize X.x.b = zB at *
            generalize X.ao = zs at *
            generalize X.x.arms.length = zn at *
            generalize X.cp = zc at *
            have hlt2 : (k : Int) < (n : Int) := by omega
            have hk0 : (0 : Int) ≤ (k : Int) := by omega
            have HKB : Hid (k + 1 ≤ n) := hlt
            have hn3 : n ≤ 300000 := HN3.out
            have hAT := HSM.out.1
            have hSX := HSM.out.2
            by_cases h0 : zO = 0
            · subst h0
              have HTE := HTK0.out rfl
              have HTE2 : Hid (sizeL ((xs.take (k + 1)).map LnP.l) = AT) := HTE
              clear HTE HTK0 HTK1 HDC1 HT21 HTG HSZ HLS
              go_wp2
              go_roundg gq
              case measure => omega
              case rel => exact ⟨k + 1, HKQ.out, by go_num, by rw [HTE2.out], HBR.out⟩
            · have hq : (zO == 0) = false := by rw [beq_eq_false_iff_ne]; exact h0
              have hqd : (zO != 0) = true := by simp [bne, hq]
              have HTE : Hid (sizeL ((xs.take (k + 1)).map LnP.l) = AT + SX) := HTK1.out h0
              have hDC := HDC1.out h0
              have HT2 : Hid _ := HT21.out h0
              clear HTK0 HTK1 HDC1 HT21
              go_wp2_with fail
              refine Calls.mono (hDC wr HBR.out) ?_
              rintro e w5 ⟨v, rfl, hv, hvn, b5⟩
              obtain ⟨va, vc, rfl, -⟩ := hv.shape
              have HV5 : Hid (Rw w5 51 2 (.slice va gn vc) gn GC) := hv
              have HB5 : Hid (Below w2.heap.size w2 w5) := HBR.out.trans (b5.mono HBR.out.size)
              have oX := Own.new w5 #[.int .u8 zO, .int .i64 GA, .int .i64 GB, .slice va gn vc] 43
              have HV6 := HV5.out.alloc (.cells #[.int .u8 zO, .int .i64 GA, .int .i64 GB, .slice va gn vc] 43)
              have hb6 : Below wr.heap.size wr (w5.alloc (.cells #[.int .u8 zO, .int .i64 GA, .int .i64 GB, .slice va gn vc] 43)) := b5.alloc b5.size _
              clear hv hvn b5 hDC HV5 HB5
              go_upto_region 12 with fail
              generalize w5.alloc (.cells #[.int .u8 zO, .int .i64 GA, .int .i64 GB, .slice va gn vc] 43) = w6 at *
              have c1 := (Below.cell (p := ⟨b1, o1 + k * 5 + 1, none⟩) hb6 (World.block_lt_of_cell? wr _ d1)).trans d1
              have c2 := (Below.cell (p := ⟨b1, o1 + k * 5 + 2, none⟩) hb6 (World.block_lt_of_cell? wr _ d2)).trans d2
              have c3 := (Below.cell (p := ⟨b1, o1 + k * 5 + 3, none⟩) hb6 (World.block_lt_of_cell? wr _ d3)).trans d3
              have c4 := (Below.cell (p := ⟨b1, o1 + k * 5 + 4, none⟩) hb6 (World.block_lt_of_cell? wr _ d4)).trans d4
              have HB6 : Hid (Below w2.heap.size w2 w6) := HBR.out.trans (hb6.mono HBR.out.size)
              clear d0 d1 d2 d3 d4 hb6
              obtain ⟨x0, x1, x2, x3⟩ := cells4 oX
              have q1 : ∀ t : After w6, t.1.cell? ⟨b1, o1 + k * 5 + 1, none⟩ = some (.int .u8 zO) := fun t => (t.2.cell (p := ⟨b1, _, none⟩) (World.block_lt_of_cell? w6 _ c1)).trans c1
              have q2 : ∀ t : After w6, t.1.cell? ⟨b1, o1 + k * 5 + 2, none⟩ = some (.int .i64 zA) := fun t => (t.2.cell (p := ⟨b1, _, none⟩) (World.block_lt_of_cell? w6 _ c2)).trans c2
              have q3 : ∀ t : After w6, t.1.cell? ⟨b1, o1 + k * 5 + 3, none⟩ = some (.int .i64 zB) := fun t => (t.2.cell (p := ⟨b1, _, none⟩) (World.block_lt_of_cell? w6 _ c3)).trans c3
              have q4 : ∀ t : After w6, t.1.cell? ⟨b1, o1 + k * 5 + 4, none⟩ = some (.slice zs zn zc) := fun t => (t.2.cell (p := ⟨b1, _, none⟩) (World.block_lt_of_cell? w6 _ c4)).trans c4
              have Q1 : Hid (∀ z : After w6, Calls Tryz.prog 37 #[.agg #[.int .u8 zO, .int .i64 zA, .int .i64 zB, .slice zs zn zc]] z.1 fun e w'' => e = .returned (.int .i64 (SX : Int)) ∧ ∃ t' : After w6, w'' = t'.1) := fun z => quiet_new z (HSZ.out z.1 (HB2.out.trans ((HB6.out.trans (z.2.mono HB6.out.size)).mono HB2.out.size)))
              refine wp_region_after (by kernel_rfl) (by kernel_rfl) ?_
              repeat (go_big_quiet_step (with_reducible exact rfl))
              go_big_quiet_step (exact Q1.out _)
              repeat (go_big_quiet_step (with_reducible exact rfl))
              refine wpQuiet_nil ?_
              rintro w9 ⟨t9, e9⟩
              have hb9 : Below w6.heap.size w6 w9 := by rw [e9]; exact t9.2
              have HB9 : Hid (Below w2.heap.size w2 w9) := HB6.out.trans (hb9.mono HB6.out.size)
              have oX9 := oX.below hb9
              have HV9 : Hid (Rw w9.drew 51 2 (.slice va gn vc) gn GC) := (HV6.belowR hb9).drew
              have r1 := q1 t9
              have r2 := q2 t9
              have r3 := q3 t9
              have r4 := q4 t9
              rw [← e9] at r1 r2 r3 r4
              clear e9 t9 Q1 q1 q2 q3 q4 c1 c2 c3 c4 x0 x1 x2 x3 hb9 HB6 HV6 HSZ oX
              obtain ⟨y0, y1, y2, y3, yf⟩ := own4 oX9
              have HO9d : Hid (Own w9.drew w5.heap.size #[.int .u8 zO, .int .i64 GA, .int .i64 GB, .slice va gn vc] 43) := oX9.drew
              have HB9d : Hid (Below w2.heap.size w2 w9.drew) := HB9.out.drew
              have HD9 : Hid (Below W.heap.size W w9.drew) := (HB2.out.trans (HB9.out.mono HB2.out.size)).drew
              clear oX9
              go_upto_region 14 with fail
              go_cut [10, 11] from 84 to 91 (fun v10 v11 wx => ∃ (ta1 : Option Addr) (tc1 : Nat) (ta2 : Option Addr) (tc2 : Nat), v10 = .slice ta1 TX.length tc1 ∧ v11 = .slice ta2 TX.length tc2 ∧ Rw wx 2 1 (.slice ta1 TX.length tc1) TX.length (iV TX) ∧ Rw wx 2 1 (.slice ta2 TX.length tc2) TX.length (iV (TX.map fun t => (sizeTo (xs.map LnP.l) t : Int))) ∧ Below w2.heap.size w2 wx)
              case first =>
                refine wp_region_any (by kernel_rfl) ?_
                change wpAny _ _ _ _ _ _ _ (World.drew _)
                refine wpAny_take (i := 0) (v := ?_) rfl (by kernel_rfl) (by kernel_rfl) (by kernel_rfl) (fun _ _ _ h => h) (Or.inl ⟨by rfl, ?_⟩) ?_
                rotate_left 1
                · (intro w'; go_simp <;> with_reducible rfl)
                try simp only [Act.put, List.setIfInBounds_toArray, List.set_cons_zero, List.set_cons_succ]
                refine wpAny_take (i := 1) (v := ?_) rfl (by kernel_rfl) (by kernel_rfl) (by kernel_rfl) (fun _ _ _ h => h) (Or.inl ⟨by rfl, ?_⟩) ?_
                rotate_left 1
                · (intro w'; go_simp <;> with_reducible rfl)
                try simp only [Act.put, List.setIfInBounds_toArray, List.set_cons_zero, List.set_cons_succ]
                refine wpAny_take (i := 2) (v := ?_) rfl (by kernel_rfl) (by kernel_rfl) (by kernel_rfl) (fun _ _ _ h => h) (Or.inl ⟨by rfl, ?_⟩) ?_
                rotate_left 1
                · (intro w'; go_simp <;> with_reducible rfl)
                try simp only [Act.put, List.setIfInBounds_toArray, List.set_cons_zero, List.set_cons_succ]
                refine wpAny_take (i := 3) (v := ?_) rfl (by kernel_rfl) (by kernel_rfl) (by kernel_rfl) (fun _ _ _ h => h) (Or.inl ⟨by rfl, ?_⟩) ?_
                rotate_left 1
                · (intro w'; go_simp <;> with_reducible rfl)
                try simp only [Act.put, List.setIfInBounds_toArray, List.set_cons_zero, List.set_cons_succ]
                refine wpAny_ready (rs := [4, 6]) (by kernel_rfl) (by simp) ?_
                refine readyH rfl (fun K hK => ?_) (readyH rfl (fun K hK => ?_) AllReady.nil)
                · go_simp
                  refine hK.out _ _ ?_
                  clear hK K
                  try simp only [Act.put, List.setIfInBounds_toArray, List.set_cons_zero, List.set_cons_succ]
                  refine wpAny_ready (rs := [5, 6]) (by kernel_rfl) (by simp) ?_
                  refine readyH rfl (fun K hK => ?_) (readyH rfl (fun K hK => ?_) AllReady.nil)
                  · go_simp
                    refine (HTG.out _ HD9.out).mono ?_
                    rintro e w10 ⟨tv1, rfl, ht1, hb10⟩
                    obtain ⟨ta1, tc1, rfl⟩ := ht1.shape
                    have HT10 : Hid (LNew w10 w9.heap.size (.slice ta1 TX.length tc1) TX) := ht1
                    have hx10 := HO9d.out.below hb10
                    obtain ⟨y0, y1, y2, y3, yf⟩ := own4 hx10
                    have HV10 : Hid (Rw w10 51 2 (.slice va gn vc) gn GC) := HV9.out.belowR hb10
                    have HB10 : Hid (Below w2.heap.size w2 w10) := HB9d.out.trans (hb10.mono HB9d.out.size)
                    clear ht1 hb10 hx10
                    go_wp2_with fail
                    refine hK.out _ _ ?_
                    clear hK K
                    try simp only [Act.put, List.setIfInBounds_toArray, List.set_cons_zero, List.set_cons_succ]
                    refine wpAny_ready (rs := [6]) (by kernel_rfl) (by simp) ?_
                    refine readyH rfl (fun K hK => ?_) AllReady.nil
                    go_simp
                    refine hK.out _ _ ?_
                    clear hK K
                    try simp only [Act.put, List.setIfInBounds_toArray, List.set_cons_zero, List.set_cons_succ]
                    refine wpAny_ready (rs := [7]) (by kernel_rfl) (by simp) ?_
                    refine readyH rfl (fun K hK => ?_) AllReady.nil
                    go_simp
                    refine (HT2.out w10 _ HV10.out).mono ?_
                    rintro e w11 ⟨tv2, rfl, ht2, hb11⟩
                    obtain ⟨ta2, tc2, rfl⟩ := ht2.shape
                    have HT11 : Hid (LNew w11 w9.heap.size (.slice ta1 TX.length tc1) TX) := HT10.out.below hb11
                    have HT12 : Hid (Rw w11 2 1 (.slice ta2 TX.length tc2) TX.length (iV (TX.map fun t => (sizeTo (xs.map LnP.l) t : Int)))) := by have := ht2.row; rw [List.length_map] at this; exact this
                    rw [List.length_map]
                    have HB11 : Hid (Below w2.heap.size w2 w11) := HB10.out.trans (hb11.mono HB10.out.size)
                    clear ht2 hb11
                    go_wp2_with fail
                    refine hK.out _ _ ?_
                    clear hK K
                    try simp only [Act.put, List.setIfInBounds_toArray, List.set_cons_zero, List.set_cons_succ]
                    refine wpAny_ready (rs := [8]) (by kernel_rfl) (by simp) ?_
                    refine readyH rfl (fun K hK => ?_) AllReady.nil
                    go_simp
                    refine hK.out _ _ ?_
                    clear hK K
                    try simp only [Act.put, List.setIfInBounds_toArray, List.set_cons_zero, List.set_cons_succ]
                    refine wpAny_ready (rs := [9]) (by kernel_rfl) (by simp) ?_
                    refine readyH rfl (fun K hK => ?_) AllReady.nil
                    go_simp
                    refine hK.out _ _ ?_
                    clear hK K
                    try simp only [Act.put, List.setIfInBounds_toArray, List.set_cons_zero, List.set_cons_succ]
                    refine wpAny_done (by kernel_rfl) ?_ _
                    go_wp2_with fail
                    go_meet
                    exact ⟨ta1, tc1, ta2, tc2, rfl, rfl, HT11.out.row, HT12.out, HB11.out⟩
                  · go_simp
                    refine hK.out _ _ ?_
                    clear hK K
                    try simp only [Act.put, List.setIfInBounds_toArray, List.set_cons_zero, List.set_cons_succ]
                    refine wpAny_ready (rs := [5]) (by kernel_rfl) (by simp) ?_
                    refine readyH rfl (fun K hK => ?_) AllReady.nil
                    go_simp
                    refine (HTG.out _ HD9.out).mono ?_
                    rintro e w10 ⟨tv1, rfl, ht1, hb10⟩
                    obtain ⟨ta1, tc1, rfl⟩ := ht1.shape
                    have HT10 : Hid (LNew w10 w9.heap.size (.slice ta1 TX.length tc1) TX) := ht1
                    have hx10 := HO9d.out.below hb10
                    obtain ⟨y0, y1, y2, y3, yf⟩ := own4 hx10
                    have HV10 : Hid (Rw w10 51 2 (.slice va gn vc) gn GC) := HV9.out.belowR hb10
                    have HB10 : Hid (Below w2.heap.size w2 w10) := HB9d.out.trans (hb10.mono HB9d.out.size)
                    clear ht1 hb10 hx10
                    go_wp2_with fail
                    refine hK.out _ _ ?_
                    clear hK K
                    try simp only [Act.put, List.setIfInBounds_toArray, List.set_cons_zero, List.set_cons_succ]
                    refine wpAny_ready (rs := [7]) (by kernel_rfl) (by simp) ?_
                    refine readyH rfl (fun K hK => ?_) AllReady.nil
                    go_simp
                    refine (HT2.out w10 _ HV10.out).mono ?_
                    rintro e w11 ⟨tv2, rfl, ht2, hb11⟩
                    obtain ⟨ta2, tc2, rfl⟩ := ht2.shape
                    have HT11 : Hid (LNew w11 w9.heap.size (.slice ta1 TX.length tc1) TX) := HT10.out.below hb11
                    have HT12 : Hid (Rw w11 2 1 (.slice ta2 TX.length tc2) TX.length (iV (TX.map fun t => (sizeTo (xs.map LnP.l) t : Int)))) := by have := ht2.row; rw [List.length_map] at this; exact this
                    rw [List.length_map]
                    have HB11 : Hid (Below w2.heap.size w2 w11) := HB10.out.trans (hb11.mono HB10.out.size)
                    clear ht2 hb11
                    go_wp2_with fail
                    refine hK.out _ _ ?_
                    clear hK K
                    try simp only [Act.put, List.setIfInBounds_toArray, List.set_cons_zero, List.set_cons_succ]
                    refine wpAny_ready (rs := [8]) (by kernel_rfl) (by simp) ?_
                    refine readyH rfl (fun K hK => ?_) AllReady.nil
                    go_simp
                    refine hK.out _ _ ?_
                    clear hK K
                    try simp only [Act.put, List.setIfInBounds_toArray, List.set_cons_zero, List.set_cons_succ]
                    refine wpAny_ready (rs := [9]) (by kernel_rfl) (by simp) ?_
                    refine readyH rfl (fun K hK => ?_) AllReady.nil
                    go_simp
                    refine hK.out _ _ ?_
                    clear hK K
                    try simp only [Act.put, List.setIfInBounds_toArray, List.set_cons_zero, List.set_cons_succ]
                    refine wpAny_done (by kernel_rfl) ?_ _
                    go_wp2_with fail
                    go_meet
                    exact ⟨ta1, tc1, ta2, tc2, rfl, rfl, HT11.out.row, HT12.out, HB11.out⟩
                · go_simp
                  refine hK.out _ _ ?_
                  clear hK K
                  try simp only [Act.put, List.setIfInBounds_toArray, List.set_cons_zero, List.set_cons_succ]
                  refine wpAny_ready (rs := [4]) (by kernel_rfl) (by simp) ?_
                  refine readyH rfl (fun K hK => ?_) AllReady.nil
                  go_simp
                  refine hK.out _ _ ?_
                  clear hK K
                  try simp only [Act.put, List.setIfInBounds_toArray, List.set_cons_zero, List.set_cons_succ]
                  refine wpAny_ready (rs := [5]) (by kernel_rfl) (by simp) ?_
                  refine readyH rfl (fun K hK => ?_) AllReady.nil
                  go_simp
                  refine (HTG.out _ HD9.out).mono ?_
                  rintro e w10 ⟨tv1, rfl, ht1, hb10⟩
                  obtain ⟨ta1, tc1, rfl⟩ := ht1.shape
                  have HT10 : Hid (LNew w10 w9.heap.size (.slice ta1 TX.length tc1) TX) := ht1
                  have hx10 := HO9d.out.below hb10
                  obtain ⟨y0, y1, y2, y3, yf⟩ := own4 hx10
                  have HV10 : Hid (Rw w10 51 2 (.slice va gn vc) gn GC) := HV9.out.belowR hb10
                  have HB10 : Hid (Below w2.heap.size w2 w10) := HB9d.out.trans (hb10.mono HB9d.out.size)
                  clear ht1 hb10 hx10
                  go_wp2_with fail
                  refine hK.out _ _ ?_
                  clear hK K
                  try simp only [Act.put, List.setIfInBounds_toArray, List.set_cons_zero, List.set_cons_succ]
                  refine wpAny_ready (rs := [7]) (by kernel_rfl) (by simp) ?_
                  refine readyH rfl (fun K hK => ?_) AllReady.nil
                  go_simp
                  refine (HT2.out w10 _ HV10.out).mono ?_
                  rintro e w11 ⟨tv2, rfl, ht2, hb11⟩
                  obtain ⟨ta2, tc2, rfl⟩ := ht2.shape
                  have HT11 : Hid (LNew w11 w9.heap.size (.slice ta1 TX.length tc1) TX) := HT10.out.below hb11
                  have HT12 : Hid (Rw w11 2 1 (.slice ta2 TX.length tc2) TX.length (iV (TX.map fun t => (sizeTo (xs.map LnP.l) t : Int)))) := by have := ht2.row; rw [List.length_map] at this; exact this
                  rw [List.length_map]
                  have HB11 : Hid (Below w2.heap.size w2 w11) := HB10.out.trans (hb11.mono HB10.out.size)
                  clear ht2 hb11
                  go_wp2_with fail
                  refine hK.out _ _ ?_
                  clear hK K
                  try simp only [Act.put, List.setIfInBounds_toArray, List.set_cons_zero, List.set_cons_succ]
                  refine wpAny_ready (rs := [8]) (by kernel_rfl) (by simp) ?_
                  refine readyH rfl (fun K hK => ?_) AllReady.nil
                  go_simp
                  refine hK.out _ _ ?_
                  clear hK K
                  try simp only [Act.put, List.setIfInBounds_toArray, List.set_cons_zero, List.set_cons_succ]
                  refine wpAny_ready (rs := [9]) (by kernel_rfl) (by simp) ?_
                  refine readyH rfl (fun K hK => ?_) AllReady.nil
                  go_simp
                  refine hK.out _ _ ?_
                  clear hK K
                  try simp only [Act.put, List.setIfInBounds_toArray, List.set_cons_zero, List.set_cons_succ]
                  refine wpAny_done (by kernel_rfl) ?_ _
                  go_wp2_with fail
                  go_meet
                  exact ⟨ta1, tc1, ta2, tc2, rfl, rfl, HT11.out.row, HT12.out, HB11.out⟩
              case rest =>
                obtain ⟨ta1, tc1, ta2, tc2, e1, e2, ht1, ht2, hbc⟩ := hcut
                subst e1 e2
                have HBC : Hid (Below w2.heap.size w2 wc) := hbc
                have HR1 : Hid (Rw wc 2 1 (.slice ta1 TX.length tc1) TX.length (iV TX)) := ht1
                have HR2 : Hid (Rw wc 2 1 (.slice ta2 TX.length tc2) TX.length (iV (TX.map fun t => (sizeTo (xs.map LnP.l) t : Int)))) := ht2
                clear ht1 ht2 hbc r1 r2 r3 r4 y0 y1 y2 y3 yf HO9d HB9d HD9 HV9 HB9 HTG HT2
                have hTXL : TX.length ≤ 1000000 := HTXL.out
                obtain ⟨M, hM⟩ : ∃ M, TX.length = M := ⟨_, rfl⟩
                have HM : Hid (TX.length = M) := hM
                rw [hM] at HR1 HR2 hTXL ⊢
                clear hM
                go_wp2_with fail
                go_loopg [12] M (fun g2 i wi => ∃ j : Nat, j + g2 = M ∧ i = .int .i64 (j : Int) ∧ Below wc.heap.size wc wi)
                case atStart => exact ⟨0, by omega, rfl, Below.refl _ _⟩
                case round =>
                  obtain ⟨j, hj, rfl, hbi⟩ := hrel
                  have HBI : Hid (Below wc.heap.size wc wr) := hbi
                  clear hbi
                  cases gk with
                  | succ gi =>
                    have hjM : (j : Int) < (M : Int) := by omega
                    have hj0 : (0 : Int) ≤ (j : Int) := by omega
                    have hMb : (M : Int) ≤ 1000000 := by omega
                    have HJ : Hid (j + 1 + gi = M) := by unfold Hid; omega
                    have hjl : j < M := by omega
                    have hr1 := HR1.out.belowR HBI.out
                    have hr2 := HR2.out.belowR HBI.out
                    obtain ⟨ga, cga, cur1, e1, -⟩ := hr1.block (by omega)
                    cases e1
                    obtain ⟨gb, cgb, cur2, e2, -⟩ := hr2.block (by omega)
                    cases e2
                    have hjx : j < TX.length := by rw [HM.out]; exact hjl
                    obtain ⟨TJ, hTJ⟩ : ∃ TJ : Int, TX.getD j 0 = TJ := ⟨_, rfl⟩
                    obtain ⟨SV, hSV⟩ : ∃ SV : Int, ((sizeTo (xs.map LnP.l) TJ : Nat) : Int) = SV := ⟨_, rfl⟩
                    have k1 : wr.cell? ⟨ga, j, none⟩ = some (.int .i64 TJ) := by
                      rw [World.ownsRow.cellAt hr1 j (by omega), ← hTJ]
                      simp [iV, List.getD, hjx]
                    have k2 : wr.cell? ⟨gb, j, none⟩ = some (.int .i64 SV) := by
                      rw [World.ownsRow.cellAt hr2 j (by omega), ← hSV, ← hTJ]
                      simp [iV, List.getD, hjx]
                    have HBW9 : Hid (Below W.heap.size W wr) := HB2.out.trans ((HBC.out.trans (HBI.out.mono HBC.out.size)).mono HB2.out.size)
                    have Q1 : Hid (∀ z : After wr, Calls Tryz.prog 38 #[.slice (some ⟨b1, o1, none⟩) n ca, .int .i64 TJ] z.1 fun e w'' => e = .returned (.int .i64 SV) ∧ ∃ t' : After wr, w'' = t'.1) := lsz_quiet HLS.out HBW9.out TJ SV hSV
                    clear hTJ hSV hjx
                    have q1 : ∀ t : After wr, t.1.cell? ⟨ga, j, none⟩ = some (.int .i64 TJ) := fun t => (t.2.cell (p := ⟨ga, j, none⟩) (World.block_lt_of_cell? wr _ k1)).trans k1
                    have q2 : ∀ t : After wr, t.1.cell? ⟨gb, j, none⟩ = some (.int .i64 SV) := fun t => (t.2.cell (p := ⟨gb, j, none⟩) (World.block_lt_of_cell? wr _ k2)).trans k2
                    clear hr1 hr2 HLS HBW9 HR1 HR2
                    go_upto_region 18 with fail
                    refine wp_region_after (by kernel_rfl) (by kernel_rfl) ?_
                    repeat (go_big_quiet_step (with_reducible exact rfl))
                    go_big_quiet_step (exact Q1.out _)
                    repeat (go_big_quiet_step (with_reducible exact rfl))
                    refine wpQuiet_nil ?_
                    rintro w9 ⟨t9, e9⟩
                    have hb9 : Below wr.heap.size wr w9 := by rw [e9]; exact t9.2
                    have HB9 : Hid (Below wc.heap.size wc w9) := HBI.out.trans (hb9.mono HBI.out.size)
                    clear e9 t9 Q1 q1 q2 k1 k2 hb9 HBI
                    go_wp2
                    go_roundg gi
                    case measure => omega
                    case rel => exact ⟨j + 1, HJ.out, by go_num, HB9.out⟩
                  | zero =>
                    obtain rfl : j = M := by omega
                    have HBO : Hid (Below w2.heap.size w2 wr) := HBC.out.trans (HBI.out.mono HBC.out.size)
                    clear HR1 HR2 HBI HBC HLS
                    go_wp2
                    go_roundg gq
                    case measure => omega
                    case rel => exact ⟨k + 1, HKQ.out, by go_num, by rw [HTE.out]; go_num, HBO.out⟩
          | zero =>
            obtain rfl : k = n := by omega
            have e1 : sizeL ((xs.take k).map LnP.l) = L := by rw [← HNN.out, List.take_length]; exact HLC.out.symm
            rw [e1]
            have HBW : Hid (Below W.heap.size W wr) := HB2.out.trans (HBR.out.mono HB2.out.size)
            clear HXS HA HLIE HDL HNG HLC HNN HBR
            go_wp2_with fail
            refine Calls.mono (HWORKS.out wr HBW.out) ?_
            rintro e w4 ⟨rfl, b4⟩
            have HB4 : Hid (Below W.heap.size W w4) := HBW.out.trans (b4.mono HBW.out.size)
            clear b4 HWORKS HBW
            go_wp2
            go_ret
            exact ⟨rfl, HB4.out⟩
end Go.Proofs.YtkmmnocooibljaaGreatDoor
