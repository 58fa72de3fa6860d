/-
  LINEARNAMES: THE LAW IS WALKED.
-/
import Derived.Test.YtkmmnocooibljaaGreatDoorJna
namespace Go.Proofs.YtkmmnocooibljaaGreatDoor
open Go.RowKit Go.Maps
set_option linter.unusedVariables false
set_option linter.unusedSimpArgs false

set_option maxHeartbeats 16000000 in
set_option maxRecDepth 100000 in
theorem names_walk (W : World) (aa : Option Addr) (ca : Nat) (xs : List LnP) (hxs : LnsIn W aa xs) (hno : ∀ y ∈ xs, y.ao = none → y.cp = 0) (hm : xs.length ≤ 150000) (hA : ∀ y ∈ xs, y.x.arms.length ≤ 350000) (by0 : Int) (hby : N64 by0) (hN : NmAt W) :
    Calls Tryz.prog 7 #[.slice aa xs.length ca, .int .i64 by0] W fun e w' => e = .returned (.bool true) ∧ Below W.heap.size W w' := by
  have HWORKS : Hid (∀ w, Below W.heap.size W w → Calls Tryz.prog 22 #[] w fun e w' => e = .returned (.bool true) ∧ Below w.heap.size w w') := fun w h => lworks_any (hN.below hN.lt h)
  have HFA : Hid (∀ w, Below W.heap.size W w → Calls Tryz.prog 9 #[.slice aa xs.length ca] w fun e w' => ∃ b : Bool, e = .returned (.bool b) ∧ Below w.heap.size w w') := fun w h => few_as rfl (hxs.below h)
  have HCK : Hid (∀ w, Below W.heap.size W w → Calls Tryz.prog 17 #[.slice aa xs.length ca] w fun e w' => e = .returned (.int .i64 (match layoutL (xs.map LnP.l) with | .inl er => (er : Int) | .inr _ => 0)) ∧ Below w.heap.size w w') := fun w h => lnCheck_as rfl (hxs.below h) (by omega) (fun y hy => by have := hA y hy; omega)
  obtain ⟨n, hn⟩ : ∃ n, xs.length = n := ⟨_, rfl⟩
  cases hl : layoutL (xs.map LnP.l) with
  | inl er =>
    have her := layoutL_er hl
    have hr1 : ((er : Int) == 0) = false := by rw [beq_eq_false_iff_ne]; omega
    have hr2 : ((er : Int) != 0) = true := by simp [bne, hr1]
    rw [hl] at HCK
    simp only at HCK
    rw [hn] at HFA HCK ⊢
    clear hxs hno hm hA hN hl hn hby
    go_enter Tryz.func7, Tryz.ntmps7
    go_wp2_with fail
    refine Calls.mono (HFA.out W (Below.refl _ _)) ?_
    rintro e w1 ⟨bf, rfl, b1⟩
    have HB1 : Hid (Below W.heap.size W w1) := b1
    clear b1 HFA
    cases bf with
    | false =>
      clear HCK
      go_wp2_with (first | (refine Calls.mono (HWORKS.out w1 HB1.out) ?_) | fail)
      rintro e w4 ⟨rfl, b4⟩
      have HB4 : Hid (Below W.heap.size W w4) := HB1.out.trans (b4.mono HB1.out.size)
      clear b4 HWORKS HB1
      go_wp2
      go_ret
      exact ⟨rfl, HB4.out⟩
    | true =>
      go_wp2_with (first | (refine Calls.mono (HCK.out w1 HB1.out) ?_) | fail)
      rintro e w3 ⟨rfl, b3⟩
      have HB3 : Hid (Below W.heap.size W w3) := HB1.out.trans (b3.mono HB1.out.size)
      clear b3 HCK HB1
      go_wp2_with (first | (refine Calls.mono (HWORKS.out w3 HB3.out) ?_) | fail)
      rintro e w4 ⟨rfl, b4⟩
      have HB4 : Hid (Below W.heap.size W w4) := HB3.out.trans (b4.mono HB3.out.size)
      clear b4 HWORKS HB3
      go_wp2
      go_ret
      exact ⟨rfl, HB4.out⟩
  | inr st =>
    obtain ⟨c, hc⟩ : ∃ c, pk by0 1000 = c := ⟨_, rfl⟩
    have hcr : 0 ≤ c ∧ c < 1000 := by
      rw [← hc]; unfold pk; rw [if_neg (by omega)]; omega
    have HPK : Hid (∀ w, Calls Tryz.prog 35 #[.int .i64 by0, .int .i64 1000] w fun e w' => e = .returned (.int .i64 c) ∧ w = w') := fun w => pick_as by0 1000 hby.1 hby.2 (by omega) c hc w
    have hmay := layoutL_may hl
    have HLB : Hid (∀ X ∈ xs, (X.x.op = 0 → X.x = zI ∧ 0 ≤ X.lab ∧ X.lab ≤ 2147483647) ∧ ∀ t ∈ tgs X.x, 0 ≤ t ∧ t ≤ 2147483647) := fun X hX => by
      have h1 := hmay.2.2.1 X.l (List.mem_map.2 ⟨X, hX, rfl⟩)
      refine ⟨fun h0 => h1.1 h0, fun t ht => ?_⟩
      obtain ⟨z, hz, q1, q2, q3, q4⟩ := hmay.2.2.2 X.l (List.mem_map.2 ⟨X, hX, rfl⟩) t ht
      exact ⟨q3, q4⟩
    have HXN : Hid (∀ X ∈ xs, Num X.x ∧ X.x.arms.length ≤ 350000) := fun X hX => ⟨num_of (hxs.each X hX).ins, hA X hX⟩
    have HC1 : Hid (∀ w, Below W.heap.size W w → Calls Tryz.prog 13 #[.slice aa n ca] w (CodR w (codeA (xs.map LnP.l)))) := fun w h => lnCode_as hn.symm (hxs.below h) hno (by omega) (fun y hy => by have := hA y hy; omega)
    have HN1 : Hid (∀ w, Below W.heap.size W w → Calls Tryz.prog 11 #[.slice aa n ca] w (NrmR w (normL (xs.map LnP.l)))) := fun w h => lnNormal_as hn.symm (hxs.below h) hno (by omega) hA
    have HREN : Hid (∀ ps, NmK c xs n ps → (ps.map toLn).map LnP.l = (xs.map LnP.l).map (renY c) ∧ codeA ((ps.map toLn).map LnP.l) = codeA (xs.map LnP.l) ∧ normL ((ps.map toLn).map LnP.l) = normL (xs.map LnP.l)) := fun ps hk => by
      have e1 : (ps.map toLn).map LnP.l = (xs.map LnP.l).map (renY c) := by
        have h1 := hk.eq
        rw [← hn, List.take_length] at h1
        rw [toLn_l, h1]
      have h2 := ren_same hcr hl (fun y hy h0 => by
        obtain ⟨X, hX, rfl⟩ := List.mem_map.1 hy
        have h1 := hk.lab
        rw [← hn, List.take_length] at h1
        exact h1 X hX h0)
      rw [e1]
      exact ⟨rfl, h2.1, h2.2⟩
    have HPN : Hid (∀ ps, NmK c xs n ps → ∀ y ∈ ps, N64 y.1 ∧ Num y.2.1 ∧ y.2.1.arms.length ≤ 350000) := fun ps hk y hy => by
      have h1 := hk.eq
      have h2 := hk.lab
      rw [← hn, List.take_length] at h1 h2
      have hq : qL y ∈ (xs.map LnP.l).map (renY c) := by rw [← h1]; exact List.mem_map.2 ⟨y, hy, rfl⟩
      obtain ⟨z, hz, e⟩ := List.mem_map.1 hq
      obtain ⟨X, hX, rfl⟩ := List.mem_map.1 hz
      have := renY_num hcr (y := X.l) (hxs.each X hX).lab (HXN.out X hX).1 (fun h0 => ⟨((HLB.out X hX).1 h0).2.1, h2 X hX h0⟩) (HLB.out X hX).2 (HXN.out X hX).2
      rw [e] at this
      exact this
    have HCS : Hid ((∀ b ∈ (codeA (xs.map LnP.l)).1, b < 256) ∧ (codeA (xs.map LnP.l)).1.length ≤ 65536) := codeA_small hl (fun y hy => by obtain ⟨X, hX, rfl⟩ := List.mem_map.1 hy; exact (HXN.out X hX).1.op)
    have HNS : Hid ((∀ z ∈ (normL (xs.map LnP.l)).1, N64 z.1 ∧ Num z.2 ∧ z.2.arms.length ≤ 350000) ∧ (normL (xs.map LnP.l)).1.length ≤ 1000000) := ⟨normL_num hm HXN.out, normL_len hm⟩
    have HXS : Hid (LnsIn W aa xs) := hxs
    have HNO : Hid (∀ y ∈ xs, y.ao = none → y.cp = 0) := hno
    have HNN : Hid (xs.length = n) := hn
    have hn3 : n ≤ 150000 := by omega
    rw [hl] at HCK
    simp only at HCK
    rw [hn] at HFA HCK ⊢
    clear hxs hno hm hA hN hl hn hby hc hmay
    go_enter Tryz.func7, Tryz.ntmps7
    go_wp2_with fail
    refine Calls.mono (HFA.out W (Below.refl _ _)) ?_
    rintro e w1 ⟨bf, rfl, b1⟩
    have HB1 : Hid (Below W.heap.size W w1) := b1
    clear b1 HFA
    cases bf with
    | false =>
      clear HCK HLB HXN HC1 HN1 HREN HPN HCS HNS HXS HNO HNN HPK
      go_wp2_with (first | (refine Calls.mono (HWORKS.out w1 HB1.out) ?_) | fail)
      rintro e w4 ⟨rfl, b4⟩
      have HB4 : Hid (Below W.heap.size W w4) := HB1.out.trans (b4.mono HB1.out.size)
      clear b4 HWORKS HB1
      go_wp2
      go_ret
      exact ⟨rfl, HB4.out⟩
    | true =>
      go_wp2_with (first | (refine Calls.mono (HCK.out w1 HB1.out) ?_) | fail)
      rintro e w3 ⟨rfl, b3⟩
      have HB3 : Hid (Below W.heap.size W w3) := HB1.out.trans (b3.mono HB1.out.size)
      clear b3 HCK HB1
      go_wp2_with (first | (refine Calls.mono (HPK.out w3) ?_) | fail)
      rintro e w4 ⟨rfl, rfl⟩
      clear HPK
      go_wp2_with fail
      go_loopg [5, 6] n (fun g0 mv i wr => ∃ (k : Nat) (vm : Value) (ps : List (Int × In × Value)), k + g0 = n ∧ vm = mv ∧ i = .int .i64 (k : Int) ∧ NmSt W wr vm ps ∧ NmK c xs k ps)
      case atStart => exact ⟨0, _, [], by omega, rfl, rfl, NmSt.start _ _ HB3.out, ⟨rfl, fun y hy => by simp at hy⟩⟩
      case round =>
        obtain ⟨k, vm, ps, hk, rfl, rfl, hst, hkk⟩ := hrel
        have HST : Hid (NmSt W wr vm ps) := hst
        have HKK : Hid (NmK c xs k ps) := hkk
        have hpl := hkk.len
        have hps : ps.length ≤ 10000000 := by rw [HNN.out] at hpl; omega
        clear hst hkk hpl HB3
        cases gk with
        | succ gq =>
          have hlt : k < n := by omega
          have HKQ : Hid (k + 1 + gq = n) := by unfold Hid; omega
          have hkx : k < xs.length := by rw [HNN.out]; exact hlt
          obtain ⟨b1, o1, ha1, gW⟩ := HXS.out.row.at hkx
          have hX0 := HXS.out.each _ (getD_in (z := zLn) hkx)
          have hXN := HXN.out _ (getD_in (z := zLn) hkx)
          have hXL := HLB.out _ (getD_in (z := zLn) hkx)
          have hNX := HNO.out _ (getD_in (z := zLn) hkx)
          have HNX : Hid (∀ y : Int × In × Value, qL y = renY c (xs.getD k zLn).l → ((xs.getD k zLn).x.op = 0 → (xs.getD k zLn).lab ≤ 1048576) → NmK c xs (k + 1) (ps ++ [y])) := fun y q1 q2 => HKK.out.next hkx y q1 q2
          unfold lnF at gW
          generalize xs.getD k zLn = X at *
          have HTL : Hid ((tgs X.x).length ≤ 1000000) := Nat.le_trans (tgs_len3 X.x) (by have := hXN.2; omega)
          have HTG : Hid (∀ w, Below W.heap.size W w → Calls Tryz.prog 28 #[insV X.x (.slice X.ao X.x.arms.length X.cp)] w (TgR w (tgs X.x))) := fun w q => lnTargets_as (hX0.ins.below q) _ rfl (by have := hXN.2; omega)
          have HMV : Hid (∀ w ta m tc, Below W.heap.size W w → m = (tgs X.x).length → RowAt w ta 1 ((tgs X.x).map (renI c)).length (inF ((tgs X.x).map (renI c))) → Calls Tryz.prog 30 #[insV X.x (.slice X.ao X.x.arms.length X.cp), .slice ta m tc] w (MvR w (atI (renI c) X.x, 0))) := fun w ta m tc q1 q2 q3 => by
            have := lnMoved_as (tc := tc) (cp := X.cp) (m := m) (hX0.ins.below q1) _ rfl hNX (by have := hXN.2; omega) q3 (by rw [q2, List.length_map]) (by rw [q2]; exact HTL.out)
            have e2 := movX_ok X.x ((tgs X.x).map (renI c)) (by rw [List.length_map])
            have e3 : movX X.x ((tgs X.x).map (renI c)) = (atI (renI c) X.x, 0) := Prod.ext rfl e2
            rw [e3] at this
            exact this
          have HTB : Hid (∀ t ∈ tgs X.x, 0 ≤ t ∧ t ≤ 2147483647) := hXL.2
          have hlab : (X.x.op : Int) = 0 → 0 ≤ X.lab ∧ X.lab ≤ 2147483647 := fun q => (hXL.1 (by omega)).2
          have HNX0 : Hid ((X.x.op : Int) = 0 → X.lab ≤ 1048576 → NmK c xs (k + 1) (ps ++ [(X.lab * 7 + c, zI, .slice none 0 0)])) := fun q1 q2 => HNX.out _ (by
            unfold qL renY renI LnP.l
            rw [if_pos (by simp only; omega)]) (fun _ => q2)
          have HNX1 : Hid (¬ (X.x.op : Int) = 0 → ∀ v, NmK c xs (k + 1) (ps ++ [(0, atI (renI c) X.x, v)])) := fun q1 v => HNX.out _ (by
            unfold qL renY LnP.l
            rw [if_neg (by simp only; omega)]) (fun q => absurd (by omega) q1)
          subst ha1
          have HCE : Hid (∀ w, Below W.heap.size W w → w.cell? ⟨b1, o1 + k * 5, none⟩ = some (.int .i64 X.lab) ∧ w.cell? ⟨b1, o1 + k * 5 + 1, none⟩ = some (.int .u8 (X.x.op : Int)) ∧ w.cell? ⟨b1, o1 + k * 5 + 2, none⟩ = some (.int .i64 X.x.a) ∧ w.cell? ⟨b1, o1 + k * 5 + 3, none⟩ = some (.int .i64 X.x.b) ∧ w.cell? ⟨b1, o1 + k * 5 + 4, none⟩ = some (.slice X.ao X.x.arms.length X.cp)) := fun w q => by
            have e0 : W.cell? ⟨b1, o1 + k * 5, none⟩ = some (.int .i64 X.lab) := gW 0 (by omega)
            have hlt := World.block_lt_of_cell? W _ e0
            have e1 : W.cell? ⟨b1, o1 + k * 5 + 1, none⟩ = some (.int .u8 (X.x.op : Int)) := gW 1 (by omega)
            have e2 : W.cell? ⟨b1, o1 + k * 5 + 2, none⟩ = some (.int .i64 X.x.a) := gW 2 (by omega)
            have e3 : W.cell? ⟨b1, o1 + k * 5 + 3, none⟩ = some (.int .i64 X.x.b) := gW 3 (by omega)
            have e4 : W.cell? ⟨b1, o1 + k * 5 + 4, none⟩ = some (.slice X.ao X.x.arms.length X.cp) := gW 4 (by omega)
            exact ⟨(q.cell (p := ⟨b1, o1 + k * 5, none⟩) hlt).trans e0, (q.cell (p := ⟨b1, o1 + k * 5 + 1, none⟩) hlt).trans e1, (q.cell (p := ⟨b1, o1 + k * 5 + 2, none⟩) hlt).trans e2, (q.cell (p := ⟨b1, o1 + k * 5 + 3, none⟩) hlt).trans e3, (q.cell (p := ⟨b1, o1 + k * 5 + 4, none⟩) hlt).trans e4⟩
          clear gW hX0 hXN hXL hNX HNX HKK HXN HLB HNO HC1 HN1 HREN HPN HCS HNS
          unfold insV at HTG HMV
          generalize atI (renI c) X.x = AI at *
          generalize tgs X.x = T at *
          generalize X.lab = zK at *
          generalize (X.x.op : Int) = zO at *
          generalize X.x.a = zA at *
          generalize X.x.b = zB at *
          generalize X.ao = zs at *
          generalize X.x.arms.length = zn at *
          generalize X.cp = zc at *
          obtain ⟨d0, d1, d2, d3, d4⟩ := HCE.out wr HST.out.bel
          have hlt2 : (k : Int) < (n : Int) := by omega
          have hk0 : (0 : Int) ≤ (k : Int) := by omega
          by_cases h0 : zO = 0
          · subst h0
            have hlb := hlab rfl
            by_cases hbig : 1048576 < zK
            · have HBW : Hid (Below W.heap.size W wr) := HST.out.bel
              clear HST HNX0 HNX1 HTG HMV HTB HTL HCE
              go_wp2_with (first | (refine Calls.mono (HWORKS.out wr HBW.out) ?_) | fail)
              rintro e w4 rfl b4
              have HB4 : Hid (Below W.heap.size W w4) := HBW.out.trans (b4.mono HBW.out.size)
              clear b4 HWORKS HBW
              go_wp2
              go_ret
              exact ⟨rfl, HB4.out⟩
            · have HNK := HNX0.out rfl (by omega)
              have hA := HST.out.below (new_below wr (.cells #[.int .i64 (zK * 7 + c), .int .u8 0, .int .i64 0, .int .i64 0, .slice none 0 0] 56))
              have oI := Own.new wr #[.int .i64 (zK * 7 + c), .int .u8 0, .int .i64 0, .int .i64 0, .slice none 0 0] 56
              have row1 := hA.row.row
              have HPUT : Hid (∀ ao cap wz, Rw wz 56 5 (.slice ao (ps.length + 1) cap) (ps.length + 1) (lnC ps ++ [.int .i64 (zK * 7 + c), .int .u8 0, .int .i64 0, .int .i64 0, .slice none 0 0]) → (wr.alloc (.cells #[.int .i64 (zK * 7 + c), .int .u8 0, .int .i64 0, .int .i64 0, .slice none 0 0] 56)).grownBy wz vm.ownBlock → ((Value.slice ao (ps.length + 1) cap).ownBlock = vm.ownBlock ∨ (Value.slice ao (ps.length + 1) cap).ownBlock = some (wr.alloc (.cells #[.int .i64 (zK * 7 + c), .int .u8 0, .int .i64 0, .int .i64 0, .slice none 0 0] 56)).heap.size) → NmSt W wz (.slice ao (ps.length + 1) cap) (ps ++ [(zK * 7 + c, zI, .slice none 0 0)])) := fun ao cap wz q1 q2 q3 => HST.out.put (new_below wr _) (zK * 7 + c, zI, .slice none 0 0) rfl q1 q2 q3 (World.ownsRow_nil _ _ _ _) (by simp [Value.ownBlock])
              obtain ⟨m, hm⟩ : ∃ m, ps.length = m := ⟨_, rfl⟩
              rw [hm] at row1 HPUT hps
              clear hA hm HTG HMV HTB HTL HCE HNX0 HNX1 HWORKS HST
              go_wp2_with (first | (refine wpList_app1 okL (by rfl) (.tmp 59) (.tmp 69) (by rfl) _ m (lnC ps) (by rfl) row1 wr.heap.size [.int .i64 (zK * 7 + c), .int .u8 0, .int .i64 0, .int .i64 0, .slice none 0 0] (by rfl) oI rfl (by simp [Value.oneCell']) hps ?_; intro ao2 cap2 wz q1 q2 q3))
              have HZ : Hid _ := HPUT.out ao2 cap2 wz q1 q2 q3
              clear HPUT q1 q2 q3 oI row1
              go_roundg gq
              case measure => omega
              case rel => exact ⟨k + 1, _, _, HKQ.out, rfl, by go_num, HZ.out, HNK⟩
          · have hq : (zO == 0) = false := by rw [beq_eq_false_iff_ne]; exact h0
            have hqd : (zO != 0) = true := by simp [bne, hq]
            have HNK : Hid (∀ v, NmK c xs (k + 1) (ps ++ [(0, AI, v)])) := HNX1.out h0
            clear HNX0 HNX1 hlab
            go_wp2_with (first | (refine Calls.mono (HTG.out wr HST.out.bel) ?_) | fail)
            rintro e w3 ⟨v, rfl, hv, b3⟩
            obtain ⟨ta, tc, rfl⟩ := hv.shape
            obtain ⟨M, hM⟩ : ∃ M, T.length = M := ⟨_, rfl⟩
            have HM : Hid (T.length = M) := hM
            have HST3 : Hid (NmSt W w3 vm ps) := HST.out.below b3
            have HNEW : Hid (∀ b, (Value.slice ta M tc).ownBlock = some b → W.heap.size ≤ b) := fun b e => Nat.le_trans HST.out.bel.size (hv.new b (by rw [hM]; exact e))
            have HROW : Hid (Rw w3 2 1 (.slice ta M tc) M (iV (mixT (renI c) T 0))) := by
              rw [mixT_zero, Hid, ← hM]; exact hv.row
            have hMb : M ≤ 1000000 := by rw [← hM]; exact HTL.out
            rw [hM]
            clear hv b3 hM d0 d1 d2 d3 d4 HTG HTL HST
            go_wp2_with fail
            go_loopg [8] M (fun g2 i wi => ∃ j : Nat, j + g2 = M ∧ i = .int .i64 (j : Int) ∧ Rw wi 2 1 (.slice ta M tc) M (iV (mixT (renI c) T j)) ∧ NmSt W wi vm ps)
            case atStart => exact ⟨0, by omega, rfl, HROW.out, HST3.out⟩
            case round =>
              clear HROW HST3
              obtain ⟨j, hj, rfl, hrow, hst⟩ := hrel
              cases gk with
              | succ gi =>
                have hjM : (j : Int) < (M : Int) := by omega
                have hj0 : (0 : Int) ≤ (j : Int) := by omega
                have hjl : j < M := by omega
                have HJ : Hid (j + 1 + gi = M) := by unfold Hid; omega
                have hjT : j < T.length := by rw [HM.out]; exact hjl
                obtain ⟨ga, cga, cur1, e1, o1', -⟩ := hrow.block (by omega)
                cases e1
                have e0 : wr.cell? ⟨ga, j, none⟩ = some (.int .i64 (T.getD j 0)) := Rw.cells hrow j _ (by rw [iV, List.getElem?_map, mixT_get hjT]; rfl)
                have htv := HTB.out _ (getD_in (z := 0) hjT)
                have HSET : (iV (mixT (renI c) T j)).set j (.int .i64 (T.getD j 0 * 7 + c)) = iV (mixT (renI c) T (j + 1)) := by rw [iV_set, ← mixT_next hjT]; rfl
                obtain ⟨TV, hTV⟩ : ∃ TV : Int, T.getD j 0 = TV := ⟨_, rfl⟩
                rw [hTV] at e0 htv HSET
                have HRN : Hid (Rw (wr.setCell ⟨ga, j, none⟩ (.int .i64 (TV * 7 + c))) 2 1 (.slice (some ⟨ga, 0, none⟩) M tc) M (iV (mixT (renI c) T (j + 1)))) := by
                  have := (World.ownsRow.stored hrow j (.int .i64 (TV * 7 + c))).1
                  rw [HSET] at this
                  exact this
                have HS : Hid (NmSt W (wr.setCell ⟨ga, j, none⟩ (.int .i64 (TV * 7 + c))) vm ps) := hst.set o1' (by decide) (by decide) (HNEW.out ga rfl) j _
                have ef := o1'.froz
                clear hrow hst o1' HSET hTV HMV HCE HNK HNEW HTB HM HKQ hjT hjl
                go_wp2
                go_roundg gi
                case measure => omega
                case rel => exact ⟨j + 1, HJ.out, by go_num, HRN.out, HS.out⟩
              | zero =>
                obtain rfl : j = M := by omega
                have HST2 : Hid (NmSt W wr vm ps) := hst
                obtain ⟨d0, d1, d2, d3, d4⟩ := HCE.out wr hst.bel
                have hMC := HMV.out wr ta j tc hst.bel HM.out.symm (rw_rowAt (m := j) (c := tc) (a := ta) (e := 2) (cs := iV (T.map (renI c))) (by
                  have := hrow
                  rw [← HM.out, mixT_done] at this
                  rw [← HM.out]; exact this) (by rw [List.length_map, HM.out]; omega) (iV_rowF _))
                clear hrow hst HMV HCE HNEW HTB
                go_wp2_with (first | (refine Calls.mono hMC ?_) | fail)
                rintro e w5 ⟨v, rfl, hrw, hnw, b5⟩
                obtain ⟨va, vc, rfl, -⟩ := hrw.shape
                unfold insV
                simp only
                have HRW : Hid (Rw w5 51 2 (.slice va AI.arms.length vc) AI.arms.length (armC AI.arms)) := hrw
                have HNW : Hid (∀ b, (Value.slice va AI.arms.length vc).ownBlock = some b → W.heap.size ≤ b) := fun b e => Nat.le_trans HST2.out.bel.size (hnw b e)
                have HST5 : Hid (NmSt W w5 vm ps) := HST2.out.below b5
                clear hrw hnw b5 hMC HST2 d0 d1 d2 d3 d4
                obtain ⟨an, han⟩ : ∃ an, AI.arms.length = an := ⟨_, rfl⟩
                obtain ⟨A0, hA0⟩ : ∃ A0 : Int, (AI.op : Int) = A0 := ⟨_, rfl⟩
                obtain ⟨A1, hA1⟩ : ∃ A1 : Int, AI.a = A1 := ⟨_, rfl⟩
                obtain ⟨A2, hA2⟩ : ∃ A2 : Int, AI.b = A2 := ⟨_, rfl⟩
                rw [han] at HRW HNW
                rw [han, hA0, hA1, hA2]
                go_upto_region 20 with fail
                have oX := Own.new w5 #[.int .u8 A0, .int .i64 A1, .int .i64 A2, .slice va an vc] 43
                have HST6 : Hid (NmSt W (w5.alloc (.cells #[.int .u8 A0, .int .i64 A1, .int .i64 A2, .slice va an vc] 43)) vm ps) := HST5.out.below (new_below _ _)
                have HRW6 : Hid (Rw (w5.alloc (.cells #[.int .u8 A0, .int .i64 A1, .int .i64 A2, .slice va an vc] 43)) 51 2 (.slice va an vc) an (armC AI.arms)) := HRW.out.alloc _
                clear HRW HST5
                generalize w5.alloc (.cells #[.int .u8 A0, .int .i64 A1, .int .i64 A2, .slice va an vc] 43) = w6 at *
                obtain ⟨x0, x1, x2, x3, xf⟩ := own4 oX
                have hA := HST6.out.below (new_below w6 (.cells #[.int .i64 0, .int .u8 A0, .int .i64 A1, .int .i64 A2, .slice va an vc] 56))
                have oI := Own.new w6 #[.int .i64 0, .int .u8 A0, .int .i64 A1, .int .i64 A2, .slice va an vc] 56
                have row1 := hA.row.row
                have HPUT : Hid (∀ ao cap wz, Rw wz 56 5 (.slice ao (ps.length + 1) cap) (ps.length + 1) (lnC ps ++ [.int .i64 0, .int .u8 A0, .int .i64 A1, .int .i64 A2, .slice va an vc]) → (w6.alloc (.cells #[.int .i64 0, .int .u8 A0, .int .i64 A1, .int .i64 A2, .slice va an vc] 56)).grownBy wz vm.ownBlock → ((Value.slice ao (ps.length + 1) cap).ownBlock = vm.ownBlock ∨ (Value.slice ao (ps.length + 1) cap).ownBlock = some (w6.alloc (.cells #[.int .i64 0, .int .u8 A0, .int .i64 A1, .int .i64 A2, .slice va an vc] 56)).heap.size) → NmSt W wz (.slice ao (ps.length + 1) cap) (ps ++ [(0, AI, .slice va an vc)])) := fun ao cap wz q1 q2 q3 => HST6.out.put (new_below w6 _) (0, AI, .slice va an vc) rfl (by rw [hA0, hA1, hA2]; exact q1) q2 q3 (by show Rw _ 51 2 (.slice va an vc) AI.arms.length (armC AI.arms); rw [han]; exact HRW6.out.alloc _) HNW.out
                obtain ⟨m, hm⟩ : ∃ m, ps.length = m := ⟨_, rfl⟩
                rw [hm] at row1 HPUT hps
                clear hA hm HRW6 HNW HST6 oX
                go_wp2_with (first | (refine wpList_app1 okL (by rfl) (.tmp 105) (.tmp 108) (by rfl) _ m (lnC ps) (by rfl) row1 w6.heap.size [.int .i64 0, .int .u8 A0, .int .i64 A1, .int .i64 A2, .slice va an vc] (by rfl) oI rfl (by simp [Value.oneCell']) hps ?_; intro ao2 cap2 wz q1 q2 q3))
                have HZ : Hid _ := HPUT.out ao2 cap2 wz q1 q2 q3
                clear HPUT q1 q2 q3 oI row1 x0 x1 x2 x3 xf
                go_roundg gq
                case measure => omega
                case rel => exact ⟨k + 1, _, _, HKQ.out, rfl, by go_num, HZ.out, HNK.out _⟩
        | zero =>
          obtain rfl : k = n := by omega
          have hren := HREN.out ps HKK.out
          have hpn := HPN.out ps HKK.out
          have hplen : ps.length ≤ 150000 := by
            have := HKK.out.len
            rw [HNN.out] at this
            omega
          obtain ⟨am, cm, rfl, hin, hno2⟩ := lnrow_in HST.out.row (fun y hy => ⟨(hpn y hy).1, (hpn y hy).2.1, Nat.le_trans (hpn y hy).2.2 (by omega)⟩) (by omega)
          have HB : Hid (Below W.heap.size W wr) := HST.out.bel
          have hA2 : ∀ y ∈ ps.map toLn, y.x.arms.length ≤ 350000 := fun y hy => by
            obtain ⟨z, hz, rfl⟩ := List.mem_map.1 hy
            exact (hpn z hz).2.2
          have HC2 : Hid (∀ w, Below wr.heap.size wr w → Calls Tryz.prog 13 #[.slice am ps.length cm] w (CodR w (codeA (xs.map LnP.l)))) := fun w q => by
            have := lnCode_as (c := cm) (n := ps.length) (by rw [List.length_map]) (hin.below q) hno2 (by omega) (fun y hy => by have := hA2 y hy; omega)
            rw [hren.2.1] at this
            exact this
          have HN2 : Hid (∀ w, Below wr.heap.size wr w → Calls Tryz.prog 11 #[.slice am ps.length cm] w (NrmR w (normL (xs.map LnP.l)))) := fun w q => by
            have := lnNormal_as (c := cm) (n := ps.length) (by rw [List.length_map]) (hin.below q) hno2 hplen hA2
            rw [hren.2.2] at this
            exact this
          obtain ⟨L, hL⟩ : ∃ L, ps.length = L := ⟨_, rfl⟩
          rw [hL] at HC2 HN2
          rw [hL]
          clear hren hpn hplen hin hno2 hA2 hL HREN HPN HLB HXN HXS HNO HNN HST HKK
          generalize codeA (xs.map LnP.l) = CA at *
          generalize normL (xs.map LnP.l) = NA at *
          obtain ⟨CB, CE⟩ := CA
          obtain ⟨NB, NE⟩ := NA
          obtain ⟨LC, hLC⟩ : ∃ LC, CB.length = LC := ⟨_, rfl⟩
          obtain ⟨LN, hLN⟩ : ∃ LN, NB.length = LN := ⟨_, rfl⟩
          have HLC : Hid (CB.length = LC) := hLC
          have HLN : Hid (NB.length = LN) := hLN
          clear hLC hLN
          go_wp2_with (first | (refine Calls.mono (HC1.out wr HB.out) ?_) | fail)
          intro e w2 hr
          obtain ⟨a1, c1, rfl, r1, q1⟩ := codr_sh hr
          simp only at r1 ⊢
          rw [HLC.out] at r1 ⊢
          have HB2 : Hid (Below W.heap.size W w2) := HB.out.trans (q1.mono HB.out.size)
          have HR2 : Hid (Below wr.heap.size wr w2) := q1
          have HRW1 : Hid (Rw w2 5 1 (.slice a1 LC c1) LC (nums CB)) := r1
          clear hr r1 q1 HC1 HB
          go_wp2_with (first | (refine Calls.mono (HC2.out w2 HR2.out) ?_) | fail)
          intro e w3 hr
          obtain ⟨a2, c2, rfl, r2, q2⟩ := codr_sh hr
          simp only at r2 ⊢
          rw [HLC.out] at r2 ⊢
          have HB3 : Hid (Below W.heap.size W w3) := HB2.out.trans (q2.mono HB2.out.size)
          have HR3 : Hid (Below wr.heap.size wr w3) := HR2.out.trans (q2.mono HR2.out.size)
          have HRW2 : Hid (Rw w3 5 1 (.slice a1 LC c1) LC (nums CB) ∧ Rw w3 5 1 (.slice a2 LC c2) LC (nums CB)) := ⟨HRW1.out.belowR q2, r2⟩
          clear hr r2 q2 HC2 HB2 HR2 HRW1
          go_wp2_with (first | (refine Calls.mono (HN1.out w3 HB3.out) ?_) | fail)
          intro e w4 hr
          obtain ⟨a3, c3, xs3, rfl, l3, i3, e3, q3⟩ := nrm_in hr HNS.out.1 HNS.out.2
          simp only at l3 e3 ⊢
          rw [HLN.out] at l3 ⊢
          have HB4 : Hid (Below W.heap.size W w4) := HB3.out.trans (q3.mono HB3.out.size)
          have HR4 : Hid (Below wr.heap.size wr w4) := HR3.out.trans (q3.mono HR3.out.size)
          have HRW3 : Hid (Rw w4 5 1 (.slice a1 LC c1) LC (nums CB) ∧ Rw w4 5 1 (.slice a2 LC c2) LC (nums CB)) := ⟨HRW2.out.1.belowR q3, HRW2.out.2.belowR q3⟩
          have HI3 : Hid (LnsIn w4 a3 xs3 ∧ xs3.map LnP.l = NB ∧ xs3.length = LN) := ⟨i3, e3, l3⟩
          clear hr l3 i3 e3 q3 HN1 HB3 HR3 HRW2
          go_wp2_with (first | (refine Calls.mono (HN2.out w4 HR4.out) ?_) | fail)
          intro e w5 hr
          obtain ⟨a4, c4, xs4, rfl, l4, i4, e4, q4⟩ := nrm_in hr HNS.out.1 HNS.out.2
          simp only at l4 e4 ⊢
          rw [HLN.out] at l4 ⊢
          have HB5 : Hid (Below W.heap.size W w5) := HB4.out.trans (q4.mono HB4.out.size)
          have cv1 := conv_rw HLC.out (HRW3.out.1.belowR q4) HCS.out.1 (Nat.le_trans HCS.out.2 (by omega))
          have cv2 := conv_rw HLC.out (HRW3.out.2.belowR q4) HCS.out.1 (Nat.le_trans HCS.out.2 (by omega))
          have HSM : Hid (Calls Tryz.prog 34 #[.slice a3 LN c3, .slice a4 LN c4] w5 fun e w' => e = .returned (.bool true) ∧ Below w5.heap.size w5 w') := lnSame_as HI3.out.2.2.symm l4.symm (HI3.out.1.below q4) i4 true (by rw [HI3.out.2.1, e4]; simp)
          clear hr l4 i4 e4 q4 HN2 HB4 HR4 HRW3 HI3 HCS HNS HLC HLN
          generalize strN CB = SC at *
          go_wp2_with (first | (refine Calls.mono HSM.out ?_) | fail)
          rintro e w6 ⟨rfl, b6⟩
          have HB6 : Hid (Below W.heap.size W w6) := HB5.out.trans (b6.mono HB5.out.size)
          clear b6 HSM HB5 cv1 cv2
          go_wp2_with (first | (refine Calls.mono (HWORKS.out w6 HB6.out) ?_) | fail)
          rintro e w7 ⟨rfl, b7⟩
          have HB7 : Hid (Below W.heap.size W w7) := HB6.out.trans (b7.mono HB6.out.size)
          clear b7 HWORKS HB6
          go_wp2
          go_ret
          exact ⟨rfl, HB7.out⟩
end Go.Proofs.YtkmmnocooibljaaGreatDoor
