/-
  ImageSpoilt, walked.
-/
import Derived.Test.YtmmbdpdpkkikjaaGreatJbo
import Derived.Test.YtmmbdpdpkkikjaaGreatSp
import Derived.Test.YtmmbdpdpkkikjaaGreatAb
namespace Go.Proofs.YtmmbdpdpkkikjaaGreat
open Go.RowKit
set_option linter.unusedVariables false

/-- What Load answers, whatever it is. -/
theorem load_any {w : World} {a : Option Addr} {c : Nat} {xs : List Nat} (hl : Lies w a xs) (hc : xs.length ≤ c) (hcm : c ≤ 9223372036854775807) : Calls Tryz.prog 13 #[.slice a xs.length c] w fun e w' => (∃ a1 n1 c1 a2 n2 c2 a3 n3 c3, ∃ x y : Nat, e = .returned (.tuple #[.agg #[.slice a1 n1 c1, .slice a2 n2 c2, .slice a3 n3 c3], .int .i64 (x : Int), .int .i64 (y : Int)]) ∧ (y = 0 ↔ ∃ m, ldR xs = .inr m)) ∧ Below w.heap.size w w' := by
  refine (load_as hl hc hcm).mono ?_
  rintro e w' ⟨h1, h2⟩
  refine ⟨?_, h2⟩
  cases hr : ldR xs with
  | inl x =>
    rw [show ldK chkM xs = .inl x from hr] at h1
    have := (ld_in hl.1 hr).2
    exact ⟨_, _, _, _, _, _, _, _, _, x.1, x.2, h1, fun q => absurd q this, fun ⟨m, q⟩ => (by cases q)⟩
  | inr m =>
    rw [show ldK chkM xs = .inr m from hr] at h1
    obtain ⟨A, q1, q2, q3, -⟩ := h1
    exact ⟨_, _, _, _, _, _, _, _, _, 0, 0, q2, fun _ => ⟨m, rfl⟩, fun _ => rfl⟩
theorem nums_set (xs : List Nat) (i c : Nat) : nums (xs.set i c) = (nums xs).set i (.int .u8 (c : Int)) := by unfold nums; rw [List.map_set]
set_option maxHeartbeats 8000000 in
set_option maxRecDepth 100000 in
theorem spoilt_walk (W : World) (A : MoP) (hA : MoIn W A) (at_ : Int) (h1 : -9223372036854775808 ≤ at_) (h2 : at_ ≤ 9223372036854775807) (cc : Int) (hc0 : 0 ≤ cc) (hc1 : cc < 256) :
    Calls Tryz.prog 5 #[.agg A.cs, .int .i64 at_, .int .u8 cc] W fun e w' => e = .returned (.bool true) ∧ Below W.heap.size W w' := by
  obtain ⟨c, rfl⟩ := Int.eq_ofNat_of_zero_le hc0
  have hc2 : c < 256 := by omega
  have o1 := Own.new W A.cs 26
  have hb0 : Below W.heap.size W (W.alloc (.cells A.cs 26)) := new_below _ _
  have HBK : Hid (∀ w, Below W.heap.size W w → Calls Tryz.prog 9 #[.agg A.cs, .int .i64 10000] w (BulkRet A.mo 10000 w)) := fun w q => kBulk_as (hA.below q) 10000 (by omega) (by omega)
  have HEA : Hid ((A.mo.bulk : Int) ≤ 10000 → ∀ w, Below W.heap.size W w → Calls Tryz.prog 11 #[.agg A.cs] w (EncR w A)) := fun k w q => encode_as (hA.below q) (small_of (by omega))
  have HWK : Hid (∀ w, Calls Tryz.prog 10 #[] w fun e w' => e = .returned (.bool true) ∧ Below w.heap.size w w') := iworks_any
  have HBA : Hid (∀ c ∈ imgB (moB A.mo), c < 256) := imgB_byte (moB_byte hA)
  have HLL : Hid (chkE A = 0 → A.mo.bulk ≤ 10000 → (imgB (moB A.mo)).length ≤ 400000 ∧ 0 < (imgB (moB A.mo)).length) := fun h0 hk => by
    have := imgB_length (moB A.mo)
    have := moB_le (fit_of (parts_of h0))
    omega
  have HSS : Hid (chkE A = 0 → ∀ i, i < (imgB (moB A.mo)).length → ldR ((imgB (moB A.mo)).take i) = .inl (i, 10)) := fun h0 i hi => sp_short h0 hi
  have HSL : Hid (chkE A = 0 → A.mo.bulk ≤ 10000 → ldR (imgB (moB A.mo) ++ [c]) = .inl ((imgB (moB A.mo)).length, 130)) := fun h0 hk => sp_long h0 hk c
  have HSO : Hid (chkE A = 0 → ∀ i, i < (imgB (moB A.mo)).length → ((∃ m, ldR ((imgB (moB A.mo)).set i c) = .inr m) ↔ (imgB (moB A.mo)).getD i 0 = c)) := fun h0 i hi => sp_other hA h0 hc2 hi
  clear hA
  unfold MoP.cs at *
  generalize A.tys.length = n1 at *
  generalize A.txs.length = n2 at *
  generalize A.fns.length = n3 at *
  go_enter Tryz.func5, Tryz.ntmps5
  go_upto_region 1 with fail
  generalize W.alloc (.cells #[.slice A.ta n1 A.tc, .slice A.sa n2 A.sc, .slice A.fa n3 A.fc] 26) = w2 at *
  obtain ⟨x0, x1, x2, xf⟩ := own3 o1
  go_wp2_with fail
  refine Calls.mono (HBK.out w2 hb0) ?_
  rintro e w3 ⟨r1, rfl, hr1, b3⟩
  replace hb0 := hb0.trans (b3.mono hb0.size)
  replace o1 := o1.below b3
  clear x0 x1 x2 xf b3
  obtain ⟨x0, x1, x2, xf⟩ := own3 o1
  by_cases hq1 : (10000 : Int) < r1
  · clear hr1
    go_wp2_with fail
    refine Calls.mono (HWK.out w3) ?_
    rintro e w4 ⟨rfl, b4⟩
    replace hb0 := hb0.trans (b4.mono hb0.size)
    go_wp2
    go_ret
    exact ⟨rfl, hb0⟩
  · have hle1 : r1 ≤ 10000 := by omega
    have HK : Hid (A.mo.bulk ≤ 10000) := by have := hr1 hle1; rw [Hid]; omega
    have hC := HEA.out (by have := HK.out; omega) w3 hb0
    have hdq : decide ((10000 : Int) < r1) = false := by simp; omega
    clear hr1 hle1
    go_wp2_with fail
    refine Calls.mono hC ?_
    rintro e w5 ⟨⟨a1, L1, c1, rfl, p1, p2⟩, b5⟩
    replace hb0 := hb0.trans (b5.mono hb0.size)
    clear x0 x1 x2 xf b5 hC o1 HEA HBK
    by_cases hEA : chkE A = 0
    · obtain ⟨e1, r1, -⟩ := p1 hEA
      rw [hEA]
      obtain ⟨xs, hxs⟩ : ∃ xs, imgB (moB A.mo) = xs := ⟨_, rfl⟩
      rw [hxs] at e1 r1 HBA HLL HSS HSL HSO
      have HLL2 := HLL.out hEA HK.out
      have HSS2 : Hid _ := HSS.out hEA
      have HSL2 : Hid _ := HSL.out hEA HK.out
      have HSO2 : Hid _ := HSO.out hEA
      clear p1 p2 hEA hxs HK HLL HSS HSL HSO
      subst e1
      have hcap := r1.caps
      obtain ⟨a', c', e', hl⟩ := row_lies r1 HBA.out (by omega)
      cases e'
      have hcm : c1 ≤ 9223372036854775807 := by have := hcap.2; unfold maxLen at this; omega
      have HLI : Hid (∀ w, Below w5.heap.size w5 w → Lies w a1 xs) := fun w q => hl.below q
      have HCP : Hid (xs.length ≤ c1) := hcap.1
      have HL4 : Hid (xs.length ≤ 400000 ∧ 0 < xs.length) := HLL2
      obtain ⟨n, hn⟩ : ∃ n, xs.length = n := ⟨_, rfl⟩
      have HN : Hid (xs.length = n) := hn
      have hpick : 0 ≤ pk at_ (n : Int) ∧ pk at_ (n : Int) < n := by
        unfold pk
        rw [if_neg (by omega)]
        exact ⟨Int.emod_nonneg _ (by omega), Int.emod_lt_of_pos _ (by omega)⟩
      obtain ⟨i, hi⟩ := Int.eq_ofNat_of_zero_le hpick.1
      have hin : i < n := by omega
      have hP := pick_as at_ (n : Int) h1 h2 (by omega) (i : Int) hi w5
      rw [hn]
      clear hl hcap r1 hpick hi HLL2
      rw [hn] at HCP
      go_wp2_with fail
      refine Calls.mono hP ?_
      rintro e w ⟨rfl, rfl⟩
      clear hP
      have hini : (i : Int) ≤ (n : Int) := by omega
      have hin2 : (i : Int) < (n : Int) := by omega
      have hb5 : Below w5.heap.size w5 w5 := Below.refl _ _
      obtain ⟨b0, off, ha1⟩ : ∃ b0 off, a1 = some ⟨b0, off, none⟩ := by
        rcases (HLI.out w5 hb5).2.2 with h0 | ⟨b, off, e, -⟩
        · rw [h0] at hn; simp at hn; omega
        · exact ⟨b, off, e⟩
      subst ha1
      have hlt : (xs.take i).length = i := by rw [List.length_take]; omega
      have hC := load_bad (c := c1) (HSS2.out i (by rw [hn]; exact hin)) (show Lies w5 (some ⟨b0, off, none⟩) (xs.take i) by
        have := (HLI.out w5 hb5).part 0 i (by omega)
        rw [List.drop_zero, Nat.add_zero] at this
        exact this) (by rw [hlt]; have := HCP.out; omega) hcm
      rw [hlt] at hC
      have hcpi : (n : Int) ≤ (c1 : Int) := by have := HCP.out; omega
      have hici : (i : Int) ≤ (c1 : Int) := by omega
      go_wp2_with fail
      refine Calls.mono hC ?_
      clear hC
      rintro e w6 ⟨rfl, b6⟩
      replace hb5 := hb5.trans (b6.mono hb5.size)
      replace hb5 := hb5.alloc hb5.size (.cells zMd 26)
      clear b6
      have HF : Hid (∀ W, Below w5.heap.size w5 W → ∀ ao' n' c' w', n' = ([] ++ xs).length → Rw w' 5 1 (.slice ao' n' c') ([] ++ xs).length (nums ([] ++ xs)) → W.grownBy w' (Value.slice none 0 0).ownBlock → ((Value.slice ao' n' c').ownBlock = (Value.slice none 0 0).ownBlock ∨ (Value.slice ao' n' c').ownBlock = some W.heap.size) → ∃ g, ao' = some ⟨g, 0, none⟩ ∧ n' = n ∧ Rw w' 5 1 (.slice (some ⟨g, 0, none⟩) n c') n (nums xs) ∧ Below w5.heap.size w5 w' ∧ w5.heap.size ≤ g) := by
        intro W hW ao' n' c' w' q0 q1 q2 q3
        rw [List.nil_append] at q0 q1
        rw [hn] at q0 q1
        subst q0
        obtain ⟨g, cap, cur, e, -⟩ := q1.block (by omega)
        cases e
        refine ⟨g, rfl, rfl, q1, hW.grown q2 hW.size (fun k e => by cases e), ?_⟩
        rcases q3 with q3 | q3
        · cases q3
        · have e3 : g = W.heap.size := Option.some.inj q3
          have := hW.size
          omega
      have HLI5 : Hid (Lies (w6.alloc (.cells zMd 26)) (some ⟨b0, off, none⟩) xs) := HLI.out _ hb5
      have HBB : Hid _ := hb5
      have HI2 : Hid (i < n ∧ (i : Int) < (n : Int) ∧ c1 ≤ 9223372036854775807 ∧ c < 256 ∧ xs.length = n) := ⟨hin, hin2, hcm, hc2, hn⟩
      clear hlt hcpi hici hini hcm hc2 hn hin hin2 hb5 hc0 hc1 h1 h2
      go_upto_region 8 with fail
      generalize w6.alloc (.cells zMd 26) = w7 at *
      go_upto_region 12 with (refine wpList_appL (by rfl) (.tmp 50) (.tmp 51) (by rfl) (.slice none 0 0) [] (by rfl) (World.ownsRow_nil _ _ _ _) (some ⟨b0, off, none⟩) n c1 xs (by rfl) HLI5.out HI2.out.2.2.2.2.symm (fun e => by cases e) (by have := HL4.out; have := HI2.out.2.2.2.2; simp; omega) ?_; intro ao' n' c' w9 q0 q1 q2 q3; obtain ⟨g, rfl, hnn, rl, hb9, hg⟩ := HF.out _ HBB.out ao' n' c' w9 q0 q1 q2 q3; subst hnn; clear q0 q1 q2 q3 HF HLI5 HBB)
      have lf := World.ownsRow.frozenAt rl
      have hi2 := HI2.out.2.1
      have hcl : w9.cell? ⟨g, i, none⟩ = some (.int .u8 ((xs.getD i 0 : Nat) : Int)) := Rw.cells rl i _ (nums_get xs i (by rw [HI2.out.2.2.2.2]; exact HI2.out.1))
      go_upto_region 13 with fail
      clear lf hcl
      have rl2 := (World.ownsRow.stored rl i (.int .u8 (c : Int))).1
      have hb10 : Below w5.heap.size w5 (w9.setCell ⟨g, i, none⟩ (.int .u8 (c : Int))) := hb9.setCell hg _
      generalize w9.setCell ⟨g, i, none⟩ (.int .u8 (c : Int)) = w10 at *
      clear rl hb9
      rw [← nums_set] at rl2
      have hlen2 : (xs.set i c).length = n' := by rw [List.length_set]; exact HI2.out.2.2.2.2
      have hby2 : ∀ d ∈ xs.set i c, d < 256 := fun d hd => by
        rcases List.mem_or_eq_of_mem_set hd with h | h
        · exact HBA.out d h
        · rw [h]; exact HI2.out.2.2.2.1
      have HRL : Hid (Rw w10 5 1 (.slice (some ⟨g, 0, none⟩) n' c') n' (nums (xs.set i c))) := rl2
      have hcp2 : n' ≤ c' ∧ c' ≤ maxLen := Rw.caps rl2
      have hl2 : Lies w10 (some ⟨g, 0, none⟩) (xs.set i c) := lies_row hlen2.symm rl2 hby2 (by have := HL4.out; rw [HI2.out.2.2.2.2] at this; omega)
      have hC := load_any (c := c') hl2 (by rw [hlen2]; exact hcp2.1) (by have := hcp2.2; unfold maxLen at this; omega)
      rw [hlen2] at hC
      have HYX : Hid ((∃ m, ldR (xs.set i c) = .inr m) ↔ xs.getD i 0 = c) := HSO2.out i (by rw [HI2.out.2.2.2.2]; exact HI2.out.1)
      have HB10 : Hid _ := hb10
      clear rl2 hlen2 hby2 hcp2 hl2 hb10
      go_wp2_with fail
      refine Calls.mono hC ?_
      clear hC
      rintro e w11 ⟨⟨m1, m2, m3, m4, m5, m6, m7, m8, m9, X, Y, rfl, hXY⟩, b11⟩
      rw [HYX.out] at hXY
      have hb12 : Below w5.heap.size w5 (w11.alloc (.cells #[.slice m1 m2 m3, .slice m4 m5 m6, .slice m7 m8 m9] 26)) := (HB10.out.trans (b11.mono HB10.out.size)).alloc (HB10.out.trans (b11.mono HB10.out.size)).size _
      have HRL2 : Hid (Rw (w11.alloc (.cells #[.slice m1 m2 m3, .slice m4 m5 m6, .slice m7 m8 m9] 26)) 5 1 (.slice (some ⟨g, 0, none⟩) n' c') n' (nums (xs.set i c))) := (HRL.out.belowR b11).belowR (new_below _ _)
      have hbc : (w11.alloc (.cells #[.slice m1 m2 m3, .slice m4 m5 m6, .slice m7 m8 m9] 26)).cell? ⟨b0, off + i, none⟩ = some (.int .u8 ((xs.getD i 0 : Nat) : Int)) := by
        rcases (HLI.out _ hb12).2.2 with h0 | ⟨b', off', e', hcl⟩
        · have := HL4.out.2; rw [h0] at this; simp at this
        · cases e'; exact hcl i (by rw [HI2.out.2.2.2.2]; exact HI2.out.1)
      have HB12 : Hid _ := hb12
      clear HRL HB10 b11 HYX hb12
      go_upto_region 14 with fail
      generalize w11.alloc (.cells #[.slice m1 m2 m3, .slice m4 m5 m6, .slice m7 m8 m9] 26) = w12 at *
      generalize hKd : xs.getD i 0 = Kd at *
      have HKd : Hid (xs.getD i 0 = Kd) := hKd
      clear hKd
      have hdec : (Y = 0 ∧ Kd = c) ∨ (¬ Y = 0 ∧ ¬ Kd = c) := by
        by_cases h : Kd = c
        · exact .inl ⟨hXY.2 h, h⟩
        · exact .inr ⟨fun q => h (hXY.1 q), h⟩
      clear hXY
      have HR17 : Hid (∀ w13 : World, Below w5.heap.size w5 w13 → Rw w13 5 1 (.slice (some ⟨g, 0, none⟩) n' c') n' (nums xs) → ∀ ao2 n2 c2 w15, n2 = (xs ++ [c]).length → Rw w15 5 1 (.slice ao2 n2 c2) (xs ++ [c]).length (nums (xs ++ [c])) → (w13.alloc (.cells #[.int .u8 (c : Int)] 5)).grownBy w15 (Value.slice (some ⟨g, 0, none⟩) n' c').ownBlock → Below w5.heap.size w5 w15 ∧ Calls Tryz.prog 13 #[.slice ao2 n2 c2] w15 (fun e w' => e = .returned (.tuple #[.agg zMd, .int .i64 (n' : Int), .int .i64 130]) ∧ Below w15.heap.size w15 w')) := by
        intro w13 hb13 hr13 ao2 n2 c2 w15 q0 q1 q2
        subst q0
        have hb14 := hb13.alloc hb13.size (.cells #[.int .u8 (c : Int)] 5)
        have hby : ∀ d ∈ xs ++ [c], d < 256 := fun d hd => by
          rcases List.mem_append.1 hd with h | h
          · exact HBA.out d h
          · simp at h; rw [h]; exact HI2.out.2.2.2.1
        have hcp := Rw.caps q1
        obtain ⟨a', c'', e', hl⟩ := row_lies q1 hby (by have := HL4.out; rw [List.length_append]; simp; omega)
        cases e'
        refine ⟨hb14.grown q2 hb14.size (fun k e => by cases e; exact hg), ?_⟩
        have := load_bad HSL2.out hl hcp.1 (by have := hcp.2; unfold maxLen at this; omega)
        rw [HI2.out.2.2.2.2] at this
        exact this
      have HLC : Hid (∀ w13 : World, Lies (w13.alloc (.cells #[.int .u8 (c : Int)] 5)) (some ⟨w13.heap.size, 0, none⟩) [c]) := fun w13 => by
        have o := Own.new w13 #[.int .u8 (c : Int)] 5
        refine ⟨fun d hd => by simp at hd; rw [hd]; exact HI2.out.2.2.2.1, by simp, .inr ⟨w13.heap.size, 0, rfl, fun k hk => ?_⟩⟩
        obtain rfl : k = 0 := by simp at hk; omega
        simp
      have HST : Hid ((xs.set i c).set i Kd = xs) := by
        have hix : i < xs.length := by rw [HI2.out.2.2.2.2]; exact HI2.out.1
        have e1 : Kd = xs[i] := by rw [← HKd.out]; simp [List.getD, hix]
        rw [Hid, List.set_set, e1, List.set_getElem_self]
      have lf2 := World.ownsRow.frozenAt HRL2.out
      have hcl2 : w12.cell? ⟨g, i, none⟩ = some (.int .u8 (((xs.set i c).getD i 0 : Nat) : Int)) := Rw.cells HRL2.out i _ (nums_get _ i (by rw [List.length_set, HI2.out.2.2.2.2]; exact HI2.out.1))
      generalize (xs.set i c).getD i 0 = Ke at *
      have hbR : Hid (Below w5.heap.size w5 (w12.setCell ⟨g, i, none⟩ (.int .u8 (Kd : Int))) ∧ Rw (w12.setCell ⟨g, i, none⟩ (.int .u8 (Kd : Int))) 5 1 (.slice (some ⟨g, 0, none⟩) n' c') n' (nums xs)) := by
        refine ⟨HB12.out.setCell hg _, ?_⟩
        have := (World.ownsRow.stored HRL2.out i (.int .u8 (Kd : Int))).1
        rw [← nums_set, HST.out] at this
        exact this
      clear HRL2 HB12 HST HKd HSL2 HSO2 HSS2 HLI
      rcases hdec with ⟨hY, hK⟩ | ⟨hY, hK⟩
      · have hKb : ((Kd : Int) == (c : Int)) = true := by simp; omega
        have hKi : decide ((Kd : Int) = (c : Int)) = true := by simp; omega
        have hYb : ((Y : Int) == 0) = true := by simp; omega
        have hYi : decide ((Y : Int) = 0) = true := by simp; omega
        clear hY hK
        go_upto_region 17 with fail
        clear lf2 hcl2 hbc
        generalize w12.setCell ⟨g, i, none⟩ (.int .u8 (Kd : Int)) = w13 at *
        go_upto_region 18 with (refine wpList_appL (by rfl) (.tmp 79) (.tmp 81) (by rfl) (.slice (some ⟨g, 0, none⟩) n' c') xs (by rfl) (by rw [HI2.out.2.2.2.2]; exact hbR.out.2.belowR (new_below _ _)) (some ⟨w13.heap.size, 0, none⟩) 1 1 [c] (by rfl) (HLC.out w13) rfl (fun e => by cases e) (by have := HL4.out; omega) ?_; intro ao2 n2 c2 w15 q0 q1 q2 q3; have HZ2 : Hid _ := HR17.out w13 hbR.out.1 hbR.out.2 ao2 n2 c2 w15 q0 q1 q2; clear q0 q1 q2 q3 hbR HR17 HLC)
        go_wp2_with fail
        refine Calls.mono HZ2.out.2 ?_
        rintro e w16 ⟨rfl, b16⟩
        have hb16 : Below w5.heap.size w5 w16 := HZ2.out.1.trans (b16.mono HZ2.out.1.size)
        have hbf : Below W.heap.size W (w16.alloc (.cells zMd 26)) := (hb0.trans (hb16.mono hb0.size)).alloc (hb0.trans (hb16.mono hb0.size)).size _
        have HBF : Hid _ := hbf
        clear b16 hb16 hbf HZ2 hb0
        go_upto_region 19 with fail
        generalize w16.alloc (.cells zMd 26) = w17 at *
        go_wp2_with fail
        refine Calls.mono (HWK.out w17) ?_
        rintro e w18 ⟨rfl, b18⟩
        have HBG : Hid _ := HBF.out.trans (b18.mono HBF.out.size)
        clear b18
        go_wp2
        go_ret
        exact ⟨rfl, HBG.out⟩
      · have hYi : ¬ (Y : Int) = 0 := by omega
        have hYb : ((Y : Int) == 0) = false := by simp; omega
        have hKi : ¬ (Kd : Int) = (c : Int) := by omega
        have hKb : ((Kd : Int) == (c : Int)) = false := by simp; omega
        clear hY hK
        go_upto_region 17 with fail
        clear lf2 hcl2 hbc
        generalize w12.setCell ⟨g, i, none⟩ (.int .u8 (Kd : Int)) = w13 at *
        go_upto_region 18 with (refine wpList_appL (by rfl) (.tmp 79) (.tmp 81) (by rfl) (.slice (some ⟨g, 0, none⟩) n' c') xs (by rfl) (by rw [HI2.out.2.2.2.2]; exact hbR.out.2.belowR (new_below _ _)) (some ⟨w13.heap.size, 0, none⟩) 1 1 [c] (by rfl) (HLC.out w13) rfl (fun e => by cases e) (by have := HL4.out; omega) ?_; intro ao2 n2 c2 w15 q0 q1 q2 q3; have HZ2 : Hid _ := HR17.out w13 hbR.out.1 hbR.out.2 ao2 n2 c2 w15 q0 q1 q2; clear q0 q1 q2 q3 hbR HR17 HLC)
        go_wp2_with fail
        refine Calls.mono HZ2.out.2 ?_
        rintro e w16 ⟨rfl, b16⟩
        have hb16 : Below w5.heap.size w5 w16 := HZ2.out.1.trans (b16.mono HZ2.out.1.size)
        have hbf : Below W.heap.size W (w16.alloc (.cells zMd 26)) := (hb0.trans (hb16.mono hb0.size)).alloc (hb0.trans (hb16.mono hb0.size)).size _
        have HBF : Hid _ := hbf
        clear b16 hb16 hbf HZ2 hb0
        go_upto_region 19 with fail
        generalize w16.alloc (.cells zMd 26) = w17 at *
        go_wp2_with fail
        refine Calls.mono (HWK.out w17) ?_
        rintro e w18 ⟨rfl, b18⟩
        have HBG : Hid _ := HBF.out.trans (b18.mono HBF.out.size)
        clear b18
        go_wp2
        go_ret
        exact ⟨rfl, HBG.out⟩
    · have hd : (((chkE A : Nat) : Int) == 0) = false := by simp; omega
      clear p1 p2
      go_wp2_with fail
      refine Calls.mono (HWK.out w5) ?_
      rintro e w7 ⟨rfl, b7⟩
      replace hb0 := hb0.trans (b7.mono hb0.size)
      go_wp2
      go_ret
      exact ⟨rfl, hb0⟩
end Go.Proofs.YtmmbdpdpkkikjaaGreat
