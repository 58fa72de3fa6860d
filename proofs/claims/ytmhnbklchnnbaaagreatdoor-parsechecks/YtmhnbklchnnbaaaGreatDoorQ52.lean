import Derived.Test.YtmhnbklchnnbaaaGreatDoorQ51
import Derived.Test.YtmhnbklchnnbaaaGreatDoorJCkCheck
import Derived.Test.YtmhnbklchnnbaaaGreatDoorQ46
import Derived.Test.YtmhnbklchnnbaaaGreatDoorQ28
import Derived.Test.YtmhnbklchnnbaaaGreatDoorQ47
import Derived.Deep.RegionHeld3
set_option maxHeartbeats 8000000
set_option maxRecDepth 100000
namespace Go.Proofs.YtmhnbklchnnbaaaGreatDoor
open Go.RowKit
set_option linter.unusedVariables false
set_option linter.unusedSimpArgs false
theorem zCheck_as (t : Tree) (hw : wideTr t) (hc : cntT t ≤ 1000000000) (w : World) (k a : Int) (b : ByteArray) (n : Int) (v : Value) (hN : NodeR w t k a b n v) : Calls Tryz.prog 7 #[.agg #[.int .u8 k, .int .i64 a, .string b, .int .u64 n, v]] w fun en w' => en = .returned (.int .i64 (checkN t : Int)) ∧ Below w.heap.size w w' := by
  obtain ⟨ao, m, cap, rfl, hF⟩ := Fl.of hN hw
  have HF : Hid (Fl w t k a b n ao m cap) := hF
  have o0 := Own.new w #[.int .u8 k, .int .i64 a, .string b, .int .u64 n, .slice ao m cap] 25
  have hb0 : Below w.heap.size w (w.alloc (.cells #[.int .u8 k, .int .i64 a, .string b, .int .u64 n, .slice ao m cap] 25)) := (Below.refl _ _).alloc (Nat.le_refl _) _
  obtain ⟨c, hcc⟩ : ∃ c : Nat, min (cntT t) 65537 = c := ⟨_, rfl⟩
  have CC : ∀ W : World, Below w.heap.size w W → Calls Tryz.prog 13 #[.agg #[.int .u8 k, .int .i64 a, .string b, .int .u64 n, .slice ao m cap]] W fun en w' => en = .returned (.int .i64 (c : Int)) ∧ Below W.heap.size W w' := fun W hW => by have := zcnt_as _ t (Nat.le_refl _) W k a b n (.slice ao m cap) (HF.out.below hW).1; rw [hcc] at this; exact this
  obtain ⟨q8, hq8⟩ : ∃ q, vR 8 t = q := ⟨_, rfl⟩
  have C8 : ∀ W : World, Below w.heap.size w W → Calls Tryz.prog 14 #[.agg #[.int .u8 k, .int .i64 a, .string b, .int .u64 n, .slice ao m cap], .int .i64 8] W fun en w' => en = .returned (.bool q8) ∧ Below W.heap.size W w' := fun W hW => by have := is_all _ t (Nat.le_refl _) hc hw 8 (by omega) (by omega) W k a b n (.slice ao m cap) (HF.out.below hW).1; rw [hq8] at this; exact this
  obtain ⟨q2, hq2⟩ : ∃ q, vR 2 t = q := ⟨_, rfl⟩
  have C2 : ∀ W : World, Below w.heap.size w W → Calls Tryz.prog 14 #[.agg #[.int .u8 k, .int .i64 a, .string b, .int .u64 n, .slice ao m cap], .int .i64 2] W fun en w' => en = .returned (.bool q2) ∧ Below W.heap.size W w' := fun W hW => by have := is_all _ t (Nat.le_refl _) hc hw 2 (by omega) (by omega) W k a b n (.slice ao m cap) (HF.out.below hW).1; rw [hq2] at this; exact this
  obtain ⟨q1, hq1⟩ : ∃ q, vR 1 t = q := ⟨_, rfl⟩
  have C1 : ∀ W : World, Below w.heap.size w W → Calls Tryz.prog 14 #[.agg #[.int .u8 k, .int .i64 a, .string b, .int .u64 n, .slice ao m cap], .int .i64 1] W fun en w' => en = .returned (.bool q1) ∧ Below W.heap.size W w' := fun W hW => by have := is_all _ t (Nat.le_refl _) hc hw 1 (by omega) (by omega) W k a b n (.slice ao m cap) (HF.out.below hW).1; rw [hq1] at this; exact this
  obtain ⟨q3, hq3⟩ : ∃ q, vR 3 t = q := ⟨_, rfl⟩
  have C3 : ∀ W : World, Below w.heap.size w W → Calls Tryz.prog 14 #[.agg #[.int .u8 k, .int .i64 a, .string b, .int .u64 n, .slice ao m cap], .int .i64 3] W fun en w' => en = .returned (.bool q3) ∧ Below W.heap.size W w' := fun W hW => by have := is_all _ t (Nat.le_refl _) hc hw 3 (by omega) (by omega) W k a b n (.slice ao m cap) (HF.out.below hW).1; rw [hq3] at this; exact this
  have HC : Hid (min (cntT t) 65537 = c) := hcc
  have HV : Hid (validT 0 t = (q8 || (q2 || (q1 || q3)))) := by unfold Hid; rw [v_0, hq8, hq2, hq1, hq3]
  clear hF hN hcc hq8 hq2 hq1 hq3 hc
  by_cases hbig : 65536 < c
  · have HS : Hid (checkN t = 3) := by unfold Hid checkN; rw [if_pos (by have := HC.out; omega)]
    have hi : (65536 : Int) < (c : Int) := by omega
    go_enter Tryz.func7, Tryz.ntmps7
    go_wp2_with fail
    refine (CC _ hb0).mono ?_
    rintro en w1 ⟨rfl, hb1'⟩
    have o1 := o0.below hb1'
    have hb1 := hb0.trans (hb1'.mono hb0.size)
    obtain ⟨p10, p11, p12, p13, p14, p15⟩ := o1.five
    have hl1 := o1.lt
    clear hb1'
    go_wp2
    go_ret
    exact ⟨by rw [HS.out]; rfl, hb1⟩
  · have HS : Hid (checkN t = if (q8 || (q2 || (q1 || q3))) then 0 else 50) := by unfold Hid checkN; rw [if_neg (by have := HC.out; omega), HV.out]
    have hi : ¬ ((65536 : Int) < (c : Int)) := by omega
    go_enter Tryz.func7, Tryz.ntmps7
    go_wp2_with fail
    refine (CC _ hb0).mono ?_
    rintro en w1 ⟨rfl, hb1'⟩
    have o1 := o0.below hb1'
    have hb1 := hb0.trans (hb1'.mono hb0.size)
    obtain ⟨p10, p11, p12, p13, p14, p15⟩ := o1.five
    have hl1 := o1.lt
    clear hb1'
    go_wp2_with fail
    refine (C8 _ hb1).mono ?_
    rintro en w2 ⟨rfl, hb2'⟩
    have o2 := o1.below hb2'
    have hb2 := hb1.trans (hb2'.mono hb1.size)
    obtain ⟨p20, p21, p22, p23, p24, p25⟩ := o2.five
    have hl2 := o2.lt
    clear hb2'
    cases q8 with
    | true =>
      go_wp2
      go_ret
      exact ⟨by rw [HS.out]; rfl, hb2⟩
    | false =>
      go_wp2_with fail
      refine (C2 _ hb2).mono ?_
      rintro en w3 ⟨rfl, hb3'⟩
      have o3 := o2.below hb3'
      have hb3 := hb2.trans (hb3'.mono hb2.size)
      obtain ⟨p30, p31, p32, p33, p34, p35⟩ := o3.five
      have hl3 := o3.lt
      clear hb3'
      cases q2 with
      | true =>
        go_wp2
        go_ret
        exact ⟨by rw [HS.out]; rfl, hb3⟩
      | false =>
        go_wp2_with fail
        refine (C1 _ hb3).mono ?_
        rintro en w4 ⟨rfl, hb4'⟩
        have o4 := o3.below hb4'
        have hb4 := hb3.trans (hb4'.mono hb3.size)
        obtain ⟨p40, p41, p42, p43, p44, p45⟩ := o4.five
        have hl4 := o4.lt
        clear hb4'
        cases q1 with
        | true =>
          go_wp2
          go_ret
          exact ⟨by rw [HS.out]; rfl, hb4⟩
        | false =>
          go_wp2_with fail
          refine (C3 _ hb4).mono ?_
          rintro en w5 ⟨rfl, hb5'⟩
          have o5 := o4.below hb5'
          have hb5 := hb4.trans (hb5'.mono hb4.size)
          obtain ⟨p50, p51, p52, p53, p54, p55⟩ := o5.five
          have hl5 := o5.lt
          clear hb5'
          cases q3 with
          | true =>
            go_wp2
            go_ret
            exact ⟨by rw [HS.out]; rfl, hb5⟩
          | false =>
            go_wp2
            go_ret
            exact ⟨by rw [HS.out]; rfl, hb5⟩
theorem cntL_len2 : ∀ ts : List Tree, ts.length ≤ cntT.cntL ts := by
  intro ts
  induction ts with
  | nil => simp
  | cons t ts ih => rw [cntT.cntL, List.length_cons, cnt_parts]; omega
theorem good_of : ∀ (N : Nat) (t : Tree), cntT t ≤ N → N ≤ 1000000 → wideTr t → goodTr t := by
  intro N
  induction N with
  | zero => intro t h; rw [cnt_parts] at h; omega
  | succ N ih =>
    intro t h hN hw
    rw [good_parts]
    obtain ⟨h1, h2, h3⟩ := (wide_parts t).1 hw
    have hl := cntL_len2 t.kids
    rw [cnt_parts] at h
    refine ⟨h1, by omega, ?_⟩
    have : ∀ ts : List Tree, (∀ u ∈ ts, goodTr u) → goodTr.goodTL ts := by
      intro ts
      induction ts with
      | nil => intro _; rw [goodTr.goodTL]; trivial
      | cons u ts ih2 => intro hu; rw [goodTr.goodTL]; exact ⟨hu u (by simp), ih2 fun x hx => hu x (by simp [hx])⟩
    refine this _ fun u hu => ?_
    obtain ⟨j, hj⟩ := List.getElem?_of_mem hu
    exact ih u (Nat.le_trans (cnt_get hj) (by omega)) (by omega) (wideTL_get _ h3 j u hj)
set_option linter.unusedSimpArgs false
theorem parseChecks_walk (t : Tree) (k a : Int) (b : ByteArray) (n : Int) (v : Value) (w : World) (hN : NodeR w t k a b n v) (hw : wideTr t) (HL : Hid (Laid w)) : Calls Tryz.prog 3 #[.agg #[.int .u8 k, .int .i64 a, .string b, .int .u64 n, v]] w fun en w' => en = .returned (.bool true) ∧ Below w.heap.size w w' := by
  obtain ⟨ao, m, cap, rfl, hF⟩ := Fl.of hN hw
  have HF : Hid (Fl w t k a b n ao m cap) := hF
  have o0 := Own.new w #[.int .u8 k, .int .i64 a, .string b, .int .u64 n, .slice ao m cap] 25
  have hb0 : Below w.heap.size w (w.alloc (.cells #[.int .u8 k, .int .i64 a, .string b, .int .u64 n, .slice ao m cap] 25)) := (Below.refl _ _).alloc (Nat.le_refl _) _
  obtain ⟨c, hcc⟩ : ∃ c : Nat, min (cntT t) 70001 = c := ⟨_, rfl⟩
  have CC : ∀ W : World, Below w.heap.size w W → Calls Tryz.prog 4 #[.agg #[.int .u8 k, .int .i64 a, .string b, .int .u64 n, .slice ao m cap], .int .i64 70000] W fun en w' => en = .returned (.int .i64 (c : Int)) ∧ Below W.heap.size W w' := fun W hW => by have := kNodes_as _ t (Nat.le_refl _) W k a b n (.slice ao m cap) (HF.out.below hW).1; rw [hcc] at this; exact this
  have HC : Hid (min (cntT t) 70001 = c) := hcc
  have HW : Hid (wideTr t) := hw
  clear hF hN hcc hw
  by_cases hbig : 70000 < c
  · have hi : (70000 : Int) < (c : Int) := by omega
    go_enter Tryz.func3, Tryz.ntmps3
    go_wp2_with fail
    refine (CC _ hb0).mono ?_
    rintro en w1 ⟨rfl, hb1'⟩
    have o1 := o0.below hb1'
    have hb1 := hb0.trans (hb1'.mono hb0.size)
    obtain ⟨p10, p11, p12, p13, p14, p15⟩ := o1.five
    have hl1 := o1.lt
    clear hb1'
    go_wp2
    go_ret
    exact ⟨rfl, hb1⟩
  · have hi : ¬ ((70000 : Int) < (c : Int)) := by omega
    have HCN : Hid (cntT t ≤ 70000) := by unfold Hid; have := HC.out; omega
    have CLN : ∀ W : World, Below w.heap.size w W → Calls Tryz.prog 5 #[.agg #[.int .u8 k, .int .i64 a, .string b, .int .u64 n, .slice ao m cap]] W fun en w' => ∃ v', en = .returned (.agg #[.int .u8 k, .int .i64 a, .string b, .int .u64 n, v']) ∧ LentK w' (fun g => W.heap.size ≤ g ∧ g < w'.heap.size) v' t.kids ∧ Below W.heap.size W w' := fun W hW => klent_as _ t HCN.out (Nat.le_refl _) W k a b n (.slice ao m cap) (HF.out.below hW).1
    go_enter Tryz.func3, Tryz.ntmps3
    go_wp2_with fail
    refine (CC _ hb0).mono ?_
    rintro en w1 ⟨rfl, hb1'⟩
    have o1 := o0.below hb1'
    have hb1 := hb0.trans (hb1'.mono hb0.size)
    obtain ⟨p10, p11, p12, p13, p14, p15⟩ := o1.five
    have hl1 := o1.lt
    clear hb1'
    go_wp2_with fail
    refine (CLN _ hb1).mono ?_
    rintro en w2 ⟨v2, rfl, hLK, hb2'⟩
    have o2 := o1.below hb2'
    have hb2 := hb1.trans (hb2'.mono hb1.size)
    obtain ⟨gq, cq, curq, ysq, rfl, _⟩ := id hLK
    obtain ⟨L, hL⟩ : ∃ L, t.kids.length = L := ⟨_, rfl⟩
    rw [hL]
    have oX := Own.new w2 #[.int .u8 k, .int .i64 a, .string b, .int .u64 n, .slice (some ⟨gq, 0, none⟩) L cq] 25
    have hbX : Below w2.heap.size w2 (w2.alloc (.cells #[.int .u8 k, .int .i64 a, .string b, .int .u64 n, .slice (some ⟨gq, 0, none⟩) L cq] 25)) := (Below.refl _ _).alloc (Nat.le_refl _) _
    have oN := o2.below hbX
    have hb3 := hb2.trans (hbX.mono hb2.size)
    have HLK : Hid (LentK w2 (fun g => g < w2.heap.size) (.slice (some ⟨gq, 0, none⟩) L cq) t.kids) := by unfold Hid; rw [← hL]; exact LentK.on (fun g hg => ⟨rfl, hg.2⟩) hLK
    have hN2 := (HF.out.below hb2).1
    have HN2 : Hid (NodeR w2 t k a b n (.slice ao m cap)) := hN2
    have HNX : Hid (NodeR w2 t k a b n (.slice (some ⟨gq, 0, none⟩) L cq)) := ⟨hN2.1, hN2.2.1, hN2.2.2.1, hN2.2.2.2.1, by have := HLK.out.rd; rw [← hL] at this ⊢; exact this⟩
    have HG : Hid (goodTr t) := good_of _ t HCN.out (by omega) HW.out
    have HL2 : Hid (Laid w2) := HL.out.on hb2
    obtain ⟨q, hq⟩ : ∃ q : Int, (checkN t : Int) = q := ⟨_, rfl⟩
    have CP : ∀ W : World, Below w2.heap.size w2 W → Calls Tryz.prog 6 #[.agg #[.int .u8 k, .int .i64 a, .string b, .int .u64 n, .slice (some ⟨gq, 0, none⟩) L cq]] W fun en w' => en = .returned (.int .i64 q) ∧ Below W.heap.size W w' := fun W hW => by have := pCheck_as W t HG.out k a b n _ (HNX.out.below hW); rw [hq] at this; exact this
    have CZ : ∀ W : World, Below w2.heap.size w2 W → Calls Tryz.prog 7 #[.agg #[.int .u8 k, .int .i64 a, .string b, .int .u64 n, .slice ao m cap]] W fun en w' => en = .returned (.int .i64 q) ∧ Below W.heap.size W w' := fun W hW => by have := zCheck_as t HW.out (by have := HCN.out; omega) W k a b n _ (HN2.out.below hW); rw [hq] at this; exact this
    have CK : ∀ W : World, Below w2.heap.size w2 W → Calls Tryz.prog 8 #[.agg #[.int .u8 k, .int .i64 a, .string b, .int .u64 n, .slice (some ⟨gq, 0, none⟩) L cq], .agg #[.int .u8 k, .int .i64 a, .string b, .int .u64 n, .slice ao m cap]] W fun en w' => en = .returned (.bool true) ∧ Below W.heap.size W w' := fun W hW => kkept_as _ t (Nat.le_refl _) W k a b n _ _ (LentK.on (fun g hg => ⟨hW.block g hg, Nat.lt_of_lt_of_le hg hW.size⟩) HLK.out) (HN2.out.below hW)
    have CW : ∀ W : World, Below w2.heap.size w2 W → Calls Tryz.prog 9 #[] W fun en w' => en = .returned (.bool true) ∧ Below W.heap.size W w' := fun W hW => works_any W (HL2.out.on hW)
    have hlw := o2.lt
    clear hq hL hLK hN2 o0 o1 hb0 hb1 hb2' p10 p11 p12 p13 p14 p15 hl1 CC CLN
    go_wp2_with fail
    obtain ⟨W3, hW3⟩ : ∃ W3, w2.alloc (.cells #[.int .u8 k, .int .i64 a, .string b, .int .u64 n, .slice (some ⟨gq, 0, none⟩) L cq] 25) = W3 := ⟨_, rfl⟩
    rw [hW3] at oX oN hbX hb3
    obtain ⟨x0, x1, x2, x3, x4, x5⟩ := oX.five
    obtain ⟨y0, y1, y2, y3, y4, y5⟩ := oN.five
    have hlX := oX.lt
    have hlN := oN.lt
    simp only [hW3]
    refine wp_region_held_drew (S := (fun w' => w'.cell? ⟨w2.heap.size, 0, none⟩ = some (.int .u8 k) ∧ w'.cell? ⟨w2.heap.size, 1, none⟩ = some (.int .i64 a) ∧ w'.cell? ⟨w2.heap.size, 2, none⟩ = some (.string b) ∧ w'.cell? ⟨w2.heap.size, 3, none⟩ = some (.int .u64 n) ∧ w'.cell? ⟨w2.heap.size, 4, none⟩ = some (.slice (some ⟨gq, 0, none⟩) L cq) ∧ w'.cell? ⟨w.heap.size, 0, none⟩ = some (.int .u8 k) ∧ w'.cell? ⟨w.heap.size, 1, none⟩ = some (.int .i64 a) ∧ w'.cell? ⟨w.heap.size, 2, none⟩ = some (.string b) ∧ w'.cell? ⟨w.heap.size, 3, none⟩ = some (.int .u64 n) ∧ w'.cell? ⟨w.heap.size, 4, none⟩ = some (.slice ao m cap))) (by kernel_rfl) (by exact ⟨x0, x1, x2, x3, x4, y0, y1, y2, y3, y4⟩) (fun hHeld => ?_)
    refine wpAnyH_take (i := 0) (v := ?vo0) rfl (by kernel_rfl) (by kernel_rfl) (by kernel_rfl) (fun _ _ _ h => h) (Or.inl ⟨by rfl, ?hyo0⟩) (by assumption) ?resto0
    case hyo0 => (intro wS hSw; (try dsimp only at hSw); go_simp; try with_reducible rfl)
    try simp only [Act.put, List.getElem_toArray, List.getElem_cons_zero, List.getElem_cons_succ, List.setIfInBounds_toArray, List.set_cons_zero, List.set_cons_succ]
    refine wpAnyH_take (i := 2) (v := ?vo2) rfl (by kernel_rfl) (by kernel_rfl) (by kernel_rfl) (fun _ _ _ h => h) (Or.inl ⟨by rfl, ?hyo2⟩) (by assumption) ?resto2
    case hyo2 => (intro wS hSw; (try dsimp only at hSw); go_simp; try with_reducible rfl)
    try simp only [Act.put, List.getElem_toArray, List.getElem_cons_zero, List.getElem_cons_succ, List.setIfInBounds_toArray, List.set_cons_zero, List.set_cons_succ]
    refine wpAnyH_ready (rs := [1]) (by kernel_rfl) (by simp) ?_
    refine AllReadyH.cons rfl (fun KK hKK => ?_) AllReadyH.nil
    go_simp
    go_at_call 6
    refine (CP _ (bdrew hbX)).mono ?_
    rintro en wzpa ⟨rfl, hzzpa⟩
    have oXpa := oX.drew.below hzzpa
    have oNpa := oN.drew.below hzzpa
    have hzpa : Below w2.heap.size w2 wzpa := (bdrew hbX).trans (hzzpa.mono (by rw [World.size_drew]; exact hbX.size))
    obtain ⟨xpa0, xpa1, xpa2, xpa3, xpa4, xpa5⟩ := oXpa.five
    obtain ⟨ypa0, ypa1, ypa2, ypa3, ypa4, ypa5⟩ := oNpa.five
    have hlXpa := oXpa.lt
    try go_wp2_with fail
    refine hKK.out _ _ (by exact ⟨xpa0, xpa1, xpa2, xpa3, xpa4, ypa0, ypa1, ypa2, ypa3, ypa4⟩) (fun hHeldpa => ?_)
    clear hKK KK
    try simp only [Act.put, List.getElem_toArray, List.getElem_cons_zero, List.getElem_cons_succ, List.setIfInBounds_toArray, List.set_cons_zero, List.set_cons_succ]
    refine wpAnyH_ready (rs := [3]) (by kernel_rfl) (by simp) ?_
    refine AllReadyH.cons rfl (fun KK hKK => ?_) AllReadyH.nil
    go_simp
    go_at_call 7
    refine (CZ _ hzpa).mono ?_
    rintro en wzpb ⟨rfl, hzzpb⟩
    have oXpb := oXpa.below hzzpb
    have oNpb := oNpa.below hzzpb
    have hzpb : Below w2.heap.size w2 wzpb := hzpa.trans (hzzpb.mono hzpa.size)
    obtain ⟨xpb0, xpb1, xpb2, xpb3, xpb4, xpb5⟩ := oXpb.five
    obtain ⟨ypb0, ypb1, ypb2, ypb3, ypb4, ypb5⟩ := oNpb.five
    have hlXpb := oXpb.lt
    try go_wp2_with fail
    refine hKK.out _ _ (by exact ⟨xpb0, xpb1, xpb2, xpb3, xpb4, ypb0, ypb1, ypb2, ypb3, ypb4⟩) (fun hHeldpb => ?_)
    clear hKK KK
    try simp only [Act.put, List.getElem_toArray, List.getElem_cons_zero, List.getElem_cons_succ, List.setIfInBounds_toArray, List.set_cons_zero, List.set_cons_succ]
    refine wpAnyH_take (i := 4) (v := ?vp4) rfl (by kernel_rfl) (by kernel_rfl) (by kernel_rfl) (fun _ _ _ h => h) (Or.inl ⟨by rfl, ?hyp4⟩) (by assumption) ?restp4
    case hyp4 => (intro wS hSw; (try dsimp only at hSw); go_simp; try with_reducible rfl)
    try simp only [Act.put, List.getElem_toArray, List.getElem_cons_zero, List.getElem_cons_succ, List.setIfInBounds_toArray, List.set_cons_zero, List.set_cons_succ]
    refine wpAnyH_take (i := 5) (v := ?vp5) rfl (by kernel_rfl) (by kernel_rfl) (by kernel_rfl) (fun _ _ _ h => h) (Or.inl ⟨by rfl, ?hyp5⟩) (by assumption) ?restp5
    case hyp5 => (intro wS hSw; (try dsimp only at hSw); go_simp; try with_reducible rfl)
    try simp only [Act.put, List.getElem_toArray, List.getElem_cons_zero, List.getElem_cons_succ, List.setIfInBounds_toArray, List.set_cons_zero, List.set_cons_succ]
    refine wpAnyH_take (i := 6) (v := ?vp6) rfl (by kernel_rfl) (by kernel_rfl) (by kernel_rfl) (fun _ _ _ h => h) (Or.inl ⟨by rfl, ?hyp6⟩) (by assumption) ?restp6
    case hyp6 => (intro wS hSw; (try dsimp only at hSw); go_simp; try with_reducible rfl)
    try simp only [Act.put, List.getElem_toArray, List.getElem_cons_zero, List.getElem_cons_succ, List.setIfInBounds_toArray, List.set_cons_zero, List.set_cons_succ]
    refine wpAnyH_take (i := 7) (v := ?vp7) rfl (by kernel_rfl) (by kernel_rfl) (by kernel_rfl) (fun _ _ _ h => h) (Or.inl ⟨by rfl, ?hyp7⟩) (by assumption) ?restp7
    case hyp7 => (intro wS hSw; (try dsimp only at hSw); go_simp; try with_reducible rfl)
    try simp only [Act.put, List.getElem_toArray, List.getElem_cons_zero, List.getElem_cons_succ, List.setIfInBounds_toArray, List.set_cons_zero, List.set_cons_succ]
    refine wpAnyH_ready (rs := [8]) (by kernel_rfl) (by simp) ?_
    refine AllReadyH.cons rfl (fun KK hKK => ?_) AllReadyH.nil
    go_simp
    go_at_call 8
    refine (CK _ hzpb).mono ?_
    rintro en wzpk ⟨rfl, hzzpk⟩
    have oXpk := oXpb.below hzzpk
    have oNpk := oNpb.below hzzpk
    have hzpk : Below w2.heap.size w2 wzpk := hzpb.trans (hzzpk.mono hzpb.size)
    obtain ⟨xpk0, xpk1, xpk2, xpk3, xpk4, xpk5⟩ := oXpk.five
    obtain ⟨ypk0, ypk1, ypk2, ypk3, ypk4, ypk5⟩ := oNpk.five
    have hlXpk := oXpk.lt
    try go_wp2_with fail
    refine hKK.out _ _ (by exact ⟨xpk0, xpk1, xpk2, xpk3, xpk4, ypk0, ypk1, ypk2, ypk3, ypk4⟩) (fun hHeldpk => ?_)
    clear hKK KK
    try simp only [Act.put, List.getElem_toArray, List.getElem_cons_zero, List.getElem_cons_succ, List.setIfInBounds_toArray, List.set_cons_zero, List.set_cons_succ]
    refine wpAnyH_take (i := 9) (v := ?vp9) rfl (by kernel_rfl) (by kernel_rfl) (by kernel_rfl) (fun _ _ _ h => h) (Or.inl ⟨by rfl, ?hyp9⟩) (by assumption) ?restp9
    case hyp9 => (intro wS hSw; (try dsimp only at hSw); go_simp; try with_reducible rfl)
    try simp only [Act.put, List.getElem_toArray, List.getElem_cons_zero, List.getElem_cons_succ, List.setIfInBounds_toArray, List.set_cons_zero, List.set_cons_succ]
    refine wpAnyH_take (i := 10) (v := ?vp10) rfl (by kernel_rfl) (by kernel_rfl) (by kernel_rfl) (fun _ _ _ h => h) (Or.inl ⟨by rfl, ?hyp10⟩) (by assumption) ?restp10
    case hyp10 => (intro wS hSw; (try dsimp only at hSw); go_simp; try with_reducible rfl)
    try simp only [Act.put, List.getElem_toArray, List.getElem_cons_zero, List.getElem_cons_succ, List.setIfInBounds_toArray, List.set_cons_zero, List.set_cons_succ]
    refine wpAnyH_ready (rs := [11]) (by kernel_rfl) (by simp) ?_
    refine AllReadyH.cons rfl (fun KK hKK => ?_) AllReadyH.nil
    go_simp
    go_at_call 9
    refine (CW _ hzpk).mono ?_
    rintro en wzpw ⟨rfl, hzzpw⟩
    have oXpw := oXpk.below hzzpw
    have oNpw := oNpk.below hzzpw
    have hzpw : Below w2.heap.size w2 wzpw := hzpk.trans (hzzpw.mono hzpk.size)
    obtain ⟨xpw0, xpw1, xpw2, xpw3, xpw4, xpw5⟩ := oXpw.five
    obtain ⟨ypw0, ypw1, ypw2, ypw3, ypw4, ypw5⟩ := oNpw.five
    have hlXpw := oXpw.lt
    try go_wp2_with fail
    refine hKK.out _ _ (by exact ⟨xpw0, xpw1, xpw2, xpw3, xpw4, ypw0, ypw1, ypw2, ypw3, ypw4⟩) (fun hHeldpw => ?_)
    clear hKK KK
    try simp only [Act.put, List.getElem_toArray, List.getElem_cons_zero, List.getElem_cons_succ, List.setIfInBounds_toArray, List.set_cons_zero, List.set_cons_succ]
    refine wpAnyH_take (i := 12) (v := ?vp12) rfl (by kernel_rfl) (by kernel_rfl) (by kernel_rfl) (fun _ _ _ h => h) (Or.inl ⟨by rfl, ?hyp12⟩) (by assumption) ?restp12
    case hyp12 => (intro wS hSw; (try dsimp only at hSw); go_simp; try with_reducible rfl)
    try simp only [Act.put, List.getElem_toArray, List.getElem_cons_zero, List.getElem_cons_succ, List.setIfInBounds_toArray, List.set_cons_zero, List.set_cons_succ]
    refine wpAnyH_take (i := 13) (v := ?vp13) rfl (by kernel_rfl) (by kernel_rfl) (by kernel_rfl) (fun _ _ _ h => h) (Or.inl ⟨by rfl, ?hyp13⟩) (by assumption) ?restp13
    case hyp13 => (intro wS hSw; (try dsimp only at hSw); go_simp; try with_reducible rfl)
    try simp only [Act.put, List.getElem_toArray, List.getElem_cons_zero, List.getElem_cons_succ, List.setIfInBounds_toArray, List.set_cons_zero, List.set_cons_succ]
    refine wpAnyH_done (by kernel_rfl) ?_ _
    go_wp2
    go_ret
    exact ⟨rfl, hb2.trans (hzpw.mono hb2.size)⟩
end Go.Proofs.YtmhnbklchnnbaaaGreatDoor
