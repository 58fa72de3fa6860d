import Derived.Test.YtmhnbklchnnbaaaGreatDoorQ47
import Derived.Test.YtmhnbklchnnbaaaGreatDoorQ45
import Derived.Test.YtmhnbklchnnbaaaGreatDoorRcIs1
import Derived.Test.YtmhnbklchnnbaaaGreatDoorQ34
import Derived.Test.YtmhnbklchnnbaaaGreatDoorQ30
import Derived.Test.YtmhnbklchnnbaaaGreatDoorRcIs4
import Derived.Test.YtmhnbklchnnbaaaGreatDoorQ32
import Derived.Test.YtmhnbklchnnbaaaGreatDoorQ35
import Derived.Test.YtmhnbklchnnbaaaGreatDoorRcEx2
import Derived.Test.YtmhnbklchnnbaaaGreatDoorQ46
import Derived.Test.YtmhnbklchnnbaaaGreatDoorRcSt1
import Derived.Test.YtmhnbklchnnbaaaGreatDoorQ28
set_option maxHeartbeats 8000000
set_option maxRecDepth 100000
namespace Go.Proofs.YtmhnbklchnnbaaaGreatDoor
open Go.RowKit
set_option linter.unusedVariables false
set_option linter.unusedSimpArgs false
theorem st17 (t : Tree) (hw : wideTr t) (H : KidsAs t) (hK : t.kind = 17) : StAs t := by
  intro w k a b n v hN
  obtain ⟨ao, m, cap, rfl, hF⟩ := Fl.of hN hw
  have HF : Hid (Fl w t k a b n ao m cap) := hF
  have hk := hF.kind
  have hm1 := hF.2.2.2.1
  have hm2 := hF.2.2.2.2
  have o0 := Own.new w #[.int .u8 k, .int .i64 a, .string b, .int .u64 n, .slice ao m cap] 25
  have hb0 : Below w.heap.size w (w.alloc (.cells #[.int .u8 k, .int .i64 a, .string b, .int .u64 n, .slice ao m cap] 25)) := (Below.refl _ _).alloc (Nat.le_refl _) _
  have hk2 : k = 17 := by omega
  obtain ⟨qb, hqb⟩ : ∃ q, namedB t.text n true = q := ⟨_, rfl⟩
  have CB : ∀ W : World, Calls Tryz.prog 30 #[.agg #[.int .u8 k, .int .i64 a, .string b, .int .u64 n, .slice ao m cap], .bool true] W fun en w' => en = .returned (.bool qb) ∧ Below W.heap.size W w' := fun W => by have := znamed_as W k a n b (.slice ao m cap) rfl true t.text HF.out.txt; rw [hqb] at this; exact this
  by_cases hm : 1 ≤ m
  · obtain ⟨M, t0, ks, hks, hM, rfl⟩ : ∃ (M : Nat) (t0 : Tree) (ks : List Tree), t.kids = t0 :: ks ∧ ks.length = M ∧ m = M + 1 := split_first HF.out.len hm
    obtain ⟨g, o, aj0, cj0, rfl, hg, hK0⟩ := HF.out.kid2 0 t0 (by rw [hks]; rfl)
    have HK0 : Hid (∀ W, Below w.heap.size w W → W.cell? ⟨g, o, none⟩ = some (.int .u8 (t0.kind : Int)) ∧ W.cell? ⟨g, o + 1, none⟩ = some (.int .i64 t0.at_) ∧ W.cell? ⟨g, o + 2, none⟩ = some (.string (strN t0.text)) ∧ W.cell? ⟨g, o + 3, none⟩ = some (.int .u64 (t0.n : Int)) ∧ W.cell? ⟨g, o + 4, none⟩ = some (.slice aj0 t0.kids.length cj0) ∧ g < W.heap.size) := fun W hW => by have := (hK0 W hW).1; exact this
    obtain ⟨q0, hq0⟩ : ∃ q, vR 2 t0 = q := ⟨_, rfl⟩
    have C0 : ∀ W : World, Below w.heap.size w W → Calls Tryz.prog 14 #[.agg #[.int .u8 (t0.kind : Int), .int .i64 t0.at_, .string (strN t0.text), .int .u64 (t0.n : Int), .slice aj0 t0.kids.length cj0], .int .i64 2] W fun en w' => en = .returned (.bool q0) ∧ Below W.heap.size W w' := fun W hW => by have := H 2 (by omega) (by omega) t0 (by rw [hks]; simp) W _ _ _ _ _ (hK0 W hW).2.1; rw [hq0] at this; exact this
    have HS : Hid (vR 3 t = (qb && (q0 && armsB (M + 1) 1 ks))) := by
      unfold Hid
      rw [← hqb, ← hq0, HF.out.num, ← hM]
      obtain ⟨kd, at_, x, nn, kk⟩ := t
      simp only [] at hks hK
      subst hK hks
      exact m3_17 (by omega)
    have hi1 : ¬ ((M : Int) + 1 < 1) := by omega
    have hi2 : (0 : Int) < (M : Int) + 1 := by omega
    have HKS : Hid (t.kids = t0 :: ks) := hks
    have HM : Hid (ks.length = M) := hM
    subst hk2
    clear hF hN hk hK hqb hq0 hK0 hks hM hm
    go_enter Tryz.func28, Tryz.ntmps28
    obtain ⟨f00, f01, f02, f03, f04, f05⟩ := HK0.out _ hb0
    go_wp2_with fail
    refine (CB _).mono ?_
    rintro en w1 ⟨rfl, hb1'⟩
    have o1 := o0.below hb1'
    have hb1 := hb0.trans (hb1'.mono hb0.size)
    obtain ⟨p10, p11, p12, p13, p14, p15⟩ := o1.five
    have hl1 := o1.lt
    obtain ⟨f00, f01, f02, f03, f04, f05⟩ := HK0.out _ hb1
    clear hb1'
    cases qb with
    | false =>
      go_wp2
      go_ret
      exact ⟨ret_bool (by rw [HS.out] <;> rfl), hb1⟩
    | true =>
      go_wp2_with fail
      refine (C0 _ hb1).mono ?_
      rintro en w2 ⟨rfl, hb2'⟩
      have o2 := o1.below hb2'
      have hb2 := hb1.trans (hb2'.mono hb1.size)
      obtain ⟨p20, p21, p22, p23, p24, p25⟩ := o2.five
      have hl2 := o2.lt
      obtain ⟨f00, f01, f02, f03, f04, f05⟩ := HK0.out _ hb2
      clear hb2'
      cases q0 with
      | false =>
        go_wp2
        go_ret
        exact ⟨ret_bool (by rw [HS.out] <;> rfl), hb2⟩
      | true =>
        go_wp2_with fail
        go_loopg [6] M (fun g2 iv wr => KRel w #[.int .u8 17, .int .i64 a, .string b, .int .u64 n, .slice (some ⟨g, o, none⟩) (M + 1) cap] t.kids (armB (M + 1)) 1 (M + 1) g2 iv wr)
        case atStart => exact ⟨1, by omega, Nat.le_refl _, rfl, o2, hb2, fun i u _ h => by omega⟩
        case round =>
          clear o0 hb0 o1 hb1 o2 hb2 p10 p11 p12 p13 p14 p15 p20 p21 p22 p23 p24 p25 f00 f01 f02 f03 f04 f05 hl1 hl2
          obtain ⟨j, hj, hj1, rfl, o0, hb0, hno⟩ := hrel
          have HNO : Hid (∀ i u, 1 ≤ i → i < j → t.kids[i]? = some u → armB (M + 1) i u = true) := hno
          have HJ : Hid (j + gk = M + 1) := hj
          obtain ⟨p00, p01, p02, p03, p04, p05⟩ := o0.five
          have hl0 := o0.lt
          have HTL : Hid (t.kids.length = M + 1) := HF.out.len
          clear hno
          by_cases hlt : j < M + 1
          · obtain ⟨u, hu⟩ : ∃ u, t.kids[j]? = some u := ⟨t.kids[j]'(by rw [HTL.out]; exact hlt), List.getElem?_eq_getElem _⟩
            obtain ⟨g3, o3, aju, cju, e3, hg3, hKu⟩ := HF.out.kid2 j u hu
            cases e3
            have HKu : Hid (∀ W, Below w.heap.size w W → Cel W g o j u aju cju) := fun W hW => (hKu W hW).1
            obtain ⟨q11, hq11⟩ : ∃ q, vR 11 u = q := ⟨_, rfl⟩
            have C11 : ∀ W : World, Below w.heap.size w W → Calls Tryz.prog 14 #[.agg #[.int .u8 (u.kind : Int), .int .i64 u.at_, .string (strN u.text), .int .u64 (u.n : Int), .slice aju u.kids.length cju], .int .i64 11] W fun en w' => en = .returned (.bool q11) ∧ Below W.heap.size W w' := fun W hW => by have := H 11 (by omega) (by omega) u (List.mem_of_getElem? hu) W _ _ _ _ _ (hKu W hW).2.1; rw [hq11] at this; exact this
            obtain ⟨q12, hq12⟩ : ∃ q, vR 12 u = q := ⟨_, rfl⟩
            have C12 : ∀ W : World, Below w.heap.size w W → Calls Tryz.prog 14 #[.agg #[.int .u8 (u.kind : Int), .int .i64 u.at_, .string (strN u.text), .int .u64 (u.n : Int), .slice aju u.kids.length cju], .int .i64 12] W fun en w' => en = .returned (.bool q12) ∧ Below W.heap.size W w' := fun W hW => by have := H 12 (by omega) (by omega) u (List.mem_of_getElem? hu) W _ _ _ _ _ (hKu W hW).2.1; rw [hq12] at this; exact this
            have HU : Hid (t.kids[j]? = some u) := hu
            have HP : Hid (armB (M + 1) j u = (q11 || (decide (j + 1 = M + 1) && q12))) := by unfold Hid armB; rw [hq11, hq12]
            have i1 : (j : Int) < (M : Int) + 1 := by omega
            have i2 : (0 : Int) ≤ (j : Int) := by omega
            have hg1 : 1 ≤ gk := by have := HJ.out; omega
            have hi3 : (M : Int) + 1 - 1 = (M : Int) := by omega
            clear hu hq11 hq12 hKu hj
            obtain ⟨f0, f1, f2, f3, f4, f5⟩ := HKu.out _ hb0
            go_wp2_with fail
            refine (C11 _ hb0).mono ?_
            rintro en w1 ⟨rfl, hb1'⟩
            have o1 := o0.below hb1'
            have hb1 := hb0.trans (hb1'.mono hb0.size)
            obtain ⟨p10, p11, p12, p13, p14, p15⟩ := o1.five
            have hl1 := o1.lt
            clear hb1'
            obtain ⟨f0, f1, f2, f3, f4, f5⟩ := HKu.out _ hb1
            cases q11 with
            | true =>
              have HN2 : Hid (∀ i y, 1 ≤ i → i < j + 1 → t.kids[i]? = some y → armB (M + 1) i y = true) := fun i y hi0 hi hy => by
                by_cases e : i = j
                · subst e; rw [HU.out] at hy; cases hy; rw [HP.out]; rfl
                · exact HNO.out i y hi0 (by omega) hy
              go_wp2
              go_roundg (gk - 1)
              case rel => exact ⟨j + 1, by have := HJ.out; omega, by omega, by go_num, o1, hb1, HN2.out⟩
              case measure => omega
            | false =>
              by_cases hjm : j = M
              · have hjl : ¬ ((j : Int) < (M : Int)) := by omega
                have HJM : Hid (j = M) := hjm
                clear hjm
                go_wp2_with fail
                refine (C12 _ hb1).mono ?_
                rintro en w2 ⟨rfl, hb2'⟩
                have o2 := o1.below hb2'
                have hb2 := hb1.trans (hb2'.mono hb1.size)
                obtain ⟨p20, p21, p22, p23, p24, p25⟩ := o2.five
                have hl2 := o2.lt
                clear hb2'
                cases q12 with
                | true =>
                  have HN2 : Hid (∀ i y, 1 ≤ i → i < j + 1 → t.kids[i]? = some y → armB (M + 1) i y = true) := fun i y hi0 hi hy => by
                    by_cases e : i = j
                    · subst e; rw [HU.out] at hy; cases hy; rw [HP.out]; simp [HJM.out]
                    · exact HNO.out i y hi0 (by omega) hy
                  go_wp2
                  go_roundg (gk - 1)
                  case rel => exact ⟨j + 1, by have := HJ.out; omega, by omega, by go_num, o2, hb2, HN2.out⟩
                  case measure => omega
                | false =>
                  have hz : armsB (M + 1) 1 ks = false := by
                    rw [Bool.eq_false_iff]
                    intro hz
                    have hu := HU.out
                    obtain ⟨j2, rfl⟩ : ∃ j2, j = 1 + j2 := ⟨j - 1, by omega⟩
                    rw [HKS.out, Nat.add_comm 1 j2, List.getElem?_cons_succ] at hu
                    have h1 := (arms_get _ _ _).1 hz j2 u hu
                    rw [HP.out] at h1
                    revert h1
                    simp
                  have HS2 : Hid (vR 3 t = false) := by unfold Hid; rw [HS.out, hz]; rfl
                  clear hz
                  go_wp2
                  go_ret
                  exact ⟨ret_bool HS2.out.symm, hb2⟩
              · have hjl : (j : Int) < (M : Int) := by omega
                have hz : armsB (M + 1) 1 ks = false := by
                  rw [Bool.eq_false_iff]
                  intro hz
                  have hu := HU.out
                  obtain ⟨j2, rfl⟩ : ∃ j2, j = 1 + j2 := ⟨j - 1, by omega⟩
                  rw [HKS.out, Nat.add_comm 1 j2, List.getElem?_cons_succ] at hu
                  have h1 := (arms_get _ _ _).1 hz j2 u hu
                  rw [HP.out] at h1
                  revert h1
                  have e : decide (1 + j2 + 1 = M + 1) = false := by simp; omega
                  rw [e]; simp
                have HS2 : Hid (vR 3 t = false) := by unfold Hid; rw [HS.out, hz]; rfl
                clear hz
                go_wp2
                go_ret
                exact ⟨ret_bool HS2.out.symm, hb1⟩
          · have i1 : ¬ (j : Int) < (M : Int) + 1 := by omega
            have hz : armsB (M + 1) 1 ks = true := (arms_get _ _ _).2 fun i u hu => HNO.out (1 + i) u (by omega) (by have : i < ks.length := (List.getElem?_eq_some_iff.1 hu).1; rw [HM.out] at this; omega) (by rw [HKS.out, Nat.add_comm 1 i, List.getElem?_cons_succ]; exact hu)
            have HS2 : Hid (vR 3 t = true) := by unfold Hid; rw [HS.out, hz]; rfl
            clear hz
            go_wp2
            go_ret
            exact ⟨ret_bool HS2.out.symm, hb0⟩
  · have HS : Hid (vR 3 t = false) := by
      unfold Hid
      rw [vR_3, valid_core]
      have h1 : (t.kind : Int) = 17 := by omega
      have h2 : ¬ (1 ≤ (t.kids.length : Int)) := by have := HF.out.len; omega
      exact core_less _ _ (by rw [h1]; exact h2)
    have hm3 : (m : Int) < 1 := by omega
    subst hk2
    clear hF hN hk hK hqb hm
    go_enter Tryz.func28, Tryz.ntmps28
    go_wp2_with fail
    refine (CB _).mono ?_
    rintro en w1 ⟨rfl, hb1'⟩
    have o1 := o0.below hb1'
    have hb1 := hb0.trans (hb1'.mono hb0.size)
    obtain ⟨p10, p11, p12, p13, p14, p15⟩ := o1.five
    have hl1 := o1.lt
    clear hb1'
    cases qb with
    | true =>
      go_wp2
      go_ret
      exact ⟨ret_bool (by rw [HS.out] <;> rfl), hb1⟩
    | false =>
      go_wp2
      go_ret
      exact ⟨ret_bool (by rw [HS.out] <;> rfl), hb1⟩
set_option linter.unusedSimpArgs false
theorem is2 (t : Tree) (hw : wideTr t) (HX : ExAs t) : IsAs 2 t := by
  intro w k a b n v hN
  obtain ⟨ao, m, cap, rfl, hF⟩ := Fl.of hN hw
  have HF : Hid (Fl w t k a b n ao m cap) := hF
  have hk := hF.kind
  have hm1 := hF.2.2.2.1
  have hm2 := hF.2.2.2.2
  have o0 := Own.new w #[.int .u8 k, .int .i64 a, .string b, .int .u64 n, .slice ao m cap] 25
  have hb0 : Below w.heap.size w (w.alloc (.cells #[.int .u8 k, .int .i64 a, .string b, .int .u64 n, .slice ao m cap] 25)) := (Below.refl _ _).alloc (Nat.le_refl _) _
  obtain ⟨q0, hq0⟩ : ∃ q, vR 2 t = q := ⟨_, rfl⟩
  have C0 : ∀ W : World, Below w.heap.size w W → Calls Tryz.prog 27 #[.agg #[.int .u8 k, .int .i64 a, .string b, .int .u64 n, .slice ao m cap]] W fun en w' => en = .returned (.bool q0) ∧ Below W.heap.size W w' := fun W hW => by have := HX W k a b n (.slice ao m cap) (HF.out.below hW).1; rw [hq0] at this; exact this
  have HS : Hid (vR 2 t = q0) := hq0
  clear hF hN hk hq0
  go_enter Tryz.func14, Tryz.ntmps14
  go_wp2_with fail
  refine (C0 _ hb0).mono ?_
  rintro en w1 ⟨rfl, hb1'⟩
  have o1 := o0.below hb1'
  have hb1 := hb0.trans (hb1'.mono hb0.size)
  obtain ⟨p10, p11, p12, p13, p14, p15⟩ := o1.five
  have hl1 := o1.lt
  clear hb1'
  go_wp2
  go_ret
  exact ⟨ret_bool (by rw [HS.out] <;> rfl), hb1⟩
theorem is3 (t : Tree) (hw : wideTr t) (HX : StAs t) : IsAs 3 t := by
  intro w k a b n v hN
  obtain ⟨ao, m, cap, rfl, hF⟩ := Fl.of hN hw
  have HF : Hid (Fl w t k a b n ao m cap) := hF
  have hk := hF.kind
  have hm1 := hF.2.2.2.1
  have hm2 := hF.2.2.2.2
  have o0 := Own.new w #[.int .u8 k, .int .i64 a, .string b, .int .u64 n, .slice ao m cap] 25
  have hb0 : Below w.heap.size w (w.alloc (.cells #[.int .u8 k, .int .i64 a, .string b, .int .u64 n, .slice ao m cap] 25)) := (Below.refl _ _).alloc (Nat.le_refl _) _
  obtain ⟨q0, hq0⟩ : ∃ q, vR 3 t = q := ⟨_, rfl⟩
  have C0 : ∀ W : World, Below w.heap.size w W → Calls Tryz.prog 28 #[.agg #[.int .u8 k, .int .i64 a, .string b, .int .u64 n, .slice ao m cap]] W fun en w' => en = .returned (.bool q0) ∧ Below W.heap.size W w' := fun W hW => by have := HX W k a b n (.slice ao m cap) (HF.out.below hW).1; rw [hq0] at this; exact this
  have HS : Hid (vR 3 t = q0) := hq0
  clear hF hN hk hq0
  go_enter Tryz.func14, Tryz.ntmps14
  go_wp2_with fail
  refine (C0 _ hb0).mono ?_
  rintro en w1 ⟨rfl, hb1'⟩
  have o1 := o0.below hb1'
  have hb1 := hb0.trans (hb1'.mono hb0.size)
  obtain ⟨p10, p11, p12, p13, p14, p15⟩ := o1.five
  have hl1 := o1.lt
  clear hb1'
  go_wp2
  go_ret
  exact ⟨ret_bool (by rw [HS.out] <;> rfl), hb1⟩
theorem is19 (t : Tree) (hw : wideTr t) (HX : ChAs t) : IsAs 19 t := by
  intro w k a b n v hN
  obtain ⟨ao, m, cap, rfl, hF⟩ := Fl.of hN hw
  have HF : Hid (Fl w t k a b n ao m cap) := hF
  have hk := hF.kind
  have hm1 := hF.2.2.2.1
  have hm2 := hF.2.2.2.2
  have o0 := Own.new w #[.int .u8 k, .int .i64 a, .string b, .int .u64 n, .slice ao m cap] 25
  have hb0 : Below w.heap.size w (w.alloc (.cells #[.int .u8 k, .int .i64 a, .string b, .int .u64 n, .slice ao m cap] 25)) := (Below.refl _ _).alloc (Nat.le_refl _) _
  obtain ⟨q0, hq0⟩ : ∃ q, vR 19 t = q := ⟨_, rfl⟩
  have C0 : ∀ W : World, Below w.heap.size w W → Calls Tryz.prog 34 #[.agg #[.int .u8 k, .int .i64 a, .string b, .int .u64 n, .slice ao m cap]] W fun en w' => en = .returned (.bool q0) ∧ Below W.heap.size W w' := fun W hW => by have := HX W k a b n (.slice ao m cap) (HF.out.below hW).1; rw [hq0] at this; exact this
  have HS : Hid (vR 19 t = q0) := hq0
  clear hF hN hk hq0
  go_enter Tryz.func14, Tryz.ntmps14
  go_wp2_with fail
  refine (C0 _ hb0).mono ?_
  rintro en w1 ⟨rfl, hb1'⟩
  have o1 := o0.below hb1'
  have hb1 := hb0.trans (hb1'.mono hb0.size)
  obtain ⟨p10, p11, p12, p13, p14, p15⟩ := o1.five
  have hl1 := o1.lt
  clear hb1'
  go_wp2
  go_ret
  exact ⟨ret_bool (by rw [HS.out] <;> rfl), hb1⟩
theorem is16 (t : Tree) (hw : wideTr t) (H18 : IsAs 18 t) (HX : SetAs t) : IsAs 16 t := by
  intro w k a b n v hN
  obtain ⟨ao, m, cap, rfl, hF⟩ := Fl.of hN hw
  have HF : Hid (Fl w t k a b n ao m cap) := hF
  have hk := hF.kind
  have hm1 := hF.2.2.2.1
  have hm2 := hF.2.2.2.2
  have o0 := Own.new w #[.int .u8 k, .int .i64 a, .string b, .int .u64 n, .slice ao m cap] 25
  have hb0 : Below w.heap.size w (w.alloc (.cells #[.int .u8 k, .int .i64 a, .string b, .int .u64 n, .slice ao m cap] 25)) := (Below.refl _ _).alloc (Nat.le_refl _) _
  obtain ⟨q0, hq0⟩ : ∃ q, vR 18 t = q := ⟨_, rfl⟩
  obtain ⟨q1, hq1⟩ : ∃ q, vS t = q := ⟨_, rfl⟩
  have C0 : ∀ W : World, Below w.heap.size w W → Calls Tryz.prog 14 #[.agg #[.int .u8 k, .int .i64 a, .string b, .int .u64 n, .slice ao m cap], .int .i64 18] W fun en w' => en = .returned (.bool q0) ∧ Below W.heap.size W w' := fun W hW => by have := H18 W k a b n (.slice ao m cap) (HF.out.below hW).1; rw [hq0] at this; exact this
  have C1 : ∀ W : World, Below w.heap.size w W → Calls Tryz.prog 33 #[.agg #[.int .u8 k, .int .i64 a, .string b, .int .u64 n, .slice ao m cap]] W fun en w' => en = .returned (.bool q1) ∧ Below W.heap.size W w' := fun W hW => by have := HX W k a b n (.slice ao m cap) (HF.out.below hW).1; rw [hq1] at this; exact this
  have HS : Hid (vR 16 t = (q0 || q1)) := by unfold Hid; rw [v_16, hq0, hq1]
  clear hF hN hk hq0 hq1
  go_enter Tryz.func14, Tryz.ntmps14
  go_wp2_with fail
  refine (C0 _ hb0).mono ?_
  rintro en w1 ⟨rfl, hb1'⟩
  have o1 := o0.below hb1'
  have hb1 := hb0.trans (hb1'.mono hb0.size)
  obtain ⟨p10, p11, p12, p13, p14, p15⟩ := o1.five
  have hl1 := o1.lt
  clear hb1'
  cases q0 with
  | true =>
    go_wp2
    go_ret
    exact ⟨ret_bool (by rw [HS.out] <;> rfl), hb1⟩
  | false =>
    go_wp2_with fail
    refine (C1 _ hb1).mono ?_
    rintro en w2 ⟨rfl, hb2'⟩
    have o2 := o1.below hb2'
    have hb2 := hb1.trans (hb2'.mono hb1.size)
    obtain ⟨p20, p21, p22, p23, p24, p25⟩ := o2.five
    have hl2 := o2.lt
    clear hb2'
    go_wp2
    go_ret
    exact ⟨ret_bool (by rw [HS.out] <;> rfl), hb2⟩
set_option linter.unusedSimpArgs false
theorem is9 (t : Tree) (hw : wideTr t) : IsAs 9 t := by
  intro w k a b n v hN
  obtain ⟨ao, m, cap, rfl, hF⟩ := Fl.of hN hw
  have hk := hF.kind
  have hn := hF.num
  by_cases hk2 : k = 40
  · subst hk2
    by_cases hm : m = 0
    · subst hm
      have HS0 : vR 9 t = ((t.text == [] || isIntL t.text) && decide (n ≤ (topN t.text : Int))) := by
        have hl := hF.len
        have hwd := ((wide_parts t).1 hw).2.1
        rw [hn, vR_9, valid_core]
        obtain ⟨kd, at_, x, nn, ks⟩ := t
        have : kd = 40 := by simp only [] at hk; omega
        simp only [] at hl hwd ⊢
        subst this
        obtain rfl := list0 hl
        have h1 := numI_u64 x nn hwd
        have h2 : decide ((nn : Int) ≤ (topN x : Int)) = decide (nn ≤ topN x) := by simp
        rw [h2, ← h1]
        simp [takesI, coreT, kidsI, textI, validT.validL]
      rw [HS0]
      cases hx : (t.text == []) with
      | true => rw [Bool.true_or, Bool.true_and]; exact is9_a w t a b n ao cap hF hx
      | false =>
        cases hi : isIntL t.text with
        | true => rw [Bool.or_true, Bool.true_and]; exact is9_b w t a b n ao cap hF hx hi
        | false => rw [Bool.or_false, Bool.false_and]; exact is9_c w t a b n ao cap hF hx hi
    · have HS : vR 9 t = false := by
        rw [vR_9, valid_core]
        have h1 : (t.kind : Int) = 40 := by omega
        have h2 : ¬ (t.kids.length : Int) = 0 := by have := hF.len; omega
        exact core_no _ _ (by rw [h1]; exact (show (kidsI 40).1 = (kidsI 40).2 from rfl)) (by rw [h1]; exact h2)
      rw [HS]
      exact is9_m w t a b n ao cap m hF (by simp; omega)
  · have HS : vR 9 t = false := by
      rw [vR_9, valid_core]
      have : ¬ ((t.kind : Int) = 40) := by omega
      simp [takesI, this]
    rw [HS]
    exact is9_k w t a b n ao cap k m hF (by simpa using hk2)
theorem is1_7 (t : Tree) (hw : wideTr t) (hK : t.kind = 7) : IsAs 1 t := by
  intro w k a b n v hN
  obtain ⟨ao, m, cap, rfl, hF⟩ := Fl.of hN hw
  have hk := hF.kind
  have hn := hF.num
  obtain rfl : k = 7 := by omega
  by_cases hm : m = 0
  · subst hm
    have HS0 : vR 1 t = (n == 0 && (tyB t.text || nameB t.text)) := by
      have hl := hF.len
      rw [hn]
      obtain ⟨kd, at_, x, nn, ks⟩ := t
      simp only [] at hl hK ⊢
      subst hK
      obtain rfl := list0 hl
      exact m1_7
    rw [HS0]
    cases hn0 : (n == 0) with
    | true =>
      rw [Bool.true_and]
      cases ht : tyB t.text with
      | true => rw [Bool.true_or]; exact is1_a w t a b n ao cap hF hn0 ht
      | false => rw [Bool.false_or]; exact is1_b w t a b n ao cap _ hF hn0 ht rfl
    | false => rw [Bool.false_and]; exact is1_n w t a b n ao cap hF hn0
  · have HS : vR 1 t = false := by
      rw [vR_1, valid_core]
      have h1 : (t.kind : Int) = 7 := by omega
      have h2 : ¬ (t.kids.length : Int) = 0 := by have := hF.len; omega
      exact core_no _ _ (by rw [h1]; exact (show (kidsI 7).1 = (kidsI 7).2 from rfl)) (by rw [h1]; exact h2)
    rw [HS]
    exact is1_m w t a b n ao cap m hF (by simp; omega)
theorem is1 (t : Tree) (hw : wideTr t) (H : KidsAs t) : IsAs 1 t := by
  by_cases h7 : t.kind = 7
  · exact is1_7 t hw h7
  · by_cases h8 : t.kind = 8
    · exact is1_8 t hw H h8
    · by_cases h9 : t.kind = 9
      · exact is1_9 t hw H h9
      · exact is1_no t hw h7 h8 h9
theorem zexpr_as (t : Tree) (hw : wideTr t) (H : KidsAs t) (H9 : IsAs 9 t) : ExAs t := by
  by_cases hE : isExprI t.kind = false
  · exact exNo t hw hE
  · have hr : ((40 ≤ t.kind ∧ t.kind ≤ 57) ∧ t.kind ≠ 54) ∨ (60 ≤ t.kind ∧ t.kind ≤ 77) := by simp [isExprI] at hE; omega
    rcases hr with ⟨⟨h1, h2⟩, h3⟩ | h
    · have hc : t.kind = 40 ∨ t.kind = 41 ∨ t.kind = 42 ∨ t.kind = 43 ∨ t.kind = 44 ∨ t.kind = 45 ∨ t.kind = 46 ∨ t.kind = 47 ∨ t.kind = 48 ∨ t.kind = 49 ∨ t.kind = 50 ∨ t.kind = 51 ∨ t.kind = 52 ∨ t.kind = 53 ∨ t.kind = 55 ∨ t.kind = 56 ∨ t.kind = 57 := by omega
      rcases hc with h | h | h | h | h | h | h | h | h | h | h | h | h | h | h | h | h
      · exact ex40 t hw H9 h
      · exact ex41 t hw H h
      · exact ex42 t hw H h
      · exact ex43 t hw H h
      · exact ex44 t hw H h
      · exact ex45 t hw H h
      · exact ex46 t hw H h
      · exact ex47 t hw H h
      · exact ex48 t hw H h
      · exact ex49 t hw H h
      · exact ex50 t hw H h
      · exact ex51 t hw H h
      · exact ex52 t hw H h
      · exact ex53 t hw H h
      · exact ex55 t hw H h
      · exact ex56 t hw H h
      · exact ex57 t hw H h
    · exact exR t hw H h
theorem zstmt_as (t : Tree) (hw : wideTr t) (H : KidsAs t) (H4 : IsAs 4 t) (H17 : IsAs 17 t) (H16 : IsAs 16 t) (H14 : IsAs 14 t) : StAs t := by
  by_cases hE : isStmtI t.kind = false
  · exact stNo t hw hE
  · have hc : t.kind = 10 ∨ t.kind = 11 ∨ t.kind = 12 ∨ t.kind = 13 ∨ t.kind = 14 ∨ t.kind = 15 ∨ t.kind = 16 ∨ t.kind = 17 ∨ t.kind = 20 ∨ t.kind = 21 ∨ t.kind = 22 ∨ t.kind = 23 := by simp [isStmtI] at hE; omega
    rcases hc with h | h | h | h | h | h | h | h | h | h | h | h
    · exact st10 t hw H4 h
    · exact st11 t hw H17 h
    · exact st12 t hw H16 h
    · exact st13 t hw H16 h
    · exact st14 t hw H14 h
    · exact st15 t hw H h
    · exact st16 t hw H h
    · exact st17 t hw H h
    · exact st20 t hw H h
    · exact st21 t hw H h
    · exact st22 t hw H h
    · exact st23 t hw H h
theorem is_all : ∀ (N : Nat) (t : Tree), cntT t ≤ N → N ≤ 1000000000 → wideTr t → ∀ (what : Int), 1 ≤ what → what ≤ 21 → IsAs what t := by
  intro N
  induction N with
  | zero => intro t h; rw [cnt_parts] at h; omega
  | succ N ih =>
    intro t hN hN9 hw what h1 h2
    have hcl : cntT.cntL t.kids ≤ N := by rw [cnt_parts] at hN; omega
    have kid : ∀ u ∈ t.kids, cntT u ≤ N ∧ wideTr u := by
      intro u hu
      obtain ⟨j, hj⟩ := List.getElem?_of_mem hu
      exact ⟨Nat.le_trans (cnt_get hj) hcl, wideTL_get _ ((wide_parts t).1 hw).2.2 j u hj⟩
    have H : KidsAs t := fun wh ha hb u hu => ih u (kid u hu).1 (by omega) (kid u hu).2 wh ha hb
    have HG : ∀ u ∈ t.kids, ∀ v ∈ u.kids, IsAs 2 v := by
      intro u hu v hv
      obtain ⟨j, hj⟩ := List.getElem?_of_mem hv
      have hcu := (kid u hu).1
      rw [cnt_parts] at hcu
      exact ih v (by have := cnt_get hj; omega) (by omega) (wideTL_get _ ((wide_parts u).1 (kid u hu).2).2.2 j v hj) 2 (by omega) (by omega)
    have i9 := is9 t hw
    have i2 := is2 t hw (zexpr_as t hw H i9)
    have i4 := is4 t hw H
    have i14 := is14 t hw H
    have i17 := is17 t hw H
    have i18 := is18 t hw H HG
    have i16 := is16 t hw i18 (zset_as t hw H)
    have i3 := is3 t hw (zstmt_as t hw H i4 i17 i16 i14)
    have i19 := is19 t hw (zchain_as t hw (by omega) i2)
    have hc : what = 1 ∨ what = 2 ∨ what = 3 ∨ what = 4 ∨ what = 5 ∨ what = 6 ∨ what = 7 ∨ what = 8 ∨ what = 9 ∨ what = 10 ∨ what = 11 ∨ what = 12 ∨ what = 13 ∨ what = 14 ∨ what = 15 ∨ what = 16 ∨ what = 17 ∨ what = 18 ∨ what = 19 ∨ what = 20 ∨ what = 21 := by omega
    rcases hc with rfl | rfl | rfl | rfl | rfl | rfl | rfl | rfl | rfl | rfl | rfl | rfl | rfl | rfl | rfl | rfl | rfl | rfl | rfl | rfl | rfl
    · exact is1 t hw H
    · exact i2
    · exact i3
    · exact i4
    · exact is5 t hw H
    · exact is6 t hw H
    · exact is7 t hw H
    · exact is8 t hw H
    · exact i9
    · exact is10 t hw H i9
    · exact is11 t hw H
    · exact is12 t hw H
    · exact is13 t hw H
    · exact i14
    · exact is15 t hw H
    · exact i16
    · exact i17
    · exact i18
    · exact i19
    · exact is20 t hw H
    · exact is21 t hw H
end Go.Proofs.YtmhnbklchnnbaaaGreatDoor
