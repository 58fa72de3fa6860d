import Derived.Test.YtmhnbklchnnbaaaGreatDoorQ35
import Derived.Deep.LoopGhost
set_option maxHeartbeats 4000000
set_option maxRecDepth 100000
namespace Go.Proofs.YtmhnbklchnnbaaaGreatDoor
open Go.RowKit
set_option linter.unusedVariables false
set_option linter.unusedSimpArgs false
theorem is14 (t : Tree) (hw : wideTr t) (H : KidsAs t) : IsAs 14 t := by
  intro w k a b n v hN
  obtain ⟨ao, m, cap, rfl, hF⟩ := Fl.of hN hw
  have HF : Hid (Fl w t k a b n ao m cap) := hF
  have hk := hF.kind
  have hm1 := hF.2.2.2.1
  have hm2 := hF.2.2.2.2
  have o0 := Own.new w #[.int .u8 k, .int .i64 a, .string b, .int .u64 n, .slice ao m cap] 25
  have hb0 : Below w.heap.size w (w.alloc (.cells #[.int .u8 k, .int .i64 a, .string b, .int .u64 n, .slice ao m cap] 25)) := (Below.refl _ _).alloc (Nat.le_refl _) _
  obtain ⟨qb, hqb⟩ : ∃ q, bareB t.text n = q := ⟨_, rfl⟩
  have CB : ∀ W : World, Calls Tryz.prog 26 #[.agg #[.int .u8 k, .int .i64 a, .string b, .int .u64 n, .slice ao m cap]] W fun en w' => en = .returned (.bool qb) ∧ Below W.heap.size W w' := fun W => by have := zbare_as W k a n b (.slice ao m cap) rfl t.text HF.out.txt; rw [hqb] at this; exact this
  clear hF hN
  by_cases hk14 : k = 14
  · by_cases hm : m = 2
    · obtain ⟨t0, t1, hks⟩ : ∃ t0 t1, t.kids = [t0, t1] := by have hl := HF.out.len; rw [hm] at hl; exact list2 hl
      obtain ⟨g, o, aj0, cj0, rfl, hg, hK0⟩ := HF.out.kid2 0 t0 (by rw [hks]; rfl)
      have HK0 : Hid (∀ W, Below w.heap.size w W → W.cell? ⟨g, o, none⟩ = some (.int .u8 (t0.kind : Int)) ∧ W.cell? ⟨g, o + 1, none⟩ = some (.int .i64 t0.at_) ∧ W.cell? ⟨g, o + 2, none⟩ = some (.string (strN t0.text)) ∧ W.cell? ⟨g, o + 3, none⟩ = some (.int .u64 (t0.n : Int)) ∧ W.cell? ⟨g, o + 4, none⟩ = some (.slice aj0 t0.kids.length cj0) ∧ g < W.heap.size) := fun W hW => by have := (hK0 W hW).1; exact this
      obtain ⟨q0, hq0⟩ : ∃ q, vR 2 t0 = q := ⟨_, rfl⟩
      have C0 : ∀ W : World, Below w.heap.size w W → Calls Tryz.prog 14 #[.agg #[.int .u8 (t0.kind : Int), .int .i64 t0.at_, .string (strN t0.text), .int .u64 (t0.n : Int), .slice aj0 t0.kids.length cj0], .int .i64 2] W fun en w' => en = .returned (.bool q0) ∧ Below W.heap.size W w' := fun W hW => by have := H 2 (by omega) (by omega) t0 (by rw [hks]; simp) W _ _ _ _ _ (hK0 W hW).2.1; rw [hq0] at this; exact this
      obtain ⟨g1, o1, aj1, cj1, e1, _, hK1⟩ := HF.out.kid2 1 t1 (by rw [hks]; rfl)
      cases e1
      have HK1 : Hid (∀ W, Below w.heap.size w W → W.cell? ⟨g, o + 5, none⟩ = some (.int .u8 (t1.kind : Int)) ∧ W.cell? ⟨g, o + 6, none⟩ = some (.int .i64 t1.at_) ∧ W.cell? ⟨g, o + 7, none⟩ = some (.string (strN t1.text)) ∧ W.cell? ⟨g, o + 8, none⟩ = some (.int .u64 (t1.n : Int)) ∧ W.cell? ⟨g, o + 9, none⟩ = some (.slice aj1 t1.kids.length cj1) ∧ g < W.heap.size) := fun W hW => by have := (hK1 W hW).1; exact this
      obtain ⟨q1, hq1⟩ : ∃ q, vR 4 t1 = q := ⟨_, rfl⟩
      have C1 : ∀ W : World, Below w.heap.size w W → Calls Tryz.prog 14 #[.agg #[.int .u8 (t1.kind : Int), .int .i64 t1.at_, .string (strN t1.text), .int .u64 (t1.n : Int), .slice aj1 t1.kids.length cj1], .int .i64 4] W fun en w' => en = .returned (.bool q1) ∧ Below W.heap.size W w' := fun W hW => by have := H 4 (by omega) (by omega) t1 (by rw [hks]; simp) W _ _ _ _ _ (hK1 W hW).2.1; rw [hq1] at this; exact this
      have HS : Hid (vR 14 t = (qb && (q0 && q1))) := by
        unfold Hid
        rw [← hqb, ← hq0, ← hq1, HF.out.num]
        obtain ⟨kd, at_, x, nn, ks⟩ := t
        have : kd = 14 := by simp only [] at hk; omega
        simp only [] at hks
        subst this hks
        exact m14_2
      subst hk14 hm
      clear hk hqb hq0 hq1 hK0 hK1
      go_enter Tryz.func14, Tryz.ntmps14
      obtain ⟨f00, f01, f02, f03, f04, f05⟩ := HK0.out _ hb0
      obtain ⟨f10, f11, f12, f13, f14, f15⟩ := HK1.out _ hb0
      go_wp2_with fail
      refine (CB _).mono ?_
      rintro en w1 ⟨rfl, hb1'⟩
      have o1 := o0.below hb1'
      have hb1 := hb0.trans (hb1'.mono hb0.size)
      obtain ⟨p10, p11, p12, p13, p14, p15⟩ := o1.five
      have hl1 := o1.lt
      obtain ⟨f00, f01, f02, f03, f04, f05⟩ := HK0.out _ hb1
      obtain ⟨f10, f11, f12, f13, f14, f15⟩ := HK1.out _ hb1
      clear hb1'
      cases qb with
      | false =>
        go_wp2
        go_ret
        exact ⟨ret_bool (by rw [HS.out] <;> rfl), hb1⟩
      | true =>
        go_wp2_with fail
        refine (C0 _ hb1).mono ?_
        rintro en w2 ⟨rfl, hb2'⟩
        have o2 := o1.below hb2'
        have hb2 := hb1.trans (hb2'.mono hb1.size)
        obtain ⟨p20, p21, p22, p23, p24, p25⟩ := o2.five
        have hl2 := o2.lt
        obtain ⟨f00, f01, f02, f03, f04, f05⟩ := HK0.out _ hb2
        obtain ⟨f10, f11, f12, f13, f14, f15⟩ := HK1.out _ hb2
        clear hb2'
        cases q0 with
        | false =>
          go_wp2
          go_ret
          exact ⟨ret_bool (by rw [HS.out] <;> rfl), hb2⟩
        | true =>
          go_wp2_with fail
          refine (C1 _ hb2).mono ?_
          rintro en w3 ⟨rfl, hb3'⟩
          have o3 := o2.below hb3'
          have hb3 := hb2.trans (hb3'.mono hb2.size)
          obtain ⟨p30, p31, p32, p33, p34, p35⟩ := o3.five
          have hl3 := o3.lt
          obtain ⟨f00, f01, f02, f03, f04, f05⟩ := HK0.out _ hb3
          obtain ⟨f10, f11, f12, f13, f14, f15⟩ := HK1.out _ hb3
          clear hb3'
          cases q1 with
          | false =>
            go_wp2
            go_ret
            exact ⟨ret_bool (by rw [HS.out] <;> rfl), hb3⟩
          | true =>
            go_wp2
            go_ret
            exact ⟨ret_bool (by rw [HS.out] <;> rfl), hb3⟩
    · by_cases hm2 : m = 3
      · obtain ⟨t0, t1, t2, hks⟩ : ∃ t0 t1 t2, t.kids = [t0, t1, t2] := by have hl := HF.out.len; rw [hm2] at hl; exact list3 hl
        obtain ⟨g, o, aj0, cj0, rfl, hg, hK0⟩ := HF.out.kid2 0 t0 (by rw [hks]; rfl)
        have HK0 : Hid (∀ W, Below w.heap.size w W → W.cell? ⟨g, o, none⟩ = some (.int .u8 (t0.kind : Int)) ∧ W.cell? ⟨g, o + 1, none⟩ = some (.int .i64 t0.at_) ∧ W.cell? ⟨g, o + 2, none⟩ = some (.string (strN t0.text)) ∧ W.cell? ⟨g, o + 3, none⟩ = some (.int .u64 (t0.n : Int)) ∧ W.cell? ⟨g, o + 4, none⟩ = some (.slice aj0 t0.kids.length cj0) ∧ g < W.heap.size) := fun W hW => by have := (hK0 W hW).1; exact this
        obtain ⟨q0, hq0⟩ : ∃ q, vR 2 t0 = q := ⟨_, rfl⟩
        have C0 : ∀ W : World, Below w.heap.size w W → Calls Tryz.prog 14 #[.agg #[.int .u8 (t0.kind : Int), .int .i64 t0.at_, .string (strN t0.text), .int .u64 (t0.n : Int), .slice aj0 t0.kids.length cj0], .int .i64 2] W fun en w' => en = .returned (.bool q0) ∧ Below W.heap.size W w' := fun W hW => by have := H 2 (by omega) (by omega) t0 (by rw [hks]; simp) W _ _ _ _ _ (hK0 W hW).2.1; rw [hq0] at this; exact this
        obtain ⟨g1, o1, aj1, cj1, e1, _, hK1⟩ := HF.out.kid2 1 t1 (by rw [hks]; rfl)
        cases e1
        have HK1 : Hid (∀ W, Below w.heap.size w W → W.cell? ⟨g, o + 5, none⟩ = some (.int .u8 (t1.kind : Int)) ∧ W.cell? ⟨g, o + 6, none⟩ = some (.int .i64 t1.at_) ∧ W.cell? ⟨g, o + 7, none⟩ = some (.string (strN t1.text)) ∧ W.cell? ⟨g, o + 8, none⟩ = some (.int .u64 (t1.n : Int)) ∧ W.cell? ⟨g, o + 9, none⟩ = some (.slice aj1 t1.kids.length cj1) ∧ g < W.heap.size) := fun W hW => by have := (hK1 W hW).1; exact this
        obtain ⟨q1, hq1⟩ : ∃ q, vR 4 t1 = q := ⟨_, rfl⟩
        have C1 : ∀ W : World, Below w.heap.size w W → Calls Tryz.prog 14 #[.agg #[.int .u8 (t1.kind : Int), .int .i64 t1.at_, .string (strN t1.text), .int .u64 (t1.n : Int), .slice aj1 t1.kids.length cj1], .int .i64 4] W fun en w' => en = .returned (.bool q1) ∧ Below W.heap.size W w' := fun W hW => by have := H 4 (by omega) (by omega) t1 (by rw [hks]; simp) W _ _ _ _ _ (hK1 W hW).2.1; rw [hq1] at this; exact this
        obtain ⟨g2, o2, aj2, cj2, e2, _, hK2⟩ := HF.out.kid2 2 t2 (by rw [hks]; rfl)
        cases e2
        have HK2 : Hid (∀ W, Below w.heap.size w W → W.cell? ⟨g, o + 10, none⟩ = some (.int .u8 (t2.kind : Int)) ∧ W.cell? ⟨g, o + 11, none⟩ = some (.int .i64 t2.at_) ∧ W.cell? ⟨g, o + 12, none⟩ = some (.string (strN t2.text)) ∧ W.cell? ⟨g, o + 13, none⟩ = some (.int .u64 (t2.n : Int)) ∧ W.cell? ⟨g, o + 14, none⟩ = some (.slice aj2 t2.kids.length cj2) ∧ g < W.heap.size) := fun W hW => by have := (hK2 W hW).1; exact this
        obtain ⟨q2, hq2⟩ : ∃ q, vR 4 t2 = q := ⟨_, rfl⟩
        have C2 : ∀ W : World, Below w.heap.size w W → Calls Tryz.prog 14 #[.agg #[.int .u8 (t2.kind : Int), .int .i64 t2.at_, .string (strN t2.text), .int .u64 (t2.n : Int), .slice aj2 t2.kids.length cj2], .int .i64 4] W fun en w' => en = .returned (.bool q2) ∧ Below W.heap.size W w' := fun W hW => by have := H 4 (by omega) (by omega) t2 (by rw [hks]; simp) W _ _ _ _ _ (hK2 W hW).2.1; rw [hq2] at this; exact this
        obtain ⟨q3, hq3⟩ : ∃ q, vR 14 t2 = q := ⟨_, rfl⟩
        have C3 : ∀ W : World, Below w.heap.size w W → Calls Tryz.prog 14 #[.agg #[.int .u8 (t2.kind : Int), .int .i64 t2.at_, .string (strN t2.text), .int .u64 (t2.n : Int), .slice aj2 t2.kids.length cj2], .int .i64 14] W fun en w' => en = .returned (.bool q3) ∧ Below W.heap.size W w' := fun W hW => by have := H 14 (by omega) (by omega) t2 (by rw [hks]; simp) W _ _ _ _ _ (hK2 W hW).2.1; rw [hq3] at this; exact this
        have HS : Hid (vR 14 t = (qb && (q0 && (q1 && (q2 || q3))))) := by
          unfold Hid
          rw [← hqb, ← hq0, ← hq1, ← hq2, ← hq3, HF.out.num]
          obtain ⟨kd, at_, x, nn, ks⟩ := t
          have : kd = 14 := by simp only [] at hk; omega
          simp only [] at hks
          subst this hks
          exact m14_3
        subst hk14 hm2
        clear hk hm hqb hq0 hq1 hq2 hq3 hK0 hK1 hK2
        go_enter Tryz.func14, Tryz.ntmps14
        obtain ⟨f00, f01, f02, f03, f04, f05⟩ := HK0.out _ hb0
        obtain ⟨f10, f11, f12, f13, f14, f15⟩ := HK1.out _ hb0
        obtain ⟨f20, f21, f22, f23, f24, f25⟩ := HK2.out _ hb0
        go_wp2_with fail
        refine (CB _).mono ?_
        rintro en w1 ⟨rfl, hb1'⟩
        have o1 := o0.below hb1'
        have hb1 := hb0.trans (hb1'.mono hb0.size)
        obtain ⟨p10, p11, p12, p13, p14, p15⟩ := o1.five
        have hl1 := o1.lt
        obtain ⟨f00, f01, f02, f03, f04, f05⟩ := HK0.out _ hb1
        obtain ⟨f10, f11, f12, f13, f14, f15⟩ := HK1.out _ hb1
        obtain ⟨f20, f21, f22, f23, f24, f25⟩ := HK2.out _ hb1
        clear hb1'
        cases qb with
        | false =>
          go_wp2
          go_ret
          exact ⟨ret_bool (by rw [HS.out] <;> rfl), hb1⟩
        | true =>
          go_wp2_with fail
          refine (C0 _ hb1).mono ?_
          rintro en w2 ⟨rfl, hb2'⟩
          have o2 := o1.below hb2'
          have hb2 := hb1.trans (hb2'.mono hb1.size)
          obtain ⟨p20, p21, p22, p23, p24, p25⟩ := o2.five
          have hl2 := o2.lt
          obtain ⟨f00, f01, f02, f03, f04, f05⟩ := HK0.out _ hb2
          obtain ⟨f10, f11, f12, f13, f14, f15⟩ := HK1.out _ hb2
          obtain ⟨f20, f21, f22, f23, f24, f25⟩ := HK2.out _ hb2
          clear hb2'
          cases q0 with
          | false =>
            go_wp2
            go_ret
            exact ⟨ret_bool (by rw [HS.out] <;> rfl), hb2⟩
          | true =>
            go_wp2_with fail
            refine (C1 _ hb2).mono ?_
            rintro en w3 ⟨rfl, hb3'⟩
            have o3 := o2.below hb3'
            have hb3 := hb2.trans (hb3'.mono hb2.size)
            obtain ⟨p30, p31, p32, p33, p34, p35⟩ := o3.five
            have hl3 := o3.lt
            obtain ⟨f00, f01, f02, f03, f04, f05⟩ := HK0.out _ hb3
            obtain ⟨f10, f11, f12, f13, f14, f15⟩ := HK1.out _ hb3
            obtain ⟨f20, f21, f22, f23, f24, f25⟩ := HK2.out _ hb3
            clear hb3'
            cases q1 with
            | false =>
              go_wp2
              go_ret
              exact ⟨ret_bool (by rw [HS.out] <;> rfl), hb3⟩
            | true =>
              go_wp2_with fail
              refine (C2 _ hb3).mono ?_
              rintro en w4 ⟨rfl, hb4'⟩
              have o4 := o3.below hb4'
              have hb4 := hb3.trans (hb4'.mono hb3.size)
              obtain ⟨p40, p41, p42, p43, p44, p45⟩ := o4.five
              have hl4 := o4.lt
              obtain ⟨f00, f01, f02, f03, f04, f05⟩ := HK0.out _ hb4
              obtain ⟨f10, f11, f12, f13, f14, f15⟩ := HK1.out _ hb4
              obtain ⟨f20, f21, f22, f23, f24, f25⟩ := HK2.out _ hb4
              clear hb4'
              cases q2 with
              | true =>
                go_wp2
                go_ret
                exact ⟨ret_bool (by rw [HS.out] <;> rfl), hb4⟩
              | false =>
                go_wp2_with fail
                refine (C3 _ hb4).mono ?_
                rintro en w5 ⟨rfl, hb5'⟩
                have o5 := o4.below hb5'
                have hb5 := hb4.trans (hb5'.mono hb4.size)
                obtain ⟨p50, p51, p52, p53, p54, p55⟩ := o5.five
                have hl5 := o5.lt
                obtain ⟨f00, f01, f02, f03, f04, f05⟩ := HK0.out _ hb5
                obtain ⟨f10, f11, f12, f13, f14, f15⟩ := HK1.out _ hb5
                obtain ⟨f20, f21, f22, f23, f24, f25⟩ := HK2.out _ hb5
                clear hb5'
                go_wp2
                go_ret
                exact ⟨ret_bool (by rw [HS.out] <;> rfl), hb5⟩
      · have HS : Hid (vR 14 t = false) := by
          unfold Hid
          rw [vR_14, valid_core]
          have h1 : (t.kind : Int) = 14 := by omega
          have h2 : ¬ ((t.kids.length : Int) = 2) := by have := HF.out.len; omega
          have h3 : ¬ ((t.kids.length : Int) = 3) := by have := HF.out.len; omega
          rw [core_23 _ _ h1 h2 h3]
          simp
        have hm3 : ((m : Int) == 2) = false := by simp; omega
        have hm4 : ((m : Int) == 3) = false := by simp; omega
        subst hk14
        clear hk hqb hm hm2
        go_enter Tryz.func14, Tryz.ntmps14
        go_wp2_with fail
        refine (CB _).mono ?_
        rintro en w1 ⟨rfl, hb1'⟩
        have o1 := o0.below hb1'
        have hb1 := hb0.trans (hb1'.mono hb0.size)
        obtain ⟨p10, p11, p12, p13, p14, p15⟩ := o1.five
        have hl1 := o1.lt
        clear hb1'
        cases qb with
        | true =>
          go_wp2
          go_ret
          exact ⟨ret_bool (by rw [HS.out] <;> rfl), hb1⟩
        | false =>
          go_wp2
          go_ret
          exact ⟨ret_bool (by rw [HS.out] <;> rfl), hb1⟩
  · have HS : Hid (vR 14 t = false) := by
      unfold Hid
      rw [vR_14]
      have b14 : (t.kind == 14) = false := by simp; omega
      simp [b14]
    have z14 : (k == 14) = false := by simpa using hk14
    clear hk hk14 hqb
    go_enter Tryz.func14, Tryz.ntmps14
    go_wp2
    go_ret
    exact ⟨ret_bool (by rw [HS.out] <;> rfl), hb0⟩
theorem is18 (t : Tree) (hw : wideTr t) (H : KidsAs t) (HG : ∀ u ∈ t.kids, ∀ v ∈ u.kids, IsAs 2 v) : IsAs 18 t := by
  intro w k a b n v hN
  obtain ⟨ao, m, cap, rfl, hF⟩ := Fl.of hN hw
  have HF : Hid (Fl w t k a b n ao m cap) := hF
  have hk := hF.kind
  have hm1 := hF.2.2.2.1
  have hm2 := hF.2.2.2.2
  have o0 := Own.new w #[.int .u8 k, .int .i64 a, .string b, .int .u64 n, .slice ao m cap] 25
  have hb0 : Below w.heap.size w (w.alloc (.cells #[.int .u8 k, .int .i64 a, .string b, .int .u64 n, .slice ao m cap] 25)) := (Below.refl _ _).alloc (Nat.le_refl _) _
  obtain ⟨qb, hqb⟩ : ∃ q, bareB t.text n = q := ⟨_, rfl⟩
  have CB : ∀ W : World, Calls Tryz.prog 26 #[.agg #[.int .u8 k, .int .i64 a, .string b, .int .u64 n, .slice ao m cap]] W fun en w' => en = .returned (.bool qb) ∧ Below W.heap.size W w' := fun W => by have := zbare_as W k a n b (.slice ao m cap) rfl t.text HF.out.txt; rw [hqb] at this; exact this
  clear hF hN
  by_cases hk13 : k = 13
  · by_cases hm : m = 1
    · obtain ⟨t0, hks⟩ : ∃ t0, t.kids = [t0] := by have hl := HF.out.len; rw [hm] at hl; exact list1 hl
      obtain ⟨g, o, aj0, cj0, rfl, hg, hK0⟩ := HF.out.kid2 0 t0 (by rw [hks]; rfl)
      have HK0 : Hid (∀ W, Below w.heap.size w W → W.cell? ⟨g, o, none⟩ = some (.int .u8 (t0.kind : Int)) ∧ W.cell? ⟨g, o + 1, none⟩ = some (.int .i64 t0.at_) ∧ W.cell? ⟨g, o + 2, none⟩ = some (.string (strN t0.text)) ∧ W.cell? ⟨g, o + 3, none⟩ = some (.int .u64 (t0.n : Int)) ∧ W.cell? ⟨g, o + 4, none⟩ = some (.slice aj0 t0.kids.length cj0) ∧ g < W.heap.size) := fun W hW => by have := (hK0 W hW).1; exact this
      obtain ⟨q0, hq0⟩ : ∃ q, vR 2 t0 = q := ⟨_, rfl⟩
      have C0 : ∀ W : World, Below w.heap.size w W → Calls Tryz.prog 14 #[.agg #[.int .u8 (t0.kind : Int), .int .i64 t0.at_, .string (strN t0.text), .int .u64 (t0.n : Int), .slice aj0 t0.kids.length cj0], .int .i64 2] W fun en w' => en = .returned (.bool q0) ∧ Below W.heap.size W w' := fun W hW => by have := H 2 (by omega) (by omega) t0 (by rw [hks]; simp) W _ _ _ _ _ (hK0 W hW).2.1; rw [hq0] at this; exact this
      have HS0 : vR 18 t = (qb && validT 20 t0) := by
        rw [← hqb, HF.out.num]
        obtain ⟨kd, at_, x, nn, ks⟩ := t
        have : kd = 13 := by simp only [] at hk; omega
        simp only [] at hks
        subst this hks
        exact m18
      by_cases h45 : t0.kind = 45
      · have HS : Hid (vR 18 t = (qb && q0)) := by unfold Hid; rw [HS0, v_20c t0 h45, hq0]
        have h45i : (t0.kind : Int) = 45 := by omega
        simp only [h45i] at HK0 C0
        subst hk13 hm
        clear hk hqb hq0 hK0 HS0 h45 h45i
        go_enter Tryz.func14, Tryz.ntmps14
        obtain ⟨f00, f01, f02, f03, f04, f05⟩ := HK0.out _ hb0
        go_wp2_with fail
        refine (CB _).mono ?_
        rintro en w1 ⟨rfl, hb1'⟩
        have o1 := o0.below hb1'
        have hb1 := hb0.trans (hb1'.mono hb0.size)
        obtain ⟨p10, p11, p12, p13, p14, p15⟩ := o1.five
        have hl1 := o1.lt
        obtain ⟨f00, f01, f02, f03, f04, f05⟩ := HK0.out _ hb1
        clear hb1'
        cases qb with
        | false =>
          go_wp2
          go_ret
          exact ⟨ret_bool (by rw [HS.out] <;> rfl), hb1⟩
        | true =>
          go_wp2_with fail
          refine (C0 _ hb1).mono ?_
          rintro en w2 ⟨rfl, hb2'⟩
          have o2 := o1.below hb2'
          have hb2 := hb1.trans (hb2'.mono hb1.size)
          obtain ⟨p20, p21, p22, p23, p24, p25⟩ := o2.five
          have hl2 := o2.lt
          obtain ⟨f00, f01, f02, f03, f04, f05⟩ := HK0.out _ hb2
          clear hb2'
          cases q0 with
          | true =>
            go_wp2
            go_ret
            exact ⟨ret_bool (by rw [HS.out] <;> rfl), hb2⟩
          | false =>
            go_wp2
            go_ret
            exact ⟨ret_bool (by rw [HS.out] <;> rfl), hb2⟩
      · by_cases h54 : t0.kind = 54
        · obtain ⟨qc, hqc⟩ : ∃ q, bareB t0.text t0.n = q := ⟨_, rfl⟩
          obtain ⟨qa, hqa⟩ : ∃ q, t0.kids.all (vR 2) = q := ⟨_, rfl⟩
          have CC : ∀ W : World, Below w.heap.size w W → Calls Tryz.prog 26 #[.agg #[.int .u8 (t0.kind : Int), .int .i64 t0.at_, .string (strN t0.text), .int .u64 (t0.n : Int), .slice aj0 t0.kids.length cj0]] W fun en w' => en = .returned (.bool qc) ∧ Below W.heap.size W w' := fun W hW => by have := zbare_as W (t0.kind : Int) t0.at_ (t0.n : Int) (strN t0.text) (.slice aj0 t0.kids.length cj0) rfl t0.text (hK0 W hW).2.txt; rw [hqc] at this; exact this
          have CA : ∀ W : World, Below w.heap.size w W → Calls Tryz.prog 29 #[.slice aj0 t0.kids.length cj0, .int .i64 2] W fun en w' => en = .returned (.bool qa) ∧ Below W.heap.size W w' := fun W hW => zall_as 2 t0.kids (HG t0 (by rw [hks]; simp)) W _ (hK0 W hW).2.kids qa hqa
          obtain ⟨ql, hql⟩ : ∃ q, decide (t0.kids.length = 2) = q := ⟨_, rfl⟩
          have HS : Hid (vR 18 t = (qb && (qc && (ql && qa)))) := by unfold Hid; rw [HS0, v_20p t0 h54, hqc, hql, hqa]
          have h54i : (t0.kind : Int) = 54 := by omega
          have hl2 : ((t0.kids.length : Int) == 2) = ql := by rw [← hql, Bool.eq_iff_iff]; simp; omega
          simp only [h54i] at HK0 CC
          obtain ⟨L, hL⟩ : ∃ L, t0.kids.length = L := ⟨_, rfl⟩
          simp only [hL] at HK0 CC CA hl2
          subst hk13 hm
          clear hk hqb hq0 hqc hqa hql hK0 HS0 h45 h54 h54i C0 hL
          go_enter Tryz.func14, Tryz.ntmps14
          obtain ⟨f00, f01, f02, f03, f04, f05⟩ := HK0.out _ hb0
          go_wp2_with fail
          refine (CB _).mono ?_
          rintro en w1 ⟨rfl, hb1'⟩
          have o1 := o0.below hb1'
          have hb1 := hb0.trans (hb1'.mono hb0.size)
          obtain ⟨p10, p11, p12, p13, p14, p15⟩ := o1.five
          have hl1 := o1.lt
          obtain ⟨f00, f01, f02, f03, f04, f05⟩ := HK0.out _ hb1
          clear hb1'
          cases qb with
          | false =>
            go_wp2
            go_ret
            exact ⟨ret_bool (by rw [HS.out] <;> rfl), hb1⟩
          | true =>
            go_wp2_with fail
            refine (CC _ hb1).mono ?_
            rintro en w2 ⟨rfl, hb2'⟩
            have o2 := o1.below hb2'
            have hb2 := hb1.trans (hb2'.mono hb1.size)
            obtain ⟨p20, p21, p22, p23, p24, p25⟩ := o2.five
            have hl2 := o2.lt
            obtain ⟨f00, f01, f02, f03, f04, f05⟩ := HK0.out _ hb2
            clear hb2'
            cases qc with
            | false =>
              go_wp2
              go_ret
              exact ⟨ret_bool (by rw [HS.out] <;> rfl), hb2⟩
            | true =>
              cases ql with
              | false =>
                go_wp2
                go_ret
                exact ⟨ret_bool (by rw [HS.out] <;> rfl), hb2⟩
              | true =>
                go_wp2_with fail
                refine (CA _ hb2).mono ?_
                rintro en w3 ⟨rfl, hb3'⟩
                have o3 := o2.below hb3'
                have hb3 := hb2.trans (hb3'.mono hb2.size)
                obtain ⟨p30, p31, p32, p33, p34, p35⟩ := o3.five
                have hl3 := o3.lt
                obtain ⟨f00, f01, f02, f03, f04, f05⟩ := HK0.out _ hb3
                clear hb3'
                go_wp2
                go_ret
                exact ⟨ret_bool (by rw [HS.out] <;> rfl), hb3⟩
        · have HS : Hid (vR 18 t = false) := by unfold Hid; rw [HS0, v_20n t0 h45 h54]; simp
          have z45 : ((t0.kind : Int) == 45) = false := by simp; omega
          have z54 : ((t0.kind : Int) == 54) = false := by simp; omega
          obtain ⟨kz, hkz⟩ : ∃ kz : Int, (t0.kind : Int) = kz := ⟨_, rfl⟩
          simp only [hkz] at HK0 z45 z54
          subst hk13 hm
          clear hk hqb hq0 hK0 HS0 h45 h54 C0 hkz
          go_enter Tryz.func14, Tryz.ntmps14
          obtain ⟨f00, f01, f02, f03, f04, f05⟩ := HK0.out _ hb0
          go_wp2_with fail
          refine (CB _).mono ?_
          rintro en w1 ⟨rfl, hb1'⟩
          have o1 := o0.below hb1'
          have hb1 := hb0.trans (hb1'.mono hb0.size)
          obtain ⟨p10, p11, p12, p13, p14, p15⟩ := o1.five
          have hl1 := o1.lt
          obtain ⟨f00, f01, f02, f03, f04, f05⟩ := HK0.out _ hb1
          clear hb1'
          cases qb with
          | true =>
            go_wp2
            go_ret
            exact ⟨ret_bool (by rw [HS.out] <;> rfl), hb1⟩
          | false =>
            go_wp2
            go_ret
            exact ⟨ret_bool (by rw [HS.out] <;> rfl), hb1⟩
    · have HS : Hid (vR 18 t = false) := by
        unfold Hid
        rw [vR_18, valid_core]
        have h1 : (t.kind : Int) = 13 := by omega
        have h2 : ¬ (t.kids.length : Int) = 1 := by have := HF.out.len; omega
        rw [core_no _ _ (by rw [h1]; exact (show (kidsI 13).1 = (kidsI 13).2 from rfl)) (by rw [h1]; exact h2)]
        simp
      have hm3 : ((m : Int) == 1) = false := by simp; omega
      subst hk13
      clear hk hqb hm
      go_enter Tryz.func14, Tryz.ntmps14
      go_wp2_with fail
      refine (CB _).mono ?_
      rintro en w1 ⟨rfl, hb1'⟩
      have o1 := o0.below hb1'
      have hb1 := hb0.trans (hb1'.mono hb0.size)
      obtain ⟨p10, p11, p12, p13, p14, p15⟩ := o1.five
      have hl1 := o1.lt
      clear hb1'
      cases qb with
      | true =>
        go_wp2
        go_ret
        exact ⟨ret_bool (by rw [HS.out] <;> rfl), hb1⟩
      | false =>
        go_wp2
        go_ret
        exact ⟨ret_bool (by rw [HS.out] <;> rfl), hb1⟩
  · have HS : Hid (vR 18 t = false) := by
      unfold Hid
      rw [vR_18]
      have b13 : (t.kind == 13) = false := by simp; omega
      simp [b13]
    have z13 : (k == 13) = false := by simpa using hk13
    clear hk hk13 hqb
    go_enter Tryz.func14, Tryz.ntmps14
    go_wp2
    go_ret
    exact ⟨ret_bool (by rw [HS.out] <;> rfl), hb0⟩
end Go.Proofs.YtmhnbklchnnbaaaGreatDoor
