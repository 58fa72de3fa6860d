import Derived.Test.YtmhnbklchnnbaaaGreatDoorRcKit
set_option maxHeartbeats 1000000
set_option maxRecDepth 100000
namespace Go.Proofs.YtmhnbklchnnbaaaGreatDoor
open Go.RowKit
set_option linter.unusedVariables false
set_option linter.unusedSimpArgs false
theorem is4 (t : Tree) (hw : wideTr t) (H : KidsAs t) : IsAs 4 t := by
  intro w k a b n v hN
  obtain ⟨ao, m, cap, rfl, hF⟩ := Fl.of hN hw
  have HF : Hid (Fl w t k a b n ao m cap) := hF
  have hk := hF.kind
  have hm1 := hF.2.2.2.1
  have hm2 := hF.2.2.2.2
  have o0 := Own.new w #[.int .u8 k, .int .i64 a, .string b, .int .u64 n, .slice ao m cap] 25
  have hb0 : Below w.heap.size w (w.alloc (.cells #[.int .u8 k, .int .i64 a, .string b, .int .u64 n, .slice ao m cap] 25)) := (Below.refl _ _).alloc (Nat.le_refl _) _
  obtain ⟨qb, hqb⟩ : ∃ q, bareB t.text n = q := ⟨_, rfl⟩
  have CB : ∀ W : World, Calls Tryz.prog 26 #[.agg #[.int .u8 k, .int .i64 a, .string b, .int .u64 n, .slice ao m cap]] W fun en w' => en = .returned (.bool qb) ∧ Below W.heap.size W w' := fun W => by have := zbare_as W k a n b (.slice ao m cap) rfl t.text HF.out.txt; rw [hqb] at this; exact this
  obtain ⟨qa, hqa⟩ : ∃ q, t.kids.all (vR 3) = q := ⟨_, rfl⟩
  have CA : ∀ W : World, Below w.heap.size w W → Calls Tryz.prog 29 #[.slice ao m cap, .int .i64 3] W fun en w' => en = .returned (.bool qa) ∧ Below W.heap.size W w' := fun W hW => zall_as 3 t.kids (H 3 (by omega) (by omega)) W _ (by have := HF.out.kids; rw [HF.out.len] at this; exact this.below hW) qa hqa
  clear hF hN
  by_cases hk2 : k = 10
  · have HS : Hid (vR 4 t = (qb && qa)) := by
      unfold Hid
      rw [← hqb, ← hqa, HF.out.num]
      have hl := HF.out.len
      obtain ⟨kd, at_, x, nn, ks⟩ := t
      have : kd = 10 := by simp only [] at hk; omega
      subst this
      exact m4 (by simp only [] at hl; omega)
    subst hk2
    clear hk hqb hqa
    go_enter Tryz.func14, Tryz.ntmps14
    go_wp2_with fail
    refine (CB _).mono ?_
    rintro en w1 ⟨rfl, hb1'⟩
    have o1 := o0.below hb1'
    have hb1 := hb0.trans (hb1'.mono hb0.size)
    obtain ⟨p10, p11, p12, p13, p14, p15⟩ := o1.five
    have hl1 := o1.lt
    clear hb1'
    cases qb with
    | false =>
      go_wp2
      go_ret
      exact ⟨ret_bool (by rw [HS.out] <;> rfl), hb1⟩
    | true =>
      go_wp2_with fail
      refine (CA _ hb1).mono ?_
      rintro en w2 ⟨rfl, hb2'⟩
      have o2 := o1.below hb2'
      have hb2 := hb1.trans (hb2'.mono hb1.size)
      obtain ⟨p20, p21, p22, p23, p24, p25⟩ := o2.five
      have hl2 := o2.lt
      clear hb2'
      cases qa with
      | false =>
        go_wp2
        go_ret
        exact ⟨ret_bool (by rw [HS.out] <;> rfl), hb2⟩
      | true =>
        go_wp2
        go_ret
        exact ⟨ret_bool (by rw [HS.out] <;> rfl), hb2⟩
  · have HS : Hid (vR 4 t = false) := by
      unfold Hid
      rw [vR_4, valid_core]
      have : ¬ ((t.kind : Int) = 10) := by omega
      have h2 : (t.kind == 10) = false := by simp; omega
      simp [takesI, this, h2]
    have hk3 : (k == 10) = false := by simpa using hk2
    clear hk hk2
    go_enter Tryz.func14, Tryz.ntmps14
    go_wp2
    go_ret
    exact ⟨ret_bool (by rw [HS.out] <;> rfl), hb0⟩
theorem is6 (t : Tree) (hw : wideTr t) (H : KidsAs t) : IsAs 6 t := by
  intro w k a b n v hN
  obtain ⟨ao, m, cap, rfl, hF⟩ := Fl.of hN hw
  have HF : Hid (Fl w t k a b n ao m cap) := hF
  have hk := hF.kind
  have hm1 := hF.2.2.2.1
  have hm2 := hF.2.2.2.2
  have o0 := Own.new w #[.int .u8 k, .int .i64 a, .string b, .int .u64 n, .slice ao m cap] 25
  have hb0 : Below w.heap.size w (w.alloc (.cells #[.int .u8 k, .int .i64 a, .string b, .int .u64 n, .slice ao m cap] 25)) := (Below.refl _ _).alloc (Nat.le_refl _) _
  obtain ⟨qb, hqb⟩ : ∃ q, namedB t.text n false = q := ⟨_, rfl⟩
  have CB : ∀ W : World, Calls Tryz.prog 30 #[.agg #[.int .u8 k, .int .i64 a, .string b, .int .u64 n, .slice ao m cap], .bool false] W fun en w' => en = .returned (.bool qb) ∧ Below W.heap.size W w' := fun W => by have := znamed_as W k a n b (.slice ao m cap) rfl false t.text HF.out.txt; rw [hqb] at this; exact this
  obtain ⟨qa, hqa⟩ : ∃ q, t.kids.all (vR 5) = q := ⟨_, rfl⟩
  have CA : ∀ W : World, Below w.heap.size w W → Calls Tryz.prog 29 #[.slice ao m cap, .int .i64 5] W fun en w' => en = .returned (.bool qa) ∧ Below W.heap.size W w' := fun W hW => zall_as 5 t.kids (H 5 (by omega) (by omega)) W _ (by have := HF.out.kids; rw [HF.out.len] at this; exact this.below hW) qa hqa
  clear hF hN
  by_cases hk2 : k = 2
  · have HS : Hid (vR 6 t = (qb && qa)) := by
      unfold Hid
      rw [← hqb, ← hqa, HF.out.num]
      have hl := HF.out.len
      obtain ⟨kd, at_, x, nn, ks⟩ := t
      have : kd = 2 := by simp only [] at hk; omega
      subst this
      exact m6 (by simp only [] at hl; omega)
    subst hk2
    clear hk hqb hqa
    go_enter Tryz.func14, Tryz.ntmps14
    go_wp2_with fail
    refine (CB _).mono ?_
    rintro en w1 ⟨rfl, hb1'⟩
    have o1 := o0.below hb1'
    have hb1 := hb0.trans (hb1'.mono hb0.size)
    obtain ⟨p10, p11, p12, p13, p14, p15⟩ := o1.five
    have hl1 := o1.lt
    clear hb1'
    cases qb with
    | false =>
      go_wp2
      go_ret
      exact ⟨ret_bool (by rw [HS.out] <;> rfl), hb1⟩
    | true =>
      go_wp2_with fail
      refine (CA _ hb1).mono ?_
      rintro en w2 ⟨rfl, hb2'⟩
      have o2 := o1.below hb2'
      have hb2 := hb1.trans (hb2'.mono hb1.size)
      obtain ⟨p20, p21, p22, p23, p24, p25⟩ := o2.five
      have hl2 := o2.lt
      clear hb2'
      cases qa with
      | false =>
        go_wp2
        go_ret
        exact ⟨ret_bool (by rw [HS.out] <;> rfl), hb2⟩
      | true =>
        go_wp2
        go_ret
        exact ⟨ret_bool (by rw [HS.out] <;> rfl), hb2⟩
  · have HS : Hid (vR 6 t = false) := by
      unfold Hid
      rw [vR_6, valid_core]
      have : ¬ ((t.kind : Int) = 2) := by omega
      have h2 : (t.kind == 2) = false := by simp; omega
      simp [takesI, this, h2]
    have hk3 : (k == 2) = false := by simpa using hk2
    clear hk hk2
    go_enter Tryz.func14, Tryz.ntmps14
    go_wp2
    go_ret
    exact ⟨ret_bool (by rw [HS.out] <;> rfl), hb0⟩
theorem is21 (t : Tree) (hw : wideTr t) (H : KidsAs t) : IsAs 21 t := by
  intro w k a b n v hN
  obtain ⟨ao, m, cap, rfl, hF⟩ := Fl.of hN hw
  have HF : Hid (Fl w t k a b n ao m cap) := hF
  have hk := hF.kind
  have hm1 := hF.2.2.2.1
  have hm2 := hF.2.2.2.2
  have o0 := Own.new w #[.int .u8 k, .int .i64 a, .string b, .int .u64 n, .slice ao m cap] 25
  have hb0 : Below w.heap.size w (w.alloc (.cells #[.int .u8 k, .int .i64 a, .string b, .int .u64 n, .slice ao m cap] 25)) := (Below.refl _ _).alloc (Nat.le_refl _) _
  obtain ⟨qb, hqb⟩ : ∃ q, bareB t.text n = q := ⟨_, rfl⟩
  have CB : ∀ W : World, Calls Tryz.prog 26 #[.agg #[.int .u8 k, .int .i64 a, .string b, .int .u64 n, .slice ao m cap]] W fun en w' => en = .returned (.bool qb) ∧ Below W.heap.size W w' := fun W => by have := zbare_as W k a n b (.slice ao m cap) rfl t.text HF.out.txt; rw [hqb] at this; exact this
  obtain ⟨qa, hqa⟩ : ∃ q, t.kids.all (vR 5) = q := ⟨_, rfl⟩
  have CA : ∀ W : World, Below w.heap.size w W → Calls Tryz.prog 29 #[.slice ao m cap, .int .i64 5] W fun en w' => en = .returned (.bool qa) ∧ Below W.heap.size W w' := fun W hW => zall_as 5 t.kids (H 5 (by omega) (by omega)) W _ (by have := HF.out.kids; rw [HF.out.len] at this; exact this.below hW) qa hqa
  clear hF hN
  by_cases hk2 : k = 5
  · have HS : Hid (vR 21 t = (qb && qa)) := by
      unfold Hid
      rw [← hqb, ← hqa, HF.out.num]
      have hl := HF.out.len
      obtain ⟨kd, at_, x, nn, ks⟩ := t
      have : kd = 5 := by simp only [] at hk; omega
      subst this
      exact m21 (by simp only [] at hl; omega)
    subst hk2
    clear hk hqb hqa
    go_enter Tryz.func14, Tryz.ntmps14
    go_wp2_with fail
    refine (CB _).mono ?_
    rintro en w1 ⟨rfl, hb1'⟩
    have o1 := o0.below hb1'
    have hb1 := hb0.trans (hb1'.mono hb0.size)
    obtain ⟨p10, p11, p12, p13, p14, p15⟩ := o1.five
    have hl1 := o1.lt
    clear hb1'
    cases qb with
    | false =>
      go_wp2
      go_ret
      exact ⟨ret_bool (by rw [HS.out] <;> rfl), hb1⟩
    | true =>
      go_wp2_with fail
      refine (CA _ hb1).mono ?_
      rintro en w2 ⟨rfl, hb2'⟩
      have o2 := o1.below hb2'
      have hb2 := hb1.trans (hb2'.mono hb1.size)
      obtain ⟨p20, p21, p22, p23, p24, p25⟩ := o2.five
      have hl2 := o2.lt
      clear hb2'
      cases qa with
      | false =>
        go_wp2
        go_ret
        exact ⟨ret_bool (by rw [HS.out] <;> rfl), hb2⟩
      | true =>
        go_wp2
        go_ret
        exact ⟨ret_bool (by rw [HS.out] <;> rfl), hb2⟩
  · have HS : Hid (vR 21 t = false) := by
      unfold Hid
      rw [vR_21, valid_core]
      have : ¬ ((t.kind : Int) = 5) := by omega
      have h2 : (t.kind == 5) = false := by simp; omega
      simp [takesI, this, h2]
    have hk3 : (k == 5) = false := by simpa using hk2
    clear hk hk2
    go_enter Tryz.func14, Tryz.ntmps14
    go_wp2
    go_ret
    exact ⟨ret_bool (by rw [HS.out] <;> rfl), hb0⟩
theorem is20 (t : Tree) (hw : wideTr t) (H : KidsAs t) : IsAs 20 t := by
  intro w k a b n v hN
  obtain ⟨ao, m, cap, rfl, hF⟩ := Fl.of hN hw
  have HF : Hid (Fl w t k a b n ao m cap) := hF
  have hk := hF.kind
  have hm1 := hF.2.2.2.1
  have hm2 := hF.2.2.2.2
  have o0 := Own.new w #[.int .u8 k, .int .i64 a, .string b, .int .u64 n, .slice ao m cap] 25
  have hb0 : Below w.heap.size w (w.alloc (.cells #[.int .u8 k, .int .i64 a, .string b, .int .u64 n, .slice ao m cap] 25)) := (Below.refl _ _).alloc (Nat.le_refl _) _
  obtain ⟨qb, hqb⟩ : ∃ q, bareB t.text n = q := ⟨_, rfl⟩
  have CB : ∀ W : World, Calls Tryz.prog 26 #[.agg #[.int .u8 k, .int .i64 a, .string b, .int .u64 n, .slice ao m cap]] W fun en w' => en = .returned (.bool qb) ∧ Below W.heap.size W w' := fun W => by have := zbare_as W k a n b (.slice ao m cap) rfl t.text HF.out.txt; rw [hqb] at this; exact this
  obtain ⟨qa, hqa⟩ : ∃ q, t.kids.all (vR 1) = q := ⟨_, rfl⟩
  have CA : ∀ W : World, Below w.heap.size w W → Calls Tryz.prog 29 #[.slice ao m cap, .int .i64 1] W fun en w' => en = .returned (.bool qa) ∧ Below W.heap.size W w' := fun W hW => zall_as 1 t.kids (H 1 (by omega) (by omega)) W _ (by have := HF.out.kids; rw [HF.out.len] at this; exact this.below hW) qa hqa
  clear hF hN
  by_cases hk2 : k = 6
  · have HS : Hid (vR 20 t = (qb && qa)) := by
      unfold Hid
      rw [← hqb, ← hqa, HF.out.num]
      have hl := HF.out.len
      obtain ⟨kd, at_, x, nn, ks⟩ := t
      have : kd = 6 := by simp only [] at hk; omega
      subst this
      exact m20 (by simp only [] at hl; omega)
    subst hk2
    clear hk hqb hqa
    go_enter Tryz.func14, Tryz.ntmps14
    go_wp2_with fail
    refine (CB _).mono ?_
    rintro en w1 ⟨rfl, hb1'⟩
    have o1 := o0.below hb1'
    have hb1 := hb0.trans (hb1'.mono hb0.size)
    obtain ⟨p10, p11, p12, p13, p14, p15⟩ := o1.five
    have hl1 := o1.lt
    clear hb1'
    cases qb with
    | false =>
      go_wp2
      go_ret
      exact ⟨ret_bool (by rw [HS.out] <;> rfl), hb1⟩
    | true =>
      go_wp2_with fail
      refine (CA _ hb1).mono ?_
      rintro en w2 ⟨rfl, hb2'⟩
      have o2 := o1.below hb2'
      have hb2 := hb1.trans (hb2'.mono hb1.size)
      obtain ⟨p20, p21, p22, p23, p24, p25⟩ := o2.five
      have hl2 := o2.lt
      clear hb2'
      cases qa with
      | false =>
        go_wp2
        go_ret
        exact ⟨ret_bool (by rw [HS.out] <;> rfl), hb2⟩
      | true =>
        go_wp2
        go_ret
        exact ⟨ret_bool (by rw [HS.out] <;> rfl), hb2⟩
  · have HS : Hid (vR 20 t = false) := by
      unfold Hid
      rw [vR_20, valid_core]
      have : ¬ ((t.kind : Int) = 6) := by omega
      have h2 : (t.kind == 6) = false := by simp; omega
      simp [takesI, this, h2]
    have hk3 : (k == 6) = false := by simpa using hk2
    clear hk hk2
    go_enter Tryz.func14, Tryz.ntmps14
    go_wp2
    go_ret
    exact ⟨ret_bool (by rw [HS.out] <;> rfl), hb0⟩
theorem is5 (t : Tree) (hw : wideTr t) (H : KidsAs t) : IsAs 5 t := by
  intro w k a b n v hN
  obtain ⟨ao, m, cap, rfl, hF⟩ := Fl.of hN hw
  have HF : Hid (Fl w t k a b n ao m cap) := hF
  have hk := hF.kind
  have hm1 := hF.2.2.2.1
  have hm2 := hF.2.2.2.2
  have o0 := Own.new w #[.int .u8 k, .int .i64 a, .string b, .int .u64 n, .slice ao m cap] 25
  have hb0 : Below w.heap.size w (w.alloc (.cells #[.int .u8 k, .int .i64 a, .string b, .int .u64 n, .slice ao m cap] 25)) := (Below.refl _ _).alloc (Nat.le_refl _) _
  obtain ⟨qb, hqb⟩ : ∃ q, namedB t.text n false = q := ⟨_, rfl⟩
  have CB : ∀ W : World, Calls Tryz.prog 30 #[.agg #[.int .u8 k, .int .i64 a, .string b, .int .u64 n, .slice ao m cap], .bool false] W fun en w' => en = .returned (.bool qb) ∧ Below W.heap.size W w' := fun W => by have := znamed_as W k a n b (.slice ao m cap) rfl false t.text HF.out.txt; rw [hqb] at this; exact this
  clear hF hN
  by_cases hk2 : k = 3
  · by_cases hm : m = 1
    · obtain ⟨t0, hks⟩ : ∃ t0, t.kids = [t0] := by
        have hl := HF.out.len
        rw [hm] at hl
        exact list1 hl
      obtain ⟨g, o, aj0, cj0, rfl, hg, hK0⟩ := HF.out.kid2 0 t0 (by rw [hks]; rfl)
      have HK0 : Hid (∀ W, Below w.heap.size w W → W.cell? ⟨g, o, none⟩ = some (.int .u8 (t0.kind : Int)) ∧ W.cell? ⟨g, o + 1, none⟩ = some (.int .i64 t0.at_) ∧ W.cell? ⟨g, o + 2, none⟩ = some (.string (strN t0.text)) ∧ W.cell? ⟨g, o + 3, none⟩ = some (.int .u64 (t0.n : Int)) ∧ W.cell? ⟨g, o + 4, none⟩ = some (.slice aj0 t0.kids.length cj0) ∧ g < W.heap.size) := fun W hW => by have := (hK0 W hW).1; exact this
      obtain ⟨q0, hq0⟩ : ∃ q, vR 1 t0 = q := ⟨_, rfl⟩
      have C0 : ∀ W : World, Below w.heap.size w W → Calls Tryz.prog 14 #[.agg #[.int .u8 (t0.kind : Int), .int .i64 t0.at_, .string (strN t0.text), .int .u64 (t0.n : Int), .slice aj0 t0.kids.length cj0], .int .i64 1] W fun en w' => en = .returned (.bool q0) ∧ Below W.heap.size W w' := fun W hW => by have := H 1 (by omega) (by omega) t0 (by rw [hks]; simp) W _ _ _ _ _ (hK0 W hW).2.1; rw [hq0] at this; exact this
      have HS : Hid (vR 5 t = (qb && (q0))) := by
        unfold Hid
        rw [← hqb, ← hq0, HF.out.num]
        obtain ⟨kd, at_, x, nn, ks⟩ := t
        have : kd = 3 := by simp only [] at hk; omega
        simp only [] at hks
        subst this hks
        exact m5
      subst hk2 hm
      clear hk hqb hq0 hK0
      go_enter Tryz.func14, Tryz.ntmps14
      obtain ⟨f00, f01, f02, f03, f04, f05⟩ := HK0.out _ hb0
      go_wp2_with fail
      refine (CB _).mono ?_
      rintro en w1 ⟨rfl, hb1'⟩
      have o1 := o0.below hb1'
      have hb1 := hb0.trans (hb1'.mono hb0.size)
      obtain ⟨p10, p11, p12, p13, p14, p15⟩ := o1.five
      have hl1 := o1.lt
      obtain ⟨f00, f01, f02, f03, f04, f05⟩ := HK0.out _ hb1
      clear hb1'
      cases qb with
      | false =>
        go_wp2
        go_ret
        exact ⟨ret_bool (by rw [HS.out] <;> rfl), hb1⟩
      | true =>
        go_wp2_with fail
        refine (C0 _ hb1).mono ?_
        rintro en w2 ⟨rfl, hb2'⟩
        have o2 := o1.below hb2'
        have hb2 := hb1.trans (hb2'.mono hb1.size)
        obtain ⟨p20, p21, p22, p23, p24, p25⟩ := o2.five
        have hl2 := o2.lt
        obtain ⟨f00, f01, f02, f03, f04, f05⟩ := HK0.out _ hb2
        clear hb2'
        cases q0 with
        | false =>
          go_wp2
          go_ret
          exact ⟨ret_bool (by rw [HS.out] <;> rfl), hb2⟩
        | true =>
          go_wp2
          go_ret
          exact ⟨ret_bool (by rw [HS.out] <;> rfl), hb2⟩
    · have HS : Hid (vR 5 t = false) := by
        unfold Hid
        rw [vR_5, valid_core]
        have h1 : (t.kind : Int) = 3 := by omega
        have h2 : ¬ (t.kids.length : Int) = 1 := by have := HF.out.len; omega
        exact core_no _ _ (by rw [h1]; exact (show (kidsI 3).1 = (kidsI 3).2 from rfl)) (by rw [h1]; exact h2)
      have hm3 : ((m : Int) == 1) = false := by simp; omega
      subst hk2
      clear hk hqb hm
      go_enter Tryz.func14, Tryz.ntmps14
      go_wp2_with fail
      refine (CB _).mono ?_
      rintro en w1 ⟨rfl, hb1'⟩
      have o1 := o0.below hb1'
      have hb1 := hb0.trans (hb1'.mono hb0.size)
      obtain ⟨p10, p11, p12, p13, p14, p15⟩ := o1.five
      have hl1 := o1.lt
      clear hb1'
      cases qb with
      | false =>
        go_wp2
        go_ret
        exact ⟨ret_bool (by rw [HS.out] <;> rfl), hb1⟩
      | true =>
        go_wp2
        go_ret
        exact ⟨ret_bool (by rw [HS.out] <;> rfl), hb1⟩
  · have HS : Hid (vR 5 t = false) := by
      unfold Hid
      rw [vR_5, valid_core]
      have : ¬ ((t.kind : Int) = 3) := by omega
      have h2 : (t.kind == 3) = false := by simp; omega
      simp [takesI, this, h2]
    have hk3 : (k == 3) = false := by simpa using hk2
    clear hk hk2
    go_enter Tryz.func14, Tryz.ntmps14
    go_wp2
    go_ret
    exact ⟨ret_bool (by rw [HS.out] <;> rfl), hb0⟩
theorem is7 (t : Tree) (hw : wideTr t) (H : KidsAs t) : IsAs 7 t := by
  intro w k a b n v hN
  obtain ⟨ao, m, cap, rfl, hF⟩ := Fl.of hN hw
  have HF : Hid (Fl w t k a b n ao m cap) := hF
  have hk := hF.kind
  have hm1 := hF.2.2.2.1
  have hm2 := hF.2.2.2.2
  have o0 := Own.new w #[.int .u8 k, .int .i64 a, .string b, .int .u64 n, .slice ao m cap] 25
  have hb0 : Below w.heap.size w (w.alloc (.cells #[.int .u8 k, .int .i64 a, .string b, .int .u64 n, .slice ao m cap] 25)) := (Below.refl _ _).alloc (Nat.le_refl _) _
  obtain ⟨qb, hqb⟩ : ∃ q, namedB t.text n false = q := ⟨_, rfl⟩
  have CB : ∀ W : World, Calls Tryz.prog 30 #[.agg #[.int .u8 k, .int .i64 a, .string b, .int .u64 n, .slice ao m cap], .bool false] W fun en w' => en = .returned (.bool qb) ∧ Below W.heap.size W w' := fun W => by have := znamed_as W k a n b (.slice ao m cap) rfl false t.text HF.out.txt; rw [hqb] at this; exact this
  clear hF hN
  by_cases hk2 : k = 4
  · by_cases hm : m = 3
    · obtain ⟨t0, t1, t2, hks⟩ : ∃ t0 t1 t2, t.kids = [t0, t1, t2] := by
        have hl := HF.out.len
        rw [hm] at hl
        exact list3 hl
      obtain ⟨g, o, aj0, cj0, rfl, hg, hK0⟩ := HF.out.kid2 0 t0 (by rw [hks]; rfl)
      have HK0 : Hid (∀ W, Below w.heap.size w W → W.cell? ⟨g, o, none⟩ = some (.int .u8 (t0.kind : Int)) ∧ W.cell? ⟨g, o + 1, none⟩ = some (.int .i64 t0.at_) ∧ W.cell? ⟨g, o + 2, none⟩ = some (.string (strN t0.text)) ∧ W.cell? ⟨g, o + 3, none⟩ = some (.int .u64 (t0.n : Int)) ∧ W.cell? ⟨g, o + 4, none⟩ = some (.slice aj0 t0.kids.length cj0) ∧ g < W.heap.size) := fun W hW => by have := (hK0 W hW).1; exact this
      obtain ⟨q0, hq0⟩ : ∃ q, vR 21 t0 = q := ⟨_, rfl⟩
      have C0 : ∀ W : World, Below w.heap.size w W → Calls Tryz.prog 14 #[.agg #[.int .u8 (t0.kind : Int), .int .i64 t0.at_, .string (strN t0.text), .int .u64 (t0.n : Int), .slice aj0 t0.kids.length cj0], .int .i64 21] W fun en w' => en = .returned (.bool q0) ∧ Below W.heap.size W w' := fun W hW => by have := H 21 (by omega) (by omega) t0 (by rw [hks]; simp) W _ _ _ _ _ (hK0 W hW).2.1; rw [hq0] at this; exact this
      obtain ⟨g1, o1, aj1, cj1, e1, _, hK1⟩ := HF.out.kid2 1 t1 (by rw [hks]; rfl)
      cases e1
      have HK1 : Hid (∀ W, Below w.heap.size w W → W.cell? ⟨g, o + 5, none⟩ = some (.int .u8 (t1.kind : Int)) ∧ W.cell? ⟨g, o + 6, none⟩ = some (.int .i64 t1.at_) ∧ W.cell? ⟨g, o + 7, none⟩ = some (.string (strN t1.text)) ∧ W.cell? ⟨g, o + 8, none⟩ = some (.int .u64 (t1.n : Int)) ∧ W.cell? ⟨g, o + 9, none⟩ = some (.slice aj1 t1.kids.length cj1) ∧ g < W.heap.size) := fun W hW => by have := (hK1 W hW).1; exact this
      obtain ⟨q1, hq1⟩ : ∃ q, vR 20 t1 = q := ⟨_, rfl⟩
      have C1 : ∀ W : World, Below w.heap.size w W → Calls Tryz.prog 14 #[.agg #[.int .u8 (t1.kind : Int), .int .i64 t1.at_, .string (strN t1.text), .int .u64 (t1.n : Int), .slice aj1 t1.kids.length cj1], .int .i64 20] W fun en w' => en = .returned (.bool q1) ∧ Below W.heap.size W w' := fun W hW => by have := H 20 (by omega) (by omega) t1 (by rw [hks]; simp) W _ _ _ _ _ (hK1 W hW).2.1; rw [hq1] at this; exact this
      obtain ⟨g2, o2, aj2, cj2, e2, _, hK2⟩ := HF.out.kid2 2 t2 (by rw [hks]; rfl)
      cases e2
      have HK2 : Hid (∀ W, Below w.heap.size w W → W.cell? ⟨g, o + 10, none⟩ = some (.int .u8 (t2.kind : Int)) ∧ W.cell? ⟨g, o + 11, none⟩ = some (.int .i64 t2.at_) ∧ W.cell? ⟨g, o + 12, none⟩ = some (.string (strN t2.text)) ∧ W.cell? ⟨g, o + 13, none⟩ = some (.int .u64 (t2.n : Int)) ∧ W.cell? ⟨g, o + 14, none⟩ = some (.slice aj2 t2.kids.length cj2) ∧ g < W.heap.size) := fun W hW => by have := (hK2 W hW).1; exact this
      obtain ⟨q2, hq2⟩ : ∃ q, vR 4 t2 = q := ⟨_, rfl⟩
      have C2 : ∀ W : World, Below w.heap.size w W → Calls Tryz.prog 14 #[.agg #[.int .u8 (t2.kind : Int), .int .i64 t2.at_, .string (strN t2.text), .int .u64 (t2.n : Int), .slice aj2 t2.kids.length cj2], .int .i64 4] W fun en w' => en = .returned (.bool q2) ∧ Below W.heap.size W w' := fun W hW => by have := H 4 (by omega) (by omega) t2 (by rw [hks]; simp) W _ _ _ _ _ (hK2 W hW).2.1; rw [hq2] at this; exact this
      have HS : Hid (vR 7 t = (qb && (q0 && (q1 && (q2))))) := by
        unfold Hid
        rw [← hqb, ← hq0, ← hq1, ← hq2, HF.out.num]
        obtain ⟨kd, at_, x, nn, ks⟩ := t
        have : kd = 4 := by simp only [] at hk; omega
        simp only [] at hks
        subst this hks
        exact m7
      subst hk2 hm
      clear hk hqb hq0 hq1 hq2 hK0 hK1 hK2
      go_enter Tryz.func14, Tryz.ntmps14
      obtain ⟨f00, f01, f02, f03, f04, f05⟩ := HK0.out _ hb0
      obtain ⟨f10, f11, f12, f13, f14, f15⟩ := HK1.out _ hb0
      obtain ⟨f20, f21, f22, f23, f24, f25⟩ := HK2.out _ hb0
      go_wp2_with fail
      refine (CB _).mono ?_
      rintro en w1 ⟨rfl, hb1'⟩
      have o1 := o0.below hb1'
      have hb1 := hb0.trans (hb1'.mono hb0.size)
      obtain ⟨p10, p11, p12, p13, p14, p15⟩ := o1.five
      have hl1 := o1.lt
      obtain ⟨f00, f01, f02, f03, f04, f05⟩ := HK0.out _ hb1
      obtain ⟨f10, f11, f12, f13, f14, f15⟩ := HK1.out _ hb1
      obtain ⟨f20, f21, f22, f23, f24, f25⟩ := HK2.out _ hb1
      clear hb1'
      cases qb with
      | false =>
        go_wp2
        go_ret
        exact ⟨ret_bool (by rw [HS.out] <;> rfl), hb1⟩
      | true =>
        go_wp2_with fail
        refine (C0 _ hb1).mono ?_
        rintro en w2 ⟨rfl, hb2'⟩
        have o2 := o1.below hb2'
        have hb2 := hb1.trans (hb2'.mono hb1.size)
        obtain ⟨p20, p21, p22, p23, p24, p25⟩ := o2.five
        have hl2 := o2.lt
        obtain ⟨f00, f01, f02, f03, f04, f05⟩ := HK0.out _ hb2
        obtain ⟨f10, f11, f12, f13, f14, f15⟩ := HK1.out _ hb2
        obtain ⟨f20, f21, f22, f23, f24, f25⟩ := HK2.out _ hb2
        clear hb2'
        cases q0 with
        | false =>
          go_wp2
          go_ret
          exact ⟨ret_bool (by rw [HS.out] <;> rfl), hb2⟩
        | true =>
          go_wp2_with fail
          refine (C1 _ hb2).mono ?_
          rintro en w3 ⟨rfl, hb3'⟩
          have o3 := o2.below hb3'
          have hb3 := hb2.trans (hb3'.mono hb2.size)
          obtain ⟨p30, p31, p32, p33, p34, p35⟩ := o3.five
          have hl3 := o3.lt
          obtain ⟨f00, f01, f02, f03, f04, f05⟩ := HK0.out _ hb3
          obtain ⟨f10, f11, f12, f13, f14, f15⟩ := HK1.out _ hb3
          obtain ⟨f20, f21, f22, f23, f24, f25⟩ := HK2.out _ hb3
          clear hb3'
          cases q1 with
          | false =>
            go_wp2
            go_ret
            exact ⟨ret_bool (by rw [HS.out] <;> rfl), hb3⟩
          | true =>
            go_wp2_with fail
            refine (C2 _ hb3).mono ?_
            rintro en w4 ⟨rfl, hb4'⟩
            have o4 := o3.below hb4'
            have hb4 := hb3.trans (hb4'.mono hb3.size)
            obtain ⟨p40, p41, p42, p43, p44, p45⟩ := o4.five
            have hl4 := o4.lt
            obtain ⟨f00, f01, f02, f03, f04, f05⟩ := HK0.out _ hb4
            obtain ⟨f10, f11, f12, f13, f14, f15⟩ := HK1.out _ hb4
            obtain ⟨f20, f21, f22, f23, f24, f25⟩ := HK2.out _ hb4
            clear hb4'
            cases q2 with
            | false =>
              go_wp2
              go_ret
              exact ⟨ret_bool (by rw [HS.out] <;> rfl), hb4⟩
            | true =>
              go_wp2
              go_ret
              exact ⟨ret_bool (by rw [HS.out] <;> rfl), hb4⟩
    · have HS : Hid (vR 7 t = false) := by
        unfold Hid
        rw [vR_7, valid_core]
        have h1 : (t.kind : Int) = 4 := by omega
        have h2 : ¬ (t.kids.length : Int) = 3 := by have := HF.out.len; omega
        rw [core_no _ _ (by rw [h1]; exact (show (kidsI 4).1 = (kidsI 4).2 from rfl)) (by rw [h1]; exact h2)]
        simp
      have hm3 : ((m : Int) == 3) = false := by simp; omega
      subst hk2
      clear hk hqb hm
      go_enter Tryz.func14, Tryz.ntmps14
      go_wp2_with fail
      refine (CB _).mono ?_
      rintro en w1 ⟨rfl, hb1'⟩
      have o1 := o0.below hb1'
      have hb1 := hb0.trans (hb1'.mono hb0.size)
      obtain ⟨p10, p11, p12, p13, p14, p15⟩ := o1.five
      have hl1 := o1.lt
      clear hb1'
      cases qb with
      | false =>
        go_wp2
        go_ret
        exact ⟨ret_bool (by rw [HS.out] <;> rfl), hb1⟩
      | true =>
        go_wp2
        go_ret
        exact ⟨ret_bool (by rw [HS.out] <;> rfl), hb1⟩
  · have HS : Hid (vR 7 t = false) := by
      unfold Hid
      rw [vR_7, valid_core]
      have : ¬ ((t.kind : Int) = 4) := by omega
      have h2 : (t.kind == 4) = false := by simp; omega
      simp [takesI, this, h2]
    have hk3 : (k == 4) = false := by simpa using hk2
    clear hk hk2
    go_enter Tryz.func14, Tryz.ntmps14
    go_wp2
    go_ret
    exact ⟨ret_bool (by rw [HS.out] <;> rfl), hb0⟩
theorem is12 (t : Tree) (hw : wideTr t) (H : KidsAs t) : IsAs 12 t := by
  intro w k a b n v hN
  obtain ⟨ao, m, cap, rfl, hF⟩ := Fl.of hN hw
  have HF : Hid (Fl w t k a b n ao m cap) := hF
  have hk := hF.kind
  have hm1 := hF.2.2.2.1
  have hm2 := hF.2.2.2.2
  have o0 := Own.new w #[.int .u8 k, .int .i64 a, .string b, .int .u64 n, .slice ao m cap] 25
  have hb0 : Below w.heap.size w (w.alloc (.cells #[.int .u8 k, .int .i64 a, .string b, .int .u64 n, .slice ao m cap] 25)) := (Below.refl _ _).alloc (Nat.le_refl _) _
  obtain ⟨qb, hqb⟩ : ∃ q, bareB t.text n = q := ⟨_, rfl⟩
  have CB : ∀ W : World, Calls Tryz.prog 26 #[.agg #[.int .u8 k, .int .i64 a, .string b, .int .u64 n, .slice ao m cap]] W fun en w' => en = .returned (.bool qb) ∧ Below W.heap.size W w' := fun W => by have := zbare_as W k a n b (.slice ao m cap) rfl t.text HF.out.txt; rw [hqb] at this; exact this
  clear hF hN
  by_cases hk2 : k = 19
  · by_cases hm : m = 1
    · obtain ⟨t0, hks⟩ : ∃ t0, t.kids = [t0] := by
        have hl := HF.out.len
        rw [hm] at hl
        exact list1 hl
      obtain ⟨g, o, aj0, cj0, rfl, hg, hK0⟩ := HF.out.kid2 0 t0 (by rw [hks]; rfl)
      have HK0 : Hid (∀ W, Below w.heap.size w W → W.cell? ⟨g, o, none⟩ = some (.int .u8 (t0.kind : Int)) ∧ W.cell? ⟨g, o + 1, none⟩ = some (.int .i64 t0.at_) ∧ W.cell? ⟨g, o + 2, none⟩ = some (.string (strN t0.text)) ∧ W.cell? ⟨g, o + 3, none⟩ = some (.int .u64 (t0.n : Int)) ∧ W.cell? ⟨g, o + 4, none⟩ = some (.slice aj0 t0.kids.length cj0) ∧ g < W.heap.size) := fun W hW => by have := (hK0 W hW).1; exact this
      obtain ⟨q0, hq0⟩ : ∃ q, vR 4 t0 = q := ⟨_, rfl⟩
      have C0 : ∀ W : World, Below w.heap.size w W → Calls Tryz.prog 14 #[.agg #[.int .u8 (t0.kind : Int), .int .i64 t0.at_, .string (strN t0.text), .int .u64 (t0.n : Int), .slice aj0 t0.kids.length cj0], .int .i64 4] W fun en w' => en = .returned (.bool q0) ∧ Below W.heap.size W w' := fun W hW => by have := H 4 (by omega) (by omega) t0 (by rw [hks]; simp) W _ _ _ _ _ (hK0 W hW).2.1; rw [hq0] at this; exact this
      have HS : Hid (vR 12 t = (qb && (q0))) := by
        unfold Hid
        rw [← hqb, ← hq0, HF.out.num]
        obtain ⟨kd, at_, x, nn, ks⟩ := t
        have : kd = 19 := by simp only [] at hk; omega
        simp only [] at hks
        subst this hks
        exact m12
      subst hk2 hm
      clear hk hqb hq0 hK0
      go_enter Tryz.func14, Tryz.ntmps14
      obtain ⟨f00, f01, f02, f03, f04, f05⟩ := HK0.out _ hb0
      go_wp2_with fail
      refine (CB _).mono ?_
      rintro en w1 ⟨rfl, hb1'⟩
      have o1 := o0.below hb1'
      have hb1 := hb0.trans (hb1'.mono hb0.size)
      obtain ⟨p10, p11, p12, p13, p14, p15⟩ := o1.five
      have hl1 := o1.lt
      obtain ⟨f00, f01, f02, f03, f04, f05⟩ := HK0.out _ hb1
      clear hb1'
      cases qb with
      | false =>
        go_wp2
        go_ret
        exact ⟨ret_bool (by rw [HS.out] <;> rfl), hb1⟩
      | true =>
        go_wp2_with fail
        refine (C0 _ hb1).mono ?_
        rintro en w2 ⟨rfl, hb2'⟩
        have o2 := o1.below hb2'
        have hb2 := hb1.trans (hb2'.mono hb1.size)
        obtain ⟨p20, p21, p22, p23, p24, p25⟩ := o2.five
        have hl2 := o2.lt
        obtain ⟨f00, f01, f02, f03, f04, f05⟩ := HK0.out _ hb2
        clear hb2'
        cases q0 with
        | false =>
          go_wp2
          go_ret
          exact ⟨ret_bool (by rw [HS.out] <;> rfl), hb2⟩
        | true =>
          go_wp2
          go_ret
          exact ⟨ret_bool (by rw [HS.out] <;> rfl), hb2⟩
    · have HS : Hid (vR 12 t = false) := by
        unfold Hid
        rw [vR_12, valid_core]
        have h1 : (t.kind : Int) = 19 := by omega
        have h2 : ¬ (t.kids.length : Int) = 1 := by have := HF.out.len; omega
        rw [core_no _ _ (by rw [h1]; exact (show (kidsI 19).1 = (kidsI 19).2 from rfl)) (by rw [h1]; exact h2)]
        simp
      have hm3 : ((m : Int) == 1) = false := by simp; omega
      subst hk2
      clear hk hqb hm
      go_enter Tryz.func14, Tryz.ntmps14
      go_wp2_with fail
      refine (CB _).mono ?_
      rintro en w1 ⟨rfl, hb1'⟩
      have o1 := o0.below hb1'
      have hb1 := hb0.trans (hb1'.mono hb0.size)
      obtain ⟨p10, p11, p12, p13, p14, p15⟩ := o1.five
      have hl1 := o1.lt
      clear hb1'
      cases qb with
      | false =>
        go_wp2
        go_ret
        exact ⟨ret_bool (by rw [HS.out] <;> rfl), hb1⟩
      | true =>
        go_wp2
        go_ret
        exact ⟨ret_bool (by rw [HS.out] <;> rfl), hb1⟩
  · have HS : Hid (vR 12 t = false) := by
      unfold Hid
      rw [vR_12, valid_core]
      have : ¬ ((t.kind : Int) = 19) := by omega
      have h2 : (t.kind == 19) = false := by simp; omega
      simp [takesI, this, h2]
    have hk3 : (k == 19) = false := by simpa using hk2
    clear hk hk2
    go_enter Tryz.func14, Tryz.ntmps14
    go_wp2
    go_ret
    exact ⟨ret_bool (by rw [HS.out] <;> rfl), hb0⟩
theorem is13 (t : Tree) (hw : wideTr t) (H : KidsAs t) : IsAs 13 t := by
  intro w k a b n v hN
  obtain ⟨ao, m, cap, rfl, hF⟩ := Fl.of hN hw
  have HF : Hid (Fl w t k a b n ao m cap) := hF
  have hk := hF.kind
  have hm1 := hF.2.2.2.1
  have hm2 := hF.2.2.2.2
  have o0 := Own.new w #[.int .u8 k, .int .i64 a, .string b, .int .u64 n, .slice ao m cap] 25
  have hb0 : Below w.heap.size w (w.alloc (.cells #[.int .u8 k, .int .i64 a, .string b, .int .u64 n, .slice ao m cap] 25)) := (Below.refl _ _).alloc (Nat.le_refl _) _
  obtain ⟨qb, hqb⟩ : ∃ q, namedB t.text n false = q := ⟨_, rfl⟩
  have CB : ∀ W : World, Calls Tryz.prog 30 #[.agg #[.int .u8 k, .int .i64 a, .string b, .int .u64 n, .slice ao m cap], .bool false] W fun en w' => en = .returned (.bool qb) ∧ Below W.heap.size W w' := fun W => by have := znamed_as W k a n b (.slice ao m cap) rfl false t.text HF.out.txt; rw [hqb] at this; exact this
  clear hF hN
  by_cases hk2 : k = 25
  · by_cases hm : m = 0
    · have hks : t.kids = [] := by
        have hl := HF.out.len
        rw [hm] at hl
        exact list0 hl
      have HS : Hid (vR 13 t = (qb)) := by
        unfold Hid
        rw [← hqb, HF.out.num]
        obtain ⟨kd, at_, x, nn, ks⟩ := t
        have : kd = 25 := by simp only [] at hk; omega
        simp only [] at hks
        subst this hks
        exact m13
      subst hk2 hm
      clear hk hqb
      go_enter Tryz.func14, Tryz.ntmps14
      go_wp2_with fail
      refine (CB _).mono ?_
      rintro en w1 ⟨rfl, hb1'⟩
      have o1 := o0.below hb1'
      have hb1 := hb0.trans (hb1'.mono hb0.size)
      obtain ⟨p10, p11, p12, p13, p14, p15⟩ := o1.five
      have hl1 := o1.lt
      clear hb1'
      cases qb with
      | false =>
        go_wp2
        go_ret
        exact ⟨ret_bool (by rw [HS.out] <;> rfl), hb1⟩
      | true =>
        go_wp2
        go_ret
        exact ⟨ret_bool (by rw [HS.out] <;> rfl), hb1⟩
    · have HS : Hid (vR 13 t = false) := by
        unfold Hid
        rw [vR_13, valid_core]
        have h1 : (t.kind : Int) = 25 := by omega
        have h2 : ¬ (t.kids.length : Int) = 0 := by have := HF.out.len; omega
        exact core_no _ _ (by rw [h1]; exact (show (kidsI 25).1 = (kidsI 25).2 from rfl)) (by rw [h1]; exact h2)
      have hm3 : ((m : Int) == 0) = false := by simp; omega
      subst hk2
      clear hk hqb hm
      go_enter Tryz.func14, Tryz.ntmps14
      go_wp2_with fail
      refine (CB _).mono ?_
      rintro en w1 ⟨rfl, hb1'⟩
      have o1 := o0.below hb1'
      have hb1 := hb0.trans (hb1'.mono hb0.size)
      obtain ⟨p10, p11, p12, p13, p14, p15⟩ := o1.five
      have hl1 := o1.lt
      clear hb1'
      cases qb with
      | false =>
        go_wp2
        go_ret
        exact ⟨ret_bool (by rw [HS.out] <;> rfl), hb1⟩
      | true =>
        go_wp2
        go_ret
        exact ⟨ret_bool (by rw [HS.out] <;> rfl), hb1⟩
  · have HS : Hid (vR 13 t = false) := by
      unfold Hid
      rw [vR_13, valid_core]
      have : ¬ ((t.kind : Int) = 25) := by omega
      have h2 : (t.kind == 25) = false := by simp; omega
      simp [takesI, this, h2]
    have hk3 : (k == 25) = false := by simpa using hk2
    clear hk hk2
    go_enter Tryz.func14, Tryz.ntmps14
    go_wp2
    go_ret
    exact ⟨ret_bool (by rw [HS.out] <;> rfl), hb0⟩
theorem is15 (t : Tree) (hw : wideTr t) (H : KidsAs t) : IsAs 15 t := by
  intro w k a b n v hN
  obtain ⟨ao, m, cap, rfl, hF⟩ := Fl.of hN hw
  have HF : Hid (Fl w t k a b n ao m cap) := hF
  have hk := hF.kind
  have hm1 := hF.2.2.2.1
  have hm2 := hF.2.2.2.2
  have o0 := Own.new w #[.int .u8 k, .int .i64 a, .string b, .int .u64 n, .slice ao m cap] 25
  have hb0 : Below w.heap.size w (w.alloc (.cells #[.int .u8 k, .int .i64 a, .string b, .int .u64 n, .slice ao m cap] 25)) := (Below.refl _ _).alloc (Nat.le_refl _) _
  obtain ⟨qb, hqb⟩ : ∃ q, bareB t.text n = q := ⟨_, rfl⟩
  have CB : ∀ W : World, Calls Tryz.prog 26 #[.agg #[.int .u8 k, .int .i64 a, .string b, .int .u64 n, .slice ao m cap]] W fun en w' => en = .returned (.bool qb) ∧ Below W.heap.size W w' := fun W => by have := zbare_as W k a n b (.slice ao m cap) rfl t.text HF.out.txt; rw [hqb] at this; exact this
  clear hF hN
  by_cases hk2 : k = 24
  · by_cases hm : m = 0
    · have hks : t.kids = [] := by
        have hl := HF.out.len
        rw [hm] at hl
        exact list0 hl
      have HS : Hid (vR 15 t = (qb)) := by
        unfold Hid
        rw [← hqb, HF.out.num]
        obtain ⟨kd, at_, x, nn, ks⟩ := t
        have : kd = 24 := by simp only [] at hk; omega
        simp only [] at hks
        subst this hks
        exact m15
      subst hk2 hm
      clear hk hqb
      go_enter Tryz.func14, Tryz.ntmps14
      go_wp2_with fail
      refine (CB _).mono ?_
      rintro en w1 ⟨rfl, hb1'⟩
      have o1 := o0.below hb1'
      have hb1 := hb0.trans (hb1'.mono hb0.size)
      obtain ⟨p10, p11, p12, p13, p14, p15⟩ := o1.five
      have hl1 := o1.lt
      clear hb1'
      cases qb with
      | false =>
        go_wp2
        go_ret
        exact ⟨ret_bool (by rw [HS.out] <;> rfl), hb1⟩
      | true =>
        go_wp2
        go_ret
        exact ⟨ret_bool (by rw [HS.out] <;> rfl), hb1⟩
    · have HS : Hid (vR 15 t = false) := by
        unfold Hid
        rw [vR_15, valid_core]
        have h1 : (t.kind : Int) = 24 := by omega
        have h2 : ¬ (t.kids.length : Int) = 0 := by have := HF.out.len; omega
        rw [core_no _ _ (by rw [h1]; exact (show (kidsI 24).1 = (kidsI 24).2 from rfl)) (by rw [h1]; exact h2)]
        simp
      have hm3 : ((m : Int) == 0) = false := by simp; omega
      subst hk2
      clear hk hqb hm
      go_enter Tryz.func14, Tryz.ntmps14
      go_wp2_with fail
      refine (CB _).mono ?_
      rintro en w1 ⟨rfl, hb1'⟩
      have o1 := o0.below hb1'
      have hb1 := hb0.trans (hb1'.mono hb0.size)
      obtain ⟨p10, p11, p12, p13, p14, p15⟩ := o1.five
      have hl1 := o1.lt
      clear hb1'
      cases qb with
      | false =>
        go_wp2
        go_ret
        exact ⟨ret_bool (by rw [HS.out] <;> rfl), hb1⟩
      | true =>
        go_wp2
        go_ret
        exact ⟨ret_bool (by rw [HS.out] <;> rfl), hb1⟩
  · have HS : Hid (vR 15 t = false) := by
      unfold Hid
      rw [vR_15, valid_core]
      have : ¬ ((t.kind : Int) = 24) := by omega
      have h2 : (t.kind == 24) = false := by simp; omega
      simp [takesI, this, h2]
    have hk3 : (k == 24) = false := by simpa using hk2
    clear hk hk2
    go_enter Tryz.func14, Tryz.ntmps14
    go_wp2
    go_ret
    exact ⟨ret_bool (by rw [HS.out] <;> rfl), hb0⟩
end Go.Proofs.YtmhnbklchnnbaaaGreatDoor
