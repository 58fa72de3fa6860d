import Derived.Test.YtmhnbklchnnbaaaGreatDoorQ47
set_option maxHeartbeats 8000000
set_option maxRecDepth 100000
namespace Go.Proofs.YtmhnbklchnnbaaaGreatDoor
open Go.RowKit
set_option linter.unusedVariables false
set_option linter.unusedSimpArgs false
theorem st10 (t : Tree) (hw : wideTr t) (HC : IsAs 4 t) (hK : t.kind = 10) : StAs t := by
  intro w k a b n v hN
  obtain ⟨ao, m, cap, rfl, hF⟩ := Fl.of hN hw
  have HF : Hid (Fl w t k a b n ao m cap) := hF
  have hk := hF.kind
  have hm1 := hF.2.2.2.1
  have hm2 := hF.2.2.2.2
  have o0 := Own.new w #[.int .u8 k, .int .i64 a, .string b, .int .u64 n, .slice ao m cap] 25
  have hb0 : Below w.heap.size w (w.alloc (.cells #[.int .u8 k, .int .i64 a, .string b, .int .u64 n, .slice ao m cap] 25)) := (Below.refl _ _).alloc (Nat.le_refl _) _
  have hk2 : k = 10 := by omega
  obtain ⟨q0, hq0⟩ : ∃ q, vR 4 t = q := ⟨_, rfl⟩
  have C0 : ∀ W : World, Below w.heap.size w W → Calls Tryz.prog 14 #[.agg #[.int .u8 k, .int .i64 a, .string b, .int .u64 n, .slice ao m cap], .int .i64 4] W fun en w' => en = .returned (.bool q0) ∧ Below W.heap.size W w' := fun W hW => by have := HC W k a b n (.slice ao m cap) (HF.out.below hW).1; rw [hq0] at this; exact this
  have HS : Hid (vR 3 t = q0) := by unfold Hid; rw [← hq0]; exact s10 t hK
  subst hk2
  clear hF hN hk hq0 hK
  go_enter Tryz.func28, Tryz.ntmps28
  go_wp2_with fail
  refine (C0 _ hb0).mono ?_
  rintro en w1 ⟨rfl, hb1'⟩
  have o1 := o0.below hb1'
  have hb1 := hb0.trans (hb1'.mono hb0.size)
  obtain ⟨p10, p11, p12, p13, p14, p15⟩ := o1.five
  have hl1 := o1.lt
  clear hb1'
  go_wp2
  go_ret
  exact ⟨ret_bool (by rw [HS.out] <;> rfl), hb1⟩
theorem st11 (t : Tree) (hw : wideTr t) (HC : IsAs 17 t) (hK : t.kind = 11) : StAs t := by
  intro w k a b n v hN
  obtain ⟨ao, m, cap, rfl, hF⟩ := Fl.of hN hw
  have HF : Hid (Fl w t k a b n ao m cap) := hF
  have hk := hF.kind
  have hm1 := hF.2.2.2.1
  have hm2 := hF.2.2.2.2
  have o0 := Own.new w #[.int .u8 k, .int .i64 a, .string b, .int .u64 n, .slice ao m cap] 25
  have hb0 : Below w.heap.size w (w.alloc (.cells #[.int .u8 k, .int .i64 a, .string b, .int .u64 n, .slice ao m cap] 25)) := (Below.refl _ _).alloc (Nat.le_refl _) _
  have hk2 : k = 11 := by omega
  obtain ⟨q0, hq0⟩ : ∃ q, vR 17 t = q := ⟨_, rfl⟩
  have C0 : ∀ W : World, Below w.heap.size w W → Calls Tryz.prog 14 #[.agg #[.int .u8 k, .int .i64 a, .string b, .int .u64 n, .slice ao m cap], .int .i64 17] W fun en w' => en = .returned (.bool q0) ∧ Below W.heap.size W w' := fun W hW => by have := HC W k a b n (.slice ao m cap) (HF.out.below hW).1; rw [hq0] at this; exact this
  have HS : Hid (vR 3 t = q0) := by unfold Hid; rw [← hq0]; exact s11 t hK
  subst hk2
  clear hF hN hk hq0 hK
  go_enter Tryz.func28, Tryz.ntmps28
  go_wp2_with fail
  refine (C0 _ hb0).mono ?_
  rintro en w1 ⟨rfl, hb1'⟩
  have o1 := o0.below hb1'
  have hb1 := hb0.trans (hb1'.mono hb0.size)
  obtain ⟨p10, p11, p12, p13, p14, p15⟩ := o1.five
  have hl1 := o1.lt
  clear hb1'
  go_wp2
  go_ret
  exact ⟨ret_bool (by rw [HS.out] <;> rfl), hb1⟩
theorem st12 (t : Tree) (hw : wideTr t) (HC : IsAs 16 t) (hK : t.kind = 12) : StAs t := by
  intro w k a b n v hN
  obtain ⟨ao, m, cap, rfl, hF⟩ := Fl.of hN hw
  have HF : Hid (Fl w t k a b n ao m cap) := hF
  have hk := hF.kind
  have hm1 := hF.2.2.2.1
  have hm2 := hF.2.2.2.2
  have o0 := Own.new w #[.int .u8 k, .int .i64 a, .string b, .int .u64 n, .slice ao m cap] 25
  have hb0 : Below w.heap.size w (w.alloc (.cells #[.int .u8 k, .int .i64 a, .string b, .int .u64 n, .slice ao m cap] 25)) := (Below.refl _ _).alloc (Nat.le_refl _) _
  have hk2 : k = 12 := by omega
  obtain ⟨q0, hq0⟩ : ∃ q, vR 16 t = q := ⟨_, rfl⟩
  have C0 : ∀ W : World, Below w.heap.size w W → Calls Tryz.prog 14 #[.agg #[.int .u8 k, .int .i64 a, .string b, .int .u64 n, .slice ao m cap], .int .i64 16] W fun en w' => en = .returned (.bool q0) ∧ Below W.heap.size W w' := fun W hW => by have := HC W k a b n (.slice ao m cap) (HF.out.below hW).1; rw [hq0] at this; exact this
  have HS : Hid (vR 3 t = q0) := by unfold Hid; rw [← hq0]; exact s12 t hK
  subst hk2
  clear hF hN hk hq0 hK
  go_enter Tryz.func28, Tryz.ntmps28
  go_wp2_with fail
  refine (C0 _ hb0).mono ?_
  rintro en w1 ⟨rfl, hb1'⟩
  have o1 := o0.below hb1'
  have hb1 := hb0.trans (hb1'.mono hb0.size)
  obtain ⟨p10, p11, p12, p13, p14, p15⟩ := o1.five
  have hl1 := o1.lt
  clear hb1'
  go_wp2
  go_ret
  exact ⟨ret_bool (by rw [HS.out] <;> rfl), hb1⟩
theorem st13 (t : Tree) (hw : wideTr t) (HC : IsAs 16 t) (hK : t.kind = 13) : StAs t := by
  intro w k a b n v hN
  obtain ⟨ao, m, cap, rfl, hF⟩ := Fl.of hN hw
  have HF : Hid (Fl w t k a b n ao m cap) := hF
  have hk := hF.kind
  have hm1 := hF.2.2.2.1
  have hm2 := hF.2.2.2.2
  have o0 := Own.new w #[.int .u8 k, .int .i64 a, .string b, .int .u64 n, .slice ao m cap] 25
  have hb0 : Below w.heap.size w (w.alloc (.cells #[.int .u8 k, .int .i64 a, .string b, .int .u64 n, .slice ao m cap] 25)) := (Below.refl _ _).alloc (Nat.le_refl _) _
  have hk2 : k = 13 := by omega
  obtain ⟨q0, hq0⟩ : ∃ q, vR 16 t = q := ⟨_, rfl⟩
  have C0 : ∀ W : World, Below w.heap.size w W → Calls Tryz.prog 14 #[.agg #[.int .u8 k, .int .i64 a, .string b, .int .u64 n, .slice ao m cap], .int .i64 16] W fun en w' => en = .returned (.bool q0) ∧ Below W.heap.size W w' := fun W hW => by have := HC W k a b n (.slice ao m cap) (HF.out.below hW).1; rw [hq0] at this; exact this
  have HS : Hid (vR 3 t = q0) := by unfold Hid; rw [← hq0]; exact s13 t hK
  subst hk2
  clear hF hN hk hq0 hK
  go_enter Tryz.func28, Tryz.ntmps28
  go_wp2_with fail
  refine (C0 _ hb0).mono ?_
  rintro en w1 ⟨rfl, hb1'⟩
  have o1 := o0.below hb1'
  have hb1 := hb0.trans (hb1'.mono hb0.size)
  obtain ⟨p10, p11, p12, p13, p14, p15⟩ := o1.five
  have hl1 := o1.lt
  clear hb1'
  go_wp2
  go_ret
  exact ⟨ret_bool (by rw [HS.out] <;> rfl), hb1⟩
theorem st14 (t : Tree) (hw : wideTr t) (HC : IsAs 14 t) (hK : t.kind = 14) : StAs t := by
  intro w k a b n v hN
  obtain ⟨ao, m, cap, rfl, hF⟩ := Fl.of hN hw
  have HF : Hid (Fl w t k a b n ao m cap) := hF
  have hk := hF.kind
  have hm1 := hF.2.2.2.1
  have hm2 := hF.2.2.2.2
  have o0 := Own.new w #[.int .u8 k, .int .i64 a, .string b, .int .u64 n, .slice ao m cap] 25
  have hb0 : Below w.heap.size w (w.alloc (.cells #[.int .u8 k, .int .i64 a, .string b, .int .u64 n, .slice ao m cap] 25)) := (Below.refl _ _).alloc (Nat.le_refl _) _
  have hk2 : k = 14 := by omega
  obtain ⟨q0, hq0⟩ : ∃ q, vR 14 t = q := ⟨_, rfl⟩
  have C0 : ∀ W : World, Below w.heap.size w W → Calls Tryz.prog 14 #[.agg #[.int .u8 k, .int .i64 a, .string b, .int .u64 n, .slice ao m cap], .int .i64 14] W fun en w' => en = .returned (.bool q0) ∧ Below W.heap.size W w' := fun W hW => by have := HC W k a b n (.slice ao m cap) (HF.out.below hW).1; rw [hq0] at this; exact this
  have HS : Hid (vR 3 t = q0) := by unfold Hid; rw [← hq0]; exact s14 t hK
  subst hk2
  clear hF hN hk hq0 hK
  go_enter Tryz.func28, Tryz.ntmps28
  go_wp2_with fail
  refine (C0 _ hb0).mono ?_
  rintro en w1 ⟨rfl, hb1'⟩
  have o1 := o0.below hb1'
  have hb1 := hb0.trans (hb1'.mono hb0.size)
  obtain ⟨p10, p11, p12, p13, p14, p15⟩ := o1.five
  have hl1 := o1.lt
  clear hb1'
  go_wp2
  go_ret
  exact ⟨ret_bool (by rw [HS.out] <;> rfl), hb1⟩
theorem st20 (t : Tree) (hw : wideTr t) (H : KidsAs t) (hK : t.kind = 20) : StAs t := by
  intro w k a b n v hN
  obtain ⟨ao, m, cap, rfl, hF⟩ := Fl.of hN hw
  have HF : Hid (Fl w t k a b n ao m cap) := hF
  have hk := hF.kind
  have hm1 := hF.2.2.2.1
  have hm2 := hF.2.2.2.2
  have o0 := Own.new w #[.int .u8 k, .int .i64 a, .string b, .int .u64 n, .slice ao m cap] 25
  have hb0 : Below w.heap.size w (w.alloc (.cells #[.int .u8 k, .int .i64 a, .string b, .int .u64 n, .slice ao m cap] 25)) := (Below.refl _ _).alloc (Nat.le_refl _) _
  have hk2 : k = 20 := by omega
  obtain ⟨qb, hqb⟩ : ∃ q, namedB t.text n true = q := ⟨_, rfl⟩
  have CB : ∀ W : World, Calls Tryz.prog 30 #[.agg #[.int .u8 k, .int .i64 a, .string b, .int .u64 n, .slice ao m cap], .bool true] W fun en w' => en = .returned (.bool qb) ∧ Below W.heap.size W w' := fun W => by have := znamed_as W k a n b (.slice ao m cap) rfl true t.text HF.out.txt; rw [hqb] at this; exact this
  obtain ⟨qm, hqm⟩ : ∃ q, decide (t.kids.length = 0) = q := ⟨_, rfl⟩
  have hm9 : ((m : Int) == 0) = qm := by rw [← hqm, HF.out.len, Bool.eq_iff_iff]; simp
  have HS : Hid (vR 3 t = (qb && qm)) := by
    unfold Hid
    rw [← hqb, ← hqm, HF.out.num]
    obtain ⟨kd, at_, x, nn, ks⟩ := t
    simp only [] at hK
    subst hK
    cases ks with
    | nil => simp [m3_20]
    | cons u us => rw [vR_3, valid_core, core_no _ _ (by exact (show (kidsI 20).1 = (kidsI 20).2 from rfl)) (by simp [kidsI]; omega)]; simp
  subst hk2
  clear hF hN hk hK hqb hqm
  go_enter Tryz.func28, Tryz.ntmps28
  go_wp2_with fail
  refine (CB _).mono ?_
  rintro en w1 ⟨rfl, hb1'⟩
  have o1 := o0.below hb1'
  have hb1 := hb0.trans (hb1'.mono hb0.size)
  obtain ⟨p10, p11, p12, p13, p14, p15⟩ := o1.five
  have hl1 := o1.lt
  clear hb1'
  cases qb with
  | false =>
    go_wp2
    go_ret
    exact ⟨ret_bool (by rw [HS.out] <;> rfl), hb1⟩
  | true =>
    cases qm with
    | true =>
      go_wp2
      go_ret
      exact ⟨ret_bool (by rw [HS.out] <;> rfl), hb1⟩
    | false =>
      go_wp2
      go_ret
      exact ⟨ret_bool (by rw [HS.out] <;> rfl), hb1⟩
theorem st21 (t : Tree) (hw : wideTr t) (H : KidsAs t) (hK : t.kind = 21) : StAs t := by
  intro w k a b n v hN
  obtain ⟨ao, m, cap, rfl, hF⟩ := Fl.of hN hw
  have HF : Hid (Fl w t k a b n ao m cap) := hF
  have hk := hF.kind
  have hm1 := hF.2.2.2.1
  have hm2 := hF.2.2.2.2
  have o0 := Own.new w #[.int .u8 k, .int .i64 a, .string b, .int .u64 n, .slice ao m cap] 25
  have hb0 : Below w.heap.size w (w.alloc (.cells #[.int .u8 k, .int .i64 a, .string b, .int .u64 n, .slice ao m cap] 25)) := (Below.refl _ _).alloc (Nat.le_refl _) _
  have hk2 : k = 21 := by omega
  obtain ⟨qb, hqb⟩ : ∃ q, namedB t.text n true = q := ⟨_, rfl⟩
  have CB : ∀ W : World, Calls Tryz.prog 30 #[.agg #[.int .u8 k, .int .i64 a, .string b, .int .u64 n, .slice ao m cap], .bool true] W fun en w' => en = .returned (.bool qb) ∧ Below W.heap.size W w' := fun W => by have := znamed_as W k a n b (.slice ao m cap) rfl true t.text HF.out.txt; rw [hqb] at this; exact this
  obtain ⟨qm, hqm⟩ : ∃ q, decide (t.kids.length = 0) = q := ⟨_, rfl⟩
  have hm9 : ((m : Int) == 0) = qm := by rw [← hqm, HF.out.len, Bool.eq_iff_iff]; simp
  have HS : Hid (vR 3 t = (qb && qm)) := by
    unfold Hid
    rw [← hqb, ← hqm, HF.out.num]
    obtain ⟨kd, at_, x, nn, ks⟩ := t
    simp only [] at hK
    subst hK
    cases ks with
    | nil => simp [m3_21]
    | cons u us => rw [vR_3, valid_core, core_no _ _ (by exact (show (kidsI 21).1 = (kidsI 21).2 from rfl)) (by simp [kidsI]; omega)]; simp
  subst hk2
  clear hF hN hk hK hqb hqm
  go_enter Tryz.func28, Tryz.ntmps28
  go_wp2_with fail
  refine (CB _).mono ?_
  rintro en w1 ⟨rfl, hb1'⟩
  have o1 := o0.below hb1'
  have hb1 := hb0.trans (hb1'.mono hb0.size)
  obtain ⟨p10, p11, p12, p13, p14, p15⟩ := o1.five
  have hl1 := o1.lt
  clear hb1'
  cases qb with
  | false =>
    go_wp2
    go_ret
    exact ⟨ret_bool (by rw [HS.out] <;> rfl), hb1⟩
  | true =>
    cases qm with
    | true =>
      go_wp2
      go_ret
      exact ⟨ret_bool (by rw [HS.out] <;> rfl), hb1⟩
    | false =>
      go_wp2
      go_ret
      exact ⟨ret_bool (by rw [HS.out] <;> rfl), hb1⟩
theorem st22 (t : Tree) (hw : wideTr t) (H : KidsAs t) (hK : t.kind = 22) : StAs t := by
  intro w k a b n v hN
  obtain ⟨ao, m, cap, rfl, hF⟩ := Fl.of hN hw
  have HF : Hid (Fl w t k a b n ao m cap) := hF
  have hk := hF.kind
  have hm1 := hF.2.2.2.1
  have hm2 := hF.2.2.2.2
  have o0 := Own.new w #[.int .u8 k, .int .i64 a, .string b, .int .u64 n, .slice ao m cap] 25
  have hb0 : Below w.heap.size w (w.alloc (.cells #[.int .u8 k, .int .i64 a, .string b, .int .u64 n, .slice ao m cap] 25)) := (Below.refl _ _).alloc (Nat.le_refl _) _
  have hk2 : k = 22 := by omega
  obtain ⟨qb, hqb⟩ : ∃ q, bareB t.text n = q := ⟨_, rfl⟩
  have CB : ∀ W : World, Calls Tryz.prog 26 #[.agg #[.int .u8 k, .int .i64 a, .string b, .int .u64 n, .slice ao m cap]] W fun en w' => en = .returned (.bool qb) ∧ Below W.heap.size W w' := fun W => by have := zbare_as W k a n b (.slice ao m cap) rfl t.text HF.out.txt; rw [hqb] at this; exact this
  obtain ⟨qa, hqa⟩ : ∃ q, t.kids.all (vR 2) = q := ⟨_, rfl⟩
  have CA : ∀ W : World, Below w.heap.size w W → Calls Tryz.prog 29 #[.slice ao m cap, .int .i64 2] W fun en w' => en = .returned (.bool qa) ∧ Below W.heap.size W w' := fun W hW => zall_as 2 t.kids (H 2 (by omega) (by omega)) W _ (by have := HF.out.kids; rw [HF.out.len] at this; exact this.below hW) qa hqa
  have HS : Hid (vR 3 t = (qb && qa)) := by
    unfold Hid
    rw [← hqb, ← hqa, HF.out.num]
    have hl := HF.out.len
    obtain ⟨kd, at_, x, nn, ks⟩ := t
    simp only [] at hK hl
    subst hK
    exact m3_22 (by omega)
  subst hk2
  clear hF hN hk hK hqb hqa
  go_enter Tryz.func28, Tryz.ntmps28
  go_wp2_with fail
  refine (CB _).mono ?_
  rintro en w1 ⟨rfl, hb1'⟩
  have o1 := o0.below hb1'
  have hb1 := hb0.trans (hb1'.mono hb0.size)
  obtain ⟨p10, p11, p12, p13, p14, p15⟩ := o1.five
  have hl1 := o1.lt
  clear hb1'
  cases qb with
  | false =>
    go_wp2
    go_ret
    exact ⟨ret_bool (by rw [HS.out] <;> rfl), hb1⟩
  | true =>
    go_wp2_with fail
    refine (CA _ hb1).mono ?_
    rintro en w2 ⟨rfl, hb2'⟩
    have o2 := o1.below hb2'
    have hb2 := hb1.trans (hb2'.mono hb1.size)
    obtain ⟨p20, p21, p22, p23, p24, p25⟩ := o2.five
    have hl2 := o2.lt
    clear hb2'
    cases qa with
    | false =>
      go_wp2
      go_ret
      exact ⟨ret_bool (by rw [HS.out] <;> rfl), hb2⟩
    | true =>
      go_wp2
      go_ret
      exact ⟨ret_bool (by rw [HS.out] <;> rfl), hb2⟩
theorem st23 (t : Tree) (hw : wideTr t) (H : KidsAs t) (hK : t.kind = 23) : StAs t := by
  intro w k a b n v hN
  obtain ⟨ao, m, cap, rfl, hF⟩ := Fl.of hN hw
  have HF : Hid (Fl w t k a b n ao m cap) := hF
  have hk := hF.kind
  have hm1 := hF.2.2.2.1
  have hm2 := hF.2.2.2.2
  have o0 := Own.new w #[.int .u8 k, .int .i64 a, .string b, .int .u64 n, .slice ao m cap] 25
  have hb0 : Below w.heap.size w (w.alloc (.cells #[.int .u8 k, .int .i64 a, .string b, .int .u64 n, .slice ao m cap] 25)) := (Below.refl _ _).alloc (Nat.le_refl _) _
  have hk2 : k = 23 := by omega
  obtain ⟨qm, hqm⟩ : ∃ q, decide (t.kids.length = 0) = q := ⟨_, rfl⟩
  have hm9 : ((m : Int) == 0) = qm := by rw [← hqm, HF.out.len, Bool.eq_iff_iff]; simp
  have e4 : (b.toList == []) = (t.text == []) := txt_lit b t.text HF.out.txt ⟨#[]⟩
  obtain ⟨qx, hqx⟩ : ∃ q, (t.text == []) = q := ⟨_, rfl⟩
  rw [hqx] at e4
  obtain ⟨qn, hqn⟩ : ∃ q, decide (n ≤ 255) = q := ⟨_, rfl⟩
  have HS : Hid (vR 3 t = (qx && (qn && qm))) := by
    unfold Hid
    rw [← hqx, ← hqn, ← hqm, HF.out.num]
    obtain ⟨kd, at_, x, nn, ks⟩ := t
    simp only [] at hK
    subst hK
    cases ks with
    | nil => simp [m3_23]
    | cons u us => rw [vR_3, valid_core, core_no _ _ (by exact (show (kidsI 23).1 = (kidsI 23).2 from rfl)) (by simp [kidsI]; omega)]; simp
  subst hk2
  clear hF hN hk hK hqx hqm
  cases qx <;> cases qn <;> cases qm
  all_goals
    simp only [decide_eq_true_eq, decide_eq_false_iff_not] at hqn
    go_enter Tryz.func28, Tryz.ntmps28
    go_wp2
    go_ret
    exact ⟨ret_bool (by rw [HS.out] <;> rfl), hb0⟩
theorem st15 (t : Tree) (hw : wideTr t) (H : KidsAs t) (hK : t.kind = 15) : StAs t := by
  intro w k a b n v hN
  obtain ⟨ao, m, cap, rfl, hF⟩ := Fl.of hN hw
  have HF : Hid (Fl w t k a b n ao m cap) := hF
  have hk := hF.kind
  have hm1 := hF.2.2.2.1
  have hm2 := hF.2.2.2.2
  have o0 := Own.new w #[.int .u8 k, .int .i64 a, .string b, .int .u64 n, .slice ao m cap] 25
  have hb0 : Below w.heap.size w (w.alloc (.cells #[.int .u8 k, .int .i64 a, .string b, .int .u64 n, .slice ao m cap] 25)) := (Below.refl _ _).alloc (Nat.le_refl _) _
  have hk2 : k = 15 := by omega
  obtain ⟨qb, hqb⟩ : ∃ q, namedB t.text n true = q := ⟨_, rfl⟩
  have CB : ∀ W : World, Calls Tryz.prog 30 #[.agg #[.int .u8 k, .int .i64 a, .string b, .int .u64 n, .slice ao m cap], .bool true] W fun en w' => en = .returned (.bool qb) ∧ Below W.heap.size W w' := fun W => by have := znamed_as W k a n b (.slice ao m cap) rfl true t.text HF.out.txt; rw [hqb] at this; exact this
  by_cases hm : m = 2
  · obtain ⟨t0, t1, hks⟩ : ∃ t0 t1, t.kids = [t0, t1] := by have hl := HF.out.len; rw [hm] at hl; exact list2 hl
    obtain ⟨g, o, aj0, cj0, rfl, hg, hK0⟩ := HF.out.kid2 0 t0 (by rw [hks]; rfl)
    have HK0 : Hid (∀ W, Below w.heap.size w W → W.cell? ⟨g, o, none⟩ = some (.int .u8 (t0.kind : Int)) ∧ W.cell? ⟨g, o + 1, none⟩ = some (.int .i64 t0.at_) ∧ W.cell? ⟨g, o + 2, none⟩ = some (.string (strN t0.text)) ∧ W.cell? ⟨g, o + 3, none⟩ = some (.int .u64 (t0.n : Int)) ∧ W.cell? ⟨g, o + 4, none⟩ = some (.slice aj0 t0.kids.length cj0) ∧ g < W.heap.size) := fun W hW => by have := (hK0 W hW).1; exact this
    obtain ⟨q0, hq0⟩ : ∃ q, vR 2 t0 = q := ⟨_, rfl⟩
    have C0 : ∀ W : World, Below w.heap.size w W → Calls Tryz.prog 14 #[.agg #[.int .u8 (t0.kind : Int), .int .i64 t0.at_, .string (strN t0.text), .int .u64 (t0.n : Int), .slice aj0 t0.kids.length cj0], .int .i64 2] W fun en w' => en = .returned (.bool q0) ∧ Below W.heap.size W w' := fun W hW => by have := H 2 (by omega) (by omega) t0 (by rw [hks]; simp) W _ _ _ _ _ (hK0 W hW).2.1; rw [hq0] at this; exact this
    obtain ⟨g1, o1, aj1, cj1, e1, _, hK1⟩ := HF.out.kid2 1 t1 (by rw [hks]; rfl)
    cases e1
    have HK1 : Hid (∀ W, Below w.heap.size w W → W.cell? ⟨g, o + 5, none⟩ = some (.int .u8 (t1.kind : Int)) ∧ W.cell? ⟨g, o + 6, none⟩ = some (.int .i64 t1.at_) ∧ W.cell? ⟨g, o + 7, none⟩ = some (.string (strN t1.text)) ∧ W.cell? ⟨g, o + 8, none⟩ = some (.int .u64 (t1.n : Int)) ∧ W.cell? ⟨g, o + 9, none⟩ = some (.slice aj1 t1.kids.length cj1) ∧ g < W.heap.size) := fun W hW => by have := (hK1 W hW).1; exact this
    obtain ⟨q1, hq1⟩ : ∃ q, vR 4 t1 = q := ⟨_, rfl⟩
    have C1 : ∀ W : World, Below w.heap.size w W → Calls Tryz.prog 14 #[.agg #[.int .u8 (t1.kind : Int), .int .i64 t1.at_, .string (strN t1.text), .int .u64 (t1.n : Int), .slice aj1 t1.kids.length cj1], .int .i64 4] W fun en w' => en = .returned (.bool q1) ∧ Below W.heap.size W w' := fun W hW => by have := H 4 (by omega) (by omega) t1 (by rw [hks]; simp) W _ _ _ _ _ (hK1 W hW).2.1; rw [hq1] at this; exact this
    have HS : Hid (vR 3 t = (qb && (q0 && q1))) := by
      unfold Hid
      rw [← hqb, ← hq0, ← hq1, HF.out.num]
      obtain ⟨kd, at_, x, nn, ks⟩ := t
      simp only [] at hks hK
      subst hK hks
      exact m3_15
    subst hk2 hm
    clear hF hN hk hK hqb hq0 hq1 hK0 hK1
    go_enter Tryz.func28, Tryz.ntmps28
    obtain ⟨f00, f01, f02, f03, f04, f05⟩ := HK0.out _ hb0
    obtain ⟨f10, f11, f12, f13, f14, f15⟩ := HK1.out _ hb0
    go_wp2_with fail
    refine (CB _).mono ?_
    rintro en w1 ⟨rfl, hb1'⟩
    have o1 := o0.below hb1'
    have hb1 := hb0.trans (hb1'.mono hb0.size)
    obtain ⟨p10, p11, p12, p13, p14, p15⟩ := o1.five
    have hl1 := o1.lt
    obtain ⟨f00, f01, f02, f03, f04, f05⟩ := HK0.out _ hb1
    obtain ⟨f10, f11, f12, f13, f14, f15⟩ := HK1.out _ hb1
    clear hb1'
    cases qb with
    | false =>
      go_wp2
      go_ret
      exact ⟨ret_bool (by rw [HS.out] <;> rfl), hb1⟩
    | true =>
      go_wp2_with fail
      refine (C0 _ hb1).mono ?_
      rintro en w2 ⟨rfl, hb2'⟩
      have o2 := o1.below hb2'
      have hb2 := hb1.trans (hb2'.mono hb1.size)
      obtain ⟨p20, p21, p22, p23, p24, p25⟩ := o2.five
      have hl2 := o2.lt
      obtain ⟨f00, f01, f02, f03, f04, f05⟩ := HK0.out _ hb2
      obtain ⟨f10, f11, f12, f13, f14, f15⟩ := HK1.out _ hb2
      clear hb2'
      cases q0 with
      | false =>
        go_wp2
        go_ret
        exact ⟨ret_bool (by rw [HS.out] <;> rfl), hb2⟩
      | true =>
        go_wp2_with fail
        refine (C1 _ hb2).mono ?_
        rintro en w3 ⟨rfl, hb3'⟩
        have o3 := o2.below hb3'
        have hb3 := hb2.trans (hb3'.mono hb2.size)
        obtain ⟨p30, p31, p32, p33, p34, p35⟩ := o3.five
        have hl3 := o3.lt
        obtain ⟨f00, f01, f02, f03, f04, f05⟩ := HK0.out _ hb3
        obtain ⟨f10, f11, f12, f13, f14, f15⟩ := HK1.out _ hb3
        clear hb3'
        cases q1 with
        | false =>
          go_wp2
          go_ret
          exact ⟨ret_bool (by rw [HS.out] <;> rfl), hb3⟩
        | true =>
          go_wp2
          go_ret
          exact ⟨ret_bool (by rw [HS.out] <;> rfl), hb3⟩
  · have HS : Hid (vR 3 t = false) := by
      unfold Hid
      rw [vR_3, valid_core]
      have h1 : (t.kind : Int) = 15 := by omega
      have h2 : ¬ (t.kids.length : Int) = 2 := by have := HF.out.len; omega
      exact core_no _ _ (by rw [h1]; exact (show (kidsI 15).1 = (kidsI 15).2 from rfl)) (by rw [h1]; exact h2)
    have hm3 : ((m : Int) == 2) = false := by simp; omega
    subst hk2
    clear hF hN hk hK hqb hm
    go_enter Tryz.func28, Tryz.ntmps28
    go_wp2_with fail
    refine (CB _).mono ?_
    rintro en w1 ⟨rfl, hb1'⟩
    have o1 := o0.below hb1'
    have hb1 := hb0.trans (hb1'.mono hb0.size)
    obtain ⟨p10, p11, p12, p13, p14, p15⟩ := o1.five
    have hl1 := o1.lt
    clear hb1'
    cases qb with
    | true =>
      go_wp2
      go_ret
      exact ⟨ret_bool (by rw [HS.out] <;> rfl), hb1⟩
    | false =>
      go_wp2
      go_ret
      exact ⟨ret_bool (by rw [HS.out] <;> rfl), hb1⟩
theorem stNo (t : Tree) (hw : wideTr t) (hK : isStmtI t.kind = false) : StAs t := by
  intro w k a b n v hN
  obtain ⟨ao, m, cap, rfl, hF⟩ := Fl.of hN hw
  have HF : Hid (Fl w t k a b n ao m cap) := hF
  have hk := hF.kind
  have hm1 := hF.2.2.2.1
  have hm2 := hF.2.2.2.2
  have o0 := Own.new w #[.int .u8 k, .int .i64 a, .string b, .int .u64 n, .slice ao m cap] 25
  have hb0 : Below w.heap.size w (w.alloc (.cells #[.int .u8 k, .int .i64 a, .string b, .int .u64 n, .slice ao m cap] 25)) := (Below.refl _ _).alloc (Nat.le_refl _) _
  have HS : Hid (vR 3 t = false) := sNo t hK
  rw [← hk] at hK
  have z10 : (k == 10) = false := by simp [isStmtI] at hK ⊢; omega
  have z11 : (k == 11) = false := by simp [isStmtI] at hK ⊢; omega
  have z12 : (k == 12) = false := by simp [isStmtI] at hK ⊢; omega
  have z13 : (k == 13) = false := by simp [isStmtI] at hK ⊢; omega
  have z14 : (k == 14) = false := by simp [isStmtI] at hK ⊢; omega
  have z15 : (k == 15) = false := by simp [isStmtI] at hK ⊢; omega
  have z16 : (k == 16) = false := by simp [isStmtI] at hK ⊢; omega
  have z17 : (k == 17) = false := by simp [isStmtI] at hK ⊢; omega
  have z20 : (k == 20) = false := by simp [isStmtI] at hK ⊢; omega
  have z21 : (k == 21) = false := by simp [isStmtI] at hK ⊢; omega
  have z22 : (k == 22) = false := by simp [isStmtI] at hK ⊢; omega
  have z23 : (k == 23) = false := by simp [isStmtI] at hK ⊢; omega
  clear hF hN hk hK
  go_enter Tryz.func28, Tryz.ntmps28
  go_wp2
  go_ret
  exact ⟨ret_bool (by rw [HS.out] <;> rfl), hb0⟩
end Go.Proofs.YtmhnbklchnnbaaaGreatDoor
set_option maxHeartbeats 8000000
set_option maxRecDepth 100000
namespace Go.Proofs.YtmhnbklchnnbaaaGreatDoor
open Go.RowKit
set_option linter.unusedVariables false
set_option linter.unusedSimpArgs false
theorem st16 (t : Tree) (hw : wideTr t) (H : KidsAs t) (hK : t.kind = 16) : StAs t := by
  intro w k a b n v hN
  obtain ⟨ao, m, cap, rfl, hF⟩ := Fl.of hN hw
  have HF : Hid (Fl w t k a b n ao m cap) := hF
  have hk := hF.kind
  have hm1 := hF.2.2.2.1
  have hm2 := hF.2.2.2.2
  have o0 := Own.new w #[.int .u8 k, .int .i64 a, .string b, .int .u64 n, .slice ao m cap] 25
  have hb0 : Below w.heap.size w (w.alloc (.cells #[.int .u8 k, .int .i64 a, .string b, .int .u64 n, .slice ao m cap] 25)) := (Below.refl _ _).alloc (Nat.le_refl _) _
  have hk2 : k = 16 := by omega
  obtain ⟨qb, hqb⟩ : ∃ q, namedB t.text n true = q := ⟨_, rfl⟩
  have CB : ∀ W : World, Calls Tryz.prog 30 #[.agg #[.int .u8 k, .int .i64 a, .string b, .int .u64 n, .slice ao m cap], .bool true] W fun en w' => en = .returned (.bool qb) ∧ Below W.heap.size W w' := fun W => by have := znamed_as W k a n b (.slice ao m cap) rfl true t.text HF.out.txt; rw [hqb] at this; exact this
  by_cases hm : m = 4
  · obtain ⟨t0, t1, t2, t3, hks⟩ : ∃ t0 t1 t2 t3, t.kids = [t0, t1, t2, t3] := by have hl := HF.out.len; rw [hm] at hl; exact list4 hl
    obtain ⟨g, o, aj0, cj0, rfl, hg, hK0⟩ := HF.out.kid2 0 t0 (by rw [hks]; rfl)
    have HK0 : Hid (∀ W, Below w.heap.size w W → W.cell? ⟨g, o, none⟩ = some (.int .u8 (t0.kind : Int)) ∧ W.cell? ⟨g, o + 1, none⟩ = some (.int .i64 t0.at_) ∧ W.cell? ⟨g, o + 2, none⟩ = some (.string (strN t0.text)) ∧ W.cell? ⟨g, o + 3, none⟩ = some (.int .u64 (t0.n : Int)) ∧ W.cell? ⟨g, o + 4, none⟩ = some (.slice aj0 t0.kids.length cj0) ∧ g < W.heap.size) := fun W hW => by have := (hK0 W hW).1; exact this
    obtain ⟨qa, hqa⟩ : ∃ q, vR 15 t0 = q := ⟨_, rfl⟩
    have C0 : ∀ W : World, Below w.heap.size w W → Calls Tryz.prog 14 #[.agg #[.int .u8 (t0.kind : Int), .int .i64 t0.at_, .string (strN t0.text), .int .u64 (t0.n : Int), .slice aj0 t0.kids.length cj0], .int .i64 15] W fun en w' => en = .returned (.bool qa) ∧ Below W.heap.size W w' := fun W hW => by have := H 15 (by omega) (by omega) t0 (by rw [hks]; simp) W _ _ _ _ _ (hK0 W hW).2.1; rw [hqa] at this; exact this
    obtain ⟨qc, hqc⟩ : ∃ q, vR 17 t0 = q := ⟨_, rfl⟩
    have Cc : ∀ W : World, Below w.heap.size w W → Calls Tryz.prog 14 #[.agg #[.int .u8 (t0.kind : Int), .int .i64 t0.at_, .string (strN t0.text), .int .u64 (t0.n : Int), .slice aj0 t0.kids.length cj0], .int .i64 17] W fun en w' => en = .returned (.bool qc) ∧ Below W.heap.size W w' := fun W hW => by have := H 17 (by omega) (by omega) t0 (by rw [hks]; simp) W _ _ _ _ _ (hK0 W hW).2.1; rw [hqc] at this; exact this
    obtain ⟨qd, hqd⟩ : ∃ q, vR 16 t0 = q := ⟨_, rfl⟩
    have Cd : ∀ W : World, Below w.heap.size w W → Calls Tryz.prog 14 #[.agg #[.int .u8 (t0.kind : Int), .int .i64 t0.at_, .string (strN t0.text), .int .u64 (t0.n : Int), .slice aj0 t0.kids.length cj0], .int .i64 16] W fun en w' => en = .returned (.bool qd) ∧ Below W.heap.size W w' := fun W hW => by have := H 16 (by omega) (by omega) t0 (by rw [hks]; simp) W _ _ _ _ _ (hK0 W hW).2.1; rw [hqd] at this; exact this
    obtain ⟨g1, o1, aj1, cj1, e1, _, hK1⟩ := HF.out.kid2 1 t1 (by rw [hks]; rfl)
    cases e1
    have HK1 : Hid (∀ W, Below w.heap.size w W → W.cell? ⟨g, o + 5, none⟩ = some (.int .u8 (t1.kind : Int)) ∧ W.cell? ⟨g, o + 6, none⟩ = some (.int .i64 t1.at_) ∧ W.cell? ⟨g, o + 7, none⟩ = some (.string (strN t1.text)) ∧ W.cell? ⟨g, o + 8, none⟩ = some (.int .u64 (t1.n : Int)) ∧ W.cell? ⟨g, o + 9, none⟩ = some (.slice aj1 t1.kids.length cj1) ∧ g < W.heap.size) := fun W hW => by have := (hK1 W hW).1; exact this
    obtain ⟨qe, hqe⟩ : ∃ q, vR 15 t1 = q := ⟨_, rfl⟩
    have C1 : ∀ W : World, Below w.heap.size w W → Calls Tryz.prog 14 #[.agg #[.int .u8 (t1.kind : Int), .int .i64 t1.at_, .string (strN t1.text), .int .u64 (t1.n : Int), .slice aj1 t1.kids.length cj1], .int .i64 15] W fun en w' => en = .returned (.bool qe) ∧ Below W.heap.size W w' := fun W hW => by have := H 15 (by omega) (by omega) t1 (by rw [hks]; simp) W _ _ _ _ _ (hK1 W hW).2.1; rw [hqe] at this; exact this
    obtain ⟨qf, hqf⟩ : ∃ q, vR 2 t1 = q := ⟨_, rfl⟩
    have Cf : ∀ W : World, Below w.heap.size w W → Calls Tryz.prog 14 #[.agg #[.int .u8 (t1.kind : Int), .int .i64 t1.at_, .string (strN t1.text), .int .u64 (t1.n : Int), .slice aj1 t1.kids.length cj1], .int .i64 2] W fun en w' => en = .returned (.bool qf) ∧ Below W.heap.size W w' := fun W hW => by have := H 2 (by omega) (by omega) t1 (by rw [hks]; simp) W _ _ _ _ _ (hK1 W hW).2.1; rw [hqf] at this; exact this
    obtain ⟨g2, o2, aj2, cj2, e2, _, hK2⟩ := HF.out.kid2 2 t2 (by rw [hks]; rfl)
    cases e2
    have HK2 : Hid (∀ W, Below w.heap.size w W → W.cell? ⟨g, o + 10, none⟩ = some (.int .u8 (t2.kind : Int)) ∧ W.cell? ⟨g, o + 11, none⟩ = some (.int .i64 t2.at_) ∧ W.cell? ⟨g, o + 12, none⟩ = some (.string (strN t2.text)) ∧ W.cell? ⟨g, o + 13, none⟩ = some (.int .u64 (t2.n : Int)) ∧ W.cell? ⟨g, o + 14, none⟩ = some (.slice aj2 t2.kids.length cj2) ∧ g < W.heap.size) := fun W hW => by have := (hK2 W hW).1; exact this
    obtain ⟨qg, hqg⟩ : ∃ q, vR 15 t2 = q := ⟨_, rfl⟩
    have C2 : ∀ W : World, Below w.heap.size w W → Calls Tryz.prog 14 #[.agg #[.int .u8 (t2.kind : Int), .int .i64 t2.at_, .string (strN t2.text), .int .u64 (t2.n : Int), .slice aj2 t2.kids.length cj2], .int .i64 15] W fun en w' => en = .returned (.bool qg) ∧ Below W.heap.size W w' := fun W hW => by have := H 15 (by omega) (by omega) t2 (by rw [hks]; simp) W _ _ _ _ _ (hK2 W hW).2.1; rw [hqg] at this; exact this
    obtain ⟨qh, hqh⟩ : ∃ q, vR 16 t2 = q := ⟨_, rfl⟩
    have Ch : ∀ W : World, Below w.heap.size w W → Calls Tryz.prog 14 #[.agg #[.int .u8 (t2.kind : Int), .int .i64 t2.at_, .string (strN t2.text), .int .u64 (t2.n : Int), .slice aj2 t2.kids.length cj2], .int .i64 16] W fun en w' => en = .returned (.bool qh) ∧ Below W.heap.size W w' := fun W hW => by have := H 16 (by omega) (by omega) t2 (by rw [hks]; simp) W _ _ _ _ _ (hK2 W hW).2.1; rw [hqh] at this; exact this
    obtain ⟨g3, o3, aj3, cj3, e3, _, hK3⟩ := HF.out.kid2 3 t3 (by rw [hks]; rfl)
    cases e3
    have HK3 : Hid (∀ W, Below w.heap.size w W → W.cell? ⟨g, o + 15, none⟩ = some (.int .u8 (t3.kind : Int)) ∧ W.cell? ⟨g, o + 16, none⟩ = some (.int .i64 t3.at_) ∧ W.cell? ⟨g, o + 17, none⟩ = some (.string (strN t3.text)) ∧ W.cell? ⟨g, o + 18, none⟩ = some (.int .u64 (t3.n : Int)) ∧ W.cell? ⟨g, o + 19, none⟩ = some (.slice aj3 t3.kids.length cj3) ∧ g < W.heap.size) := fun W hW => by have := (hK3 W hW).1; exact this
    obtain ⟨q3, hq3⟩ : ∃ q, vR 4 t3 = q := ⟨_, rfl⟩
    have C3 : ∀ W : World, Below w.heap.size w W → Calls Tryz.prog 14 #[.agg #[.int .u8 (t3.kind : Int), .int .i64 t3.at_, .string (strN t3.text), .int .u64 (t3.n : Int), .slice aj3 t3.kids.length cj3], .int .i64 4] W fun en w' => en = .returned (.bool q3) ∧ Below W.heap.size W w' := fun W hW => by have := H 4 (by omega) (by omega) t3 (by rw [hks]; simp) W _ _ _ _ _ (hK3 W hW).2.1; rw [hq3] at this; exact this
    have HS : Hid (vR 3 t = (qb && (q3 && ((qa || (qc || qd)) && ((qe || qf) && (qg || qh)))))) := by
      unfold Hid
      rw [← hqb, ← hq3, ← hqa, ← hqc, ← hqd, ← hqe, ← hqf, ← hqg, ← hqh, HF.out.num]
      obtain ⟨kd, at_, x, nn, ks⟩ := t
      simp only [] at hks hK
      subst hK hks
      exact m3_16
    subst hk2 hm
    clear hF hN hk hK hqb hq3 hqa hqc hqd hqe hqf hqg hqh hK0 hK1 hK2 hK3
    go_enter Tryz.func28, Tryz.ntmps28
    obtain ⟨f00, f01, f02, f03, f04, f05⟩ := HK0.out _ hb0
    obtain ⟨f10, f11, f12, f13, f14, f15⟩ := HK1.out _ hb0
    obtain ⟨f20, f21, f22, f23, f24, f25⟩ := HK2.out _ hb0
    obtain ⟨f30, f31, f32, f33, f34, f35⟩ := HK3.out _ hb0
    go_wp2_with fail
    refine (CB _).mono ?_
    rintro en w1 ⟨rfl, hb1'⟩
    have o1 := o0.below hb1'
    have hb1 := hb0.trans (hb1'.mono hb0.size)
    obtain ⟨p10, p11, p12, p13, p14, p15⟩ := o1.five
    have hl1 := o1.lt
    obtain ⟨f00, f01, f02, f03, f04, f05⟩ := HK0.out _ hb1
    obtain ⟨f10, f11, f12, f13, f14, f15⟩ := HK1.out _ hb1
    obtain ⟨f20, f21, f22, f23, f24, f25⟩ := HK2.out _ hb1
    obtain ⟨f30, f31, f32, f33, f34, f35⟩ := HK3.out _ hb1
    clear hb1'
    cases qb with
    | false =>
      go_wp2
      go_ret
      exact ⟨ret_bool (by rw [HS.out] <;> rfl), hb1⟩
    | true =>
      go_wp2_with fail
      refine (C3 _ hb1).mono ?_
      rintro en w2 ⟨rfl, hb2'⟩
      have o2 := o1.below hb2'
      have hb2 := hb1.trans (hb2'.mono hb1.size)
      obtain ⟨p20, p21, p22, p23, p24, p25⟩ := o2.five
      have hl2 := o2.lt
      obtain ⟨f00, f01, f02, f03, f04, f05⟩ := HK0.out _ hb2
      obtain ⟨f10, f11, f12, f13, f14, f15⟩ := HK1.out _ hb2
      obtain ⟨f20, f21, f22, f23, f24, f25⟩ := HK2.out _ hb2
      obtain ⟨f30, f31, f32, f33, f34, f35⟩ := HK3.out _ hb2
      clear hb2'
      cases q3 with
      | false =>
        go_wp2
        go_ret
        exact ⟨ret_bool (by rw [HS.out] <;> rfl), hb2⟩
      | true =>
        go_wp2_with fail
        refine (C0 _ hb2).mono ?_
        rintro en w3 ⟨rfl, hb3'⟩
        have o3 := o2.below hb3'
        have hb3 := hb2.trans (hb3'.mono hb2.size)
        obtain ⟨p30, p31, p32, p33, p34, p35⟩ := o3.five
        have hl3 := o3.lt
        obtain ⟨f00, f01, f02, f03, f04, f05⟩ := HK0.out _ hb3
        obtain ⟨f10, f11, f12, f13, f14, f15⟩ := HK1.out _ hb3
        obtain ⟨f20, f21, f22, f23, f24, f25⟩ := HK2.out _ hb3
        obtain ⟨f30, f31, f32, f33, f34, f35⟩ := HK3.out _ hb3
        clear hb3'
        cases qa with
        | true =>
          go_wp2_with fail
          refine (C1 _ hb3).mono ?_
          rintro en w4 ⟨rfl, hb4'⟩
          have o4 := o3.below hb4'
          have hb4 := hb3.trans (hb4'.mono hb3.size)
          obtain ⟨p40, p41, p42, p43, p44, p45⟩ := o4.five
          have hl4 := o4.lt
          obtain ⟨f00, f01, f02, f03, f04, f05⟩ := HK0.out _ hb4
          obtain ⟨f10, f11, f12, f13, f14, f15⟩ := HK1.out _ hb4
          obtain ⟨f20, f21, f22, f23, f24, f25⟩ := HK2.out _ hb4
          obtain ⟨f30, f31, f32, f33, f34, f35⟩ := HK3.out _ hb4
          clear hb4'
          cases qe with
          | true =>
            go_wp2_with fail
            refine (C2 _ hb4).mono ?_
            rintro en w5 ⟨rfl, hb5'⟩
            have o5 := o4.below hb5'
            have hb5 := hb4.trans (hb5'.mono hb4.size)
            obtain ⟨p50, p51, p52, p53, p54, p55⟩ := o5.five
            have hl5 := o5.lt
            obtain ⟨f00, f01, f02, f03, f04, f05⟩ := HK0.out _ hb5
            obtain ⟨f10, f11, f12, f13, f14, f15⟩ := HK1.out _ hb5
            obtain ⟨f20, f21, f22, f23, f24, f25⟩ := HK2.out _ hb5
            obtain ⟨f30, f31, f32, f33, f34, f35⟩ := HK3.out _ hb5
            clear hb5'
            cases qg with
            | true =>
              go_wp2
              go_ret
              exact ⟨ret_bool (by rw [HS.out] <;> rfl), hb5⟩
            | false =>
              go_wp2_with fail
              refine (Ch _ hb5).mono ?_
              rintro en w6 ⟨rfl, hb6'⟩
              have o6 := o5.below hb6'
              have hb6 := hb5.trans (hb6'.mono hb5.size)
              obtain ⟨p60, p61, p62, p63, p64, p65⟩ := o6.five
              have hl6 := o6.lt
              obtain ⟨f00, f01, f02, f03, f04, f05⟩ := HK0.out _ hb6
              obtain ⟨f10, f11, f12, f13, f14, f15⟩ := HK1.out _ hb6
              obtain ⟨f20, f21, f22, f23, f24, f25⟩ := HK2.out _ hb6
              obtain ⟨f30, f31, f32, f33, f34, f35⟩ := HK3.out _ hb6
              clear hb6'
              cases qh with
              | true =>
                go_wp2
                go_ret
                exact ⟨ret_bool (by rw [HS.out] <;> rfl), hb6⟩
              | false =>
                go_wp2
                go_ret
                exact ⟨ret_bool (by rw [HS.out] <;> rfl), hb6⟩
          | false =>
            go_wp2_with fail
            refine (Cf _ hb4).mono ?_
            rintro en w5 ⟨rfl, hb5'⟩
            have o5 := o4.below hb5'
            have hb5 := hb4.trans (hb5'.mono hb4.size)
            obtain ⟨p50, p51, p52, p53, p54, p55⟩ := o5.five
            have hl5 := o5.lt
            obtain ⟨f00, f01, f02, f03, f04, f05⟩ := HK0.out _ hb5
            obtain ⟨f10, f11, f12, f13, f14, f15⟩ := HK1.out _ hb5
            obtain ⟨f20, f21, f22, f23, f24, f25⟩ := HK2.out _ hb5
            obtain ⟨f30, f31, f32, f33, f34, f35⟩ := HK3.out _ hb5
            clear hb5'
            cases qf with
            | true =>
              go_wp2_with fail
              refine (C2 _ hb5).mono ?_
              rintro en w6 ⟨rfl, hb6'⟩
              have o6 := o5.below hb6'
              have hb6 := hb5.trans (hb6'.mono hb5.size)
              obtain ⟨p60, p61, p62, p63, p64, p65⟩ := o6.five
              have hl6 := o6.lt
              obtain ⟨f00, f01, f02, f03, f04, f05⟩ := HK0.out _ hb6
              obtain ⟨f10, f11, f12, f13, f14, f15⟩ := HK1.out _ hb6
              obtain ⟨f20, f21, f22, f23, f24, f25⟩ := HK2.out _ hb6
              obtain ⟨f30, f31, f32, f33, f34, f35⟩ := HK3.out _ hb6
              clear hb6'
              cases qg with
              | true =>
                go_wp2
                go_ret
                exact ⟨ret_bool (by rw [HS.out] <;> rfl), hb6⟩
              | false =>
                go_wp2_with fail
                refine (Ch _ hb6).mono ?_
                rintro en w7 ⟨rfl, hb7'⟩
                have o7 := o6.below hb7'
                have hb7 := hb6.trans (hb7'.mono hb6.size)
                obtain ⟨p70, p71, p72, p73, p74, p75⟩ := o7.five
                have hl7 := o7.lt
                obtain ⟨f00, f01, f02, f03, f04, f05⟩ := HK0.out _ hb7
                obtain ⟨f10, f11, f12, f13, f14, f15⟩ := HK1.out _ hb7
                obtain ⟨f20, f21, f22, f23, f24, f25⟩ := HK2.out _ hb7
                obtain ⟨f30, f31, f32, f33, f34, f35⟩ := HK3.out _ hb7
                clear hb7'
                cases qh with
                | true =>
                  go_wp2
                  go_ret
                  exact ⟨ret_bool (by rw [HS.out] <;> rfl), hb7⟩
                | false =>
                  go_wp2
                  go_ret
                  exact ⟨ret_bool (by rw [HS.out] <;> rfl), hb7⟩
            | false =>
              go_wp2
              go_ret
              exact ⟨ret_bool (by rw [HS.out] <;> rfl), hb5⟩
        | false =>
          go_wp2_with fail
          refine (Cc _ hb3).mono ?_
          rintro en w4 ⟨rfl, hb4'⟩
          have o4 := o3.below hb4'
          have hb4 := hb3.trans (hb4'.mono hb3.size)
          obtain ⟨p40, p41, p42, p43, p44, p45⟩ := o4.five
          have hl4 := o4.lt
          obtain ⟨f00, f01, f02, f03, f04, f05⟩ := HK0.out _ hb4
          obtain ⟨f10, f11, f12, f13, f14, f15⟩ := HK1.out _ hb4
          obtain ⟨f20, f21, f22, f23, f24, f25⟩ := HK2.out _ hb4
          obtain ⟨f30, f31, f32, f33, f34, f35⟩ := HK3.out _ hb4
          clear hb4'
          cases qc with
          | true =>
            go_wp2_with fail
            refine (C1 _ hb4).mono ?_
            rintro en w5 ⟨rfl, hb5'⟩
            have o5 := o4.below hb5'
            have hb5 := hb4.trans (hb5'.mono hb4.size)
            obtain ⟨p50, p51, p52, p53, p54, p55⟩ := o5.five
            have hl5 := o5.lt
            obtain ⟨f00, f01, f02, f03, f04, f05⟩ := HK0.out _ hb5
            obtain ⟨f10, f11, f12, f13, f14, f15⟩ := HK1.out _ hb5
            obtain ⟨f20, f21, f22, f23, f24, f25⟩ := HK2.out _ hb5
            obtain ⟨f30, f31, f32, f33, f34, f35⟩ := HK3.out _ hb5
            clear hb5'
            cases qe with
            | true =>
              go_wp2_with fail
              refine (C2 _ hb5).mono ?_
              rintro en w6 ⟨rfl, hb6'⟩
              have o6 := o5.below hb6'
              have hb6 := hb5.trans (hb6'.mono hb5.size)
              obtain ⟨p60, p61, p62, p63, p64, p65⟩ := o6.five
              have hl6 := o6.lt
              obtain ⟨f00, f01, f02, f03, f04, f05⟩ := HK0.out _ hb6
              obtain ⟨f10, f11, f12, f13, f14, f15⟩ := HK1.out _ hb6
              obtain ⟨f20, f21, f22, f23, f24, f25⟩ := HK2.out _ hb6
              obtain ⟨f30, f31, f32, f33, f34, f35⟩ := HK3.out _ hb6
              clear hb6'
              cases qg with
              | true =>
                go_wp2
                go_ret
                exact ⟨ret_bool (by rw [HS.out] <;> rfl), hb6⟩
              | false =>
                go_wp2_with fail
                refine (Ch _ hb6).mono ?_
                rintro en w7 ⟨rfl, hb7'⟩
                have o7 := o6.below hb7'
                have hb7 := hb6.trans (hb7'.mono hb6.size)
                obtain ⟨p70, p71, p72, p73, p74, p75⟩ := o7.five
                have hl7 := o7.lt
                obtain ⟨f00, f01, f02, f03, f04, f05⟩ := HK0.out _ hb7
                obtain ⟨f10, f11, f12, f13, f14, f15⟩ := HK1.out _ hb7
                obtain ⟨f20, f21, f22, f23, f24, f25⟩ := HK2.out _ hb7
                obtain ⟨f30, f31, f32, f33, f34, f35⟩ := HK3.out _ hb7
                clear hb7'
                cases qh with
                | true =>
                  go_wp2
                  go_ret
                  exact ⟨ret_bool (by rw [HS.out] <;> rfl), hb7⟩
                | false =>
                  go_wp2
                  go_ret
                  exact ⟨ret_bool (by rw [HS.out] <;> rfl), hb7⟩
            | false =>
              go_wp2_with fail
              refine (Cf _ hb5).mono ?_
              rintro en w6 ⟨rfl, hb6'⟩
              have o6 := o5.below hb6'
              have hb6 := hb5.trans (hb6'.mono hb5.size)
              obtain ⟨p60, p61, p62, p63, p64, p65⟩ := o6.five
              have hl6 := o6.lt
              obtain ⟨f00, f01, f02, f03, f04, f05⟩ := HK0.out _ hb6
              obtain ⟨f10, f11, f12, f13, f14, f15⟩ := HK1.out _ hb6
              obtain ⟨f20, f21, f22, f23, f24, f25⟩ := HK2.out _ hb6
              obtain ⟨f30, f31, f32, f33, f34, f35⟩ := HK3.out _ hb6
              clear hb6'
              cases qf with
              | true =>
                go_wp2_with fail
                refine (C2 _ hb6).mono ?_
                rintro en w7 ⟨rfl, hb7'⟩
                have o7 := o6.below hb7'
                have hb7 := hb6.trans (hb7'.mono hb6.size)
                obtain ⟨p70, p71, p72, p73, p74, p75⟩ := o7.five
                have hl7 := o7.lt
                obtain ⟨f00, f01, f02, f03, f04, f05⟩ := HK0.out _ hb7
                obtain ⟨f10, f11, f12, f13, f14, f15⟩ := HK1.out _ hb7
                obtain ⟨f20, f21, f22, f23, f24, f25⟩ := HK2.out _ hb7
                obtain ⟨f30, f31, f32, f33, f34, f35⟩ := HK3.out _ hb7
                clear hb7'
                cases qg with
                | true =>
                  go_wp2
                  go_ret
                  exact ⟨ret_bool (by rw [HS.out] <;> rfl), hb7⟩
                | false =>
                  go_wp2_with fail
                  refine (Ch _ hb7).mono ?_
                  rintro en w8 ⟨rfl, hb8'⟩
                  have o8 := o7.below hb8'
                  have hb8 := hb7.trans (hb8'.mono hb7.size)
                  obtain ⟨p80, p81, p82, p83, p84, p85⟩ := o8.five
                  have hl8 := o8.lt
                  obtain ⟨f00, f01, f02, f03, f04, f05⟩ := HK0.out _ hb8
                  obtain ⟨f10, f11, f12, f13, f14, f15⟩ := HK1.out _ hb8
                  obtain ⟨f20, f21, f22, f23, f24, f25⟩ := HK2.out _ hb8
                  obtain ⟨f30, f31, f32, f33, f34, f35⟩ := HK3.out _ hb8
                  clear hb8'
                  cases qh with
                  | true =>
                    go_wp2
                    go_ret
                    exact ⟨ret_bool (by rw [HS.out] <;> rfl), hb8⟩
                  | false =>
                    go_wp2
                    go_ret
                    exact ⟨ret_bool (by rw [HS.out] <;> rfl), hb8⟩
              | false =>
                go_wp2
                go_ret
                exact ⟨ret_bool (by rw [HS.out] <;> rfl), hb6⟩
          | false =>
            go_wp2_with fail
            refine (Cd _ hb4).mono ?_
            rintro en w5 ⟨rfl, hb5'⟩
            have o5 := o4.below hb5'
            have hb5 := hb4.trans (hb5'.mono hb4.size)
            obtain ⟨p50, p51, p52, p53, p54, p55⟩ := o5.five
            have hl5 := o5.lt
            obtain ⟨f00, f01, f02, f03, f04, f05⟩ := HK0.out _ hb5
            obtain ⟨f10, f11, f12, f13, f14, f15⟩ := HK1.out _ hb5
            obtain ⟨f20, f21, f22, f23, f24, f25⟩ := HK2.out _ hb5
            obtain ⟨f30, f31, f32, f33, f34, f35⟩ := HK3.out _ hb5
            clear hb5'
            cases qd with
            | true =>
              go_wp2_with fail
              refine (C1 _ hb5).mono ?_
              rintro en w6 ⟨rfl, hb6'⟩
              have o6 := o5.below hb6'
              have hb6 := hb5.trans (hb6'.mono hb5.size)
              obtain ⟨p60, p61, p62, p63, p64, p65⟩ := o6.five
              have hl6 := o6.lt
              obtain ⟨f00, f01, f02, f03, f04, f05⟩ := HK0.out _ hb6
              obtain ⟨f10, f11, f12, f13, f14, f15⟩ := HK1.out _ hb6
              obtain ⟨f20, f21, f22, f23, f24, f25⟩ := HK2.out _ hb6
              obtain ⟨f30, f31, f32, f33, f34, f35⟩ := HK3.out _ hb6
              clear hb6'
              cases qe with
              | true =>
                go_wp2_with fail
                refine (C2 _ hb6).mono ?_
                rintro en w7 ⟨rfl, hb7'⟩
                have o7 := o6.below hb7'
                have hb7 := hb6.trans (hb7'.mono hb6.size)
                obtain ⟨p70, p71, p72, p73, p74, p75⟩ := o7.five
                have hl7 := o7.lt
                obtain ⟨f00, f01, f02, f03, f04, f05⟩ := HK0.out _ hb7
                obtain ⟨f10, f11, f12, f13, f14, f15⟩ := HK1.out _ hb7
                obtain ⟨f20, f21, f22, f23, f24, f25⟩ := HK2.out _ hb7
                obtain ⟨f30, f31, f32, f33, f34, f35⟩ := HK3.out _ hb7
                clear hb7'
                cases qg with
                | true =>
                  go_wp2
                  go_ret
                  exact ⟨ret_bool (by rw [HS.out] <;> rfl), hb7⟩
                | false =>
                  go_wp2_with fail
                  refine (Ch _ hb7).mono ?_
                  rintro en w8 ⟨rfl, hb8'⟩
                  have o8 := o7.below hb8'
                  have hb8 := hb7.trans (hb8'.mono hb7.size)
                  obtain ⟨p80, p81, p82, p83, p84, p85⟩ := o8.five
                  have hl8 := o8.lt
                  obtain ⟨f00, f01, f02, f03, f04, f05⟩ := HK0.out _ hb8
                  obtain ⟨f10, f11, f12, f13, f14, f15⟩ := HK1.out _ hb8
                  obtain ⟨f20, f21, f22, f23, f24, f25⟩ := HK2.out _ hb8
                  obtain ⟨f30, f31, f32, f33, f34, f35⟩ := HK3.out _ hb8
                  clear hb8'
                  cases qh with
                  | true =>
                    go_wp2
                    go_ret
                    exact ⟨ret_bool (by rw [HS.out] <;> rfl), hb8⟩
                  | false =>
                    go_wp2
                    go_ret
                    exact ⟨ret_bool (by rw [HS.out] <;> rfl), hb8⟩
              | false =>
                go_wp2_with fail
                refine (Cf _ hb6).mono ?_
                rintro en w7 ⟨rfl, hb7'⟩
                have o7 := o6.below hb7'
                have hb7 := hb6.trans (hb7'.mono hb6.size)
                obtain ⟨p70, p71, p72, p73, p74, p75⟩ := o7.five
                have hl7 := o7.lt
                obtain ⟨f00, f01, f02, f03, f04, f05⟩ := HK0.out _ hb7
                obtain ⟨f10, f11, f12, f13, f14, f15⟩ := HK1.out _ hb7
                obtain ⟨f20, f21, f22, f23, f24, f25⟩ := HK2.out _ hb7
                obtain ⟨f30, f31, f32, f33, f34, f35⟩ := HK3.out _ hb7
                clear hb7'
                cases qf with
                | true =>
                  go_wp2_with fail
                  refine (C2 _ hb7).mono ?_
                  rintro en w8 ⟨rfl, hb8'⟩
                  have o8 := o7.below hb8'
                  have hb8 := hb7.trans (hb8'.mono hb7.size)
                  obtain ⟨p80, p81, p82, p83, p84, p85⟩ := o8.five
                  have hl8 := o8.lt
                  obtain ⟨f00, f01, f02, f03, f04, f05⟩ := HK0.out _ hb8
                  obtain ⟨f10, f11, f12, f13, f14, f15⟩ := HK1.out _ hb8
                  obtain ⟨f20, f21, f22, f23, f24, f25⟩ := HK2.out _ hb8
                  obtain ⟨f30, f31, f32, f33, f34, f35⟩ := HK3.out _ hb8
                  clear hb8'
                  cases qg with
                  | true =>
                    go_wp2
                    go_ret
                    exact ⟨ret_bool (by rw [HS.out] <;> rfl), hb8⟩
                  | false =>
                    go_wp2_with fail
                    refine (Ch _ hb8).mono ?_
                    rintro en w9 ⟨rfl, hb9'⟩
                    have o9 := o8.below hb9'
                    have hb9 := hb8.trans (hb9'.mono hb8.size)
                    obtain ⟨p90, p91, p92, p93, p94, p95⟩ := o9.five
                    have hl9 := o9.lt
                    obtain ⟨f00, f01, f02, f03, f04, f05⟩ := HK0.out _ hb9
                    obtain ⟨f10, f11, f12, f13, f14, f15⟩ := HK1.out _ hb9
                    obtain ⟨f20, f21, f22, f23, f24, f25⟩ := HK2.out _ hb9
                    obtain ⟨f30, f31, f32, f33, f34, f35⟩ := HK3.out _ hb9
                    clear hb9'
                    cases qh with
                    | true =>
                      go_wp2
                      go_ret
                      exact ⟨ret_bool (by rw [HS.out] <;> rfl), hb9⟩
                    | false =>
                      go_wp2
                      go_ret
                      exact ⟨ret_bool (by rw [HS.out] <;> rfl), hb9⟩
                | false =>
                  go_wp2
                  go_ret
                  exact ⟨ret_bool (by rw [HS.out] <;> rfl), hb7⟩
            | false =>
              go_wp2_with fail
              refine (C1 _ hb5).mono ?_
              rintro en w6 ⟨rfl, hb6'⟩
              have o6 := o5.below hb6'
              have hb6 := hb5.trans (hb6'.mono hb5.size)
              obtain ⟨p60, p61, p62, p63, p64, p65⟩ := o6.five
              have hl6 := o6.lt
              obtain ⟨f00, f01, f02, f03, f04, f05⟩ := HK0.out _ hb6
              obtain ⟨f10, f11, f12, f13, f14, f15⟩ := HK1.out _ hb6
              obtain ⟨f20, f21, f22, f23, f24, f25⟩ := HK2.out _ hb6
              obtain ⟨f30, f31, f32, f33, f34, f35⟩ := HK3.out _ hb6
              clear hb6'
              cases qe with
              | true =>
                go_wp2
                go_ret
                exact ⟨ret_bool (by rw [HS.out] <;> rfl), hb6⟩
              | false =>
                go_wp2_with fail
                refine (Cf _ hb6).mono ?_
                rintro en w7 ⟨rfl, hb7'⟩
                have o7 := o6.below hb7'
                have hb7 := hb6.trans (hb7'.mono hb6.size)
                obtain ⟨p70, p71, p72, p73, p74, p75⟩ := o7.five
                have hl7 := o7.lt
                obtain ⟨f00, f01, f02, f03, f04, f05⟩ := HK0.out _ hb7
                obtain ⟨f10, f11, f12, f13, f14, f15⟩ := HK1.out _ hb7
                obtain ⟨f20, f21, f22, f23, f24, f25⟩ := HK2.out _ hb7
                obtain ⟨f30, f31, f32, f33, f34, f35⟩ := HK3.out _ hb7
                clear hb7'
                cases qf with
                | true =>
                  go_wp2
                  go_ret
                  exact ⟨ret_bool (by rw [HS.out] <;> rfl), hb7⟩
                | false =>
                  go_wp2
                  go_ret
                  exact ⟨ret_bool (by rw [HS.out] <;> rfl), hb7⟩
  · have HS : Hid (vR 3 t = false) := by
      unfold Hid
      rw [vR_3, valid_core]
      have h1 : (t.kind : Int) = 16 := by omega
      have h2 : ¬ (t.kids.length : Int) = 4 := by have := HF.out.len; omega
      exact core_no _ _ (by rw [h1]; exact (show (kidsI 16).1 = (kidsI 16).2 from rfl)) (by rw [h1]; exact h2)
    have hm3 : ((m : Int) != 4) = true := by simp; omega
    subst hk2
    clear hF hN hk hK hqb hm
    go_enter Tryz.func28, Tryz.ntmps28
    go_wp2_with fail
    refine (CB _).mono ?_
    rintro en w1 ⟨rfl, hb1'⟩
    have o1 := o0.below hb1'
    have hb1 := hb0.trans (hb1'.mono hb0.size)
    obtain ⟨p10, p11, p12, p13, p14, p15⟩ := o1.five
    have hl1 := o1.lt
    clear hb1'
    cases qb with
    | true =>
      go_wp2
      go_ret
      exact ⟨ret_bool (by rw [HS.out] <;> rfl), hb1⟩
    | false =>
      go_wp2
      go_ret
      exact ⟨ret_bool (by rw [HS.out] <;> rfl), hb1⟩
end Go.Proofs.YtmhnbklchnnbaaaGreatDoor
