import Derived.Test.YtmhnbklchnnbaaaGreatDoorQ45
set_option maxHeartbeats 4000000
set_option maxRecDepth 100000
namespace Go.Proofs.YtmhnbklchnnbaaaGreatDoor
open Go.RowKit
set_option linter.unusedVariables false
set_option linter.unusedSimpArgs false
theorem ex50 (t : Tree) (hw : wideTr t) (H : KidsAs t) (hK : t.kind = 50) : ExAs t := by
  intro w k a b n v hN
  obtain ⟨ao, m, cap, rfl, hF⟩ := Fl.of hN hw
  have HF : Hid (Fl w t k a b n ao m cap) := hF
  have hk := hF.kind
  have hm1 := hF.2.2.2.1
  have hm2 := hF.2.2.2.2
  have o0 := Own.new w #[.int .u8 k, .int .i64 a, .string b, .int .u64 n, .slice ao m cap] 25
  have hb0 : Below w.heap.size w (w.alloc (.cells #[.int .u8 k, .int .i64 a, .string b, .int .u64 n, .slice ao m cap] 25)) := (Below.refl _ _).alloc (Nat.le_refl _) _
  obtain ⟨qb, hqb⟩ : ∃ q, bareB t.text n = q := ⟨_, rfl⟩
  have CB : ∀ W : World, Calls Tryz.prog 26 #[.agg #[.int .u8 k, .int .i64 a, .string b, .int .u64 n, .slice ao m cap]] W fun en w' => en = .returned (.bool qb) ∧ Below W.heap.size W w' := fun W => by have := zbare_as W k a n b (.slice ao m cap) rfl t.text HF.out.txt; rw [hqb] at this; exact this
  obtain ⟨qa, hqa⟩ : ∃ q, t.kids.all (vR 2) = q := ⟨_, rfl⟩
  have CA : ∀ W : World, Below w.heap.size w W → Calls Tryz.prog 29 #[.slice ao m cap, .int .i64 2] W fun en w' => en = .returned (.bool qa) ∧ Below W.heap.size W w' := fun W hW => zall_as 2 t.kids (H 2 (by omega) (by omega)) W _ (by have := HF.out.kids; rw [HF.out.len] at this; exact this.below hW) qa hqa
  have hn9 : (t.n : Int) = n := HF.out.num.symm
  have hk9 : (t.kind : Int) = 50 := by omega
  have hk2 : k = 50 := by omega
  obtain ⟨qm, hqm⟩ : ∃ q, decide (t.kids.length = 1) = q := ⟨_, rfl⟩
  have hm9 : ((m : Int) == 1) = qm := by rw [← hqm, HF.out.len, Bool.eq_iff_iff]; simp; try omega
  have HS : Hid (vR 2 t = (qb && (qm && qa))) := by unfold Hid; rw [← hqb, ← hqm, ← hqa]; exact ePart t 1 _ (by rw [hk9]; rfl) (by rw [hk9]; rfl) (by rw [hk9, hn9]; simp [textI, numI, bareB]) (fun j => by rw [hk9]; simp [asksI, eitherI])
  subst hk2
  clear hF hN hk hk9 hn9 hqb hK hqa hqm
  go_enter Tryz.func27, Tryz.ntmps27
  go_wp2_with fail
  refine (CB _).mono ?_
  rintro en w1 ⟨rfl, hb1'⟩
  have o1 := o0.below hb1'
  have hb1 := hb0.trans (hb1'.mono hb0.size)
  obtain ⟨p10, p11, p12, p13, p14, p15⟩ := o1.five
  have hl1 := o1.lt
  clear hb1'
  cases qb with
  | false =>
    go_wp2
    go_ret
    exact ⟨ret_bool (by rw [HS.out] <;> rfl), hb1⟩
  | true =>
    cases qm with
    | false =>
      go_wp2
      go_ret
      exact ⟨ret_bool (by rw [HS.out] <;> rfl), hb1⟩
    | true =>
      go_wp2_with fail
      refine (CA _ hb1).mono ?_
      rintro en w2 ⟨rfl, hb2'⟩
      have o2 := o1.below hb2'
      have hb2 := hb1.trans (hb2'.mono hb1.size)
      obtain ⟨p20, p21, p22, p23, p24, p25⟩ := o2.five
      have hl2 := o2.lt
      clear hb2'
      go_wp2
      go_ret
      exact ⟨ret_bool (by rw [HS.out] <;> rfl), hb2⟩
theorem ex52 (t : Tree) (hw : wideTr t) (H : KidsAs t) (hK : t.kind = 52) : ExAs t := by
  intro w k a b n v hN
  obtain ⟨ao, m, cap, rfl, hF⟩ := Fl.of hN hw
  have HF : Hid (Fl w t k a b n ao m cap) := hF
  have hk := hF.kind
  have hm1 := hF.2.2.2.1
  have hm2 := hF.2.2.2.2
  have o0 := Own.new w #[.int .u8 k, .int .i64 a, .string b, .int .u64 n, .slice ao m cap] 25
  have hb0 : Below w.heap.size w (w.alloc (.cells #[.int .u8 k, .int .i64 a, .string b, .int .u64 n, .slice ao m cap] 25)) := (Below.refl _ _).alloc (Nat.le_refl _) _
  obtain ⟨qb, hqb⟩ : ∃ q, bareB t.text n = q := ⟨_, rfl⟩
  have CB : ∀ W : World, Calls Tryz.prog 26 #[.agg #[.int .u8 k, .int .i64 a, .string b, .int .u64 n, .slice ao m cap]] W fun en w' => en = .returned (.bool qb) ∧ Below W.heap.size W w' := fun W => by have := zbare_as W k a n b (.slice ao m cap) rfl t.text HF.out.txt; rw [hqb] at this; exact this
  obtain ⟨qa, hqa⟩ : ∃ q, t.kids.all (vR 2) = q := ⟨_, rfl⟩
  have CA : ∀ W : World, Below w.heap.size w W → Calls Tryz.prog 29 #[.slice ao m cap, .int .i64 2] W fun en w' => en = .returned (.bool qa) ∧ Below W.heap.size W w' := fun W hW => zall_as 2 t.kids (H 2 (by omega) (by omega)) W _ (by have := HF.out.kids; rw [HF.out.len] at this; exact this.below hW) qa hqa
  have hn9 : (t.n : Int) = n := HF.out.num.symm
  have hk9 : (t.kind : Int) = 52 := by omega
  have hk2 : k = 52 := by omega
  obtain ⟨qm, hqm⟩ : ∃ q, decide (t.kids.length = 1) = q := ⟨_, rfl⟩
  have hm9 : ((m : Int) == 1) = qm := by rw [← hqm, HF.out.len, Bool.eq_iff_iff]; simp; try omega
  have HS : Hid (vR 2 t = (qb && (qm && qa))) := by unfold Hid; rw [← hqb, ← hqm, ← hqa]; exact ePart t 1 _ (by rw [hk9]; rfl) (by rw [hk9]; rfl) (by rw [hk9, hn9]; simp [textI, numI, bareB]) (fun j => by rw [hk9]; simp [asksI, eitherI])
  subst hk2
  clear hF hN hk hk9 hn9 hqb hK hqa hqm
  go_enter Tryz.func27, Tryz.ntmps27
  go_wp2_with fail
  refine (CB _).mono ?_
  rintro en w1 ⟨rfl, hb1'⟩
  have o1 := o0.below hb1'
  have hb1 := hb0.trans (hb1'.mono hb0.size)
  obtain ⟨p10, p11, p12, p13, p14, p15⟩ := o1.five
  have hl1 := o1.lt
  clear hb1'
  cases qb with
  | false =>
    go_wp2
    go_ret
    exact ⟨ret_bool (by rw [HS.out] <;> rfl), hb1⟩
  | true =>
    cases qm with
    | false =>
      go_wp2
      go_ret
      exact ⟨ret_bool (by rw [HS.out] <;> rfl), hb1⟩
    | true =>
      go_wp2_with fail
      refine (CA _ hb1).mono ?_
      rintro en w2 ⟨rfl, hb2'⟩
      have o2 := o1.below hb2'
      have hb2 := hb1.trans (hb2'.mono hb1.size)
      obtain ⟨p20, p21, p22, p23, p24, p25⟩ := o2.five
      have hl2 := o2.lt
      clear hb2'
      go_wp2
      go_ret
      exact ⟨ret_bool (by rw [HS.out] <;> rfl), hb2⟩
theorem ex53 (t : Tree) (hw : wideTr t) (H : KidsAs t) (hK : t.kind = 53) : ExAs t := by
  intro w k a b n v hN
  obtain ⟨ao, m, cap, rfl, hF⟩ := Fl.of hN hw
  have HF : Hid (Fl w t k a b n ao m cap) := hF
  have hk := hF.kind
  have hm1 := hF.2.2.2.1
  have hm2 := hF.2.2.2.2
  have o0 := Own.new w #[.int .u8 k, .int .i64 a, .string b, .int .u64 n, .slice ao m cap] 25
  have hb0 : Below w.heap.size w (w.alloc (.cells #[.int .u8 k, .int .i64 a, .string b, .int .u64 n, .slice ao m cap] 25)) := (Below.refl _ _).alloc (Nat.le_refl _) _
  obtain ⟨qb, hqb⟩ : ∃ q, bareB t.text n = q := ⟨_, rfl⟩
  have CB : ∀ W : World, Calls Tryz.prog 26 #[.agg #[.int .u8 k, .int .i64 a, .string b, .int .u64 n, .slice ao m cap]] W fun en w' => en = .returned (.bool qb) ∧ Below W.heap.size W w' := fun W => by have := zbare_as W k a n b (.slice ao m cap) rfl t.text HF.out.txt; rw [hqb] at this; exact this
  obtain ⟨qa, hqa⟩ : ∃ q, t.kids.all (vR 2) = q := ⟨_, rfl⟩
  have CA : ∀ W : World, Below w.heap.size w W → Calls Tryz.prog 29 #[.slice ao m cap, .int .i64 2] W fun en w' => en = .returned (.bool qa) ∧ Below W.heap.size W w' := fun W hW => zall_as 2 t.kids (H 2 (by omega) (by omega)) W _ (by have := HF.out.kids; rw [HF.out.len] at this; exact this.below hW) qa hqa
  have hn9 : (t.n : Int) = n := HF.out.num.symm
  have hk9 : (t.kind : Int) = 53 := by omega
  have hk2 : k = 53 := by omega
  obtain ⟨qm, hqm⟩ : ∃ q, decide (t.kids.length = 1) = q := ⟨_, rfl⟩
  have hm9 : ((m : Int) == 1) = qm := by rw [← hqm, HF.out.len, Bool.eq_iff_iff]; simp; try omega
  have HS : Hid (vR 2 t = (qb && (qm && qa))) := by unfold Hid; rw [← hqb, ← hqm, ← hqa]; exact ePart t 1 _ (by rw [hk9]; rfl) (by rw [hk9]; rfl) (by rw [hk9, hn9]; simp [textI, numI, bareB]) (fun j => by rw [hk9]; simp [asksI, eitherI])
  subst hk2
  clear hF hN hk hk9 hn9 hqb hK hqa hqm
  go_enter Tryz.func27, Tryz.ntmps27
  go_wp2_with fail
  refine (CB _).mono ?_
  rintro en w1 ⟨rfl, hb1'⟩
  have o1 := o0.below hb1'
  have hb1 := hb0.trans (hb1'.mono hb0.size)
  obtain ⟨p10, p11, p12, p13, p14, p15⟩ := o1.five
  have hl1 := o1.lt
  clear hb1'
  cases qb with
  | false =>
    go_wp2
    go_ret
    exact ⟨ret_bool (by rw [HS.out] <;> rfl), hb1⟩
  | true =>
    cases qm with
    | false =>
      go_wp2
      go_ret
      exact ⟨ret_bool (by rw [HS.out] <;> rfl), hb1⟩
    | true =>
      go_wp2_with fail
      refine (CA _ hb1).mono ?_
      rintro en w2 ⟨rfl, hb2'⟩
      have o2 := o1.below hb2'
      have hb2 := hb1.trans (hb2'.mono hb1.size)
      obtain ⟨p20, p21, p22, p23, p24, p25⟩ := o2.five
      have hl2 := o2.lt
      clear hb2'
      go_wp2
      go_ret
      exact ⟨ret_bool (by rw [HS.out] <;> rfl), hb2⟩
theorem ex55 (t : Tree) (hw : wideTr t) (H : KidsAs t) (hK : t.kind = 55) : ExAs t := by
  intro w k a b n v hN
  obtain ⟨ao, m, cap, rfl, hF⟩ := Fl.of hN hw
  have HF : Hid (Fl w t k a b n ao m cap) := hF
  have hk := hF.kind
  have hm1 := hF.2.2.2.1
  have hm2 := hF.2.2.2.2
  have o0 := Own.new w #[.int .u8 k, .int .i64 a, .string b, .int .u64 n, .slice ao m cap] 25
  have hb0 : Below w.heap.size w (w.alloc (.cells #[.int .u8 k, .int .i64 a, .string b, .int .u64 n, .slice ao m cap] 25)) := (Below.refl _ _).alloc (Nat.le_refl _) _
  obtain ⟨qb, hqb⟩ : ∃ q, bareB t.text n = q := ⟨_, rfl⟩
  have CB : ∀ W : World, Calls Tryz.prog 26 #[.agg #[.int .u8 k, .int .i64 a, .string b, .int .u64 n, .slice ao m cap]] W fun en w' => en = .returned (.bool qb) ∧ Below W.heap.size W w' := fun W => by have := zbare_as W k a n b (.slice ao m cap) rfl t.text HF.out.txt; rw [hqb] at this; exact this
  obtain ⟨qa, hqa⟩ : ∃ q, t.kids.all (vR 2) = q := ⟨_, rfl⟩
  have CA : ∀ W : World, Below w.heap.size w W → Calls Tryz.prog 29 #[.slice ao m cap, .int .i64 2] W fun en w' => en = .returned (.bool qa) ∧ Below W.heap.size W w' := fun W hW => zall_as 2 t.kids (H 2 (by omega) (by omega)) W _ (by have := HF.out.kids; rw [HF.out.len] at this; exact this.below hW) qa hqa
  have hn9 : (t.n : Int) = n := HF.out.num.symm
  have hk9 : (t.kind : Int) = 55 := by omega
  have hk2 : k = 55 := by omega
  obtain ⟨qm, hqm⟩ : ∃ q, decide (t.kids.length = 1) = q := ⟨_, rfl⟩
  have hm9 : ((m : Int) == 1) = qm := by rw [← hqm, HF.out.len, Bool.eq_iff_iff]; simp; try omega
  have HS : Hid (vR 2 t = (qb && (qm && qa))) := by unfold Hid; rw [← hqb, ← hqm, ← hqa]; exact ePart t 1 _ (by rw [hk9]; rfl) (by rw [hk9]; rfl) (by rw [hk9, hn9]; simp [textI, numI, bareB]) (fun j => by rw [hk9]; simp [asksI, eitherI])
  subst hk2
  clear hF hN hk hk9 hn9 hqb hK hqa hqm
  go_enter Tryz.func27, Tryz.ntmps27
  go_wp2_with fail
  refine (CB _).mono ?_
  rintro en w1 ⟨rfl, hb1'⟩
  have o1 := o0.below hb1'
  have hb1 := hb0.trans (hb1'.mono hb0.size)
  obtain ⟨p10, p11, p12, p13, p14, p15⟩ := o1.five
  have hl1 := o1.lt
  clear hb1'
  cases qb with
  | false =>
    go_wp2
    go_ret
    exact ⟨ret_bool (by rw [HS.out] <;> rfl), hb1⟩
  | true =>
    cases qm with
    | false =>
      go_wp2
      go_ret
      exact ⟨ret_bool (by rw [HS.out] <;> rfl), hb1⟩
    | true =>
      go_wp2_with fail
      refine (CA _ hb1).mono ?_
      rintro en w2 ⟨rfl, hb2'⟩
      have o2 := o1.below hb2'
      have hb2 := hb1.trans (hb2'.mono hb1.size)
      obtain ⟨p20, p21, p22, p23, p24, p25⟩ := o2.five
      have hl2 := o2.lt
      clear hb2'
      go_wp2
      go_ret
      exact ⟨ret_bool (by rw [HS.out] <;> rfl), hb2⟩
theorem ex56 (t : Tree) (hw : wideTr t) (H : KidsAs t) (hK : t.kind = 56) : ExAs t := by
  intro w k a b n v hN
  obtain ⟨ao, m, cap, rfl, hF⟩ := Fl.of hN hw
  have HF : Hid (Fl w t k a b n ao m cap) := hF
  have hk := hF.kind
  have hm1 := hF.2.2.2.1
  have hm2 := hF.2.2.2.2
  have o0 := Own.new w #[.int .u8 k, .int .i64 a, .string b, .int .u64 n, .slice ao m cap] 25
  have hb0 : Below w.heap.size w (w.alloc (.cells #[.int .u8 k, .int .i64 a, .string b, .int .u64 n, .slice ao m cap] 25)) := (Below.refl _ _).alloc (Nat.le_refl _) _
  obtain ⟨qb, hqb⟩ : ∃ q, bareB t.text n = q := ⟨_, rfl⟩
  have CB : ∀ W : World, Calls Tryz.prog 26 #[.agg #[.int .u8 k, .int .i64 a, .string b, .int .u64 n, .slice ao m cap]] W fun en w' => en = .returned (.bool qb) ∧ Below W.heap.size W w' := fun W => by have := zbare_as W k a n b (.slice ao m cap) rfl t.text HF.out.txt; rw [hqb] at this; exact this
  obtain ⟨qa, hqa⟩ : ∃ q, t.kids.all (vR 2) = q := ⟨_, rfl⟩
  have CA : ∀ W : World, Below w.heap.size w W → Calls Tryz.prog 29 #[.slice ao m cap, .int .i64 2] W fun en w' => en = .returned (.bool qa) ∧ Below W.heap.size W w' := fun W hW => zall_as 2 t.kids (H 2 (by omega) (by omega)) W _ (by have := HF.out.kids; rw [HF.out.len] at this; exact this.below hW) qa hqa
  have hn9 : (t.n : Int) = n := HF.out.num.symm
  have hk9 : (t.kind : Int) = 56 := by omega
  have hk2 : k = 56 := by omega
  obtain ⟨qm, hqm⟩ : ∃ q, decide (t.kids.length = 1) = q := ⟨_, rfl⟩
  have hm9 : ((m : Int) == 1) = qm := by rw [← hqm, HF.out.len, Bool.eq_iff_iff]; simp; try omega
  have HS : Hid (vR 2 t = (qb && (qm && qa))) := by unfold Hid; rw [← hqb, ← hqm, ← hqa]; exact ePart t 1 _ (by rw [hk9]; rfl) (by rw [hk9]; rfl) (by rw [hk9, hn9]; simp [textI, numI, bareB]) (fun j => by rw [hk9]; simp [asksI, eitherI])
  subst hk2
  clear hF hN hk hk9 hn9 hqb hK hqa hqm
  go_enter Tryz.func27, Tryz.ntmps27
  go_wp2_with fail
  refine (CB _).mono ?_
  rintro en w1 ⟨rfl, hb1'⟩
  have o1 := o0.below hb1'
  have hb1 := hb0.trans (hb1'.mono hb0.size)
  obtain ⟨p10, p11, p12, p13, p14, p15⟩ := o1.five
  have hl1 := o1.lt
  clear hb1'
  cases qb with
  | false =>
    go_wp2
    go_ret
    exact ⟨ret_bool (by rw [HS.out] <;> rfl), hb1⟩
  | true =>
    cases qm with
    | false =>
      go_wp2
      go_ret
      exact ⟨ret_bool (by rw [HS.out] <;> rfl), hb1⟩
    | true =>
      go_wp2_with fail
      refine (CA _ hb1).mono ?_
      rintro en w2 ⟨rfl, hb2'⟩
      have o2 := o1.below hb2'
      have hb2 := hb1.trans (hb2'.mono hb1.size)
      obtain ⟨p20, p21, p22, p23, p24, p25⟩ := o2.five
      have hl2 := o2.lt
      clear hb2'
      go_wp2
      go_ret
      exact ⟨ret_bool (by rw [HS.out] <;> rfl), hb2⟩
theorem ex57 (t : Tree) (hw : wideTr t) (H : KidsAs t) (hK : t.kind = 57) : ExAs t := by
  intro w k a b n v hN
  obtain ⟨ao, m, cap, rfl, hF⟩ := Fl.of hN hw
  have HF : Hid (Fl w t k a b n ao m cap) := hF
  have hk := hF.kind
  have hm1 := hF.2.2.2.1
  have hm2 := hF.2.2.2.2
  have o0 := Own.new w #[.int .u8 k, .int .i64 a, .string b, .int .u64 n, .slice ao m cap] 25
  have hb0 : Below w.heap.size w (w.alloc (.cells #[.int .u8 k, .int .i64 a, .string b, .int .u64 n, .slice ao m cap] 25)) := (Below.refl _ _).alloc (Nat.le_refl _) _
  obtain ⟨qb, hqb⟩ : ∃ q, bareB t.text n = q := ⟨_, rfl⟩
  have CB : ∀ W : World, Calls Tryz.prog 26 #[.agg #[.int .u8 k, .int .i64 a, .string b, .int .u64 n, .slice ao m cap]] W fun en w' => en = .returned (.bool qb) ∧ Below W.heap.size W w' := fun W => by have := zbare_as W k a n b (.slice ao m cap) rfl t.text HF.out.txt; rw [hqb] at this; exact this
  obtain ⟨qa, hqa⟩ : ∃ q, t.kids.all (vR 2) = q := ⟨_, rfl⟩
  have CA : ∀ W : World, Below w.heap.size w W → Calls Tryz.prog 29 #[.slice ao m cap, .int .i64 2] W fun en w' => en = .returned (.bool qa) ∧ Below W.heap.size W w' := fun W hW => zall_as 2 t.kids (H 2 (by omega) (by omega)) W _ (by have := HF.out.kids; rw [HF.out.len] at this; exact this.below hW) qa hqa
  have hn9 : (t.n : Int) = n := HF.out.num.symm
  have hk9 : (t.kind : Int) = 57 := by omega
  have hk2 : k = 57 := by omega
  obtain ⟨qm, hqm⟩ : ∃ q, decide (t.kids.length = 1) = q := ⟨_, rfl⟩
  have hm9 : ((m : Int) == 1) = qm := by rw [← hqm, HF.out.len, Bool.eq_iff_iff]; simp; try omega
  have HS : Hid (vR 2 t = (qb && (qm && qa))) := by unfold Hid; rw [← hqb, ← hqm, ← hqa]; exact ePart t 1 _ (by rw [hk9]; rfl) (by rw [hk9]; rfl) (by rw [hk9, hn9]; simp [textI, numI, bareB]) (fun j => by rw [hk9]; simp [asksI, eitherI])
  subst hk2
  clear hF hN hk hk9 hn9 hqb hK hqa hqm
  go_enter Tryz.func27, Tryz.ntmps27
  go_wp2_with fail
  refine (CB _).mono ?_
  rintro en w1 ⟨rfl, hb1'⟩
  have o1 := o0.below hb1'
  have hb1 := hb0.trans (hb1'.mono hb0.size)
  obtain ⟨p10, p11, p12, p13, p14, p15⟩ := o1.five
  have hl1 := o1.lt
  clear hb1'
  cases qb with
  | false =>
    go_wp2
    go_ret
    exact ⟨ret_bool (by rw [HS.out] <;> rfl), hb1⟩
  | true =>
    cases qm with
    | false =>
      go_wp2
      go_ret
      exact ⟨ret_bool (by rw [HS.out] <;> rfl), hb1⟩
    | true =>
      go_wp2_with fail
      refine (CA _ hb1).mono ?_
      rintro en w2 ⟨rfl, hb2'⟩
      have o2 := o1.below hb2'
      have hb2 := hb1.trans (hb2'.mono hb1.size)
      obtain ⟨p20, p21, p22, p23, p24, p25⟩ := o2.five
      have hl2 := o2.lt
      clear hb2'
      go_wp2
      go_ret
      exact ⟨ret_bool (by rw [HS.out] <;> rfl), hb2⟩
theorem ex51 (t : Tree) (hw : wideTr t) (H : KidsAs t) (hK : t.kind = 51) : ExAs t := by
  intro w k a b n v hN
  obtain ⟨ao, m, cap, rfl, hF⟩ := Fl.of hN hw
  have HF : Hid (Fl w t k a b n ao m cap) := hF
  have hk := hF.kind
  have hm1 := hF.2.2.2.1
  have hm2 := hF.2.2.2.2
  have o0 := Own.new w #[.int .u8 k, .int .i64 a, .string b, .int .u64 n, .slice ao m cap] 25
  have hb0 : Below w.heap.size w (w.alloc (.cells #[.int .u8 k, .int .i64 a, .string b, .int .u64 n, .slice ao m cap] 25)) := (Below.refl _ _).alloc (Nat.le_refl _) _
  obtain ⟨qb, hqb⟩ : ∃ q, bareB t.text n = q := ⟨_, rfl⟩
  have CB : ∀ W : World, Calls Tryz.prog 26 #[.agg #[.int .u8 k, .int .i64 a, .string b, .int .u64 n, .slice ao m cap]] W fun en w' => en = .returned (.bool qb) ∧ Below W.heap.size W w' := fun W => by have := zbare_as W k a n b (.slice ao m cap) rfl t.text HF.out.txt; rw [hqb] at this; exact this
  obtain ⟨qa, hqa⟩ : ∃ q, t.kids.all (vR 2) = q := ⟨_, rfl⟩
  have CA : ∀ W : World, Below w.heap.size w W → Calls Tryz.prog 29 #[.slice ao m cap, .int .i64 2] W fun en w' => en = .returned (.bool qa) ∧ Below W.heap.size W w' := fun W hW => zall_as 2 t.kids (H 2 (by omega) (by omega)) W _ (by have := HF.out.kids; rw [HF.out.len] at this; exact this.below hW) qa hqa
  have hn9 : (t.n : Int) = n := HF.out.num.symm
  have hk9 : (t.kind : Int) = 51 := by omega
  have hk2 : k = 51 := by omega
  obtain ⟨qm, hqm⟩ : ∃ q, decide (t.kids.length = 3) = q := ⟨_, rfl⟩
  have hm9 : ((m : Int) == 3) = qm := by rw [← hqm, HF.out.len, Bool.eq_iff_iff]; simp; try omega
  have HS : Hid (vR 2 t = (qb && (qm && qa))) := by unfold Hid; rw [← hqb, ← hqm, ← hqa]; exact ePart t 3 _ (by rw [hk9]; rfl) (by rw [hk9]; rfl) (by rw [hk9, hn9]; simp [textI, numI, bareB]) (fun j => by rw [hk9]; simp [asksI, eitherI])
  subst hk2
  clear hF hN hk hk9 hn9 hqb hK hqa hqm
  go_enter Tryz.func27, Tryz.ntmps27
  go_wp2_with fail
  refine (CB _).mono ?_
  rintro en w1 ⟨rfl, hb1'⟩
  have o1 := o0.below hb1'
  have hb1 := hb0.trans (hb1'.mono hb0.size)
  obtain ⟨p10, p11, p12, p13, p14, p15⟩ := o1.five
  have hl1 := o1.lt
  clear hb1'
  cases qb with
  | false =>
    go_wp2
    go_ret
    exact ⟨ret_bool (by rw [HS.out] <;> rfl), hb1⟩
  | true =>
    cases qm with
    | false =>
      go_wp2
      go_ret
      exact ⟨ret_bool (by rw [HS.out] <;> rfl), hb1⟩
    | true =>
      go_wp2_with fail
      refine (CA _ hb1).mono ?_
      rintro en w2 ⟨rfl, hb2'⟩
      have o2 := o1.below hb2'
      have hb2 := hb1.trans (hb2'.mono hb1.size)
      obtain ⟨p20, p21, p22, p23, p24, p25⟩ := o2.five
      have hl2 := o2.lt
      clear hb2'
      go_wp2
      go_ret
      exact ⟨ret_bool (by rw [HS.out] <;> rfl), hb2⟩
theorem exR (t : Tree) (hw : wideTr t) (H : KidsAs t) (hK : 60 ≤ t.kind ∧ t.kind ≤ 77) : ExAs t := by
  intro w k a b n v hN
  obtain ⟨ao, m, cap, rfl, hF⟩ := Fl.of hN hw
  have HF : Hid (Fl w t k a b n ao m cap) := hF
  have hk := hF.kind
  have hm1 := hF.2.2.2.1
  have hm2 := hF.2.2.2.2
  have o0 := Own.new w #[.int .u8 k, .int .i64 a, .string b, .int .u64 n, .slice ao m cap] 25
  have hb0 : Below w.heap.size w (w.alloc (.cells #[.int .u8 k, .int .i64 a, .string b, .int .u64 n, .slice ao m cap] 25)) := (Below.refl _ _).alloc (Nat.le_refl _) _
  obtain ⟨qb, hqb⟩ : ∃ q, bareB t.text n = q := ⟨_, rfl⟩
  have CB : ∀ W : World, Calls Tryz.prog 26 #[.agg #[.int .u8 k, .int .i64 a, .string b, .int .u64 n, .slice ao m cap]] W fun en w' => en = .returned (.bool qb) ∧ Below W.heap.size W w' := fun W => by have := zbare_as W k a n b (.slice ao m cap) rfl t.text HF.out.txt; rw [hqb] at this; exact this
  obtain ⟨qa, hqa⟩ : ∃ q, t.kids.all (vR 2) = q := ⟨_, rfl⟩
  have CA : ∀ W : World, Below w.heap.size w W → Calls Tryz.prog 29 #[.slice ao m cap, .int .i64 2] W fun en w' => en = .returned (.bool qa) ∧ Below W.heap.size W w' := fun W hW => zall_as 2 t.kids (H 2 (by omega) (by omega)) W _ (by have := HF.out.kids; rw [HF.out.len] at this; exact this.below hW) qa hqa
  have hn9 : (t.n : Int) = n := HF.out.num.symm
  have hk9 : (t.kind : Int) = k := by omega
  have hr1 : (60 : Int) ≤ k := by omega
  have hr2 : k ≤ 77 := by omega
  obtain ⟨qm, hqm⟩ : ∃ q, decide (t.kids.length = 2) = q := ⟨_, rfl⟩
  have hm9 : ((m : Int) == 2) = qm := by rw [← hqm, HF.out.len, Bool.eq_iff_iff]; simp; try omega
  have HS : Hid (vR 2 t = (qb && (qm && qa))) := by unfold Hid; rw [← hqb, ← hqm, ← hqa]; exact ePart t 2 _ (by rw [hk9]; exact takesR k hr1 hr2) (by rw [hk9]; exact kidsR2 k hr1 hr2) (by rw [hk9, hn9]; exact sideR k t.text n hr1 hr2) (fun j => by rw [hk9]; exact asksR k _ _ hr1 hr2)
  have z40 : (k == 40) = false := by simp; omega
  have z41 : (k == 41) = false := by simp; omega
  have z42 : (k == 42) = false := by simp; omega
  have z43 : (k == 43) = false := by simp; omega
  have z44 : (k == 44) = false := by simp; omega
  have z45 : (k == 45) = false := by simp; omega
  have z46 : (k == 46) = false := by simp; omega
  have z47 : (k == 47) = false := by simp; omega
  have z48 : (k == 48) = false := by simp; omega
  have z49 : (k == 49) = false := by simp; omega
  have z50 : (k == 50) = false := by simp; omega
  have z51 : (k == 51) = false := by simp; omega
  have z52 : (k == 52) = false := by simp; omega
  have z53 : (k == 53) = false := by simp; omega
  have z55 : (k == 55) = false := by simp; omega
  have z56 : (k == 56) = false := by simp; omega
  have z57 : (k == 57) = false := by simp; omega
  clear hF hN hk hk9 hn9 hqb hK hqa hqm
  go_enter Tryz.func27, Tryz.ntmps27
  go_wp2_with fail
  refine (CB _).mono ?_
  rintro en w1 ⟨rfl, hb1'⟩
  have o1 := o0.below hb1'
  have hb1 := hb0.trans (hb1'.mono hb0.size)
  obtain ⟨p10, p11, p12, p13, p14, p15⟩ := o1.five
  have hl1 := o1.lt
  clear hb1'
  cases qb with
  | false =>
    go_wp2
    go_ret
    exact ⟨ret_bool (by rw [HS.out] <;> rfl), hb1⟩
  | true =>
    cases qm with
    | false =>
      go_wp2
      go_ret
      exact ⟨ret_bool (by rw [HS.out] <;> rfl), hb1⟩
    | true =>
      go_wp2_with fail
      refine (CA _ hb1).mono ?_
      rintro en w2 ⟨rfl, hb2'⟩
      have o2 := o1.below hb2'
      have hb2 := hb1.trans (hb2'.mono hb1.size)
      obtain ⟨p20, p21, p22, p23, p24, p25⟩ := o2.five
      have hl2 := o2.lt
      clear hb2'
      go_wp2
      go_ret
      exact ⟨ret_bool (by rw [HS.out] <;> rfl), hb2⟩
end Go.Proofs.YtmhnbklchnnbaaaGreatDoor
