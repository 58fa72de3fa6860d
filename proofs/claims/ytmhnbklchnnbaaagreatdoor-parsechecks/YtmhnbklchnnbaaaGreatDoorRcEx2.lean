import Derived.Test.YtmhnbklchnnbaaaGreatDoorQ45
import Derived.Test.YtmhnbklchnnbaaaGreatDoorQ43
set_option maxHeartbeats 4000000
set_option maxRecDepth 100000
namespace Go.Proofs.YtmhnbklchnnbaaaGreatDoor
open Go.RowKit
set_option linter.unusedVariables false
set_option linter.unusedSimpArgs false
theorem ex50 (t : Tree) (hw : wideTr t) (H : KidsAs t) (hK : t.kind = 50) : ExAs t := by
  intro w k a b n v hN
  obtain ⟨ao, m, cap, rfl, hF⟩ := Fl.of hN hw
  have HF : Hid (Fl w t k a b n ao m cap) := hF
  have hk := hF.kind
  have hm1 := hF.2.2.2.1
  have hm2 := hF.2.2.2.2
  have o0 := Own.new w #[.int .u8 k, .int .i64 a, .string b, .int .u64 n, .slice ao m cap] 25
  have hb0 : Below w.heap.size w (w.alloc (.cells #[.int .u8 k, .int .i64 a, .string b, .int .u64 n, .slice ao m cap] 25)) := (Below.refl _ _).alloc (Nat.le_refl _) _
  obtain ⟨qb, hqb⟩ : ∃ q, bareB t.text n = q := ⟨_, rfl⟩
  have CB : ∀ W : World, Calls Tryz.prog 26 #[.agg #[.int .u8 k, .int .i64 a, .string b, .int .u64 n, .slice ao m cap]] W fun en w' => en = .returned (.bool qb) ∧ Below W.heap.size W w' := fun W => by have := zbare_as W k a n b (.slice ao m cap) rfl t.text HF.out.txt; rw [hqb] at this; exact this
  obtain ⟨qa, hqa⟩ : ∃ q, t.kids.all (vR 2) = q := ⟨_, rfl⟩
  have CA : ∀ W : World, Below w.heap.size w W → Calls Tryz.prog 29 #[.slice ao m cap, .int .i64 2] W fun en w' => en = .returned (.bool qa) ∧ Below W.heap.size W w' := fun W hW => zall_as 2 t.kids (H 2 (by omega) (by omega)) W _ (by have := HF.out.kids; rw [HF.out.len] at this; exact this.below hW) qa hqa
  have hn9 : (t.n : Int) = n := HF.out.num.symm
  have hk9 : (t.kind : Int) = 50 := by omega
  have hk2 : k = 50 := by omega
  obtain ⟨qm, hqm⟩ : ∃ q, decide (t.kids.length = 1) = q := ⟨_, rfl⟩
  have hm9 : ((m : Int) == 1) = qm := by rw [← hqm, HF.out.len, Bool.eq_iff_iff]; simp; try omega
  have HS : Hid (vR 2 t = (qb && (qm && qa))) := by unfold Hid; rw [← hqb, ← hqm, ← hqa]; exact ePart t 1 _ (by rw [hk9]; rfl) (by rw [hk9]; rfl) (by rw [hk9, hn9]; simp [textI, numI, bareB]) (fun j => by rw [hk9]; simp [asksI, eitherI])
  subst hk2
  clear hF hN hk hk9 hn9 hqb hK hqa hqm
  go_enter Tryz.func27, Tryz.ntmps27
  go_wp2_with fail
  refine (CB _).mono ?_
  rintro en w1 ⟨rfl, hb1'⟩
  have o1 := o0.below hb1'
  have hb1 := hb0.trans (hb1'.mono hb0.size)
  obtain ⟨p10, p11, p12, p13, p14, p15⟩ := o1.five
  have hl1 := o1.lt
  clear hb1'
  cases qb with
  | false =>
    go_wp2
    go_ret
    exact ⟨ret_bool (by rw [HS.out] <;> rfl), hb1⟩
  | true =>
    cases qm with
    | false =>
      go_wp2
      go_ret
      exact ⟨ret_bool (by rw [HS.out] <;> rfl), hb1⟩
    | true =>
      go_wp2_with fail
      refine (CA _ hb1).mono ?_
      rintro en w2 ⟨rfl, hb2'⟩
      have o2 := o1.below hb2'
      have hb2 := hb1.trans (hb2'.mono hb1.size)
      obtain ⟨p20, p21, p22, p23, p24, p25⟩ := o2.five
      have hl2 := o2.lt
      clear hb2'
      go_wp2
      go_ret
      exact ⟨ret_bool (by rw [HS.out] <;> rfl), hb2⟩
theorem ex52 (t : Tree) (hw : wideTr t) (H : KidsAs t) (hK : t.kind = 52) : ExAs t := by
  intro w k a b n v hN
  obtain ⟨ao, m, cap, rfl, hF⟩ := Fl.of hN hw
  have HF : Hid (Fl w t k a b n ao m cap) := hF
  have hk := hF.kind
  have hm1 := hF.2.2.2.1
  have hm2 := hF.2.2.2.2
  have o0 := Own.new w #[.int .u8 k, .int .i64 a, .string b, .int .u64 n, .slice ao m cap] 25
  have hb0 : Below w.heap.size w (w.alloc (.cells #[.int .u8 k, .int .i64 a, .string b, .int .u64 n, .slice ao m cap] 25)) := (Below.refl _ _).alloc (Nat.le_refl _) _
  obtain ⟨qb, hqb⟩ : ∃ q, bareB t.text n = q := ⟨_, rfl⟩
  have CB : ∀ W : World, Calls Tryz.prog 26 #[.agg #[.int .u8 k, .int .i64 a, .string b, .int .u64 n, .slice ao m cap]] W fun en w' => en = .returned (.bool qb) ∧ Below W.heap.size W w' := fun W => by have := zbare_as W k a n b (.slice ao m cap) rfl t.text HF.out.txt; rw [hqb] at this; exact this
  obtain ⟨qa, hqa⟩ : ∃ q, t.kids.all (vR 2) = q := ⟨_, rfl⟩
  have CA : ∀ W : World, Below w.heap.size w W → Calls Tryz.prog 29 #[.slice ao m cap, .int .i64 2] W fun en w' => en = .returned (.bool qa) ∧ Below W.heap.size W w' := fun W hW => zall_as 2 t.kids (H 2 (by omega) (by omega)) W _ (by have := HF.out.kids; rw [HF.out.len] at this; exact this.below hW) qa hqa
  have hn9 : (t.n : Int) = n := HF.out.num.symm
  have hk9 : (t.kind : Int) = 52 := by omega
  have hk2 : k = 52 := by omega
  obtain ⟨qm, hqm⟩ : ∃ q, decide (t.kids.length = 1) = q := ⟨_, rfl⟩
  have hm9 : ((m : Int) == 1) = qm := by rw [← hqm, HF.out.len, Bool.eq_iff_iff]; simp; try omega
  have HS : Hid (vR 2 t = (qb && (qm && qa))) := by unfold Hid; rw [← hqb, ← hqm, ← hqa]; exact ePart t 1 _ (by rw [hk9]; rfl) (by rw [hk9]; rfl) (by rw [hk9, hn9]; simp [textI, numI, bareB]) (fun j => by rw [hk9]; simp [asksI, eitherI])
  subst hk2
  clear hF hN hk hk9 hn9 hqb hK hqa hqm
  go_enter Tryz.func27, Tryz.ntmps27
  go_wp2_with fail
  refine (CB _).mono ?_
  rintro en w1 ⟨rfl, hb1'⟩
  have o1 := o0.below hb1'
  have hb1 := hb0.trans (hb1'.mono hb0.size)
  obtain ⟨p10, p11, p12, p13, p14, p15⟩ := o1.five
  have hl1 := o1.lt
  clear hb1'
  cases qb with
  | false =>
    go_wp2
    go_ret
    exact ⟨ret_bool (by rw [HS.out] <;> rfl), hb1⟩
  | true =>
    cases qm with
    | false =>
      go_wp2
      go_ret
      exact ⟨ret_bool (by rw [HS.out] <;> rfl), hb1⟩
    | true =>
      go_wp2_with fail
      refine (CA _ hb1).mono ?_
      rintro en w2 ⟨rfl, hb2'⟩
      have o2 := o1.below hb2'
      have hb2 := hb1.trans (hb2'.mono hb1.size)
      obtain ⟨p20, p21, p22, p23, p24, p25⟩ := o2.five
      have hl2 := o2.lt
      clear hb2'
      go_wp2
      go_ret
      exact ⟨ret_bool (by rw [HS.out] <;> rfl), hb2⟩
theorem ex53 (t : Tree) (hw : wideTr t) (H : KidsAs t) (hK : t.kind = 53) : ExAs t := by
  intro w k a b n v hN
  obtain ⟨ao, m, cap, rfl, hF⟩ := Fl.of hN hw
  have HF : Hid (Fl w t k a b n ao m cap) := hF
  have hk := hF.kind
  have hm1 := hF.2.2.2.1
  have hm2 := hF.2.2.2.2
  have o0 := Own.new w #[.int .u8 k, .int .i64 a, .string b, .int .u64 n, .slice ao m cap] 25
  have hb0 : Below w.heap.size w (w.alloc (.cells #[.int .u8 k, .int .i64 a, .string b, .int .u64 n, .slice ao m cap] 25)) := (Below.refl _ _).alloc (Nat.le_refl _) _
  obtain ⟨qb, hqb⟩ : ∃ q, bareB t.text n = q := ⟨_, rfl⟩
  have CB : ∀ W : World, Calls Tryz.prog 26 #[.agg #[.int .u8 k, .int .i64 a, .string b, .int .u64 n, .slice ao m cap]] W fun en w' => en = .returned (.bool qb) ∧ Below W.heap.size W w' := fun W => by have := zbare_as W k a n b (.slice ao m cap) rfl t.text HF.out.txt; rw [hqb] at this; exact this
  obtain ⟨qa, hqa⟩ : ∃ q, t.kids.all (vR 2) = q := ⟨_, rfl⟩
  have CA : ∀ W : World, Below w.heap.size w W → Calls Tryz.prog 29 #[.slice ao m cap, .int .i64 2] W fun en w' => en = .returned (.bool qa) ∧ Below W.heap.size W w' := fun W hW => zall_as 2 t.kids (H 2 (by omega) (by omega)) W _ (by have := HF.out.kids; rw [HF.out.len] at this; exact this.below hW) qa hqa
  have hn9 : (t.n : Int) = n := HF.out.num.symm
  have hk9 : (t.kind : Int) = 53 := by omega
  have hk2 : k = 53 := by omega
  obtain ⟨qm, hqm⟩ : ∃ q, decide (t.kids.length = 1) = q := ⟨_, rfl⟩
  have hm9 : ((m : Int) == 1) = qm := by rw [← hqm, HF.out.len, Bool.eq_iff_iff]; simp; try omega
  have HS : Hid (vR 2 t = (qb && (qm && qa))) := by unfold Hid; rw [← hqb, ← hqm, ← hqa]; exact ePart t 1 _ (by rw [hk9]; rfl) (by rw [hk9]; rfl) (by rw [hk9, hn9]; simp [textI, numI, bareB]) (fun j => by rw [hk9]; simp [asksI, eitherI])
  subst hk2
  clear hF hN hk hk9 hn9 hqb hK hqa hqm
  go_enter Tryz.func27, Tryz.ntmps27
  go_wp2_with fail
  refine (CB _).mono ?_
  rintro en w1 ⟨rfl, hb1'⟩
  have o1 := o0.below hb1'
  have hb1 := hb0.trans (hb1'.mono hb0.size)
  obtain ⟨p10, p11, p12, p13, p14, p15⟩ := o1.five
  have hl1 := o1.lt
  clear hb1'
  cases qb with
  | false =>
    go_wp2
    go_ret
    exact ⟨ret_bool (by rw [HS.out] <;> rfl), hb1⟩
  | true =>
    cases qm with
    | false =>
      go_wp2
      go_ret
      exact ⟨ret_bool (by rw [HS.out] <;> rfl), hb1⟩
    | true =>
      go_wp2_with fail
      refine (CA _ hb1).mono ?_
      rintro en w2 ⟨rfl, hb2'⟩
      have o2 := o1.below hb2'
      have hb2 := hb1.trans (hb2'.mono hb1.size)
      obtain ⟨p20, p21, p22, p23, p24, p25⟩ := o2.five
      have hl2 := o2.lt
      clear hb2'
      go_wp2
      go_ret
      exact ⟨ret_bool (by rw [HS.out] <;> rfl), hb2⟩
theorem ex55 (t : Tree) (hw : wideTr t) (H : KidsAs t) (hK : t.kind = 55) : ExAs t := by
  intro w k a b n v hN
  obtain ⟨ao, m, cap, rfl, hF⟩ := Fl.of hN hw
  have HF : Hid (Fl w t k a b n ao m cap) := hF
  have hk := hF.kind
  have hm1 := hF.2.2.2.1
  have hm2 := hF.2.2.2.2
  have o0 := Own.new w #[.int .u8 k, .int .i64 a, .string b, .int .u64 n, .slice ao m cap] 25
  have hb0 : Below w.heap.size w (w.alloc (.cells #[.int .u8 k, .int .i64 a, .string b, .int .u64 n, .slice ao m cap] 25)) := (Below.refl _ _).alloc (Nat.le_refl _) _
  obtain ⟨qb, hqb⟩ : ∃ q, bareB t.text n = q := ⟨_, rfl⟩
  have CB : ∀ W : World, Calls Tryz.prog 26 #[.agg #[.int .u8 k, .int .i64 a, .string b, .int .u64 n, .slice ao m cap]] W fun en w' => en = .returned (.bool qb) ∧ Below W.heap.size W w' := fun W => by have := zbare_as W k a n b (.slice ao m cap) rfl t.text HF.out.txt; rw [hqb] at this; exact this
  obtain ⟨qa, hqa⟩ : ∃ q, t.kids.all (vR 2) = q := ⟨_, rfl⟩
  have CA : ∀ W : World, Below w.heap.size w W → Calls Tryz.prog 29 #[.slice ao m cap, .int .i64 2] W fun en w' => en = .returned (.bool qa) ∧ Below W.heap.size W w' := fun W hW => zall_as 2 t.kids (H 2 (by omega) (by omega)) W _ (by have := HF.out.kids; rw [HF.out.len] at this; exact this.below hW) qa hqa
  have hn9 : (t.n : Int) = n := HF.out.num.symm
  have hk9 : (t.kind : Int) = 55 := by omega
  have hk2 : k = 55 := by omega
  obtain ⟨qm, hqm⟩ : ∃ q, decide (t.kids.length = 1) = q := ⟨_, rfl⟩
  have hm9 : ((m : Int) == 1) = qm := by rw [← hqm, HF.out.len, Bool.eq_iff_iff]; simp; try omega
  have HS : Hid (vR 2 t = (qb && (qm && qa))) := by unfold Hid; rw [← hqb, ← hqm, ← hqa]; exact ePart t 1 _ (by rw [hk9]; rfl) (by rw [hk9]; rfl) (by rw [hk9, hn9]; simp [textI, numI, bareB]) (fun j => by rw [hk9]; simp [asksI, eitherI])
  subst hk2
  clear hF hN hk hk9 hn9 hqb hK hqa hqm
  go_enter Tryz.func27, Tryz.ntmps27
  go_wp2_with fail
  refine (CB _).mono ?_
  rintro en w1 ⟨rfl, hb1'⟩
  have o1 := o0.below hb1'
  have hb1 := hb0.trans (hb1'.mono hb0.size)
  obtain ⟨p10, p11, p12, p13, p14, p15⟩ := o1.five
  have hl1 := o1.lt
  clear hb1'
  cases qb with
  | false =>
    go_wp2
    go_ret
    exact ⟨ret_bool (by rw [HS.out] <;> rfl), hb1⟩
  | true =>
    cases qm with
    | false =>
      go_wp2
      go_ret
      exact ⟨ret_bool (by rw [HS.out] <;> rfl), hb1⟩
    | true =>
      go_wp2_with fail
      refine (CA _ hb1).mono ?_
      rintro en w2 ⟨rfl, hb2'⟩
      have o2 := o1.below hb2'
      have hb2 := hb1.trans (hb2'.mono hb1.size)
      obtain ⟨p20, p21, p22, p23, p24, p25⟩ := o2.five
      have hl2 := o2.lt
      clear hb2'
      go_wp2
      go_ret
      exact ⟨ret_bool (by rw [HS.out] <;> rfl), hb2⟩
theorem ex56 (t : Tree) (hw : wideTr t) (H : KidsAs t) (hK : t.kind = 56) : ExAs t := by
  intro w k a b n v hN
  obtain ⟨ao, m, cap, rfl, hF⟩ := Fl.of hN hw
  have HF : Hid (Fl w t k a b n ao m cap) := hF
  have hk := hF.kind
  have hm1 := hF.2.2.2.1
  have hm2 := hF.2.2.2.2
  have o0 := Own.new w #[.int .u8 k, .int .i64 a, .string b, .int .u64 n, .slice ao m cap] 25
  have hb0 : Below w.heap.size w (w.alloc (.cells #[.int .u8 k, .int .i64 a, .string b, .int .u64 n, .slice ao m cap] 25)) := (Below.refl _ _).alloc (Nat.le_refl _) _
  obtain ⟨qb, hqb⟩ : ∃ q, bareB t.text n = q := ⟨_, rfl⟩
  have CB : ∀ W : World, Calls Tryz.prog 26 #[.agg #[.int .u8 k, .int .i64 a, .string b, .int .u64 n, .slice ao m cap]] W fun en w' => en = .returned (.bool qb) ∧ Below W.heap.size W w' := fun W => by have := zbare_as W k a n b (.slice ao m cap) rfl t.text HF.out.txt; rw [hqb] at this; exact this
  obtain ⟨qa, hqa⟩ : ∃ q, t.kids.all (vR 2) = q := ⟨_, rfl⟩
  have CA : ∀ W : World, Below w.heap.size w W → Calls Tryz.prog 29 #[.slice ao m cap, .int .i64 2] W fun en w' => en = .returned (.bool qa) ∧ Below W.heap.size W w' := fun W hW => zall_as 2 t.kids (H 2 (by omega) (by omega)) W _ (by have := HF.out.kids; rw [HF.out.len] at this; exact this.below hW) qa hqa
  have hn9 : (t.n : Int) = n := HF.out.num.symm
  have hk9 : (t.kind : Int) = 56 := by omega
  have hk2 : k = 56 := by omega
  obtain ⟨qm, hqm⟩ : ∃ q, decide (t.kids.length = 1) = q := ⟨_, rfl⟩
  have hm9 : ((m : Int) == 1) = qm := by rw [← hqm, HF.out.len, Bool.eq_iff_iff]; simp; try omega
  have HS : Hid (vR 2 t = (qb && (qm && qa))) := by unfold Hid; rw [← hqb, ← hqm, ← hqa]; exact ePart t 1 _ (by rw [hk9]; rfl) (by rw [hk9]; rfl) (by rw [hk9, hn9]; simp [textI, numI, bareB]) (fun j => by rw [hk9]; simp [asksI, eitherI])
  subst hk2
  clear hF hN hk hk9 hn9 hqb hK hqa hqm
  go_enter Tryz.func27, Tryz.ntmps27
  go_wp2_with fail
  refine (CB _).mono ?_
  rintro en w1 ⟨rfl, hb1'⟩
  have o1 := o0.below hb1'
  have hb1 := hb0.trans (hb1'.mono hb0.size)
  obtain ⟨p10, p11, p12, p13, p14, p15⟩ := o1.five
  have hl1 := o1.lt
  clear hb1'
  cases qb with
  | false =>
    go_wp2
    go_ret
    exact ⟨ret_bool (by rw [HS.out] <;> rfl), hb1⟩
  | true =>
    cases qm with
    | false =>
      go_wp2
      go_ret
      exact ⟨ret_bool (by rw [HS.out] <;> rfl), hb1⟩
    | true =>
      go_wp2_with fail
      refine (CA _ hb1).mono ?_
      rintro en w2 ⟨rfl, hb2'⟩
      have o2 := o1.below hb2'
      have hb2 := hb1.trans (hb2'.mono hb1.size)
      obtain ⟨p20, p21, p22, p23, p24, p25⟩ := o2.five
      have hl2 := o2.lt
      clear hb2'
      go_wp2
      go_ret
      exact ⟨ret_bool (by rw [HS.out] <;> rfl), hb2⟩
theorem ex57 (t : Tree) (hw : wideTr t) (H : KidsAs t) (hK : t.kind = 57) : ExAs t := by
  intro w k a b n v hN
  obtain ⟨ao, m, cap, rfl, hF⟩ := Fl.of hN hw
  have HF : Hid (Fl w t k a b n ao m cap) := hF
  have hk := hF.kind
  have hm1 := hF.2.2.2.1
  have hm2 := hF.2.2.2.2
  have o0 := Own.new w #[.int .u8 k, .int .i64 a, .string b, .int .u64 n, .slice ao m cap] 25
  have hb0 : Below w.heap.size w (w.alloc (.cells #[.int .u8 k, .int .i64 a, .string b, .int .u64 n, .slice ao m cap] 25)) := (Below.refl _ _).alloc (Nat.le_refl _) _
  obtain ⟨qb, hqb⟩ : ∃ q, bareB t.text n = q := ⟨_, rfl⟩
  have CB : ∀ W : World, Calls Tryz.prog 26 #[.agg #[.int .u8 k, .int .i64 a, .string b, .int .u64 n, .slice ao m cap]] W fun en w' => en = .returned (.bool qb) ∧ Below W.heap.size W w' := fun W => by have := zbare_as W k a n b (.slice ao m cap) rfl t.text HF.out.txt; rw [hqb] at this; exact this
  obtain ⟨qa, hqa⟩ : ∃ q, t.kids.all (vR 2) = q := ⟨_, rfl⟩
  have CA : ∀ W : World, Below w.heap.size w W → Calls Tryz.prog 29 #[.slice ao m cap, .int .i64 2] W fun en w' => en = .returned (.bool qa) ∧ Below W.heap.size W w' := fun W hW => zall_as 2 t.kids (H 2 (by omega) (by omega)) W _ (by have := HF.out.kids; rw [HF.out.len] at this; exact this.below hW) qa hqa
  have hn9 : (t.n : Int) = n := HF.out.num.symm
  have hk9 : (t.kind : Int) = 57 := by omega
  have hk2 : k = 57 := by omega
  obtain ⟨qm, hqm⟩ : ∃ q, decide (t.kids.length = 1) = q := ⟨_, rfl⟩
  have hm9 : ((m : Int) == 1) = qm := by rw [← hqm, HF.out.len, Bool.eq_iff_iff]; simp; try omega
  have HS : Hid (vR 2 t = (qb && (qm && qa))) := by unfold Hid; rw [← hqb, ← hqm, ← hqa]; exact ePart t 1 _ (by rw [hk9]; rfl) (by rw [hk9]; rfl) (by rw [hk9, hn9]; simp [textI, numI, bareB]) (fun j => by rw [hk9]; simp [asksI, eitherI])
  subst hk2
  clear hF hN hk hk9 hn9 hqb hK hqa hqm
  go_enter Tryz.func27, Tryz.ntmps27
  go_wp2_with fail
  refine (CB _).mono ?_
  rintro en w1 ⟨rfl, hb1'⟩
  have o1 := o0.below hb1'
  have hb1 := hb0.trans (hb1'.mono hb0.size)
  obtain ⟨p10, p11, p12, p13, p14, p15⟩ := o1.five
  have hl1 := o1.lt
  clear hb1'
  cases qb with
  | false =>
    go_wp2
    go_ret
    exact ⟨ret_bool (by rw [HS.out] <;> rfl), hb1⟩
  | true =>
    cases qm with
    | false =>
      go_wp2
      go_ret
      exact ⟨ret_bool (by rw [HS.out] <;> rfl), hb1⟩
    | true =>
      go_wp2_with fail
      refine (CA _ hb1).mono ?_
      rintro en w2 ⟨rfl, hb2'⟩
      have o2 := o1.below hb2'
      have hb2 := hb1.trans (hb2'.mono hb1.size)
      obtain ⟨p20, p21, p22, p23, p24, p25⟩ := o2.five
      have hl2 := o2.lt
      clear hb2'
      go_wp2
      go_ret
      exact ⟨ret_bool (by rw [HS.out] <;> rfl), hb2⟩
theorem ex51 (t : Tree) (hw : wideTr t) (H : KidsAs t) (hK : t.kind = 51) : ExAs t := by
  intro w k a b n v hN
  obtain ⟨ao, m, cap, rfl, hF⟩ := Fl.of hN hw
  have HF : Hid (Fl w t k a b n ao m cap) := hF
  have hk := hF.kind
  have hm1 := hF.2.2.2.1
  have hm2 := hF.2.2.2.2
  have o0 := Own.new w #[.int .u8 k, .int .i64 a, .string b, .int .u64 n, .slice ao m cap] 25
  have hb0 : Below w.heap.size w (w.alloc (.cells #[.int .u8 k, .int .i64 a, .string b, .int .u64 n, .slice ao m cap] 25)) := (Below.refl _ _).alloc (Nat.le_refl _) _
  obtain ⟨qb, hqb⟩ : ∃ q, bareB t.text n = q := ⟨_, rfl⟩
  have CB : ∀ W : World, Calls Tryz.prog 26 #[.agg #[.int .u8 k, .int .i64 a, .string b, .int .u64 n, .slice ao m cap]] W fun en w' => en = .returned (.bool qb) ∧ Below W.heap.size W w' := fun W => by have := zbare_as W k a n b (.slice ao m cap) rfl t.text HF.out.txt; rw [hqb] at this; exact this
  obtain ⟨qa, hqa⟩ : ∃ q, t.kids.all (vR 2) = q := ⟨_, rfl⟩
  have CA : ∀ W : World, Below w.heap.size w W → Calls Tryz.prog 29 #[.slice ao m cap, .int .i64 2] W fun en w' => en = .returned (.bool qa) ∧ Below W.heap.size W w' := fun W hW => zall_as 2 t.kids (H 2 (by omega) (by omega)) W _ (by have := HF.out.kids; rw [HF.out.len] at this; exact this.below hW) qa hqa
  have hn9 : (t.n : Int) = n := HF.out.num.symm
  have hk9 : (t.kind : Int) = 51 := by omega
  have hk2 : k = 51 := by omega
  obtain ⟨qm, hqm⟩ : ∃ q, decide (t.kids.length = 3) = q := ⟨_, rfl⟩
  have hm9 : ((m : Int) == 3) = qm := by rw [← hqm, HF.out.len, Bool.eq_iff_iff]; simp; try omega
  have HS : Hid (vR 2 t = (qb && (qm && qa))) := by unfold Hid; rw [← hqb, ← hqm, ← hqa]; exact ePart t 3 _ (by rw [hk9]; rfl) (by rw [hk9]; rfl) (by rw [hk9, hn9]; simp [textI, numI, bareB]) (fun j => by rw [hk9]; simp [asksI, eitherI])
  subst hk2
  clear hF hN hk hk9 hn9 hqb hK hqa hqm
  go_enter Tryz.func27, Tryz.ntmps27
  go_wp2_with fail
  refine (CB _).mono ?_
  rintro en w1 ⟨rfl, hb1'⟩
  have o1 := o0.below hb1'
  have hb1 := hb0.trans (hb1'.mono hb0.size)
  obtain ⟨p10, p11, p12, p13, p14, p15⟩ := o1.five
  have hl1 := o1.lt
  clear hb1'
  cases qb with
  | false =>
    go_wp2
    go_ret
    exact ⟨ret_bool (by rw [HS.out] <;> rfl), hb1⟩
  | true =>
    cases qm with
    | false =>
      go_wp2
      go_ret
      exact ⟨ret_bool (by rw [HS.out] <;> rfl), hb1⟩
    | true =>
      go_wp2_with fail
      refine (CA _ hb1).mono ?_
      rintro en w2 ⟨rfl, hb2'⟩
      have o2 := o1.below hb2'
      have hb2 := hb1.trans (hb2'.mono hb1.size)
      obtain ⟨p20, p21, p22, p23, p24, p25⟩ := o2.five
      have hl2 := o2.lt
      clear hb2'
      go_wp2
      go_ret
      exact ⟨ret_bool (by rw [HS.out] <;> rfl), hb2⟩
theorem exR (t : Tree) (hw : wideTr t) (H : KidsAs t) (hK : 60 ≤ t.kind ∧ t.kind ≤ 77) : ExAs t := by
  intro w k a b n v hN
  obtain ⟨ao, m, cap, rfl, hF⟩ := Fl.of hN hw
  have HF : Hid (Fl w t k a b n ao m cap) := hF
  have hk := hF.kind
  have hm1 := hF.2.2.2.1
  have hm2 := hF.2.2.2.2
  have o0 := Own.new w #[.int .u8 k, .int .i64 a, .string b, .int .u64 n, .slice ao m cap] 25
  have hb0 : Below w.heap.size w (w.alloc (.cells #[.int .u8 k, .int .i64 a, .string b, .int .u64 n, .slice ao m cap] 25)) := (Below.refl _ _).alloc (Nat.le_refl _) _
  obtain ⟨qb, hqb⟩ : ∃ q, bareB t.text n = q := ⟨_, rfl⟩
  have CB : ∀ W : World, Calls Tryz.prog 26 #[.agg #[.int .u8 k, .int .i64 a, .string b, .int .u64 n, .slice ao m cap]] W fun en w' => en = .returned (.bool qb) ∧ Below W.heap.size W w' := fun W => by have := zbare_as W k a n b (.slice ao m cap) rfl t.text HF.out.txt; rw [hqb] at this; exact this
  obtain ⟨qa, hqa⟩ : ∃ q, t.kids.all (vR 2) = q := ⟨_, rfl⟩
  have CA : ∀ W : World, Below w.heap.size w W → Calls Tryz.prog 29 #[.slice ao m cap, .int .i64 2] W fun en w' => en = .returned (.bool qa) ∧ Below W.heap.size W w' := fun W hW => zall_as 2 t.kids (H 2 (by omega) (by omega)) W _ (by have := HF.out.kids; rw [HF.out.len] at this; exact this.below hW) qa hqa
  have hn9 : (t.n : Int) = n := HF.out.num.symm
  have hk9 : (t.kind : Int) = k := by omega
  have hr1 : (60 : Int) ≤ k := by omega
  have hr2 : k ≤ 77 := by omega
  obtain ⟨qm, hqm⟩ : ∃ q, decide (t.kids.length = 2) = q := ⟨_, rfl⟩
  have hm9 : ((m : Int) == 2) = qm := by rw [← hqm, HF.out.len, Bool.eq_iff_iff]; simp; try omega
  have HS : Hid (vR 2 t = (qb && (qm && qa))) := by unfold Hid; rw [← hqb, ← hqm, ← hqa]; exact ePart t 2 _ (by rw [hk9]; exact takesR k hr1 hr2) (by rw [hk9]; exact kidsR2 k hr1 hr2) (by rw [hk9, hn9]; exact sideR k t.text n hr1 hr2) (fun j => by rw [hk9]; exact asksR k _ _ hr1 hr2)
  have z40 : (k == 40) = false := by simp; omega
  have z41 : (k == 41) = false := by simp; omega
  have z42 : (k == 42) = false := by simp; omega
  have z43 : (k == 43) = false := by simp; omega
  have z44 : (k == 44) = false := by simp; omega
  have z45 : (k == 45) = false := by simp; omega
  have z46 : (k == 46) = false := by simp; omega
  have z47 : (k == 47) = false := by simp; omega
  have z48 : (k == 48) = false := by simp; omega
  have z49 : (k == 49) = false := by simp; omega
  have z50 : (k == 50) = false := by simp; omega
  have z51 : (k == 51) = false := by simp; omega
  have z52 : (k == 52) = false := by simp; omega
  have z53 : (k == 53) = false := by simp; omega
  have z55 : (k == 55) = false := by simp; omega
  have z56 : (k == 56) = false := by simp; omega
  have z57 : (k == 57) = false := by simp; omega
  clear hF hN hk hk9 hn9 hqb hK hqa hqm
  go_enter Tryz.func27, Tryz.ntmps27
  go_wp2_with fail
  refine (CB _).mono ?_
  rintro en w1 ⟨rfl, hb1'⟩
  have o1 := o0.below hb1'
  have hb1 := hb0.trans (hb1'.mono hb0.size)
  obtain ⟨p10, p11, p12, p13, p14, p15⟩ := o1.five
  have hl1 := o1.lt
  clear hb1'
  cases qb with
  | false =>
    go_wp2
    go_ret
    exact ⟨ret_bool (by rw [HS.out] <;> rfl), hb1⟩
  | true =>
    cases qm with
    | false =>
      go_wp2
      go_ret
      exact ⟨ret_bool (by rw [HS.out] <;> rfl), hb1⟩
    | true =>
      go_wp2_with fail
      refine (CA _ hb1).mono ?_
      rintro en w2 ⟨rfl, hb2'⟩
      have o2 := o1.below hb2'
      have hb2 := hb1.trans (hb2'.mono hb1.size)
      obtain ⟨p20, p21, p22, p23, p24, p25⟩ := o2.five
      have hl2 := o2.lt
      clear hb2'
      go_wp2
      go_ret
      exact ⟨ret_bool (by rw [HS.out] <;> rfl), hb2⟩
end Go.Proofs.YtmhnbklchnnbaaaGreatDoor
set_option maxHeartbeats 4000000
set_option maxRecDepth 100000
namespace Go.Proofs.YtmhnbklchnnbaaaGreatDoor
open Go.RowKit
set_option linter.unusedVariables false
set_option linter.unusedSimpArgs false
theorem ex46a (w : World) (t : Tree) (a : Int) (b : ByteArray) (n : Int) (ao : Option Addr) (m : Nat) (cap : Nat) (HF : Hid (Fl w t 46 a b n ao m cap)) (hn : (n == 0) = false) : Calls Tryz.prog 27 #[.agg #[.int .u8 46, .int .i64 a, .string b, .int .u64 n, .slice ao m cap]] w fun en w' => en = .returned (.bool (false)) ∧ Below w.heap.size w w' := by
  have o0 := Own.new w #[.int .u8 46, .int .i64 a, .string b, .int .u64 n, .slice ao m cap] 25
  have hb0 : Below w.heap.size w (w.alloc (.cells #[.int .u8 46, .int .i64 a, .string b, .int .u64 n, .slice ao m cap] 25)) := (Below.refl _ _).alloc (Nat.le_refl _) _
  obtain ⟨p00, p01, p02, p03, p04, p05⟩ := o0.five
  go_enter Tryz.func27, Tryz.ntmps27
  go_wp2_with fail
  have hl0d := o0.lt
  refine wp_region_held_drew (S := (fun w' => w'.cell? ⟨w.heap.size, 0, none⟩ = some (.int .u8 46) ∧ w'.cell? ⟨w.heap.size, 1, none⟩ = some (.int .i64 a) ∧ w'.cell? ⟨w.heap.size, 2, none⟩ = some (.string b) ∧ w'.cell? ⟨w.heap.size, 3, none⟩ = some (.int .u64 n) ∧ w'.cell? ⟨w.heap.size, 4, none⟩ = some (.slice ao m cap))) (by kernel_rfl) (by exact ⟨p00, p01, p02, p03, p04⟩) (fun hHeld => ?_)
  refine wpAnyH_take (i := 0) (v := ?va0) rfl (by kernel_rfl) (by kernel_rfl) (by kernel_rfl) (fun _ _ _ h => h) (Or.inl ⟨by rfl, ?hya0⟩) (by assumption) ?resta0
  case hya0 => (intro wS hSw; (try dsimp only at hSw); go_simp; try with_reducible rfl)
  try simp only [Act.put, List.getElem_toArray, List.getElem_cons_zero, List.getElem_cons_succ, List.setIfInBounds_toArray, List.set_cons_zero, List.set_cons_succ]
  refine wpAnyH_take (i := 1) (v := ?va1) rfl (by kernel_rfl) (by kernel_rfl) (by kernel_rfl) (fun _ _ _ h => h) (Or.inl ⟨by rfl, ?hya1⟩) (by assumption) ?resta1
  case hya1 => (intro wS hSw; (try dsimp only at hSw); go_simp; try with_reducible rfl)
  try simp only [Act.put, List.getElem_toArray, List.getElem_cons_zero, List.getElem_cons_succ, List.setIfInBounds_toArray, List.set_cons_zero, List.set_cons_succ]
  refine wpAnyH_take (i := 2) (v := ?va2) rfl (by kernel_rfl) (by kernel_rfl) (by kernel_rfl) (fun _ _ _ h => h) (Or.inl ⟨by rfl, ?hya2⟩) (by assumption) ?resta2
  case hya2 => (intro wS hSw; (try dsimp only at hSw); go_simp; try with_reducible rfl)
  try simp only [Act.put, List.getElem_toArray, List.getElem_cons_zero, List.getElem_cons_succ, List.setIfInBounds_toArray, List.set_cons_zero, List.set_cons_succ]
  refine wpAnyH_take (i := 3) (v := ?va3) rfl (by kernel_rfl) (by kernel_rfl) (by kernel_rfl) (fun _ _ _ h => h) (Or.inl ⟨by rfl, ?hya3⟩) (by assumption) ?resta3
  case hya3 => (intro wS hSw; (try dsimp only at hSw); go_simp; try with_reducible rfl)
  try simp only [Act.put, List.getElem_toArray, List.getElem_cons_zero, List.getElem_cons_succ, List.setIfInBounds_toArray, List.set_cons_zero, List.set_cons_succ]
  refine wpAnyH_take (i := 4) (v := undef) rfl (by kernel_rfl) (by kernel_rfl) (by kernel_rfl) (fun _ _ _ h => h) (Or.inr ⟨by rfl, rfl⟩) (by assumption) ?resta4
  try simp only [Act.put, List.getElem_toArray, List.getElem_cons_zero, List.getElem_cons_succ, List.setIfInBounds_toArray, List.set_cons_zero, List.set_cons_succ]
  refine wpAnyH_take (i := 5) (v := undef) rfl (by kernel_rfl) (by kernel_rfl) (by kernel_rfl) (fun _ _ _ h => h) (Or.inr ⟨by rfl, rfl⟩) (by assumption) ?resta5
  try simp only [Act.put, List.getElem_toArray, List.getElem_cons_zero, List.getElem_cons_succ, List.setIfInBounds_toArray, List.set_cons_zero, List.set_cons_succ]
  refine wpAnyH_take (i := 6) (v := undef) rfl (by kernel_rfl) (by kernel_rfl) (by kernel_rfl) (fun _ _ _ h => h) (Or.inr ⟨by rfl, rfl⟩) (by assumption) ?resta6
  try simp only [Act.put, List.getElem_toArray, List.getElem_cons_zero, List.getElem_cons_succ, List.setIfInBounds_toArray, List.set_cons_zero, List.set_cons_succ]
  refine wpAnyH_take (i := 7) (v := undef) rfl (by kernel_rfl) (by kernel_rfl) (by kernel_rfl) (fun _ _ _ h => h) (Or.inr ⟨by rfl, rfl⟩) (by assumption) ?resta7
  try simp only [Act.put, List.getElem_toArray, List.getElem_cons_zero, List.getElem_cons_succ, List.setIfInBounds_toArray, List.set_cons_zero, List.set_cons_succ]
  refine wpAnyH_take (i := 8) (v := ?va8) rfl (by kernel_rfl) (by kernel_rfl) (by kernel_rfl) (fun _ _ _ h => h) (Or.inl ⟨by rfl, ?hya8⟩) (by assumption) ?resta8
  case hya8 => (intro wS hSw; (try dsimp only at hSw); go_simp; try with_reducible rfl)
  try simp only [Act.put, List.getElem_toArray, List.getElem_cons_zero, List.getElem_cons_succ, List.setIfInBounds_toArray, List.set_cons_zero, List.set_cons_succ]
  refine wpAnyH_take (i := 9) (v := ?va9) rfl (by kernel_rfl) (by kernel_rfl) (by kernel_rfl) (fun _ _ _ h => h) (Or.inl ⟨by rfl, ?hya9⟩) (by assumption) ?resta9
  case hya9 => (intro wS hSw; (try dsimp only at hSw); go_simp; try with_reducible rfl)
  try simp only [Act.put, List.getElem_toArray, List.getElem_cons_zero, List.getElem_cons_succ, List.setIfInBounds_toArray, List.set_cons_zero, List.set_cons_succ]
  refine wpAnyH_take (i := 10) (v := undef) rfl (by kernel_rfl) (by kernel_rfl) (by kernel_rfl) (fun _ _ _ h => h) (Or.inr ⟨by rfl, rfl⟩) (by assumption) ?resta10
  try simp only [Act.put, List.getElem_toArray, List.getElem_cons_zero, List.getElem_cons_succ, List.setIfInBounds_toArray, List.set_cons_zero, List.set_cons_succ]
  refine wpAnyH_take (i := 11) (v := undef) rfl (by kernel_rfl) (by kernel_rfl) (by kernel_rfl) (fun _ _ _ h => h) (Or.inr ⟨by rfl, rfl⟩) (by assumption) ?resta11
  try simp only [Act.put, List.getElem_toArray, List.getElem_cons_zero, List.getElem_cons_succ, List.setIfInBounds_toArray, List.set_cons_zero, List.set_cons_succ]
  refine wpAnyH_take (i := 12) (v := ?va12) rfl (by kernel_rfl) (by kernel_rfl) (by kernel_rfl) (fun _ _ _ h => h) (Or.inl ⟨by rfl, ?hya12⟩) (by assumption) ?resta12
  case hya12 => (intro wS hSw; (try dsimp only at hSw); go_simp; try with_reducible rfl)
  try simp only [Act.put, List.getElem_toArray, List.getElem_cons_zero, List.getElem_cons_succ, List.setIfInBounds_toArray, List.set_cons_zero, List.set_cons_succ]
  refine wpAnyH_take (i := 13) (v := ?va13) rfl (by kernel_rfl) (by kernel_rfl) (by kernel_rfl) (fun _ _ _ h => h) (Or.inl ⟨by rfl, ?hya13⟩) (by assumption) ?resta13
  case hya13 => (intro wS hSw; (try dsimp only at hSw); go_simp; try with_reducible rfl)
  try simp only [Act.put, List.getElem_toArray, List.getElem_cons_zero, List.getElem_cons_succ, List.setIfInBounds_toArray, List.set_cons_zero, List.set_cons_succ]
  refine wpAnyH_take (i := 14) (v := undef) rfl (by kernel_rfl) (by kernel_rfl) (by kernel_rfl) (fun _ _ _ h => h) (Or.inr ⟨by rfl, rfl⟩) (by assumption) ?resta14
  try simp only [Act.put, List.getElem_toArray, List.getElem_cons_zero, List.getElem_cons_succ, List.setIfInBounds_toArray, List.set_cons_zero, List.set_cons_succ]
  refine wpAnyH_take (i := 15) (v := undef) rfl (by kernel_rfl) (by kernel_rfl) (by kernel_rfl) (fun _ _ _ h => h) (Or.inr ⟨by rfl, rfl⟩) (by assumption) ?resta15
  try simp only [Act.put, List.getElem_toArray, List.getElem_cons_zero, List.getElem_cons_succ, List.setIfInBounds_toArray, List.set_cons_zero, List.set_cons_succ]
  refine wpAnyH_take (i := 16) (v := undef) rfl (by kernel_rfl) (by kernel_rfl) (by kernel_rfl) (fun _ _ _ h => h) (Or.inr ⟨by rfl, rfl⟩) (by assumption) ?resta16
  try simp only [Act.put, List.getElem_toArray, List.getElem_cons_zero, List.getElem_cons_succ, List.setIfInBounds_toArray, List.set_cons_zero, List.set_cons_succ]
  refine wpAnyH_take (i := 17) (v := ?va17) rfl (by kernel_rfl) (by kernel_rfl) (by kernel_rfl) (fun _ _ _ h => h) (Or.inl ⟨by rfl, ?hya17⟩) (by assumption) ?resta17
  case hya17 => (intro wS hSw; (try dsimp only at hSw); go_simp; try with_reducible rfl)
  try simp only [Act.put, List.getElem_toArray, List.getElem_cons_zero, List.getElem_cons_succ, List.setIfInBounds_toArray, List.set_cons_zero, List.set_cons_succ]
  refine wpAnyH_take (i := 18) (v := ?va18) rfl (by kernel_rfl) (by kernel_rfl) (by kernel_rfl) (fun _ _ _ h => h) (Or.inl ⟨by rfl, ?hya18⟩) (by assumption) ?resta18
  case hya18 => (intro wS hSw; (try dsimp only at hSw); go_simp; try with_reducible rfl)
  try simp only [Act.put, List.getElem_toArray, List.getElem_cons_zero, List.getElem_cons_succ, List.setIfInBounds_toArray, List.set_cons_zero, List.set_cons_succ]
  refine wpAnyH_done (by kernel_rfl) ?_ _
  go_wp2
  go_ret
  exact ⟨rfl, bdrew hb0⟩
theorem ex46b (w : World) (t : Tree) (a : Int) (b : ByteArray) (n : Int) (ao : Option Addr) (m : Nat) (cap : Nat) (HF : Hid (Fl w t 46 a b n ao m cap)) (hn : (n == 0) = true) (hi : isIntL t.text = false) : Calls Tryz.prog 27 #[.agg #[.int .u8 46, .int .i64 a, .string b, .int .u64 n, .slice ao m cap]] w fun en w' => en = .returned (.bool (false)) ∧ Below w.heap.size w w' := by
  have o0 := Own.new w #[.int .u8 46, .int .i64 a, .string b, .int .u64 n, .slice ao m cap] 25
  have hb0 : Below w.heap.size w (w.alloc (.cells #[.int .u8 46, .int .i64 a, .string b, .int .u64 n, .slice ao m cap] 25)) := (Below.refl _ _).alloc (Nat.le_refl _) _
  obtain ⟨p00, p01, p02, p03, p04, p05⟩ := o0.five
  have CM := CAmong b intXs 3 rfl (by omega) false ((among_ints HF.out.txt).trans hi)
  clear hi
  go_enter Tryz.func27, Tryz.ntmps27
  go_wp2_with fail
  have hl0d := o0.lt
  refine wp_region_held_drew (S := (fun w' => w'.cell? ⟨w.heap.size, 0, none⟩ = some (.int .u8 46) ∧ w'.cell? ⟨w.heap.size, 1, none⟩ = some (.int .i64 a) ∧ w'.cell? ⟨w.heap.size, 2, none⟩ = some (.string b) ∧ w'.cell? ⟨w.heap.size, 3, none⟩ = some (.int .u64 n) ∧ w'.cell? ⟨w.heap.size, 4, none⟩ = some (.slice ao m cap))) (by kernel_rfl) (by exact ⟨p00, p01, p02, p03, p04⟩) (fun hHeld => ?_)
  refine wpAnyH_take (i := 0) (v := ?vb0) rfl (by kernel_rfl) (by kernel_rfl) (by kernel_rfl) (fun _ _ _ h => h) (Or.inl ⟨by rfl, ?hyb0⟩) (by assumption) ?restb0
  case hyb0 => (intro wS hSw; (try dsimp only at hSw); go_simp; try with_reducible rfl)
  try simp only [Act.put, List.getElem_toArray, List.getElem_cons_zero, List.getElem_cons_succ, List.setIfInBounds_toArray, List.set_cons_zero, List.set_cons_succ]
  refine wpAnyH_take (i := 1) (v := ?vb1) rfl (by kernel_rfl) (by kernel_rfl) (by kernel_rfl) (fun _ _ _ h => h) (Or.inl ⟨by rfl, ?hyb1⟩) (by assumption) ?restb1
  case hyb1 => (intro wS hSw; (try dsimp only at hSw); go_simp; try with_reducible rfl)
  try simp only [Act.put, List.getElem_toArray, List.getElem_cons_zero, List.getElem_cons_succ, List.setIfInBounds_toArray, List.set_cons_zero, List.set_cons_succ]
  refine wpAnyH_take (i := 2) (v := ?vb2) rfl (by kernel_rfl) (by kernel_rfl) (by kernel_rfl) (fun _ _ _ h => h) (Or.inl ⟨by rfl, ?hyb2⟩) (by assumption) ?restb2
  case hyb2 => (intro wS hSw; (try dsimp only at hSw); go_simp; try with_reducible rfl)
  try simp only [Act.put, List.getElem_toArray, List.getElem_cons_zero, List.getElem_cons_succ, List.setIfInBounds_toArray, List.set_cons_zero, List.set_cons_succ]
  refine wpAnyH_take (i := 3) (v := ?vb3) rfl (by kernel_rfl) (by kernel_rfl) (by kernel_rfl) (fun _ _ _ h => h) (Or.inl ⟨by rfl, ?hyb3⟩) (by assumption) ?restb3
  case hyb3 => (intro wS hSw; (try dsimp only at hSw); go_simp; try with_reducible rfl)
  try simp only [Act.put, List.getElem_toArray, List.getElem_cons_zero, List.getElem_cons_succ, List.setIfInBounds_toArray, List.set_cons_zero, List.set_cons_succ]
  refine wpAnyH_take (i := 4) (v := ?vb4) rfl (by kernel_rfl) (by kernel_rfl) (by kernel_rfl) (fun _ _ _ h => h) (Or.inl ⟨by rfl, ?hyb4⟩) (by assumption) ?restb4
  case hyb4 => (intro wS hSw; (try dsimp only at hSw); go_simp; try with_reducible rfl)
  try simp only [Act.put, List.getElem_toArray, List.getElem_cons_zero, List.getElem_cons_succ, List.setIfInBounds_toArray, List.set_cons_zero, List.set_cons_succ]
  refine wpAnyH_take (i := 5) (v := ?vb5) rfl (by kernel_rfl) (by kernel_rfl) (by kernel_rfl) (fun _ _ _ h => h) (Or.inl ⟨by rfl, ?hyb5⟩) (by assumption) ?restb5
  case hyb5 => (intro wS hSw; (try dsimp only at hSw); go_simp; try with_reducible rfl)
  try simp only [Act.put, List.getElem_toArray, List.getElem_cons_zero, List.getElem_cons_succ, List.setIfInBounds_toArray, List.set_cons_zero, List.set_cons_succ]
  refine wpAnyH_ready (rs := [6]) (by kernel_rfl) (by simp) ?_
  refine AllReadyH.cons rfl (fun KK hKK => ?_) AllReadyH.nil
  go_simp
  go_at_call 31
  refine (CInts _).mono ?_
  rintro en w1 ⟨gs, rfl, hs1, hb1'⟩
  have o1 := o0.drew.below hb1'
  have hb1 := (bdrew hb0).trans (hb1'.mono (by rw [World.size_drew]; exact hb0.size))
  obtain ⟨p10, p11, p12, p13, p14, p15⟩ := o1.five
  have hl1 := o1.lt
  try go_wp2_with fail
  refine hKK.out _ _ (by exact ⟨p10, p11, p12, p13, p14⟩) (fun hHeld1 => ?_)
  clear hKK KK
  try simp only [Act.put, List.getElem_toArray, List.getElem_cons_zero, List.getElem_cons_succ, List.setIfInBounds_toArray, List.set_cons_zero, List.set_cons_succ]
  refine wpAnyH_ready (rs := [7]) (by kernel_rfl) (by simp) ?_
  refine AllReadyH.cons rfl (fun KK hKK => ?_) AllReadyH.nil
  go_simp
  go_at_call 23
  refine (CM _ _ hs1).mono ?_
  rintro en w2 ⟨rfl, hb2'⟩
  have o2 := o1.below hb2'
  have hb2 := hb1.trans (hb2'.mono hb1.size)
  obtain ⟨p20, p21, p22, p23, p24, p25⟩ := o2.five
  have hl2 := o2.lt
  clear p10 p11 p12 p13 p14 p15
  try go_wp2_with fail
  refine hKK.out _ _ (by exact ⟨p20, p21, p22, p23, p24⟩) (fun hHeld2 => ?_)
  clear hKK KK
  try simp only [Act.put, List.getElem_toArray, List.getElem_cons_zero, List.getElem_cons_succ, List.setIfInBounds_toArray, List.set_cons_zero, List.set_cons_succ]
  refine wpAnyH_take (i := 8) (v := ?vb8) rfl (by kernel_rfl) (by kernel_rfl) (by kernel_rfl) (fun _ _ _ h => h) (Or.inl ⟨by rfl, ?hyb8⟩) (by assumption) ?restb8
  case hyb8 => (intro wS hSw; (try dsimp only at hSw); go_simp; try with_reducible rfl)
  try simp only [Act.put, List.getElem_toArray, List.getElem_cons_zero, List.getElem_cons_succ, List.setIfInBounds_toArray, List.set_cons_zero, List.set_cons_succ]
  refine wpAnyH_take (i := 9) (v := ?vb9) rfl (by kernel_rfl) (by kernel_rfl) (by kernel_rfl) (fun _ _ _ h => h) (Or.inl ⟨by rfl, ?hyb9⟩) (by assumption) ?restb9
  case hyb9 => (intro wS hSw; (try dsimp only at hSw); go_simp; try with_reducible rfl)
  try simp only [Act.put, List.getElem_toArray, List.getElem_cons_zero, List.getElem_cons_succ, List.setIfInBounds_toArray, List.set_cons_zero, List.set_cons_succ]
  refine wpAnyH_take (i := 10) (v := undef) rfl (by kernel_rfl) (by kernel_rfl) (by kernel_rfl) (fun _ _ _ h => h) (Or.inr ⟨by rfl, rfl⟩) (by assumption) ?restb10
  try simp only [Act.put, List.getElem_toArray, List.getElem_cons_zero, List.getElem_cons_succ, List.setIfInBounds_toArray, List.set_cons_zero, List.set_cons_succ]
  refine wpAnyH_take (i := 11) (v := undef) rfl (by kernel_rfl) (by kernel_rfl) (by kernel_rfl) (fun _ _ _ h => h) (Or.inr ⟨by rfl, rfl⟩) (by assumption) ?restb11
  try simp only [Act.put, List.getElem_toArray, List.getElem_cons_zero, List.getElem_cons_succ, List.setIfInBounds_toArray, List.set_cons_zero, List.set_cons_succ]
  refine wpAnyH_take (i := 12) (v := ?vb12) rfl (by kernel_rfl) (by kernel_rfl) (by kernel_rfl) (fun _ _ _ h => h) (Or.inl ⟨by rfl, ?hyb12⟩) (by assumption) ?restb12
  case hyb12 => (intro wS hSw; (try dsimp only at hSw); go_simp; try with_reducible rfl)
  try simp only [Act.put, List.getElem_toArray, List.getElem_cons_zero, List.getElem_cons_succ, List.setIfInBounds_toArray, List.set_cons_zero, List.set_cons_succ]
  refine wpAnyH_take (i := 13) (v := ?vb13) rfl (by kernel_rfl) (by kernel_rfl) (by kernel_rfl) (fun _ _ _ h => h) (Or.inl ⟨by rfl, ?hyb13⟩) (by assumption) ?restb13
  case hyb13 => (intro wS hSw; (try dsimp only at hSw); go_simp; try with_reducible rfl)
  try simp only [Act.put, List.getElem_toArray, List.getElem_cons_zero, List.getElem_cons_succ, List.setIfInBounds_toArray, List.set_cons_zero, List.set_cons_succ]
  refine wpAnyH_take (i := 14) (v := undef) rfl (by kernel_rfl) (by kernel_rfl) (by kernel_rfl) (fun _ _ _ h => h) (Or.inr ⟨by rfl, rfl⟩) (by assumption) ?restb14
  try simp only [Act.put, List.getElem_toArray, List.getElem_cons_zero, List.getElem_cons_succ, List.setIfInBounds_toArray, List.set_cons_zero, List.set_cons_succ]
  refine wpAnyH_take (i := 15) (v := undef) rfl (by kernel_rfl) (by kernel_rfl) (by kernel_rfl) (fun _ _ _ h => h) (Or.inr ⟨by rfl, rfl⟩) (by assumption) ?restb15
  try simp only [Act.put, List.getElem_toArray, List.getElem_cons_zero, List.getElem_cons_succ, List.setIfInBounds_toArray, List.set_cons_zero, List.set_cons_succ]
  refine wpAnyH_take (i := 16) (v := undef) rfl (by kernel_rfl) (by kernel_rfl) (by kernel_rfl) (fun _ _ _ h => h) (Or.inr ⟨by rfl, rfl⟩) (by assumption) ?restb16
  try simp only [Act.put, List.getElem_toArray, List.getElem_cons_zero, List.getElem_cons_succ, List.setIfInBounds_toArray, List.set_cons_zero, List.set_cons_succ]
  refine wpAnyH_take (i := 17) (v := ?vb17) rfl (by kernel_rfl) (by kernel_rfl) (by kernel_rfl) (fun _ _ _ h => h) (Or.inl ⟨by rfl, ?hyb17⟩) (by assumption) ?restb17
  case hyb17 => (intro wS hSw; (try dsimp only at hSw); go_simp; try with_reducible rfl)
  try simp only [Act.put, List.getElem_toArray, List.getElem_cons_zero, List.getElem_cons_succ, List.setIfInBounds_toArray, List.set_cons_zero, List.set_cons_succ]
  refine wpAnyH_take (i := 18) (v := ?vb18) rfl (by kernel_rfl) (by kernel_rfl) (by kernel_rfl) (fun _ _ _ h => h) (Or.inl ⟨by rfl, ?hyb18⟩) (by assumption) ?restb18
  case hyb18 => (intro wS hSw; (try dsimp only at hSw); go_simp; try with_reducible rfl)
  try simp only [Act.put, List.getElem_toArray, List.getElem_cons_zero, List.getElem_cons_succ, List.setIfInBounds_toArray, List.set_cons_zero, List.set_cons_succ]
  refine wpAnyH_done (by kernel_rfl) ?_ _
  go_wp2
  go_ret
  exact ⟨rfl, hb2⟩
theorem ex46c (w : World) (t : Tree) (a : Int) (b : ByteArray) (n : Int) (ao : Option Addr) (m : Nat) (cap : Nat) (HF : Hid (Fl w t 46 a b n ao m cap)) (hn : (n == 0) = true) (hi : isIntL t.text = true) (hm : ((m : Int) == 1) = false) : Calls Tryz.prog 27 #[.agg #[.int .u8 46, .int .i64 a, .string b, .int .u64 n, .slice ao m cap]] w fun en w' => en = .returned (.bool (false)) ∧ Below w.heap.size w w' := by
  have o0 := Own.new w #[.int .u8 46, .int .i64 a, .string b, .int .u64 n, .slice ao m cap] 25
  have hb0 : Below w.heap.size w (w.alloc (.cells #[.int .u8 46, .int .i64 a, .string b, .int .u64 n, .slice ao m cap] 25)) := (Below.refl _ _).alloc (Nat.le_refl _) _
  obtain ⟨p00, p01, p02, p03, p04, p05⟩ := o0.five
  have CM := CAmong b intXs 3 rfl (by omega) true ((among_ints HF.out.txt).trans hi)
  clear hi
  go_enter Tryz.func27, Tryz.ntmps27
  go_wp2_with fail
  have hl0d := o0.lt
  refine wp_region_held_drew (S := (fun w' => w'.cell? ⟨w.heap.size, 0, none⟩ = some (.int .u8 46) ∧ w'.cell? ⟨w.heap.size, 1, none⟩ = some (.int .i64 a) ∧ w'.cell? ⟨w.heap.size, 2, none⟩ = some (.string b) ∧ w'.cell? ⟨w.heap.size, 3, none⟩ = some (.int .u64 n) ∧ w'.cell? ⟨w.heap.size, 4, none⟩ = some (.slice ao m cap))) (by kernel_rfl) (by exact ⟨p00, p01, p02, p03, p04⟩) (fun hHeld => ?_)
  refine wpAnyH_take (i := 0) (v := ?vc0) rfl (by kernel_rfl) (by kernel_rfl) (by kernel_rfl) (fun _ _ _ h => h) (Or.inl ⟨by rfl, ?hyc0⟩) (by assumption) ?restc0
  case hyc0 => (intro wS hSw; (try dsimp only at hSw); go_simp; try with_reducible rfl)
  try simp only [Act.put, List.getElem_toArray, List.getElem_cons_zero, List.getElem_cons_succ, List.setIfInBounds_toArray, List.set_cons_zero, List.set_cons_succ]
  refine wpAnyH_take (i := 1) (v := ?vc1) rfl (by kernel_rfl) (by kernel_rfl) (by kernel_rfl) (fun _ _ _ h => h) (Or.inl ⟨by rfl, ?hyc1⟩) (by assumption) ?restc1
  case hyc1 => (intro wS hSw; (try dsimp only at hSw); go_simp; try with_reducible rfl)
  try simp only [Act.put, List.getElem_toArray, List.getElem_cons_zero, List.getElem_cons_succ, List.setIfInBounds_toArray, List.set_cons_zero, List.set_cons_succ]
  refine wpAnyH_take (i := 2) (v := ?vc2) rfl (by kernel_rfl) (by kernel_rfl) (by kernel_rfl) (fun _ _ _ h => h) (Or.inl ⟨by rfl, ?hyc2⟩) (by assumption) ?restc2
  case hyc2 => (intro wS hSw; (try dsimp only at hSw); go_simp; try with_reducible rfl)
  try simp only [Act.put, List.getElem_toArray, List.getElem_cons_zero, List.getElem_cons_succ, List.setIfInBounds_toArray, List.set_cons_zero, List.set_cons_succ]
  refine wpAnyH_take (i := 3) (v := ?vc3) rfl (by kernel_rfl) (by kernel_rfl) (by kernel_rfl) (fun _ _ _ h => h) (Or.inl ⟨by rfl, ?hyc3⟩) (by assumption) ?restc3
  case hyc3 => (intro wS hSw; (try dsimp only at hSw); go_simp; try with_reducible rfl)
  try simp only [Act.put, List.getElem_toArray, List.getElem_cons_zero, List.getElem_cons_succ, List.setIfInBounds_toArray, List.set_cons_zero, List.set_cons_succ]
  refine wpAnyH_take (i := 4) (v := ?vc4) rfl (by kernel_rfl) (by kernel_rfl) (by kernel_rfl) (fun _ _ _ h => h) (Or.inl ⟨by rfl, ?hyc4⟩) (by assumption) ?restc4
  case hyc4 => (intro wS hSw; (try dsimp only at hSw); go_simp; try with_reducible rfl)
  try simp only [Act.put, List.getElem_toArray, List.getElem_cons_zero, List.getElem_cons_succ, List.setIfInBounds_toArray, List.set_cons_zero, List.set_cons_succ]
  refine wpAnyH_take (i := 5) (v := ?vc5) rfl (by kernel_rfl) (by kernel_rfl) (by kernel_rfl) (fun _ _ _ h => h) (Or.inl ⟨by rfl, ?hyc5⟩) (by assumption) ?restc5
  case hyc5 => (intro wS hSw; (try dsimp only at hSw); go_simp; try with_reducible rfl)
  try simp only [Act.put, List.getElem_toArray, List.getElem_cons_zero, List.getElem_cons_succ, List.setIfInBounds_toArray, List.set_cons_zero, List.set_cons_succ]
  refine wpAnyH_ready (rs := [6]) (by kernel_rfl) (by simp) ?_
  refine AllReadyH.cons rfl (fun KK hKK => ?_) AllReadyH.nil
  go_simp
  go_at_call 31
  refine (CInts _).mono ?_
  rintro en w1 ⟨gs, rfl, hs1, hb1'⟩
  have o1 := o0.drew.below hb1'
  have hb1 := (bdrew hb0).trans (hb1'.mono (by rw [World.size_drew]; exact hb0.size))
  obtain ⟨p10, p11, p12, p13, p14, p15⟩ := o1.five
  have hl1 := o1.lt
  try go_wp2_with fail
  refine hKK.out _ _ (by exact ⟨p10, p11, p12, p13, p14⟩) (fun hHeld1 => ?_)
  clear hKK KK
  try simp only [Act.put, List.getElem_toArray, List.getElem_cons_zero, List.getElem_cons_succ, List.setIfInBounds_toArray, List.set_cons_zero, List.set_cons_succ]
  refine wpAnyH_ready (rs := [7]) (by kernel_rfl) (by simp) ?_
  refine AllReadyH.cons rfl (fun KK hKK => ?_) AllReadyH.nil
  go_simp
  go_at_call 23
  refine (CM _ _ hs1).mono ?_
  rintro en w2 ⟨rfl, hb2'⟩
  have o2 := o1.below hb2'
  have hb2 := hb1.trans (hb2'.mono hb1.size)
  obtain ⟨p20, p21, p22, p23, p24, p25⟩ := o2.five
  have hl2 := o2.lt
  clear p10 p11 p12 p13 p14 p15
  try go_wp2_with fail
  refine hKK.out _ _ (by exact ⟨p20, p21, p22, p23, p24⟩) (fun hHeld2 => ?_)
  clear hKK KK
  try simp only [Act.put, List.getElem_toArray, List.getElem_cons_zero, List.getElem_cons_succ, List.setIfInBounds_toArray, List.set_cons_zero, List.set_cons_succ]
  refine wpAnyH_take (i := 8) (v := ?vc8) rfl (by kernel_rfl) (by kernel_rfl) (by kernel_rfl) (fun _ _ _ h => h) (Or.inl ⟨by rfl, ?hyc8⟩) (by assumption) ?restc8
  case hyc8 => (intro wS hSw; (try dsimp only at hSw); go_simp; try with_reducible rfl)
  try simp only [Act.put, List.getElem_toArray, List.getElem_cons_zero, List.getElem_cons_succ, List.setIfInBounds_toArray, List.set_cons_zero, List.set_cons_succ]
  refine wpAnyH_take (i := 9) (v := ?vc9) rfl (by kernel_rfl) (by kernel_rfl) (by kernel_rfl) (fun _ _ _ h => h) (Or.inl ⟨by rfl, ?hyc9⟩) (by assumption) ?restc9
  case hyc9 => (intro wS hSw; (try dsimp only at hSw); go_simp; try with_reducible rfl)
  try simp only [Act.put, List.getElem_toArray, List.getElem_cons_zero, List.getElem_cons_succ, List.setIfInBounds_toArray, List.set_cons_zero, List.set_cons_succ]
  refine wpAnyH_take (i := 10) (v := ?vc10) rfl (by kernel_rfl) (by kernel_rfl) (by kernel_rfl) (fun _ _ _ h => h) (Or.inl ⟨by rfl, ?hyc10⟩) (by assumption) ?restc10
  case hyc10 => (intro wS hSw; (try dsimp only at hSw); go_simp; try with_reducible rfl)
  try simp only [Act.put, List.getElem_toArray, List.getElem_cons_zero, List.getElem_cons_succ, List.setIfInBounds_toArray, List.set_cons_zero, List.set_cons_succ]
  refine wpAnyH_take (i := 11) (v := ?vc11) rfl (by kernel_rfl) (by kernel_rfl) (by kernel_rfl) (fun _ _ _ h => h) (Or.inl ⟨by rfl, ?hyc11⟩) (by assumption) ?restc11
  case hyc11 => (intro wS hSw; (try dsimp only at hSw); go_simp; try with_reducible rfl)
  try simp only [Act.put, List.getElem_toArray, List.getElem_cons_zero, List.getElem_cons_succ, List.setIfInBounds_toArray, List.set_cons_zero, List.set_cons_succ]
  refine wpAnyH_take (i := 12) (v := ?vc12) rfl (by kernel_rfl) (by kernel_rfl) (by kernel_rfl) (fun _ _ _ h => h) (Or.inl ⟨by rfl, ?hyc12⟩) (by assumption) ?restc12
  case hyc12 => (intro wS hSw; (try dsimp only at hSw); go_simp; try with_reducible rfl)
  try simp only [Act.put, List.getElem_toArray, List.getElem_cons_zero, List.getElem_cons_succ, List.setIfInBounds_toArray, List.set_cons_zero, List.set_cons_succ]
  refine wpAnyH_take (i := 13) (v := ?vc13) rfl (by kernel_rfl) (by kernel_rfl) (by kernel_rfl) (fun _ _ _ h => h) (Or.inl ⟨by rfl, ?hyc13⟩) (by assumption) ?restc13
  case hyc13 => (intro wS hSw; (try dsimp only at hSw); go_simp; try with_reducible rfl)
  try simp only [Act.put, List.getElem_toArray, List.getElem_cons_zero, List.getElem_cons_succ, List.setIfInBounds_toArray, List.set_cons_zero, List.set_cons_succ]
  refine wpAnyH_take (i := 14) (v := undef) rfl (by kernel_rfl) (by kernel_rfl) (by kernel_rfl) (fun _ _ _ h => h) (Or.inr ⟨by rfl, rfl⟩) (by assumption) ?restc14
  try simp only [Act.put, List.getElem_toArray, List.getElem_cons_zero, List.getElem_cons_succ, List.setIfInBounds_toArray, List.set_cons_zero, List.set_cons_succ]
  refine wpAnyH_take (i := 15) (v := undef) rfl (by kernel_rfl) (by kernel_rfl) (by kernel_rfl) (fun _ _ _ h => h) (Or.inr ⟨by rfl, rfl⟩) (by assumption) ?restc15
  try simp only [Act.put, List.getElem_toArray, List.getElem_cons_zero, List.getElem_cons_succ, List.setIfInBounds_toArray, List.set_cons_zero, List.set_cons_succ]
  refine wpAnyH_take (i := 16) (v := undef) rfl (by kernel_rfl) (by kernel_rfl) (by kernel_rfl) (fun _ _ _ h => h) (Or.inr ⟨by rfl, rfl⟩) (by assumption) ?restc16
  try simp only [Act.put, List.getElem_toArray, List.getElem_cons_zero, List.getElem_cons_succ, List.setIfInBounds_toArray, List.set_cons_zero, List.set_cons_succ]
  refine wpAnyH_take (i := 17) (v := ?vc17) rfl (by kernel_rfl) (by kernel_rfl) (by kernel_rfl) (fun _ _ _ h => h) (Or.inl ⟨by rfl, ?hyc17⟩) (by assumption) ?restc17
  case hyc17 => (intro wS hSw; (try dsimp only at hSw); go_simp; try with_reducible rfl)
  try simp only [Act.put, List.getElem_toArray, List.getElem_cons_zero, List.getElem_cons_succ, List.setIfInBounds_toArray, List.set_cons_zero, List.set_cons_succ]
  refine wpAnyH_take (i := 18) (v := ?vc18) rfl (by kernel_rfl) (by kernel_rfl) (by kernel_rfl) (fun _ _ _ h => h) (Or.inl ⟨by rfl, ?hyc18⟩) (by assumption) ?restc18
  case hyc18 => (intro wS hSw; (try dsimp only at hSw); go_simp; try with_reducible rfl)
  try simp only [Act.put, List.getElem_toArray, List.getElem_cons_zero, List.getElem_cons_succ, List.setIfInBounds_toArray, List.set_cons_zero, List.set_cons_succ]
  refine wpAnyH_done (by kernel_rfl) ?_ _
  go_wp2
  go_ret
  exact ⟨rfl, hb2⟩
theorem ex46d (w : World) (t : Tree) (a : Int) (b : ByteArray) (n : Int) (ao : Option Addr) (cap : Nat) (HF : Hid (Fl w t 46 a b n ao 1 cap)) (q : Bool) (hq : t.kids.all (vR 2) = q) (H : KidsAs t) (hn : (n == 0) = true) (hi : isIntL t.text = true) : Calls Tryz.prog 27 #[.agg #[.int .u8 46, .int .i64 a, .string b, .int .u64 n, .slice ao 1 cap]] w fun en w' => en = .returned (.bool (q)) ∧ Below w.heap.size w w' := by
  have o0 := Own.new w #[.int .u8 46, .int .i64 a, .string b, .int .u64 n, .slice ao 1 cap] 25
  have hb0 : Below w.heap.size w (w.alloc (.cells #[.int .u8 46, .int .i64 a, .string b, .int .u64 n, .slice ao 1 cap] 25)) := (Below.refl _ _).alloc (Nat.le_refl _) _
  obtain ⟨p00, p01, p02, p03, p04, p05⟩ := o0.five
  have CM := CAmong b intXs 3 rfl (by omega) true ((among_ints HF.out.txt).trans hi)
  have CA : ∀ W : World, Below w.heap.size w W → Calls Tryz.prog 29 #[.slice ao 1 cap, .int .i64 2] W fun en w' => en = .returned (.bool q) ∧ Below W.heap.size W w' := fun W hW => zall_as 2 t.kids (H 2 (by omega) (by omega)) W _ (by have := HF.out.kids; rw [HF.out.len] at this; exact this.below hW) q hq
  clear hi hq
  go_enter Tryz.func27, Tryz.ntmps27
  go_wp2_with fail
  have hl0d := o0.lt
  refine wp_region_held_drew (S := (fun w' => w'.cell? ⟨w.heap.size, 0, none⟩ = some (.int .u8 46) ∧ w'.cell? ⟨w.heap.size, 1, none⟩ = some (.int .i64 a) ∧ w'.cell? ⟨w.heap.size, 2, none⟩ = some (.string b) ∧ w'.cell? ⟨w.heap.size, 3, none⟩ = some (.int .u64 n) ∧ w'.cell? ⟨w.heap.size, 4, none⟩ = some (.slice ao 1 cap))) (by kernel_rfl) (by exact ⟨p00, p01, p02, p03, p04⟩) (fun hHeld => ?_)
  refine wpAnyH_take (i := 0) (v := ?vd0) rfl (by kernel_rfl) (by kernel_rfl) (by kernel_rfl) (fun _ _ _ h => h) (Or.inl ⟨by rfl, ?hyd0⟩) (by assumption) ?restd0
  case hyd0 => (intro wS hSw; (try dsimp only at hSw); go_simp; try with_reducible rfl)
  try simp only [Act.put, List.getElem_toArray, List.getElem_cons_zero, List.getElem_cons_succ, List.setIfInBounds_toArray, List.set_cons_zero, List.set_cons_succ]
  refine wpAnyH_take (i := 1) (v := ?vd1) rfl (by kernel_rfl) (by kernel_rfl) (by kernel_rfl) (fun _ _ _ h => h) (Or.inl ⟨by rfl, ?hyd1⟩) (by assumption) ?restd1
  case hyd1 => (intro wS hSw; (try dsimp only at hSw); go_simp; try with_reducible rfl)
  try simp only [Act.put, List.getElem_toArray, List.getElem_cons_zero, List.getElem_cons_succ, List.setIfInBounds_toArray, List.set_cons_zero, List.set_cons_succ]
  refine wpAnyH_take (i := 2) (v := ?vd2) rfl (by kernel_rfl) (by kernel_rfl) (by kernel_rfl) (fun _ _ _ h => h) (Or.inl ⟨by rfl, ?hyd2⟩) (by assumption) ?restd2
  case hyd2 => (intro wS hSw; (try dsimp only at hSw); go_simp; try with_reducible rfl)
  try simp only [Act.put, List.getElem_toArray, List.getElem_cons_zero, List.getElem_cons_succ, List.setIfInBounds_toArray, List.set_cons_zero, List.set_cons_succ]
  refine wpAnyH_take (i := 3) (v := ?vd3) rfl (by kernel_rfl) (by kernel_rfl) (by kernel_rfl) (fun _ _ _ h => h) (Or.inl ⟨by rfl, ?hyd3⟩) (by assumption) ?restd3
  case hyd3 => (intro wS hSw; (try dsimp only at hSw); go_simp; try with_reducible rfl)
  try simp only [Act.put, List.getElem_toArray, List.getElem_cons_zero, List.getElem_cons_succ, List.setIfInBounds_toArray, List.set_cons_zero, List.set_cons_succ]
  refine wpAnyH_take (i := 4) (v := ?vd4) rfl (by kernel_rfl) (by kernel_rfl) (by kernel_rfl) (fun _ _ _ h => h) (Or.inl ⟨by rfl, ?hyd4⟩) (by assumption) ?restd4
  case hyd4 => (intro wS hSw; (try dsimp only at hSw); go_simp; try with_reducible rfl)
  try simp only [Act.put, List.getElem_toArray, List.getElem_cons_zero, List.getElem_cons_succ, List.setIfInBounds_toArray, List.set_cons_zero, List.set_cons_succ]
  refine wpAnyH_take (i := 5) (v := ?vd5) rfl (by kernel_rfl) (by kernel_rfl) (by kernel_rfl) (fun _ _ _ h => h) (Or.inl ⟨by rfl, ?hyd5⟩) (by assumption) ?restd5
  case hyd5 => (intro wS hSw; (try dsimp only at hSw); go_simp; try with_reducible rfl)
  try simp only [Act.put, List.getElem_toArray, List.getElem_cons_zero, List.getElem_cons_succ, List.setIfInBounds_toArray, List.set_cons_zero, List.set_cons_succ]
  refine wpAnyH_ready (rs := [6]) (by kernel_rfl) (by simp) ?_
  refine AllReadyH.cons rfl (fun KK hKK => ?_) AllReadyH.nil
  go_simp
  go_at_call 31
  refine (CInts _).mono ?_
  rintro en w1 ⟨gs, rfl, hs1, hb1'⟩
  have o1 := o0.drew.below hb1'
  have hb1 := (bdrew hb0).trans (hb1'.mono (by rw [World.size_drew]; exact hb0.size))
  obtain ⟨p10, p11, p12, p13, p14, p15⟩ := o1.five
  have hl1 := o1.lt
  try go_wp2_with fail
  refine hKK.out _ _ (by exact ⟨p10, p11, p12, p13, p14⟩) (fun hHeld1 => ?_)
  clear hKK KK
  try simp only [Act.put, List.getElem_toArray, List.getElem_cons_zero, List.getElem_cons_succ, List.setIfInBounds_toArray, List.set_cons_zero, List.set_cons_succ]
  refine wpAnyH_ready (rs := [7]) (by kernel_rfl) (by simp) ?_
  refine AllReadyH.cons rfl (fun KK hKK => ?_) AllReadyH.nil
  go_simp
  go_at_call 23
  refine (CM _ _ hs1).mono ?_
  rintro en w2 ⟨rfl, hb2'⟩
  have o2 := o1.below hb2'
  have hb2 := hb1.trans (hb2'.mono hb1.size)
  obtain ⟨p20, p21, p22, p23, p24, p25⟩ := o2.five
  have hl2 := o2.lt
  clear p10 p11 p12 p13 p14 p15
  try go_wp2_with fail
  refine hKK.out _ _ (by exact ⟨p20, p21, p22, p23, p24⟩) (fun hHeld2 => ?_)
  clear hKK KK
  try simp only [Act.put, List.getElem_toArray, List.getElem_cons_zero, List.getElem_cons_succ, List.setIfInBounds_toArray, List.set_cons_zero, List.set_cons_succ]
  refine wpAnyH_take (i := 8) (v := ?vd8) rfl (by kernel_rfl) (by kernel_rfl) (by kernel_rfl) (fun _ _ _ h => h) (Or.inl ⟨by rfl, ?hyd8⟩) (by assumption) ?restd8
  case hyd8 => (intro wS hSw; (try dsimp only at hSw); go_simp; try with_reducible rfl)
  try simp only [Act.put, List.getElem_toArray, List.getElem_cons_zero, List.getElem_cons_succ, List.setIfInBounds_toArray, List.set_cons_zero, List.set_cons_succ]
  refine wpAnyH_take (i := 9) (v := ?vd9) rfl (by kernel_rfl) (by kernel_rfl) (by kernel_rfl) (fun _ _ _ h => h) (Or.inl ⟨by rfl, ?hyd9⟩) (by assumption) ?restd9
  case hyd9 => (intro wS hSw; (try dsimp only at hSw); go_simp; try with_reducible rfl)
  try simp only [Act.put, List.getElem_toArray, List.getElem_cons_zero, List.getElem_cons_succ, List.setIfInBounds_toArray, List.set_cons_zero, List.set_cons_succ]
  refine wpAnyH_take (i := 10) (v := ?vd10) rfl (by kernel_rfl) (by kernel_rfl) (by kernel_rfl) (fun _ _ _ h => h) (Or.inl ⟨by rfl, ?hyd10⟩) (by assumption) ?restd10
  case hyd10 => (intro wS hSw; (try dsimp only at hSw); go_simp; try with_reducible rfl)
  try simp only [Act.put, List.getElem_toArray, List.getElem_cons_zero, List.getElem_cons_succ, List.setIfInBounds_toArray, List.set_cons_zero, List.set_cons_succ]
  refine wpAnyH_take (i := 11) (v := ?vd11) rfl (by kernel_rfl) (by kernel_rfl) (by kernel_rfl) (fun _ _ _ h => h) (Or.inl ⟨by rfl, ?hyd11⟩) (by assumption) ?restd11
  case hyd11 => (intro wS hSw; (try dsimp only at hSw); go_simp; try with_reducible rfl)
  try simp only [Act.put, List.getElem_toArray, List.getElem_cons_zero, List.getElem_cons_succ, List.setIfInBounds_toArray, List.set_cons_zero, List.set_cons_succ]
  refine wpAnyH_take (i := 12) (v := ?vd12) rfl (by kernel_rfl) (by kernel_rfl) (by kernel_rfl) (fun _ _ _ h => h) (Or.inl ⟨by rfl, ?hyd12⟩) (by assumption) ?restd12
  case hyd12 => (intro wS hSw; (try dsimp only at hSw); go_simp; try with_reducible rfl)
  try simp only [Act.put, List.getElem_toArray, List.getElem_cons_zero, List.getElem_cons_succ, List.setIfInBounds_toArray, List.set_cons_zero, List.set_cons_succ]
  refine wpAnyH_take (i := 13) (v := ?vd13) rfl (by kernel_rfl) (by kernel_rfl) (by kernel_rfl) (fun _ _ _ h => h) (Or.inl ⟨by rfl, ?hyd13⟩) (by assumption) ?restd13
  case hyd13 => (intro wS hSw; (try dsimp only at hSw); go_simp; try with_reducible rfl)
  try simp only [Act.put, List.getElem_toArray, List.getElem_cons_zero, List.getElem_cons_succ, List.setIfInBounds_toArray, List.set_cons_zero, List.set_cons_succ]
  refine wpAnyH_take (i := 14) (v := ?vd14) rfl (by kernel_rfl) (by kernel_rfl) (by kernel_rfl) (fun _ _ _ h => h) (Or.inl ⟨by rfl, ?hyd14⟩) (by assumption) ?restd14
  case hyd14 => (intro wS hSw; (try dsimp only at hSw); go_simp; try with_reducible rfl)
  try simp only [Act.put, List.getElem_toArray, List.getElem_cons_zero, List.getElem_cons_succ, List.setIfInBounds_toArray, List.set_cons_zero, List.set_cons_succ]
  refine wpAnyH_take (i := 15) (v := ?vd15) rfl (by kernel_rfl) (by kernel_rfl) (by kernel_rfl) (fun _ _ _ h => h) (Or.inl ⟨by rfl, ?hyd15⟩) (by assumption) ?restd15
  case hyd15 => (intro wS hSw; (try dsimp only at hSw); go_simp; try with_reducible rfl)
  try simp only [Act.put, List.getElem_toArray, List.getElem_cons_zero, List.getElem_cons_succ, List.setIfInBounds_toArray, List.set_cons_zero, List.set_cons_succ]
  refine wpAnyH_ready (rs := [16]) (by kernel_rfl) (by simp) ?_
  refine AllReadyH.cons rfl (fun KK hKK => ?_) AllReadyH.nil
  go_simp
  go_at_call 29
  refine (CA _ hb2).mono ?_
  rintro en w3 ⟨rfl, hb3'⟩
  have o3 := o2.below hb3'
  have hb3 := hb2.trans (hb3'.mono hb2.size)
  obtain ⟨p30, p31, p32, p33, p34, p35⟩ := o3.five
  have hl3 := o3.lt
  clear p20 p21 p22 p23 p24 p25
  try go_wp2_with fail
  refine hKK.out _ _ (by exact ⟨p30, p31, p32, p33, p34⟩) (fun hHeld3 => ?_)
  clear hKK KK
  try simp only [Act.put, List.getElem_toArray, List.getElem_cons_zero, List.getElem_cons_succ, List.setIfInBounds_toArray, List.set_cons_zero, List.set_cons_succ]
  refine wpAnyH_take (i := 17) (v := ?vd17) rfl (by kernel_rfl) (by kernel_rfl) (by kernel_rfl) (fun _ _ _ h => h) (Or.inl ⟨by rfl, ?hyd17⟩) (by assumption) ?restd17
  case hyd17 => (intro wS hSw; (try dsimp only at hSw); go_simp; try with_reducible rfl)
  try simp only [Act.put, List.getElem_toArray, List.getElem_cons_zero, List.getElem_cons_succ, List.setIfInBounds_toArray, List.set_cons_zero, List.set_cons_succ]
  refine wpAnyH_take (i := 18) (v := ?vd18) rfl (by kernel_rfl) (by kernel_rfl) (by kernel_rfl) (fun _ _ _ h => h) (Or.inl ⟨by rfl, ?hyd18⟩) (by assumption) ?restd18
  case hyd18 => (intro wS hSw; (try dsimp only at hSw); go_simp; try with_reducible rfl)
  try simp only [Act.put, List.getElem_toArray, List.getElem_cons_zero, List.getElem_cons_succ, List.setIfInBounds_toArray, List.set_cons_zero, List.set_cons_succ]
  refine wpAnyH_done (by kernel_rfl) ?_ _
  go_wp2
  go_ret
  exact ⟨rfl, hb3⟩
theorem ex46 (t : Tree) (hw : wideTr t) (H : KidsAs t) (hK : t.kind = 46) : ExAs t := by
  intro w k a b n v hN
  obtain ⟨ao, m, cap, rfl, hF⟩ := Fl.of hN hw
  have HF : Hid (Fl w t k a b n ao m cap) := hF
  have hk := hF.kind
  have hm1 := hF.2.2.2.1
  have hm2 := hF.2.2.2.2
  have hk2 : k = 46 := by omega
  subst hk2
  have hn9 : (t.n : Int) = n := HF.out.num.symm
  have hk9 : (t.kind : Int) = 46 := by omega
  have HS : vR 2 t = ((isIntL t.text && n == 0) && (decide (t.kids.length = 1) && t.kids.all (vR 2))) := ePart t 1 _ (by rw [hk9]; rfl) (by rw [hk9]; rfl) (by rw [hk9, hn9]; simp [textI, numI]) (fun j => by rw [hk9]; simp [asksI])
  rw [HS]
  cases hn0 : (n == 0) with
  | false => rw [Bool.and_false, Bool.false_and]; exact ex46a w t a b n ao m cap HF hn0
  | true =>
    cases hi : isIntL t.text with
    | false => exact ex46b w t a b n ao m cap HF hn0 hi
    | true =>
      by_cases hm : m = 1
      · subst hm
        rw [HF.out.len]
        exact ex46d w t a b n ao cap HF _ (by simp) H hn0 hi
      · have e : decide (t.kids.length = 1) = false := by rw [HF.out.len]; simpa using hm
        rw [e, Bool.false_and, Bool.and_false]
        exact ex46c w t a b n ao m cap HF hn0 hi (by simp; omega)
end Go.Proofs.YtmhnbklchnnbaaaGreatDoor
