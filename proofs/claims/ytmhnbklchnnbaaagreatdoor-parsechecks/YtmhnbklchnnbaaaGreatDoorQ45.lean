import Derived.Test.YtmhnbklchnnbaaaGreatDoorQ43
set_option maxHeartbeats 8000000
set_option maxRecDepth 100000
namespace Go.Proofs.YtmhnbklchnnbaaaGreatDoor
open Go.RowKit
set_option linter.unusedVariables false
set_option linter.unusedSimpArgs false
theorem all0 (l : List Tree) (q : Bool) (p : Tree → Bool) : (q && (decide (l.length = 0) && l.all p)) = (q && decide (l.length = 0)) := by
  cases l with
  | nil => simp
  | cons a l => simp
theorem asksR (k : Int) (m j : Int) (h1 : 60 ≤ k) (h2 : k ≤ 77) : asksI 21 k m j = 21 := by
  unfold asksI
  have z : ∀ c : Int, c < 60 → (k == c) = false := fun c hc => by simp; omega
  simp [z]
theorem takesR (k : Int) (h1 : 60 ≤ k) (h2 : k ≤ 77) : takesI 21 k = true := by simp [takesI, isExprI, h1, h2]
theorem kidsR2 (k : Int) (h1 : 60 ≤ k) (h2 : k ≤ 77) : kidsI k = (((2 : Nat) : Int), ((2 : Nat) : Int)) := by
  unfold kidsI
  have z : ∀ c : Int, c < 60 → (k == c) = false := fun c hc => by simp; omega
  simp [z]
theorem sideR (k : Int) (x : List Nat) (n : Int) (h1 : 60 ≤ k) (h2 : k ≤ 77) : (textI k x && numI k x n) = bareB x n := by
  unfold textI numI bareB
  have z : ∀ c : Int, c < 60 → (k == c) = false := fun c hc => by simp; omega
  simp [z]
theorem ex41 (t : Tree) (hw : wideTr t) (H : KidsAs t) (hK : t.kind = 41) : ExAs t := by
  intro w k a b n v hN
  obtain ⟨ao, m, cap, rfl, hF⟩ := Fl.of hN hw
  have HF : Hid (Fl w t k a b n ao m cap) := hF
  have hk := hF.kind
  have hm1 := hF.2.2.2.1
  have hm2 := hF.2.2.2.2
  have o0 := Own.new w #[.int .u8 k, .int .i64 a, .string b, .int .u64 n, .slice ao m cap] 25
  have hb0 : Below w.heap.size w (w.alloc (.cells #[.int .u8 k, .int .i64 a, .string b, .int .u64 n, .slice ao m cap] 25)) := (Below.refl _ _).alloc (Nat.le_refl _) _
  obtain ⟨qb, hqb⟩ : ∃ q, (n == 0) = q := ⟨_, rfl⟩
  have hn9 : (t.n : Int) = n := HF.out.num.symm
  have hk9 : (t.kind : Int) = 41 := by omega
  have hk2 : k = 41 := by omega
  obtain ⟨qm, hqm⟩ : ∃ q, decide (t.kids.length = 0) = q := ⟨_, rfl⟩
  have hm9 : ((m : Int) == 0) = qm := by rw [← hqm, HF.out.len, Bool.eq_iff_iff]; simp; try omega
  have HS : Hid (vR 2 t = (qb && qm)) := by unfold Hid; rw [← hqb, ← hqm, ePart t 0 (n == 0) (by rw [hk9]; rfl) (by rw [hk9]; rfl) (by rw [hk9, hn9]; simp [textI, numI]) (fun j => by rw [hk9]; simp [asksI, eitherI])]; exact all0 t.kids _ _
  subst hk2
  clear hF hN hk hk9 hn9 hK hqm
  cases qb <;> cases qm
  all_goals
    go_enter Tryz.func27, Tryz.ntmps27
    go_wp2
    go_ret
    exact ⟨ret_bool (by rw [HS.out] <;> rfl), hb0⟩
theorem ex42 (t : Tree) (hw : wideTr t) (H : KidsAs t) (hK : t.kind = 42) : ExAs t := by
  intro w k a b n v hN
  obtain ⟨ao, m, cap, rfl, hF⟩ := Fl.of hN hw
  have HF : Hid (Fl w t k a b n ao m cap) := hF
  have hk := hF.kind
  have hm1 := hF.2.2.2.1
  have hm2 := hF.2.2.2.2
  have o0 := Own.new w #[.int .u8 k, .int .i64 a, .string b, .int .u64 n, .slice ao m cap] 25
  have hb0 : Below w.heap.size w (w.alloc (.cells #[.int .u8 k, .int .i64 a, .string b, .int .u64 n, .slice ao m cap] 25)) := (Below.refl _ _).alloc (Nat.le_refl _) _
  obtain ⟨qb, hqb⟩ : ∃ q, bareB t.text n = q := ⟨_, rfl⟩
  have CB : ∀ W : World, Calls Tryz.prog 26 #[.agg #[.int .u8 k, .int .i64 a, .string b, .int .u64 n, .slice ao m cap]] W fun en w' => en = .returned (.bool qb) ∧ Below W.heap.size W w' := fun W => by have := zbare_as W k a n b (.slice ao m cap) rfl t.text HF.out.txt; rw [hqb] at this; exact this
  have hn9 : (t.n : Int) = n := HF.out.num.symm
  have hk9 : (t.kind : Int) = 42 := by omega
  have hk2 : k = 42 := by omega
  obtain ⟨qm, hqm⟩ : ∃ q, decide (t.kids.length = 0) = q := ⟨_, rfl⟩
  have hm9 : ((m : Int) == 0) = qm := by rw [← hqm, HF.out.len, Bool.eq_iff_iff]; simp; try omega
  have HS : Hid (vR 2 t = (qb && qm)) := by unfold Hid; rw [← hqb, ← hqm, ePart t 0 (bareB t.text n) (by rw [hk9]; rfl) (by rw [hk9]; rfl) (by rw [hk9, hn9]; simp [textI, numI, bareB]) (fun j => by rw [hk9]; simp [asksI, eitherI])]; exact all0 t.kids _ _
  subst hk2
  clear hF hN hk hk9 hn9 hqb hK hqm
  go_enter Tryz.func27, Tryz.ntmps27
  go_wp2_with fail
  refine (CB _).mono ?_
  rintro en w1 ⟨rfl, hb1'⟩
  have o1 := o0.below hb1'
  have hb1 := hb0.trans (hb1'.mono hb0.size)
  obtain ⟨p10, p11, p12, p13, p14, p15⟩ := o1.five
  have hl1 := o1.lt
  clear hb1'
  cases qb with
  | false =>
    go_wp2
    go_ret
    exact ⟨ret_bool (by rw [HS.out] <;> rfl), hb1⟩
  | true =>
    cases qm with
    | false =>
      go_wp2
      go_ret
      exact ⟨ret_bool (by rw [HS.out] <;> rfl), hb1⟩
    | true =>
      go_wp2
      go_ret
      exact ⟨ret_bool (by rw [HS.out] <;> rfl), hb1⟩
theorem ex43 (t : Tree) (hw : wideTr t) (H : KidsAs t) (hK : t.kind = 43) : ExAs t := by
  intro w k a b n v hN
  obtain ⟨ao, m, cap, rfl, hF⟩ := Fl.of hN hw
  have HF : Hid (Fl w t k a b n ao m cap) := hF
  have hk := hF.kind
  have hm1 := hF.2.2.2.1
  have hm2 := hF.2.2.2.2
  have o0 := Own.new w #[.int .u8 k, .int .i64 a, .string b, .int .u64 n, .slice ao m cap] 25
  have hb0 : Below w.heap.size w (w.alloc (.cells #[.int .u8 k, .int .i64 a, .string b, .int .u64 n, .slice ao m cap] 25)) := (Below.refl _ _).alloc (Nat.le_refl _) _
  obtain ⟨qb, hqb⟩ : ∃ q, bareB t.text n = q := ⟨_, rfl⟩
  have CB : ∀ W : World, Calls Tryz.prog 26 #[.agg #[.int .u8 k, .int .i64 a, .string b, .int .u64 n, .slice ao m cap]] W fun en w' => en = .returned (.bool qb) ∧ Below W.heap.size W w' := fun W => by have := zbare_as W k a n b (.slice ao m cap) rfl t.text HF.out.txt; rw [hqb] at this; exact this
  have hn9 : (t.n : Int) = n := HF.out.num.symm
  have hk9 : (t.kind : Int) = 43 := by omega
  have hk2 : k = 43 := by omega
  obtain ⟨qm, hqm⟩ : ∃ q, decide (t.kids.length = 0) = q := ⟨_, rfl⟩
  have hm9 : ((m : Int) == 0) = qm := by rw [← hqm, HF.out.len, Bool.eq_iff_iff]; simp; try omega
  have HS : Hid (vR 2 t = (qb && qm)) := by unfold Hid; rw [← hqb, ← hqm, ePart t 0 (bareB t.text n) (by rw [hk9]; rfl) (by rw [hk9]; rfl) (by rw [hk9, hn9]; simp [textI, numI, bareB]) (fun j => by rw [hk9]; simp [asksI, eitherI])]; exact all0 t.kids _ _
  subst hk2
  clear hF hN hk hk9 hn9 hqb hK hqm
  go_enter Tryz.func27, Tryz.ntmps27
  go_wp2_with fail
  refine (CB _).mono ?_
  rintro en w1 ⟨rfl, hb1'⟩
  have o1 := o0.below hb1'
  have hb1 := hb0.trans (hb1'.mono hb0.size)
  obtain ⟨p10, p11, p12, p13, p14, p15⟩ := o1.five
  have hl1 := o1.lt
  clear hb1'
  cases qb with
  | false =>
    go_wp2
    go_ret
    exact ⟨ret_bool (by rw [HS.out] <;> rfl), hb1⟩
  | true =>
    cases qm with
    | false =>
      go_wp2
      go_ret
      exact ⟨ret_bool (by rw [HS.out] <;> rfl), hb1⟩
    | true =>
      go_wp2
      go_ret
      exact ⟨ret_bool (by rw [HS.out] <;> rfl), hb1⟩
theorem ex44 (t : Tree) (hw : wideTr t) (H : KidsAs t) (hK : t.kind = 44) : ExAs t := by
  intro w k a b n v hN
  obtain ⟨ao, m, cap, rfl, hF⟩ := Fl.of hN hw
  have HF : Hid (Fl w t k a b n ao m cap) := hF
  have hk := hF.kind
  have hm1 := hF.2.2.2.1
  have hm2 := hF.2.2.2.2
  have o0 := Own.new w #[.int .u8 k, .int .i64 a, .string b, .int .u64 n, .slice ao m cap] 25
  have hb0 : Below w.heap.size w (w.alloc (.cells #[.int .u8 k, .int .i64 a, .string b, .int .u64 n, .slice ao m cap] 25)) := (Below.refl _ _).alloc (Nat.le_refl _) _
  obtain ⟨qb, hqb⟩ : ∃ q, namedB t.text n false = q := ⟨_, rfl⟩
  have CB : ∀ W : World, Calls Tryz.prog 30 #[.agg #[.int .u8 k, .int .i64 a, .string b, .int .u64 n, .slice ao m cap], .bool false] W fun en w' => en = .returned (.bool qb) ∧ Below W.heap.size W w' := fun W => by have := znamed_as W k a n b (.slice ao m cap) rfl false t.text HF.out.txt; rw [hqb] at this; exact this
  have hn9 : (t.n : Int) = n := HF.out.num.symm
  have hk9 : (t.kind : Int) = 44 := by omega
  have hk2 : k = 44 := by omega
  obtain ⟨qm, hqm⟩ : ∃ q, decide (t.kids.length = 0) = q := ⟨_, rfl⟩
  have hm9 : ((m : Int) == 0) = qm := by rw [← hqm, HF.out.len, Bool.eq_iff_iff]; simp; try omega
  have HS : Hid (vR 2 t = (qb && qm)) := by unfold Hid; rw [← hqb, ← hqm, ePart t 0 (namedB t.text n false) (by rw [hk9]; rfl) (by rw [hk9]; rfl) (by rw [hk9, hn9]; simp [textI, numI, namedB, Bool.and_comm]) (fun j => by rw [hk9]; simp [asksI, eitherI])]; exact all0 t.kids _ _
  subst hk2
  clear hF hN hk hk9 hn9 hqb hK hqm
  go_enter Tryz.func27, Tryz.ntmps27
  go_wp2_with fail
  refine (CB _).mono ?_
  rintro en w1 ⟨rfl, hb1'⟩
  have o1 := o0.below hb1'
  have hb1 := hb0.trans (hb1'.mono hb0.size)
  obtain ⟨p10, p11, p12, p13, p14, p15⟩ := o1.five
  have hl1 := o1.lt
  clear hb1'
  cases qb with
  | false =>
    go_wp2
    go_ret
    exact ⟨ret_bool (by rw [HS.out] <;> rfl), hb1⟩
  | true =>
    cases qm with
    | false =>
      go_wp2
      go_ret
      exact ⟨ret_bool (by rw [HS.out] <;> rfl), hb1⟩
    | true =>
      go_wp2
      go_ret
      exact ⟨ret_bool (by rw [HS.out] <;> rfl), hb1⟩
theorem ex45 (t : Tree) (hw : wideTr t) (H : KidsAs t) (hK : t.kind = 45) : ExAs t := by
  intro w k a b n v hN
  obtain ⟨ao, m, cap, rfl, hF⟩ := Fl.of hN hw
  have HF : Hid (Fl w t k a b n ao m cap) := hF
  have hk := hF.kind
  have hm1 := hF.2.2.2.1
  have hm2 := hF.2.2.2.2
  have o0 := Own.new w #[.int .u8 k, .int .i64 a, .string b, .int .u64 n, .slice ao m cap] 25
  have hb0 : Below w.heap.size w (w.alloc (.cells #[.int .u8 k, .int .i64 a, .string b, .int .u64 n, .slice ao m cap] 25)) := (Below.refl _ _).alloc (Nat.le_refl _) _
  obtain ⟨qb, hqb⟩ : ∃ q, namedB t.text n false = q := ⟨_, rfl⟩
  have CB : ∀ W : World, Calls Tryz.prog 30 #[.agg #[.int .u8 k, .int .i64 a, .string b, .int .u64 n, .slice ao m cap], .bool false] W fun en w' => en = .returned (.bool qb) ∧ Below W.heap.size W w' := fun W => by have := znamed_as W k a n b (.slice ao m cap) rfl false t.text HF.out.txt; rw [hqb] at this; exact this
  obtain ⟨qa, hqa⟩ : ∃ q, t.kids.all (vR 2) = q := ⟨_, rfl⟩
  have CA : ∀ W : World, Below w.heap.size w W → Calls Tryz.prog 29 #[.slice ao m cap, .int .i64 2] W fun en w' => en = .returned (.bool qa) ∧ Below W.heap.size W w' := fun W hW => zall_as 2 t.kids (H 2 (by omega) (by omega)) W _ (by have := HF.out.kids; rw [HF.out.len] at this; exact this.below hW) qa hqa
  have hn9 : (t.n : Int) = n := HF.out.num.symm
  have hk9 : (t.kind : Int) = 45 := by omega
  have hk2 : k = 45 := by omega
  have HS : Hid (vR 2 t = (qb && qa)) := by unfold Hid; rw [← hqb, ← hqa]; exact eAny t _ (by rw [HF.out.len]; omega) (by rw [hk9]; rfl) (by rw [hk9]; rfl) (by rw [hk9, hn9]; simp [textI, numI, namedB, Bool.and_comm]) (fun j => by rw [hk9]; simp [asksI, eitherI])
  subst hk2
  clear hF hN hk hk9 hn9 hqb hK hqa
  go_enter Tryz.func27, Tryz.ntmps27
  go_wp2_with fail
  refine (CB _).mono ?_
  rintro en w1 ⟨rfl, hb1'⟩
  have o1 := o0.below hb1'
  have hb1 := hb0.trans (hb1'.mono hb0.size)
  obtain ⟨p10, p11, p12, p13, p14, p15⟩ := o1.five
  have hl1 := o1.lt
  clear hb1'
  cases qb with
  | false =>
    go_wp2
    go_ret
    exact ⟨ret_bool (by rw [HS.out] <;> rfl), hb1⟩
  | true =>
    go_wp2_with fail
    refine (CA _ hb1).mono ?_
    rintro en w2 ⟨rfl, hb2'⟩
    have o2 := o1.below hb2'
    have hb2 := hb1.trans (hb2'.mono hb1.size)
    obtain ⟨p20, p21, p22, p23, p24, p25⟩ := o2.five
    have hl2 := o2.lt
    clear hb2'
    go_wp2
    go_ret
    exact ⟨ret_bool (by rw [HS.out] <;> rfl), hb2⟩
theorem ex48 (t : Tree) (hw : wideTr t) (H : KidsAs t) (hK : t.kind = 48) : ExAs t := by
  intro w k a b n v hN
  obtain ⟨ao, m, cap, rfl, hF⟩ := Fl.of hN hw
  have HF : Hid (Fl w t k a b n ao m cap) := hF
  have hk := hF.kind
  have hm1 := hF.2.2.2.1
  have hm2 := hF.2.2.2.2
  have o0 := Own.new w #[.int .u8 k, .int .i64 a, .string b, .int .u64 n, .slice ao m cap] 25
  have hb0 : Below w.heap.size w (w.alloc (.cells #[.int .u8 k, .int .i64 a, .string b, .int .u64 n, .slice ao m cap] 25)) := (Below.refl _ _).alloc (Nat.le_refl _) _
  obtain ⟨qb, hqb⟩ : ∃ q, namedB t.text n false = q := ⟨_, rfl⟩
  have CB : ∀ W : World, Calls Tryz.prog 30 #[.agg #[.int .u8 k, .int .i64 a, .string b, .int .u64 n, .slice ao m cap], .bool false] W fun en w' => en = .returned (.bool qb) ∧ Below W.heap.size W w' := fun W => by have := znamed_as W k a n b (.slice ao m cap) rfl false t.text HF.out.txt; rw [hqb] at this; exact this
  obtain ⟨qa, hqa⟩ : ∃ q, t.kids.all (vR 2) = q := ⟨_, rfl⟩
  have CA : ∀ W : World, Below w.heap.size w W → Calls Tryz.prog 29 #[.slice ao m cap, .int .i64 2] W fun en w' => en = .returned (.bool qa) ∧ Below W.heap.size W w' := fun W hW => zall_as 2 t.kids (H 2 (by omega) (by omega)) W _ (by have := HF.out.kids; rw [HF.out.len] at this; exact this.below hW) qa hqa
  have hn9 : (t.n : Int) = n := HF.out.num.symm
  have hk9 : (t.kind : Int) = 48 := by omega
  have hk2 : k = 48 := by omega
  obtain ⟨qm, hqm⟩ : ∃ q, decide (t.kids.length = 1) = q := ⟨_, rfl⟩
  have hm9 : ((m : Int) == 1) = qm := by rw [← hqm, HF.out.len, Bool.eq_iff_iff]; simp; try omega
  have HS : Hid (vR 2 t = (qb && (qm && qa))) := by unfold Hid; rw [← hqb, ← hqm, ← hqa]; exact ePart t 1 _ (by rw [hk9]; rfl) (by rw [hk9]; rfl) (by rw [hk9, hn9]; simp [textI, numI, namedB, Bool.and_comm]) (fun j => by rw [hk9]; simp [asksI, eitherI]; exact pick2 j)
  subst hk2
  clear hF hN hk hk9 hn9 hqb hK hqa hqm
  go_enter Tryz.func27, Tryz.ntmps27
  go_wp2_with fail
  refine (CB _).mono ?_
  rintro en w1 ⟨rfl, hb1'⟩
  have o1 := o0.below hb1'
  have hb1 := hb0.trans (hb1'.mono hb0.size)
  obtain ⟨p10, p11, p12, p13, p14, p15⟩ := o1.five
  have hl1 := o1.lt
  clear hb1'
  cases qb with
  | false =>
    go_wp2
    go_ret
    exact ⟨ret_bool (by rw [HS.out] <;> rfl), hb1⟩
  | true =>
    cases qm with
    | false =>
      go_wp2
      go_ret
      exact ⟨ret_bool (by rw [HS.out] <;> rfl), hb1⟩
    | true =>
      go_wp2_with fail
      refine (CA _ hb1).mono ?_
      rintro en w2 ⟨rfl, hb2'⟩
      have o2 := o1.below hb2'
      have hb2 := hb1.trans (hb2'.mono hb1.size)
      obtain ⟨p20, p21, p22, p23, p24, p25⟩ := o2.five
      have hl2 := o2.lt
      clear hb2'
      go_wp2
      go_ret
      exact ⟨ret_bool (by rw [HS.out] <;> rfl), hb2⟩
theorem ex49 (t : Tree) (hw : wideTr t) (H : KidsAs t) (hK : t.kind = 49) : ExAs t := by
  intro w k a b n v hN
  obtain ⟨ao, m, cap, rfl, hF⟩ := Fl.of hN hw
  have HF : Hid (Fl w t k a b n ao m cap) := hF
  have hk := hF.kind
  have hm1 := hF.2.2.2.1
  have hm2 := hF.2.2.2.2
  have o0 := Own.new w #[.int .u8 k, .int .i64 a, .string b, .int .u64 n, .slice ao m cap] 25
  have hb0 : Below w.heap.size w (w.alloc (.cells #[.int .u8 k, .int .i64 a, .string b, .int .u64 n, .slice ao m cap] 25)) := (Below.refl _ _).alloc (Nat.le_refl _) _
  obtain ⟨qb, hqb⟩ : ∃ q, bareB t.text n = q := ⟨_, rfl⟩
  have CB : ∀ W : World, Calls Tryz.prog 26 #[.agg #[.int .u8 k, .int .i64 a, .string b, .int .u64 n, .slice ao m cap]] W fun en w' => en = .returned (.bool qb) ∧ Below W.heap.size W w' := fun W => by have := zbare_as W k a n b (.slice ao m cap) rfl t.text HF.out.txt; rw [hqb] at this; exact this
  obtain ⟨qa, hqa⟩ : ∃ q, t.kids.all (vR 2) = q := ⟨_, rfl⟩
  have CA : ∀ W : World, Below w.heap.size w W → Calls Tryz.prog 29 #[.slice ao m cap, .int .i64 2] W fun en w' => en = .returned (.bool qa) ∧ Below W.heap.size W w' := fun W hW => zall_as 2 t.kids (H 2 (by omega) (by omega)) W _ (by have := HF.out.kids; rw [HF.out.len] at this; exact this.below hW) qa hqa
  have hn9 : (t.n : Int) = n := HF.out.num.symm
  have hk9 : (t.kind : Int) = 49 := by omega
  have hk2 : k = 49 := by omega
  obtain ⟨qm, hqm⟩ : ∃ q, decide (t.kids.length = 2) = q := ⟨_, rfl⟩
  have hm9 : ((m : Int) == 2) = qm := by rw [← hqm, HF.out.len, Bool.eq_iff_iff]; simp; try omega
  have HS : Hid (vR 2 t = (qb && (qm && qa))) := by unfold Hid; rw [← hqb, ← hqm, ← hqa]; exact ePart t 2 _ (by rw [hk9]; rfl) (by rw [hk9]; rfl) (by rw [hk9, hn9]; simp [textI, numI, bareB]) (fun j => by rw [hk9]; simp [asksI, eitherI]; exact pick2 j)
  subst hk2
  clear hF hN hk hk9 hn9 hqb hK hqa hqm
  go_enter Tryz.func27, Tryz.ntmps27
  go_wp2_with fail
  refine (CB _).mono ?_
  rintro en w1 ⟨rfl, hb1'⟩
  have o1 := o0.below hb1'
  have hb1 := hb0.trans (hb1'.mono hb0.size)
  obtain ⟨p10, p11, p12, p13, p14, p15⟩ := o1.five
  have hl1 := o1.lt
  clear hb1'
  cases qb with
  | false =>
    go_wp2
    go_ret
    exact ⟨ret_bool (by rw [HS.out] <;> rfl), hb1⟩
  | true =>
    cases qm with
    | false =>
      go_wp2
      go_ret
      exact ⟨ret_bool (by rw [HS.out] <;> rfl), hb1⟩
    | true =>
      go_wp2_with fail
      refine (CA _ hb1).mono ?_
      rintro en w2 ⟨rfl, hb2'⟩
      have o2 := o1.below hb2'
      have hb2 := hb1.trans (hb2'.mono hb1.size)
      obtain ⟨p20, p21, p22, p23, p24, p25⟩ := o2.five
      have hl2 := o2.lt
      clear hb2'
      go_wp2
      go_ret
      exact ⟨ret_bool (by rw [HS.out] <;> rfl), hb2⟩
set_option linter.unusedSimpArgs false
theorem zset_as (t : Tree) (hw : wideTr t) (H : KidsAs t) : SetAs t := by
  intro w k a b n v hN
  obtain ⟨ao, m, cap, rfl, hF⟩ := Fl.of hN hw
  have HF : Hid (Fl w t k a b n ao m cap) := hF
  have hk := hF.kind
  have hm1 := hF.2.2.2.1
  have hm2 := hF.2.2.2.2
  have o0 := Own.new w #[.int .u8 k, .int .i64 a, .string b, .int .u64 n, .slice ao m cap] 25
  have hb0 : Below w.heap.size w (w.alloc (.cells #[.int .u8 k, .int .i64 a, .string b, .int .u64 n, .slice ao m cap] 25)) := (Below.refl _ _).alloc (Nat.le_refl _) _
  obtain ⟨qb, hqb⟩ : ∃ q, bareB t.text n = q := ⟨_, rfl⟩
  have CB : ∀ W : World, Calls Tryz.prog 26 #[.agg #[.int .u8 k, .int .i64 a, .string b, .int .u64 n, .slice ao m cap]] W fun en w' => en = .returned (.bool qb) ∧ Below W.heap.size W w' := fun W => by have := zbare_as W k a n b (.slice ao m cap) rfl t.text HF.out.txt; rw [hqb] at this; exact this
  clear hF hN
  by_cases hk12 : k = 12
  · by_cases hm : m = 2
    · obtain ⟨t0, t1, hks⟩ : ∃ t0 t1, t.kids = [t0, t1] := by have hl := HF.out.len; rw [hm] at hl; exact list2 hl
      obtain ⟨g, o, aj0, cj0, rfl, hg, hK0⟩ := HF.out.kid2 0 t0 (by rw [hks]; rfl)
      have HK0 : Hid (∀ W, Below w.heap.size w W → W.cell? ⟨g, o, none⟩ = some (.int .u8 (t0.kind : Int)) ∧ W.cell? ⟨g, o + 1, none⟩ = some (.int .i64 t0.at_) ∧ W.cell? ⟨g, o + 2, none⟩ = some (.string (strN t0.text)) ∧ W.cell? ⟨g, o + 3, none⟩ = some (.int .u64 (t0.n : Int)) ∧ W.cell? ⟨g, o + 4, none⟩ = some (.slice aj0 t0.kids.length cj0) ∧ g < W.heap.size) := fun W hW => by have := (hK0 W hW).1; exact this
      obtain ⟨q0, hq0⟩ : ∃ q, vR 19 t0 = q := ⟨_, rfl⟩
      have C0 : ∀ W : World, Below w.heap.size w W → Calls Tryz.prog 14 #[.agg #[.int .u8 (t0.kind : Int), .int .i64 t0.at_, .string (strN t0.text), .int .u64 (t0.n : Int), .slice aj0 t0.kids.length cj0], .int .i64 19] W fun en w' => en = .returned (.bool q0) ∧ Below W.heap.size W w' := fun W hW => by have := H 19 (by omega) (by omega) t0 (by rw [hks]; simp) W _ _ _ _ _ (hK0 W hW).2.1; rw [hq0] at this; exact this
      obtain ⟨g1, o1, aj1, cj1, e1, _, hK1⟩ := HF.out.kid2 1 t1 (by rw [hks]; rfl)
      cases e1
      have HK1 : Hid (∀ W, Below w.heap.size w W → W.cell? ⟨g, o + 5, none⟩ = some (.int .u8 (t1.kind : Int)) ∧ W.cell? ⟨g, o + 6, none⟩ = some (.int .i64 t1.at_) ∧ W.cell? ⟨g, o + 7, none⟩ = some (.string (strN t1.text)) ∧ W.cell? ⟨g, o + 8, none⟩ = some (.int .u64 (t1.n : Int)) ∧ W.cell? ⟨g, o + 9, none⟩ = some (.slice aj1 t1.kids.length cj1) ∧ g < W.heap.size) := fun W hW => by have := (hK1 W hW).1; exact this
      obtain ⟨q1, hq1⟩ : ∃ q, vR 2 t1 = q := ⟨_, rfl⟩
      have C1 : ∀ W : World, Below w.heap.size w W → Calls Tryz.prog 14 #[.agg #[.int .u8 (t1.kind : Int), .int .i64 t1.at_, .string (strN t1.text), .int .u64 (t1.n : Int), .slice aj1 t1.kids.length cj1], .int .i64 2] W fun en w' => en = .returned (.bool q1) ∧ Below W.heap.size W w' := fun W hW => by have := H 2 (by omega) (by omega) t1 (by rw [hks]; simp) W _ _ _ _ _ (hK1 W hW).2.1; rw [hq1] at this; exact this
      have HS : Hid (vS t = (qb && (q1 && q0))) := by
        unfold Hid
        rw [← hqb, ← hq0, ← hq1, HF.out.num]
        obtain ⟨kd, at_, x, nn, ks⟩ := t
        have : kd = 12 := by simp only [] at hk; omega
        simp only [] at hks
        subst this hks
        exact mS2
      subst hk12 hm
      clear hk hqb hq0 hq1 hK0 hK1
      go_enter Tryz.func33, Tryz.ntmps33
      obtain ⟨f00, f01, f02, f03, f04, f05⟩ := HK0.out _ hb0
      obtain ⟨f10, f11, f12, f13, f14, f15⟩ := HK1.out _ hb0
      go_wp2_with fail
      refine (CB _).mono ?_
      rintro en w1 ⟨rfl, hb1'⟩
      have o1 := o0.below hb1'
      have hb1 := hb0.trans (hb1'.mono hb0.size)
      obtain ⟨p10, p11, p12, p13, p14, p15⟩ := o1.five
      have hl1 := o1.lt
      obtain ⟨f00, f01, f02, f03, f04, f05⟩ := HK0.out _ hb1
      obtain ⟨f10, f11, f12, f13, f14, f15⟩ := HK1.out _ hb1
      clear hb1'
      cases qb with
      | false =>
        go_wp2
        go_ret
        exact ⟨ret_bool (by rw [HS.out] <;> rfl), hb1⟩
      | true =>
        go_wp2_with fail
        refine (C1 _ hb1).mono ?_
        rintro en w2 ⟨rfl, hb2'⟩
        have o2 := o1.below hb2'
        have hb2 := hb1.trans (hb2'.mono hb1.size)
        obtain ⟨p20, p21, p22, p23, p24, p25⟩ := o2.five
        have hl2 := o2.lt
        obtain ⟨f00, f01, f02, f03, f04, f05⟩ := HK0.out _ hb2
        obtain ⟨f10, f11, f12, f13, f14, f15⟩ := HK1.out _ hb2
        clear hb2'
        cases q1 with
        | false =>
          go_wp2
          go_ret
          exact ⟨ret_bool (by rw [HS.out] <;> rfl), hb2⟩
        | true =>
          go_wp2_with fail
          refine (C0 _ hb2).mono ?_
          rintro en w3 ⟨rfl, hb3'⟩
          have o3 := o2.below hb3'
          have hb3 := hb2.trans (hb3'.mono hb2.size)
          obtain ⟨p30, p31, p32, p33, p34, p35⟩ := o3.five
          have hl3 := o3.lt
          obtain ⟨f00, f01, f02, f03, f04, f05⟩ := HK0.out _ hb3
          obtain ⟨f10, f11, f12, f13, f14, f15⟩ := HK1.out _ hb3
          clear hb3'
          cases q0 with
          | false =>
            go_wp2
            go_ret
            exact ⟨ret_bool (by rw [HS.out] <;> rfl), hb3⟩
          | true =>
            go_wp2
            go_ret
            exact ⟨ret_bool (by rw [HS.out] <;> rfl), hb3⟩
    · by_cases hm2 : 2 ≤ m
      · obtain ⟨M, ks, z, hks, hM, rfl⟩ : ∃ (M : Nat) (ks : List Tree) (z : Tree), t.kids = ks ++ [z] ∧ ks.length = M ∧ m = M + 1 := split_last HF.out.len hm2
        have hzj : t.kids[M]? = some z := by rw [hks, List.getElem?_append_right (by omega), hM]; simp
        obtain ⟨g, o, ajz, cjz, rfl, hg, hKz⟩ := HF.out.kid2 M z hzj
        have HKz : Hid (∀ W, Below w.heap.size w W → Cel W g o M z ajz cjz) := fun W hW => (hKz W hW).1
        obtain ⟨qz, hqz⟩ : ∃ q, vR 2 z = q := ⟨_, rfl⟩
        have CZ : ∀ W : World, Below w.heap.size w W → Calls Tryz.prog 14 #[.agg #[.int .u8 (z.kind : Int), .int .i64 z.at_, .string (strN z.text), .int .u64 (z.n : Int), .slice ajz z.kids.length cjz], .int .i64 2] W fun en w' => en = .returned (.bool qz) ∧ Below W.heap.size W w' := fun W hW => by have := H 2 (by omega) (by omega) z (by rw [hks]; simp) W _ _ _ _ _ (hKz W hW).2.1; rw [hqz] at this; exact this
        have HS : Hid (vS t = (qb && (qz && ks.all (fun u => u.kind == 44 && vR 2 u)))) := by
          unfold Hid
          rw [← hqb, ← hqz, HF.out.num]
          obtain ⟨kd, at_, x, nn, kk⟩ := t
          have : kd = 12 := by simp only [] at hk; omega
          simp only [] at hks
          subst this hks
          exact mSn (by omega) (by omega)
        have hM1 : 2 ≤ M := by omega
        have hi1 : ¬ ((M : Int) + 1 < 2) := by omega
        have hi2 : (M : Int) + 1 - 1 = (M : Int) := by omega
        have hi3 : ((M : Int) + 1 == 2) = false := by simp; omega
        have HKS : Hid (t.kids = ks ++ [z]) := hks
        have HM : Hid (ks.length = M) := hM
        subst hk12
        clear hk hqb hqz hKz hzj hm hks hM
        go_enter Tryz.func33, Tryz.ntmps33
        go_wp2_with fail
        refine (CB _).mono ?_
        rintro en w1 ⟨rfl, hb1'⟩
        have o1 := o0.below hb1'
        have hb1 := hb0.trans (hb1'.mono hb0.size)
        obtain ⟨p10, p11, p12, p13, p14, p15⟩ := o1.five
        have hl1 := o1.lt
        clear hb1'
        obtain ⟨f0, f1, f2, f3, f4, f5⟩ := HKz.out _ hb1
        cases qb with
        | false =>
          go_wp2
          go_ret
          exact ⟨ret_bool (by rw [HS.out] <;> rfl), hb1⟩
        | true =>
          go_wp2_with fail
          refine (CZ _ hb1).mono ?_
          rintro en w2 ⟨rfl, hb2'⟩
          have o2 := o1.below hb2'
          have hb2 := hb1.trans (hb2'.mono hb1.size)
          obtain ⟨p20, p21, p22, p23, p24, p25⟩ := o2.five
          have hl2 := o2.lt
          clear hb2'
          cases qz with
          | false =>
            go_wp2
            go_ret
            exact ⟨ret_bool (by rw [HS.out] <;> rfl), hb2⟩
          | true =>
            go_wp2_with fail
            go_loopg [4] M (fun g2 iv wr => KRel w #[.int .u8 12, .int .i64 a, .string b, .int .u64 n, .slice (some ⟨g, o, none⟩) (M + 1) cap] ks (fun _ u => u.kind == 44 && vR 2 u) 0 M g2 iv wr)
            case atStart => exact ⟨0, by omega, Nat.le_refl _, rfl, o2, hb2, fun i u _ h => by omega⟩
            case round =>
              clear o0 hb0 o1 hb1 o2 hb2 p10 p11 p12 p13 p14 p15 p20 p21 p22 p23 p24 p25 f0 f1 f2 f3 f4 f5 hl1 hl2
              obtain ⟨j, hj, _, rfl, o0, hb0, hno⟩ := hrel
              have HNO : Hid (∀ i u, 0 ≤ i → i < j → ks[i]? = some u → (u.kind == 44 && vR 2 u) = true) := hno
              have HJ : Hid (j + gk = M) := hj
              obtain ⟨p00, p01, p02, p03, p04, p05⟩ := o0.five
              have hl0 := o0.lt
              clear hno
              by_cases hlt : j < M
              · obtain ⟨u, hu⟩ : ∃ u, ks[j]? = some u := ⟨ks[j]'(by rw [HM.out]; exact hlt), List.getElem?_eq_getElem _⟩
                have hut : t.kids[j]? = some u := by rw [HKS.out, List.getElem?_append_left (by rw [HM.out]; exact hlt)]; exact hu
                obtain ⟨g3, o3, aju, cju, e3, hg3, hKu⟩ := HF.out.kid2 j u hut
                cases e3
                have HKu : Hid (∀ W, Below w.heap.size w W → Cel W g o j u aju cju) := fun W hW => (hKu W hW).1
                obtain ⟨q2, hq2⟩ : ∃ q, vR 2 u = q := ⟨_, rfl⟩
                have C2 : ∀ W : World, Below w.heap.size w W → Calls Tryz.prog 14 #[.agg #[.int .u8 (u.kind : Int), .int .i64 u.at_, .string (strN u.text), .int .u64 (u.n : Int), .slice aju u.kids.length cju], .int .i64 2] W fun en w' => en = .returned (.bool q2) ∧ Below W.heap.size W w' := fun W hW => by have := H 2 (by omega) (by omega) u (List.mem_of_getElem? hut) W _ _ _ _ _ (hKu W hW).2.1; rw [hq2] at this; exact this
                have HU : Hid (ks[j]? = some u) := hu
                have i1 : (j : Int) < (M : Int) := by omega
                have i2 : (0 : Int) ≤ (j : Int) := by omega
                have i3 : (j : Int) < (M : Int) + 1 := by omega
                have hg1 : 1 ≤ gk := by have := HJ.out; omega
                clear hu hut hKu hj
                obtain ⟨kz, hkz⟩ : ∃ kz : Int, (u.kind : Int) = kz := ⟨_, rfl⟩
                obtain ⟨q4, hq4⟩ : ∃ q, (u.kind == 44) = q := ⟨_, rfl⟩
                have hkn : (kz != 44) = !q4 := by rw [← hq4, ← hkz, Bool.eq_iff_iff]; simp; try omega
                have HP : Hid ((u.kind == 44 && vR 2 u) = (q4 && q2)) := by unfold Hid; rw [hq2, hq4]
                clear hq2 hq4
                have HKu2 : Hid (∀ W, Below w.heap.size w W → Cel W g o j u aju cju) := HKu
                obtain ⟨f0, f1, f2, f3, f4, f5⟩ := HKu.out _ hb0
                rw [hkz] at f0
                simp only [hkz] at C2
                cases q4 with
                | false =>
                  simp only [Bool.not_false] at hkn
                  have hz : ks.all (fun u => u.kind == 44 && vR 2 u) = false := all_not HU.out (by rw [HP.out]; rfl)
                  have HS2 : Hid (vS t = false) := by unfold Hid; rw [HS.out, hz]; rfl
                  clear hz
                  go_wp2
                  go_ret
                  exact ⟨ret_bool HS2.out.symm, hb0⟩
                | true =>
                  simp only [Bool.not_true] at hkn
                  go_wp2_with fail
                  refine (C2 _ hb0).mono ?_
                  rintro en w1 ⟨rfl, hb1'⟩
                  have o1 := o0.below hb1'
                  have hb1 := hb0.trans (hb1'.mono hb0.size)
                  obtain ⟨p10, p11, p12, p13, p14, p15⟩ := o1.five
                  have hl1 := o1.lt
                  clear hb1'
                  cases q2 with
                  | false =>
                    have hz : ks.all (fun u => u.kind == 44 && vR 2 u) = false := all_not HU.out (by rw [HP.out]; rfl)
                    have HS2 : Hid (vS t = false) := by unfold Hid; rw [HS.out, hz]; rfl
                    clear hz
                    go_wp2
                    go_ret
                    exact ⟨ret_bool HS2.out.symm, hb1⟩
                  | true =>
                    have HN2 : Hid (∀ i y, 0 ≤ i → i < j + 1 → ks[i]? = some y → (y.kind == 44 && vR 2 y) = true) := fun i y hi0 hi hy => by
                      by_cases e : i = j
                      · subst e; rw [HU.out] at hy; cases hy; rw [HP.out]; rfl
                      · exact HNO.out i y hi0 (by omega) hy
                    go_wp2
                    go_roundg (gk - 1)
                    case rel => exact ⟨j + 1, by have := HJ.out; omega, by omega, by go_num, o1, hb1, HN2.out⟩
                    case measure => omega
              · have i1 : ¬ (j : Int) < (M : Int) := by omega
                have hz : ks.all (fun u => u.kind == 44 && vR 2 u) = true := all_get fun i u hu => HNO.out i u (by omega) (by have : i < ks.length := (List.getElem?_eq_some_iff.1 hu).1; rw [HM.out] at this; omega) hu
                have HS2 : Hid (vS t = true) := by unfold Hid; rw [HS.out, hz]; rfl
                clear hz
                go_wp2
                go_ret
                exact ⟨ret_bool HS2.out.symm, hb0⟩
      · have HS : Hid (vS t = false) := by
          unfold Hid
          rw [vS, valid_core]
          have h1 : (t.kind : Int) = 12 := by omega
          have h2 : ¬ (2 ≤ (t.kids.length : Int)) := by have := HF.out.len; omega
          rw [core_less _ _ (by rw [h1]; exact h2)]
          simp
        have hm3 : (m : Int) < 2 := by omega
        subst hk12
        clear hk hqb hm hm2
        go_enter Tryz.func33, Tryz.ntmps33
        go_wp2_with fail
        refine (CB _).mono ?_
        rintro en w1 ⟨rfl, hb1'⟩
        have o1 := o0.below hb1'
        have hb1 := hb0.trans (hb1'.mono hb0.size)
        obtain ⟨p10, p11, p12, p13, p14, p15⟩ := o1.five
        have hl1 := o1.lt
        clear hb1'
        cases qb with
        | true =>
          go_wp2
          go_ret
          exact ⟨ret_bool (by rw [HS.out] <;> rfl), hb1⟩
        | false =>
          go_wp2
          go_ret
          exact ⟨ret_bool (by rw [HS.out] <;> rfl), hb1⟩
  · have HS : Hid (vS t = false) := by
      unfold Hid
      have h2 : (t.kind == 12) = false := by simp; omega
      rw [vS, h2]; rfl
    have z12 : (k != 12) = true := by simpa using hk12
    clear hk hk12 hqb
    go_enter Tryz.func33, Tryz.ntmps33
    go_wp2
    go_ret
    exact ⟨ret_bool (by rw [HS.out] <;> rfl), hb0⟩
end Go.Proofs.YtmhnbklchnnbaaaGreatDoor
