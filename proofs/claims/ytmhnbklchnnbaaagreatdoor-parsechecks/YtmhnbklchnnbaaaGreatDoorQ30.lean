import Derived.Test.YtmhnbklchnnbaaaGreatDoorQ28
set_option maxHeartbeats 8000000
set_option maxRecDepth 100000
namespace Go.Proofs.YtmhnbklchnnbaaaGreatDoor
open Go.RowKit
set_option linter.unusedVariables false
set_option linter.unusedSimpArgs false
theorem is10 (t : Tree) (hw : wideTr t) (H : KidsAs t) (H9 : IsAs 9 t) : IsAs 10 t := by
  intro w k a b n v hN
  obtain ⟨ao, m, cap, rfl, hF⟩ := Fl.of hN hw
  have HF : Hid (Fl w t k a b n ao m cap) := hF
  have hk := hF.kind
  have hm1 := hF.2.2.2.1
  have hm2 := hF.2.2.2.2
  have o0 := Own.new w #[.int .u8 k, .int .i64 a, .string b, .int .u64 n, .slice ao m cap] 25
  have hb0 : Below w.heap.size w (w.alloc (.cells #[.int .u8 k, .int .i64 a, .string b, .int .u64 n, .slice ao m cap] 25)) := (Below.refl _ _).alloc (Nat.le_refl _) _
  obtain ⟨qb, hqb⟩ : ∃ q, bareB t.text n = q := ⟨_, rfl⟩
  have CB : ∀ W : World, Calls Tryz.prog 26 #[.agg #[.int .u8 k, .int .i64 a, .string b, .int .u64 n, .slice ao m cap]] W fun en w' => en = .returned (.bool qb) ∧ Below W.heap.size W w' := fun W => by have := zbare_as W k a n b (.slice ao m cap) rfl t.text HF.out.txt; rw [hqb] at this; exact this
  obtain ⟨q9, hq9⟩ : ∃ q, vR 9 t = q := ⟨_, rfl⟩
  have C9 : ∀ W : World, Below w.heap.size w W → Calls Tryz.prog 14 #[.agg #[.int .u8 k, .int .i64 a, .string b, .int .u64 n, .slice ao m cap], .int .i64 9] W fun en w' => en = .returned (.bool q9) ∧ Below W.heap.size W w' := fun W hW => by have := H9 W k a b n (.slice ao m cap) (HF.out.below hW).1; rw [hq9] at this; exact this
  clear hF hN
  by_cases hk40 : k = 40
  · have HS : Hid (vR 10 t = q9) := by
      unfold Hid
      rw [← hq9, vR_9, vR_10, valid_core, valid_core 15]
      have h1 : (t.kind : Int) = 40 := by omega
      rw [h1, coreT_role 14 15 t (by omega)]
      rfl
    subst hk40
    clear hk hq9 hqb
    go_enter Tryz.func14, Tryz.ntmps14
    go_wp2_with fail
    refine (C9 _ hb0).mono ?_
    rintro en w1 ⟨rfl, hb1'⟩
    have o1 := o0.below hb1'
    have hb1 := hb0.trans (hb1'.mono hb0.size)
    obtain ⟨p10, p11, p12, p13, p14, p15⟩ := o1.five
    have hl1 := o1.lt
    clear hb1'
    cases q9 with
    | true =>
      go_wp2
      go_ret
      exact ⟨ret_bool (by rw [HS.out] <;> rfl), hb1⟩
    | false =>
      go_wp2
      go_ret
      exact ⟨ret_bool (by rw [HS.out] <;> rfl), hb1⟩
  · have h9 : q9 = false := by
      rw [← hq9, vR_9, valid_core]
      have h1 : ¬ (t.kind : Int) = 40 := by omega
      simp [takesI, h1]
    subst h9
    by_cases hk55 : k = 55
    · by_cases hm : m = 1
      · obtain ⟨t0, hks⟩ : ∃ t0, t.kids = [t0] := by have hl := HF.out.len; rw [hm] at hl; exact list1 hl
        obtain ⟨g, o, aj0, cj0, rfl, hg, hK0⟩ := HF.out.kid2 0 t0 (by rw [hks]; rfl)
        have HK0 : Hid (∀ W, Below w.heap.size w W → W.cell? ⟨g, o, none⟩ = some (.int .u8 (t0.kind : Int)) ∧ W.cell? ⟨g, o + 1, none⟩ = some (.int .i64 t0.at_) ∧ W.cell? ⟨g, o + 2, none⟩ = some (.string (strN t0.text)) ∧ W.cell? ⟨g, o + 3, none⟩ = some (.int .u64 (t0.n : Int)) ∧ W.cell? ⟨g, o + 4, none⟩ = some (.slice aj0 t0.kids.length cj0) ∧ g < W.heap.size) := fun W hW => by have := (hK0 W hW).1; exact this
        obtain ⟨q0, hq0⟩ : ∃ q, vR 9 t0 = q := ⟨_, rfl⟩
        have C0 : ∀ W : World, Below w.heap.size w W → Calls Tryz.prog 14 #[.agg #[.int .u8 (t0.kind : Int), .int .i64 t0.at_, .string (strN t0.text), .int .u64 (t0.n : Int), .slice aj0 t0.kids.length cj0], .int .i64 9] W fun en w' => en = .returned (.bool q0) ∧ Below W.heap.size W w' := fun W hW => by have := H 9 (by omega) (by omega) t0 (by rw [hks]; simp) W _ _ _ _ _ (hK0 W hW).2.1; rw [hq0] at this; exact this
        have HS : Hid (vR 10 t = (qb && q0)) := by
          unfold Hid
          rw [← hqb, ← hq0, HF.out.num]
          obtain ⟨kd, at_, x, nn, ks⟩ := t
          have : kd = 55 := by simp only [] at hk; omega
          simp only [] at hks
          subst this hks
          exact m10_55
        subst hk55 hm
        clear hk hk40 hq9 hqb hq0 hK0
        go_enter Tryz.func14, Tryz.ntmps14
        obtain ⟨f00, f01, f02, f03, f04, f05⟩ := HK0.out _ hb0
        go_wp2_with fail
        refine (C9 _ hb0).mono ?_
        rintro en w1 ⟨rfl, hb1'⟩
        have o1 := o0.below hb1'
        have hb1 := hb0.trans (hb1'.mono hb0.size)
        obtain ⟨p10, p11, p12, p13, p14, p15⟩ := o1.five
        have hl1 := o1.lt
        obtain ⟨f00, f01, f02, f03, f04, f05⟩ := HK0.out _ hb1
        clear hb1'
        go_wp2_with fail
        refine (CB _).mono ?_
        rintro en w2 ⟨rfl, hb2'⟩
        have o2 := o1.below hb2'
        have hb2 := hb1.trans (hb2'.mono hb1.size)
        obtain ⟨p20, p21, p22, p23, p24, p25⟩ := o2.five
        have hl2 := o2.lt
        obtain ⟨f00, f01, f02, f03, f04, f05⟩ := HK0.out _ hb2
        clear hb2'
        cases qb with
        | false =>
          go_wp2
          go_ret
          exact ⟨ret_bool (by rw [HS.out] <;> rfl), hb2⟩
        | true =>
          go_wp2_with fail
          refine (C0 _ hb2).mono ?_
          rintro en w3 ⟨rfl, hb3'⟩
          have o3 := o2.below hb3'
          have hb3 := hb2.trans (hb3'.mono hb2.size)
          obtain ⟨p30, p31, p32, p33, p34, p35⟩ := o3.five
          have hl3 := o3.lt
          obtain ⟨f00, f01, f02, f03, f04, f05⟩ := HK0.out _ hb3
          clear hb3'
          cases q0 with
          | false =>
            go_wp2
            go_ret
            exact ⟨ret_bool (by rw [HS.out] <;> rfl), hb3⟩
          | true =>
            go_wp2
            go_ret
            exact ⟨ret_bool (by rw [HS.out] <;> rfl), hb3⟩
      · have HS : Hid (vR 10 t = false) := by
          unfold Hid
          rw [vR_10, valid_core]
          have h1 : (t.kind : Int) = 55 := by omega
          have h2 : ¬ (t.kids.length : Int) = 1 := by have := HF.out.len; omega
          exact core_no _ _ (by rw [h1]; exact (show (kidsI 55).1 = (kidsI 55).2 from rfl)) (by rw [h1]; exact h2)
        have hm3 : ((m : Int) == 1) = false := by simp; omega
        subst hk55
        clear hk hk40 hq9 hqb hm
        go_enter Tryz.func14, Tryz.ntmps14
        go_wp2_with fail
        refine (C9 _ hb0).mono ?_
        rintro en w1 ⟨rfl, hb1'⟩
        have o1 := o0.below hb1'
        have hb1 := hb0.trans (hb1'.mono hb0.size)
        obtain ⟨p10, p11, p12, p13, p14, p15⟩ := o1.five
        have hl1 := o1.lt
        clear hb1'
        go_wp2_with fail
        refine (CB _).mono ?_
        rintro en w2 ⟨rfl, hb2'⟩
        have o2 := o1.below hb2'
        have hb2 := hb1.trans (hb2'.mono hb1.size)
        obtain ⟨p20, p21, p22, p23, p24, p25⟩ := o2.five
        have hl2 := o2.lt
        clear hb2'
        cases qb with
        | true =>
          go_wp2
          go_ret
          exact ⟨ret_bool (by rw [HS.out] <;> rfl), hb2⟩
        | false =>
          go_wp2
          go_ret
          exact ⟨ret_bool (by rw [HS.out] <;> rfl), hb2⟩
    · have HS : Hid (vR 10 t = false) := by
        unfold Hid
        rw [vR_10, valid_core]
        have a40 : ¬ ((t.kind : Int) = 40) := by omega
        have b40 : (t.kind == 40) = false := by simp; omega
        have a55 : ¬ ((t.kind : Int) = 55) := by omega
        have b55 : (t.kind == 55) = false := by simp; omega
        simp [takesI, a40, b40, a55, b55]
      have z40 : (k == 40) = false := by simpa using hk40
      have z55 : (k == 55) = false := by simpa using hk55
      clear hk hk40 hk55
      clear hq9 hqb
      go_enter Tryz.func14, Tryz.ntmps14
      go_wp2_with fail
      refine (C9 _ hb0).mono ?_
      rintro en w1 ⟨rfl, hb1'⟩
      have o1 := o0.below hb1'
      have hb1 := hb0.trans (hb1'.mono hb0.size)
      obtain ⟨p10, p11, p12, p13, p14, p15⟩ := o1.five
      have hl1 := o1.lt
      clear hb1'
      go_wp2
      go_ret
      exact ⟨ret_bool (by rw [HS.out] <;> rfl), hb1⟩
theorem is11 (t : Tree) (hw : wideTr t) (H : KidsAs t) : IsAs 11 t := by
  intro w k a b n v hN
  obtain ⟨ao, m, cap, rfl, hF⟩ := Fl.of hN hw
  have HF : Hid (Fl w t k a b n ao m cap) := hF
  have hk := hF.kind
  have hm1 := hF.2.2.2.1
  have hm2 := hF.2.2.2.2
  have o0 := Own.new w #[.int .u8 k, .int .i64 a, .string b, .int .u64 n, .slice ao m cap] 25
  have hb0 : Below w.heap.size w (w.alloc (.cells #[.int .u8 k, .int .i64 a, .string b, .int .u64 n, .slice ao m cap] 25)) := (Below.refl _ _).alloc (Nat.le_refl _) _
  obtain ⟨qb, hqb⟩ : ∃ q, bareB t.text n = q := ⟨_, rfl⟩
  have CB : ∀ W : World, Calls Tryz.prog 26 #[.agg #[.int .u8 k, .int .i64 a, .string b, .int .u64 n, .slice ao m cap]] W fun en w' => en = .returned (.bool qb) ∧ Below W.heap.size W w' := fun W => by have := zbare_as W k a n b (.slice ao m cap) rfl t.text HF.out.txt; rw [hqb] at this; exact this
  clear hF hN
  by_cases hk18 : k = 18
  · by_cases hm : 2 ≤ m
    · obtain ⟨M, ks, z, hks, hM, rfl⟩ : ∃ (M : Nat) (ks : List Tree) (z : Tree), t.kids = ks ++ [z] ∧ ks.length = M ∧ m = M + 1 := split_last HF.out.len hm
      have hzj : t.kids[M]? = some z := by rw [hks, List.getElem?_append_right (by omega), hM]; simp
      obtain ⟨g, o, ajz, cjz, rfl, hg, hKz⟩ := HF.out.kid2 M z hzj
      have HKz : Hid (∀ W, Below w.heap.size w W → Cel W g o M z ajz cjz) := fun W hW => (hKz W hW).1
      obtain ⟨qa, hqa⟩ : ∃ q, ks.all (vR 10) = q := ⟨_, rfl⟩
      obtain ⟨qz, hqz⟩ : ∃ q, vR 4 z = q := ⟨_, rfl⟩
      have CA : ∀ W : World, Below w.heap.size w W → Calls Tryz.prog 29 #[.slice (some ⟨g, o, none⟩) M cap, .int .i64 10] W fun en w' => en = .returned (.bool qa) ∧ Below W.heap.size W w' := fun W hW => zall_as 10 ks (fun u hu => H 10 (by omega) (by omega) u (by rw [hks]; simp [hu])) W _ (by have := kidsR_take HF.out.kids M (by rw [HF.out.len]; omega); rw [hks, List.take_left' hM] at this; exact this.below hW) qa hqa
      have CZ : ∀ W : World, Below w.heap.size w W → Calls Tryz.prog 14 #[.agg #[.int .u8 (z.kind : Int), .int .i64 z.at_, .string (strN z.text), .int .u64 (z.n : Int), .slice ajz z.kids.length cjz], .int .i64 4] W fun en w' => en = .returned (.bool qz) ∧ Below W.heap.size W w' := fun W hW => by have := H 4 (by omega) (by omega) z (by rw [hks]; simp) W _ _ _ _ _ (hKz W hW).2.1; rw [hqz] at this; exact this
      have HS : Hid (vR 11 t = (qb && (qa && qz))) := by
        unfold Hid
        rw [← hqb, ← hqa, ← hqz, HF.out.num]
        obtain ⟨kd, at_, x, nn, kk⟩ := t
        have : kd = 18 := by simp only [] at hk; omega
        simp only [] at hks
        subst this hks
        exact m11 (by omega) (by omega)
      have hM1 : 1 ≤ M := by omega
      have hi1 : (2 : Int) ≤ ((M : Int) + 1) := by omega
      have hi2 : (M : Int) + 1 - 1 = (M : Int) := by omega
      subst hk18
      clear hk hqb hqa hqz hKz hzj hM hm
      go_enter Tryz.func14, Tryz.ntmps14
      go_wp2_with fail
      refine (CB _).mono ?_
      rintro en w1 ⟨rfl, hb1'⟩
      have o1 := o0.below hb1'
      have hb1 := hb0.trans (hb1'.mono hb0.size)
      obtain ⟨p10, p11, p12, p13, p14, p15⟩ := o1.five
      have hl1 := o1.lt
      clear hb1'
      cases qb with
      | false =>
        go_wp2
        go_ret
        exact ⟨ret_bool (by rw [HS.out] <;> rfl), hb1⟩
      | true =>
        go_wp2_with fail
        refine (CA _ hb1).mono ?_
        rintro en w2 ⟨rfl, hb2'⟩
        have o2 := o1.below hb2'
        have hb2 := hb1.trans (hb2'.mono hb1.size)
        obtain ⟨p20, p21, p22, p23, p24, p25⟩ := o2.five
        have hl2 := o2.lt
        clear hb2'
        obtain ⟨f0, f1, f2, f3, f4, f5⟩ := HKz.out _ hb2
        cases qa with
        | false =>
          go_wp2
          go_ret
          exact ⟨ret_bool (by rw [HS.out] <;> rfl), hb2⟩
        | true =>
          go_wp2_with fail
          refine (CZ _ hb2).mono ?_
          rintro en w3 ⟨rfl, hb3'⟩
          have o3 := o2.below hb3'
          have hb3 := hb2.trans (hb3'.mono hb2.size)
          obtain ⟨p30, p31, p32, p33, p34, p35⟩ := o3.five
          have hl3 := o3.lt
          clear hb3'
          go_wp2
          go_ret
          exact ⟨ret_bool (by rw [HS.out] <;> rfl), hb3⟩
    · have HS : Hid (vR 11 t = false) := by
        unfold Hid
        rw [vR_11, valid_core]
        have h1 : (t.kind : Int) = 18 := by omega
        have h2 : ¬ (2 ≤ (t.kids.length : Int)) := by have := HF.out.len; omega
        rw [core_less _ _ (by rw [h1]; exact h2)]
      have hm3 : ¬ ((2 : Int) ≤ (m : Int)) := by omega
      subst hk18
      clear hk hqb hm
      go_enter Tryz.func14, Tryz.ntmps14
      go_wp2_with fail
      refine (CB _).mono ?_
      rintro en w1 ⟨rfl, hb1'⟩
      have o1 := o0.below hb1'
      have hb1 := hb0.trans (hb1'.mono hb0.size)
      obtain ⟨p10, p11, p12, p13, p14, p15⟩ := o1.five
      have hl1 := o1.lt
      clear hb1'
      cases qb with
      | true =>
        go_wp2
        go_ret
        exact ⟨ret_bool (by rw [HS.out] <;> rfl), hb1⟩
      | false =>
        go_wp2
        go_ret
        exact ⟨ret_bool (by rw [HS.out] <;> rfl), hb1⟩
  · have HS : Hid (vR 11 t = false) := by
      unfold Hid
      rw [vR_11, valid_core]
      have a18 : ¬ ((t.kind : Int) = 18) := by omega
      have b18 : (t.kind == 18) = false := by simp; omega
      simp [takesI, a18, b18]
    have z18 : (k == 18) = false := by simpa using hk18
    clear hk hk18
    clear hqb
    go_enter Tryz.func14, Tryz.ntmps14
    go_wp2
    go_ret
    exact ⟨ret_bool (by rw [HS.out] <;> rfl), hb0⟩
theorem is17 (t : Tree) (hw : wideTr t) (H : KidsAs t) : IsAs 17 t := by
  intro w k a b n v hN
  obtain ⟨ao, m, cap, rfl, hF⟩ := Fl.of hN hw
  have HF : Hid (Fl w t k a b n ao m cap) := hF
  have hk := hF.kind
  have hm1 := hF.2.2.2.1
  have hm2 := hF.2.2.2.2
  have o0 := Own.new w #[.int .u8 k, .int .i64 a, .string b, .int .u64 n, .slice ao m cap] 25
  have hb0 : Below w.heap.size w (w.alloc (.cells #[.int .u8 k, .int .i64 a, .string b, .int .u64 n, .slice ao m cap] 25)) := (Below.refl _ _).alloc (Nat.le_refl _) _
  obtain ⟨qb, hqb⟩ : ∃ q, bareB t.text n = q := ⟨_, rfl⟩
  have CB : ∀ W : World, Calls Tryz.prog 26 #[.agg #[.int .u8 k, .int .i64 a, .string b, .int .u64 n, .slice ao m cap]] W fun en w' => en = .returned (.bool qb) ∧ Below W.heap.size W w' := fun W => by have := zbare_as W k a n b (.slice ao m cap) rfl t.text HF.out.txt; rw [hqb] at this; exact this
  clear hF hN
  by_cases hk11 : k = 11
  · by_cases hm : 2 ≤ m
    · obtain ⟨M, ks, z, hks, hM, rfl⟩ : ∃ (M : Nat) (ks : List Tree) (z : Tree), t.kids = ks ++ [z] ∧ ks.length = M ∧ m = M + 1 := split_last HF.out.len hm
      have hzj : t.kids[M]? = some z := by rw [hks, List.getElem?_append_right (by omega), hM]; simp
      obtain ⟨g, o, ajz, cjz, rfl, hg, hKz⟩ := HF.out.kid2 M z hzj
      have HKz : Hid (∀ W, Below w.heap.size w W → Cel W g o M z ajz cjz) := fun W hW => (hKz W hW).1
      obtain ⟨qa, hqa⟩ : ∃ q, ks.all (vR 13) = q := ⟨_, rfl⟩
      obtain ⟨qz, hqz⟩ : ∃ q, vR 2 z = q := ⟨_, rfl⟩
      have CA : ∀ W : World, Below w.heap.size w W → Calls Tryz.prog 29 #[.slice (some ⟨g, o, none⟩) M cap, .int .i64 13] W fun en w' => en = .returned (.bool qa) ∧ Below W.heap.size W w' := fun W hW => zall_as 13 ks (fun u hu => H 13 (by omega) (by omega) u (by rw [hks]; simp [hu])) W _ (by have := kidsR_take HF.out.kids M (by rw [HF.out.len]; omega); rw [hks, List.take_left' hM] at this; exact this.below hW) qa hqa
      have CZ : ∀ W : World, Below w.heap.size w W → Calls Tryz.prog 14 #[.agg #[.int .u8 (z.kind : Int), .int .i64 z.at_, .string (strN z.text), .int .u64 (z.n : Int), .slice ajz z.kids.length cjz], .int .i64 2] W fun en w' => en = .returned (.bool qz) ∧ Below W.heap.size W w' := fun W hW => by have := H 2 (by omega) (by omega) z (by rw [hks]; simp) W _ _ _ _ _ (hKz W hW).2.1; rw [hqz] at this; exact this
      have HS : Hid (vR 17 t = (qb && (qa && qz))) := by
        unfold Hid
        rw [← hqb, ← hqa, ← hqz, HF.out.num]
        obtain ⟨kd, at_, x, nn, kk⟩ := t
        have : kd = 11 := by simp only [] at hk; omega
        simp only [] at hks
        subst this hks
        exact m17 (by omega) (by omega)
      have hM1 : 1 ≤ M := by omega
      have hi1 : (2 : Int) ≤ ((M : Int) + 1) := by omega
      have hi2 : (M : Int) + 1 - 1 = (M : Int) := by omega
      subst hk11
      clear hk hqb hqa hqz hKz hzj hM hm
      go_enter Tryz.func14, Tryz.ntmps14
      go_wp2_with fail
      refine (CB _).mono ?_
      rintro en w1 ⟨rfl, hb1'⟩
      have o1 := o0.below hb1'
      have hb1 := hb0.trans (hb1'.mono hb0.size)
      obtain ⟨p10, p11, p12, p13, p14, p15⟩ := o1.five
      have hl1 := o1.lt
      clear hb1'
      cases qb with
      | false =>
        go_wp2
        go_ret
        exact ⟨ret_bool (by rw [HS.out] <;> rfl), hb1⟩
      | true =>
        go_wp2_with fail
        refine (CA _ hb1).mono ?_
        rintro en w2 ⟨rfl, hb2'⟩
        have o2 := o1.below hb2'
        have hb2 := hb1.trans (hb2'.mono hb1.size)
        obtain ⟨p20, p21, p22, p23, p24, p25⟩ := o2.five
        have hl2 := o2.lt
        clear hb2'
        obtain ⟨f0, f1, f2, f3, f4, f5⟩ := HKz.out _ hb2
        cases qa with
        | false =>
          go_wp2
          go_ret
          exact ⟨ret_bool (by rw [HS.out] <;> rfl), hb2⟩
        | true =>
          go_wp2_with fail
          refine (CZ _ hb2).mono ?_
          rintro en w3 ⟨rfl, hb3'⟩
          have o3 := o2.below hb3'
          have hb3 := hb2.trans (hb3'.mono hb2.size)
          obtain ⟨p30, p31, p32, p33, p34, p35⟩ := o3.five
          have hl3 := o3.lt
          clear hb3'
          go_wp2
          go_ret
          exact ⟨ret_bool (by rw [HS.out] <;> rfl), hb3⟩
    · have HS : Hid (vR 17 t = false) := by
        unfold Hid
        rw [vR_17, valid_core]
        have h1 : (t.kind : Int) = 11 := by omega
        have h2 : ¬ (2 ≤ (t.kids.length : Int)) := by have := HF.out.len; omega
        rw [core_less _ _ (by rw [h1]; exact h2)]
        simp
      have hm3 : ¬ ((2 : Int) ≤ (m : Int)) := by omega
      subst hk11
      clear hk hqb hm
      go_enter Tryz.func14, Tryz.ntmps14
      go_wp2_with fail
      refine (CB _).mono ?_
      rintro en w1 ⟨rfl, hb1'⟩
      have o1 := o0.below hb1'
      have hb1 := hb0.trans (hb1'.mono hb0.size)
      obtain ⟨p10, p11, p12, p13, p14, p15⟩ := o1.five
      have hl1 := o1.lt
      clear hb1'
      cases qb with
      | true =>
        go_wp2
        go_ret
        exact ⟨ret_bool (by rw [HS.out] <;> rfl), hb1⟩
      | false =>
        go_wp2
        go_ret
        exact ⟨ret_bool (by rw [HS.out] <;> rfl), hb1⟩
  · have HS : Hid (vR 17 t = false) := by
      unfold Hid
      rw [vR_17, valid_core]
      have a11 : ¬ ((t.kind : Int) = 11) := by omega
      have b11 : (t.kind == 11) = false := by simp; omega
      simp [takesI, a11, b11]
    have z11 : (k == 11) = false := by simpa using hk11
    clear hk hk11
    clear hqb
    go_enter Tryz.func14, Tryz.ntmps14
    go_wp2
    go_ret
    exact ⟨ret_bool (by rw [HS.out] <;> rfl), hb0⟩
set_option linter.unusedSimpArgs false
theorem is9_b (w : World) (t : Tree) (a : Int) (b : ByteArray) (n : Int) (ao : Option Addr) (cap : Nat)  (HF : Hid (Fl w t 40 a b n ao 0 cap)) (hx : (t.text == []) = false) (hi : isIntL t.text = true) : Calls Tryz.prog 14 #[.agg #[.int .u8 40, .int .i64 a, .string b, .int .u64 n, .slice ao 0 cap], .int .i64 9] w fun en w' => en = .returned (.bool (decide (n ≤ (topN t.text : Int)))) ∧ Below w.heap.size w w' := by
  have o0 := Own.new w #[.int .u8 40, .int .i64 a, .string b, .int .u64 n, .slice ao 0 cap] 25
  have hb0 : Below w.heap.size w (w.alloc (.cells #[.int .u8 40, .int .i64 a, .string b, .int .u64 n, .slice ao 0 cap] 25)) := (Below.refl _ _).alloc (Nat.le_refl _) _
  obtain ⟨p00, p01, p02, p03, p04, p05⟩ := o0.five
  have e4 : (b.toList == []) = (t.text == []) := txt_lit b t.text HF.out.txt ⟨#[]⟩
  rw [hx] at e4
  have CT := CTop b (topN t.text) (by rw [HF.out.bn])
  have CM := CAmong b intXs 3 rfl (by omega) true ((among_ints HF.out.txt).trans hi)
  clear hx hi
  go_enter Tryz.func14, Tryz.ntmps14
  go_wp2_with fail
  have hl0d := o0.lt
  refine wp_region_held_drew (S := (fun w' => w'.cell? ⟨w.heap.size, 0, none⟩ = some (.int .u8 40) ∧ w'.cell? ⟨w.heap.size, 1, none⟩ = some (.int .i64 a) ∧ w'.cell? ⟨w.heap.size, 2, none⟩ = some (.string b) ∧ w'.cell? ⟨w.heap.size, 3, none⟩ = some (.int .u64 n) ∧ w'.cell? ⟨w.heap.size, 4, none⟩ = some (.slice ao 0 cap))) (by kernel_rfl) (by exact ⟨p00, p01, p02, p03, p04⟩) (fun hHeld => ?_)
  refine wpAnyH_take (i := 0) (v := ?v0) rfl (by kernel_rfl) (by kernel_rfl) (by kernel_rfl) (fun _ _ _ h => h) (Or.inl ⟨by rfl, ?hy0⟩) (by assumption) ?rest0
  case hy0 => (intro wS hSw; (try dsimp only at hSw); go_simp; try with_reducible rfl)
  try simp only [Act.put, List.getElem_toArray, List.getElem_cons_zero, List.getElem_cons_succ, List.setIfInBounds_toArray, List.set_cons_zero, List.set_cons_succ]
  refine wpAnyH_take (i := 1) (v := ?v1) rfl (by kernel_rfl) (by kernel_rfl) (by kernel_rfl) (fun _ _ _ h => h) (Or.inl ⟨by rfl, ?hy1⟩) (by assumption) ?rest1
  case hy1 => (intro wS hSw; (try dsimp only at hSw); go_simp; try with_reducible rfl)
  try simp only [Act.put, List.getElem_toArray, List.getElem_cons_zero, List.getElem_cons_succ, List.setIfInBounds_toArray, List.set_cons_zero, List.set_cons_succ]
  refine wpAnyH_take (i := 2) (v := ?v2) rfl (by kernel_rfl) (by kernel_rfl) (by kernel_rfl) (fun _ _ _ h => h) (Or.inl ⟨by rfl, ?hy2⟩) (by assumption) ?rest2
  case hy2 => (intro wS hSw; (try dsimp only at hSw); go_simp; try with_reducible rfl)
  try simp only [Act.put, List.getElem_toArray, List.getElem_cons_zero, List.getElem_cons_succ, List.setIfInBounds_toArray, List.set_cons_zero, List.set_cons_succ]
  refine wpAnyH_take (i := 3) (v := ?v3) rfl (by kernel_rfl) (by kernel_rfl) (by kernel_rfl) (fun _ _ _ h => h) (Or.inl ⟨by rfl, ?hy3⟩) (by assumption) ?rest3
  case hy3 => (intro wS hSw; (try dsimp only at hSw); go_simp; try with_reducible rfl)
  try simp only [Act.put, List.getElem_toArray, List.getElem_cons_zero, List.getElem_cons_succ, List.setIfInBounds_toArray, List.set_cons_zero, List.set_cons_succ]
  refine wpAnyH_take (i := 4) (v := ?v4) rfl (by kernel_rfl) (by kernel_rfl) (by kernel_rfl) (fun _ _ _ h => h) (Or.inl ⟨by rfl, ?hy4⟩) (by assumption) ?rest4
  case hy4 => (intro wS hSw; (try dsimp only at hSw); go_simp; try with_reducible rfl)
  try simp only [Act.put, List.getElem_toArray, List.getElem_cons_zero, List.getElem_cons_succ, List.setIfInBounds_toArray, List.set_cons_zero, List.set_cons_succ]
  refine wpAnyH_take (i := 5) (v := ?v5) rfl (by kernel_rfl) (by kernel_rfl) (by kernel_rfl) (fun _ _ _ h => h) (Or.inl ⟨by rfl, ?hy5⟩) (by assumption) ?rest5
  case hy5 => (intro wS hSw; (try dsimp only at hSw); go_simp; try with_reducible rfl)
  try simp only [Act.put, List.getElem_toArray, List.getElem_cons_zero, List.getElem_cons_succ, List.setIfInBounds_toArray, List.set_cons_zero, List.set_cons_succ]
  refine wpAnyH_take (i := 6) (v := ?v6) rfl (by kernel_rfl) (by kernel_rfl) (by kernel_rfl) (fun _ _ _ h => h) (Or.inl ⟨by rfl, ?hy6⟩) (by assumption) ?rest6
  case hy6 => (intro wS hSw; (try dsimp only at hSw); go_simp; try with_reducible rfl)
  try simp only [Act.put, List.getElem_toArray, List.getElem_cons_zero, List.getElem_cons_succ, List.setIfInBounds_toArray, List.set_cons_zero, List.set_cons_succ]
  refine wpAnyH_take (i := 7) (v := ?v7) rfl (by kernel_rfl) (by kernel_rfl) (by kernel_rfl) (fun _ _ _ h => h) (Or.inl ⟨by rfl, ?hy7⟩) (by assumption) ?rest7
  case hy7 => (intro wS hSw; (try dsimp only at hSw); go_simp; try with_reducible rfl)
  try simp only [Act.put, List.getElem_toArray, List.getElem_cons_zero, List.getElem_cons_succ, List.setIfInBounds_toArray, List.set_cons_zero, List.set_cons_succ]
  refine wpAnyH_take (i := 8) (v := ?v8) rfl (by kernel_rfl) (by kernel_rfl) (by kernel_rfl) (fun _ _ _ h => h) (Or.inl ⟨by rfl, ?hy8⟩) (by assumption) ?rest8
  case hy8 => (intro wS hSw; (try dsimp only at hSw); go_simp; try with_reducible rfl)
  try simp only [Act.put, List.getElem_toArray, List.getElem_cons_zero, List.getElem_cons_succ, List.setIfInBounds_toArray, List.set_cons_zero, List.set_cons_succ]
  refine wpAnyH_take (i := 9) (v := ?v9) rfl (by kernel_rfl) (by kernel_rfl) (by kernel_rfl) (fun _ _ _ h => h) (Or.inl ⟨by rfl, ?hy9⟩) (by assumption) ?rest9
  case hy9 => (intro wS hSw; (try dsimp only at hSw); go_simp; try with_reducible rfl)
  try simp only [Act.put, List.getElem_toArray, List.getElem_cons_zero, List.getElem_cons_succ, List.setIfInBounds_toArray, List.set_cons_zero, List.set_cons_succ]
  refine wpAnyH_take (i := 10) (v := ?v10) rfl (by kernel_rfl) (by kernel_rfl) (by kernel_rfl) (fun _ _ _ h => h) (Or.inl ⟨by rfl, ?hy10⟩) (by assumption) ?rest10
  case hy10 => (intro wS hSw; (try dsimp only at hSw); go_simp; try with_reducible rfl)
  try simp only [Act.put, List.getElem_toArray, List.getElem_cons_zero, List.getElem_cons_succ, List.setIfInBounds_toArray, List.set_cons_zero, List.set_cons_succ]
  refine wpAnyH_take (i := 11) (v := ?v11) rfl (by kernel_rfl) (by kernel_rfl) (by kernel_rfl) (fun _ _ _ h => h) (Or.inl ⟨by rfl, ?hy11⟩) (by assumption) ?rest11
  case hy11 => (intro wS hSw; (try dsimp only at hSw); go_simp; try with_reducible rfl)
  try simp only [Act.put, List.getElem_toArray, List.getElem_cons_zero, List.getElem_cons_succ, List.setIfInBounds_toArray, List.set_cons_zero, List.set_cons_succ]
  refine wpAnyH_take (i := 12) (v := ?v12) rfl (by kernel_rfl) (by kernel_rfl) (by kernel_rfl) (fun _ _ _ h => h) (Or.inl ⟨by rfl, ?hy12⟩) (by assumption) ?rest12
  case hy12 => (intro wS hSw; (try dsimp only at hSw); go_simp; try with_reducible rfl)
  try simp only [Act.put, List.getElem_toArray, List.getElem_cons_zero, List.getElem_cons_succ, List.setIfInBounds_toArray, List.set_cons_zero, List.set_cons_succ]
  refine wpAnyH_take (i := 13) (v := ?v13) rfl (by kernel_rfl) (by kernel_rfl) (by kernel_rfl) (fun _ _ _ h => h) (Or.inl ⟨by rfl, ?hy13⟩) (by assumption) ?rest13
  case hy13 => (intro wS hSw; (try dsimp only at hSw); go_simp; try with_reducible rfl)
  try simp only [Act.put, List.getElem_toArray, List.getElem_cons_zero, List.getElem_cons_succ, List.setIfInBounds_toArray, List.set_cons_zero, List.set_cons_succ]
  refine wpAnyH_ready (rs := [14]) (by kernel_rfl) (by simp) ?_
  refine AllReadyH.cons rfl (fun KK hKK => ?_) AllReadyH.nil
  go_simp
  go_at_call 31
  refine (CInts _).mono ?_
  rintro en w1 ⟨gs, rfl, hs1, hb1'⟩
  have o1 := o0.drew.below hb1'
  have hb1 := (bdrew hb0).trans (hb1'.mono (by rw [World.size_drew]; exact hb0.size))
  obtain ⟨p10, p11, p12, p13, p14, p15⟩ := o1.five
  have hl1 := o1.lt
  try go_wp2_with fail
  refine hKK.out _ _ (by exact ⟨p10, p11, p12, p13, p14⟩) (fun hHeld1 => ?_)
  clear hKK KK
  try simp only [Act.put, List.getElem_toArray, List.getElem_cons_zero, List.getElem_cons_succ, List.setIfInBounds_toArray, List.set_cons_zero, List.set_cons_succ]
  refine wpAnyH_ready (rs := [15]) (by kernel_rfl) (by simp) ?_
  refine AllReadyH.cons rfl (fun KK hKK => ?_) AllReadyH.nil
  go_simp
  go_at_call 23
  refine (CM _ _ hs1).mono ?_
  rintro en w2 ⟨rfl, hb2'⟩
  have o2 := o1.below hb2'
  have hb2 := hb1.trans (hb2'.mono hb1.size)
  obtain ⟨p20, p21, p22, p23, p24, p25⟩ := o2.five
  have hl2 := o2.lt
  clear p10 p11 p12 p13 p14 p15
  try go_wp2_with fail
  refine hKK.out _ _ (by exact ⟨p20, p21, p22, p23, p24⟩) (fun hHeld2 => ?_)
  clear hKK KK
  try simp only [Act.put, List.getElem_toArray, List.getElem_cons_zero, List.getElem_cons_succ, List.setIfInBounds_toArray, List.set_cons_zero, List.set_cons_succ]
  refine wpAnyH_take (i := 16) (v := ?v16) rfl (by kernel_rfl) (by kernel_rfl) (by kernel_rfl) (fun _ _ _ h => h) (Or.inl ⟨by rfl, ?hy16⟩) (by assumption) ?rest16
  case hy16 => (intro wS hSw; (try dsimp only at hSw); go_simp; try with_reducible rfl)
  try simp only [Act.put, List.getElem_toArray, List.getElem_cons_zero, List.getElem_cons_succ, List.setIfInBounds_toArray, List.set_cons_zero, List.set_cons_succ]
  refine wpAnyH_take (i := 17) (v := ?v17) rfl (by kernel_rfl) (by kernel_rfl) (by kernel_rfl) (fun _ _ _ h => h) (Or.inl ⟨by rfl, ?hy17⟩) (by assumption) ?rest17
  case hy17 => (intro wS hSw; (try dsimp only at hSw); go_simp; try with_reducible rfl)
  try simp only [Act.put, List.getElem_toArray, List.getElem_cons_zero, List.getElem_cons_succ, List.setIfInBounds_toArray, List.set_cons_zero, List.set_cons_succ]
  refine wpAnyH_take (i := 18) (v := ?v18) rfl (by kernel_rfl) (by kernel_rfl) (by kernel_rfl) (fun _ _ _ h => h) (Or.inl ⟨by rfl, ?hy18⟩) (by assumption) ?rest18
  case hy18 => (intro wS hSw; (try dsimp only at hSw); go_simp; try with_reducible rfl)
  try simp only [Act.put, List.getElem_toArray, List.getElem_cons_zero, List.getElem_cons_succ, List.setIfInBounds_toArray, List.set_cons_zero, List.set_cons_succ]
  refine wpAnyH_take (i := 19) (v := ?v19) rfl (by kernel_rfl) (by kernel_rfl) (by kernel_rfl) (fun _ _ _ h => h) (Or.inl ⟨by rfl, ?hy19⟩) (by assumption) ?rest19
  case hy19 => (intro wS hSw; (try dsimp only at hSw); go_simp; try with_reducible rfl)
  try simp only [Act.put, List.getElem_toArray, List.getElem_cons_zero, List.getElem_cons_succ, List.setIfInBounds_toArray, List.set_cons_zero, List.set_cons_succ]
  refine wpAnyH_take (i := 20) (v := ?v20) rfl (by kernel_rfl) (by kernel_rfl) (by kernel_rfl) (fun _ _ _ h => h) (Or.inl ⟨by rfl, ?hy20⟩) (by assumption) ?rest20
  case hy20 => (intro wS hSw; (try dsimp only at hSw); go_simp; try with_reducible rfl)
  try simp only [Act.put, List.getElem_toArray, List.getElem_cons_zero, List.getElem_cons_succ, List.setIfInBounds_toArray, List.set_cons_zero, List.set_cons_succ]
  refine wpAnyH_take (i := 21) (v := ?v21) rfl (by kernel_rfl) (by kernel_rfl) (by kernel_rfl) (fun _ _ _ h => h) (Or.inl ⟨by rfl, ?hy21⟩) (by assumption) ?rest21
  case hy21 => (intro wS hSw; (try dsimp only at hSw); go_simp; try with_reducible rfl)
  try simp only [Act.put, List.getElem_toArray, List.getElem_cons_zero, List.getElem_cons_succ, List.setIfInBounds_toArray, List.set_cons_zero, List.set_cons_succ]
  refine wpAnyH_take (i := 22) (v := ?v22) rfl (by kernel_rfl) (by kernel_rfl) (by kernel_rfl) (fun _ _ _ h => h) (Or.inl ⟨by rfl, ?hy22⟩) (by assumption) ?rest22
  case hy22 => (intro wS hSw; (try dsimp only at hSw); go_simp; try with_reducible rfl)
  try simp only [Act.put, List.getElem_toArray, List.getElem_cons_zero, List.getElem_cons_succ, List.setIfInBounds_toArray, List.set_cons_zero, List.set_cons_succ]
  refine wpAnyH_ready (rs := [23]) (by kernel_rfl) (by simp) ?_
  refine AllReadyH.cons rfl (fun KK hKK => ?_) AllReadyH.nil
  go_simp
  go_at_call 32
  refine (CT _).mono ?_
  rintro en w3 ⟨rfl, hb3'⟩
  have o3 := o2.below hb3'
  have hb3 := hb2.trans (hb3'.mono hb2.size)
  obtain ⟨p30, p31, p32, p33, p34, p35⟩ := o3.five
  have hl3 := o3.lt
  clear p20 p21 p22 p23 p24 p25
  try go_wp2_with fail
  refine hKK.out _ _ (by exact ⟨p30, p31, p32, p33, p34⟩) (fun hHeld3 => ?_)
  clear hKK KK
  try simp only [Act.put, List.getElem_toArray, List.getElem_cons_zero, List.getElem_cons_succ, List.setIfInBounds_toArray, List.set_cons_zero, List.set_cons_succ]
  refine wpAnyH_take (i := 24) (v := ?v24) rfl (by kernel_rfl) (by kernel_rfl) (by kernel_rfl) (fun _ _ _ h => h) (Or.inl ⟨by rfl, ?hy24⟩) (by assumption) ?rest24
  case hy24 => (intro wS hSw; (try dsimp only at hSw); go_simp; try with_reducible rfl)
  try simp only [Act.put, List.getElem_toArray, List.getElem_cons_zero, List.getElem_cons_succ, List.setIfInBounds_toArray, List.set_cons_zero, List.set_cons_succ]
  refine wpAnyH_take (i := 25) (v := ?v25) rfl (by kernel_rfl) (by kernel_rfl) (by kernel_rfl) (fun _ _ _ h => h) (Or.inl ⟨by rfl, ?hy25⟩) (by assumption) ?rest25
  case hy25 => (intro wS hSw; (try dsimp only at hSw); go_simp; try with_reducible rfl)
  try simp only [Act.put, List.getElem_toArray, List.getElem_cons_zero, List.getElem_cons_succ, List.setIfInBounds_toArray, List.set_cons_zero, List.set_cons_succ]
  refine wpAnyH_take (i := 26) (v := ?v26) rfl (by kernel_rfl) (by kernel_rfl) (by kernel_rfl) (fun _ _ _ h => h) (Or.inl ⟨by rfl, ?hy26⟩) (by assumption) ?rest26
  case hy26 => (intro wS hSw; (try dsimp only at hSw); go_simp; try with_reducible rfl)
  try simp only [Act.put, List.getElem_toArray, List.getElem_cons_zero, List.getElem_cons_succ, List.setIfInBounds_toArray, List.set_cons_zero, List.set_cons_succ]
  refine wpAnyH_done (by kernel_rfl) ?_ _
  go_wp2
  go_ret
  exact ⟨rfl, hb3⟩
end Go.Proofs.YtmhnbklchnnbaaaGreatDoor
set_option maxHeartbeats 8000000
set_option maxRecDepth 100000
namespace Go.Proofs.YtmhnbklchnnbaaaGreatDoor
open Go.RowKit
set_option linter.unusedVariables false
set_option linter.unusedSimpArgs false
theorem is9_c (w : World) (t : Tree) (a : Int) (b : ByteArray) (n : Int) (ao : Option Addr) (cap : Nat)  (HF : Hid (Fl w t 40 a b n ao 0 cap)) (hx : (t.text == []) = false) (hi : isIntL t.text = false) : Calls Tryz.prog 14 #[.agg #[.int .u8 40, .int .i64 a, .string b, .int .u64 n, .slice ao 0 cap], .int .i64 9] w fun en w' => en = .returned (.bool (false)) ∧ Below w.heap.size w w' := by
  have o0 := Own.new w #[.int .u8 40, .int .i64 a, .string b, .int .u64 n, .slice ao 0 cap] 25
  have hb0 : Below w.heap.size w (w.alloc (.cells #[.int .u8 40, .int .i64 a, .string b, .int .u64 n, .slice ao 0 cap] 25)) := (Below.refl _ _).alloc (Nat.le_refl _) _
  obtain ⟨p00, p01, p02, p03, p04, p05⟩ := o0.five
  have e4 : (b.toList == []) = (t.text == []) := txt_lit b t.text HF.out.txt ⟨#[]⟩
  rw [hx] at e4
  have CM := CAmong b intXs 3 rfl (by omega) false ((among_ints HF.out.txt).trans hi)
  clear hx hi
  go_enter Tryz.func14, Tryz.ntmps14
  go_wp2_with fail
  have hl0d := o0.lt
  refine wp_region_held_drew (S := (fun w' => w'.cell? ⟨w.heap.size, 0, none⟩ = some (.int .u8 40) ∧ w'.cell? ⟨w.heap.size, 1, none⟩ = some (.int .i64 a) ∧ w'.cell? ⟨w.heap.size, 2, none⟩ = some (.string b) ∧ w'.cell? ⟨w.heap.size, 3, none⟩ = some (.int .u64 n) ∧ w'.cell? ⟨w.heap.size, 4, none⟩ = some (.slice ao 0 cap))) (by kernel_rfl) (by exact ⟨p00, p01, p02, p03, p04⟩) (fun hHeld => ?_)
  refine wpAnyH_take (i := 0) (v := ?v0) rfl (by kernel_rfl) (by kernel_rfl) (by kernel_rfl) (fun _ _ _ h => h) (Or.inl ⟨by rfl, ?hy0⟩) (by assumption) ?rest0
  case hy0 => (intro wS hSw; (try dsimp only at hSw); go_simp; try with_reducible rfl)
  try simp only [Act.put, List.getElem_toArray, List.getElem_cons_zero, List.getElem_cons_succ, List.setIfInBounds_toArray, List.set_cons_zero, List.set_cons_succ]
  refine wpAnyH_take (i := 1) (v := ?v1) rfl (by kernel_rfl) (by kernel_rfl) (by kernel_rfl) (fun _ _ _ h => h) (Or.inl ⟨by rfl, ?hy1⟩) (by assumption) ?rest1
  case hy1 => (intro wS hSw; (try dsimp only at hSw); go_simp; try with_reducible rfl)
  try simp only [Act.put, List.getElem_toArray, List.getElem_cons_zero, List.getElem_cons_succ, List.setIfInBounds_toArray, List.set_cons_zero, List.set_cons_succ]
  refine wpAnyH_take (i := 2) (v := ?v2) rfl (by kernel_rfl) (by kernel_rfl) (by kernel_rfl) (fun _ _ _ h => h) (Or.inl ⟨by rfl, ?hy2⟩) (by assumption) ?rest2
  case hy2 => (intro wS hSw; (try dsimp only at hSw); go_simp; try with_reducible rfl)
  try simp only [Act.put, List.getElem_toArray, List.getElem_cons_zero, List.getElem_cons_succ, List.setIfInBounds_toArray, List.set_cons_zero, List.set_cons_succ]
  refine wpAnyH_take (i := 3) (v := ?v3) rfl (by kernel_rfl) (by kernel_rfl) (by kernel_rfl) (fun _ _ _ h => h) (Or.inl ⟨by rfl, ?hy3⟩) (by assumption) ?rest3
  case hy3 => (intro wS hSw; (try dsimp only at hSw); go_simp; try with_reducible rfl)
  try simp only [Act.put, List.getElem_toArray, List.getElem_cons_zero, List.getElem_cons_succ, List.setIfInBounds_toArray, List.set_cons_zero, List.set_cons_succ]
  refine wpAnyH_take (i := 4) (v := ?v4) rfl (by kernel_rfl) (by kernel_rfl) (by kernel_rfl) (fun _ _ _ h => h) (Or.inl ⟨by rfl, ?hy4⟩) (by assumption) ?rest4
  case hy4 => (intro wS hSw; (try dsimp only at hSw); go_simp; try with_reducible rfl)
  try simp only [Act.put, List.getElem_toArray, List.getElem_cons_zero, List.getElem_cons_succ, List.setIfInBounds_toArray, List.set_cons_zero, List.set_cons_succ]
  refine wpAnyH_take (i := 5) (v := ?v5) rfl (by kernel_rfl) (by kernel_rfl) (by kernel_rfl) (fun _ _ _ h => h) (Or.inl ⟨by rfl, ?hy5⟩) (by assumption) ?rest5
  case hy5 => (intro wS hSw; (try dsimp only at hSw); go_simp; try with_reducible rfl)
  try simp only [Act.put, List.getElem_toArray, List.getElem_cons_zero, List.getElem_cons_succ, List.setIfInBounds_toArray, List.set_cons_zero, List.set_cons_succ]
  refine wpAnyH_take (i := 6) (v := ?v6) rfl (by kernel_rfl) (by kernel_rfl) (by kernel_rfl) (fun _ _ _ h => h) (Or.inl ⟨by rfl, ?hy6⟩) (by assumption) ?rest6
  case hy6 => (intro wS hSw; (try dsimp only at hSw); go_simp; try with_reducible rfl)
  try simp only [Act.put, List.getElem_toArray, List.getElem_cons_zero, List.getElem_cons_succ, List.setIfInBounds_toArray, List.set_cons_zero, List.set_cons_succ]
  refine wpAnyH_take (i := 7) (v := ?v7) rfl (by kernel_rfl) (by kernel_rfl) (by kernel_rfl) (fun _ _ _ h => h) (Or.inl ⟨by rfl, ?hy7⟩) (by assumption) ?rest7
  case hy7 => (intro wS hSw; (try dsimp only at hSw); go_simp; try with_reducible rfl)
  try simp only [Act.put, List.getElem_toArray, List.getElem_cons_zero, List.getElem_cons_succ, List.setIfInBounds_toArray, List.set_cons_zero, List.set_cons_succ]
  refine wpAnyH_take (i := 8) (v := ?v8) rfl (by kernel_rfl) (by kernel_rfl) (by kernel_rfl) (fun _ _ _ h => h) (Or.inl ⟨by rfl, ?hy8⟩) (by assumption) ?rest8
  case hy8 => (intro wS hSw; (try dsimp only at hSw); go_simp; try with_reducible rfl)
  try simp only [Act.put, List.getElem_toArray, List.getElem_cons_zero, List.getElem_cons_succ, List.setIfInBounds_toArray, List.set_cons_zero, List.set_cons_succ]
  refine wpAnyH_take (i := 9) (v := ?v9) rfl (by kernel_rfl) (by kernel_rfl) (by kernel_rfl) (fun _ _ _ h => h) (Or.inl ⟨by rfl, ?hy9⟩) (by assumption) ?rest9
  case hy9 => (intro wS hSw; (try dsimp only at hSw); go_simp; try with_reducible rfl)
  try simp only [Act.put, List.getElem_toArray, List.getElem_cons_zero, List.getElem_cons_succ, List.setIfInBounds_toArray, List.set_cons_zero, List.set_cons_succ]
  refine wpAnyH_take (i := 10) (v := ?v10) rfl (by kernel_rfl) (by kernel_rfl) (by kernel_rfl) (fun _ _ _ h => h) (Or.inl ⟨by rfl, ?hy10⟩) (by assumption) ?rest10
  case hy10 => (intro wS hSw; (try dsimp only at hSw); go_simp; try with_reducible rfl)
  try simp only [Act.put, List.getElem_toArray, List.getElem_cons_zero, List.getElem_cons_succ, List.setIfInBounds_toArray, List.set_cons_zero, List.set_cons_succ]
  refine wpAnyH_take (i := 11) (v := ?v11) rfl (by kernel_rfl) (by kernel_rfl) (by kernel_rfl) (fun _ _ _ h => h) (Or.inl ⟨by rfl, ?hy11⟩) (by assumption) ?rest11
  case hy11 => (intro wS hSw; (try dsimp only at hSw); go_simp; try with_reducible rfl)
  try simp only [Act.put, List.getElem_toArray, List.getElem_cons_zero, List.getElem_cons_succ, List.setIfInBounds_toArray, List.set_cons_zero, List.set_cons_succ]
  refine wpAnyH_take (i := 12) (v := ?v12) rfl (by kernel_rfl) (by kernel_rfl) (by kernel_rfl) (fun _ _ _ h => h) (Or.inl ⟨by rfl, ?hy12⟩) (by assumption) ?rest12
  case hy12 => (intro wS hSw; (try dsimp only at hSw); go_simp; try with_reducible rfl)
  try simp only [Act.put, List.getElem_toArray, List.getElem_cons_zero, List.getElem_cons_succ, List.setIfInBounds_toArray, List.set_cons_zero, List.set_cons_succ]
  refine wpAnyH_take (i := 13) (v := ?v13) rfl (by kernel_rfl) (by kernel_rfl) (by kernel_rfl) (fun _ _ _ h => h) (Or.inl ⟨by rfl, ?hy13⟩) (by assumption) ?rest13
  case hy13 => (intro wS hSw; (try dsimp only at hSw); go_simp; try with_reducible rfl)
  try simp only [Act.put, List.getElem_toArray, List.getElem_cons_zero, List.getElem_cons_succ, List.setIfInBounds_toArray, List.set_cons_zero, List.set_cons_succ]
  refine wpAnyH_ready (rs := [14]) (by kernel_rfl) (by simp) ?_
  refine AllReadyH.cons rfl (fun KK hKK => ?_) AllReadyH.nil
  go_simp
  go_at_call 31
  refine (CInts _).mono ?_
  rintro en w1 ⟨gs, rfl, hs1, hb1'⟩
  have o1 := o0.drew.below hb1'
  have hb1 := (bdrew hb0).trans (hb1'.mono (by rw [World.size_drew]; exact hb0.size))
  obtain ⟨p10, p11, p12, p13, p14, p15⟩ := o1.five
  have hl1 := o1.lt
  try go_wp2_with fail
  refine hKK.out _ _ (by exact ⟨p10, p11, p12, p13, p14⟩) (fun hHeld1 => ?_)
  clear hKK KK
  try simp only [Act.put, List.getElem_toArray, List.getElem_cons_zero, List.getElem_cons_succ, List.setIfInBounds_toArray, List.set_cons_zero, List.set_cons_succ]
  refine wpAnyH_ready (rs := [15]) (by kernel_rfl) (by simp) ?_
  refine AllReadyH.cons rfl (fun KK hKK => ?_) AllReadyH.nil
  go_simp
  go_at_call 23
  refine (CM _ _ hs1).mono ?_
  rintro en w2 ⟨rfl, hb2'⟩
  have o2 := o1.below hb2'
  have hb2 := hb1.trans (hb2'.mono hb1.size)
  obtain ⟨p20, p21, p22, p23, p24, p25⟩ := o2.five
  have hl2 := o2.lt
  clear p10 p11 p12 p13 p14 p15
  try go_wp2_with fail
  refine hKK.out _ _ (by exact ⟨p20, p21, p22, p23, p24⟩) (fun hHeld2 => ?_)
  clear hKK KK
  try simp only [Act.put, List.getElem_toArray, List.getElem_cons_zero, List.getElem_cons_succ, List.setIfInBounds_toArray, List.set_cons_zero, List.set_cons_succ]
  refine wpAnyH_take (i := 16) (v := ?v16) rfl (by kernel_rfl) (by kernel_rfl) (by kernel_rfl) (fun _ _ _ h => h) (Or.inl ⟨by rfl, ?hy16⟩) (by assumption) ?rest16
  case hy16 => (intro wS hSw; (try dsimp only at hSw); go_simp; try with_reducible rfl)
  try simp only [Act.put, List.getElem_toArray, List.getElem_cons_zero, List.getElem_cons_succ, List.setIfInBounds_toArray, List.set_cons_zero, List.set_cons_succ]
  refine wpAnyH_take (i := 17) (v := ?v17) rfl (by kernel_rfl) (by kernel_rfl) (by kernel_rfl) (fun _ _ _ h => h) (Or.inl ⟨by rfl, ?hy17⟩) (by assumption) ?rest17
  case hy17 => (intro wS hSw; (try dsimp only at hSw); go_simp; try with_reducible rfl)
  try simp only [Act.put, List.getElem_toArray, List.getElem_cons_zero, List.getElem_cons_succ, List.setIfInBounds_toArray, List.set_cons_zero, List.set_cons_succ]
  refine wpAnyH_take (i := 18) (v := ?v18) rfl (by kernel_rfl) (by kernel_rfl) (by kernel_rfl) (fun _ _ _ h => h) (Or.inl ⟨by rfl, ?hy18⟩) (by assumption) ?rest18
  case hy18 => (intro wS hSw; (try dsimp only at hSw); go_simp; try with_reducible rfl)
  try simp only [Act.put, List.getElem_toArray, List.getElem_cons_zero, List.getElem_cons_succ, List.setIfInBounds_toArray, List.set_cons_zero, List.set_cons_succ]
  refine wpAnyH_take (i := 19) (v := undef) rfl (by kernel_rfl) (by kernel_rfl) (by kernel_rfl) (fun _ _ _ h => h) (Or.inr ⟨by rfl, rfl⟩) (by assumption) ?rest19
  try simp only [Act.put, List.getElem_toArray, List.getElem_cons_zero, List.getElem_cons_succ, List.setIfInBounds_toArray, List.set_cons_zero, List.set_cons_succ]
  refine wpAnyH_take (i := 20) (v := undef) rfl (by kernel_rfl) (by kernel_rfl) (by kernel_rfl) (fun _ _ _ h => h) (Or.inr ⟨by rfl, rfl⟩) (by assumption) ?rest20
  try simp only [Act.put, List.getElem_toArray, List.getElem_cons_zero, List.getElem_cons_succ, List.setIfInBounds_toArray, List.set_cons_zero, List.set_cons_succ]
  refine wpAnyH_take (i := 21) (v := undef) rfl (by kernel_rfl) (by kernel_rfl) (by kernel_rfl) (fun _ _ _ h => h) (Or.inr ⟨by rfl, rfl⟩) (by assumption) ?rest21
  try simp only [Act.put, List.getElem_toArray, List.getElem_cons_zero, List.getElem_cons_succ, List.setIfInBounds_toArray, List.set_cons_zero, List.set_cons_succ]
  refine wpAnyH_take (i := 22) (v := undef) rfl (by kernel_rfl) (by kernel_rfl) (by kernel_rfl) (fun _ _ _ h => h) (Or.inr ⟨by rfl, rfl⟩) (by assumption) ?rest22
  try simp only [Act.put, List.getElem_toArray, List.getElem_cons_zero, List.getElem_cons_succ, List.setIfInBounds_toArray, List.set_cons_zero, List.set_cons_succ]
  refine wpAnyH_take (i := 23) (v := undef) rfl (by kernel_rfl) (by kernel_rfl) (by kernel_rfl) (fun _ _ _ h => h) (Or.inr ⟨by rfl, rfl⟩) (by assumption) ?rest23
  try simp only [Act.put, List.getElem_toArray, List.getElem_cons_zero, List.getElem_cons_succ, List.setIfInBounds_toArray, List.set_cons_zero, List.set_cons_succ]
  refine wpAnyH_take (i := 24) (v := undef) rfl (by kernel_rfl) (by kernel_rfl) (by kernel_rfl) (fun _ _ _ h => h) (Or.inr ⟨by rfl, rfl⟩) (by assumption) ?rest24
  try simp only [Act.put, List.getElem_toArray, List.getElem_cons_zero, List.getElem_cons_succ, List.setIfInBounds_toArray, List.set_cons_zero, List.set_cons_succ]
  refine wpAnyH_take (i := 25) (v := ?v25) rfl (by kernel_rfl) (by kernel_rfl) (by kernel_rfl) (fun _ _ _ h => h) (Or.inl ⟨by rfl, ?hy25⟩) (by assumption) ?rest25
  case hy25 => (intro wS hSw; (try dsimp only at hSw); go_simp; try with_reducible rfl)
  try simp only [Act.put, List.getElem_toArray, List.getElem_cons_zero, List.getElem_cons_succ, List.setIfInBounds_toArray, List.set_cons_zero, List.set_cons_succ]
  refine wpAnyH_take (i := 26) (v := ?v26) rfl (by kernel_rfl) (by kernel_rfl) (by kernel_rfl) (fun _ _ _ h => h) (Or.inl ⟨by rfl, ?hy26⟩) (by assumption) ?rest26
  case hy26 => (intro wS hSw; (try dsimp only at hSw); go_simp; try with_reducible rfl)
  try simp only [Act.put, List.getElem_toArray, List.getElem_cons_zero, List.getElem_cons_succ, List.setIfInBounds_toArray, List.set_cons_zero, List.set_cons_succ]
  refine wpAnyH_done (by kernel_rfl) ?_ _
  go_wp2
  go_ret
  exact ⟨rfl, hb2⟩
set_option linter.unusedSimpArgs false
theorem is9_a (w : World) (t : Tree) (a : Int) (b : ByteArray) (n : Int) (ao : Option Addr) (cap : Nat)  (HF : Hid (Fl w t 40 a b n ao 0 cap)) (hx : (t.text == []) = true) : Calls Tryz.prog 14 #[.agg #[.int .u8 40, .int .i64 a, .string b, .int .u64 n, .slice ao 0 cap], .int .i64 9] w fun en w' => en = .returned (.bool (decide (n ≤ (topN t.text : Int)))) ∧ Below w.heap.size w w' := by
  have o0 := Own.new w #[.int .u8 40, .int .i64 a, .string b, .int .u64 n, .slice ao 0 cap] 25
  have hb0 : Below w.heap.size w (w.alloc (.cells #[.int .u8 40, .int .i64 a, .string b, .int .u64 n, .slice ao 0 cap] 25)) := (Below.refl _ _).alloc (Nat.le_refl _) _
  obtain ⟨p00, p01, p02, p03, p04, p05⟩ := o0.five
  have e4 : (b.toList == []) = (t.text == []) := txt_lit b t.text HF.out.txt ⟨#[]⟩
  rw [hx] at e4
  have CT := CTop b (topN t.text) (by rw [HF.out.bn])
  clear hx
  go_enter Tryz.func14, Tryz.ntmps14
  go_wp2_with fail
  have hl0d := o0.lt
  refine wp_region_held_drew (S := (fun w' => w'.cell? ⟨w.heap.size, 0, none⟩ = some (.int .u8 40) ∧ w'.cell? ⟨w.heap.size, 1, none⟩ = some (.int .i64 a) ∧ w'.cell? ⟨w.heap.size, 2, none⟩ = some (.string b) ∧ w'.cell? ⟨w.heap.size, 3, none⟩ = some (.int .u64 n) ∧ w'.cell? ⟨w.heap.size, 4, none⟩ = some (.slice ao 0 cap))) (by kernel_rfl) (by exact ⟨p00, p01, p02, p03, p04⟩) (fun hHeld => ?_)
  refine wpAnyH_take (i := 0) (v := ?v0) rfl (by kernel_rfl) (by kernel_rfl) (by kernel_rfl) (fun _ _ _ h => h) (Or.inl ⟨by rfl, ?hy0⟩) (by assumption) ?rest0
  case hy0 => (intro wS hSw; (try dsimp only at hSw); go_simp; try with_reducible rfl)
  try simp only [Act.put, List.getElem_toArray, List.getElem_cons_zero, List.getElem_cons_succ, List.setIfInBounds_toArray, List.set_cons_zero, List.set_cons_succ]
  refine wpAnyH_take (i := 1) (v := ?v1) rfl (by kernel_rfl) (by kernel_rfl) (by kernel_rfl) (fun _ _ _ h => h) (Or.inl ⟨by rfl, ?hy1⟩) (by assumption) ?rest1
  case hy1 => (intro wS hSw; (try dsimp only at hSw); go_simp; try with_reducible rfl)
  try simp only [Act.put, List.getElem_toArray, List.getElem_cons_zero, List.getElem_cons_succ, List.setIfInBounds_toArray, List.set_cons_zero, List.set_cons_succ]
  refine wpAnyH_take (i := 2) (v := ?v2) rfl (by kernel_rfl) (by kernel_rfl) (by kernel_rfl) (fun _ _ _ h => h) (Or.inl ⟨by rfl, ?hy2⟩) (by assumption) ?rest2
  case hy2 => (intro wS hSw; (try dsimp only at hSw); go_simp; try with_reducible rfl)
  try simp only [Act.put, List.getElem_toArray, List.getElem_cons_zero, List.getElem_cons_succ, List.setIfInBounds_toArray, List.set_cons_zero, List.set_cons_succ]
  refine wpAnyH_take (i := 3) (v := ?v3) rfl (by kernel_rfl) (by kernel_rfl) (by kernel_rfl) (fun _ _ _ h => h) (Or.inl ⟨by rfl, ?hy3⟩) (by assumption) ?rest3
  case hy3 => (intro wS hSw; (try dsimp only at hSw); go_simp; try with_reducible rfl)
  try simp only [Act.put, List.getElem_toArray, List.getElem_cons_zero, List.getElem_cons_succ, List.setIfInBounds_toArray, List.set_cons_zero, List.set_cons_succ]
  refine wpAnyH_take (i := 4) (v := ?v4) rfl (by kernel_rfl) (by kernel_rfl) (by kernel_rfl) (fun _ _ _ h => h) (Or.inl ⟨by rfl, ?hy4⟩) (by assumption) ?rest4
  case hy4 => (intro wS hSw; (try dsimp only at hSw); go_simp; try with_reducible rfl)
  try simp only [Act.put, List.getElem_toArray, List.getElem_cons_zero, List.getElem_cons_succ, List.setIfInBounds_toArray, List.set_cons_zero, List.set_cons_succ]
  refine wpAnyH_take (i := 5) (v := ?v5) rfl (by kernel_rfl) (by kernel_rfl) (by kernel_rfl) (fun _ _ _ h => h) (Or.inl ⟨by rfl, ?hy5⟩) (by assumption) ?rest5
  case hy5 => (intro wS hSw; (try dsimp only at hSw); go_simp; try with_reducible rfl)
  try simp only [Act.put, List.getElem_toArray, List.getElem_cons_zero, List.getElem_cons_succ, List.setIfInBounds_toArray, List.set_cons_zero, List.set_cons_succ]
  refine wpAnyH_take (i := 6) (v := ?v6) rfl (by kernel_rfl) (by kernel_rfl) (by kernel_rfl) (fun _ _ _ h => h) (Or.inl ⟨by rfl, ?hy6⟩) (by assumption) ?rest6
  case hy6 => (intro wS hSw; (try dsimp only at hSw); go_simp; try with_reducible rfl)
  try simp only [Act.put, List.getElem_toArray, List.getElem_cons_zero, List.getElem_cons_succ, List.setIfInBounds_toArray, List.set_cons_zero, List.set_cons_succ]
  refine wpAnyH_take (i := 7) (v := ?v7) rfl (by kernel_rfl) (by kernel_rfl) (by kernel_rfl) (fun _ _ _ h => h) (Or.inl ⟨by rfl, ?hy7⟩) (by assumption) ?rest7
  case hy7 => (intro wS hSw; (try dsimp only at hSw); go_simp; try with_reducible rfl)
  try simp only [Act.put, List.getElem_toArray, List.getElem_cons_zero, List.getElem_cons_succ, List.setIfInBounds_toArray, List.set_cons_zero, List.set_cons_succ]
  refine wpAnyH_take (i := 8) (v := ?v8) rfl (by kernel_rfl) (by kernel_rfl) (by kernel_rfl) (fun _ _ _ h => h) (Or.inl ⟨by rfl, ?hy8⟩) (by assumption) ?rest8
  case hy8 => (intro wS hSw; (try dsimp only at hSw); go_simp; try with_reducible rfl)
  try simp only [Act.put, List.getElem_toArray, List.getElem_cons_zero, List.getElem_cons_succ, List.setIfInBounds_toArray, List.set_cons_zero, List.set_cons_succ]
  refine wpAnyH_take (i := 9) (v := ?v9) rfl (by kernel_rfl) (by kernel_rfl) (by kernel_rfl) (fun _ _ _ h => h) (Or.inl ⟨by rfl, ?hy9⟩) (by assumption) ?rest9
  case hy9 => (intro wS hSw; (try dsimp only at hSw); go_simp; try with_reducible rfl)
  try simp only [Act.put, List.getElem_toArray, List.getElem_cons_zero, List.getElem_cons_succ, List.setIfInBounds_toArray, List.set_cons_zero, List.set_cons_succ]
  refine wpAnyH_take (i := 10) (v := ?v10) rfl (by kernel_rfl) (by kernel_rfl) (by kernel_rfl) (fun _ _ _ h => h) (Or.inl ⟨by rfl, ?hy10⟩) (by assumption) ?rest10
  case hy10 => (intro wS hSw; (try dsimp only at hSw); go_simp; try with_reducible rfl)
  try simp only [Act.put, List.getElem_toArray, List.getElem_cons_zero, List.getElem_cons_succ, List.setIfInBounds_toArray, List.set_cons_zero, List.set_cons_succ]
  refine wpAnyH_take (i := 11) (v := ?v11) rfl (by kernel_rfl) (by kernel_rfl) (by kernel_rfl) (fun _ _ _ h => h) (Or.inl ⟨by rfl, ?hy11⟩) (by assumption) ?rest11
  case hy11 => (intro wS hSw; (try dsimp only at hSw); go_simp; try with_reducible rfl)
  try simp only [Act.put, List.getElem_toArray, List.getElem_cons_zero, List.getElem_cons_succ, List.setIfInBounds_toArray, List.set_cons_zero, List.set_cons_succ]
  refine wpAnyH_take (i := 12) (v := undef) rfl (by kernel_rfl) (by kernel_rfl) (by kernel_rfl) (fun _ _ _ h => h) (Or.inr ⟨by rfl, rfl⟩) (by assumption) ?rest12
  try simp only [Act.put, List.getElem_toArray, List.getElem_cons_zero, List.getElem_cons_succ, List.setIfInBounds_toArray, List.set_cons_zero, List.set_cons_succ]
  refine wpAnyH_take (i := 13) (v := undef) rfl (by kernel_rfl) (by kernel_rfl) (by kernel_rfl) (fun _ _ _ h => h) (Or.inr ⟨by rfl, rfl⟩) (by assumption) ?rest13
  try simp only [Act.put, List.getElem_toArray, List.getElem_cons_zero, List.getElem_cons_succ, List.setIfInBounds_toArray, List.set_cons_zero, List.set_cons_succ]
  refine wpAnyH_take (i := 14) (v := undef) rfl (by kernel_rfl) (by kernel_rfl) (by kernel_rfl) (fun _ _ _ h => h) (Or.inr ⟨by rfl, rfl⟩) (by assumption) ?rest14
  try simp only [Act.put, List.getElem_toArray, List.getElem_cons_zero, List.getElem_cons_succ, List.setIfInBounds_toArray, List.set_cons_zero, List.set_cons_succ]
  refine wpAnyH_take (i := 15) (v := undef) rfl (by kernel_rfl) (by kernel_rfl) (by kernel_rfl) (fun _ _ _ h => h) (Or.inr ⟨by rfl, rfl⟩) (by assumption) ?rest15
  try simp only [Act.put, List.getElem_toArray, List.getElem_cons_zero, List.getElem_cons_succ, List.setIfInBounds_toArray, List.set_cons_zero, List.set_cons_succ]
  refine wpAnyH_take (i := 16) (v := ?v16) rfl (by kernel_rfl) (by kernel_rfl) (by kernel_rfl) (fun _ _ _ h => h) (Or.inl ⟨by rfl, ?hy16⟩) (by assumption) ?rest16
  case hy16 => (intro wS hSw; (try dsimp only at hSw); go_simp; try with_reducible rfl)
  try simp only [Act.put, List.getElem_toArray, List.getElem_cons_zero, List.getElem_cons_succ, List.setIfInBounds_toArray, List.set_cons_zero, List.set_cons_succ]
  refine wpAnyH_take (i := 17) (v := ?v17) rfl (by kernel_rfl) (by kernel_rfl) (by kernel_rfl) (fun _ _ _ h => h) (Or.inl ⟨by rfl, ?hy17⟩) (by assumption) ?rest17
  case hy17 => (intro wS hSw; (try dsimp only at hSw); go_simp; try with_reducible rfl)
  try simp only [Act.put, List.getElem_toArray, List.getElem_cons_zero, List.getElem_cons_succ, List.setIfInBounds_toArray, List.set_cons_zero, List.set_cons_succ]
  refine wpAnyH_take (i := 18) (v := ?v18) rfl (by kernel_rfl) (by kernel_rfl) (by kernel_rfl) (fun _ _ _ h => h) (Or.inl ⟨by rfl, ?hy18⟩) (by assumption) ?rest18
  case hy18 => (intro wS hSw; (try dsimp only at hSw); go_simp; try with_reducible rfl)
  try simp only [Act.put, List.getElem_toArray, List.getElem_cons_zero, List.getElem_cons_succ, List.setIfInBounds_toArray, List.set_cons_zero, List.set_cons_succ]
  refine wpAnyH_take (i := 19) (v := ?v19) rfl (by kernel_rfl) (by kernel_rfl) (by kernel_rfl) (fun _ _ _ h => h) (Or.inl ⟨by rfl, ?hy19⟩) (by assumption) ?rest19
  case hy19 => (intro wS hSw; (try dsimp only at hSw); go_simp; try with_reducible rfl)
  try simp only [Act.put, List.getElem_toArray, List.getElem_cons_zero, List.getElem_cons_succ, List.setIfInBounds_toArray, List.set_cons_zero, List.set_cons_succ]
  refine wpAnyH_take (i := 20) (v := ?v20) rfl (by kernel_rfl) (by kernel_rfl) (by kernel_rfl) (fun _ _ _ h => h) (Or.inl ⟨by rfl, ?hy20⟩) (by assumption) ?rest20
  case hy20 => (intro wS hSw; (try dsimp only at hSw); go_simp; try with_reducible rfl)
  try simp only [Act.put, List.getElem_toArray, List.getElem_cons_zero, List.getElem_cons_succ, List.setIfInBounds_toArray, List.set_cons_zero, List.set_cons_succ]
  refine wpAnyH_take (i := 21) (v := ?v21) rfl (by kernel_rfl) (by kernel_rfl) (by kernel_rfl) (fun _ _ _ h => h) (Or.inl ⟨by rfl, ?hy21⟩) (by assumption) ?rest21
  case hy21 => (intro wS hSw; (try dsimp only at hSw); go_simp; try with_reducible rfl)
  try simp only [Act.put, List.getElem_toArray, List.getElem_cons_zero, List.getElem_cons_succ, List.setIfInBounds_toArray, List.set_cons_zero, List.set_cons_succ]
  refine wpAnyH_take (i := 22) (v := ?v22) rfl (by kernel_rfl) (by kernel_rfl) (by kernel_rfl) (fun _ _ _ h => h) (Or.inl ⟨by rfl, ?hy22⟩) (by assumption) ?rest22
  case hy22 => (intro wS hSw; (try dsimp only at hSw); go_simp; try with_reducible rfl)
  try simp only [Act.put, List.getElem_toArray, List.getElem_cons_zero, List.getElem_cons_succ, List.setIfInBounds_toArray, List.set_cons_zero, List.set_cons_succ]
  refine wpAnyH_ready (rs := [23]) (by kernel_rfl) (by simp) ?_
  refine AllReadyH.cons rfl (fun KK hKK => ?_) AllReadyH.nil
  go_simp
  go_at_call 32
  refine (CT _).mono ?_
  rintro en w1 ⟨rfl, hb1'⟩
  have o1 := o0.drew.below hb1'
  have hb1 := (bdrew hb0).trans (hb1'.mono (by rw [World.size_drew]; exact hb0.size))
  obtain ⟨p10, p11, p12, p13, p14, p15⟩ := o1.five
  have hl1 := o1.lt
  try go_wp2_with fail
  refine hKK.out _ _ (by exact ⟨p10, p11, p12, p13, p14⟩) (fun hHeld1 => ?_)
  clear hKK KK
  try simp only [Act.put, List.getElem_toArray, List.getElem_cons_zero, List.getElem_cons_succ, List.setIfInBounds_toArray, List.set_cons_zero, List.set_cons_succ]
  refine wpAnyH_take (i := 24) (v := ?v24) rfl (by kernel_rfl) (by kernel_rfl) (by kernel_rfl) (fun _ _ _ h => h) (Or.inl ⟨by rfl, ?hy24⟩) (by assumption) ?rest24
  case hy24 => (intro wS hSw; (try dsimp only at hSw); go_simp; try with_reducible rfl)
  try simp only [Act.put, List.getElem_toArray, List.getElem_cons_zero, List.getElem_cons_succ, List.setIfInBounds_toArray, List.set_cons_zero, List.set_cons_succ]
  refine wpAnyH_take (i := 25) (v := ?v25) rfl (by kernel_rfl) (by kernel_rfl) (by kernel_rfl) (fun _ _ _ h => h) (Or.inl ⟨by rfl, ?hy25⟩) (by assumption) ?rest25
  case hy25 => (intro wS hSw; (try dsimp only at hSw); go_simp; try with_reducible rfl)
  try simp only [Act.put, List.getElem_toArray, List.getElem_cons_zero, List.getElem_cons_succ, List.setIfInBounds_toArray, List.set_cons_zero, List.set_cons_succ]
  refine wpAnyH_take (i := 26) (v := ?v26) rfl (by kernel_rfl) (by kernel_rfl) (by kernel_rfl) (fun _ _ _ h => h) (Or.inl ⟨by rfl, ?hy26⟩) (by assumption) ?rest26
  case hy26 => (intro wS hSw; (try dsimp only at hSw); go_simp; try with_reducible rfl)
  try simp only [Act.put, List.getElem_toArray, List.getElem_cons_zero, List.getElem_cons_succ, List.setIfInBounds_toArray, List.set_cons_zero, List.set_cons_succ]
  refine wpAnyH_done (by kernel_rfl) ?_ _
  go_wp2
  go_ret
  exact ⟨rfl, hb1⟩
end Go.Proofs.YtmhnbklchnnbaaaGreatDoor
