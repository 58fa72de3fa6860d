import Derived.Test.YtmhnbklchnnbaaaGreatDoorQ28
set_option maxHeartbeats 8000000
set_option maxRecDepth 100000
namespace Go.Proofs.YtmhnbklchnnbaaaGreatDoor
open Go.RowKit
set_option linter.unusedVariables false
set_option linter.unusedSimpArgs false
theorem is1_8 (t : Tree) (hw : wideTr t) (H : KidsAs t) (hK : t.kind = 8) : IsAs 1 t := by
  intro w k a b n v hN
  obtain ⟨ao, m, cap, rfl, hF⟩ := Fl.of hN hw
  have HF : Hid (Fl w t k a b n ao m cap) := hF
  have hk := hF.kind
  have hm1 := hF.2.2.2.1
  have hm2 := hF.2.2.2.2
  have o0 := Own.new w #[.int .u8 k, .int .i64 a, .string b, .int .u64 n, .slice ao m cap] 25
  have hb0 : Below w.heap.size w (w.alloc (.cells #[.int .u8 k, .int .i64 a, .string b, .int .u64 n, .slice ao m cap] 25)) := (Below.refl _ _).alloc (Nat.le_refl _) _
  have hk2 : k = 8 := by omega
  have hnn := HF.out.num
  have e4 : (b.toList == []) = (t.text == []) := txt_lit b t.text HF.out.txt ⟨#[]⟩
  obtain ⟨qx, hqx⟩ : ∃ q, (t.text == []) = q := ⟨_, rfl⟩
  rw [hqx] at e4
  by_cases hm : m = 1
  · obtain ⟨t0, hks⟩ : ∃ t0, t.kids = [t0] := by have hl := HF.out.len; rw [hm] at hl; exact list1 hl
    obtain ⟨g, o, aj0, cj0, rfl, hg, hK0⟩ := HF.out.kid2 0 t0 (by rw [hks]; rfl)
    have HK0 : Hid (∀ W, Below w.heap.size w W → W.cell? ⟨g, o, none⟩ = some (.int .u8 (t0.kind : Int)) ∧ W.cell? ⟨g, o + 1, none⟩ = some (.int .i64 t0.at_) ∧ W.cell? ⟨g, o + 2, none⟩ = some (.string (strN t0.text)) ∧ W.cell? ⟨g, o + 3, none⟩ = some (.int .u64 (t0.n : Int)) ∧ W.cell? ⟨g, o + 4, none⟩ = some (.slice aj0 t0.kids.length cj0) ∧ g < W.heap.size) := fun W hW => by have := (hK0 W hW).1; exact this
    obtain ⟨q0, hq0⟩ : ∃ q, vR 1 t0 = q := ⟨_, rfl⟩
    have C0 : ∀ W : World, Below w.heap.size w W → Calls Tryz.prog 14 #[.agg #[.int .u8 (t0.kind : Int), .int .i64 t0.at_, .string (strN t0.text), .int .u64 (t0.n : Int), .slice aj0 t0.kids.length cj0], .int .i64 1] W fun en w' => en = .returned (.bool q0) ∧ Below W.heap.size W w' := fun W hW => by have := H 1 (by omega) (by omega) t0 (by rw [hks]; simp) W _ _ _ _ _ (hK0 W hW).2.1; rw [hq0] at this; exact this
    have HS : Hid (vR 1 t = (qx && q0)) := by
      unfold Hid
      rw [← hqx, ← hq0]
      obtain ⟨kd, at_, x, nn, ks⟩ := t
      simp only [] at hks hK
      subst hK hks
      exact m1_8
    subst hk2 hm
    clear hF hN hk hK hnn hq0 hK0 hqx
    cases qx with
    | false =>
      go_enter Tryz.func14, Tryz.ntmps14
      go_wp2
      go_ret
      exact ⟨ret_bool (by rw [HS.out] <;> rfl), hb0⟩
    | true =>
      go_enter Tryz.func14, Tryz.ntmps14
      obtain ⟨f00, f01, f02, f03, f04, f05⟩ := HK0.out _ hb0
      go_wp2_with fail
      refine (C0 _ hb0).mono ?_
      rintro en w1 ⟨rfl, hb1'⟩
      have o1 := o0.below hb1'
      have hb1 := hb0.trans (hb1'.mono hb0.size)
      obtain ⟨p10, p11, p12, p13, p14, p15⟩ := o1.five
      have hl1 := o1.lt
      obtain ⟨f00, f01, f02, f03, f04, f05⟩ := HK0.out _ hb1
      clear hb1'
      cases q0 with
      | false =>
        go_wp2
        go_ret
        exact ⟨ret_bool (by rw [HS.out] <;> rfl), hb1⟩
      | true =>
        go_wp2
        go_ret
        exact ⟨ret_bool (by rw [HS.out] <;> rfl), hb1⟩
  · have HS : Hid (vR 1 t = false) := by
      unfold Hid
      rw [vR_1, valid_core]
      have h1 : (t.kind : Int) = 8 := by omega
      have h2 : ¬ (t.kids.length : Int) = 1 := by have := HF.out.len; omega
      exact core_no _ _ (by rw [h1]; exact (show (kidsI 8).1 = (kidsI 8).2 from rfl)) (by rw [h1]; exact h2)
    have hm3 : ((m : Int) == 1) = false := by simp; omega
    subst hk2
    clear hF hN hk hK hnn hm hqx
    cases qx with
    | true =>
      go_enter Tryz.func14, Tryz.ntmps14
      go_wp2
      go_ret
      exact ⟨ret_bool (by rw [HS.out] <;> rfl), hb0⟩
    | false =>
      go_enter Tryz.func14, Tryz.ntmps14
      go_wp2
      go_ret
      exact ⟨ret_bool (by rw [HS.out] <;> rfl), hb0⟩
theorem is1_9 (t : Tree) (hw : wideTr t) (H : KidsAs t) (hK : t.kind = 9) : IsAs 1 t := by
  intro w k a b n v hN
  obtain ⟨ao, m, cap, rfl, hF⟩ := Fl.of hN hw
  have HF : Hid (Fl w t k a b n ao m cap) := hF
  have hk := hF.kind
  have hm1 := hF.2.2.2.1
  have hm2 := hF.2.2.2.2
  have o0 := Own.new w #[.int .u8 k, .int .i64 a, .string b, .int .u64 n, .slice ao m cap] 25
  have hb0 : Below w.heap.size w (w.alloc (.cells #[.int .u8 k, .int .i64 a, .string b, .int .u64 n, .slice ao m cap] 25)) := (Below.refl _ _).alloc (Nat.le_refl _) _
  have hk2 : k = 9 := by omega
  have hnn := HF.out.num
  obtain ⟨qb, hqb⟩ : ∃ q, bareB t.text n = q := ⟨_, rfl⟩
  have CB : ∀ W : World, Calls Tryz.prog 26 #[.agg #[.int .u8 k, .int .i64 a, .string b, .int .u64 n, .slice ao m cap]] W fun en w' => en = .returned (.bool qb) ∧ Below W.heap.size W w' := fun W => by have := zbare_as W k a n b (.slice ao m cap) rfl t.text HF.out.txt; rw [hqb] at this; exact this
  by_cases hm : m = 1
  · obtain ⟨t0, hks⟩ : ∃ t0, t.kids = [t0] := by have hl := HF.out.len; rw [hm] at hl; exact list1 hl
    obtain ⟨g, o, aj0, cj0, rfl, hg, hK0⟩ := HF.out.kid2 0 t0 (by rw [hks]; rfl)
    have HK0 : Hid (∀ W, Below w.heap.size w W → W.cell? ⟨g, o, none⟩ = some (.int .u8 (t0.kind : Int)) ∧ W.cell? ⟨g, o + 1, none⟩ = some (.int .i64 t0.at_) ∧ W.cell? ⟨g, o + 2, none⟩ = some (.string (strN t0.text)) ∧ W.cell? ⟨g, o + 3, none⟩ = some (.int .u64 (t0.n : Int)) ∧ W.cell? ⟨g, o + 4, none⟩ = some (.slice aj0 t0.kids.length cj0) ∧ g < W.heap.size) := fun W hW => by have := (hK0 W hW).1; exact this
    obtain ⟨q0, hq0⟩ : ∃ q, vR 1 t0 = q := ⟨_, rfl⟩
    have C0 : ∀ W : World, Below w.heap.size w W → Calls Tryz.prog 14 #[.agg #[.int .u8 (t0.kind : Int), .int .i64 t0.at_, .string (strN t0.text), .int .u64 (t0.n : Int), .slice aj0 t0.kids.length cj0], .int .i64 1] W fun en w' => en = .returned (.bool q0) ∧ Below W.heap.size W w' := fun W hW => by have := H 1 (by omega) (by omega) t0 (by rw [hks]; simp) W _ _ _ _ _ (hK0 W hW).2.1; rw [hq0] at this; exact this
    have HS : Hid (vR 1 t = (qb && q0)) := by
      unfold Hid
      rw [← hqb, ← hq0, hnn]
      obtain ⟨kd, at_, x, nn, ks⟩ := t
      simp only [] at hks hK
      subst hK hks
      exact m1_9
    subst hk2 hm
    clear hF hN hk hK hnn hq0 hK0 hqb
    go_enter Tryz.func14, Tryz.ntmps14
    obtain ⟨f00, f01, f02, f03, f04, f05⟩ := HK0.out _ hb0
    go_wp2_with fail
    refine (CB _).mono ?_
    rintro en w1 ⟨rfl, hb1'⟩
    have o1 := o0.below hb1'
    have hb1 := hb0.trans (hb1'.mono hb0.size)
    obtain ⟨p10, p11, p12, p13, p14, p15⟩ := o1.five
    have hl1 := o1.lt
    obtain ⟨f00, f01, f02, f03, f04, f05⟩ := HK0.out _ hb1
    clear hb1'
    cases qb with
    | false =>
      go_wp2
      go_ret
      exact ⟨ret_bool (by rw [HS.out] <;> rfl), hb1⟩
    | true =>
      go_wp2_with fail
      refine (C0 _ hb1).mono ?_
      rintro en w2 ⟨rfl, hb2'⟩
      have o2 := o1.below hb2'
      have hb2 := hb1.trans (hb2'.mono hb1.size)
      obtain ⟨p20, p21, p22, p23, p24, p25⟩ := o2.five
      have hl2 := o2.lt
      obtain ⟨f00, f01, f02, f03, f04, f05⟩ := HK0.out _ hb2
      clear hb2'
      cases q0 with
      | false =>
        go_wp2
        go_ret
        exact ⟨ret_bool (by rw [HS.out] <;> rfl), hb2⟩
      | true =>
        go_wp2
        go_ret
        exact ⟨ret_bool (by rw [HS.out] <;> rfl), hb2⟩
  · have HS : Hid (vR 1 t = false) := by
      unfold Hid
      rw [vR_1, valid_core]
      have h1 : (t.kind : Int) = 9 := by omega
      have h2 : ¬ (t.kids.length : Int) = 1 := by have := HF.out.len; omega
      exact core_no _ _ (by rw [h1]; exact (show (kidsI 9).1 = (kidsI 9).2 from rfl)) (by rw [h1]; exact h2)
    have hm3 : ((m : Int) == 1) = false := by simp; omega
    subst hk2
    clear hF hN hk hK hnn hm hqb
    go_enter Tryz.func14, Tryz.ntmps14
    go_wp2_with fail
    refine (CB _).mono ?_
    rintro en w1 ⟨rfl, hb1'⟩
    have o1 := o0.below hb1'
    have hb1 := hb0.trans (hb1'.mono hb0.size)
    obtain ⟨p10, p11, p12, p13, p14, p15⟩ := o1.five
    have hl1 := o1.lt
    clear hb1'
    cases qb with
    | true =>
      go_wp2
      go_ret
      exact ⟨ret_bool (by rw [HS.out] <;> rfl), hb1⟩
    | false =>
      go_wp2
      go_ret
      exact ⟨ret_bool (by rw [HS.out] <;> rfl), hb1⟩
theorem is1_no (t : Tree) (hw : wideTr t) (h7 : t.kind ≠ 7) (h8 : t.kind ≠ 8) (h9 : t.kind ≠ 9) : IsAs 1 t := by
  intro w k a b n v hN
  obtain ⟨ao, m, cap, rfl, hF⟩ := Fl.of hN hw
  have HF : Hid (Fl w t k a b n ao m cap) := hF
  have hk := hF.kind
  have hm1 := hF.2.2.2.1
  have hm2 := hF.2.2.2.2
  have o0 := Own.new w #[.int .u8 k, .int .i64 a, .string b, .int .u64 n, .slice ao m cap] 25
  have hb0 : Below w.heap.size w (w.alloc (.cells #[.int .u8 k, .int .i64 a, .string b, .int .u64 n, .slice ao m cap] 25)) := (Below.refl _ _).alloc (Nat.le_refl _) _
  have HS : Hid (vR 1 t = false) := by
    unfold Hid
    rw [vR_1, valid_core]
    have a7 : ¬ ((t.kind : Int) = 7) := by omega
    have a8 : ¬ ((t.kind : Int) = 8) := by omega
    have a9 : ¬ ((t.kind : Int) = 9) := by omega
    simp [takesI, isTypeI, a7, a8, a9]
  have z7 : (k == 7) = false := by simp; omega
  have z8 : (k == 8) = false := by simp; omega
  have z9 : (k == 9) = false := by simp; omega
  clear hF hN hk h7 h8 h9
  go_enter Tryz.func14, Tryz.ntmps14
  go_wp2
  go_ret
  exact ⟨ret_bool (by rw [HS.out] <;> rfl), hb0⟩
set_option linter.unusedSimpArgs false
theorem is1_n (w : World) (t : Tree) (a : Int) (b : ByteArray) (n : Int) (ao : Option Addr) (cap : Nat)  (HF : Hid (Fl w t 7 a b n ao 0 cap)) (hn : (n == 0) = false) : Calls Tryz.prog 14 #[.agg #[.int .u8 7, .int .i64 a, .string b, .int .u64 n, .slice ao 0 cap], .int .i64 1] w fun en w' => en = .returned (.bool (false)) ∧ Below w.heap.size w w' := by
  have o0 := Own.new w #[.int .u8 7, .int .i64 a, .string b, .int .u64 n, .slice ao 0 cap] 25
  have hb0 : Below w.heap.size w (w.alloc (.cells #[.int .u8 7, .int .i64 a, .string b, .int .u64 n, .slice ao 0 cap] 25)) := (Below.refl _ _).alloc (Nat.le_refl _) _
  obtain ⟨p00, p01, p02, p03, p04, p05⟩ := o0.five
  have e4 : (b.toList == []) = (t.text == []) := txt_lit b t.text HF.out.txt ⟨#[]⟩
  clear e4
  go_enter Tryz.func14, Tryz.ntmps14
  go_wp2_with fail
  have hl0d := o0.lt
  refine wp_region_held_drew (S := (fun w' => w'.cell? ⟨w.heap.size, 0, none⟩ = some (.int .u8 7) ∧ w'.cell? ⟨w.heap.size, 1, none⟩ = some (.int .i64 a) ∧ w'.cell? ⟨w.heap.size, 2, none⟩ = some (.string b) ∧ w'.cell? ⟨w.heap.size, 3, none⟩ = some (.int .u64 n) ∧ w'.cell? ⟨w.heap.size, 4, none⟩ = some (.slice ao 0 cap))) (by kernel_rfl) (by exact ⟨p00, p01, p02, p03, p04⟩) (fun hHeld => ?_)
  refine wpAnyH_take (i := 0) (v := ?v0) rfl (by kernel_rfl) (by kernel_rfl) (by kernel_rfl) (fun _ _ _ h => h) (Or.inl ⟨by rfl, ?hy0⟩) (by assumption) ?rest0
  case hy0 => (intro wS hSw; (try dsimp only at hSw); go_simp; try with_reducible rfl)
  try simp only [Act.put, List.getElem_toArray, List.getElem_cons_zero, List.getElem_cons_succ, List.setIfInBounds_toArray, List.set_cons_zero, List.set_cons_succ]
  refine wpAnyH_take (i := 1) (v := ?v1) rfl (by kernel_rfl) (by kernel_rfl) (by kernel_rfl) (fun _ _ _ h => h) (Or.inl ⟨by rfl, ?hy1⟩) (by assumption) ?rest1
  case hy1 => (intro wS hSw; (try dsimp only at hSw); go_simp; try with_reducible rfl)
  try simp only [Act.put, List.getElem_toArray, List.getElem_cons_zero, List.getElem_cons_succ, List.setIfInBounds_toArray, List.set_cons_zero, List.set_cons_succ]
  refine wpAnyH_take (i := 2) (v := ?v2) rfl (by kernel_rfl) (by kernel_rfl) (by kernel_rfl) (fun _ _ _ h => h) (Or.inl ⟨by rfl, ?hy2⟩) (by assumption) ?rest2
  case hy2 => (intro wS hSw; (try dsimp only at hSw); go_simp; try with_reducible rfl)
  try simp only [Act.put, List.getElem_toArray, List.getElem_cons_zero, List.getElem_cons_succ, List.setIfInBounds_toArray, List.set_cons_zero, List.set_cons_succ]
  refine wpAnyH_take (i := 3) (v := ?v3) rfl (by kernel_rfl) (by kernel_rfl) (by kernel_rfl) (fun _ _ _ h => h) (Or.inl ⟨by rfl, ?hy3⟩) (by assumption) ?rest3
  case hy3 => (intro wS hSw; (try dsimp only at hSw); go_simp; try with_reducible rfl)
  try simp only [Act.put, List.getElem_toArray, List.getElem_cons_zero, List.getElem_cons_succ, List.setIfInBounds_toArray, List.set_cons_zero, List.set_cons_succ]
  refine wpAnyH_take (i := 4) (v := ?v4) rfl (by kernel_rfl) (by kernel_rfl) (by kernel_rfl) (fun _ _ _ h => h) (Or.inl ⟨by rfl, ?hy4⟩) (by assumption) ?rest4
  case hy4 => (intro wS hSw; (try dsimp only at hSw); go_simp; try with_reducible rfl)
  try simp only [Act.put, List.getElem_toArray, List.getElem_cons_zero, List.getElem_cons_succ, List.setIfInBounds_toArray, List.set_cons_zero, List.set_cons_succ]
  refine wpAnyH_take (i := 5) (v := ?v5) rfl (by kernel_rfl) (by kernel_rfl) (by kernel_rfl) (fun _ _ _ h => h) (Or.inl ⟨by rfl, ?hy5⟩) (by assumption) ?rest5
  case hy5 => (intro wS hSw; (try dsimp only at hSw); go_simp; try with_reducible rfl)
  try simp only [Act.put, List.getElem_toArray, List.getElem_cons_zero, List.getElem_cons_succ, List.setIfInBounds_toArray, List.set_cons_zero, List.set_cons_succ]
  refine wpAnyH_take (i := 6) (v := ?v6) rfl (by kernel_rfl) (by kernel_rfl) (by kernel_rfl) (fun _ _ _ h => h) (Or.inl ⟨by rfl, ?hy6⟩) (by assumption) ?rest6
  case hy6 => (intro wS hSw; (try dsimp only at hSw); go_simp; try with_reducible rfl)
  try simp only [Act.put, List.getElem_toArray, List.getElem_cons_zero, List.getElem_cons_succ, List.setIfInBounds_toArray, List.set_cons_zero, List.set_cons_succ]
  refine wpAnyH_take (i := 7) (v := ?v7) rfl (by kernel_rfl) (by kernel_rfl) (by kernel_rfl) (fun _ _ _ h => h) (Or.inl ⟨by rfl, ?hy7⟩) (by assumption) ?rest7
  case hy7 => (intro wS hSw; (try dsimp only at hSw); go_simp; try with_reducible rfl)
  try simp only [Act.put, List.getElem_toArray, List.getElem_cons_zero, List.getElem_cons_succ, List.setIfInBounds_toArray, List.set_cons_zero, List.set_cons_succ]
  refine wpAnyH_take (i := 8) (v := undef) rfl (by kernel_rfl) (by kernel_rfl) (by kernel_rfl) (fun _ _ _ h => h) (Or.inr ⟨by rfl, rfl⟩) (by assumption) ?rest8
  try simp only [Act.put, List.getElem_toArray, List.getElem_cons_zero, List.getElem_cons_succ, List.setIfInBounds_toArray, List.set_cons_zero, List.set_cons_succ]
  refine wpAnyH_take (i := 9) (v := undef) rfl (by kernel_rfl) (by kernel_rfl) (by kernel_rfl) (fun _ _ _ h => h) (Or.inr ⟨by rfl, rfl⟩) (by assumption) ?rest9
  try simp only [Act.put, List.getElem_toArray, List.getElem_cons_zero, List.getElem_cons_succ, List.setIfInBounds_toArray, List.set_cons_zero, List.set_cons_succ]
  refine wpAnyH_take (i := 10) (v := undef) rfl (by kernel_rfl) (by kernel_rfl) (by kernel_rfl) (fun _ _ _ h => h) (Or.inr ⟨by rfl, rfl⟩) (by assumption) ?rest10
  try simp only [Act.put, List.getElem_toArray, List.getElem_cons_zero, List.getElem_cons_succ, List.setIfInBounds_toArray, List.set_cons_zero, List.set_cons_succ]
  refine wpAnyH_take (i := 11) (v := undef) rfl (by kernel_rfl) (by kernel_rfl) (by kernel_rfl) (fun _ _ _ h => h) (Or.inr ⟨by rfl, rfl⟩) (by assumption) ?rest11
  try simp only [Act.put, List.getElem_toArray, List.getElem_cons_zero, List.getElem_cons_succ, List.setIfInBounds_toArray, List.set_cons_zero, List.set_cons_succ]
  refine wpAnyH_take (i := 12) (v := undef) rfl (by kernel_rfl) (by kernel_rfl) (by kernel_rfl) (fun _ _ _ h => h) (Or.inr ⟨by rfl, rfl⟩) (by assumption) ?rest12
  try simp only [Act.put, List.getElem_toArray, List.getElem_cons_zero, List.getElem_cons_succ, List.setIfInBounds_toArray, List.set_cons_zero, List.set_cons_succ]
  refine wpAnyH_take (i := 13) (v := undef) rfl (by kernel_rfl) (by kernel_rfl) (by kernel_rfl) (fun _ _ _ h => h) (Or.inr ⟨by rfl, rfl⟩) (by assumption) ?rest13
  try simp only [Act.put, List.getElem_toArray, List.getElem_cons_zero, List.getElem_cons_succ, List.setIfInBounds_toArray, List.set_cons_zero, List.set_cons_succ]
  refine wpAnyH_take (i := 14) (v := undef) rfl (by kernel_rfl) (by kernel_rfl) (by kernel_rfl) (fun _ _ _ h => h) (Or.inr ⟨by rfl, rfl⟩) (by assumption) ?rest14
  try simp only [Act.put, List.getElem_toArray, List.getElem_cons_zero, List.getElem_cons_succ, List.setIfInBounds_toArray, List.set_cons_zero, List.set_cons_succ]
  refine wpAnyH_take (i := 15) (v := undef) rfl (by kernel_rfl) (by kernel_rfl) (by kernel_rfl) (fun _ _ _ h => h) (Or.inr ⟨by rfl, rfl⟩) (by assumption) ?rest15
  try simp only [Act.put, List.getElem_toArray, List.getElem_cons_zero, List.getElem_cons_succ, List.setIfInBounds_toArray, List.set_cons_zero, List.set_cons_succ]
  refine wpAnyH_take (i := 16) (v := undef) rfl (by kernel_rfl) (by kernel_rfl) (by kernel_rfl) (fun _ _ _ h => h) (Or.inr ⟨by rfl, rfl⟩) (by assumption) ?rest16
  try simp only [Act.put, List.getElem_toArray, List.getElem_cons_zero, List.getElem_cons_succ, List.setIfInBounds_toArray, List.set_cons_zero, List.set_cons_succ]
  refine wpAnyH_take (i := 17) (v := ?v17) rfl (by kernel_rfl) (by kernel_rfl) (by kernel_rfl) (fun _ _ _ h => h) (Or.inl ⟨by rfl, ?hy17⟩) (by assumption) ?rest17
  case hy17 => (intro wS hSw; (try dsimp only at hSw); go_simp; try with_reducible rfl)
  try simp only [Act.put, List.getElem_toArray, List.getElem_cons_zero, List.getElem_cons_succ, List.setIfInBounds_toArray, List.set_cons_zero, List.set_cons_succ]
  refine wpAnyH_take (i := 18) (v := ?v18) rfl (by kernel_rfl) (by kernel_rfl) (by kernel_rfl) (fun _ _ _ h => h) (Or.inl ⟨by rfl, ?hy18⟩) (by assumption) ?rest18
  case hy18 => (intro wS hSw; (try dsimp only at hSw); go_simp; try with_reducible rfl)
  try simp only [Act.put, List.getElem_toArray, List.getElem_cons_zero, List.getElem_cons_succ, List.setIfInBounds_toArray, List.set_cons_zero, List.set_cons_succ]
  refine wpAnyH_done (by kernel_rfl) ?_ _
  go_wp2
  go_ret
  exact ⟨rfl, bdrew hb0⟩
end Go.Proofs.YtmhnbklchnnbaaaGreatDoor
