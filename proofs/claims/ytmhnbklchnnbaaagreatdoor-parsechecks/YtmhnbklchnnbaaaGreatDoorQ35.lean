import Derived.Test.YtmhnbklchnnbaaaGreatDoorQ28
set_option maxHeartbeats 8000000
set_option maxRecDepth 100000
namespace Go.Proofs.YtmhnbklchnnbaaaGreatDoor
open Go.RowKit
set_option linter.unusedVariables false
set_option linter.unusedSimpArgs false
theorem is1_m (w : World) (t : Tree) (a : Int) (b : ByteArray) (n : Int) (ao : Option Addr) (cap : Nat) (m : Nat) (HF : Hid (Fl w t 7 a b n ao m cap)) (hm : ((m : Int) == 0) = false) : Calls Tryz.prog 14 #[.agg #[.int .u8 7, .int .i64 a, .string b, .int .u64 n, .slice ao m cap], .int .i64 1] w fun en w' => en = .returned (.bool (false)) ∧ Below w.heap.size w w' := by
  have o0 := Own.new w #[.int .u8 7, .int .i64 a, .string b, .int .u64 n, .slice ao m cap] 25
  have hb0 : Below w.heap.size w (w.alloc (.cells #[.int .u8 7, .int .i64 a, .string b, .int .u64 n, .slice ao m cap] 25)) := (Below.refl _ _).alloc (Nat.le_refl _) _
  obtain ⟨p00, p01, p02, p03, p04, p05⟩ := o0.five
  have e4 : (b.toList == []) = (t.text == []) := txt_lit b t.text HF.out.txt ⟨#[]⟩
  clear e4
  go_enter Tryz.func14, Tryz.ntmps14
  go_wp2_with fail
  have hl0d := o0.lt
  refine wp_region_held_drew (S := (fun w' => w'.cell? ⟨w.heap.size, 0, none⟩ = some (.int .u8 7) ∧ w'.cell? ⟨w.heap.size, 1, none⟩ = some (.int .i64 a) ∧ w'.cell? ⟨w.heap.size, 2, none⟩ = some (.string b) ∧ w'.cell? ⟨w.heap.size, 3, none⟩ = some (.int .u64 n) ∧ w'.cell? ⟨w.heap.size, 4, none⟩ = some (.slice ao m cap))) (by kernel_rfl) (by exact ⟨p00, p01, p02, p03, p04⟩) (fun hHeld => ?_)
  refine wpAnyH_take (i := 0) (v := ?v0) rfl (by kernel_rfl) (by kernel_rfl) (by kernel_rfl) (fun _ _ _ h => h) (Or.inl ⟨by rfl, ?hy0⟩) (by assumption) ?rest0
  case hy0 => (intro wS hSw; (try dsimp only at hSw); go_simp; try with_reducible rfl)
  try simp only [Act.put, List.getElem_toArray, List.getElem_cons_zero, List.getElem_cons_succ, List.setIfInBounds_toArray, List.set_cons_zero, List.set_cons_succ]
  refine wpAnyH_take (i := 1) (v := ?v1) rfl (by kernel_rfl) (by kernel_rfl) (by kernel_rfl) (fun _ _ _ h => h) (Or.inl ⟨by rfl, ?hy1⟩) (by assumption) ?rest1
  case hy1 => (intro wS hSw; (try dsimp only at hSw); go_simp; try with_reducible rfl)
  try simp only [Act.put, List.getElem_toArray, List.getElem_cons_zero, List.getElem_cons_succ, List.setIfInBounds_toArray, List.set_cons_zero, List.set_cons_succ]
  refine wpAnyH_take (i := 2) (v := ?v2) rfl (by kernel_rfl) (by kernel_rfl) (by kernel_rfl) (fun _ _ _ h => h) (Or.inl ⟨by rfl, ?hy2⟩) (by assumption) ?rest2
  case hy2 => (intro wS hSw; (try dsimp only at hSw); go_simp; try with_reducible rfl)
  try simp only [Act.put, List.getElem_toArray, List.getElem_cons_zero, List.getElem_cons_succ, List.setIfInBounds_toArray, List.set_cons_zero, List.set_cons_succ]
  refine wpAnyH_take (i := 3) (v := undef) rfl (by kernel_rfl) (by kernel_rfl) (by kernel_rfl) (fun _ _ _ h => h) (Or.inr ⟨by rfl, rfl⟩) (by assumption) ?rest3
  try simp only [Act.put, List.getElem_toArray, List.getElem_cons_zero, List.getElem_cons_succ, List.setIfInBounds_toArray, List.set_cons_zero, List.set_cons_succ]
  refine wpAnyH_take (i := 4) (v := undef) rfl (by kernel_rfl) (by kernel_rfl) (by kernel_rfl) (fun _ _ _ h => h) (Or.inr ⟨by rfl, rfl⟩) (by assumption) ?rest4
  try simp only [Act.put, List.getElem_toArray, List.getElem_cons_zero, List.getElem_cons_succ, List.setIfInBounds_toArray, List.set_cons_zero, List.set_cons_succ]
  refine wpAnyH_take (i := 5) (v := undef) rfl (by kernel_rfl) (by kernel_rfl) (by kernel_rfl) (fun _ _ _ h => h) (Or.inr ⟨by rfl, rfl⟩) (by assumption) ?rest5
  try simp only [Act.put, List.getElem_toArray, List.getElem_cons_zero, List.getElem_cons_succ, List.setIfInBounds_toArray, List.set_cons_zero, List.set_cons_succ]
  refine wpAnyH_take (i := 6) (v := ?v6) rfl (by kernel_rfl) (by kernel_rfl) (by kernel_rfl) (fun _ _ _ h => h) (Or.inl ⟨by rfl, ?hy6⟩) (by assumption) ?rest6
  case hy6 => (intro wS hSw; (try dsimp only at hSw); go_simp; try with_reducible rfl)
  try simp only [Act.put, List.getElem_toArray, List.getElem_cons_zero, List.getElem_cons_succ, List.setIfInBounds_toArray, List.set_cons_zero, List.set_cons_succ]
  refine wpAnyH_take (i := 7) (v := ?v7) rfl (by kernel_rfl) (by kernel_rfl) (by kernel_rfl) (fun _ _ _ h => h) (Or.inl ⟨by rfl, ?hy7⟩) (by assumption) ?rest7
  case hy7 => (intro wS hSw; (try dsimp only at hSw); go_simp; try with_reducible rfl)
  try simp only [Act.put, List.getElem_toArray, List.getElem_cons_zero, List.getElem_cons_succ, List.setIfInBounds_toArray, List.set_cons_zero, List.set_cons_succ]
  refine wpAnyH_take (i := 8) (v := undef) rfl (by kernel_rfl) (by kernel_rfl) (by kernel_rfl) (fun _ _ _ h => h) (Or.inr ⟨by rfl, rfl⟩) (by assumption) ?rest8
  try simp only [Act.put, List.getElem_toArray, List.getElem_cons_zero, List.getElem_cons_succ, List.setIfInBounds_toArray, List.set_cons_zero, List.set_cons_succ]
  refine wpAnyH_take (i := 9) (v := undef) rfl (by kernel_rfl) (by kernel_rfl) (by kernel_rfl) (fun _ _ _ h => h) (Or.inr ⟨by rfl, rfl⟩) (by assumption) ?rest9
  try simp only [Act.put, List.getElem_toArray, List.getElem_cons_zero, List.getElem_cons_succ, List.setIfInBounds_toArray, List.set_cons_zero, List.set_cons_succ]
  refine wpAnyH_take (i := 10) (v := undef) rfl (by kernel_rfl) (by kernel_rfl) (by kernel_rfl) (fun _ _ _ h => h) (Or.inr ⟨by rfl, rfl⟩) (by assumption) ?rest10
  try simp only [Act.put, List.getElem_toArray, List.getElem_cons_zero, List.getElem_cons_succ, List.setIfInBounds_toArray, List.set_cons_zero, List.set_cons_succ]
  refine wpAnyH_take (i := 11) (v := undef) rfl (by kernel_rfl) (by kernel_rfl) (by kernel_rfl) (fun _ _ _ h => h) (Or.inr ⟨by rfl, rfl⟩) (by assumption) ?rest11
  try simp only [Act.put, List.getElem_toArray, List.getElem_cons_zero, List.getElem_cons_succ, List.setIfInBounds_toArray, List.set_cons_zero, List.set_cons_succ]
  refine wpAnyH_take (i := 12) (v := undef) rfl (by kernel_rfl) (by kernel_rfl) (by kernel_rfl) (fun _ _ _ h => h) (Or.inr ⟨by rfl, rfl⟩) (by assumption) ?rest12
  try simp only [Act.put, List.getElem_toArray, List.getElem_cons_zero, List.getElem_cons_succ, List.setIfInBounds_toArray, List.set_cons_zero, List.set_cons_succ]
  refine wpAnyH_take (i := 13) (v := undef) rfl (by kernel_rfl) (by kernel_rfl) (by kernel_rfl) (fun _ _ _ h => h) (Or.inr ⟨by rfl, rfl⟩) (by assumption) ?rest13
  try simp only [Act.put, List.getElem_toArray, List.getElem_cons_zero, List.getElem_cons_succ, List.setIfInBounds_toArray, List.set_cons_zero, List.set_cons_succ]
  refine wpAnyH_take (i := 14) (v := undef) rfl (by kernel_rfl) (by kernel_rfl) (by kernel_rfl) (fun _ _ _ h => h) (Or.inr ⟨by rfl, rfl⟩) (by assumption) ?rest14
  try simp only [Act.put, List.getElem_toArray, List.getElem_cons_zero, List.getElem_cons_succ, List.setIfInBounds_toArray, List.set_cons_zero, List.set_cons_succ]
  refine wpAnyH_take (i := 15) (v := undef) rfl (by kernel_rfl) (by kernel_rfl) (by kernel_rfl) (fun _ _ _ h => h) (Or.inr ⟨by rfl, rfl⟩) (by assumption) ?rest15
  try simp only [Act.put, List.getElem_toArray, List.getElem_cons_zero, List.getElem_cons_succ, List.setIfInBounds_toArray, List.set_cons_zero, List.set_cons_succ]
  refine wpAnyH_take (i := 16) (v := undef) rfl (by kernel_rfl) (by kernel_rfl) (by kernel_rfl) (fun _ _ _ h => h) (Or.inr ⟨by rfl, rfl⟩) (by assumption) ?rest16
  try simp only [Act.put, List.getElem_toArray, List.getElem_cons_zero, List.getElem_cons_succ, List.setIfInBounds_toArray, List.set_cons_zero, List.set_cons_succ]
  refine wpAnyH_take (i := 17) (v := ?v17) rfl (by kernel_rfl) (by kernel_rfl) (by kernel_rfl) (fun _ _ _ h => h) (Or.inl ⟨by rfl, ?hy17⟩) (by assumption) ?rest17
  case hy17 => (intro wS hSw; (try dsimp only at hSw); go_simp; try with_reducible rfl)
  try simp only [Act.put, List.getElem_toArray, List.getElem_cons_zero, List.getElem_cons_succ, List.setIfInBounds_toArray, List.set_cons_zero, List.set_cons_succ]
  refine wpAnyH_take (i := 18) (v := ?v18) rfl (by kernel_rfl) (by kernel_rfl) (by kernel_rfl) (fun _ _ _ h => h) (Or.inl ⟨by rfl, ?hy18⟩) (by assumption) ?rest18
  case hy18 => (intro wS hSw; (try dsimp only at hSw); go_simp; try with_reducible rfl)
  try simp only [Act.put, List.getElem_toArray, List.getElem_cons_zero, List.getElem_cons_succ, List.setIfInBounds_toArray, List.set_cons_zero, List.set_cons_succ]
  refine wpAnyH_done (by kernel_rfl) ?_ _
  go_wp2
  go_ret
  exact ⟨rfl, bdrew hb0⟩
set_option linter.unusedSimpArgs false
theorem coreT_same (r r' : Int) (t : Tree) (h : r ≠ 14 ∧ r ≠ 17 ∧ r ≠ 18) (h' : r' ≠ 14 ∧ r' ≠ 17 ∧ r' ≠ 18) : coreT r t = coreT r' t := by
  have e1 : (r == 14) = (r' == 14) := by rw [beq_eq_false_iff_ne.2 h.1, beq_eq_false_iff_ne.2 h'.1]
  have e2 : (r == 17 || r == 18) = (r' == 17 || r' == 18) := by rw [beq_eq_false_iff_ne.2 h.2.1, beq_eq_false_iff_ne.2 h'.2.1, beq_eq_false_iff_ne.2 h.2.2, beq_eq_false_iff_ne.2 h'.2.2]
  have ha : ∀ (k m i : Int), asksI r k m i = asksI r' k m i := by intro k m i; unfold asksI; simp only [e1, e2]
  have hL : ∀ (k m : Nat) (ks : List Tree) (i : Nat), validT.validL r k m i ks = validT.validL r' k m i ks := by
    intro k m ks
    induction ks with
    | nil => intro i; simp [validT.validL]
    | cons t ks ih => intro i; rw [validT.validL, validT.validL, ih, ha]
  unfold coreT; rw [hL]
theorem v21 (r : Int) (t : Tree) (h : r ≠ 14 ∧ r ≠ 17 ∧ r ≠ 18) : validT r t = (takesI r t.kind && coreT 21 t) := by rw [valid_core, coreT_same r 21 t h (by decide)]
theorem v_8 (t : Tree) : validT 8 t = (vR 4 t || vR 14 t) := by
  rw [vR_4, vR_14, v21 8 t (by decide), v21 6 t (by decide), v21 7 t (by decide)]
  generalize coreT 21 t = c
  rw [Bool.eq_iff_iff]
  cases c <;> simp [takesI, isStmtI] <;> omega
theorem v_1 (t : Tree) : validT 1 t = (vR 6 t || vR 7 t) := by
  rw [vR_6, vR_7, v21 1 t (by decide)]
  generalize coreT 21 t = c
  rw [Bool.eq_iff_iff]
  cases c <;> simp [takesI] <;> omega
theorem v_9 (t : Tree) : validT 9 t = (vR 15 t || (vR 17 t || vR 16 t)) := by
  rw [vR_15, vR_17, vR_16, v21 9 t (by decide), v21 11 t (by decide), v21 7 t (by decide)]
  generalize coreT 21 t = c
  rw [Bool.eq_iff_iff]
  cases c <;> simp [takesI, isStmtI, stepI] <;> omega
theorem v_10 (t : Tree) : validT 10 t = (vR 15 t || vR 2 t) := by
  rw [vR_15, vR_2, v21 10 t (by decide), v21 11 t (by decide), v21 21 t (by decide)]
  generalize coreT 21 t = c
  rw [Bool.eq_iff_iff]
  cases he : isExprI (t.kind : Int) <;> cases c <;> simp [takesI, stepI, he] <;> omega
theorem v_11 (t : Tree) : validT 11 t = (vR 15 t || vR 16 t) := by
  rw [vR_15, vR_16, v21 11 t (by decide), v21 7 t (by decide)]
  generalize coreT 21 t = c
  rw [Bool.eq_iff_iff]
  cases c <;> simp [takesI, isStmtI, stepI] <;> omega
theorem v_13 (t : Tree) : validT 13 t = (vR 11 t || vR 12 t) := by
  rw [vR_11, vR_12, v21 13 t (by decide), v21 12 t (by decide)]
  generalize coreT 21 t = c
  rw [Bool.eq_iff_iff]
  cases c <;> simp [takesI] <;> omega
theorem v_19 (t : Tree) : validT 19 t = (t.kind == 44 && vR 2 t) := by
  rw [vR_2, v21 19 t (by decide), v21 21 t (by decide)]
  generalize coreT 21 t = c
  rw [Bool.eq_iff_iff]
  cases c <;> simp [takesI, isExprI] <;> omega
theorem v_0 (t : Tree) : validT 0 t = (vR 8 t || (vR 2 t || (vR 1 t || vR 3 t))) := by
  rw [vR_8, vR_2, vR_1, vR_3, v21 0 t (by decide), v21 21 t (by decide), v21 5 t (by decide), v21 7 t (by decide)]
  generalize coreT 21 t = c
  rw [Bool.eq_iff_iff]
  cases h1 : isTypeI (t.kind : Int) <;> cases h2 : isStmtI (t.kind : Int) <;> cases h3 : isExprI (t.kind : Int) <;> cases c <;> simp [takesI, h1, h2, h3] <;> omega
theorem v_20c (t : Tree) (h : t.kind = 45) : validT 20 t = vR 2 t := by
  rw [vR_2, v21 20 t (by decide), v21 21 t (by decide), h]; simp [takesI, isExprI]
theorem v_20p (t : Tree) (h : t.kind = 54) : validT 20 t = (bareB t.text t.n && (decide (t.kids.length = 2) && t.kids.all (vR 2))) := by
  rw [v21 20 t (by decide), show vR 2 = validT 21 from rfl]
  obtain ⟨k, a, x, n, ks⟩ := t
  simp only [] at h
  subst h
  simp only [coreT]
  rw [vL_all 21 54 _ 21 ks 0 (fun j => by simp [asksI]), Bool.eq_iff_iff]
  simp [takesI, kidsI, textI, numI, bareB]; grind
theorem v_20n (t : Tree) (h1 : t.kind ≠ 45) (h2 : t.kind ≠ 54) : validT 20 t = false := by
  have : takesI 20 (t.kind : Int) = false := by simp [takesI]; omega
  rw [v21 20 t (by decide), this]; rfl
theorem m18 {a : Int} {x : List Nat} {n : Nat} {t0 : Tree} : vR 18 ⟨13, a, x, n, [t0]⟩ = (bareB x n && validT 20 t0) := by
  rw [vR_18, valid_core 7]
  simp only [coreT]
  simp [takesI, isStmtI, kidsI, textI, numI, bareB, validT.validL, asksI]
theorem m14_2 {a : Int} {x : List Nat} {n : Nat} {t0 t1 : Tree} : vR 14 ⟨14, a, x, n, [t0, t1]⟩ = (bareB x n && (vR 2 t0 && vR 4 t1)) := by
  rw [vR_14, valid_core 7]
  simp only [coreT]
  simp [vR_2, vR_4, takesI, isStmtI, kidsI, textI, numI, bareB, validT.validL, asksI, pickI]
  rfl
theorem m14_3 {a : Int} {x : List Nat} {n : Nat} {t0 t1 t2 : Tree} : vR 14 ⟨14, a, x, n, [t0, t1, t2]⟩ = (bareB x n && (vR 2 t0 && (vR 4 t1 && (vR 4 t2 || vR 14 t2)))) := by
  rw [← v_8 t2, vR_14, valid_core 7]
  simp only [coreT]
  simp [vR_2, vR_4, takesI, isStmtI, kidsI, textI, numI, bareB, validT.validL, asksI, pickI]
  rfl
theorem core_23 (r : Int) (t : Tree) (hk : (t.kind : Int) = 14) (h2 : ¬ (t.kids.length : Int) = 2) (h3 : ¬ (t.kids.length : Int) = 3) : (takesI r t.kind && coreT r t) = false := by
  have : (decide ((kidsI t.kind).1 ≤ (t.kids.length : Int)) && decide ((t.kids.length : Int) ≤ (kidsI t.kind).2)) = false := by
    rw [hk, show kidsI 14 = (2, 3) from rfl, Bool.and_eq_false_iff, decide_eq_false_iff_not, decide_eq_false_iff_not]; simp only []; omega
  rw [coreT, this]; simp
theorem m8 {a : Int} {x : List Nat} {n : Nat} {ks : List Tree} (hl : ks.length ≤ 9223372036854775807) : vR 8 ⟨1, a, x, n, ks⟩ = (ks.all (fun u => vR 6 u || vR 7 u) && bareB x n) := by
  rw [vR_8, valid_core 0, show (fun u => vR 6 u || vR 7 u) = validT 1 from funext fun u => (v_1 u).symm]
  simp only [coreT]
  rw [vL_all 0 1 _ 1 ks 0 (fun j => by simp [asksI]), Bool.eq_iff_iff]
  simp [takesI, kidsI, textI, numI, bareB]; grind
def chainB (b : Bool) : Tree → Bool
  | ⟨k, a, x, n, ks⟩ => if k = 44 then true else if k = 45 then b else if k = 48 ∨ k = 49 then chainL ks else false
  where chainL : List Tree → Bool
  | [] => false
  | t :: ts => chainB true t
theorem chain_17 : ∀ (N : Nat) (t : Tree), cntT t ≤ N → validT 17 t = (vR 2 t && chainB false t) ∧ validT 18 t = (vR 2 t && chainB true t) := by
  intro N
  induction N with
  | zero => intro t h; obtain ⟨k, a, x, n, ks⟩ := t; rw [cntT] at h; omega
  | succ N ih =>
    intro t h
    obtain ⟨k, a, x, n, ks⟩ := t
    rw [vR_2, valid_core 17, valid_core 18, valid_core 21]
    by_cases h44 : k = 44
    · subst h44; rw [coreT_role 17 21 _ (by simp), coreT_role 18 21 _ (by simp)]; simp [takesI, targetI, isExprI, chainB]
    · by_cases h45 : k = 45
      · subst h45; rw [coreT_role 18 21 _ (by simp)]; simp [takesI, targetI, isExprI, chainB]
      · by_cases h48 : k = 48
        · subst h48
          match ks with
          | [] => simp [coreT, kidsI]
          | [t0] =>
            have := (ih t0 (by rw [cntT, cntT.cntL, cntT.cntL] at h; omega)).2
            rw [vR_2] at this
            simp [coreT, takesI, targetI, isExprI, chainB, chainB.chainL, kidsI, validT.validL, asksI, pickI, eitherI, this]; grind
          | t0 :: t1 :: ts => simp [coreT, kidsI]; grind
        · by_cases h49 : k = 49
          · subst h49
            match ks with
            | [] => simp [coreT, kidsI]
            | [t0] => simp [coreT, kidsI]
            | [t0, t1] =>
              have := (ih t0 (by rw [cntT, cntT.cntL, cntT.cntL] at h; omega)).2
              rw [vR_2] at this
              simp [coreT, takesI, targetI, isExprI, chainB, chainB.chainL, kidsI, validT.validL, asksI, pickI, eitherI, this]; grind
            | t0 :: t1 :: t2 :: ts => simp [coreT, kidsI]; grind
          · have e1 : takesI 17 (k : Int) = false := by simp [takesI, targetI]; omega
            have e2 : takesI 18 (k : Int) = false := by simp [takesI, targetI]; omega
            simp [e1, e2, chainB, h44, h45, h48, h49]
end Go.Proofs.YtmhnbklchnnbaaaGreatDoor
