/-
  HOW MUCH A TOUR TELLS: its parts are fewer than the term's.
-/
import Derived.Test.YtepadfcjjcionaaGreatDoorCh
namespace Go.Proofs.YtepadfcjjcionaaGreatDoor
open Go.RowKit
set_option linter.unusedVariables false

theorem cnt_pos (t : Tm) : 1 ≤ cnt t := by rw [cnt_parts]; omega
theorem cnt_eb : cnt eb = 1 := rfl
theorem bud_eb : bud eb = 0 := rfl
theorem len_cnt : ∀ ks : List Tm, ks.length ≤ cnt.cntL ks
  | [] => Nat.le_refl _
  | t :: ks => by have := len_cnt ks; have := cnt_pos t; simp only [List.length_cons, cnt.cntL]; omega
theorem enough_kid {N : Nat} {ks : List Tm} (h : cnt.cntL ks < N) (i : Nat) : Enough N (kidT ks i) := by
  unfold kidT
  cases hu : ks[i]? with
  | none => exact .inr ⟨rfl, by omega⟩
  | some u => exact .inl (Nat.lt_of_le_of_lt (cnt_get hu) h)
/-- Two parts of unlike numbers. -/
theorem two_kids (f : Tm → Nat) (C E : Nat) (hf : ∀ t, f t ≤ C * cnt t) (he : f eb ≤ E) : ∀ ks : List Tm, f (kidT ks 1) + f (kidT ks 2) ≤ C * cnt.cntL ks + 2 * E
  | [] => by show f eb + f eb ≤ _; omega
  | [a] => by show f eb + f eb ≤ _; omega
  | [a, b] => by
    show f b + f eb ≤ C * (cnt a + (cnt b + 0)) + 2 * E
    have := hf b
    rw [Nat.mul_add, Nat.mul_add]
    omega
  | a :: b :: c :: l => by
    show f b + f c ≤ C * (cnt a + (cnt b + (cnt c + cnt.cntL l))) + 2 * E
    have := hf b
    have := hf c
    rw [Nat.mul_add, Nat.mul_add, Nat.mul_add]
    omega
theorem cnt12 (ks : List Tm) : cnt (kidT ks 1) + cnt (kidT ks 2) ≤ cnt.cntL ks + 2 := by
  have := two_kids cnt 1 1 (fun t => by omega) (by rw [cnt_eb]; exact Nat.le_refl _) ks
  omega
theorem bud12 (ks : List Tm) : bud (kidT ks 1) + bud (kidT ks 2) ≤ 8 * cnt.cntL ks := by
  have := two_kids bud 8 0 bud_le (Nat.le_refl _) ks
  omega
theorem last_cases (ks : List Tm) : lastT ks = eb ∧ ks = [] ∨ ∃ u, lastT ks = u ∧ u ∈ ks := by
  unfold lastT
  cases hk : ks.getLast? with
  | none => rw [List.getLast?_eq_none_iff] at hk; exact .inl ⟨rfl, hk⟩
  | some u => exact .inr ⟨u, rfl, List.mem_of_getLast? hk⟩
theorem cnt_mem {ks : List Tm} {u : Tm} (h : u ∈ ks) : cnt u ≤ cnt.cntL ks := by
  obtain ⟨i, hi, rfl⟩ := List.mem_iff_getElem.1 h
  exact cnt_get (List.getElem?_eq_getElem hi)
/-- A sum over the parts of a switch. -/
def sumT (f : Tm → Nat) : List Tm → Nat
  | [] => 0
  | t :: ts => f t + sumT f ts
theorem sumT_app (f : Tm → Nat) (a b : List Tm) : sumT f (a ++ b) = sumT f a + sumT f b := by
  induction a with
  | nil => simp [sumT]
  | cons t a ih => simp only [List.cons_append, sumT, ih]; omega
def casesT (l : List Tm) : List Tm := (l.filter fun k => decide (k.op = 11)).map fun k => lastT k.ks
theorem casesT_cons (t : Tm) (l : List Tm) : casesT (t :: l) = (if t.op = 11 then [lastT t.ks] else []) ++ casesT l := by
  unfold casesT
  by_cases h : t.op = 11 <;> simp [h]
theorem sum_arms (f : Tm → Nat) (C D : Nat) (h0 : f eb ≤ D) : ∀ l : List Tm, (∀ t ∈ l, f (lastT t.ks) ≤ C * cnt t ∧ (t.op = 11 → f (lastT t.ks) + f t ≤ C * cnt t + D) ∧ f t ≤ C * cnt t + D) → sumT f (casesT l) + f (lastT l) ≤ C * cnt.cntL l + D
  | [], _ => by show 0 + f eb ≤ _; omega
  | [t], h => by
    obtain ⟨h1, h2, h3⟩ := h t (by simp)
    rw [casesT_cons]
    show _ + f t ≤ C * (cnt t + 0) + D
    by_cases e : t.op = 11
    · have := h2 e
      simp only [e, if_true, casesT, List.filter_nil, List.map_nil, List.append_nil, sumT]
      simp only [Nat.add_zero]
      omega
    · simp only [e, if_false, casesT, List.filter_nil, List.map_nil, List.append_nil, sumT]
      simp only [Nat.add_zero]
      omega
  | t :: u :: l, h => by
    have ih := sum_arms f C D h0 (u :: l) (fun q hq => h q (List.mem_cons_of_mem _ hq))
    obtain ⟨h1, _, _⟩ := h t (by simp)
    have el : lastT (t :: u :: l) = lastT (u :: l) := by unfold lastT; rw [List.getLast?_cons_cons]
    rw [casesT_cons, el, sumT_app]
    rw [show cnt.cntL (t :: u :: l) = cnt t + cnt.cntL (u :: l) from rfl, Nat.mul_add]
    by_cases e : t.op = 11
    · simp only [e, if_true, sumT]
      omega
    · simp only [e, if_false, sumT]
      omega
theorem arms_eq (ks : List Tm) : armsL ks = casesT ks.tail ++ [lastT ks.tail] := by
  unfold armsL casesT
  congr 1
  match ks with
  | [] => rfl
  | [a] => rfl
  | a :: b :: l =>
    rw [if_pos (by simp)]
    unfold lastT
    rw [List.getLast?_cons_cons]
    rfl
theorem cntL_tail (ks : List Tm) : cnt.cntL ks.tail ≤ cnt.cntL ks := by
  cases ks with
  | nil => exact Nat.le_refl _
  | cons t ks => simp only [List.tail_cons, cnt.cntL]; omega
theorem sum_armsL (f : Tm → Nat) (C D : Nat) (h0 : f eb ≤ D) (ks : List Tm) (h : ∀ t ∈ ks, f (lastT t.ks) ≤ C * cnt t ∧ (t.op = 11 → f (lastT t.ks) + f t ≤ C * cnt t + D) ∧ f t ≤ C * cnt t + D) : sumT f (armsL ks) ≤ C * cnt.cntL ks + D := by
  rw [arms_eq, sumT_app]
  have := sum_arms f C D h0 ks.tail (fun t ht => h t (List.mem_of_mem_tail ht))
  have := Nat.mul_le_mul_left C (cntL_tail ks)
  simp only [sumT]
  omega
theorem last_le (f : Tm → Nat) (C E : Nat) (t : Tm) (hf : ∀ u ∈ t.ks, f u ≤ C * cnt u) (he : f eb ≤ E) : f (lastT t.ks) ≤ C * (cnt t - 1) + E := by
  rcases last_cases t.ks with ⟨e, _⟩ | ⟨u, e, hu⟩
  · rw [e]; omega
  · rw [e]
    have h1 := hf u hu
    have h2 := cnt_mem hu
    have h3 : cnt u ≤ cnt t - 1 := by rw [cnt_parts t]; omega
    have := Nat.mul_le_mul_left C h3
    omega
theorem budL_sum : ∀ l : List Tm, budL l = sumT (fun t => bud t + 2) l
  | [] => rfl
  | t :: l => by simp only [budL, sumT, budL_sum l]
theorem cntL_sum : ∀ l : List Tm, cnt.cntL l = sumT cnt l
  | [] => rfl
  | t :: l => by simp only [cnt.cntL, sumT, cntL_sum l]
theorem bud_arms (ks : List Tm) : budL (armsL ks) ≤ 8 * cnt.cntL ks + 8 := by
  rw [budL_sum]
  refine sum_armsL _ 8 8 (by rw [bud_eb]; omega) ks fun t ht => ?_
  have hp := cnt_pos t
  have hl : bud (lastT t.ks) ≤ 8 * (cnt t - 1) + 0 := last_le bud 8 0 t (fun u _ => bud_le u) (Nat.le_refl _)
  have hb := bud_le t
  refine ⟨by omega, fun e => ?_, by omega⟩
  have : bud t = 0 := by simp [bud, e]
  omega
theorem wtL_sum : ∀ l : List Tm, wtL l = sumT wt l
  | [] => rfl
  | t :: l => by simp only [wtL, sumT, wtL_sum l]
theorem wt_eb : wt eb = 1 := rfl
theorem wt_arms (ks : List Tm) : wtL (armsL ks) ≤ cnt.cntL ks + 1 := by
  rw [wtL_sum]
  have := sum_armsL wt 1 1 (by rw [wt_eb]; omega) ks fun t ht => ?_
  · omega
  have hp := cnt_pos t
  have hw := wt_le t
  have hl : wt (lastT t.ks) ≤ 1 * (cnt t - 1) + 1 := last_le wt 1 1 t (fun u _ => by have := wt_le u; omega) (Nat.le_refl _)
  refine ⟨by omega, fun e => ?_, by omega⟩
  have he : wt t = 1 := by simp [wt, e]
  rcases last_cases t.ks with ⟨e1, _⟩ | ⟨u, e1, hu⟩
  · rw [e1, wt_eb]; omega
  · rw [e1]
    have h1 := wt_le u
    have h2 := cnt_mem hu
    rw [cnt_parts t]
    omega
theorem enough_arms {N : Nat} {ks : List Tm} (h : cnt.cntL ks < N) : ∀ u ∈ armsL ks, Enough N u := by
  intro u hu
  rw [arms_eq] at hu
  have key : ∀ l : List Tm, cnt.cntL l < N → Enough N (lastT l) := fun l hl => by
    rcases last_cases l with ⟨e, _⟩ | ⟨v, e, hv⟩
    · rw [e]; exact .inr ⟨rfl, by omega⟩
    · rw [e]; exact .inl (Nat.lt_of_le_of_lt (cnt_mem hv) hl)
  simp only [List.mem_append, List.mem_singleton] at hu
  rcases hu with hu | rfl
  · unfold casesT at hu
    obtain ⟨t, ht, rfl⟩ := List.mem_map.1 hu
    have h1 := cnt_mem (List.mem_of_mem_tail (List.mem_filter.1 ht).1)
    rw [cnt_parts t] at h1
    exact key t.ks (by omega)
  · exact key _ (Nat.lt_of_le_of_lt (cntL_tail ks) h)

/-! ### How many statements a tour tells of -/
theorem wt_eq {t : Tm} (h : t.op ≠ 11) : wt t = cnt t := by simp [wt, h]
def wmax (N : Nat) (t : Tm) : Nat := max ((walkF N t true).y + (walkF N t true).z) ((walkF N t false).y + (walkF N t false).z)
theorem wmax_le (N : Nat) (t : Tm) (c : Bool) : (walkF N t c).y + (walkF N t c).z ≤ wmax N t := by
  unfold wmax
  cases c
  · exact Nat.le_max_right _ _
  · exact Nat.le_max_left _ _
theorem one_yz (c : Bool) : (oneO c).y + (oneO c).z = 1 := by cases c <;> rfl
theorem walk_eb : ∀ (N : Nat) (c : Bool), (walkF N eb c).y + (walkF N eb c).z = 1
  | 0, c => one_yz c
  | N + 1, c => by cases c <;> rfl
theorem wmax_eb (N : Nat) : wmax N eb ≤ 1 := by
  unfold wmax
  rw [walk_eb, walk_eb]
  exact Nat.le_refl _
theorem blk_sum (f : Tm → Bool → Out) : ∀ (l : List Tm) (c : Bool), (∀ t c, (f t c).y + (f t c).z ≤ 3 * cnt t) → (blkF f l c).y + (blkF f l c).z ≤ 3 * cnt.cntL l
  | [], c, h => Nat.zero_le _
  | t :: l, c, h => by
    have ih := blk_sum f l (f t c).e h
    have ht := h t c
    simp only [blkF, seqO, cnt.cntL]
    omega
theorem arm_sum (f : Tm → Bool → Out) (n : Int) (c : Bool) (g : Tm → Nat) (h : ∀ t, (f t c).y + (f t c).z ≤ g t) : ∀ l : List Tm, (armF f n c l).y + (armF f n c l).z ≤ sumT g l
  | [] => Nat.zero_le _
  | t :: l => by
    have ih := arm_sum f n c g h l
    have ht := h t
    simp only [armF, sumT]
    omega
theorem out_le : ∀ (N : Nat) (t : Tm) (c : Bool), (walkF N t c).y + (walkF N t c).z ≤ 3 * wt t
  | 0, t, c => by
    have := wt_pos t
    have h := one_yz c
    show (oneO c).y + (oneO c).z ≤ _
    omega
  | N + 1, t, c => by
    have ih := out_le N
    have ihc : ∀ (t : Tm) (c : Bool), (walkF N t c).y + (walkF N t c).z ≤ 3 * cnt t := fun t c => by have := ih t c; have := wt_le t; omega
    have im : ∀ t : Tm, wmax N t ≤ 3 * wt t := fun t => Nat.max_le.2 ⟨ih t true, ih t false⟩
    have imc : ∀ t : Tm, wmax N t ≤ 3 * cnt t := fun t => by have := im t; have := wt_le t; omega
    have k12 := two_kids (wmax N) 3 1 imc (wmax_eb N) t.ks
    have h1 := one_yz c
    have hp := wt_pos t
    have hc := cnt_parts t
    have key : (bodyF (walkF N) t c).y + (bodyF (walkF N) t c).z + 1 ≤ 3 * wt t := by
      unfold bodyF
      split
      · rename_i e
        rw [wt_eq (by omega)]
        have := blk_sum (walkF N) t.ks c ihc
        omega
      · split
        · rename_i e
          rw [wt_eq (by omega)]
          have a1 := wmax_le N (kidT t.ks 1) c
          have a2 := wmax_le N (kidT t.ks 2) c
          simp only [ifF]
          omega
        · split
          · rename_i e
            rw [wt_eq (by omega)]
            have a1 := wmax_le N (kidT t.ks 1) c
            have a2 := wmax_le N (kidT t.ks 2) ((walkF N (kidT t.ks 1) c).e || ((walkF N (kidT t.ks 1) c).w t.n).2)
            simp only [loopF]
            omega
          · split
            · rename_i e
              rw [wt_eq (by omega)]
              have a1 := arm_sum (walkF N) t.n c (wmax N) (fun u => wmax_le N u c) (armsL t.ks)
              have a2 := sum_armsL (wmax N) 3 1 (wmax_eb N) t.ks fun u hu => by
                have q1 := cnt_pos u
                have q2 := last_le (wmax N) 3 1 u (fun v _ => imc v) (wmax_eb N)
                have q3 := im u
                have q4 := imc u
                refine ⟨by omega, fun e => ?_, by omega⟩
                have q5 : wmax N u ≤ 1 := by
                  have q6 : ∀ c, (walkF N u c).y + (walkF N u c).z ≤ 1 := fun c => by
                    cases N with
                    | zero => exact Nat.le_of_eq (one_yz c)
                    | succ N =>
                      show (oneO c).y + (bodyF (walkF N) u c).y + ((oneO c).z + (bodyF (walkF N) u c).z) ≤ 1
                      have q7 := one_yz c
                      have q8 : bodyF (walkF N) u c = ⟨c, noW, 0, 0⟩ := by simp [bodyF, e]
                      rw [q8]
                      simp only
                      omega
                  exact Nat.max_le.2 ⟨q6 true, q6 false⟩
                omega
              omega
            · split
              · simp only; omega
              · split
                · simp only; omega
                · simp only; omega
    show (oneO c).y + (bodyF (walkF N) t c).y + ((oneO c).z + (bodyF (walkF N) t c).z) ≤ _
    omega
theorem outLe (N : Nat) : OutLe N := fun t c _ => out_le N t c
end Go.Proofs.YtepadfcjjcionaaGreatDoor
