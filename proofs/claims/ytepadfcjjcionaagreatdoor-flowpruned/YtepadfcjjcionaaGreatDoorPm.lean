/-
  WHAT IS LEFT OF A TERM WHEN ALL IS LEFT OUT THAT IS NOT COME TO, as mathematics.
-/
import Derived.Test.YtepadfcjjcionaaGreatDoorMw
namespace Go.Proofs.YtepadfcjjcionaaGreatDoor
open Go.RowKit
set_option linter.unusedVariables false

/-- The parts of a case, the last one pruned: those from number i on, of len. -/
def brF (pr : Tm → Tm) (len : Nat) : Nat → List Tm → List Tm
  | _, [] => []
  | i, x :: l => (if i + 1 = len then pr x else x) :: brF pr len (i + 1) l
def brT (pr : Tm → Tm) (c : Tm) : Tm := ⟨c.op, c.ty, c.n, c.tx, brF pr c.ks.length 0 c.ks⟩
/-- The parts of a term from number i on, of len. -/
def rowF (pr : Tm → Tm) (op : Int) (len : Nat) : Nat → List Tm → List Tm
  | _, [] => []
  | i, k :: ks => if op = 10 ∧ 0 < i ∧ i + 1 < len then brT pr k :: rowF pr op len (i + 1) ks
      else if op = 1 ∧ (tellF (pr k) true).e = false then [pr k] else pr k :: rowF pr op len (i + 1) ks
def prF : Nat → Tm → Tm
  | 0, t => t
  | N + 1, t => ⟨t.op, t.ty, t.n, t.tx, rowF (prF N) t.op t.ks.length 0 t.ks⟩
theorem prF_op (N : Nat) (t : Tm) : (prF N t).op = t.op := by cases N <;> rfl
theorem prF_ty (N : Nat) (t : Tm) : (prF N t).ty = t.ty := by cases N <;> rfl
theorem prF_n (N : Nat) (t : Tm) : (prF N t).n = t.n := by cases N <;> rfl
theorem prF_tx (N : Nat) (t : Tm) : (prF N t).tx = t.tx := by cases N <;> rfl
theorem prF_eb (N : Nat) : prF N eb = eb := by cases N <;> rfl

/-! ### How many -/
theorem brF_cnt {pr : Tm → Tm} (h : ∀ u, cnt (pr u) ≤ cnt u) (len : Nat) : ∀ (l : List Tm) (i : Nat), cnt.cntL (brF pr len i l) ≤ cnt.cntL l
  | [], i => by rw [brF]; exact Nat.le_refl _
  | x :: l, i => by
    have ih := brF_cnt h len l (i + 1)
    have hx := h x
    rw [brF, cnt.cntL, cnt.cntL]
    split <;> omega
theorem brT_cnt {pr : Tm → Tm} (h : ∀ u, cnt (pr u) ≤ cnt u) (c : Tm) : cnt (brT pr c) ≤ cnt c := by
  rw [cnt_parts, cnt_parts c]
  have := brF_cnt h c.ks.length c.ks 0
  show 1 + cnt.cntL (brF pr c.ks.length 0 c.ks) ≤ _
  omega
theorem rowF_cnt {pr : Tm → Tm} (h : ∀ u, cnt (pr u) ≤ cnt u) (op : Int) (len : Nat) : ∀ (l : List Tm) (i : Nat), cnt.cntL (rowF pr op len i l) ≤ cnt.cntL l
  | [], i => by rw [rowF]; exact Nat.le_refl _
  | x :: l, i => by
    have ih := rowF_cnt h op len l (i + 1)
    have hx := h x
    have hb := brT_cnt h x
    rw [rowF]
    split
    · rw [cnt.cntL, cnt.cntL]; omega
    · split
      · rw [cnt.cntL, cnt.cntL, cnt.cntL]; omega
      · rw [cnt.cntL, cnt.cntL]; omega
theorem prF_cnt : ∀ (N : Nat) (t : Tm), cnt (prF N t) ≤ cnt t
  | 0, t => Nat.le_refl _
  | N + 1, t => by
    rw [cnt_parts, cnt_parts t]
    have := rowF_cnt (prF_cnt N) t.op t.ks.length t.ks 0
    show 1 + cnt.cntL (rowF (prF N) t.op t.ks.length 0 t.ks) ≤ _
    omega
theorem rowF_len (pr : Tm → Tm) (op : Int) (len : Nat) : ∀ (l : List Tm) (i : Nat), (rowF pr op len i l).length ≤ l.length
  | [], i => by rw [rowF]; exact Nat.le_refl _
  | x :: l, i => by
    have ih := rowF_len pr op len l (i + 1)
    rw [rowF]
    split
    · simp only [List.length_cons]; omega
    · split <;> simp only [List.length_cons, List.length_nil] <;> omega

/-! ### The same but for what is not come to -/
structure Lk (a b : Out) : Prop where
  e : b.e = a.e
  w : b.w = a.w
  y : b.y = a.y
  z : b.z ≤ a.z
theorem Lk.refl (a : Out) : Lk a a := ⟨rfl, rfl, rfl, Nat.le_refl _⟩
theorem Lk.seq {a a' b b' : Out} (h : Lk a a') (k : Lk b b') : Lk (seqO a b) (seqO a' b') :=
  ⟨k.e, by show orW _ _ = orW _ _; rw [h.w, k.w], by show _ + _ = _ + _; rw [h.y, k.y], Nat.add_le_add h.z k.z⟩
def Rt (u u' : Tm) : Prop := ∀ c, Lk (tellF u c) (tellF u' c)
theorem Rt.refl (u : Tm) : Rt u u := fun c => Lk.refl _
theorem tell_dead_e (t : Tm) : (tellF t false).e = false := (tell_dead t).e
theorem blk_like {pr : Tm → Tm} (len : Nat) : ∀ (ks : List Tm) (i : Nat) (c : Bool), (∀ u ∈ ks, Rt u (pr u)) → Lk (blkF tellF ks c) (blkF tellF (rowF pr 1 len i ks) c)
  | [], i, c, h => Lk.refl _
  | t :: ts, i, c, h => by
    have ht := h t (by simp)
    have ih := fun c => blk_like len ts (i + 1) c (fun u hu => h u (by simp [hu]))
    rw [rowF, if_neg (by omega)]
    split
    · rename_i hx
      have hte : (tellF t c).e = false := by
        cases c with
        | false => exact tell_dead_e t
        | true => rw [← (ht true).e]; exact hx.2
      show Lk (seqO (tellF t c) (blkF tellF ts (tellF t c).e)) (seqO (tellF (pr t) c) ⟨(tellF (pr t) c).e, noW, 0, 0⟩)
      rw [hte, (ht c).e, hte]
      have hd := blk_dead tell_dead ts
      exact (ht c).seq ⟨hd.e.symm, hd.w.symm, hd.y.symm, Nat.zero_le _⟩
    · show Lk (seqO (tellF t c) (blkF tellF ts (tellF t c).e)) (seqO (tellF (pr t) c) (blkF tellF (rowF pr 1 len (i + 1) ts) (tellF (pr t) c).e))
      rw [(ht c).e]
      exact (ht c).seq (ih _)
theorem rowF_map (pr : Tm → Tm) {op : Int} (h1 : op ≠ 1) (h10 : op ≠ 10) (len : Nat) : ∀ (ks : List Tm) (i : Nat), rowF pr op len i ks = ks.map pr
  | [], i => rfl
  | k :: ks, i => by rw [rowF, if_neg (by omega), if_neg (fun h => h1 h.1), List.map_cons, rowF_map pr h1 h10 len ks]
theorem kid_like {pr : Tm → Tm} (he : pr eb = eb) {ks : List Tm} (h : ∀ u ∈ ks, Rt u (pr u)) (j : Nat) : Rt (kidT ks j) (kidT (ks.map pr) j) := by
  unfold kidT
  rw [List.getElem?_map]
  cases hj : ks[j]? with
  | none => exact Rt.refl _
  | some u => exact h u (List.mem_of_getElem? hj)
def AllR (R : Tm → Tm → Prop) : List Tm → List Tm → Prop
  | [], [] => True
  | a :: l, b :: m => R a b ∧ AllR R l m
  | _, _ => False
theorem AllR.app {R : Tm → Tm → Prop} : ∀ {l l' m m' : List Tm}, AllR R l l' → AllR R m m' → AllR R (l ++ m) (l' ++ m')
  | [], [], _, _, _, h => h
  | _ :: _, _ :: _, _, _, h, k => ⟨h.1, h.2.app k⟩
theorem arm_like (n : Int) (c : Bool) : ∀ {l l' : List Tm}, AllR Rt l l' → Lk (armF tellF n c l) (armF tellF n c l')
  | [], [], _ => Lk.refl _
  | a :: l, b :: m, h => by
    have ha := h.1 c
    have ih := arm_like n c h.2
    refine ⟨?_, ?_, ?_, ?_⟩
    · show (((tellF b c).e || ((tellF b c).w n).1) || (armF tellF n c m).e) = (((tellF a c).e || ((tellF a c).w n).1) || (armF tellF n c l).e)
      rw [ha.e, ha.w, ih.e]
    · show orW (butW (tellF b c).w n) (armF tellF n c m).w = orW (butW (tellF a c).w n) (armF tellF n c l).w
      rw [ha.w, ih.w]
    · show _ + _ = _ + _; rw [ha.y, ih.y]
    · exact Nat.add_le_add ha.z ih.z
/-- Two parts of a switch: the same kind, and the block of a case is like. -/
def KR (k k' : Tm) : Prop := k'.op = k.op ∧ (k.op = 11 → Rt (lastT k.ks) (lastT k'.ks))
theorem arms_like : ∀ {l l' : List Tm}, AllR KR l l' → AllR Rt ((l.filter fun k => decide (k.op = 11)).map fun k => lastT k.ks) ((l'.filter fun k => decide (k.op = 11)).map fun k => lastT k.ks)
  | [], [], _ => trivial
  | a :: l, b :: m, h => by
    have ih := arms_like h.2
    obtain ⟨h1, h2⟩ := h.1
    by_cases h11 : a.op = 11
    · rw [List.filter_cons_of_pos (by simpa using h11), List.filter_cons_of_pos (by rw [h1]; simpa using h11)]
      exact ⟨h2 h11, ih⟩
    · rw [List.filter_cons_of_neg (by simpa using h11), List.filter_cons_of_neg (by rw [h1]; simpa using h11)]
      exact ih
theorem lastT_map {pr : Tm → Tm} (he : pr eb = eb) (l : List Tm) : lastT (l.map pr) = pr (lastT l) := by
  unfold lastT
  rw [List.getLast?_map]
  cases l.getLast? with
  | none => exact he.symm
  | some u => rfl
theorem lastT_cons2 (a b : Tm) (l : List Tm) : lastT (a :: b :: l) = lastT (b :: l) := by
  unfold lastT
  rw [List.getLast?_cons_cons]
theorem lastT_brF {pr : Tm → Tm} (len : Nat) : ∀ (l : List Tm) (i : Nat), i + l.length = len → l ≠ [] → lastT (brF pr len i l) = pr (lastT l)
  | [], i, _, h => absurd rfl h
  | [x], i, h, _ => by
    rw [brF, brF, if_pos (by simpa using h)]
    rfl
  | x :: y :: l, i, h, _ => by
    have ih := lastT_brF (pr := pr) len (y :: l) (i + 1) (by simp only [List.length_cons] at h ⊢; omega) (by simp)
    rw [lastT_cons2, ← ih, brF]
    rw [brF]
    exact lastT_cons2 _ _ _
theorem lastT_brT {pr : Tm → Tm} (he : pr eb = eb) (c : Tm) : lastT (brT pr c).ks = pr (lastT c.ks) := by
  obtain ⟨o, a, n, x, ks⟩ := c
  show lastT (brF pr ks.length 0 ks) = pr (lastT ks)
  cases ks with
  | nil => exact he.symm
  | cons k ks => exact lastT_brF _ _ 0 (by simp) (by simp)
/-- A switch's parts behind the first. -/
theorem tail_like {N : Nat} (ih : ∀ M, M ≤ N → ∀ u, cnt u < M → Rt u (prF M u)) (len : Nat) : ∀ (l : List Tm) (i : Nat), 0 < i → i + l.length = len → (∀ u ∈ l, cnt u < N) → AllR KR l (rowF (prF N) 10 len i l)
  | [], i, _, _, _ => trivial
  | k :: l, i, hi, hl, hc => by
    have hk := hc k (by simp)
    have hkp := cnt_parts k
    rw [rowF]
    simp only [List.length_cons] at hl
    split
    · rename_i hb
      refine ⟨⟨rfl, fun _ => ?_⟩, tail_like ih len l (i + 1) (by omega) (by omega) (fun u hu => hc u (by simp [hu]))⟩
      rw [lastT_brT (prF_eb N)]
      unfold lastT
      cases hg : k.ks.getLast? with
      | none => rw [Option.getD_none, prF_eb]; exact Rt.refl _
      | some u =>
        have hm : u ∈ k.ks := List.mem_of_getLast? hg
        obtain ⟨j, hj⟩ := List.mem_iff_getElem?.1 hm
        have := cnt_get hj
        exact ih N (Nat.le_refl _) u (by omega)
    · rw [if_neg (by omega)]
      refine ⟨⟨prF_op N k, fun h11 => ?_⟩, tail_like ih len l (i + 1) (by omega) (by omega) (fun u hu => hc u (by simp [hu]))⟩
      obtain ⟨M, rfl⟩ : ∃ M, N = M + 1 := ⟨N - 1, by omega⟩
      show Rt (lastT k.ks) (lastT (rowF (prF M) k.op k.ks.length 0 k.ks))
      rw [rowF_map _ (by omega) (by omega), lastT_map (prF_eb M)]
      unfold lastT
      cases hg : k.ks.getLast? with
      | none => rw [Option.getD_none, prF_eb]; exact Rt.refl _
      | some u =>
        have hm : u ∈ k.ks := List.mem_of_getLast? hg
        obtain ⟨j, hj⟩ := List.mem_iff_getElem?.1 hm
        have := cnt_get hj
        exact ih M (by omega) u (by omega)
theorem last_row {pr : Tm → Tm} (len : Nat) : ∀ (l : List Tm) (i : Nat), i + l.length = len → l ≠ [] → lastT (rowF pr 10 len i l) = pr (lastT l) ∧ rowF pr 10 len i l ≠ []
  | [], i, _, h => absurd rfl h
  | [x], i, h, _ => by
    simp only [List.length_cons, List.length_nil] at h
    rw [rowF, if_neg (by omega), if_neg (by omega), rowF]
    exact ⟨rfl, by simp⟩
  | x :: y :: l, i, h, _ => by
    simp only [List.length_cons] at h
    obtain ⟨i1, i2⟩ := last_row (pr := pr) len (y :: l) (i + 1) (by simp only [List.length_cons]; omega) (by simp)
    obtain ⟨z, zs, hz⟩ := List.exists_cons_of_ne_nil i2
    rw [lastT_cons2, ← i1]
    rw [rowF]
    split
    · rw [hz]; exact ⟨lastT_cons2 _ _ _, by simp⟩
    · rw [if_neg (by omega), hz]; exact ⟨lastT_cons2 _ _ _, by simp⟩
theorem row10_len {pr : Tm → Tm} (len : Nat) : ∀ (l : List Tm) (i : Nat), (rowF pr 10 len i l).length = l.length
  | [], i => rfl
  | x :: l, i => by
    rw [rowF]
    split
    · rw [List.length_cons, List.length_cons, row10_len len l]
    · rw [if_neg (by omega), List.length_cons, List.length_cons, row10_len len l]
theorem pr_like : ∀ (N : Nat) (M : Nat), M ≤ N → ∀ t, cnt t < M → Rt t (prF M t)
  | 0, M, hM, t, h => by omega
  | N + 1, M, hM, t, h => by
    have ih := pr_like N
    by_cases hMN : M ≤ N
    · exact ih M hMN t h
    · obtain rfl : M = N + 1 := by omega
      intro c
      have hp := cnt_parts t
      have hk : ∀ u ∈ t.ks, cnt u < N := fun u hu => by
        obtain ⟨j, hj⟩ := List.mem_iff_getElem?.1 hu
        have := cnt_get hj
        omega
      have hR : ∀ u ∈ t.ks, Rt u (prF N u) := fun u hu => ih N (Nat.le_refl _) u (hk u hu)
      rw [tell_eq, tell_eq (prF (N + 1) t)]
      refine (Lk.refl _).seq ?_
      obtain ⟨op, ty, n, tx, ks⟩ := t
      simp only at hk hR
      show Lk (bodyF tellF ⟨op, ty, n, tx, ks⟩ c) (bodyF tellF ⟨op, ty, n, tx, rowF (prF N) op ks.length 0 ks⟩ c)
      unfold bodyF
      simp only
      by_cases h1 : op = 1
      · rw [if_pos h1, if_pos h1]
        subst h1
        exact blk_like ks.length ks 0 c hR
      rw [if_neg h1, if_neg h1]
      by_cases h8 : op = 8
      · rw [if_pos h8, if_pos h8, rowF_map _ h1 (by omega)]
        have q1 := kid_like (prF_eb N) hR 1 c
        have q2 := kid_like (prF_eb N) hR 2 c
        unfold ifF
        exact ⟨by simp only; rw [q1.e, q2.e], by simp only; rw [q1.w, q2.w], by simp only; rw [q1.y, q2.y], Nat.add_le_add q1.z q2.z⟩
      rw [if_neg h8, if_neg h8]
      by_cases h9 : op = 9
      · rw [if_pos h9, if_pos h9, rowF_map _ h1 (by omega)]
        have q1 := kid_like (prF_eb N) hR 1 c
        have q2 := kid_like (prF_eb N) hR 2 ((tellF (kidT ks 1) c).e || ((tellF (kidT ks 1) c).w n).2)
        have q0 : (kidT (ks.map (prF N)) 0).op = (kidT ks 0).op := by
          unfold kidT
          rw [List.getElem?_map]
          cases ks[0]? with
          | none => rfl
          | some u => exact prF_op N u
        unfold loopF
        simp only
        rw [q1.e, q1.w, q0]
        exact ⟨rfl, by simp only; rw [q2.w], by simp only; rw [q1.y, q2.y], Nat.add_le_add q1.z q2.z⟩
      rw [if_neg h9, if_neg h9]
      by_cases h10 : op = 10
      · rw [if_pos h10, if_pos h10]
        subst h10
        refine arm_like n c ?_
        unfold armsL
        cases ks with
        | nil => exact ⟨Rt.refl _, trivial⟩
        | cons k l =>
          have hl := row10_len (pr := prF N) (k :: l).length (k :: l) 0
          have e1 : rowF (prF N) 10 (k :: l).length 0 (k :: l) = prF N k :: rowF (prF N) 10 (k :: l).length 1 l := by
            rw [rowF, if_neg (by omega), if_neg (by omega)]
          have ht := tail_like (N := N) (fun M hM u hu => ih M hM u hu) (k :: l).length l 1 (by omega) (by simp only [List.length_cons]; omega) (fun u hu => hk u (by simp [hu]))
          refine AllR.app ?_ ⟨?_, trivial⟩
          · rw [e1]
            exact arms_like ht
          · rw [hl]
            split
            · rw [(last_row (pr := prF N) (k :: l).length (k :: l) 0 (by omega) (by simp)).1]
              refine hR _ ?_
              unfold lastT
              cases hg : (k :: l).getLast? with
              | none => simp at hg
              | some u => exact List.mem_of_getLast? hg
            · exact Rt.refl _
      rw [if_neg h10, if_neg h10]
      exact Lk.refl _
end Go.Proofs.YtepadfcjjcionaaGreatDoor
