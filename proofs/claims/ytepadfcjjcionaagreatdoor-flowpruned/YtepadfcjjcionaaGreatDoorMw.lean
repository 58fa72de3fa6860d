/-
  WHAT THE LAWS SAY OF A TOUR, as mathematics.
-/
import Derived.Test.YtepadfcjjcionaaGreatDoorNr
namespace Go.Proofs.YtepadfcjjcionaaGreatDoor
open Go.RowKit
set_option linter.unusedVariables false

/-- What is not come to leads nowhere. -/
structure Dead (o : Out) : Prop where
  e : o.e = false
  w : o.w = noW
  y : o.y = 0
theorem butW_no (n : Int) : butW noW n = noW := by funext k; simp [butW, noW]
theorem blk_dead {f : Tm → Bool → Out} (h : ∀ t, Dead (f t false)) : ∀ l : List Tm, Dead (blkF f l false)
  | [] => ⟨rfl, rfl, rfl⟩
  | t :: l => by
    have ih := blk_dead h l
    have ht := h t
    simp only [blkF]
    rw [ht.e]
    refine ⟨ih.e, ?_, ?_⟩
    · show orW _ _ = _
      rw [ht.w, ih.w, orW_no]
    · show _ + _ = _
      rw [ht.y, ih.y]
theorem arm_dead {f : Tm → Bool → Out} (h : ∀ t, Dead (f t false)) (n : Int) : ∀ l : List Tm, Dead (armF f n false l)
  | [] => ⟨rfl, rfl, rfl⟩
  | t :: l => by
    have ih := arm_dead h n l
    have ht := h t
    refine ⟨?_, ?_, ?_⟩
    · show (((f t false).e || ((f t false).w n).1) || (armF f n false l).e) = false
      rw [ht.e, ht.w, ih.e]; rfl
    · show orW (butW (f t false).w n) (armF f n false l).w = noW
      rw [ht.w, ih.w, butW_no, orW_no]
    · show (f t false).y + (armF f n false l).y = 0
      rw [ht.y, ih.y]
theorem body_dead {f : Tm → Bool → Out} (h : ∀ t, Dead (f t false)) (t : Tm) : Dead (bodyF f t false) := by
  unfold bodyF
  split
  · exact blk_dead h _
  · split
    · have h1 := h (kidT t.ks 1)
      have h2 := h (kidT t.ks 2)
      refine ⟨?_, ?_, ?_⟩
      · simp only [ifF]; rw [h1.e, h2.e]; rfl
      · simp only [ifF]; rw [h1.w, h2.w, orW_no]
      · simp only [ifF]; rw [h1.y, h2.y]
    · split
      · have h1 := h (kidT t.ks 1)
        have h2 := h (kidT t.ks 2)
        have e : ((f (kidT t.ks 1) false).e || ((f (kidT t.ks 1) false).w t.n).2) = false := by rw [h1.e, h1.w]; rfl
        refine ⟨?_, ?_, ?_⟩
        · simp only [loopF]; rw [h1.w]; rfl
        · simp only [loopF]; rw [e, h1.w, h2.w, butW_no, orW_no]
        · simp only [loopF]; rw [e, h1.y, h2.y]
      · split
        · exact arm_dead h _ _
        · split
          · exact ⟨rfl, rfl, rfl⟩
          · split
            · exact ⟨rfl, rfl, rfl⟩
            · exact ⟨rfl, rfl, rfl⟩
theorem walk_dead : ∀ (N : Nat) (t : Tm), Dead (walkF N t false)
  | 0, t => ⟨rfl, rfl, rfl⟩
  | N + 1, t => by
    have h := body_dead (walk_dead N) t
    refine ⟨h.e, ?_, ?_⟩
    · show orW noW _ = _
      rw [no_orW]; exact h.w
    · show 0 + _ = _
      rw [h.y]
theorem tell_dead (t : Tm) : Dead (tellF t false) := walk_dead _ t

/-- How many statements are told of does not hang on whether the first is come to. -/
def tot (o : Out) : Nat := o.y + o.z
theorem blk_tot {f : Tm → Bool → Out} (h : ∀ t c, tot (f t c) = tot (f t false)) : ∀ (l : List Tm) (c c' : Bool), tot (blkF f l c) = tot (blkF f l c')
  | [], c, c' => rfl
  | t :: l, c, c' => by
    have ih := blk_tot h l (f t c).e (f t c').e
    have h1 := h t c
    have h2 := h t c'
    simp only [blkF, seqO, tot] at *
    omega
theorem arm_tot {f : Tm → Bool → Out} (h : ∀ t c, tot (f t c) = tot (f t false)) (n : Int) (c : Bool) : ∀ (l : List Tm), tot (armF f n c l) = tot (armF f n false l)
  | [] => rfl
  | t :: l => by
    have ih := arm_tot h n c l
    have h1 := h t c
    simp only [armF, tot] at *
    omega
theorem body_tot {f : Tm → Bool → Out} (h : ∀ t c, tot (f t c) = tot (f t false)) (t : Tm) (c : Bool) : tot (bodyF f t c) = tot (bodyF f t false) := by
  unfold bodyF
  split
  · exact blk_tot h _ _ _
  · split
    · have h1 := h (kidT t.ks 1) c
      have h2 := h (kidT t.ks 2) c
      simp only [ifF, tot] at *
      omega
    · split
      · have h1 := h (kidT t.ks 1) c
        have h2 := h (kidT t.ks 2) ((f (kidT t.ks 1) c).e || ((f (kidT t.ks 1) c).w t.n).2)
        have h3 := h (kidT t.ks 2) ((f (kidT t.ks 1) false).e || ((f (kidT t.ks 1) false).w t.n).2)
        simp only [loopF, tot] at *
        omega
      · split
        · exact arm_tot h _ _ _
        · split
          · rfl
          · split <;> rfl
theorem one_tot (c : Bool) : tot (oneO c) = 1 := one_yz c
theorem walk_tot : ∀ (N : Nat) (t : Tm) (c : Bool), tot (walkF N t c) = tot (walkF N t false)
  | 0, t, c => by show tot (oneO c) = tot (oneO false); rw [one_tot, one_tot]
  | N + 1, t, c => by
    have h := body_tot (walk_tot N) t c
    have h1 := one_tot c
    have h2 := one_tot false
    show tot (seqO (oneO c) (bodyF (walkF N) t c)) = tot (seqO (oneO false) (bodyF (walkF N) t false))
    simp only [seqO, tot] at *
    omega
theorem tell_tot (t : Tm) (c : Bool) : tot (tellF t c) = tot (tellF t false) := walk_tot _ t c

/-! ### The laws -/
theorem tell_e (t : Tm) (c : Bool) : (tellF t c).e = (bodyF tellF t c).e := by rw [tell_eq]; rfl
theorem tell_none (ty n : Int) (tx : ByteArray) (c : Bool) : (tellF ⟨1, ty, n, tx, []⟩ c).e = c := by rw [tell_e]; rfl
theorem tell_if (ty n : Int) (tx : ByteArray) (a b d : Tm) (c : Bool) : (tellF ⟨8, ty, n, tx, [a, b, d]⟩ c).e = ((tellF b c).e || (tellF d c).e) := by rw [tell_e]; rfl
theorem tell_loop (ty n : Int) (tx : ByteArray) (a b d : Tm) (c : Bool) : (tellF ⟨9, ty, n, tx, [a, b, d]⟩ c).e = (((tellF b c).w n).1 || (c && decide (a.op ≠ 42))) := by rw [tell_e]; rfl
theorem tell_row_w (ty n : Int) (tx : ByteArray) (a b : Tm) (c : Bool) : (tellF ⟨1, ty, n, tx, [a, b]⟩ c).w = orW (tellF a c).w (tellF b (tellF a c).e).w := by
  rw [tell_eq]
  show orW noW (orW (tellF a c).w (orW (tellF b (tellF a c).e).w noW)) = _
  rw [no_orW, orW_no]
theorem tell_row (ty n : Int) (tx : ByteArray) (a b : Tm) (c : Bool) : (tellF ⟨1, ty, n, tx, [a, b]⟩ c).e = (tellF b (tellF a c).e).e ∧ (tellF ⟨1, ty, n, tx, [a, b]⟩ c).y = (oneO c).y + (tellF a c).y + (tellF b (tellF a c).e).y ∧ (tellF ⟨1, ty, n, tx, [a, b]⟩ c).z = (oneO c).z + (tellF a c).z + (tellF b (tellF a c).e).z := by
  rw [tell_eq]
  refine ⟨rfl, ?_, ?_⟩
  · show (oneO c).y + ((tellF a c).y + ((tellF b (tellF a c).e).y + 0)) = _
    omega
  · show (oneO c).z + ((tellF a c).z + ((tellF b (tellF a c).e).z + 0)) = _
    omega
theorem tell_break (ty n : Int) (tx : ByteArray) : ((tellF ⟨12, ty, n, tx, []⟩ true).w n).1 = true := by
  rw [tell_eq]
  show ((orW noW (oneW n (decide ((12 : Int) = 12), decide ((12 : Int) ≠ 12)))) n).1 = true
  rw [no_orW]
  simp [oneW]
theorem tell_return (ty n : Int) (tx : ByteArray) (c : Bool) : (tellF ⟨14, ty, n, tx, []⟩ c).e = false ∧ (tellF ⟨14, ty, n, tx, []⟩ c).w = noW := by
  rw [tell_eq]
  exact ⟨rfl, orW_no _⟩
/-- FlowBehind, of one that does not end. -/
theorem behind_not {t more : Tm} (ty n : Int) (tx : ByteArray) (h : (tellF t true).e = false) : (tellF ⟨1, ty, n, tx, [t, more]⟩ true).e = false ∧ (tellF ⟨1, ty, n, tx, [t, more]⟩ true).y = (tellF t true).y + 1 ∧ (tellF ⟨1, ty, n, tx, [t, more]⟩ true).z = (tellF t true).z + (tellF more true).y + (tellF more true).z := by
  obtain ⟨h1, h2, h3⟩ := tell_row ty n tx t more true
  rw [h] at h1 h2 h3
  have hd := tell_dead more
  have ht := tell_tot more true
  unfold tot at ht
  rw [hd.y] at ht h2
  refine ⟨h1.trans hd.e, ?_, ?_⟩
  · rw [h2]; show 1 + _ + 0 = _; omega
  · rw [h3]; show 0 + _ + _ = _; omega
/-- FlowBehind, of one that ends. -/
theorem behind {t more : Tm} (ty n : Int) (tx : ByteArray) (h : (tellF t true).e = true) : (tellF ⟨1, ty, n, tx, [t, more]⟩ true).e = (tellF more true).e ∧ (tellF ⟨1, ty, n, tx, [t, more]⟩ true).y = (tellF t true).y + (tellF more true).y + 1 ∧ (tellF ⟨1, ty, n, tx, [t, more]⟩ true).z = (tellF t true).z + (tellF more true).z := by
  obtain ⟨h1, h2, h3⟩ := tell_row ty n tx t more true
  rw [h] at h1 h2 h3
  refine ⟨h1, ?_, ?_⟩
  · rw [h2]; show 1 + _ + _ = _; omega
  · rw [h3]; show 0 + _ + _ = _; omega
/-- FlowWraps: the loop that is left at once, and the one that is never left. -/
theorem wraps_turn (t a d : Tm) (ty ty1 ty2 n n1 : Int) (tx tx1 tx2 : ByteArray) : (tellF ⟨9, ty, n, tx, [a, ⟨1, ty1, n1, tx1, [⟨12, ty2, n, tx2, []⟩, t]⟩, d]⟩ true).e = true := by
  rw [tell_loop, tell_row_w]
  show ((((tellF ⟨12, ty2, n, tx2, []⟩ true).w n).1 || _) || _) = true
  rw [tell_break]
  rfl
theorem wraps_ever (t a d : Tm) (ha : a.op = 42) (ty ty1 ty2 n n1 n2 : Int) (tx tx1 tx2 : ByteArray) : (tellF ⟨9, ty, n, tx, [a, ⟨1, ty1, n1, tx1, [⟨14, ty2, n2, tx2, []⟩, t]⟩, d]⟩ true).e = false := by
  rw [tell_loop, tell_row_w, (tell_return ty2 n2 tx2 true).1, (tell_return ty2 n2 tx2 true).2, (tell_dead t).w, ha]
  rfl
theorem wraps_test (t a d : Tm) (ha : a.op ≠ 42) (ty n : Int) (tx : ByteArray) : (tellF ⟨9, ty, n, tx, [a, t, d]⟩ true).e = true := by
  rw [tell_loop]
  simp [ha]
end Go.Proofs.YtepadfcjjcionaaGreatDoor
