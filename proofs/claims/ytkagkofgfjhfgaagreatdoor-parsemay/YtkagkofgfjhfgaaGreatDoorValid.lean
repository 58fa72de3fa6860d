/-
  WHAT IS READ MAY BE: each node stands as it must, there are not too many; what is wrong is a syntax error or too deep a nest, at a place within the source.
-/
import Derived.Test.YtkagkofgfjhfgaaGreatDoorJTot
import Derived.Test.YtkagkofgfjhfgaaGreatDoorJModel
namespace Go.Proofs.YtkagkofgfjhfgaaGreatDoor
set_option linter.unusedVariables false

def okTok (E : Nat) (t : Tok) : Prop := t.2.2.2.1 ≤ E ∧ (t.1 = 2 → sfxB t.2.1 = true ∧ t.2.2.1 ≤ topN t.2.1)
def okSt (E : Nat) (s : St) : Prop := (∀ t ∈ s.rest, okTok E t) ∧ (s.wrong = 0 ∨ s.wrong = 40 ∨ s.wrong = 41) ∧ s.place ≤ E ∧ s.rest.length ≤ 100000
/-- A reading from a state on: it stays fit; where nothing is wrong behind it, nothing was ahead, and so much is told of what was read and of how many tokens it took. -/
def V {A : Type} (m : P A) (E d : Nat) (s : St) (Q : A → Nat → Prop) : Prop := ∀ a s', m E d s = some (a, s') → okSt E s → okSt E s' ∧ (s'.wrong = 0 → s.wrong = 0 ∧ ∃ k, s.rest.length = s'.rest.length + k ∧ Q a k)
def Vs {A : Type} (m : P A) (Q : A → Nat → Prop) : Prop := ∀ E d s, V m E d s Q
def Vl {A : Type} (m : P A) (Q : A → Nat → Prop) : Prop := ∀ E d s, (s.wrong = 0 → (nxt E s).1 ≠ 0) → V m E d s Q
theorem v_imp {A : Type} {m : P A} {E d : Nat} {s : St} {Q U : A → Nat → Prop} (h : V m E d s Q) (hq : ∀ a k, Q a k → U a k) : V m E d s U := fun a s' e o => by
  obtain ⟨h1, h2⟩ := h a s' e o
  exact ⟨h1, fun q => by obtain ⟨h3, k, h4, h5⟩ := h2 q; exact ⟨h3, k, h4, hq a k h5⟩⟩
theorem v_ret {A : Type} {a : A} {E d : Nat} {s : St} {Q : A → Nat → Prop} (h : Q a 0) : V (ret a) E d s Q := by
  rintro _ _ ⟨⟩ o
  exact ⟨o, fun q => ⟨q, 0, rfl, h⟩⟩
theorem v_none {A : Type} {E d : Nat} {s : St} {Q : A → Nat → Prop} : V (fun _ _ _ => none : P A) E d s Q := by rintro _ _ ⟨⟩
theorem v_bndz {A C : Type} {m : P A} {f : A → P C} {E d : Nat} {s : St} {Q : A → Nat → Prop} {U : C → Nat → Prop} {Z : A → Prop} (h : V m E d s Q) (hz : ∀ a s', m E d s = some (a, s') → okSt E s → Z a) (h2 : ∀ a s', Z a → V (f a) E d s' (fun c j => ∀ i, i ≤ 100000 → Q a i → U c (i + j))) : V (bnd m f) E d s U := by
  intro c s2 e o
  unfold bnd at e
  match hm : m E d s, e with
  | some (a, s1), e =>
    obtain ⟨o1, p1⟩ := h a s1 hm o
    obtain ⟨o2, p2⟩ := h2 a s1 (hz a s1 hm o) c s2 e o1
    refine ⟨o2, fun q => ?_⟩
    obtain ⟨w1, j, l2, u2⟩ := p2 q
    obtain ⟨w0, i, l1, q1⟩ := p1 w1
    have := o.2.2.2
    exact ⟨w0, i + j, by omega, u2 i (by omega) q1⟩
theorem v_bnd {A C : Type} {m : P A} {f : A → P C} {E d : Nat} {s : St} {Q : A → Nat → Prop} {U : C → Nat → Prop} (h : V m E d s Q) (h2 : ∀ a s', V (f a) E d s' (fun c j => ∀ i, i ≤ 100000 → Q a i → U c (i + j))) : V (bnd m f) E d s U := v_bndz (Z := fun _ => True) h (fun _ _ _ _ => trivial) fun a s' _ => h2 a s'
theorem v_look {A : Type} {f : Tok → P A} {E d : Nat} {s : St} {Q : A → Nat → Prop} (h : V (f (nxt E s)) E d s Q) : V (look f) E d s Q := h
theorem nxt_ok {E : Nat} {s : St} (o : okSt E s) : okTok E (nxt E s) := by
  unfold nxt aheadT
  cases h : s.rest with
  | nil => exact ⟨Nat.le_refl _, fun q => by cases q⟩
  | cons t r => exact o.1 t (by rw [h]; simp)
theorem pop_ok {E : Nat} {s : St} (o : okSt E s) : okSt E (popS s) := ⟨fun t ht => o.1 t (List.mem_of_mem_tail ht), o.2.1, o.2.2.1, by have := o.2.2.2; simp [popS]; omega⟩
theorem fail_ok {E p e : Nat} {s : St} (o : okSt E s) (hp : p ≤ E) (he : e = 40 ∨ e = 41) : okSt E (failS p e s) := by
  unfold failS
  split
  · exact ⟨by simp, .inr he, hp, by simp⟩
  · exact o
theorem v_take {C : Type} {f : Tok → P C} {E d : Nat} {s : St} {U : C → Nat → Prop} (hn : s.wrong = 0 → (nxt E s).1 ≠ 0) (h : (nxt E s).2.2.2.1 ≤ E → V (f (nxt E s)) E d (popS s) (fun c j => okTok E (nxt E s) → U c (1 + j))) : V (bnd takeT f) E d s U := by
  intro c s2 e o
  have ot := nxt_ok o
  obtain ⟨o2, p2⟩ := h ot.1 c s2 e (pop_ok o)
  refine ⟨o2, fun q => ?_⟩
  obtain ⟨w1, j, l2, u2⟩ := p2 q
  have w0 : s.wrong = 0 := w1
  obtain ⟨r, hr⟩ := rest_live (hn w0)
  refine ⟨w0, 1 + j, ?_, u2 ot⟩
  have : (popS s).rest = r := by simp [popS, hr]
  rw [this] at l2
  rw [hr]
  simp only [List.length_cons]
  omega
theorem v_need {C : Type} {q : Tok → Bool} {f : Tok → P C} {E d : Nat} {s : St} {U : C → Nat → Prop} (hq : ∀ t, q t = true → t.1 ≠ 0) (h : ∀ t s', t.2.2.2.1 ≤ E → V (f t) E d s' (fun c j => okTok E t → q t = true → U c (1 + j))) : V (bnd (needW q) f) E d s U := by
  by_cases hb : q (nxt E s) = true
  · have : bnd (needW q) f E d s = bnd takeT f E d s := by unfold bnd needW look needT takeT; simp only [hb, if_true]
    intro c s2 e o
    rw [this] at e
    exact v_take (U := U) (fun _ => hq _ hb) (fun hp => v_imp (h _ _ hp) fun a k g ok => g ok hb) c s2 e o
  · have : bnd (needW q) f E d s = f noT E d (refS E s) := by unfold bnd needW look needT; simp only [hb]; rfl
    intro c s2 e o
    rw [this] at e
    obtain ⟨o2, p2⟩ := h noT (refS E s) (Nat.zero_le _) c s2 e (fail_ok o (nxt_ok o).1 (.inl rfl))
    exact ⟨o2, fun q => absurd (p2 q).1 ref_wrong⟩
theorem deep_ok {E d : Nat} {t : Tok} {s : St} (ht : t.2.2.2.1 ≤ E) (o : okSt E s) : okSt E (deepS d t s) := by
  unfold deepS
  split
  · exact fail_ok o ht (.inr rfl)
  · exact o
theorem deep_cases (d : Nat) (t : Tok) (s : St) : deepS d t s = s ∨ (deepS d t s).wrong ≠ 0 := by
  unfold deepS failS
  split
  · split
    · right; simp
    · left; rfl
  · left; rfl
theorem v_deepl {A : Type} {t : Tok} {m : P A} {E d : Nat} {s : St} {Q : A → Nat → Prop} (ht : t.2.2.2.1 ≤ E) (hn : s.wrong = 0 → (nxt E s).1 ≠ 0) (h : Vl m Q) : V (deeper t m) E d s Q := by
  intro a s' e o
  rcases deep_cases d t s with q | q
  · refine h E (d + 1) s hn a s' ?_ o
    rw [← q]; rw [q]; unfold deeper at e; rw [q] at e; exact e
  · obtain ⟨o2, p2⟩ := h E (d + 1) (deepS d t s) (fun z => absurd z q) a s' e (deep_ok ht o)
    exact ⟨o2, fun z => absurd (p2 z).1 q⟩
theorem v_deep {A : Type} {t : Tok} {m : P A} {E d : Nat} {s : St} {Q : A → Nat → Prop} (ht : t.2.2.2.1 ≤ E) (h : ∀ s', V m E (d + 1) s' Q) : V (deeper t m) E d s Q := by
  intro a s' e o
  rcases deep_cases d t s with q | q
  · unfold deeper at e; rw [q] at e; exact h s a s' e o
  · obtain ⟨o2, p2⟩ := h (deepS d t s) a s' e (deep_ok ht o)
    exact ⟨o2, fun z => absurd (p2 z).1 q⟩
theorem v_within {A : Type} {x y : List Nat} {m : P A} {E d : Nat} {s : St} {Q : A → Nat → Prop} (h : ∀ s', V m E (d + 1) s' Q) : V (within x y m) E d s (fun p k => ∃ i, k = i + 2 ∧ Q p.2 i) := by
  unfold within
  refine v_need (fun t => sg_live) fun t s1 ht => v_bnd (v_deep ht h) fun a s2 => v_need (fun t => sg_live) fun u s3 hu => v_ret ?_
  intro _ _ i _ hi _ _
  exact ⟨i, by omega, hi⟩
theorem within_place {A : Type} {x y : List Nat} {m : P A} {E d : Nat} {s : St} : ∀ a s', within x y m E d s = some (a, s') → okSt E s → a.1.2.2.2.1 ≤ E := by
  intro a s' e o
  unfold within bnd at e
  by_cases hb : sg x (nxt E s) = true
  · have : needW (sg x) E d s = some (nxt E s, popS s) := by unfold needW look needT; simp only [hb, if_true]
    rw [this] at e
    simp only [] at e
    split at e
    · cases e
    · split at e
      · cases e
      · cases e; exact (nxt_ok o).1
  · have : needW (sg x) E d s = some (noT, refS E s) := by unfold needW look needT; simp only [hb]; rfl
    rw [this] at e
    simp only [] at e
    split at e
    · cases e
    · split at e
      · cases e
      · cases e; exact Nat.zero_le _
theorem v_ite {A : Type} {c : Prop} [Decidable c] {a b : P A} {E d : Nat} {s : St} {Q : A → Nat → Prop} (h1 : c → V a E d s Q) (h2 : ¬ c → V b E d s Q) : V (if c then a else b) E d s Q := by
  split
  · exact h1 ‹_›
  · exact h2 ‹_›
theorem v_ife {A : Type} {c : Nat → St → Prop} [hdc : ∀ E s, Decidable (c E s)] {a b : P A} {E d : Nat} {s : St} {Q : A → Nat → Prop} (h1 : c E s → V a E d s Q) (h2 : ¬ c E s → V b E d s Q) : V (fun E d s => if c E s then a E d s else b E d s) E d s Q := by
  intro x s' e o
  simp only [] at e
  split at e
  · exact h1 ‹_› x s' e o
  · exact h2 ‹_› x s' e o
theorem v_ref {E d : Nat} {s : St} {Q : Tree → Nat → Prop} : V refP E d s Q := by
  rintro _ _ ⟨⟩ o
  exact ⟨fail_ok o (nxt_ok o).1 (.inl rfl), fun q => absurd q ref_wrong⟩

/-! ### Trees that may stand so -/
theorem validT_mk (r : Int) (k : Nat) (a : Int) (x : List Nat) (n : Nat) (ks : List Tree) : validT r ⟨k, a, x, n, ks⟩ = (fitsI r k x n ks.length && validT.validL r k ks.length 0 ks) := by rw [validT]
theorem cnt_mk (k : Nat) (a : Int) (x : List Nat) (n : Nat) (ks : List Tree) : cntT ⟨k, a, x, n, ks⟩ = 1 + cntT.cntL ks := by rw [cntT]
theorem cl_nil : cntT.cntL [] = 0 := by rw [cntT.cntL]
theorem cl_cons (t : Tree) (ts : List Tree) : cntT.cntL (t :: ts) = cntT t + cntT.cntL ts := by rw [cntT.cntL]
theorem cl_app (a b : List Tree) : cntT.cntL (a ++ b) = cntT.cntL a + cntT.cntL b := by
  induction a with
  | nil => rw [List.nil_append, cl_nil]; omega
  | cons t ts ih => rw [List.cons_append, cl_cons, cl_cons, ih]; omega
theorem cnt_pos (t : Tree) : 1 ≤ cntT t := by obtain ⟨k, a, x, n, ks⟩ := t; rw [cnt_mk]; omega
theorem cl_len (l : List Tree) : l.length ≤ cntT.cntL l := by
  induction l with
  | nil => simp
  | cons t ts ih => rw [cl_cons]; have := cnt_pos t; simp only [List.length_cons]; omega
theorem vl_nil (r : Int) (k m i : Nat) : validT.validL r k m i [] = true := by rw [validT.validL]
theorem vl_cons (r : Int) (k m i : Nat) (t : Tree) (ts : List Tree) : validT.validL r k m i (t :: ts) = (validT (asksI r k m i) t && validT.validL r k m (i + 1) ts) := by rw [validT.validL]
theorem vl_app (r : Int) (k m : Nat) (a b : List Tree) : ∀ i, validT.validL r k m i (a ++ b) = (validT.validL r k m i a && validT.validL r k m (i + a.length) b) := by
  induction a with
  | nil => intro i; rw [List.nil_append, vl_nil]; simp
  | cons t ts ih => intro i; rw [List.cons_append, vl_cons, vl_cons, ih, List.length_cons, Bool.and_assoc, show i + (ts.length + 1) = i + 1 + ts.length by omega]
theorem vl_uni {r : Int} {k m : Nat} {q : Int} : ∀ (l : List Tree) (i : Nat), (∀ j : Nat, i ≤ j → j < i + l.length → asksI r k m j = q) → (∀ t ∈ l, validT q t = true) → validT.validL r k m i l = true := by
  intro l
  induction l with
  | nil => intro i _ _; rw [vl_nil]
  | cons t ts ih =>
    intro i ha hv
    rw [vl_cons, ha i (Nat.le_refl _) (by simp), hv t (by simp), ih (i + 1) (fun j h1 h2 => ha j (by omega) (by simp only [List.length_cons]; omega)) fun u hu => hv u (List.mem_cons_of_mem _ hu)]
    rfl
def vX (r : Int) (t : Tree) (k : Nat) : Prop := validT r t = true ∧ cntT t + 1 ≤ 2 * k
def vS (r : Int) (t : Tree) (k : Nat) : Prop := validT r t = true ∧ cntT t ≤ 2 * k
def vL (q : Int) (l : List Tree) (k : Nat) : Prop := (∀ t ∈ l, validT q t = true) ∧ cntT.cntL l ≤ 2 * k
theorem vX.s {r : Int} {t : Tree} {k : Nat} (h : vX r t k) : vS r t k := ⟨h.1, by have := h.2; omega⟩
theorem vL.nil {q : Int} {k : Nat} : vL q [] k := ⟨by simp, by rw [cl_nil]; omega⟩
theorem vL.app {q : Int} {a b : List Tree} {i j k : Nat} (h : vL q a i) (h2 : vL q b j) (hk : i + j ≤ k) : vL q (a ++ b) k := ⟨fun t ht => (List.mem_append.1 ht).elim (h.1 t) (h2.1 t), by rw [cl_app]; have := h.2; have := h2.2; omega⟩
theorem vL.one {q : Int} {t : Tree} {k : Nat} (h : vS q t k) : vL q [t] k := ⟨fun u hu => by rw [List.mem_singleton.1 hu]; exact h.1, by rw [cl_cons, cl_nil]; have := h.2; omega⟩
theorem vL.len {q : Int} {l : List Tree} {k : Nat} (h : vL q l k) (hk : k ≤ 100000) : l.length ≤ 200000 := by have := cl_len l; have := h.2; omega
theorem x_leaf {r : Int} {k : Nat} {a : Int} {x : List Nat} {n j : Nat} (h : fitsI r k x n 0 = true) (hj : 1 ≤ j) : vX r ⟨k, a, x, n, []⟩ j := ⟨by rw [validT_mk, vl_nil]; simpa using h, by rw [cnt_mk, cl_nil]; omega⟩
theorem x_one {r q : Int} {k : Nat} {a : Int} {x : List Nat} {n i j : Nat} {t : Tree} (h : fitsI r k x n 1 = true) (ha : asksI r k 1 0 = q) (hv : vX q t i) (hj : i + 1 ≤ j) : vX r ⟨k, a, x, n, [t]⟩ j := by
  refine ⟨?_, ?_⟩
  · rw [validT_mk, vl_cons, vl_nil]
    show (fitsI r k x n 1 && (validT (asksI r k 1 0) t && true)) = true
    rw [h, ha, hv.1]
    rfl
  · rw [cnt_mk, cl_cons, cl_nil]; have := hv.2; omega
theorem x_two {r q q2 : Int} {k : Nat} {a : Int} {x : List Nat} {n i i2 j : Nat} {t u : Tree} (h : fitsI r k x n 2 = true) (ha : asksI r k 2 0 = q) (ha2 : asksI r k 2 1 = q2) (hv : vX q t i) (hv2 : vX q2 u i2) (hj : i + i2 ≤ j) : vX r ⟨k, a, x, n, [t, u]⟩ j := by
  refine ⟨?_, ?_⟩
  · rw [validT_mk, vl_cons, vl_cons, vl_nil]
    show (fitsI r k x n 2 && (validT (asksI r k 2 0) t && (validT (asksI r k 2 1) u && true))) = true
    rw [h, ha, ha2, hv.1, hv2.1]
    rfl
  · rw [cnt_mk, cl_cons, cl_cons, cl_nil]; have := hv.2; have := hv2.2; omega
theorem x_list {r q : Int} {k : Nat} {a : Int} {x : List Nat} {n i j : Nat} {l : List Tree} (h : fitsI r k x n l.length = true) (ha : ∀ j : Nat, asksI r k l.length j = q) (hl : vL q l i) (hj : i + 1 ≤ j) : vX r ⟨k, a, x, n, l⟩ j := by
  refine ⟨?_, ?_⟩
  · rw [validT_mk, h, vl_uni l 0 (fun j _ _ => ha j) hl.1]; rfl
  · rw [cnt_mk]; have := hl.2; omega

/-! ### The functions one by one: lists, types, expressions -/
theorem nm_name {t : Tok} (h : nm t = true) : nameB t.2.1 = true := by
  simp only [nm, Bool.and_eq_true] at h; exact h.2
theorem w_listL {part : P Tree} {q : Int} (hp : Vs part (vS q)) : ∀ (f : Nat) (acc : List Tree), Vs (listL part f acc) (fun l k => ∃ us, l = acc ++ us ∧ vL q us k) := by
  intro f
  induction f with
  | zero => intro acc E d s; exact v_none
  | succ f ih =>
    intro acc E d s
    unfold listL
    refine v_look (v_ite (fun hs => v_take (fun _ => sg_live hs) fun _ => v_bnd (hp E d _) fun n s1 => v_imp (ih (acc ++ [n]) E d s1) ?_) fun _ => v_ret ⟨[], by simp, vL.nil⟩)
    rintro l k ⟨us, rfl, hu⟩ i _ hi _
    exact ⟨[n] ++ us, by simp, (vL.one hi).app hu (by omega)⟩
theorem w_listP {part : P Tree} {q : Int} (hp : Vs part (vS q)) (f : Nat) : Vs (listP f part) (fun l k => l ≠ [] ∧ vL q l k) := by
  intro E d s
  unfold listP
  refine v_bnd (hp E d s) fun n s1 => v_imp (w_listL hp f [n] E d s1) ?_
  rintro l k ⟨us, rfl, hu⟩ i _ hi
  exact ⟨by simp, (vL.one hi).app hu (by omega)⟩
theorem w_perhaps {part : P Tree} {q : Int} (hp : Vs part (vS q)) (f : Nat) : Vs (perhaps f part) (fun l k => ∃ i, k = i + 2 ∧ vL q l i) := by
  intro E d s
  unfold perhaps
  refine v_bnd (v_within (Q := vL q) fun s1 => v_look (v_ite (fun _ => v_ret vL.nil) fun _ => v_imp (w_listP hp f E _ s1) fun l k h => h.2)) fun x s2 => v_ret ?_
  rintro _ _ ⟨i, rfl, h⟩
  exact ⟨i, rfl, h⟩
theorem text7 {t : Tok} (h : (nm t || typeW t) = true) : fitsI 5 7 t.2.1 0 0 = true := by
  simp only [nm, typeW, wd, Bool.or_eq_true, Bool.and_eq_true, beq_iff_eq] at h
  have : textI 7 t.2.1 = true := by
    simp only [textI, isIntL]
    rcases h with h | (((h | h) | h) | h) | h <;> simp [h.2]
  simp [fitsI, takesI, isTypeI, kidsI, this, numI]
theorem w_typeP {rec : P Tree} (hp : Vs rec (vX 5)) : Vs (typeP rec) (vX 5) := by
  intro E d s
  unfold typeP
  refine v_look (v_ite (fun h => v_take (fun _ => ?_) fun _ => v_ret fun _ => x_leaf (text7 h) (by omega)) fun _ => v_ite (fun hs => ?_) fun _ => v_ref)
  · simp only [Bool.or_eq_true] at h
    exact h.elim nm_live typeW_live
  · refine v_bndz (Z := fun a => a.1.2.2.2.1 ≤ E) (v_within (Q := fun p k => p.1 = 8 ∨ p = (9, 0)) fun s1 => v_look (v_ite (fun hc => v_take (fun _ => cn_live hc) fun _ => v_ret fun _ => .inl rfl) fun _ => v_ret (.inr rfl))) within_place fun x s2 hx => v_bnd (v_deep hx fun s3 => hp E _ s3) fun k s4 => v_ret ?_
    rintro i _ hi i2 _ ⟨i3, rfl, h | h⟩
    · rw [h]
      exact x_one (q := 5) (by simp [fitsI, takesI, isTypeI, kidsI, textI, numI]) (by simp [asksI]) hi (by omega)
    · rw [h]
      exact x_one (q := 5) (by simp [fitsI, takesI, isTypeI, kidsI, textI, numI]) (by simp [asksI]) hi (by omega)
def inB (p : Nat × Nat) : Prop := p.1 = 0 ∨ (60 ≤ p.1 ∧ p.1 < 78)
theorem inB_ite {c : Prop} [Decidable c] {a b : Nat × Nat} (ha : inB a) (hb : inB b) : inB (if c then a else b) := by split <;> assumption
theorem betw_in (t : Tok) : inB (betw t) := by
  unfold betw
  repeat' (first | exact .inl rfl | exact .inr (by decide) | refine inB_ite ?_ ?_)
theorem betw_all : ∀ k : Nat, k < 78 → 60 ≤ k → fitsI 21 (k : Int) [] 0 2 = true ∧ asksI 21 (k : Int) 2 0 = 21 ∧ asksI 21 (k : Int) 2 1 = 21 := by decide
theorem betw_fit {t : Tok} (h : ¬ (betw t).1 = 0) : fitsI 21 ((betw t).1 : Nat) [] 0 2 = true ∧ asksI 21 ((betw t).1 : Nat) 2 0 = 21 ∧ asksI 21 ((betw t).1 : Nat) 2 1 = 21 := by
  obtain ⟨h1, h2⟩ := (betw_in t).resolve_left h
  exact betw_all _ h2 h1
theorem w_lineL {k : Nat} {next : P Tree} (hp : Vs next (vX 21)) : ∀ (f : Nat) (n : Tree), Vs (lineL k next f n) (fun t j => ∀ i, vX 21 n i → vX 21 t (i + j)) := by
  intro f
  induction f with
  | zero => intro n E d s; exact v_none
  | succ f ih =>
    intro n E d s
    unfold lineL
    refine v_look (v_ite (fun _ => v_ret fun i h => h) fun hb => ?_)
    have hb1 : ¬ (betw (nxt E s)).1 = 0 := fun q => hb (.inl q)
    obtain ⟨b1, b2, b3⟩ := betw_fit hb1
    refine v_take (fun _ => betw_live hb1) fun _ => v_bnd (hp E d _) fun m s1 => v_ite (fun _ => v_ret ?_) fun _ => v_imp (ih _ E d s1) ?_
    · intro i _ hm _ i0 hn
      exact x_two b1 b2 b3 hn hm (by omega)
    · intro t j ht i _ hm _ i0 hn
      have := ht (i0 + i) (x_two b1 b2 b3 hn hm (by omega))
      exact ⟨this.1, by have := this.2; omega⟩
theorem w_lineP {unary : P Tree} (hp : Vs unary (vX 21)) (f : Nat) : ∀ j : Nat, Vs (lineP unary f j) (vX 21) := by
  intro j
  induction j with
  | zero => exact hp
  | succ j ih =>
    intro E d s
    unfold lineP
    exact v_bnd (ih E d s) fun n s1 => v_imp (w_lineL ih f n E d s1) fun t k h i _ hi => h i hi
theorem w_tailsL {expr : P Tree} (he : Vs expr (vX 21)) {r : Int} (hr : r = 18 ∨ r = 21) : ∀ (f : Nat) (n : Tree), Vs (tailsL expr f n) (fun t j => ((t = n ∧ j = 0) ∨ t.kind = 48 ∨ t.kind = 49) ∧ ∀ i, vX r n i → vX r t (i + j)) := by
  intro f
  induction f with
  | zero => intro n E d s; exact v_none
  | succ f ih =>
    intro n E d s
    unfold tailsL
    refine v_look (v_ite (fun hs => v_take (fun _ => sg_live hs) fun _ => v_need (fun t => nm_live) fun m s1 _ => v_imp (ih _ E d s1) ?_) fun _ => v_ite (fun hs => ?_) fun _ => v_ret ⟨.inl ⟨rfl, rfl⟩, fun i h => h⟩)
    · rintro t j ⟨hk, ht⟩ _ hm _
      refine ⟨.inr (hk.elim (fun h => .inl (by rw [h.1])) id), fun i hn => ?_⟩
      have := ht (i + 1) (x_one (q := r) (by rcases hr with rfl | rfl <;> simp [fitsI, takesI, targetI, isExprI, kidsI, textI, numI, nm_name hm]) (by rcases hr with rfl | rfl <;> decide) hn (by omega))
      exact ⟨this.1, by have := this.2; omega⟩
    · refine v_bnd (v_within fun s1 => he E _ s1) fun x s2 => v_imp (ih _ E d s2) ?_
      rintro t j ⟨hk, ht⟩ i0 _ ⟨i1, rfl, hx⟩
      refine ⟨.inr (hk.elim (fun h => .inr (by rw [h.1])) id), fun i hn => ?_⟩
      have := ht (i + i1) (x_two (q := r) (q2 := 21) (by rcases hr with rfl | rfl <;> simp [fitsI, takesI, targetI, isExprI, kidsI, textI, numI]) (by rcases hr with rfl | rfl <;> decide) (by rcases hr with rfl | rfl <;> decide) hn hx (by omega))
      exact ⟨this.1, by have := this.2; omega⟩
theorem fit40 {r : Int} {E : Nat} {t : Tok} (hr : r = 14 ∨ r = 15 ∨ r = 21) (ok : okTok E t) (h : nu t = true) : fitsI r 40 t.2.1 t.2.2.1 0 = true := by
  simp only [nu, beq_iff_eq] at h
  obtain ⟨h1, h2⟩ := ok.2 h
  have ht : textI 40 t.2.1 = true := by
    simp only [sfxB, Bool.or_eq_true, decide_eq_true_eq] at h1
    rcases h1 with ((h1 | h1) | h1) | h1 <;> rw [h1] <;> rfl
  have hn : numI 40 t.2.1 t.2.2.1 = true := by
    simp only [sfxB, Bool.or_eq_true, decide_eq_true_eq] at h1
    rcases h1 with ((h1 | h1) | h1) | h1 <;> rw [h1] at h2 ⊢ <;> simp [numI, topN] at h2 ⊢ <;> omega
  rcases hr with rfl | rfl | rfl <;> simp [fitsI, takesI, isExprI, kidsI, ht, hn]
theorem w_whole {r : Int} (hr : r = 14 ∨ r = 15 ∨ r = 21) : Vs wholeP (vX r) := by
  intro E d s
  unfold wholeP
  exact v_need (fun t => nu_live) fun t s1 _ => v_ret fun ok h => x_leaf (fit40 hr ok h) (by omega)
theorem w_used {r : Int} (hr : r = 17 ∨ r = 18 ∨ r = 19 ∨ r = 21) : Vs usedP (fun t k => t.kind = 44 ∧ nameB t.text = true ∧ t.n = 0 ∧ k = 1 ∧ vX r t k) := by
  intro E d s
  unfold usedP
  refine v_need (fun t => nm_live) fun t s1 _ => v_ret fun ok h => ⟨rfl, nm_name h, rfl, rfl, x_leaf ?_ (by omega)⟩
  rcases hr with rfl | rfl | rfl | rfl <;> simp [fitsI, takesI, targetI, isExprI, kidsI, textI, numI, nm_name h]
theorem w_new : Vs newP (vX 16) := by
  intro E d s
  unfold newP
  refine v_need (fun t => nm_live) fun t s1 _ => v_ret fun ok h => x_leaf ?_ (by omega)
  simp [fitsI, takesI, kidsI, textI, numI, nm_name h]
theorem w_call {expr : P Tree} (he : Vs expr (vX 21)) {r : Int} (hr : r = 18 ∨ r = 21) (f : Nat) : Vs (callP f expr) (fun t k => (t.kind = 44 ∨ t.kind = 45) ∧ vX r t k) := by
  intro E d s
  unfold callP
  refine v_bnd (w_used (r := r) (by omega) E d s) fun n s1 => v_look (v_ite (fun _ => v_bnd (w_perhaps (q := 21) (fun E d s => v_imp (he E d s) fun t k h => h.s) f E d s1) fun l s2 => v_ret ?_) fun _ => v_ret ?_)
  · rintro i hi6 ⟨j, rfl, hl⟩ i2 _ ⟨_, hx, h0, rfl, _⟩
    have := hl.len (by omega)
    refine ⟨.inr rfl, x_list (q := 21) ?_ ?_ hl (by omega)⟩
    · rw [h0]
      rcases hr with rfl | rfl <;> simp [fitsI, takesI, isExprI, kidsI, textI, numI, hx] <;> omega
    · intro j
      simp [asksI]
  · rintro i _ ⟨hk, hx, h0, rfl, hv⟩
    exact ⟨.inl hk, hv⟩
theorem w_valsL {expr : P Tree} (he : Vs expr (vX 21)) : ∀ (c i : Nat) (acc : List Tree), Vs (valsL expr c i acc) (fun l k => ∃ us, l = acc ++ us ∧ us.length = c ∧ vL 21 us k) := by
  intro c
  induction c with
  | zero => intro i acc E d s; exact v_ret ⟨[], by simp, rfl, vL.nil⟩
  | succ c ih =>
    intro i acc E d s
    unfold valsL
    refine v_ite (fun _ => v_need (fun t => sg_live) fun _ s0 _ => v_bnd (he E d s0) fun n s1 => v_imp (ih (i + 1) (acc ++ [n]) E d s1) ?_) fun _ => v_bnd (he E d s) fun n s1 => v_imp (ih (i + 1) (acc ++ [n]) E d s1) ?_
    · rintro l k ⟨us, rfl, hc, hu⟩ j _ hj _ _
      exact ⟨[n] ++ us, by simp, by simp; omega, (vL.one hj.s).app hu (by omega)⟩
    · rintro l k ⟨us, rfl, hc, hu⟩ j _ hj
      exact ⟨[n] ++ us, by simp, by simp; omega, (vL.one hj.s).app hu (by omega)⟩
theorem w_with {expr : P Tree} (he : Vs expr (vX 21)) (kind count : Nat) : Vl (withP expr kind count) (fun t k => t.kind = kind ∧ t.text = [] ∧ t.n = 0 ∧ t.kids.length = count ∧ ∃ i, k = i + 3 ∧ vL 21 t.kids i) := by
  intro E d s hn
  unfold withP
  refine v_take hn fun _ => v_bnd (v_within fun s1 => w_valsL he count 0 [] E _ s1) fun x s2 => v_ret ?_
  rintro i _ ⟨j, rfl, us, hx, hc, hu⟩ _
  rw [List.nil_append] at hx
  exact ⟨rfl, rfl, rfl, by rw [hx]; exact hc, j, by omega, by rw [hx]; exact hu⟩
theorem x_with {r : Int} {t : Tree} {kind count k : Nat} {x : List Nat} (h : t.kind = kind ∧ t.text = [] ∧ t.n = 0 ∧ t.kids.length = count ∧ ∃ i, k = i + 3 ∧ vL 21 t.kids i) (hf : fitsI r kind x 0 count = true) (ha : ∀ j : Nat, asksI r kind count j = 21) (a : Int) {j : Nat} (hj : k ≤ j) : vX r ⟨t.kind, a, x, t.n, t.kids⟩ j := by
  obtain ⟨h1, h2, h3, h4, i, rfl, h5⟩ := h
  refine x_list (q := 21) ?_ ?_ h5 (by omega)
  · rw [h1, h3, h4]; exact hf
  · intro j; rw [h1, h4]; exact ha j
theorem x_eta {r : Int} {t : Tree} {k : Nat} (h : vX r ⟨t.kind, t.at_, t.text, t.n, t.kids⟩ k) : vX r t k := by cases t; exact h
theorem asks21 {k m : Nat} (h : k = 46 ∨ k = 50 ∨ k = 51 ∨ k = 52 ∨ k = 53 ∨ k = 54) (r : Int) (j : Nat) : asksI r k m j = 21 := by
  rcases h with rfl | rfl | rfl | rfl | rfl | rfl <;> simp [asksI]
theorem intW_text {t : Tok} (h : intW t = true) : isIntL t.2.1 = true := by
  simp only [intW, wd, Bool.or_eq_true, Bool.and_eq_true, beq_iff_eq] at h
  rcases h with (h | h) | h <;> rw [h.2] <;> rfl
theorem w_given {expr : P Tree} (he : Vs expr (vX 21)) (f : Nat) : Vs (givenP f expr) (vX 21) := by
  intro E d s
  unfold givenP
  have key : ∀ kind count, (kind = 50 ∨ kind = 51 ∨ kind = 52 ∨ kind = 53) → fitsI 21 (kind : Nat) [] 0 (count : Nat) = true → ∀ x, wd x (nxt E s) = true → V (withP expr kind count) E d s (vX 21) := fun kind count hk hf x hw => v_imp (w_with he kind count E d s fun _ => wd_live hw) fun t k h => by
    have := x_with h (r := 21) (x := []) hf (asks21 (by omega) 21) t.at_ (Nat.le_refl _)
    rw [← h.2.1] at this
    exact x_eta this
  refine v_look (v_ite (fun hi => v_bnd (w_with he 46 1 E d s fun _ => intW_live hi) fun n s1 => v_ret ?_) fun _ => v_ite (key 50 1 (by omega) (by decide) _) fun _ => v_ite (key 51 3 (by omega) (by decide) _) fun _ => v_ite (key 52 1 (by omega) (by decide) _) fun _ => v_ite (key 53 1 (by omega) (by decide) _) fun _ => v_imp (w_call he (.inr rfl) f E d s) fun t k h => h.2)
  intro i _ h
  exact x_with h (by simp [fitsI, takesI, isExprI, kidsI, textI, numI, intW_text hi]) (asks21 (by omega) 21) _ (by omega)
theorem w_primary {typ expr : P Tree} (ht : Vs typ (vX 5)) (he : Vs expr (vX 21)) (f : Nat) : Vs (primaryP f typ expr) (vX 21) := by
  intro E d s
  unfold primaryP
  refine v_look (v_ite (fun _ => w_whole (by omega) E d s) fun _ => v_ite (fun h3 => v_take (fun _ => ?_) fun _ => v_ret fun _ => x_leaf (by simp [fitsI, takesI, isExprI, kidsI, textI, numI]) (by omega)) fun _ => v_ite (fun _ => v_bnd (v_within fun s1 => he E _ s1) fun x s2 => v_ret ?_) fun _ => v_ite (fun h => v_take (fun _ => wd_live h) fun _ => v_ret fun _ => x_leaf (by decide) (by omega)) fun _ => v_ite (fun h => v_take (fun _ => wd_live h) fun _ => v_ret fun _ => x_leaf (by decide) (by omega)) fun _ => v_ite (fun h => v_take (fun _ => wd_live h) fun _ => v_bnd (ht E d _) fun k s1 => v_bnd (w_perhaps (q := 21) (fun E d s => v_imp (he E d s) fun t k h => h.s) f E d s1) fun l s2 => v_ret ?_) fun _ => w_given he f E d s)
  · simp only [beq_iff_eq] at h3; omega
  · rintro i _ ⟨j, rfl, h⟩
    exact ⟨h.1, by have := h.2; omega⟩
  · rintro i hi6 ⟨j, rfl, hl⟩ i2 _ hk _
    have := hl.len (by omega)
    refine ⟨?_, ?_⟩
    · rw [validT_mk, vl_cons, vl_uni l _ (q := 21) ?_ hl.1]
      · have h1 : fitsI 21 (47 : Nat) [] 0 ((k :: l).length : Nat) = true := by
          simp [fitsI, takesI, isExprI, kidsI, textI, numI]; omega
        have h2 : asksI 21 (47 : Nat) ((k :: l).length : Nat) (0 : Nat) = 5 := by simp [asksI, pickI]; decide
        rw [h2, hk.1]
        simpa using h1
      · intro j h1 h2
        have e : (min (j : Int) 1).toNat = 1 := by omega
        simp [asksI, pickI, e]
    · rw [cnt_mk, cl_cons]; have := hl.2; have := hk.2; omega
theorem signK_in (t : Tok) : signK t = 0 ∨ signK t = 55 ∨ signK t = 56 ∨ signK t = 57 := by
  unfold signK
  split
  · omega
  · split
    · omega
    · split <;> omega
theorem w_unary {rec typ expr : P Tree} (hr : Vs rec (vX 21)) (ht : Vs typ (vX 5)) (he : Vs expr (vX 21)) (f : Nat) : Vs (unaryP f rec typ expr) (vX 21) := by
  intro E d s
  unfold unaryP
  refine v_look (v_ite (fun _ => v_bnd (w_primary ht he f E d s) fun n s1 => v_imp (w_tailsL he (.inr rfl) f n E d s1) fun t k h i _ hi => h.2 i hi) fun hk => v_take (fun _ => signK_live hk) fun hp => v_bnd (v_deep hp fun s1 => hr E _ s1) fun n s2 => v_ret ?_)
  intro i _ hn _
  rcases (signK_in (nxt E s)).resolve_left hk with q | q | q <;> rw [q] <;> exact x_one (q := 21) (by decide) (by decide) hn (by omega)
theorem w_field {typ : P Tree} (ht : Vs typ (vX 5)) : Vs (fieldP typ) (vX 2) := by
  intro E d s
  unfold fieldP
  refine v_need (fun t => nm_live) fun t s1 _ => v_bnd (ht E d s1) fun k s2 => v_ret ?_
  intro i _ hk _ hm
  exact x_one (q := 5) (by simp [fitsI, takesI, kidsI, textI, numI, nm_name hm]) (by simp [asksI]) hk (by omega)

/-! ### Statements -/
theorem x_block {r : Int} (hr : r = 6 ∨ r = 7 ∨ r = 8) {a : Int} {l : List Tree} {i j : Nat} (hi : i ≤ 100000) (h : vL 7 l i) (hj : i + 1 ≤ j) : vX r ⟨10, a, [], 0, l⟩ j := by
  have := h.len hi
  refine x_list (q := 7) ?_ ?_ h hj
  · rcases hr with rfl | rfl | rfl <;> simp [fitsI, takesI, isStmtI, kidsI, textI, numI] <;> omega
  · intro j; simp [asksI]
theorem w_block {stmts : P (List Tree)} (hs : Vs stmts (vL 7)) {r : Int} (hr : r = 6 ∨ r = 7 ∨ r = 8) : Vs (blockP stmts) (vX r) := by
  intro E d s
  unfold blockP
  refine v_bnd (v_within fun s1 => hs E _ s1) fun x s2 => v_ret ?_
  rintro i hi ⟨j, rfl, h⟩
  exact x_block hr (by omega) h (by omega)
theorem x_do {r : Int} (hr : r = 7 ∨ r = 9 ∨ r = 11) {n : Tree} {k : Nat} (h : vX 20 n k) : vS r (doP n) k := by
  refine ⟨?_, ?_⟩
  · unfold doP
    rw [validT_mk, vl_cons, vl_nil]
    have h1 : fitsI r (13 : Nat) [] 0 ([n].length : Nat) = true := by show fitsI r 13 [] 0 1 = true; rcases hr with rfl | rfl | rfl <;> decide
    have h2 : asksI r (13 : Nat) ([n].length : Nat) (0 : Nat) = 20 := by simp [asksI]
    rw [h2, h.1]
    simpa using h1
  · unfold doP; rw [cnt_mk, cl_cons, cl_nil]; have := h.2; omega
theorem w_setL : ∀ (f : Nat) (go : Bool) (acc : List Tree), Vs (setL f go acc) (fun l k => ∃ us, l = acc ++ us ∧ vL 19 us k ∧ (go = false → us = [])) := by
  intro f
  induction f with
  | zero => intro go acc E d s; exact v_none
  | succ f ih =>
    intro go acc E d s
    unfold setL
    refine v_look (v_ite (fun hs => v_take (fun _ => ?_) fun _ => v_bnd (w_used (r := 19) (by omega) E d _) fun n s1 => v_imp (ih go (acc ++ [n]) E d s1) ?_) fun _ => v_ret ⟨[], by simp, vL.nil, fun _ => rfl⟩)
    · simp only [Bool.and_eq_true] at hs; exact sg_live hs.2
    · rintro l k ⟨us, rfl, hu, hg⟩ j _ ⟨_, _, _, rfl, hj⟩ _
      refine ⟨[n] ++ us, by simp, (vL.one hj.s).app hu (by omega), fun g => ?_⟩
      rw [g] at hs
      simp at hs
theorem kind_role {r r' : Int} {t : Tree} (h : validT r t = true) (h2 : takesI r' t.kind = true) (ha : ∀ m i : Nat, asksI r' t.kind m i = asksI r t.kind m i) : validT r' t = true := by
  obtain ⟨k, a, x, n, ks⟩ := t
  rw [validT_mk] at h ⊢
  simp only [Bool.and_eq_true] at h ⊢
  refine ⟨?_, ?_⟩
  · have := h.1
    simp only [fitsI, Bool.and_eq_true] at this ⊢
    exact ⟨⟨⟨⟨h2, this.1.1.1.2⟩, this.1.1.2⟩, this.1.2⟩, this.2⟩
  · have aux : ∀ (l : List Tree) (m i : Nat), validT.validL r k m i l = validT.validL r' k m i l := by
      intro l
      induction l with
      | nil => intro m i; rw [vl_nil, vl_nil]
      | cons u us ih => intro m i; rw [vl_cons, vl_cons, ih, ← ha m i]
    rw [← aux]
    exact h.2
theorem takes18 {t : Tree} (h : validT 18 t = true) : (t.kind = 45 ∨ t.kind = 44 ∨ t.kind = 48 ∨ t.kind = 49) := by
  obtain ⟨k, a, x, n, ks⟩ := t
  rw [validT_mk] at h
  simp only [Bool.and_eq_true, fitsI, takesI, targetI] at h
  have := h.1.1.1.1.1
  simp at this
  simp only
  omega
theorem v17 {t : Tree} (h : validT 18 t = true) (hk : t.kind ≠ 45) : validT 17 t = true := by
  have h1 := (takes18 h).resolve_left hk
  refine kind_role h ?_ ?_
  · rcases h1 with q | q | q <;> rw [q] <;> decide
  · intro m i; rcases h1 with q | q | q <;> rw [q] <;> simp [asksI]
theorem v19 {t : Tree} (h : validT 18 t = true) (hk : t.kind = 44) : validT 19 t = true := by
  refine kind_role h ?_ ?_
  · rw [hk]; decide
  · intro m i; rw [hk]; simp [asksI]
theorem v20 {t : Tree} (h : validT 18 t = true) (hk : t.kind = 45) : validT 20 t = true := by
  refine kind_role h ?_ ?_
  · rw [hk]; decide
  · intro m i; rw [hk]; simp [asksI]
theorem s_snoc {r q : Int} {k : Nat} {a : Int} {x : List Nat} {n i i2 j : Nat} {l : List Tree} {u : Tree} (h : fitsI r k x n (l ++ [u]).length = true) (ha : ∀ j : Nat, j < l.length → asksI r k (l ++ [u]).length j = q) (ha2 : asksI r k (l ++ [u]).length l.length = 21) (hl : vL q l i) (hu : vX 21 u i2) (hj : i + i2 ≤ j) : vS r ⟨k, a, x, n, l ++ [u]⟩ j := by
  refine ⟨?_, ?_⟩
  · rw [validT_mk, h, vl_app, vl_uni l 0 (fun j _ h2 => ha j (by omega)) hl.1, vl_cons, vl_nil, Nat.zero_add, ha2, hu.1]; rfl
  · rw [cnt_mk, cl_app, cl_cons, cl_nil]; have := hl.2; have := hu.2; omega
theorem fit12 {r : Int} (hr : r = 7 ∨ r = 9 ∨ r = 11) {m : Nat} (h1 : 2 ≤ m) (h2 : m ≤ 300000) : fitsI r (12 : Nat) [] (0 : Nat) m = true := by
  rcases hr with rfl | rfl | rfl <;> simp [fitsI, takesI, isStmtI, stepI, kidsI, textI, numI] <;> omega
theorem w_simple {expr : P Tree} (he : Vs expr (vX 21)) {r : Int} (hr : r = 7 ∨ r = 9 ∨ r = 11) (f : Nat) : Vs (simpleP f expr) (vS r) := by
  intro E d s
  unfold simpleP
  refine v_look (v_ite (fun hw => v_bnd (w_with he 54 2 E d s fun _ => wd_live hw) fun n s1 => v_ret ?_) fun _ => v_bnd (w_call he (.inl rfl) f E d s) fun n s1 => v_bnd (w_tailsL he (.inl rfl) f n E d s1) fun n2 s2 => v_ite (fun h45 => v_ret ?_) fun h45 => v_bnd (w_setL f (n2.kind == 44) [n2] E d s2) fun l s3 => v_need (fun t => sg_live) fun t s4 _ => v_bnd (he E d s4) fun x s5 => v_ret ?_)
  · intro i _ h
    refine x_do hr ?_
    have := x_with h (r := 20) (x := []) (by decide) (asks21 (by omega) 20) n.at_ (Nat.le_refl _)
    rw [← h.2.1] at this
    have := x_eta this
    exact ⟨this.1, by have := this.2; omega⟩
  · rintro i _ ⟨hk, ht⟩ i2 _ ⟨_, hc⟩
    have h18 := ht i2 hc
    simp only [beq_iff_eq] at h45
    exact x_do hr ⟨v20 h18.1 h45, by have := h18.2; omega⟩
  · rintro ix hix hx _ _ il hil ⟨us, rfl, hu, hg⟩ i _ ⟨hk, ht⟩ i2 _ ⟨_, hc⟩
    have h18 := ht i2 hc
    simp only [beq_iff_eq] at h45
    have hlen := hu.len hil
    by_cases hus : us = []
    · subst hus
      have hl : vL 17 ([n2] ++ []) (i2 + i) := vL.one ⟨v17 h18.1 h45, by have := h18.2; omega⟩
      refine s_snoc (q := 17) (fit12 hr (by simp) (by simp)) ?_ ?_ hl hx (by omega)
      · intro j hj
        simp at hj
        subst hj
        simp [asksI, eitherI]
      · simp [asksI, eitherI]
    · have h44 : n2.kind = 44 := by
        cases hb : (n2.kind == 44) with
        | true => simpa using hb
        | false => exact absurd (hg hb) hus
      have hpos : 1 ≤ us.length := by cases us with
        | nil => exact absurd rfl hus
        | cons _ _ => simp
      have hl : vL 19 ([n2] ++ us) (i2 + i + il) := vL.app (vL.one (k := i2 + i) ⟨v19 h18.1 h44, by have := h18.2; omega⟩) hu (by omega)
      refine s_snoc (q := 19) (fit12 hr (by simp) (by simp; omega)) ?_ ?_ hl hx (by omega)
      · intro j hj
        simp at hj
        have e1 : ((j : Int) == ((([n2] ++ us) ++ [x]).length : Nat) - 1) = false := by simp; omega
        have e2 : (((([n2] ++ us) ++ [x]).length : Nat) == (2 : Int)) = false := by simp; omega
        simp only [asksI]
        rw [e1, e2]
        rfl
      · have e1 : ((([n2] ++ us).length : Int) == ((([n2] ++ us) ++ [x]).length : Nat) - 1) = true := by simp
        simp only [asksI]
        rw [e1]
        rfl
theorem w_var {expr : P Tree} (he : Vs expr (vX 21)) {r : Int} (hr : r = 7 ∨ r = 9) (f : Nat) : Vs (varP f expr) (vS r) := by
  intro E d s
  unfold varP
  refine v_look (v_ite (fun hw => v_take (fun _ => wd_live hw) fun _ => v_bnd (w_listP (q := 16) (fun E d s => v_imp (w_new E d s) fun t k h => h.s) f E d _) fun l s1 => v_need (fun t => sg_live) fun _ s2 _ => v_bnd (he E d s2) fun x s3 => v_ret ?_) fun _ => w_simple he (by omega) f E d s)
  intro ix _ hx _ _ il hil hl _
  have hlen := hl.2.len hil
  have hpos : 1 ≤ l.length := by cases l with
    | nil => exact absurd rfl hl.1
    | cons _ _ => simp
  refine s_snoc (q := 16) ?_ ?_ ?_ hl.2 hx (by omega)
  · rcases hr with rfl | rfl <;> simp [fitsI, takesI, isStmtI, kidsI, textI, numI] <;> omega
  · intro j hj
    have e1 : ((j : Int) == ((l ++ [x]).length : Nat) - 1) = false := by simp; omega
    simp only [asksI]
    rw [e1]
    rfl
  · have e1 : ((l.length : Int) == ((l ++ [x]).length : Nat) - 1) = true := by simp
    simp only [asksI]
    rw [e1]
    rfl
theorem w_away {k : Nat} (hk : k = 20 ∨ k = 21) : Vl (awayP k) (vS 7) := by
  intro E d s hn
  unfold awayP
  refine v_take hn fun _ => v_look (v_ite (fun h => v_take (fun _ => nm_live h) fun _ => v_ret fun _ _ => (x_leaf ?_ (by omega)).s) fun _ => v_ret fun _ => (x_leaf ?_ (by omega)).s)
  · rcases hk with rfl | rfl <;> simp [fitsI, takesI, isStmtI, kidsI, textI, numI, nm_name h]
  · rcases hk with rfl | rfl <;> decide
theorem w_plain {expr : P Tree} (he : Vs expr (vX 21)) (f : Nat) : Vs (plainP f expr) (vS 7) := by
  intro E d s
  unfold plainP
  refine v_look (v_ite (fun h => w_away (.inl rfl) E d s fun _ => wd_live h) fun _ => v_ite (fun h => w_away (.inr rfl) E d s fun _ => wd_live h) fun _ => v_ite (fun h => v_take (fun _ => wd_live h) fun _ => v_look (v_ite (fun _ => v_ret fun _ => (x_leaf (by decide) (by omega)).s) fun _ => v_bnd (w_listP (q := 21) (fun E d s => v_imp (he E d s) fun t k h => h.s) f E d _) fun l s1 => v_ret ?_)) fun _ => v_ite (fun h => v_take (fun _ => wd_live h) fun _ => v_need (fun c hc => ?_) fun c s1 _ => v_ret ?_) fun _ => w_var he (.inl rfl) f E d s)
  · intro i hi hl _
    have := hl.2.len hi
    refine (x_list (q := 21) ?_ ?_ hl.2 (by omega)).s
    · simp [fitsI, takesI, isStmtI, kidsI, textI, numI]; omega
    · intro j; simp [asksI]
  · simp only [Bool.and_eq_true] at hc; exact cn_live hc.1
  · intro _ hc _
    simp only [Bool.and_eq_true, decide_eq_true_eq] at hc
    refine (x_leaf ?_ (by omega)).s
    simp [fitsI, takesI, isStmtI, kidsI, textI, numI]; omega
theorem w_unless {x : List Nat} {part : P Tree} {r : Int} (hr : r = 9 ∨ r = 10 ∨ r = 11) (hp : Vs part (vS r)) : Vs (unlessP x part) (fun t k => validT r t = true ∧ cntT t ≤ 2 * k + 1) := by
  intro E d s
  unfold unlessP
  refine v_look (v_ite (fun _ => v_ret ⟨?_, ?_⟩) fun _ => v_imp (hp E d s) fun t k h => ⟨h.1, by have := h.2; omega⟩)
  · exact (x_leaf (j := 1) (by rcases hr with rfl | rfl | rfl <;> decide) (by omega)).1
  · rw [cnt_mk, cl_nil]; omega
theorem role10 {t : Tree} {k : Nat} (h : vX 21 t k) : vS 10 t k := by
  refine ⟨kind_role h.1 ?_ ?_, by have := h.2; omega⟩
  · have h1 := h.1
    obtain ⟨k, a, x, n, ks⟩ := t
    rw [validT_mk] at h1
    simp only [Bool.and_eq_true, fitsI] at h1
    have h2 := h1.1.1.1.1.1
    have h3 : isExprI (k : Int) = true := h2
    show takesI 10 (k : Int) = true
    simp [takesI, h3]
  · intro m i; simp [asksI]
theorem w_rounds {expr : P Tree} (he : Vs expr (vX 21)) {stmts : P (List Tree)} (hs : Vs stmts (vL 7)) (f : Nat) : Vs (roundsP f expr stmts) (fun l k => ∃ a b c e, l = [a, b, c, e] ∧ validT 9 a = true ∧ validT 10 b = true ∧ validT 11 c = true ∧ validT 6 e = true ∧ cntT.cntL l ≤ 2 * k) := by
  intro E d s
  unfold roundsP
  refine v_bnd (w_unless (.inl rfl) (w_var he (.inr rfl) f) E d s) fun a s1 => v_need (fun t => sg_live) fun _ s2 _ => v_bnd (w_unless (.inr (.inl rfl)) (fun E d s => v_imp (he E d s) fun t k h => role10 h) E d s2) fun b s3 => v_need (fun t => sg_live) fun _ s4 _ => v_bnd (w_unless (.inr (.inr rfl)) (w_simple he (.inr (.inr rfl)) f) E d s4) fun c s5 => v_bnd (w_block hs (.inl rfl) E d s5) fun e s6 => v_ret ?_
  intro i1 _ h1 i2 _ h2 _ _ i3 _ h3 _ _ i4 _ h4
  refine ⟨a, b, c, e, rfl, h4.1, h3.1, h2.1, h1.1, ?_⟩
  rw [cl_cons, cl_cons, cl_cons, cl_cons, cl_nil]
  have := h1.2; have := h2.2; have := h3.2; have := h4.2
  omega
theorem w_const : Vs constP (vX 14) := by
  intro E d s
  unfold constP
  refine v_look (v_ite (fun h => v_take (fun _ => sg_live h) fun _ => v_bnd (w_whole (r := 15) (by omega) E d _) fun n s1 => v_ret ?_) fun _ => w_whole (by omega) E d s)
  intro i _ hn _
  exact x_one (q := 15) (by decide) (by decide) hn (by omega)
theorem w_arm {stmts : P (List Tree)} (hs : Vs stmts (vL 7)) : Vs (armP stmts) (vX 6) := by
  intro E d s
  unfold armP
  refine v_need (fun t => sg_live) fun t s1 _ => v_bnd (hs E d s1) fun l s2 => v_ret ?_
  intro i hi h _ _
  exact x_block (.inl rfl) hi h (by omega)
theorem x_case {r : Int} (hr : r = 12 ∨ r = 13) {a : Int} {l : List Tree} {u : Tree} {i i2 j : Nat} (hi : i ≤ 100000) (h0 : l ≠ []) (hl : vL 14 l i) (hu : vX 6 u i2) (hj : i + i2 ≤ j) : vS r ⟨18, a, [], 0, l ++ [u]⟩ j := by
  have hlen := hl.len hi
  have hpos : 1 ≤ l.length := by cases l with
    | nil => exact absurd rfl h0
    | cons _ _ => simp
  refine ⟨?_, ?_⟩
  · have h : fitsI r (18 : Nat) [] (0 : Nat) (l ++ [u]).length = true := by
      rcases hr with rfl | rfl <;> simp [fitsI, takesI, kidsI, textI, numI] <;> omega
    have ha : ∀ j : Nat, j < l.length → asksI r (18 : Nat) (l ++ [u]).length j = 14 := by
      intro j hj
      have e1 : ((j : Int) == ((l ++ [u]).length : Nat) - 1) = false := by simp; omega
      simp only [asksI]
      rw [e1]
      rfl
    have ha2 : asksI r (18 : Nat) (l ++ [u]).length l.length = 6 := by
      have e1 : ((l.length : Int) == ((l ++ [u]).length : Nat) - 1) = true := by simp
      simp only [asksI]
      rw [e1]
      rfl
    rw [validT_mk, h, vl_app, vl_uni l 0 (fun j _ h2 => ha j (by omega)) hl.1, vl_cons, vl_nil, Nat.zero_add, ha2, hu.1]; rfl
  · rw [cnt_mk, cl_app, cl_cons, cl_nil]; have := hl.2; have := hu.2; omega
def vC (l : List Tree) (k : Nat) : Prop := (∀ t ∈ l, validT 12 t = true ∧ validT 13 t = true) ∧ cntT.cntL l ≤ 2 * k
theorem w_caseL {stmts : P (List Tree)} (hs : Vs stmts (vL 7)) {g : Nat} : ∀ (f : Nat) (acc : List Tree), Vs (caseL g stmts f acc) (fun l k => ∃ us, l = acc ++ us ∧ vC us k) := by
  intro f
  induction f with
  | zero => intro acc E d s; exact v_none
  | succ f ih =>
    intro acc E d s
    unfold caseL
    refine v_look (v_ite (fun h => v_take (fun _ => wd_live h) fun _ => v_bnd (w_listP (q := 14) (fun E d s => v_imp (w_const E d s) fun t k h => h.s) g E d _) fun l s1 => v_bnd (w_arm hs E d s1) fun a s2 => v_imp (ih _ E d s2) ?_) fun _ => v_ret ⟨[], by simp, by simp, by rw [cl_nil]; omega⟩)
    rintro l2 k ⟨us, rfl, hu⟩ ia _ ha il hil hl _
    refine ⟨[⟨18, ((nxt E s).2.2.2.1 : Nat), [], 0, l ++ [a]⟩] ++ us, by simp, ?_, ?_⟩
    · intro t ht
      rcases List.mem_append.1 ht with q | q
      · rw [List.mem_singleton.1 q]
        exact ⟨(x_case (.inl rfl) hil hl.1 hl.2 ha (Nat.le_refl _)).1, (x_case (.inr rfl) hil hl.1 hl.2 ha (Nat.le_refl _)).1⟩
      · exact hu.1 t q
    · have h1 := (x_case (.inl rfl) (a := ((nxt E s).2.2.2.1 : Nat)) hil hl.1 hl.2 ha (Nat.le_refl _)).2
      rw [cl_app, cl_cons, cl_nil]
      have := hu.2
      omega
theorem w_choice {expr : P Tree} (he : Vs expr (vX 21)) {stmts : P (List Tree)} (hs : Vs stmts (vL 7)) (f : Nat) : Vs (choiceP f expr stmts) (fun l k => ∃ x us vs, l = x :: (us ++ vs) ∧ validT 21 x = true ∧ (∀ t ∈ us, validT 12 t = true ∧ validT 13 t = true) ∧ (vs = [] ∨ ∃ v, vs = [v] ∧ validT 13 v = true) ∧ cntT.cntL l ≤ 2 * k) := by
  intro E d s
  unfold choiceP
  refine v_bnd (he E d s) fun x s1 => v_bnd (v_within (Q := fun l k => ∃ us vs, l = x :: (us ++ vs) ∧ (∀ t ∈ us, validT 12 t = true ∧ validT 13 t = true) ∧ (vs = [] ∨ ∃ v, vs = [v] ∧ validT 13 v = true) ∧ cntT.cntL (us ++ vs) ≤ 2 * k) fun s2 => v_bnd (w_caseL hs f [x] E _ s2) fun l s3 => v_look (v_ite (fun h => v_take (fun _ => wd_live h) fun _ => v_bnd (w_arm hs E _ _) fun a s4 => v_ret ?_) fun _ => v_ret ?_)) fun y s5 => v_ret ?_
  · rintro ia _ ha _ i _ ⟨us, rfl, hu⟩
    refine ⟨us, [⟨19, ((nxt E s3).2.2.2.1 : Nat), [], 0, [a]⟩], by simp, hu.1, .inr ⟨_, rfl, ?_⟩, ?_⟩
    · exact (x_one (q := 6) (j := ia + 1) (by decide) (by decide) ha (by omega)).1
    · rw [cl_app, cl_cons, cl_nil, cnt_mk, cl_cons, cl_nil]
      have := hu.2; have := ha.2; omega
  · rintro i _ ⟨us, rfl, hu⟩
    exact ⟨us, [], by simp, hu.1, .inl rfl, by rw [List.append_nil]; have := hu.2; omega⟩
  · rintro i _ ⟨j, rfl, us, vs, hy, hu, hv, hc⟩ i2 _ hx
    refine ⟨x, us, vs, hy, hx.1, hu, hv, ?_⟩
    rw [hy, cl_cons]
    have := hx.2
    omega
theorem fitLb {k m : Nat} {lb : List Nat} (hk : k = 15 ∧ m = 2 ∨ k = 16 ∧ m = 4 ∨ k = 17 ∧ 1 ≤ m ∧ m ≤ 500000) (hlb : lb = [] ∨ nameB lb = true) : fitsI 7 k lb (0 : Nat) m = true := by
  have ht : textI k lb = true := by
    rcases hk with ⟨rfl, _⟩ | ⟨rfl, _⟩ | ⟨rfl, _⟩ <;> rcases hlb with h | h <;> simp [textI, h]
  rcases hk with ⟨rfl, rfl⟩ | ⟨rfl, rfl⟩ | ⟨rfl, h1, h2⟩ <;> simp only [fitsI, ht] <;> simp [takesI, isStmtI, kidsI, numI] <;> omega
theorem w_turn {expr : P Tree} (he : Vs expr (vX 21)) {stmts : P (List Tree)} (hs : Vs stmts (vL 7)) (f : Nat) (lb : List Nat) (hlb : lb = [] ∨ nameB lb = true) : Vs (turnP f lb expr stmts) (vS 7) := by
  intro E d s
  unfold turnP
  refine v_need (fun t => turnW_live) fun t s1 _ => v_ite (fun _ => v_bnd (he E d s1) fun x s2 => v_bnd (w_block hs (.inl rfl) E d s2) fun k s3 => v_ret ?_) fun h1 => v_ite (fun _ => v_bnd (w_rounds he hs f E d s1) fun l s2 => v_ret ?_) fun h2 => v_ite (fun _ => v_bnd (w_choice he hs f E d s1) fun l s2 => v_ret ?_) fun h3 => v_ret ?_
  · intro i _ hk i2 _ hx _ _
    exact (x_two (q := 21) (q2 := 6) (fitLb (.inl ⟨rfl, rfl⟩) hlb) (by decide) (by decide) hx hk (by omega)).s
  · rintro i _ ⟨a, b, c, e, rfl, ha, hb, hc, hd, hn⟩ _ _
    refine ⟨?_, ?_⟩
    · have hf : fitsI 7 (16 : Nat) lb (0 : Nat) ([a, b, c, e].length : Nat) = true := fitLb (.inr (.inl ⟨rfl, rfl⟩)) hlb
      rw [validT_mk, hf, vl_cons, vl_cons, vl_cons, vl_cons, vl_nil]
      show (true && (validT (asksI 7 16 4 0) a && (validT (asksI 7 16 4 1) b && (validT (asksI 7 16 4 2) c && (validT (asksI 7 16 4 3) e && true))))) = true
      rw [show asksI 7 16 4 0 = 9 by decide, show asksI 7 16 4 1 = 10 by decide, show asksI 7 16 4 2 = 11 by decide, show asksI 7 16 4 3 = 6 by decide, ha, hb, hc, hd]
      rfl
    · rw [cnt_mk]; omega
  · rintro i hi ⟨x, us, vs, rfl, hx, hu, hv, hn⟩ _ _
    have hlen := cl_len (x :: (us ++ vs))
    refine ⟨?_, ?_⟩
    · rw [validT_mk, fitLb (.inr (.inr ⟨rfl, by simp, by omega⟩)) hlb, vl_cons]
      have h0 : asksI 7 (17 : Nat) ((x :: (us ++ vs)).length : Nat) (0 : Nat) = 21 := by simp [asksI, pickI]; rfl
      rw [h0, hx, Bool.true_and, Bool.true_and, vl_app, Bool.and_eq_true]
      have hp : ∀ j : Nat, 1 ≤ j → asksI 7 (17 : Nat) ((x :: (us ++ vs)).length : Nat) (j : Nat) = eitherI ((j : Int) == ((x :: (us ++ vs)).length : Nat) - 1) 13 12 := by
        intro j hj
        have e : (min (j : Int) 1).toNat = 1 := by omega
        simp [asksI, pickI, e]
      refine ⟨?_, ?_⟩
      · have aux : ∀ (l : List Tree) (i : Nat), 1 ≤ i → (∀ t ∈ l, validT 12 t = true ∧ validT 13 t = true) → validT.validL 7 17 (x :: (us ++ vs)).length i l = true := by
          intro l
          induction l with
          | nil => intro i _ _; rw [vl_nil]
          | cons u us2 ih =>
            intro i hi hl
            rw [vl_cons, hp i hi, ih (i + 1) (by omega) fun t ht => hl t (List.mem_cons_of_mem _ ht)]
            have := hl u (by simp)
            cases ((i : Int) == ((x :: (us ++ vs)).length : Nat) - 1) with
            | true => show (validT 13 u && true) = true; rw [this.2]; rfl
            | false => show (validT 12 u && true) = true; rw [this.1]; rfl
        exact aux us (0 + 1) (by omega) hu
      · rcases hv with rfl | ⟨v, rfl, hv⟩
        · rw [vl_nil]
        · rw [vl_cons, vl_nil, hp _ (by omega)]
          have e1 : (((0 + 1 + us.length : Nat) : Int) == ((x :: (us ++ [v])).length : Nat) - 1) = true := by simp; omega
          rw [e1]
          show (validT 13 v && true) = true
          rw [hv]
          rfl
    · rw [cnt_mk]; omega
  · intro _ ht
    exfalso
    simp only [turnW, wd, Bool.or_eq_true, Bool.and_eq_true] at ht
    rcases ht with (ht | ht) | ht
    · exact h1 ht.2
    · exact h2 ht.2
    · exact h3 ht.2
theorem s_if {r : Int} (hr : r = 7 ∨ r = 8) {a : Int} {x k : Tree} {i i2 j : Nat} (hx : vX 21 x i) (hk : vX 6 k i2) (hj : i + i2 ≤ j) : vS r ⟨14, a, [], 0, [x, k]⟩ j :=
  (x_two (q := 21) (q2 := 6) (by rcases hr with rfl | rfl <;> decide) (by rcases hr with rfl | rfl <;> decide) (by rcases hr with rfl | rfl <;> decide) hx hk hj).s
theorem s_if3 {r : Int} (hr : r = 7 ∨ r = 8) {a : Int} {x k n : Tree} {i i2 i3 j : Nat} (hx : vX 21 x i) (hk : vX 6 k i2) (hn : vS 8 n i3) (hj : i + i2 + i3 ≤ j) : vS r ⟨14, a, [], 0, [x, k, n]⟩ j := by
  refine ⟨?_, ?_⟩
  · rw [validT_mk, vl_cons, vl_cons, vl_cons, vl_nil]
    show (fitsI r 14 [] 0 3 && (validT (asksI r 14 3 0) x && (validT (asksI r 14 3 1) k && (validT (asksI r 14 3 2) n && true)))) = true
    rw [show fitsI r 14 [] 0 3 = true by rcases hr with rfl | rfl <;> decide, show asksI r 14 3 0 = 21 by rcases hr with rfl | rfl <;> decide, show asksI r 14 3 1 = 6 by rcases hr with rfl | rfl <;> decide, show asksI r 14 3 2 = 8 by rcases hr with rfl | rfl <;> decide, hx.1, hk.1, hn.1]
    rfl
  · rw [cnt_mk, cl_cons, cl_cons, cl_cons, cl_nil]; have := hx.2; have := hk.2; have := hn.2; omega
theorem w_branch {rec expr : P Tree} (hr : Vl rec (vS 8)) (he : Vs expr (vX 21)) {stmts : P (List Tree)} (hs : Vs stmts (vL 7)) {r : Int} (hq : r = 7 ∨ r = 8) : Vl (branchP rec expr stmts) (vS r) := by
  intro E d s hn
  unfold branchP
  refine v_take hn fun _ => v_bnd (he E d _) fun x s1 => v_bnd (w_block hs (.inl rfl) E d s1) fun k s2 => v_look (v_ite (fun h => v_take (fun _ => wd_live h) fun hp => v_look (v_ite (fun h2 => v_bnd (v_deepl hp (fun _ => wd_live h2) hr) fun n s3 => v_ret ?_) fun _ => v_bnd (w_block hs (.inr (.inr rfl)) E d _) fun n s3 => v_ret ?_)) fun _ => v_ret ?_)
  · intro i _ hn _ i2 _ hk i3 _ hx _
    exact s_if3 hq hx hk hn (by omega)
  · intro i _ hn _ i2 _ hk i3 _ hx _
    exact s_if3 hq hx hk hn.s (by omega)
  · intro i2 _ hk i3 _ hx _
    exact s_if hq hx hk (by omega)
theorem w_stmt {branch expr : P Tree} (hb : Vl branch (vS 7)) (he : Vs expr (vX 21)) {stmts : P (List Tree)} (hs : Vs stmts (vL 7)) (f : Nat) : Vs (stmtP f branch expr stmts) (vS 7) := by
  intro E d s
  unfold stmtP
  refine v_ife (c := fun E s => sg [123] (nxt E s) = true) (fun _ => v_imp (w_block hs (.inr (.inl rfl)) E d s) fun t k h => h.s) fun _ => v_ife (c := fun E s => wd [105, 102] (nxt E s) = true) (fun h => hb E d s fun _ => wd_live h) fun _ => v_ife (c := fun E s => turnW (nxt E s) = true) (fun _ => w_turn he hs f [] (.inl rfl) E d s) fun _ => v_ife (c := fun E s => labelB E s = true) (a := bnd takeT fun l => bnd takeT fun _ => turnP f l.2.1 expr stmts) (b := bnd (plainP f expr) fun n => bnd (needW (sg [59])) fun _ => ret n) (fun hl => ?_) fun _ => ?_
  · simp only [labelB, Bool.and_eq_true] at hl
    refine v_take (fun _ => nm_live hl.1) fun _ => v_take (fun _ => ?_) fun _ => v_imp (w_turn he hs f _ (.inr (nm_name hl.1)) E d _) ?_
    · have h2 := hl.2
      have e : nxt E (popS s) = aheadT E s 1 := by
        unfold nxt aheadT popS
        cases s.rest with
        | nil => rfl
        | cons t r => simp
      rw [e]
      exact sg_live h2
    · intro t k h _ _
      exact ⟨h.1, by have := h.2; omega⟩
  · refine v_bnd (w_plain he f E d s) fun n s1 => v_need (fun t => sg_live) fun _ s2 _ => v_ret ?_
    intro _ _ i _ h
    exact ⟨h.1, by have := h.2; omega⟩
theorem w_stmtsL {stmt : P Tree} (hp : Vs stmt (vS 7)) : ∀ (f : Nat) (acc : List Tree), Vs (stmtsL stmt f acc) (fun l k => ∃ us, l = acc ++ us ∧ vL 7 us k) := by
  intro f
  induction f with
  | zero => intro acc E d s; exact v_none
  | succ f ih =>
    intro acc E d s
    unfold stmtsL
    refine v_ife (c := fun E s => s.wrong = 0 ∧ sg [125] (nxt E s) = false ∧ (wd [99, 97, 115, 101] (nxt E s) || wd [100, 101, 102, 97, 117, 108, 116] (nxt E s)) = false) (a := bnd stmt fun n => stmtsL stmt f (acc ++ [n])) (b := ret acc) (fun _ => v_bnd (hp E d s) fun n s1 => v_imp (ih (acc ++ [n]) E d s1) ?_) fun _ => v_ret ⟨[], by simp, vL.nil⟩
    rintro l k ⟨us, rfl, hu⟩ i _ hi
    exact ⟨[n] ++ us, by simp, (vL.one hi).app hu (by omega)⟩
theorem w_fieldsL {typ : P Tree} (ht : Vs typ (vX 5)) : ∀ (f : Nat) (acc : List Tree), Vs (fieldsL typ f acc) (fun l k => ∃ us, l = acc ++ us ∧ vL 2 us k) := by
  intro f
  induction f with
  | zero => intro acc E d s; exact v_none
  | succ f ih =>
    intro acc E d s
    unfold fieldsL
    refine v_look (v_ite (fun _ => v_bnd (w_field ht E d s) fun n s1 => v_need (fun t => sg_live) fun _ s2 _ => v_imp (ih (acc ++ [n]) E d s2) ?_) fun _ => v_ret ⟨[], by simp, vL.nil⟩)
    rintro l k ⟨us, rfl, hu⟩ _ _ i _ hi
    exact ⟨[n] ++ us, by simp, (vL.one hi.s).app hu (by omega)⟩
theorem w_record {typ : P Tree} (ht : Vs typ (vX 5)) (f : Nat) : Vl (recordP f typ) (vS 1) := by
  intro E d s hn
  unfold recordP
  refine v_take hn fun _ => v_need (fun t => nm_live) fun t s1 _ => v_bnd (v_within fun s2 => w_fieldsL ht f [] E _ s2) fun x s3 => v_ret ?_
  rintro i hi6 ⟨j, rfl, us, hx, hu⟩ _ hm _
  rw [List.nil_append] at hx
  rw [hx]
  have := hu.len (by omega)
  refine (x_list (q := 2) ?_ ?_ hu (by omega)).s
  · simp [fitsI, takesI, kidsI, textI, numI, nm_name hm]; omega
  · intro j; simp [asksI]
theorem x_results {a : Int} {l : List Tree} {k : Nat} (hk : k ≤ 100000) (h : vL 5 l k) : validT 4 ⟨6, a, [], 0, l⟩ = true ∧ cntT ⟨6, a, [], 0, l⟩ ≤ 2 * k + 1 := by
  have := h.len hk
  have h2 : vX 4 ⟨6, a, [], 0, l⟩ (k + 1) := x_list (q := 5) (by simp [fitsI, takesI, kidsI, textI, numI]; omega) (by intro j; simp [asksI]) h (Nat.le_refl _)
  exact ⟨h2.1, by have := h2.2; omega⟩
theorem w_results {typ : P Tree} (ht : Vs typ (vX 5)) (f : Nat) : Vs (resultsP f typ) (fun t k => validT 4 t = true ∧ cntT t ≤ 2 * k + 1) := by
  intro E d s
  unfold resultsP
  refine v_look (v_ite (fun _ => v_ret (x_results (by omega) vL.nil)) fun _ => v_ite (fun _ => v_bnd (v_within fun s1 => w_listP (q := 5) (fun E d s => v_imp (ht E d s) fun t k h => h.s) f E _ s1) fun x s2 => v_ret ?_) fun _ => v_bnd (ht E d s) fun n s1 => v_ret ?_)
  · rintro i hi ⟨j, rfl, h⟩
    have := x_results (a := ((nxt E s).2.2.2.1 : Nat)) (by omega) h.2
    exact ⟨this.1, by have := this.2; omega⟩
  · intro i hi h
    exact x_results hi (vL.one h.s)
theorem w_function {typ : P Tree} (ht : Vs typ (vX 5)) {stmts : P (List Tree)} (hs : Vs stmts (vL 7)) (f : Nat) : Vl (functionP f typ stmts) (vS 1) := by
  intro E d s hn
  unfold functionP
  refine v_take hn fun _ => v_need (fun t => nm_live) fun t s1 _ => v_look (v_bnd (w_perhaps (q := 2) (fun E d s => v_imp (w_field ht E d s) fun t k h => h.s) f E d s1) fun l s2 => v_bnd (w_results ht f E d s2) fun r s3 => v_bnd (w_block hs (.inl rfl) E d s3) fun k s4 => v_ret ?_)
  rintro i _ hk i2 _ hr i3 hi6 ⟨j, rfl, hl⟩ _ hm _
  have := hl.len (by omega)
  have h5 : vX 3 ⟨5, ((nxt E s1).2.2.2.1 : Nat), [], 0, l⟩ (j + 1) := x_list (q := 2) (by simp [fitsI, takesI, kidsI, textI, numI]; omega) (by intro j; simp [asksI]) hl (Nat.le_refl _)
  refine ⟨?_, ?_⟩
  · rw [validT_mk, vl_cons, vl_cons, vl_cons, vl_nil]
    show (fitsI 1 4 t.2.1 0 3 && (validT (asksI 1 4 3 0) _ && (validT (asksI 1 4 3 1) r && (validT (asksI 1 4 3 2) k && true)))) = true
    rw [show fitsI 1 4 t.2.1 0 3 = true by simp [fitsI, takesI, kidsI, textI, numI, nm_name hm], show asksI 1 4 3 0 = 3 by decide, show asksI 1 4 3 1 = 4 by decide, show asksI 1 4 3 2 = 6 by decide, h5.1, hr.1, hk.1]
    rfl
  · rw [cnt_mk, cl_cons, cl_cons, cl_cons, cl_nil]; have := h5.2; have := hr.2; have := hk.2; omega
theorem w_programL {typ : P Tree} (ht : Vs typ (vX 5)) {stmts : P (List Tree)} (hs : Vs stmts (vL 7)) {g : Nat} : ∀ (f : Nat) (acc : List Tree), Vs (programL g typ stmts f acc) (fun t k => t.kind = 1 ∧ ∃ us, t = ⟨1, 0, [], 0, acc ++ us⟩ ∧ vL 1 us k) := by
  intro f
  induction f with
  | zero => intro acc E d s; exact v_none
  | succ f ih =>
    intro acc E d s
    unfold programL
    refine v_look (v_ite (fun h => v_bnd (w_record ht g E d s fun _ => wd_live h) fun n s1 => v_imp (ih (acc ++ [n]) E d s1) ?_) fun _ => v_ite (fun h => v_bnd (w_function ht hs g E d s fun _ => wd_live h) fun n s1 => v_imp (ih (acc ++ [n]) E d s1) ?_) fun _ => v_ret ⟨rfl, [], by simp, vL.nil⟩)
    · rintro t k ⟨hk, us, rfl, hu⟩ i _ hi
      exact ⟨rfl, [n] ++ us, by simp, (vL.one hi).app hu (by omega)⟩
    · rintro t k ⟨hk, us, rfl, hu⟩ i _ hi
      exact ⟨rfl, [n] ++ us, by simp, (vL.one hi).app hu (by omega)⟩
theorem R_valid : ∀ f : Nat, Vs (R f).typ (vX 5) ∧ Vs (R f).unary (vX 21) ∧ Vs (R f).expr (vX 21) ∧ Vl (R f).branch (vS 7) ∧ Vl (R f).branch (vS 8) ∧ Vs (R f).stmts (vL 7) := by
  intro f
  induction f with
  | zero => exact ⟨fun _ _ _ => v_none, fun _ _ _ => v_none, fun _ _ _ => v_none, fun _ _ _ _ => v_none, fun _ _ _ _ => v_none, fun _ _ _ => v_none⟩
  | succ f ih =>
    obtain ⟨ht, hu, he, hb, hb8, hs⟩ := ih
    refine ⟨w_typeP ht, w_unary hu ht he f, w_lineP hu f 5, w_branch hb8 he hs (.inl rfl), w_branch hb8 he hs (.inr rfl), fun E d s => v_imp (w_stmtsL (w_stmt hb he hs f) f [] E d s) ?_⟩
    rintro l k ⟨us, rfl, hu⟩
    exact hu
theorem program_valid (f : Nat) : Vs (programP f) (fun t k => t.kind = 1 ∧ validT 0 t = true ∧ cntT t ≤ 2 * k + 1) := by
  obtain ⟨ht, _, _, _, _, hs⟩ := R_valid f
  intro E d s
  unfold programP
  intro t s' e o
  obtain ⟨o2, p2⟩ := w_programL ht hs (g := f) f [] E d s t s' e o
  refine ⟨o2, fun q => ?_⟩
  obtain ⟨w0, k, hk, h1, us, rfl, hu⟩ := p2 q
  rw [List.nil_append]
  have hlen := hu.len (by have := o.2.2.2; omega)
  have h2 : vX 0 ⟨1, 0, [], 0, us⟩ (k + 1) := x_list (q := 1) (by simp [fitsI, takesI, isTypeI, isStmtI, isExprI, kidsI, textI, numI]; omega) (by intro j; simp [asksI]) hu (Nat.le_refl _)
  exact ⟨w0, k, hk, rfl, h2.1, by have := h2.2; omega⟩
end Go.Proofs.YtkagkofgfjhfgaaGreatDoor
