/-
  Texts joined: Tot, Base.
-/
import Derived.Test.YtkagkofgfjhfgaaGreatDoorJModel

/-
  THE LANDED PARSER ANSWERS: enough fuel there always is.
-/
namespace Go.Proofs.YtkagkofgfjhfgaaGreatDoor
set_option linter.unusedVariables false

/-- Where something is wrong, nothing is left. -/
def Iv (s : St) : Prop := s.wrong ≠ 0 → s.rest = []
/-- What is left to do. -/
def M (s : St) : Nat := if s.wrong = 0 then s.rest.length + 1 else 0
def Tot {A : Type} (m : P A) (E d : Nat) (s : St) (k : Nat) : Prop := ∃ a s', m E d s = some (a, s') ∧ Iv s' ∧ M s' ≤ k
theorem Tot.le {A : Type} {m : P A} {E d : Nat} {s : St} {k k' : Nat} (h : Tot m E d s k) (hk : k ≤ k') : Tot m E d s k' := by
  obtain ⟨a, s', h1, h2, h3⟩ := h
  exact ⟨a, s', h1, h2, Nat.le_trans h3 hk⟩
theorem tot_ret {A : Type} {a : A} {E d : Nat} {s : St} {k : Nat} (hI : Iv s) (h : M s ≤ k) : Tot (ret a) E d s k := ⟨a, s, rfl, hI, h⟩
theorem tot_bnd {A C : Type} {m : P A} {f : A → P C} {E d : Nat} {s : St} {k k1 : Nat} (h : Tot m E d s k1) (h2 : ∀ a s', Iv s' → M s' ≤ k1 → Tot (f a) E d s' k) : Tot (bnd m f) E d s k := by
  obtain ⟨a, s', e, hI, hM⟩ := h
  obtain ⟨b, s2, e2, h3⟩ := h2 a s' hI hM
  exact ⟨b, s2, by simp only [bnd, e, e2], h3⟩
theorem tot_look {A : Type} {f : Tok → P A} {E d : Nat} {s : St} {k : Nat} (h : Tot (f (nxt E s)) E d s k) : Tot (look f) E d s k := h
theorem iv_pop {s : St} (h : Iv s) : Iv (popS s) := fun e => by
  have := h e
  simp [popS, this]
theorem m_pop (s : St) : M (popS s) ≤ M s := by
  unfold M popS
  split <;> simp
theorem m_live {E : Nat} {s : St} (h : Iv s) (hn : (nxt E s).1 ≠ 0) : 2 ≤ M s ∧ M (popS s) + 1 = M s := by
  obtain ⟨r, wr, p⟩ := s
  cases r with
  | nil => simp [nxt, aheadT] at hn
  | cons t r =>
    by_cases hw : wr = 0
    · subst hw; simp [M, popS]
    · exact absurd (h hw) (by simp)
theorem iv_ref {E : Nat} {s : St} (h : Iv s) : Iv (refS E s) := by
  unfold refS failS
  split
  · intro _; rfl
  · exact h
theorem m_ref {E : Nat} {s : St} : M (refS E s) = 0 := by
  unfold refS failS
  split
  · rfl
  · rename_i h; simp [M, h]
theorem iv_deep {d : Nat} {t : Tok} {s : St} (h : Iv s) : Iv (deepS d t s) := by
  unfold deepS failS
  split
  · split
    · intro _; rfl
    · exact h
  · exact h
theorem m_deep {d : Nat} {t : Tok} {s : St} : M (deepS d t s) ≤ M s := by
  unfold deepS failS
  split
  · split
    · simp [M]
    · exact Nat.le_refl _
  · exact Nat.le_refl _
theorem tot_take {E d : Nat} {s : St} (hI : Iv s) : Tot takeT E d s (M s) := ⟨_, _, rfl, iv_pop hI, m_pop s⟩
theorem tot_take1 {E d : Nat} {s : St} (hI : Iv s) (hn : (nxt E s).1 ≠ 0) : Tot takeT E d s (M s - 1) := ⟨_, _, rfl, iv_pop hI, by have := m_live hI hn; omega⟩
theorem tot_need {q : Tok → Bool} {E d : Nat} {s : St} (hI : Iv s) (hq : ∀ t, q t = true → t.1 ≠ 0) : Tot (needW q) E d s (M s - 1) := by
  unfold Tot needW look needT
  simp only []
  by_cases h : q (nxt E s) = true
  · rw [if_pos h]; exact ⟨_, _, rfl, iv_pop hI, by have := m_live hI (hq _ h); omega⟩
  · rw [if_neg h]; exact ⟨_, _, rfl, iv_ref hI, by rw [m_ref]; omega⟩
theorem tot_deep {A : Type} {t : Tok} {m : P A} {E d : Nat} {s : St} {k : Nat} (hI : Iv s) (h : ∀ s', Iv s' → M s' ≤ M s → Tot m E (d + 1) s' k) : Tot (deeper t m) E d s k := h _ (iv_deep hI) m_deep
theorem sg_live {x : List Nat} {t : Tok} (h : sg x t = true) : t.1 ≠ 0 := by
  simp only [sg, Bool.and_eq_true, beq_iff_eq] at h; omega
theorem wd_live {x : List Nat} {t : Tok} (h : wd x t = true) : t.1 ≠ 0 := by
  simp only [wd, Bool.and_eq_true, beq_iff_eq] at h; omega
theorem nm_live {t : Tok} (h : nm t = true) : t.1 ≠ 0 := by
  simp only [nm, Bool.and_eq_true, beq_iff_eq] at h; omega
theorem nu_live {t : Tok} (h : nu t = true) : t.1 ≠ 0 := by
  simp only [nu, beq_iff_eq] at h; omega
theorem cn_live {t : Tok} (h : cn t = true) : t.1 ≠ 0 := by
  simp only [cn, Bool.and_eq_true, beq_iff_eq] at h; omega
theorem typeW_live {t : Tok} (h : typeW t = true) : t.1 ≠ 0 := by
  simp only [typeW, Bool.or_eq_true] at h
  rcases h with (((h | h) | h) | h) | h <;> exact wd_live h
theorem intW_live {t : Tok} (h : intW t = true) : t.1 ≠ 0 := by
  simp only [intW, Bool.or_eq_true] at h
  rcases h with (h | h) | h <;> exact wd_live h
theorem turnW_live {t : Tok} (h : turnW t = true) : t.1 ≠ 0 := by
  simp only [turnW, Bool.or_eq_true] at h
  rcases h with (h | h) | h <;> exact wd_live h
theorem betw_live {t : Tok} (h : ¬ (betw t).1 = 0) : t.1 ≠ 0 := by
  intro e; apply h; unfold betw; rw [e]; rfl
theorem signK_live {t : Tok} (h : ¬ signK t = 0) : t.1 ≠ 0 := by
  intro e; apply h; unfold signK sg; rw [e]; rfl
theorem tot_within {A : Type} {x y : List Nat} {m : P A} {E d : Nat} {s : St} {k : Nat} (hI : Iv s) (h : ∀ s', Iv s' → M s' ≤ M s - 1 → Tot m E (d + 1) s' (M s')) : Tot (within x y m) E d s (M s - 1) := by
  unfold within
  refine tot_bnd (tot_need hI fun t => sg_live) fun t s1 h1 m1 => ?_
  refine tot_bnd (tot_deep (k := M s1) h1 fun s2 h2 m2 => (h s2 h2 (by omega)).le m2) fun a s3 h3 m3 => ?_
  refine tot_bnd (tot_need h3 fun t => sg_live) fun _ s4 h4 m4 => ?_
  exact tot_ret h4 (by omega)

/-- It answers wherever less is left than m; wherever besides nothing is. -/
def Tl {A : Type} (part : P A) (m : Nat) : Prop := ∀ E d s, Iv s → M s < m → Tot part E d s (M s)
def TT {A : Type} (part : P A) (m : Nat) : Prop := ∀ E d s, Iv s → (M s < m ∨ M s = 0) → Tot part E d s (M s)
def Te {A : Type} (part : P A) (m : Nat) : Prop := ∀ E d s, Iv s → M s ≤ m → Tot part E d s (M s)
theorem TT.l {A : Type} {part : P A} {m : Nat} (h : TT part m) : Tl part m := fun E d s hI hm => h E d s hI (.inl hm)
theorem Te.l {A : Type} {part : P A} {m : Nat} (h : Te part m) : Tl part m := fun E d s hI hm => h E d s hI (by omega)
theorem Tl.le {A : Type} {part : P A} {m m' : Nat} (h : Tl part m) (hm : m' ≤ m) : Tl part m' := fun E d s hI h1 => h E d s hI (by omega)
theorem tot_listL {part : P Tree} {m : Nat} (hp : Tl part m) : ∀ (f : Nat) (acc : List Tree) (E d : Nat) (s : St), Iv s → M s ≤ m → M s < f → Tot (listL part f acc) E d s (M s) := by
  intro f
  induction f with
  | zero => intro _ _ _ _ _ _ h; omega
  | succ f ih =>
    intro acc E d s hI hm hf
    unfold listL
    refine tot_look ?_
    split
    · rename_i hs
      have hl := m_live hI (sg_live hs)
      refine tot_bnd (tot_take1 hI (sg_live hs)) fun _ s1 h1 m1 => tot_bnd (hp E d s1 h1 (by omega)) fun n s2 h2 m2 => ?_
      exact (ih _ E d s2 h2 (by omega) (by omega)).le (by omega)
    · exact tot_ret hI (Nat.le_refl _)
theorem tot_listP {part : P Tree} {m f E d : Nat} {s : St} (h0 : Tot part E d s (M s)) (hp : Tl part m) (hm : M s ≤ m) (hf : M s < f) : Tot (listP f part) E d s (M s) := by
  unfold listP
  refine tot_bnd h0 fun n s1 h1 m1 => (tot_listL hp f _ E d s1 h1 (by omega) (by omega)).le m1
theorem tot_perhaps {part : P Tree} {m f E d : Nat} {s : St} (hp : Tl part m) (hI : Iv s) (h1m : 1 ≤ m) (hm : M s ≤ m) (hf : M s < f) : Tot (perhaps f part) E d s (M s - 1) := by
  unfold perhaps
  refine tot_bnd (tot_within (k := M s) hI fun s1 h1 m1 => ?_) fun x s2 h2 m2 => tot_ret h2 m2
  refine tot_look ?_
  split
  · exact tot_ret h1 (Nat.le_refl _)
  · exact tot_listP (hp E _ s1 h1 (by omega)) hp (by omega) (by omega)
theorem tot_typeP {rec : P Tree} {E d : Nat} {s : St} (hI : Iv s) (hp : Tl rec (M s)) : Tot (typeP rec) E d s (M s) := by
  unfold typeP
  refine tot_look ?_
  split
  · exact tot_bnd (tot_take hI) fun t s1 h1 m1 => tot_ret h1 m1
  · split
    · rename_i hs
      have hl := m_live hI (sg_live hs)
      refine tot_bnd (tot_within (k := M s) hI fun s1 h1 m1 => ?_) fun x s2 h2 m2 => ?_
      · refine tot_look ?_
        split
        · exact tot_bnd (tot_take h1) fun t s1 h1 m1 => tot_ret h1 m1
        · exact tot_ret h1 (Nat.le_refl _)
      · refine tot_bnd (tot_deep h2 fun s3 h3 m3 => (hp E _ s3 h3 (by omega)).le m3) fun k s4 h4 m4 => tot_ret h4 (by omega)
    · exact ⟨_, _, rfl, iv_ref hI, by rw [m_ref]; omega⟩
theorem tot_lineL {k : Nat} {next : P Tree} {m : Nat} (hp : Tl next m) : ∀ (f : Nat) (n : Tree) (E d : Nat) (s : St), Iv s → M s ≤ m → M s < f → Tot (lineL k next f n) E d s (M s) := by
  intro f
  induction f with
  | zero => intro _ _ _ _ _ _ h; omega
  | succ f ih =>
    intro n E d s hI hm hf
    unfold lineL
    refine tot_look ?_
    split
    · exact tot_ret hI (Nat.le_refl _)
    · rename_i hs
      have hb : ¬ (betw (nxt E s)).1 = 0 := fun e => hs (.inl e)
      have hl := m_live hI (betw_live hb)
      refine tot_bnd (tot_take1 hI (betw_live hb)) fun t s1 h1 m1 => tot_bnd (hp E d s1 h1 (by omega)) fun x s2 h2 m2 => ?_
      split
      · exact tot_ret h2 (by omega)
      · exact (ih _ E d s2 h2 (by omega) (by omega)).le (by omega)
theorem tot_lineP {unary : P Tree} {m f : Nat} (hp : Te unary m) (hf : m < f) : ∀ (j : Nat), Te (lineP unary f j) m := by
  intro j
  induction j with
  | zero => exact hp
  | succ j ih =>
    intro E d s hI hm
    unfold lineP
    exact tot_bnd (ih E d s hI hm) fun n s1 h1 m1 => (tot_lineL ih.l f n E d s1 h1 (by omega) (by omega)).le m1
theorem tot_tailsL {expr : P Tree} {m : Nat} (hp : Tl expr m) : ∀ (f : Nat) (n : Tree) (E d : Nat) (s : St), Iv s → M s ≤ m → M s < f → Tot (tailsL expr f n) E d s (M s) := by
  intro f
  induction f with
  | zero => intro _ _ _ _ _ _ h; omega
  | succ f ih =>
    intro n E d s hI hm hf
    unfold tailsL
    refine tot_look ?_
    split
    · rename_i hs
      have hl := m_live hI (sg_live hs)
      refine tot_bnd (tot_take1 hI (sg_live hs)) fun _ s1 h1 m1 => tot_bnd (tot_need h1 fun t => nm_live) fun x s2 h2 m2 => ?_
      exact (ih _ E d s2 h2 (by omega) (by omega)).le (by omega)
    · split
      · rename_i hs
        have hl := m_live hI (sg_live hs)
        refine tot_bnd (tot_within (k := M s) hI fun s1 h1 m1 => hp E _ s1 h1 (by omega)) fun x s2 h2 m2 => ?_
        exact (ih _ E d s2 h2 (by omega) (by omega)).le (by omega)
      · exact tot_ret hI (Nat.le_refl _)
theorem tot_whole {E d : Nat} {s : St} (hI : Iv s) : Tot wholeP E d s (M s - 1) := tot_bnd (tot_need hI fun t => nu_live) fun t s1 h1 m1 => tot_ret h1 m1
theorem tot_used {E d : Nat} {s : St} (hI : Iv s) : Tot usedP E d s (M s - 1) := tot_bnd (tot_need hI fun t => nm_live) fun t s1 h1 m1 => tot_ret h1 m1
theorem tot_new {E d : Nat} {s : St} (hI : Iv s) : Tot newP E d s (M s - 1) := tot_bnd (tot_need hI fun t => nm_live) fun t s1 h1 m1 => tot_ret h1 m1
theorem tot_call {expr : P Tree} {m f E d : Nat} {s : St} (hp : Tl expr m) (hI : Iv s) (hm : M s ≤ m) (hf : M s < f) : Tot (callP f expr) E d s (M s - 1) := by
  unfold callP
  refine tot_bnd (tot_used hI) fun n s1 h1 m1 => tot_look ?_
  split
  · rename_i hs
    have hl := m_live h1 (sg_live hs)
    exact tot_bnd (tot_perhaps hp h1 (by omega) (by omega) (by omega)) fun l s2 h2 m2 => tot_ret h2 (by omega)
  · exact tot_ret h1 m1
theorem tot_valsL {expr : P Tree} {m : Nat} (hp : Te expr m) : ∀ (c i : Nat) (acc : List Tree) (E d : Nat) (s : St), Iv s → M s ≤ m → Tot (valsL expr c i acc) E d s (M s) := by
  intro c
  induction c with
  | zero => intro i acc E d s hI _; exact tot_ret hI (Nat.le_refl _)
  | succ c ih =>
    intro i acc E d s hI hm
    unfold valsL
    split
    · refine tot_bnd (tot_need hI fun t => sg_live) fun _ s1 h1 m1 => tot_bnd (hp E d s1 h1 (by omega)) fun n s2 h2 m2 => (ih _ _ E d s2 h2 (by omega)).le (by omega)
    · exact tot_bnd (hp E d s hI hm) fun n s2 h2 m2 => (ih _ _ E d s2 h2 (by omega)).le (by omega)
theorem tot_with {expr : P Tree} {k c E d : Nat} {s : St} (hI : Iv s) (hp : Te expr (M s - 1)) : Tot (withP expr k c) E d s (M s - 1) := by
  unfold withP
  refine tot_bnd (tot_take hI) fun t s1 h1 m1 => tot_bnd (tot_within (k := M s) h1 fun s2 h2 m2 => tot_valsL hp c 0 _ E _ s2 h2 (by omega)) fun x s3 h3 m3 => tot_ret h3 (by omega)
theorem Tl.e {A : Type} {part : P A} {m k : Nat} (h : Tl part m) (hk : k < m) : Te part k := fun E d s hI hm => h E d s hI (by omega)
theorem tot_given {expr : P Tree} {m f E d : Nat} {s : St} (hp : Tl expr m) (hI : Iv s) (hm : M s ≤ m) (hf : M s < f) : Tot (givenP f expr) E d s (M s - 1) := by
  unfold givenP
  refine tot_look ?_
  split
  · rename_i hs
    have hl := m_live hI (intW_live hs)
    exact tot_bnd (tot_with hI (hp.e (by omega))) fun n s1 h1 m1 => tot_ret h1 m1
  · split
    · rename_i hs
      have hl := m_live hI (wd_live hs)
      exact tot_with hI (hp.e (by omega))
    · split
      · rename_i hs
        have hl := m_live hI (wd_live hs)
        exact tot_with hI (hp.e (by omega))
      · split
        · rename_i hs
          have hl := m_live hI (wd_live hs)
          exact tot_with hI (hp.e (by omega))
        · split
          · rename_i hs
            have hl := m_live hI (wd_live hs)
            exact tot_with hI (hp.e (by omega))
          · exact tot_call hp hI hm hf
theorem tot_primary {typ expr : P Tree} {m f E d : Nat} {s : St} (ht : Tl typ m) (hp : Tl expr m) (hI : Iv s) (hm : M s ≤ m) (hf : M s < f) : Tot (primaryP f typ expr) E d s (M s) := by
  unfold primaryP
  refine tot_look ?_
  split
  · exact (tot_whole hI).le (by omega)
  · split
    · exact tot_bnd (tot_take hI) fun t s1 h1 m1 => tot_ret h1 m1
    · split
      · rename_i hs
        have hl := m_live hI (sg_live hs)
        exact tot_bnd (tot_within (k := M s) hI fun s1 h1 m1 => hp E _ s1 h1 (by omega)) fun x s2 h2 m2 => tot_ret h2 (by omega)
      · split
        · exact tot_bnd (tot_take hI) fun t s1 h1 m1 => tot_ret h1 m1
        · split
          · exact tot_bnd (tot_take hI) fun t s1 h1 m1 => tot_ret h1 m1
          · split
            · rename_i hs
              have hl := m_live hI (wd_live hs)
              refine tot_bnd (tot_take1 hI (wd_live hs)) fun t s1 h1 m1 => tot_bnd (ht E d s1 h1 (by omega)) fun k s2 h2 m2 => ?_
              exact tot_bnd (tot_perhaps hp h2 (by omega) (by omega) (by omega)) fun l s3 h3 m3 => tot_ret h3 (by omega)
            · exact (tot_given hp hI hm hf).le (by omega)
theorem tot_unary {rec typ expr : P Tree} {f E d : Nat} {s : St} (hI : Iv s) (hr : Tl rec (M s)) (ht : Tl typ (M s)) (hp : Tl expr (M s)) (hf : M s < f) : Tot (unaryP f rec typ expr) E d s (M s) := by
  unfold unaryP
  refine tot_look ?_
  split
  · exact tot_bnd (tot_primary ht hp hI (Nat.le_refl _) hf) fun n s1 h1 m1 => (tot_tailsL hp f n E d s1 h1 m1 (by omega)).le m1
  · rename_i hs
    have hl := m_live hI (signK_live hs)
    refine tot_bnd (tot_take1 hI (signK_live hs)) fun t s1 h1 m1 => tot_bnd (tot_deep h1 fun s2 h2 m2 => (hr E _ s2 h2 (by omega)).le m2) fun n s3 h3 m3 => tot_ret h3 (by omega)
theorem tot_field {typ : P Tree} {E d : Nat} {s : St} (hI : Iv s) (ht : Te typ (M s - 1)) : Tot (fieldP typ) E d s (M s - 1) := by
  unfold fieldP
  exact tot_bnd (tot_need hI fun t => nm_live) fun t s1 h1 m1 => tot_bnd (ht E d s1 h1 m1) fun k s2 h2 m2 => tot_ret h2 (by omega)
theorem tot_block {stmts : P (List Tree)} {E d : Nat} {s : St} (hI : Iv s) (ht : TT stmts (M s)) : Tot (blockP stmts) E d s (M s - 1) := by
  unfold blockP
  exact tot_bnd (tot_within (k := M s) hI fun s1 h1 m1 => ht E _ s1 h1 (by omega)) fun x s2 h2 m2 => tot_ret h2 m2
theorem TT.le {A : Type} {part : P A} {m m' : Nat} (h : TT part m) (hm : m' ≤ m) : TT part m' := fun E d s hI h1 => h E d s hI (by omega)
theorem tot_setL : ∀ (f : Nat) (go : Bool) (acc : List Tree) (E d : Nat) (s : St), Iv s → M s < f → Tot (setL f go acc) E d s (M s) := by
  intro f
  induction f with
  | zero => intro _ _ _ _ _ _ h; omega
  | succ f ih =>
    intro go acc E d s hI hf
    unfold setL
    refine tot_look ?_
    split
    · rename_i hs
      have hs2 := (Bool.and_eq_true_iff.1 hs).2
      have hl := m_live hI (sg_live hs2)
      refine tot_bnd (tot_take1 hI (sg_live hs2)) fun _ s1 h1 m1 => tot_bnd (tot_used h1) fun n s2 h2 m2 => ?_
      exact (ih _ _ E d s2 h2 (by omega)).le (by omega)
    · exact tot_ret hI (Nat.le_refl _)
theorem tot_simple {expr : P Tree} {f E d : Nat} {s : St} (hp : TT expr (M s)) (hI : Iv s) (hf : M s < f) : Tot (simpleP f expr) E d s (M s - 1) := by
  unfold simpleP
  refine tot_look ?_
  split
  · rename_i hs
    have hl := m_live hI (wd_live hs)
    exact tot_bnd (tot_with hI (hp.l.e (by omega))) fun n s1 h1 m1 => tot_ret h1 m1
  · refine tot_bnd (tot_call hp.l hI (Nat.le_refl _) hf) fun n s1 h1 m1 => tot_bnd (tot_tailsL hp.l f n E d s1 h1 (by omega) (by omega)) fun n2 s2 h2 m2 => ?_
    split
    · exact tot_ret h2 (by omega)
    · refine tot_bnd (tot_setL f _ _ E d s2 h2 (by omega)) fun l s3 h3 m3 => tot_bnd (tot_need h3 fun t => sg_live) fun t s4 h4 m4 => tot_bnd (hp E d s4 h4 (by omega)) fun x s5 h5 m5 => tot_ret h5 (by omega)
theorem te_new (m : Nat) : Te newP m := fun E d s hI _ => (tot_new hI).le (by omega)
theorem tot_var {expr : P Tree} {f E d : Nat} {s : St} (hp : TT expr (M s)) (hI : Iv s) (hf : M s < f) : Tot (varP f expr) E d s (M s - 1) := by
  unfold varP
  refine tot_look ?_
  split
  · rename_i hs
    have hl := m_live hI (wd_live hs)
    refine tot_bnd (tot_take1 hI (wd_live hs)) fun t s1 h1 m1 => tot_bnd (tot_listP ((te_new (M s1)) E d s1 h1 (Nat.le_refl _)) (te_new (M s1)).l (Nat.le_refl _) (by omega)) fun l s2 h2 m2 => ?_
    exact tot_bnd (tot_need h2 fun t => sg_live) fun t s4 h4 m4 => tot_bnd (hp E d s4 h4 (by omega)) fun x s5 h5 m5 => tot_ret h5 (by omega)
  · exact tot_simple hp hI hf
theorem tot_away {k E d : Nat} {s : St} (hI : Iv s) (hn : (nxt E s).1 ≠ 0) : Tot (awayP k) E d s (M s - 1) := by
  unfold awayP
  refine tot_bnd (tot_take1 hI hn) fun t s1 h1 m1 => tot_look ?_
  split
  · exact tot_bnd (tot_take h1) fun _ s2 h2 m2 => tot_ret h2 (by omega)
  · exact tot_ret h1 m1
theorem tot_plain {expr : P Tree} {f E d : Nat} {s : St} (hp : TT expr (M s)) (hI : Iv s) (hf : M s < f) : Tot (plainP f expr) E d s (M s - 1) := by
  unfold plainP
  refine tot_look ?_
  split
  · rename_i hs; exact tot_away hI (wd_live hs)
  · split
    · rename_i hs; exact tot_away hI (wd_live hs)
    · split
      · rename_i hs
        have hl := m_live hI (wd_live hs)
        refine tot_bnd (tot_take1 hI (wd_live hs)) fun t s1 h1 m1 => tot_look ?_
        split
        · exact tot_ret h1 m1
        · exact tot_bnd (tot_listP (hp E d s1 h1 (by omega)) hp.l (by omega) (by omega)) fun l s2 h2 m2 => tot_ret h2 (by omega)
      · split
        · rename_i hs
          refine tot_bnd (tot_take1 hI (wd_live hs)) fun t s1 h1 m1 => tot_bnd (tot_need h1 fun t h => cn_live (Bool.and_eq_true_iff.1 h).1) fun c s2 h2 m2 => tot_ret h2 (by omega)
        · exact tot_var hp hI hf
theorem tot_unless {x : List Nat} {part : P Tree} {E d : Nat} {s : St} (hI : Iv s) (hp : Tot part E d s (M s)) : Tot (unlessP x part) E d s (M s) := by
  unfold unlessP
  refine tot_look ?_
  split
  · exact tot_ret hI (Nat.le_refl _)
  · exact hp
theorem tot_rounds {expr : P Tree} {stmts : P (List Tree)} {f E d : Nat} {s : St} (hp : TT expr (M s)) (hs : TT stmts (M s)) (hI : Iv s) (hf : M s < f) : Tot (roundsP f expr stmts) E d s (M s) := by
  unfold roundsP
  refine tot_bnd (tot_unless hI ((tot_var hp hI hf).le (by omega))) fun a s1 h1 m1 => tot_bnd (tot_need h1 fun t => sg_live) fun _ s2 h2 m2 => ?_
  refine tot_bnd (tot_unless h2 (hp E d s2 h2 (by omega))) fun a s3 h3 m3 => tot_bnd (tot_need h3 fun t => sg_live) fun _ s4 h4 m4 => ?_
  refine tot_bnd (tot_unless h4 ((tot_simple (hp.le (by omega)) h4 (by omega)).le (by omega))) fun a s5 h5 m5 => tot_bnd (tot_block h5 (hs.le (by omega))) fun k s6 h6 m6 => tot_ret h6 (by omega)
theorem tot_const {E d : Nat} {s : St} (hI : Iv s) : Tot constP E d s (M s) := by
  unfold constP
  refine tot_look ?_
  split
  · exact tot_bnd (tot_take hI) fun t s1 h1 m1 => tot_bnd (tot_whole h1) fun n s2 h2 m2 => tot_ret h2 (by omega)
  · exact (tot_whole hI).le (by omega)
theorem te_const (m : Nat) : Te constP m := fun E d s hI _ => tot_const hI
theorem tot_arm {stmts : P (List Tree)} {E d : Nat} {s : St} (hI : Iv s) (hs : TT stmts (M s)) : Tot (armP stmts) E d s (M s - 1) := by
  unfold armP
  exact tot_bnd (tot_need hI fun t => sg_live) fun t s1 h1 m1 => tot_bnd (hs E d s1 h1 (by omega)) fun l s2 h2 m2 => tot_ret h2 (by omega)
theorem tot_caseL {stmts : P (List Tree)} {m g : Nat} (hs : TT stmts m) : ∀ (f : Nat) (acc : List Tree) (E d : Nat) (s : St), Iv s → M s ≤ m → M s < f → M s < g → Tot (caseL g stmts f acc) E d s (M s) := by
  intro f
  induction f with
  | zero => intro _ _ _ _ _ _ h; omega
  | succ f ih =>
    intro acc E d s hI hm hf hg
    unfold caseL
    refine tot_look ?_
    split
    · rename_i hw
      have hl := m_live hI (wd_live hw)
      refine tot_bnd (tot_take1 hI (wd_live hw)) fun t s1 h1 m1 => tot_bnd (tot_listP ((te_const (M s1)) E d s1 h1 (Nat.le_refl _)) (te_const (M s1)).l (Nat.le_refl _) (by omega)) fun l s2 h2 m2 => ?_
      refine tot_bnd (tot_arm h2 (hs.le (by omega))) fun a s3 h3 m3 => (ih _ E d s3 h3 (by omega) (by omega) (by omega)).le (by omega)
    · exact tot_ret hI (Nat.le_refl _)
theorem tot_choice {expr : P Tree} {stmts : P (List Tree)} {f E d : Nat} {s : St} (hp : Tot expr E d s (M s)) (hs : TT stmts (M s)) (hI : Iv s) (hf : M s < f) : Tot (choiceP f expr stmts) E d s (M s) := by
  unfold choiceP
  refine tot_bnd hp fun x s1 h1 m1 => tot_bnd (tot_within (k := M s1) h1 fun s2 h2 m2 => ?_) fun y s3 h3 m3 => tot_ret h3 (by omega)
  refine tot_bnd (tot_caseL hs f _ E _ s2 h2 (by omega) (by omega) (by omega)) fun l s3 h3 m3 => tot_look ?_
  split
  · refine tot_bnd (tot_take h3) fun t s4 h4 m4 => tot_bnd (tot_arm h4 (hs.le (by omega))) fun a s5 h5 m5 => tot_ret h5 (by omega)
  · exact tot_ret h3 m3
theorem tot_turn {expr : P Tree} {stmts : P (List Tree)} {label : List Nat} {f E d : Nat} {s : St} (hp : TT expr (M s)) (hs : TT stmts (M s)) (hI : Iv s) (hf : M s < f) : Tot (turnP f label expr stmts) E d s (M s - 1) := by
  unfold turnP
  refine tot_bnd (tot_need hI fun t => turnW_live) fun t s1 h1 m1 => ?_
  split
  · exact tot_bnd (hp E d s1 h1 (by omega)) fun x s2 h2 m2 => tot_bnd (tot_block h2 (hs.le (by omega))) fun k s3 h3 m3 => tot_ret h3 (by omega)
  · split
    · exact tot_bnd (tot_rounds (hp.le (by omega)) (hs.le (by omega)) h1 (by omega)) fun l s2 h2 m2 => tot_ret h2 (by omega)
    · split
      · exact tot_bnd (tot_choice (hp E d s1 h1 (by omega)) (hs.le (by omega)) h1 (by omega)) fun l s2 h2 m2 => tot_ret h2 (by omega)
      · exact tot_ret h1 m1
theorem tot_branch {rec expr : P Tree} {stmts : P (List Tree)} {E d k : Nat} {s : St} (hI : Iv s) (ht : Tot takeT E d s k) (hk : k ≤ M s) (hr : Tl rec (M s)) (hp : Te expr (M s)) (hs : TT stmts (M s)) : Tot (branchP rec expr stmts) E d s k := by
  unfold branchP
  refine tot_bnd ht fun t s1 h1 m1 => tot_bnd (hp E d s1 h1 (by omega)) fun x s2 h2 m2 => tot_bnd (tot_block h2 (hs.le (by omega))) fun b s3 h3 m3 => tot_look ?_
  split
  · rename_i hw
    have hl := m_live h3 (wd_live hw)
    refine tot_bnd (tot_take1 h3 (wd_live hw)) fun o s4 h4 m4 => tot_look ?_
    split
    · exact tot_bnd (tot_deep h4 fun s5 h5 m5 => (hr E _ s5 h5 (by omega)).le m5) fun n s6 h6 m6 => tot_ret h6 (by omega)
    · exact tot_bnd (tot_block h4 (hs.le (by omega))) fun n s5 h5 m5 => tot_ret h5 (by omega)
  · exact tot_ret h3 (by omega)
def TB (branch : P Tree) (m : Nat) : Prop := ∀ E d s, Iv s → M s ≤ m → Tot branch E d s (M s) ∧ ((nxt E s).1 ≠ 0 → Tot branch E d s (M s - 1))
theorem TB.l {branch : P Tree} {m : Nat} (h : TB branch m) : Te branch m := fun E d s hI hm => (h E d s hI hm).1
theorem label_live {E : Nat} {s : St} (h : labelB E s = true) : (nxt E s).1 ≠ 0 := nm_live (Bool.and_eq_true_iff.1 h).1
theorem tot_stmt {branch expr : P Tree} {stmts : P (List Tree)} {f E d : Nat} {s : St} (hb : TB branch (M s)) (hp : TT expr (M s)) (hs : TT stmts (M s)) (hI : Iv s) (hf : M s < f) : Tot (stmtP f branch expr stmts) E d s (M s - 1) := by
  unfold Tot stmtP
  split
  · exact tot_block hI hs
  · split
    · rename_i hw; exact (hb E d s hI (Nat.le_refl _)).2 (wd_live hw)
    · split
      · exact tot_turn hp hs hI hf
      · split
        · rename_i hw
          refine tot_bnd (tot_take1 hI (label_live hw)) fun l s1 h1 m1 => tot_bnd (tot_take h1) fun _ s2 h2 m2 => (tot_turn (hp.le (by omega)) (hs.le (by omega)) h2 (by omega)).le (by omega)
        · exact tot_bnd (tot_plain hp hI hf) fun n s1 h1 m1 => tot_bnd (tot_need h1 fun t => sg_live) fun _ s2 h2 m2 => tot_ret h2 (by omega)
theorem tot_stmtsL {stmt : P Tree} {m : Nat} (hp : ∀ E d s, Iv s → M s ≤ m → 1 ≤ M s → Tot stmt E d s (M s - 1)) : ∀ (f : Nat) (acc : List Tree) (E d : Nat) (s : St), Iv s → M s ≤ m → M s < f → Tot (stmtsL stmt f acc) E d s (M s) := by
  intro f
  induction f with
  | zero => intro _ _ _ _ _ _ h; omega
  | succ f ih =>
    intro acc E d s hI hm hf
    unfold Tot stmtsL
    split
    · rename_i hw
      have hl : 1 ≤ M s := by unfold M; rw [if_pos hw.1]; omega
      exact tot_bnd (hp E d s hI hm hl) fun n s1 h1 m1 => (ih _ E d s1 h1 (by omega) (by omega)).le (by omega)
    · exact ⟨_, _, rfl, hI, Nat.le_refl _⟩
theorem tot_fieldsL {typ : P Tree} {m : Nat} (hp : Tl typ m) : ∀ (f : Nat) (acc : List Tree) (E d : Nat) (s : St), Iv s → M s ≤ m → M s < f → Tot (fieldsL typ f acc) E d s (M s) := by
  intro f
  induction f with
  | zero => intro _ _ _ _ _ _ h; omega
  | succ f ih =>
    intro acc E d s hI hm hf
    unfold fieldsL
    refine tot_look ?_
    split
    · rename_i hw
      have hl := m_live hI (nm_live hw)
      exact tot_bnd (tot_field hI (hp.e (by omega))) fun n s1 h1 m1 => tot_bnd (tot_need h1 fun t => sg_live) fun _ s2 h2 m2 => (ih _ E d s2 h2 (by omega) (by omega)).le (by omega)
    · exact tot_ret hI (Nat.le_refl _)
theorem tot_record {typ : P Tree} {f E d : Nat} {s : St} (hp : Te typ (M s)) (hI : Iv s) (hn : (nxt E s).1 ≠ 0) (hf : M s < f) : Tot (recordP f typ) E d s (M s - 1) := by
  unfold recordP
  refine tot_bnd (tot_take1 hI hn) fun _ s1 h1 m1 => tot_bnd (tot_need h1 fun t => nm_live) fun t s2 h2 m2 => tot_bnd (tot_within (k := M s) h2 fun s3 h3 m3 => tot_fieldsL hp.l f _ E _ s3 h3 (by omega) (by omega)) fun x s4 h4 m4 => tot_ret h4 (by omega)
theorem tot_results {typ : P Tree} {f E d : Nat} {s : St} (hp : Te typ (M s)) (hI : Iv s) (hf : M s < f) : Tot (resultsP f typ) E d s (M s) := by
  unfold resultsP
  refine tot_look ?_
  split
  · exact tot_ret hI (Nat.le_refl _)
  · split
    · exact tot_bnd (tot_within (k := M s) hI fun s1 h1 m1 => tot_listP (hp E _ s1 h1 (by omega)) hp.l (by omega) (by omega)) fun x s2 h2 m2 => tot_ret h2 (by omega)
    · exact tot_bnd (hp E d s hI (Nat.le_refl _)) fun n s1 h1 m1 => tot_ret h1 m1
theorem tot_function {typ : P Tree} {stmts : P (List Tree)} {f E d : Nat} {s : St} (hp : Te typ (M s)) (hs : TT stmts (M s)) (hI : Iv s) (hn : (nxt E s).1 ≠ 0) (hf : M s < f) : Tot (functionP f typ stmts) E d s (M s - 1) := by
  unfold functionP
  have hl := m_live hI hn
  refine tot_bnd (tot_take1 hI hn) fun _ s1 h1 m1 => tot_bnd (tot_need h1 fun t => nm_live) fun t s2 h2 m2 => tot_look ?_
  refine tot_bnd (tot_perhaps (m := M s) (fun E d s' hI' h' => (tot_field hI' fun E d s3 h3 m3 => hp E d s3 h3 (by omega)).le (by omega)) h2 (by omega) (by omega) (by omega)) fun l s3 h3 m3 => ?_
  refine tot_bnd (tot_results (fun E d s' hI' h' => hp E d s' hI' (by omega)) h3 (by omega)) fun r s4 h4 m4 => tot_bnd (tot_block h4 (hs.le (by omega))) fun k s5 h5 m5 => tot_ret h5 (by omega)
theorem tot_programL {typ : P Tree} {stmts : P (List Tree)} {m g : Nat} (hp : Te typ m) (hs : TT stmts m) : ∀ (f : Nat) (acc : List Tree) (E d : Nat) (s : St), Iv s → M s ≤ m → M s < f → M s < g → Tot (programL g typ stmts f acc) E d s (M s) := by
  intro f
  induction f with
  | zero => intro _ _ _ _ _ _ h; omega
  | succ f ih =>
    intro acc E d s hI hm hf hg
    unfold programL
    refine tot_look ?_
    split
    · rename_i hw
      have hl := m_live hI (wd_live hw)
      exact tot_bnd (tot_record (fun E d s' hI' h' => hp E d s' hI' (by omega)) hI (wd_live hw) hg) fun n s1 h1 m1 => (ih _ E d s1 h1 (by omega) (by omega) (by omega)).le (by omega)
    · split
      · rename_i hw
        have hl := m_live hI (wd_live hw)
        exact tot_bnd (tot_function (fun E d s' hI' h' => hp E d s' hI' (by omega)) (hs.le hm) hI (wd_live hw) hg) fun n s1 h1 m1 => (ih _ E d s1 h1 (by omega) (by omega) (by omega)).le (by omega)
      · exact tot_ret hI (Nat.le_refl _)
theorem R_tot : ∀ f : Nat, (∀ E d s, Iv s → 4 * M s + 1 ≤ f → Tot (R f).typ E d s (M s)) ∧ (∀ E d s, Iv s → 4 * M s + 2 ≤ f → Tot (R f).unary E d s (M s)) ∧ (∀ E d s, Iv s → 4 * M s + 3 ≤ f → Tot (R f).expr E d s (M s)) ∧
    (∀ E d s, Iv s → 4 * M s + 4 ≤ f → Tot (R f).branch E d s (M s) ∧ ((nxt E s).1 ≠ 0 → Tot (R f).branch E d s (M s - 1))) ∧ (∀ E d s, Iv s → (4 * M s + 5 ≤ f ∨ (M s = 0 ∧ 2 ≤ f)) → Tot (R f).stmts E d s (M s)) := by
  intro f
  induction f with
  | zero => exact ⟨fun _ _ _ _ h => by omega, fun _ _ _ _ h => by omega, fun _ _ _ _ h => by omega, fun _ _ _ _ h => by omega, fun _ _ _ _ h => by omega⟩
  | succ f ih =>
    obtain ⟨ht, hu, he, hb, hs⟩ := ih
    refine ⟨fun E d s hI h => ?_, fun E d s hI h => ?_, fun E d s hI h => ?_, fun E d s hI h => ?_, fun E d s hI h => ?_⟩
    · exact tot_typeP hI fun E d s' hI' h' => ht E d s' hI' (by omega)
    · exact tot_unary hI (fun E d s' hI' h' => hu E d s' hI' (by omega)) (fun E d s' hI' h' => ht E d s' hI' (by omega)) (fun E d s' hI' h' => he E d s' hI' (by omega)) (by omega)
    · exact tot_lineP (m := M s) (fun E d s' hI' h' => hu E d s' hI' (by omega)) (by omega) 5 E d s hI (Nat.le_refl _)
    · have h1 : Tl (R f).branch (M s) := fun E d s' hI' h' => (hb E d s' hI' (by omega)).1
      have h2 : Te (R f).expr (M s) := fun E d s' hI' h' => he E d s' hI' (by omega)
      have h3 : TT (R f).stmts (M s) := fun E d s' hI' h' => hs E d s' hI' (by omega)
      exact ⟨tot_branch hI (tot_take hI) (Nat.le_refl _) h1 h2 h3, fun hn => tot_branch hI (tot_take1 hI hn) (by omega) h1 h2 h3⟩
    · by_cases h0 : M s = 0
      · show Tot (stmtsL _ f []) E d s (M s)
        cases f with
        | zero => omega
        | succ f =>
          unfold Tot stmtsL
          have hw : ¬ s.wrong = 0 := by intro e; unfold M at h0; rw [if_pos e] at h0; omega
          rw [if_neg (fun q => hw q.1)]
          exact ⟨_, _, rfl, hI, Nat.le_refl _⟩
      · refine tot_stmtsL (m := M s) (fun E d s' hI' h' h1 => ?_) f [] E d s hI (Nat.le_refl _) (by omega)
        refine tot_stmt (fun E d s2 hI2 h2 => hb E d s2 hI2 (by omega)) (fun E d s2 hI2 h2 => he E d s2 hI2 (by omega)) (fun E d s2 hI2 h2 => hs E d s2 hI2 (by omega)) hI' (by omega)
theorem typ_tot (E : Nat) (ts : List Tok) (f : Nat) (hf : 4 * ts.length + 20 ≤ f) : ∃ n s, (R f).typ E 0 ⟨ts, 0, 0⟩ = some (n, s) ∧ Iv s := by
  obtain ⟨n, s, h1, h2, _⟩ := (R_tot f).1 E 0 ⟨ts, 0, 0⟩ (fun h => absurd rfl h) (by simp [M]; omega)
  exact ⟨n, s, h1, h2⟩
theorem expr_tot (E : Nat) (ts : List Tok) (f : Nat) (hf : 4 * ts.length + 20 ≤ f) : ∃ n s, (R f).expr E 0 ⟨ts, 0, 0⟩ = some (n, s) ∧ Iv s := by
  obtain ⟨n, s, h1, h2, _⟩ := (R_tot f).2.2.1 E 0 ⟨ts, 0, 0⟩ (fun h => absurd rfl h) (by simp [M]; omega)
  exact ⟨n, s, h1, h2⟩
theorem program_tot (E : Nat) (ts : List Tok) (f : Nat) (hf : 4 * ts.length + 20 ≤ f) : ∃ n s, programP f E 0 ⟨ts, 0, 0⟩ = some (n, s) ∧ Iv s := by
  obtain ⟨n, s, h1, h2, _⟩ := tot_programL (m := M ⟨ts, 0, 0⟩) (g := f) (fun E d s hI h => (R_tot f).1 E d s hI (by simp [M] at h ⊢; omega)) (fun E d s hI h => (R_tot f).2.2.2.2 E d s hI (by simp [M] at h ⊢; omega)) f [] E 0 ⟨ts, 0, 0⟩ (fun h => absurd rfl h) (Nat.le_refl _) (by simp [M]; omega) (by simp [M]; omega)
  exact ⟨n, s, h1, h2⟩
end Go.Proofs.YtkagkofgfjhfgaaGreatDoor

/-
  THE LANDED PARSER's READINGS: what is wrong first stays; a reading that is not wrong takes tokens from the left.
-/
namespace Go.Proofs.YtkagkofgfjhfgaaGreatDoor
set_option linter.unusedVariables false

def Ba {A : Type} (m : P A) (E d : Nat) (s : St) (c : Nat) : Prop := ∀ a s', m E d s = some (a, s') → (s.wrong ≠ 0 → s'.wrong = s.wrong) ∧ (s'.wrong = 0 → ∃ pre, s.rest = pre ++ s'.rest ∧ c ≤ pre.length)
def Bs {A : Type} (m : P A) (c : Nat) : Prop := ∀ E d s, Ba m E d s c
theorem Ba.le {A : Type} {m : P A} {E d : Nat} {s : St} {c c' : Nat} (h : Ba m E d s c) (hc : c' ≤ c) : Ba m E d s c' := fun a s' e =>
  ⟨(h a s' e).1, fun q => by obtain ⟨p, h1, h2⟩ := (h a s' e).2 q; exact ⟨p, h1, by omega⟩⟩
theorem Bs.le {A : Type} {m : P A} {c c' : Nat} (h : Bs m c) (hc : c' ≤ c) : Bs m c' := fun E d s => (h E d s).le hc
theorem ba_ret {A : Type} {a : A} {E d : Nat} {s : St} : Ba (ret a) E d s 0 := by
  rintro _ _ ⟨⟩
  exact ⟨fun _ => rfl, fun _ => ⟨[], rfl, Nat.le_refl _⟩⟩
theorem ba_none {A : Type} {E d : Nat} {s : St} {c : Nat} : Ba (fun _ _ _ => none : P A) E d s c := by rintro _ _ ⟨⟩
theorem ba_bnd {A C : Type} {m : P A} {f : A → P C} {E d : Nat} {s : St} {c c1 c2 : Nat} (h : Ba m E d s c1) (h2 : ∀ a s', m E d s = some (a, s') → Ba (f a) E d s' c2) (hc : c ≤ c1 + c2) : Ba (bnd m f) E d s c := by
  intro b s2 e
  unfold bnd at e
  match hm : m E d s, e with
  | some (a, s1), e =>
    obtain ⟨k1, t1⟩ := h a s1 hm
    obtain ⟨k2, t2⟩ := h2 a s1 hm b s2 e
    refine ⟨fun q => ?_, fun q => ?_⟩
    · have e1 := k1 q
      exact (k2 (by rw [e1]; exact q)).trans e1
    · obtain ⟨p2, e2, l2⟩ := t2 q
      have hw : s1.wrong = 0 := Classical.byContradiction fun n => n ((k2 n).symm.trans q)
      obtain ⟨p1, e1, l1⟩ := t1 hw
      exact ⟨p1 ++ p2, by rw [e1, e2, List.append_assoc], by rw [List.length_append]; omega⟩
theorem ba_look {A : Type} {f : Tok → P A} {E d : Nat} {s : St} {c : Nat} (h : Ba (f (nxt E s)) E d s c) : Ba (look f) E d s c := h
theorem ba_take {E d : Nat} {s : St} : Ba takeT E d s 0 := by
  rintro _ _ ⟨⟩
  refine ⟨fun _ => rfl, fun _ => ?_⟩
  cases h : s.rest with
  | nil => exact ⟨[], by simp [popS, h], Nat.le_refl _⟩
  | cons t r => exact ⟨[t], by simp [popS, h], by simp⟩
theorem rest_live {E : Nat} {s : St} (hn : (nxt E s).1 ≠ 0) : ∃ r, s.rest = nxt E s :: r := by
  cases h : s.rest with
  | nil => simp [nxt, aheadT, h] at hn
  | cons t r => exact ⟨r, by simp [nxt, aheadT, h]⟩
theorem ba_take1 {E d : Nat} {s : St} (hn : (nxt E s).1 ≠ 0) : Ba takeT E d s 1 := by
  rintro _ _ ⟨⟩
  obtain ⟨r, hr⟩ := rest_live hn
  exact ⟨fun _ => rfl, fun _ => ⟨[nxt E s], by simp [popS, hr], Nat.le_refl _⟩⟩
theorem ref_wrong {E : Nat} {s : St} : (refS E s).wrong ≠ 0 := by
  unfold refS failS
  split
  · simp
  · assumption
theorem fail_keeps {p e : Nat} {s : St} (h : s.wrong ≠ 0) : failS p e s = s := by
  unfold failS; rw [if_neg h]
theorem ba_need {q : Tok → Bool} {E d : Nat} {s : St} (hq : ∀ t, q t = true → t.1 ≠ 0) : Ba (needW q) E d s 1 := by
  unfold needW look needT Ba
  simp only []
  by_cases h : q (nxt E s) = true
  · rw [if_pos h]; exact ba_take1 (d := d) (hq _ h)
  · rw [if_neg h]
    rintro _ _ ⟨⟩
    exact ⟨fun n => by unfold refS; rw [fail_keeps n], fun n => absurd n ref_wrong⟩
theorem ba_refP {E d : Nat} {s : St} {c : Nat} : Ba refP E d s c := by
  rintro _ _ ⟨⟩
  exact ⟨fun n => by unfold refS; rw [fail_keeps n], fun n => absurd n ref_wrong⟩
theorem ba_deep {A : Type} {t : Tok} {m : P A} {E d : Nat} {s : St} {c : Nat} (h : ∀ s', Ba m E (d + 1) s' c) : Ba (deeper t m) E d s c := by
  intro a s' e
  unfold deeper deepS at e
  split at e
  · by_cases hw : s.wrong = 0
    · refine ⟨fun n => absurd hw n, fun n => ?_⟩
      have hf : (failS t.2.2.2.1 41 s).wrong = 41 := by unfold failS; rw [if_pos hw]
      have := (h _ a s' e).1 (by rw [hf]; decide)
      rw [hf] at this; omega
    · rw [fail_keeps hw] at e
      exact h _ a s' e
  · exact h _ a s' e
theorem ba_within {A : Type} {x y : List Nat} {m : P A} {E d : Nat} {s : St} {c : Nat} (h : Bs m c) : Ba (within x y m) E d s (c + 2) := by
  unfold within
  refine ba_bnd (ba_need fun t => sg_live) (fun t s1 _ => ba_bnd (ba_deep fun s2 => h E _ s2) (fun a s3 _ => ba_bnd (ba_need fun t => sg_live) (fun _ s4 _ => ba_ret) (c := 1) (by omega)) (c := c + 1) (by omega)) (by omega)
theorem bs_listL {part : P Tree} {c : Nat} (hp : Bs part c) : ∀ (f : Nat) (acc : List Tree), Bs (listL part f acc) 0 := by
  intro f
  induction f with
  | zero => intro acc E d s; exact ba_none
  | succ f ih =>
    intro acc E d s
    unfold listL
    refine ba_look ?_
    split
    · exact ba_bnd ba_take (fun _ s1 _ => ba_bnd (hp E d s1) (fun n s2 _ => ih _ E d s2) (c := 0) (by omega)) (by omega)
    · exact ba_ret
theorem bs_listP {part : P Tree} {c : Nat} (hp : Bs part c) (f : Nat) : Bs (listP f part) c := fun E d s => by
  unfold listP
  exact ba_bnd (hp E d s) (fun n s1 _ => bs_listL hp f _ E d s1) (by omega)
theorem bs_perhaps {part : P Tree} {c : Nat} (hp : Bs part c) (f : Nat) : Bs (perhaps f part) 2 := fun E d s => by
  unfold perhaps
  refine ba_bnd (ba_within (c := 0) fun E d s1 => ba_look ?_) (fun x s2 _ => ba_ret) (by omega)
  split
  · exact ba_ret
  · exact (bs_listP hp f E d s1).le (by omega)
theorem bs_typeP {rec : P Tree} {c : Nat} (hp : Bs rec c) : Bs (typeP rec) 1 := fun E d s => by
  unfold typeP
  refine ba_look ?_
  split
  · rename_i h
    have hn : (nxt E s).1 ≠ 0 := by rcases Bool.or_eq_true_iff.1 h with h | h; exact nm_live h; exact typeW_live h
    exact ba_bnd (ba_take1 hn) (fun t s1 _ => ba_ret) (by omega)
  · split
    · refine ba_bnd (ba_within (c := 0) fun E d s1 => ba_look ?_) (fun x s2 _ => ba_bnd (ba_deep fun s3 => hp E _ s3) (fun k s4 _ => ba_ret) (c := 0) (by omega)) (by omega)
      split
      · exact ba_bnd ba_take (fun t s1 _ => ba_ret) (by omega)
      · exact ba_ret
    · exact ba_refP
theorem bs_lineL {k : Nat} {next : P Tree} {c : Nat} (hp : Bs next c) : ∀ (f : Nat) (n : Tree), Bs (lineL k next f n) 0 := by
  intro f
  induction f with
  | zero => intro n E d s; exact ba_none
  | succ f ih =>
    intro n E d s
    unfold lineL
    refine ba_look ?_
    split
    · exact ba_ret
    · refine ba_bnd ba_take (fun t s1 _ => ba_bnd (hp E d s1) (fun x s2 _ => ?_) (c := 0) (c2 := 0) (by omega)) (by omega)
      split
      · exact ba_ret
      · exact ih _ E d s2
theorem bs_lineP {unary : P Tree} {c : Nat} (hp : Bs unary c) (f : Nat) : ∀ j : Nat, Bs (lineP unary f j) c := by
  intro j
  induction j with
  | zero => exact hp
  | succ j ih =>
    intro E d s
    unfold lineP
    exact ba_bnd (ih E d s) (fun n s1 _ => bs_lineL ih f n E d s1) (by omega)
theorem bs_tailsL {expr : P Tree} {c : Nat} (hp : Bs expr c) : ∀ (f : Nat) (n : Tree), Bs (tailsL expr f n) 0 := by
  intro f
  induction f with
  | zero => intro n E d s; exact ba_none
  | succ f ih =>
    intro n E d s
    unfold tailsL
    refine ba_look ?_
    split
    · exact ba_bnd ba_take (fun _ s1 _ => ba_bnd (ba_need fun t => nm_live) (fun x s2 _ => ih _ E d s2) (c := 0) (by omega)) (by omega)
    · split
      · exact ba_bnd (ba_within hp) (fun x s2 _ => ih _ E d s2) (by omega)
      · exact ba_ret
theorem bs_whole : Bs wholeP 1 := fun E d s => ba_bnd (ba_need fun t => nu_live) (fun t s1 _ => ba_ret) (by omega)
theorem bs_used : Bs usedP 1 := fun E d s => ba_bnd (ba_need fun t => nm_live) (fun t s1 _ => ba_ret) (by omega)
theorem bs_new : Bs newP 1 := fun E d s => ba_bnd (ba_need fun t => nm_live) (fun t s1 _ => ba_ret) (by omega)
theorem bs_call {expr : P Tree} {c : Nat} (hp : Bs expr c) (f : Nat) : Bs (callP f expr) 1 := fun E d s => by
  unfold callP
  refine ba_bnd (bs_used E d s) (fun n s1 _ => ba_look (c := 0) ?_) (by omega)
  split
  · exact ba_bnd (bs_perhaps hp f E d s1) (fun l s2 _ => ba_ret) (by omega)
  · exact ba_ret
theorem bs_valsL {expr : P Tree} {c : Nat} (hp : Bs expr c) : ∀ (k i : Nat) (acc : List Tree), Bs (valsL expr k i acc) 0 := by
  intro k
  induction k with
  | zero => intro i acc E d s; exact ba_ret
  | succ k ih =>
    intro i acc E d s
    unfold valsL
    split
    · exact ba_bnd (ba_need fun t => sg_live) (fun _ s1 _ => ba_bnd (hp E d s1) (fun n s2 _ => ih _ _ E d s2) (c := 0) (by omega)) (by omega)
    · exact ba_bnd (hp E d s) (fun n s2 _ => ih _ _ E d s2) (by omega)
theorem bs_with {expr : P Tree} {c : Nat} (hp : Bs expr c) (k n : Nat) : Bs (withP expr k n) 1 := fun E d s => by
  unfold withP
  exact ba_bnd ba_take (fun t s1 _ => ba_bnd (ba_within (bs_valsL hp n 0 [])) (fun x s2 _ => ba_ret) (c := 1) (by omega)) (by omega)
theorem bs_given {expr : P Tree} {c : Nat} (hp : Bs expr c) (f : Nat) : Bs (givenP f expr) 1 := fun E d s => by
  unfold givenP
  refine ba_look ?_
  split
  · exact ba_bnd (bs_with hp _ _ E d s) (fun n s1 _ => ba_ret) (by omega)
  · split
    · exact bs_with hp _ _ E d s
    · split
      · exact bs_with hp _ _ E d s
      · split
        · exact bs_with hp _ _ E d s
        · split
          · exact bs_with hp _ _ E d s
          · exact bs_call hp f E d s
theorem bs_primary {typ expr : P Tree} {c c2 : Nat} (ht : Bs typ c2) (hp : Bs expr c) (f : Nat) : Bs (primaryP f typ expr) 1 := fun E d s => by
  unfold primaryP
  refine ba_look ?_
  split
  · exact bs_whole E d s
  · split
    · rename_i h
      exact ba_bnd (ba_take1 (by have := beq_iff_eq.1 h; omega)) (fun t s1 _ => ba_ret) (by omega)
    · split
      · exact ba_bnd (ba_within hp) (fun x s2 _ => ba_ret) (by omega)
      · split
        · rename_i h; exact ba_bnd (ba_take1 (wd_live h)) (fun t s1 _ => ba_ret) (by omega)
        · split
          · rename_i h; exact ba_bnd (ba_take1 (wd_live h)) (fun t s1 _ => ba_ret) (by omega)
          · split
            · rename_i h
              exact ba_bnd (ba_take1 (wd_live h)) (fun t s1 _ => ba_bnd (ht E d s1) (fun k s2 _ => ba_bnd (bs_perhaps hp f E d s2) (fun l s3 _ => ba_ret) (c := 0) (by omega)) (c := 0) (by omega)) (by omega)
            · exact bs_given hp f E d s
theorem bs_unary {rec typ expr : P Tree} {c c2 c3 : Nat} (hr : Bs rec c3) (ht : Bs typ c2) (hp : Bs expr c) (f : Nat) : Bs (unaryP f rec typ expr) 1 := fun E d s => by
  unfold unaryP
  refine ba_look ?_
  split
  · exact ba_bnd (bs_primary ht hp f E d s) (fun n s1 _ => bs_tailsL hp f n E d s1) (by omega)
  · rename_i h
    exact ba_bnd (ba_take1 (signK_live h)) (fun t s1 _ => ba_bnd (ba_deep fun s2 => hr E _ s2) (fun n s3 _ => ba_ret) (c := 0) (by omega)) (by omega)
theorem bs_field {typ : P Tree} {c : Nat} (ht : Bs typ c) : Bs (fieldP typ) 1 := fun E d s => by
  unfold fieldP
  exact ba_bnd (ba_need fun t => nm_live) (fun t s1 _ => ba_bnd (ht E d s1) (fun k s2 _ => ba_ret) (c := 0) (by omega)) (by omega)
theorem bs_block {stmts : P (List Tree)} {c : Nat} (hs : Bs stmts c) : Bs (blockP stmts) 2 := fun E d s => by
  unfold blockP
  exact ba_bnd (ba_within hs) (fun x s2 _ => ba_ret) (by omega)
theorem bs_setL : ∀ (f : Nat) (go : Bool) (acc : List Tree), Bs (setL f go acc) 0 := by
  intro f
  induction f with
  | zero => intro go acc E d s; exact ba_none
  | succ f ih =>
    intro go acc E d s
    unfold setL
    refine ba_look ?_
    split
    · exact ba_bnd ba_take (fun _ s1 _ => ba_bnd (bs_used E d s1) (fun n s2 _ => ih _ _ E d s2) (c := 0) (by omega)) (by omega)
    · exact ba_ret
theorem bs_simple {expr : P Tree} {c : Nat} (hp : Bs expr c) (f : Nat) : Bs (simpleP f expr) 1 := fun E d s => by
  unfold simpleP
  refine ba_look ?_
  split
  · exact ba_bnd (bs_with hp _ _ E d s) (fun n s1 _ => ba_ret) (by omega)
  · refine ba_bnd (bs_call hp f E d s) (fun n s1 _ => ba_bnd (bs_tailsL hp f n E d s1) (fun n2 s2 _ => ?_) (c := 0) (c2 := 0) (by omega)) (by omega)
    split
    · exact ba_ret
    · exact ba_bnd (bs_setL f _ _ E d s2) (fun l s3 _ => ba_bnd (ba_need fun t => sg_live) (fun t s4 _ => ba_bnd (hp E d s4) (fun x s5 _ => ba_ret) (c := 0) (by omega)) (c := 0) (by omega)) (by omega)
theorem bs_var {expr : P Tree} {c : Nat} (hp : Bs expr c) (f : Nat) : Bs (varP f expr) 1 := fun E d s => by
  unfold varP
  refine ba_look ?_
  split
  · exact ba_bnd ba_take (fun t s1 _ => ba_bnd (bs_listP bs_new f E d s1) (fun l s3 _ => ba_bnd (ba_need fun t => sg_live) (fun t s4 _ => ba_bnd (hp E d s4) (fun x s5 _ => ba_ret) (c := 0) (by omega)) (c := 0) (by omega)) (c := 1) (by omega)) (by omega)
  · exact bs_simple hp f E d s
theorem ba_away {k E d : Nat} {s : St} (hn : (nxt E s).1 ≠ 0) : Ba (awayP k) E d s 1 := by
  unfold awayP
  refine ba_bnd (ba_take1 hn) (fun t s1 _ => ba_look (c := 0) ?_) (by omega)
  split
  · exact ba_bnd ba_take (fun _ s2 _ => ba_ret) (by omega)
  · exact ba_ret
theorem bs_plain {expr : P Tree} {c : Nat} (hp : Bs expr c) (f : Nat) : Bs (plainP f expr) 1 := fun E d s => by
  unfold plainP
  refine ba_look ?_
  split
  · rename_i h; exact ba_away (wd_live h)
  · split
    · rename_i h; exact ba_away (wd_live h)
    · split
      · rename_i h
        refine ba_bnd (ba_take1 (wd_live h)) (fun t s1 _ => ba_look (c := 0) ?_) (by omega)
        split
        · exact ba_ret
        · exact ba_bnd (bs_listP hp f E d s1) (fun l s2 _ => ba_ret) (by omega)
      · split
        · exact ba_bnd ba_take (fun t s1 _ => ba_bnd (ba_need fun t h => cn_live (Bool.and_eq_true_iff.1 h).1) (fun c s2 _ => ba_ret) (c := 1) (by omega)) (by omega)
        · exact bs_var hp f E d s
theorem ba_unless {x : List Nat} {part : P Tree} {E d : Nat} {s : St} (hp : Ba part E d s 0) : Ba (unlessP x part) E d s 0 := by
  unfold unlessP
  refine ba_look ?_
  split
  · exact ba_ret
  · exact hp
theorem bs_rounds {expr : P Tree} {stmts : P (List Tree)} {c c2 : Nat} (hp : Bs expr c) (hs : Bs stmts c2) (f : Nat) : Bs (roundsP f expr stmts) 0 := fun E d s => by
  unfold roundsP
  refine ba_bnd (ba_unless ((bs_var hp f E d s).le (by omega))) (fun a s1 _ => ba_bnd (ba_need fun t => sg_live) (fun _ s2 _ => ?_) (c := 0) (c2 := 0) (by omega)) (by omega)
  refine ba_bnd (ba_unless ((hp E d s2).le (by omega))) (fun a s3 _ => ba_bnd (ba_need fun t => sg_live) (fun _ s4 _ => ?_) (c := 0) (c2 := 0) (by omega)) (by omega)
  exact ba_bnd (ba_unless ((bs_simple hp f E d s4).le (by omega))) (fun a s5 _ => ba_bnd (bs_block hs E d s5) (fun k s6 _ => ba_ret) (c := 0) (by omega)) (by omega)
theorem bs_const : Bs constP 1 := fun E d s => by
  unfold constP
  refine ba_look ?_
  split
  · exact ba_bnd ba_take (fun t s1 _ => ba_bnd (bs_whole E d s1) (fun n s2 _ => ba_ret) (c := 1) (by omega)) (by omega)
  · exact bs_whole E d s
theorem bs_arm {stmts : P (List Tree)} {c : Nat} (hs : Bs stmts c) : Bs (armP stmts) 1 := fun E d s => by
  unfold armP
  exact ba_bnd (ba_need fun t => sg_live) (fun t s1 _ => ba_bnd (hs E d s1) (fun l s2 _ => ba_ret) (c := 0) (by omega)) (by omega)
theorem bs_caseL {stmts : P (List Tree)} {c g : Nat} (hs : Bs stmts c) : ∀ (f : Nat) (acc : List Tree), Bs (caseL g stmts f acc) 0 := by
  intro f
  induction f with
  | zero => intro acc E d s; exact ba_none
  | succ f ih =>
    intro acc E d s
    unfold caseL
    refine ba_look ?_
    split
    · exact ba_bnd ba_take (fun t s1 _ => ba_bnd (bs_listP bs_const g E d s1) (fun l s2 _ => ba_bnd (bs_arm hs E d s2) (fun a s3 _ => ih _ E d s3) (c := 0) (by omega)) (c := 0) (by omega)) (by omega)
    · exact ba_ret
theorem bs_choice {expr : P Tree} {stmts : P (List Tree)} {c c2 : Nat} (hp : Bs expr c) (hs : Bs stmts c2) (f : Nat) : Bs (choiceP f expr stmts) 0 := fun E d s => by
  unfold choiceP
  refine ba_bnd (hp E d s) (fun x s1 _ => ba_bnd (ba_within (c := 0) fun E d s2 => ?_) (fun y s3 _ => ba_ret) (c := 0) (by omega)) (by omega)
  refine ba_bnd (bs_caseL hs f _ E d s2) (fun l s3 _ => ba_look (c := 0) ?_) (by omega)
  split
  · exact ba_bnd ba_take (fun t s4 _ => ba_bnd (bs_arm hs E d s4) (fun a s5 _ => ba_ret) (c := 0) (by omega)) (by omega)
  · exact ba_ret
theorem bs_turn {expr : P Tree} {stmts : P (List Tree)} {c c2 : Nat} (hp : Bs expr c) (hs : Bs stmts c2) (f : Nat) (label : List Nat) : Bs (turnP f label expr stmts) 1 := fun E d s => by
  unfold turnP
  refine ba_bnd (ba_need fun t => turnW_live) (fun t s1 _ => ?_) (c2 := 0) (by omega)
  split
  · exact ba_bnd (hp E d s1) (fun x s2 _ => ba_bnd (bs_block hs E d s2) (fun k s3 _ => ba_ret) (c := 0) (by omega)) (by omega)
  · split
    · exact ba_bnd (bs_rounds hp hs f E d s1) (fun l s2 _ => ba_ret) (by omega)
    · split
      · exact ba_bnd (bs_choice hp hs f E d s1) (fun l s2 _ => ba_ret) (by omega)
      · exact ba_ret
theorem ba_branch {rec expr : P Tree} {stmts : P (List Tree)} {c c2 c3 k E d : Nat} {s : St} (ht : Ba takeT E d s k) (hr : Bs rec c3) (hp : Bs expr c) (hs : Bs stmts c2) : Ba (branchP rec expr stmts) E d s k := by
  unfold branchP
  refine ba_bnd ht (fun t s1 _ => ba_bnd (hp E d s1) (fun x s2 _ => ba_bnd (bs_block hs E d s2) (fun b s3 _ => ba_look (c := 0) ?_) (c := 0) (by omega)) (c := 0) (by omega)) (by omega)
  split
  · refine ba_bnd ba_take (fun o s4 _ => ba_look (c := 0) ?_) (by omega)
    split
    · exact ba_bnd (ba_deep fun s5 => hr E _ s5) (fun n s6 _ => ba_ret) (by omega)
    · exact ba_bnd (bs_block hs E d s4) (fun n s6 _ => ba_ret) (by omega)
  · exact ba_ret
/-- A branch, where a token stands. -/
def BB (branch : P Tree) : Prop := ∀ E d s, Ba branch E d s 0 ∧ ((nxt E s).1 ≠ 0 → Ba branch E d s 1)
theorem bs_stmt {branch expr : P Tree} {stmts : P (List Tree)} {c c2 : Nat} (hb : BB branch) (hp : Bs expr c) (hs : Bs stmts c2) (f : Nat) : Bs (stmtP f branch expr stmts) 1 := fun E d s => by
  unfold Ba stmtP
  split
  · exact (bs_block hs E d s).le (by omega)
  · split
    · rename_i h; exact (hb E d s).2 (wd_live h)
    · split
      · exact bs_turn hp hs f _ E d s
      · split
        · exact ba_bnd ba_take (fun l s1 _ => ba_bnd ba_take (fun _ s2 _ => bs_turn hp hs f _ E d s2) (c := 1) (by omega)) (by omega)
        · exact ba_bnd (bs_plain hp f E d s) (fun n s1 _ => ba_bnd (ba_need fun t => sg_live) (fun _ s2 _ => ba_ret) (c := 0) (by omega)) (by omega)
theorem bs_stmtsL {stmt : P Tree} {c : Nat} (hp : Bs stmt c) : ∀ (f : Nat) (acc : List Tree), Bs (stmtsL stmt f acc) 0 := by
  intro f
  induction f with
  | zero => intro acc E d s; exact ba_none
  | succ f ih =>
    intro acc E d s
    unfold Ba stmtsL
    split
    · exact ba_bnd (hp E d s) (fun n s1 _ => ih _ E d s1) (by omega)
    · rintro _ _ ⟨⟩
      exact ⟨fun _ => rfl, fun _ => ⟨[], rfl, Nat.le_refl _⟩⟩
theorem bs_fieldsL {typ : P Tree} {c : Nat} (hp : Bs typ c) : ∀ (f : Nat) (acc : List Tree), Bs (fieldsL typ f acc) 0 := by
  intro f
  induction f with
  | zero => intro acc E d s; exact ba_none
  | succ f ih =>
    intro acc E d s
    unfold fieldsL
    refine ba_look ?_
    split
    · exact ba_bnd (bs_field hp E d s) (fun n s1 _ => ba_bnd (ba_need fun t => sg_live) (fun _ s2 _ => ih _ E d s2) (c := 0) (by omega)) (by omega)
    · exact ba_ret
theorem bs_record {typ : P Tree} {c : Nat} (hp : Bs typ c) (f : Nat) : Bs (recordP f typ) 1 := fun E d s => by
  unfold recordP
  exact ba_bnd ba_take (fun _ s1 _ => ba_bnd (ba_need fun t => nm_live) (fun t s2 _ => ba_bnd (ba_within (bs_fieldsL hp f [])) (fun x s4 _ => ba_ret) (c := 0) (by omega)) (c := 1) (by omega)) (by omega)
theorem bs_results {typ : P Tree} {c : Nat} (hp : Bs typ c) (f : Nat) : Bs (resultsP f typ) 0 := fun E d s => by
  unfold resultsP
  refine ba_look ?_
  split
  · exact ba_ret
  · split
    · exact ba_bnd (ba_within (bs_listP hp f)) (fun x s2 _ => ba_ret) (by omega)
    · exact ba_bnd (hp E d s) (fun n s1 _ => ba_ret) (by omega)
theorem bs_function {typ : P Tree} {stmts : P (List Tree)} {c c2 : Nat} (hp : Bs typ c) (hs : Bs stmts c2) (f : Nat) : Bs (functionP f typ stmts) 1 := fun E d s => by
  unfold functionP
  refine ba_bnd ba_take (fun _ s1 _ => ba_bnd (ba_need fun t => nm_live) (fun t s2 _ => ba_look (c := 0) ?_) (c := 1) (by omega)) (by omega)
  exact ba_bnd (bs_perhaps (bs_field hp) f E d s2) (fun l s3 _ => ba_bnd (bs_results hp f E d s3) (fun r s4 _ => ba_bnd (bs_block hs E d s4) (fun k s5 _ => ba_ret) (c := 0) (by omega)) (c := 0) (by omega)) (by omega)
theorem bs_programL {typ : P Tree} {stmts : P (List Tree)} {c c2 g : Nat} (hp : Bs typ c) (hs : Bs stmts c2) : ∀ (f : Nat) (acc : List Tree), Bs (programL g typ stmts f acc) 0 := by
  intro f
  induction f with
  | zero => intro acc E d s; exact ba_none
  | succ f ih =>
    intro acc E d s
    unfold programL
    refine ba_look ?_
    split
    · exact ba_bnd (bs_record hp g E d s) (fun n s1 _ => ih _ E d s1) (by omega)
    · split
      · exact ba_bnd (bs_function hp hs g E d s) (fun n s1 _ => ih _ E d s1) (by omega)
      · exact ba_ret
theorem R_bs : ∀ f : Nat, Bs (R f).typ 1 ∧ Bs (R f).unary 1 ∧ Bs (R f).expr 1 ∧ BB (R f).branch ∧ Bs (R f).stmts 0 := by
  intro f
  induction f with
  | zero => exact ⟨fun _ _ _ => ba_none, fun _ _ _ => ba_none, fun _ _ _ => ba_none, fun _ _ _ => ⟨ba_none, fun _ => ba_none⟩, fun _ _ _ => ba_none⟩
  | succ f ih =>
    obtain ⟨ht, hu, he, hb, hs⟩ := ih
    have hb0 : Bs (R f).branch 0 := fun E d s => (hb E d s).1
    exact ⟨bs_typeP ht, bs_unary hu ht he f, bs_lineP hu f 5, fun E d s => ⟨ba_branch ba_take hb0 he hs, fun hn => ba_branch (ba_take1 hn) hb0 he hs⟩, bs_stmtsL (bs_stmt hb he hs f) f []⟩
end Go.Proofs.YtkagkofgfjhfgaaGreatDoor
