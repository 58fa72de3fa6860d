/-
  TWO RUNS OF THE LANDED PARSER BESIDE ONE ANOTHER: places moved, tokens put behind, one deeper: the same tree with its places moved.
-/
import Derived.Test.YtkagkofgfjhfgaaGreatDoorJTot
namespace Go.Proofs.YtkagkofgfjhfgaaGreatDoor
set_option linter.unusedVariables false

/-- Places in a tree moved. -/
def mapTr (g : Int → Int) : Tree → Tree
  | ⟨k, a, t, n, ks⟩ => ⟨k, g a, t, n, ks.map (mapTr g)⟩
theorem mapTr_mk (g : Int → Int) (k : Nat) (a : Int) (t : List Nat) (n : Nat) (ks : List Tree) : mapTr g ⟨k, a, t, n, ks⟩ = ⟨k, g a, t, n, ks.map (mapTr g)⟩ := by rw [mapTr]
/-- Tokens that no part but a program's takes where nothing is left: none, a closing parenthesis, the words fn and record. -/
def endT (t : Tok) : Prop := t.1 = 0 ∨ (t.1 = 4 ∧ t.2.1 = [41]) ∨ (t.1 = 1 ∧ (t.2.1 = [102, 110] ∨ t.2.1 = [114, 101, 99, 111, 114, 100]))
/-- How the second run's tokens stand to the first's. -/
structure Mv where
  mt : Tok → Tok
  g : Int → Int
  ys : List Tok
  E1 : Nat
  E2 : Nat
  dl : Nat
  hm : ∀ t, (mt t).1 = t.1 ∧ (mt t).2.1 = t.2.1 ∧ (mt t).2.2.1 = t.2.2.1 ∧ ((mt t).2.2.2.1 : Int) = g (t.2.2.2.1 : Int)
  pl : Nat → Nat
  hys : ys = [] ∨ ∃ t q, ys = t :: q ∧ endT t
def Mv.ext (v : Mv) (s : St) : St := ⟨s.rest.map v.mt ++ v.ys, s.wrong, v.pl s.place⟩
def Mv.ts (v : Mv) (t u : Tok) : Prop := u.1 = t.1 ∧ u.2.1 = t.2.1 ∧ u.2.2.1 = t.2.2.1 ∧ (u.2.2.2.1 : Int) = v.g (t.2.2.2.1 : Int)
def Mv.tk (v : Mv) (t u : Tok) : Prop := v.ts t u ∨ (t.1 = 0 ∧ endT u)
def Mv.tr (v : Mv) (a b : Tree) : Prop := b = mapTr v.g a
def Mv.tl (v : Mv) (a b : List Tree) : Prop := b = a.map (mapTr v.g)
theorem tr_mk {v : Mv} {k : Nat} {a a' : Int} {t : List Nat} {n : Nat} {ks ks' : List Tree} (ha : a' = v.g a) (hk : v.tl ks ks') : v.tr ⟨k, a, t, n, ks⟩ ⟨k, a', t, n, ks'⟩ := by
  unfold Mv.tr Mv.tl at *
  rw [mapTr_mk, ha, hk]
theorem tr_parts {v : Mv} {a b : Tree} (h : v.tr a b) : b.kind = a.kind ∧ b.at_ = v.g a.at_ ∧ b.text = a.text ∧ b.n = a.n ∧ v.tl a.kids b.kids := by
  obtain ⟨k, x, t, n, ks⟩ := a
  unfold Mv.tr at h
  rw [mapTr_mk] at h
  subst h
  exact ⟨rfl, rfl, rfl, rfl, rfl⟩
theorem tl_nil {v : Mv} : v.tl [] [] := rfl
theorem tl_cons {v : Mv} {a b : Tree} {l l' : List Tree} (h : v.tr a b) (h2 : v.tl l l') : v.tl (a :: l) (b :: l') := by unfold Mv.tl Mv.tr at *; rw [h, h2]; rfl
theorem tl_app {v : Mv} {l l' m m' : List Tree} (h : v.tl l l') (h2 : v.tl m m') : v.tl (l ++ m) (l' ++ m') := by unfold Mv.tl at *; rw [h, h2, List.map_append]
theorem tl_snoc {v : Mv} {a b : Tree} {l l' : List Tree} (h2 : v.tl l l') (h : v.tr a b) : v.tl (l ++ [a]) (l' ++ [b]) := tl_app h2 (tl_cons h tl_nil)
/-- The first run's good answer is the second's, moved (or the second is too deep). -/
def Sm (v : Mv) {A : Type} (V : A → A → Prop) (m1 m2 : P A) (s : St) : Prop := ∀ d a s', m1 v.E1 d s = some (a, s') → s'.wrong = 0 →
  ∀ a2 s2, m2 v.E2 (d + v.dl) (v.ext s) = some (a2, s2) → (V a a2 ∧ s2 = v.ext s') ∨ (s2.wrong = 41 ∧ v.dl ≠ 0)
def Sim (v : Mv) {A : Type} (V : A → A → Prop) (m1 m2 : P A) : Prop := ∀ s, Sm v V m1 m2 s

/-! ### Readings that keep what is wrong -/
theorem bs0_ret {A : Type} {a : A} : Bs (ret a) 0 := fun _ _ _ => ba_ret
theorem bs0_take : Bs takeT 0 := fun _ _ _ => ba_take
theorem bs0_ref : Bs refP 0 := fun _ _ _ => ba_refP
theorem bs0_need {q : Tok → Bool} (hq : ∀ t, q t = true → t.1 ≠ 0) : Bs (needW q) 0 := fun _ _ _ => (ba_need hq).le (Nat.zero_le _)
theorem bs0_sg {x : List Nat} : Bs (needW (sg x)) 0 := bs0_need fun t => sg_live
theorem bs0_nm : Bs (needW nm) 0 := bs0_need fun t => nm_live
theorem bs0_nu : Bs (needW nu) 0 := bs0_need fun t => nu_live
theorem bs0_bnd {A C : Type} {m : P A} {f : A → P C} (h : Bs m 0) (h2 : ∀ a, Bs (f a) 0) : Bs (bnd m f) 0 := fun E d s => ba_bnd (h E d s) (fun a s' _ => h2 a E d s') (by omega)
theorem bs0_look {A : Type} {f : Tok → P A} (h : ∀ t, Bs (f t) 0) : Bs (look f) 0 := fun E d s => h _ E d s
theorem bs0_deep {A : Type} {t : Tok} {m : P A} (h : Bs m 0) : Bs (deeper t m) 0 := fun E d s => ba_deep fun s' => h E _ s'
theorem bs0_within {A : Type} {x y : List Nat} {m : P A} (h : Bs m 0) : Bs (within x y m) 0 := fun E d s => (ba_within h).le (Nat.zero_le _)

theorem bs0_unless {x : List Nat} {part : P Tree} (h : Bs part 0) : Bs (unlessP x part) 0 := fun E d s => ba_unless (h E d s)

theorem bs_turn0 {expr : P Tree} {stmts : P (List Tree)} {c c2 : Nat} (hp : Bs expr c) (hs : Bs stmts c2) (f : Nat) (lb : List Nat) : Bs (turnP f lb expr stmts) 0 := (bs_turn hp hs f lb).le (Nat.zero_le _)

/-! ### The moves -/
theorem sm_ret {v : Mv} {A : Type} {V : A → A → Prop} {a b : A} {s : St} (h : V a b) : Sm v V (ret a) (ret b) s := by
  rintro d _ _ ⟨⟩ _ _ _ ⟨⟩
  exact .inl ⟨h, rfl⟩
theorem sb {v : Mv} {A C : Type} {V : A → A → Prop} {U : C → C → Prop} {m1 m2 : P A} {f1 f2 : A → P C} {s : St} (h : Sm v V m1 m2 s) (hb : ∀ a, Bs (f1 a) 0) (hk : ∀ a, Bs (f2 a) 0)
    (h2 : ∀ a b s', V a b → Sm v U (f1 a) (f2 b) s') : Sm v U (bnd m1 f1) (bnd m2 f2) s := by
  intro d c s' e hw c2' s2 e2
  unfold bnd at e e2
  match hm : m1 v.E1 d s, e with
  | some (a, s1), e =>
    match hm2 : m2 v.E2 (d + v.dl) (v.ext s), e2 with
    | some (b, t1), e2 =>
      obtain ⟨k1, k2⟩ := hb a v.E1 d s1 c s' e
      have hw1 : s1.wrong = 0 := Classical.byContradiction fun n => n ((k1 n).symm.trans hw)
      rcases h d a s1 hm hw1 b t1 hm2 with ⟨hV, rfl⟩ | ⟨hx, hd⟩
      · exact h2 a b s1 hV d c s' e hw c2' s2 e2
      · exact .inr ⟨((hk b v.E2 _ t1 c2' s2 e2).1 (by omega)).trans hx, hd⟩
/-- The token that stands next, in both. -/
theorem tk_nxt (v : Mv) (s : St) : v.tk (nxt v.E1 s) (nxt v.E2 (v.ext s)) ∧ (v.ts (nxt v.E1 s) (nxt v.E2 (v.ext s)) ∨ s.rest = []) := by
  cases h : s.rest with
  | cons t r =>
    have e1 : nxt v.E1 s = t := by simp [nxt, aheadT, h]
    have e2 : nxt v.E2 (v.ext s) = v.mt t := by simp [nxt, aheadT, Mv.ext, h]
    rw [e1, e2]
    exact ⟨.inl (v.hm t), .inl (v.hm t)⟩
  | nil =>
    have e1 : nxt v.E1 s = (0, [], 0, v.E1, 0) := by simp [nxt, aheadT, h]
    rw [e1]
    rcases v.hys with h1 | ⟨t, q, h1, h2⟩
    · have e2 : nxt v.E2 (v.ext s) = (0, [], 0, v.E2, 0) := by simp [nxt, aheadT, Mv.ext, h, h1]
      rw [e2]
      exact ⟨.inr ⟨rfl, .inl rfl⟩, .inr rfl⟩
    · have e2 : nxt v.E2 (v.ext s) = t := by simp [nxt, aheadT, Mv.ext, h, h1]
      rw [e2]
      exact ⟨.inr ⟨rfl, h2⟩, .inr rfl⟩
theorem sm_look {v : Mv} {A : Type} {V : A → A → Prop} {f1 f2 : Tok → P A} {s : St} (h : v.tk (nxt v.E1 s) (nxt v.E2 (v.ext s)) → Sm v V (f1 (nxt v.E1 s)) (f2 (nxt v.E2 (v.ext s))) s) : Sm v V (look f1) (look f2) s := h (tk_nxt v s).1
theorem sm_ite {v : Mv} {A : Type} {V : A → A → Prop} {c c' : Prop} [Decidable c] [Decidable c'] {a a' b b' : P A} {s : St} (hc : c' ↔ c) (h1 : c → Sm v V a a' s) (h2 : ¬ c → Sm v V b b' s) : Sm v V (if c then a else b) (if c' then a' else b') s := by
  by_cases h : c
  · rw [if_pos h, if_pos (hc.2 h)]; exact h1 h
  · rw [if_neg h, if_neg (fun q => h (hc.1 q))]; exact h2 h
theorem tk_live {v : Mv} {t u : Tok} (h : v.tk t u) (hn : t.1 ≠ 0) : v.ts t u := h.resolve_right fun q => hn q.1
theorem ext_pop {v : Mv} {s : St} (hr : s.rest ≠ []) : popS (v.ext s) = v.ext (popS s) := by
  cases h : s.rest with
  | nil => exact absurd h hr
  | cons t r => simp [popS, Mv.ext, h]
theorem sm_take {v : Mv} {s : St} (hn : (nxt v.E1 s).1 ≠ 0) : Sm v v.ts takeT takeT s := by
  rintro d _ _ ⟨⟩ hw _ _ ⟨⟩
  obtain ⟨r, hr⟩ := rest_live hn
  have hne : s.rest ≠ [] := by rw [hr]; simp
  exact .inl ⟨tk_live (tk_nxt v s).1 hn, ext_pop hne⟩
theorem sb_take {v : Mv} {C : Type} {U : C → C → Prop} {f1 f2 : Tok → P C} {s : St} (hn : (nxt v.E1 s).1 ≠ 0) (h2 : v.ts (nxt v.E1 s) (nxt v.E2 (v.ext s)) → Sm v U (f1 (nxt v.E1 s)) (f2 (nxt v.E2 (v.ext s))) (popS s)) : Sm v U (bnd takeT f1) (bnd takeT f2) s := by
  intro d c s' e hw c2 s2 e2
  obtain ⟨r, hr⟩ := rest_live hn
  have hne : s.rest ≠ [] := by rw [hr]; simp
  have e' : f1 (nxt v.E1 s) v.E1 d (popS s) = some (c, s') := e
  have e2' : f2 (nxt v.E2 (v.ext s)) v.E2 (d + v.dl) (popS (v.ext s)) = some (c2, s2) := e2
  rw [ext_pop hne] at e2'
  exact h2 (tk_live (tk_nxt v s).1 hn) d c s' e' hw c2 s2 e2'
theorem nxt_pop (E : Nat) (s : St) : nxt E (popS s) = aheadT E s 1 := by
  unfold nxt aheadT popS
  cases s.rest with
  | nil => rfl
  | cons t r => simp
/-- Which tests answer alike. -/
def Mv.alike (v : Mv) (q : Tok → Bool) : Prop := ∀ t u, v.tk t u → q u = q t
theorem sm_need {v : Mv} {q : Tok → Bool} {s : St} (hq : ∀ t, q t = true → t.1 ≠ 0) (ha : ∀ t u, v.tk t u → q t = true → q u = true) : Sm v v.ts (needW q) (needW q) s := by
  intro d a s' e hw a2 s2 e2
  unfold needW look needT at e e2
  simp only [] at e e2
  by_cases h : q (nxt v.E1 s) = true
  · have hn := hq _ h
    obtain ⟨r, hr⟩ := rest_live hn
    have hne : s.rest ≠ [] := by rw [hr]; simp
    have ht := (tk_nxt v s).1
    rw [if_pos h] at e
    rw [if_pos (ha _ _ ht h)] at e2
    cases e; cases e2
    exact .inl ⟨tk_live ht hn, ext_pop hne⟩
  · rw [if_neg h] at e
    cases e
    exact absurd hw ref_wrong
theorem tk_sg {v : Mv} {x : List Nat} (hx : x ≠ [41]) : v.alike (sg x) := by
  rintro t u (⟨h1, h2, _⟩ | ⟨h1, h2 | ⟨h2, h3⟩ | ⟨h2, h3⟩⟩)
  · unfold sg; rw [h1, h2]
  · unfold sg; rw [h1, h2]; rfl
  · unfold sg; rw [h1, h2, h3]
    have e : (([41] : List Nat) == x) = false := by simp; exact fun q => hx q.symm
    rw [e]; rfl
  · unfold sg; rw [h1, h2]; rfl
theorem tk_sgT {v : Mv} {x : List Nat} {t u : Tok} (h : v.tk t u) (hs : sg x t = true) : sg x u = true := by
  have h1 := tk_live h (sg_live hs)
  unfold sg at hs ⊢; rw [h1.1, h1.2.1]; exact hs
theorem tk_wd {v : Mv} {x : List Nat} (hx : x ≠ [102, 110] ∧ x ≠ [114, 101, 99, 111, 114, 100]) : v.alike (wd x) := by
  rintro t u (⟨h1, h2, _⟩ | ⟨h1, h2 | ⟨h2, h3⟩ | ⟨h2, h3⟩⟩)
  · unfold wd; rw [h1, h2]
  · unfold wd; rw [h1, h2]; rfl
  · unfold wd; rw [h1, h2]; rfl
  · unfold wd; rw [h1, h2]
    have e : (u.2.1 == x) = false := by rcases h3 with h3 | h3 <;> rw [h3] <;> simp; exact fun q => hx.1 q.symm; exact fun q => hx.2 q.symm
    rw [e]; rfl
theorem tk_nm {v : Mv} : v.alike nm := by
  rintro t u (⟨h1, h2, _⟩ | ⟨h1, h2 | ⟨h2, h3⟩ | ⟨h2, h3⟩⟩)
  · unfold nm; rw [h1, h2]
  · unfold nm; rw [h1, h2]; rfl
  · unfold nm; rw [h1, h2]; rfl
  · unfold nm; rw [h1, h2]; rcases h3 with h3 | h3 <;> rw [h3] <;> rfl
theorem tk_nu {v : Mv} : v.alike nu := by
  rintro t u (⟨h1, h2, _⟩ | ⟨h1, h2 | ⟨h2, h3⟩ | ⟨h2, h3⟩⟩) <;> unfold nu <;> rw [h1]
  · rw [h2]
  · rw [h2]; rfl
  · rw [h2]; rfl
theorem tk_txt {v : Mv} {t u : Tok} (h : v.tk t u) : (u.1 == 3) = (t.1 == 3) := by
  rcases h with ⟨h1, h2, _⟩ | ⟨h1, h2 | ⟨h2, h3⟩ | ⟨h2, h3⟩⟩
  · rw [h1]
  · rw [h1, h2]
  · rw [h1, h2]; rfl
  · rw [h1, h2]; rfl
theorem tk_cn {v : Mv} : v.alike cn := by
  rintro t u (⟨h1, h2, _⟩ | ⟨h1, h2 | ⟨h2, h3⟩ | ⟨h2, h3⟩⟩)
  · unfold cn; rw [h1, h2]
  · unfold cn; rw [h1, h2]; rfl
  · unfold cn; rw [h1, h2]; rfl
  · unfold cn; rw [h1, h2]; rfl
theorem tk_typeW {v : Mv} : v.alike typeW := fun t u h => by unfold typeW; rw [tk_wd (by decide) t u h, tk_wd (by decide) t u h, tk_wd (by decide) t u h, tk_wd (by decide) t u h, tk_wd (by decide) t u h]
theorem tk_intW {v : Mv} : v.alike intW := fun t u h => by unfold intW; rw [tk_wd (by decide) t u h, tk_wd (by decide) t u h, tk_wd (by decide) t u h]
theorem tk_turnW {v : Mv} : v.alike turnW := fun t u h => by unfold turnW; rw [tk_wd (by decide) t u h, tk_wd (by decide) t u h, tk_wd (by decide) t u h]
theorem tk_signK {v : Mv} {t u : Tok} (h : v.tk t u) : signK u = signK t := by unfold signK; rw [tk_sg (by decide) t u h, tk_sg (by decide) t u h, tk_sg (by decide) t u h]
theorem tk_betw {v : Mv} {t u : Tok} (h : v.tk t u) : betw u = betw t := by
  rcases h with ⟨h1, h2, _⟩ | ⟨h1, h2 | ⟨h2, h3⟩ | ⟨h2, h3⟩⟩
  · unfold betw; rw [h1, h2]
  · unfold betw; rw [h1, h2]; rfl
  · unfold betw; rw [h1, h2, h3]; rfl
  · unfold betw; rw [h1, h2]; rfl
theorem tk_label {v : Mv} {s : St} : labelB v.E2 (v.ext s) = labelB v.E1 s := by
  have hf := tk_nm (v := v) _ _ (tk_nxt v s).1
  unfold labelB
  rw [hf]
  cases h : s.rest with
  | nil =>
    have e1 : nxt v.E1 s = (0, [], 0, v.E1, 0) := by simp [nxt, aheadT, h]
    rw [e1]; rfl
  | cons t r =>
    cases r with
    | cons t2 r =>
      have e1 : aheadT v.E1 s 1 = t2 := by simp [aheadT, h]
      have e2 : aheadT v.E2 (v.ext s) 1 = v.mt t2 := by simp [aheadT, Mv.ext, h]
      rw [e1, e2]
      unfold sg; rw [(v.hm t2).1, (v.hm t2).2.1]
    | nil =>
      have e1 : aheadT v.E1 s 1 = (0, [], 0, v.E1, 0) := by simp [aheadT, h]
      rw [e1]
      rcases v.hys with h1 | ⟨u, q, h1, h2⟩
      · have e2 : aheadT v.E2 (v.ext s) 1 = (0, [], 0, v.E2, 0) := by simp [aheadT, Mv.ext, h, h1]
        rw [e2]; rfl
      · have e2 : aheadT v.E2 (v.ext s) 1 = u := by simp [aheadT, Mv.ext, h, h1]
        rw [e2]
        have : sg [58] u = false := by
          unfold sg
          rcases h2 with h2 | ⟨h2, h3⟩ | ⟨h2, h3⟩
          · rw [h2]; rfl
          · rw [h2, h3]; rfl
          · rw [h2]; rfl
        rw [this]; rfl
theorem sm_deep {v : Mv} {A : Type} {V : A → A → Prop} {t u : Tok} {m1 m2 : P A} {s : St} (hb : Bs m1 0) (hk : Bs m2 0) (h : Sm v V m1 m2 s) : Sm v V (deeper t m1) (deeper u m2) s := by
  intro d a s' e hw a2 s2 e2
  unfold deeper deepS at e e2
  by_cases hd : d = 64
  · rw [if_pos hd] at e
    exfalso
    have h1 := (hb _ _ _ _ _ e).1
    by_cases hs : s.wrong = 0
    · have h2 : (failS t.2.2.2.1 41 s).wrong = 41 := by unfold failS; rw [if_pos hs]
      have := h1 (by rw [h2]; decide)
      rw [h2] at this; omega
    · rw [fail_keeps hs] at h1
      exact hs ((h1 hs).symm.trans hw)
  · rw [if_neg hd] at e
    by_cases hd2 : d + v.dl = 64
    · rw [if_pos hd2] at e2
      right
      refine ⟨?_, by omega⟩
      have hs : s.wrong = 0 := Classical.byContradiction fun n => n (((hb _ _ _ _ _ e).1 n).symm.trans hw)
      have h2 : (failS u.2.2.2.1 41 (v.ext s)).wrong = 41 := by unfold failS; rw [if_pos (show (v.ext s).wrong = 0 from hs)]
      have h3 := (hk _ _ _ _ _ e2).1 (by rw [h2]; decide)
      rw [h3, h2]
    · rw [if_neg hd2] at e2
      have e2' : m2 v.E2 (d + 1 + v.dl) (v.ext s) = some (a2, s2) := by rw [show d + 1 + v.dl = d + v.dl + 1 by omega]; exact e2
      exact h (d + 1) a s' e hw a2 s2 e2'
theorem sm_sg {v : Mv} {x : List Nat} {s : St} : Sm v v.ts (needW (sg x)) (needW (sg x)) s := sm_need (fun t => sg_live) fun t u => tk_sgT
theorem sm_nm {v : Mv} {s : St} : Sm v v.ts (needW nm) (needW nm) s := sm_need (fun t => nm_live) fun t u h q => by rw [tk_nm t u h]; exact q
theorem sm_nu {v : Mv} {s : St} : Sm v v.ts (needW nu) (needW nu) s := sm_need (fun t => nu_live) fun t u h q => by rw [tk_nu t u h]; exact q
/-- A reading that takes a token, where none is left. -/
theorem sm_dead {v : Mv} {A : Type} {V : A → A → Prop} {m1 m2 : P A} {s : St} (h : s.rest = []) (hb : Bs m1 1) : Sm v V m1 m2 s := by
  intro d a s' e hw
  obtain ⟨p, h1, h2⟩ := (hb _ _ _ _ _ e).2 hw
  rw [h] at h1
  have := (List.append_eq_nil_iff.1 h1.symm).1
  rw [this] at h2
  simp at h2
theorem sm_ref {v : Mv} {V : Tree → Tree → Prop} {m : P Tree} {s : St} : Sm v V refP m s := by
  rintro d _ _ ⟨⟩ hw
  exact absurd hw ref_wrong
theorem sim_within {v : Mv} {A : Type} {V : A → A → Prop} {x y : List Nat} {m1 m2 : P A} {s : St} (hb : Bs m1 0) (hk : Bs m2 0) (h : ∀ s, Sm v V m1 m2 s) : Sm v (fun a b => v.ts a.1 b.1 ∧ V a.2 b.2) (within x y m1) (within x y m2) s := by
  unfold within
  refine sb sm_sg (by repeat' (first | exact bs0_ret | exact bs0_take | exact bs0_ref | assumption | exact bs0_sg | exact bs0_nm | exact bs0_nu | apply bs0_bnd | apply bs0_look | apply bs0_within | apply bs0_deep | split | intro _)) (by repeat' (first | exact bs0_ret | exact bs0_take | exact bs0_ref | assumption | exact bs0_sg | exact bs0_nm | exact bs0_nu | apply bs0_bnd | apply bs0_look | apply bs0_within | apply bs0_deep | split | intro _)) fun t u s1 ht => ?_
  refine sb (sm_deep hb hk (h s1)) (by repeat' (first | exact bs0_ret | exact bs0_take | exact bs0_ref | assumption | exact bs0_sg | exact bs0_nm | exact bs0_nu | apply bs0_bnd | apply bs0_look | apply bs0_within | apply bs0_deep | split | intro _)) (by repeat' (first | exact bs0_ret | exact bs0_take | exact bs0_ref | assumption | exact bs0_sg | exact bs0_nm | exact bs0_nu | apply bs0_bnd | apply bs0_look | apply bs0_within | apply bs0_deep | split | intro _)) fun a b s2 hV => ?_
  exact sb sm_sg (by repeat' (first | exact bs0_ret | exact bs0_take | exact bs0_ref | assumption | exact bs0_sg | exact bs0_nm | exact bs0_nu | apply bs0_bnd | apply bs0_look | apply bs0_within | apply bs0_deep | split | intro _)) (by repeat' (first | exact bs0_ret | exact bs0_take | exact bs0_ref | assumption | exact bs0_sg | exact bs0_nm | exact bs0_nu | apply bs0_bnd | apply bs0_look | apply bs0_within | apply bs0_deep | split | intro _)) fun _ _ s3 _ => sm_ret ⟨ht, hV⟩
theorem sim_listL {v : Mv} {part : P Tree} (hp : Sim v v.tr part part) (hb : Bs part 0) : ∀ (f : Nat) (acc acc' : List Tree), v.tl acc acc' → Sim v v.tl (listL part f acc) (listL part f acc') := by
  intro f
  induction f with
  | zero => intro acc acc' h s d a s' e; cases e
  | succ f ih =>
    intro acc acc' h s
    unfold listL
    refine sm_look fun ht => sm_ite (by rw [tk_sg (by decide) _ _ ht]) (fun hc => ?_) (fun _ => sm_ret h)
    refine sb (sm_take (sg_live hc)) (by repeat' (first | exact bs0_ret | exact bs0_take | exact bs0_ref | assumption | exact bs0_sg | exact bs0_nm | exact bs0_nu | exact bs_listL hb _ _ | apply bs0_bnd | apply bs0_look | apply bs0_within | apply bs0_deep | split | intro _)) (by repeat' (first | exact bs0_ret | exact bs0_take | exact bs0_ref | assumption | exact bs0_sg | exact bs0_nm | exact bs0_nu | exact bs_listL hb _ _ | apply bs0_bnd | apply bs0_look | apply bs0_within | apply bs0_deep | split | intro _)) fun _ _ s1 _ => ?_
    exact sb (hp s1) (by repeat' (first | exact bs0_ret | exact bs0_take | exact bs0_ref | assumption | exact bs0_sg | exact bs0_nm | exact bs0_nu | exact bs_listL hb _ _ | apply bs0_bnd | apply bs0_look | apply bs0_within | apply bs0_deep | split | intro _)) (by repeat' (first | exact bs0_ret | exact bs0_take | exact bs0_ref | assumption | exact bs0_sg | exact bs0_nm | exact bs0_nu | exact bs_listL hb _ _ | apply bs0_bnd | apply bs0_look | apply bs0_within | apply bs0_deep | split | intro _)) fun n n' s2 hn => ih _ _ (tl_snoc h hn) s2
theorem sim_listP {v : Mv} {part : P Tree} (hp : Sim v v.tr part part) (hb : Bs part 0) (f : Nat) : Sim v v.tl (listP f part) (listP f part) := by
  intro s
  unfold listP
  exact sb (hp s) (by repeat' (first | exact bs0_ret | exact bs0_take | exact bs0_ref | assumption | exact bs0_sg | exact bs0_nm | exact bs0_nu | exact bs_listL hb _ _ | apply bs0_bnd | apply bs0_look | apply bs0_within | apply bs0_deep | split | intro _)) (by repeat' (first | exact bs0_ret | exact bs0_take | exact bs0_ref | assumption | exact bs0_sg | exact bs0_nm | exact bs0_nu | exact bs_listL hb _ _ | apply bs0_bnd | apply bs0_look | apply bs0_within | apply bs0_deep | split | intro _)) fun n n' s2 hn => sim_listL hp hb f _ _ (tl_cons hn tl_nil) s2
theorem sim_perhaps {v : Mv} {part : P Tree} (hp : Sim v v.tr part part) (hb : Bs part 0) (hb1 : Bs part 1) (f : Nat) : Sim v v.tl (perhaps f part) (perhaps f part) := by
  intro s
  unfold perhaps
  refine sb (V := fun a b => v.ts a.1 b.1 ∧ v.tl a.2 b.2) (sim_within (by repeat' (first | exact bs0_ret | exact bs0_take | exact bs0_ref | assumption | exact bs0_sg | exact bs0_nm | exact bs0_nu | exact bs_listP hb f | apply bs0_bnd | apply bs0_look | apply bs0_within | apply bs0_deep | split | intro _)) (by repeat' (first | exact bs0_ret | exact bs0_take | exact bs0_ref | assumption | exact bs0_sg | exact bs0_nm | exact bs0_nu | exact bs_listP hb f | apply bs0_bnd | apply bs0_look | apply bs0_within | apply bs0_deep | split | intro _)) fun s => ?_) (by repeat' (first | exact bs0_ret | exact bs0_take | exact bs0_ref | assumption | exact bs0_sg | exact bs0_nm | exact bs0_nu | apply bs0_bnd | apply bs0_look | apply bs0_within | apply bs0_deep | split | intro _)) (by repeat' (first | exact bs0_ret | exact bs0_take | exact bs0_ref | assumption | exact bs0_sg | exact bs0_nm | exact bs0_nu | apply bs0_bnd | apply bs0_look | apply bs0_within | apply bs0_deep | split | intro _)) fun a b s2 hn => sm_ret hn.2
  refine sm_look fun ht => ?_
  by_cases hc : sg [41] (nxt v.E1 s) = true
  · rw [if_pos hc, if_pos (tk_sgT ht hc)]; exact sm_ret tl_nil
  · rw [if_neg hc]
    by_cases hr : s.rest = []
    · exact sm_dead hr (bs_listP hb1 f)
    · rw [if_neg (fun q => hc (by
        have := (tk_nxt v s).2.resolve_right hr
        unfold sg at q ⊢
        rw [this.1, this.2.1] at q; exact q))]
      exact sim_listP hp hb f s
theorem sim_typeP {v : Mv} {rec : P Tree} (hp : Sim v v.tr rec rec) (hb : Bs rec 0) : Sim v v.tr (typeP rec) (typeP rec) := by
  intro s
  unfold typeP
  refine sm_look fun ht => sm_ite (by rw [tk_nm _ _ ht, tk_typeW _ _ ht]) (fun hc => ?_) (fun _ => sm_ite (by rw [tk_sg (by decide) _ _ ht]) (fun hc => ?_) (fun _ => sm_ref))
  · have hn : (nxt v.E1 s).1 ≠ 0 := by rcases Bool.or_eq_true_iff.1 hc with h | h; exact nm_live h; exact typeW_live h
    refine sb (sm_take hn) (by repeat' (first | exact bs0_ret | exact bs0_take | exact bs0_ref | assumption | exact bs0_sg | exact bs0_nm | exact bs0_nu | apply bs0_bnd | apply bs0_look | apply bs0_within | apply bs0_deep | split | intro _)) (by repeat' (first | exact bs0_ret | exact bs0_take | exact bs0_ref | assumption | exact bs0_sg | exact bs0_nm | exact bs0_nu | apply bs0_bnd | apply bs0_look | apply bs0_within | apply bs0_deep | split | intro _)) fun a b s1 h => ?_
    rw [h.2.1]
    exact sm_ret (tr_mk h.2.2.2 tl_nil)
  · refine sb (V := fun a b => v.ts a.1 b.1 ∧ b.2 = a.2) (sim_within (V := fun (a b : Nat × Nat) => b = a) ?_ ?_ fun s => ?_) (by repeat' (first | exact bs0_ret | exact bs0_take | exact bs0_ref | assumption | exact bs0_sg | exact bs0_nm | exact bs0_nu | apply bs0_bnd | apply bs0_look | apply bs0_within | apply bs0_deep | split | intro _)) (by repeat' (first | exact bs0_ret | exact bs0_take | exact bs0_ref | assumption | exact bs0_sg | exact bs0_nm | exact bs0_nu | apply bs0_bnd | apply bs0_look | apply bs0_within | apply bs0_deep | split | intro _)) fun a b s2 hn => ?_
    · exact (by repeat' (first | exact bs0_ret | exact bs0_take | exact bs0_ref | assumption | exact bs0_sg | exact bs0_nm | exact bs0_nu | apply bs0_bnd | apply bs0_look | apply bs0_within | apply bs0_deep | split | intro _))
    · exact (by repeat' (first | exact bs0_ret | exact bs0_take | exact bs0_ref | assumption | exact bs0_sg | exact bs0_nm | exact bs0_nu | apply bs0_bnd | apply bs0_look | apply bs0_within | apply bs0_deep | split | intro _))
    · refine sm_look fun ht => sm_ite (by rw [tk_cn _ _ ht]) (fun hc => ?_) (fun _ => sm_ret rfl)
      refine sb (sm_take (cn_live hc)) (by repeat' (first | exact bs0_ret | exact bs0_take | exact bs0_ref | assumption | exact bs0_sg | exact bs0_nm | exact bs0_nu | apply bs0_bnd | apply bs0_look | apply bs0_within | apply bs0_deep | split | intro _)) (by repeat' (first | exact bs0_ret | exact bs0_take | exact bs0_ref | assumption | exact bs0_sg | exact bs0_nm | exact bs0_nu | apply bs0_bnd | apply bs0_look | apply bs0_within | apply bs0_deep | split | intro _)) fun a b s1 h => ?_
      exact sm_ret (by rw [h.2.2.1])
    · obtain ⟨h1, h2⟩ := hn
      rw [h2]
      exact sb (sm_deep hb hb (hp s2)) (by repeat' (first | exact bs0_ret | exact bs0_take | exact bs0_ref | assumption | exact bs0_sg | exact bs0_nm | exact bs0_nu | apply bs0_bnd | apply bs0_look | apply bs0_within | apply bs0_deep | split | intro _)) (by repeat' (first | exact bs0_ret | exact bs0_take | exact bs0_ref | assumption | exact bs0_sg | exact bs0_nm | exact bs0_nu | apply bs0_bnd | apply bs0_look | apply bs0_within | apply bs0_deep | split | intro _)) fun k k' s3 hk => sm_ret (tr_mk h1.2.2.2 (tl_cons hk tl_nil))
theorem sim_lineL {v : Mv} {k : Nat} {next : P Tree} (hp : Sim v v.tr next next) (hb : Bs next 0) : ∀ (f : Nat) (n n' : Tree), v.tr n n' → Sim v v.tr (lineL k next f n) (lineL k next f n') := by
  intro f
  induction f with
  | zero => intro n n' h s d a s' e; cases e
  | succ f ih =>
    intro n n' h s
    unfold lineL
    refine sm_look fun ht => sm_ite (by rw [tk_betw ht]) (fun _ => sm_ret h) (fun hc => ?_)
    have hn : (nxt v.E1 s).1 ≠ 0 := by
      intro q
      apply hc
      left
      unfold betw
      rw [q]; rfl
    refine sb (sm_take hn) (by repeat' (first | exact bs0_ret | exact bs0_take | exact bs0_ref | assumption | exact bs0_sg | exact bs0_nm | exact bs0_nu | exact bs_lineL hb _ _ | apply bs0_bnd | apply bs0_look | apply bs0_within | apply bs0_deep | split | intro _)) (by repeat' (first | exact bs0_ret | exact bs0_take | exact bs0_ref | assumption | exact bs0_sg | exact bs0_nm | exact bs0_nu | exact bs_lineL hb _ _ | apply bs0_bnd | apply bs0_look | apply bs0_within | apply bs0_deep | split | intro _)) fun a b s1 h1 => ?_
    have hbt : betw b = betw a := by unfold betw; rw [h1.1, h1.2.1]
    refine sb (hp s1) (by repeat' (first | exact bs0_ret | exact bs0_take | exact bs0_ref | assumption | exact bs0_sg | exact bs0_nm | exact bs0_nu | exact bs_lineL hb _ _ | apply bs0_bnd | apply bs0_look | apply bs0_within | apply bs0_deep | split | intro _)) (by repeat' (first | exact bs0_ret | exact bs0_take | exact bs0_ref | assumption | exact bs0_sg | exact bs0_nm | exact bs0_nu | exact bs_lineL hb _ _ | apply bs0_bnd | apply bs0_look | apply bs0_within | apply bs0_deep | split | intro _)) fun m m' s2 hm => ?_
    rw [hbt]
    exact sm_ite Iff.rfl (fun _ => sm_ret (tr_mk h1.2.2.2 (tl_cons h (tl_cons hm tl_nil)))) (fun _ => ih _ _ (tr_mk h1.2.2.2 (tl_cons h (tl_cons hm tl_nil))) s2)
theorem sim_lineP {v : Mv} {unary : P Tree} (hp : Sim v v.tr unary unary) (hb : Bs unary 0) (f : Nat) : ∀ j : Nat, Sim v v.tr (lineP unary f j) (lineP unary f j) := by
  intro j
  induction j with
  | zero => exact hp
  | succ j ih =>
    intro s
    unfold lineP
    exact sb (ih s) (by repeat' (first | exact bs0_ret | exact bs0_take | exact bs0_ref | assumption | exact bs0_sg | exact bs0_nm | exact bs0_nu | exact bs_lineL (bs_lineP hb f j) _ _ | apply bs0_bnd | apply bs0_look | apply bs0_within | apply bs0_deep | split | intro _)) (by repeat' (first | exact bs0_ret | exact bs0_take | exact bs0_ref | assumption | exact bs0_sg | exact bs0_nm | exact bs0_nu | exact bs_lineL (bs_lineP hb f j) _ _ | apply bs0_bnd | apply bs0_look | apply bs0_within | apply bs0_deep | split | intro _)) fun n n' s2 hn => sim_lineL ih (bs_lineP hb f j) f _ _ hn s2
theorem sim_tailsL {v : Mv} {expr : P Tree} (hp : Sim v v.tr expr expr) (hb : Bs expr 0) : ∀ (f : Nat) (n n' : Tree), v.tr n n' → Sim v v.tr (tailsL expr f n) (tailsL expr f n') := by
  intro f
  induction f with
  | zero => intro n n' h s d a s' e; cases e
  | succ f ih =>
    intro n n' h s
    unfold tailsL
    refine sm_look fun ht => sm_ite (by rw [tk_sg (by decide) _ _ ht]) (fun hc => ?_) (fun _ => sm_ite (by rw [tk_sg (by decide) _ _ ht]) (fun hc => ?_) (fun _ => sm_ret h))
    · refine sb (sm_take (sg_live hc)) (by repeat' (first | exact bs0_ret | exact bs0_take | exact bs0_ref | assumption | exact bs0_sg | exact bs0_nm | exact bs0_nu | exact bs_tailsL hb _ _ | apply bs0_bnd | apply bs0_look | apply bs0_within | apply bs0_deep | split | intro _)) (by repeat' (first | exact bs0_ret | exact bs0_take | exact bs0_ref | assumption | exact bs0_sg | exact bs0_nm | exact bs0_nu | exact bs_tailsL hb _ _ | apply bs0_bnd | apply bs0_look | apply bs0_within | apply bs0_deep | split | intro _)) fun _ _ s1 _ => ?_
      refine sb sm_nm (by repeat' (first | exact bs0_ret | exact bs0_take | exact bs0_ref | assumption | exact bs0_sg | exact bs0_nm | exact bs0_nu | exact bs_tailsL hb _ _ | apply bs0_bnd | apply bs0_look | apply bs0_within | apply bs0_deep | split | intro _)) (by repeat' (first | exact bs0_ret | exact bs0_take | exact bs0_ref | assumption | exact bs0_sg | exact bs0_nm | exact bs0_nu | exact bs_tailsL hb _ _ | apply bs0_bnd | apply bs0_look | apply bs0_within | apply bs0_deep | split | intro _)) fun a b s2 h1 => ?_
      rw [h1.2.1]
      exact ih _ _ (tr_mk h1.2.2.2 (tl_cons h tl_nil)) s2
    · refine sb (sim_within hb hb hp) (by repeat' (first | exact bs0_ret | exact bs0_take | exact bs0_ref | assumption | exact bs0_sg | exact bs0_nm | exact bs0_nu | exact bs_tailsL hb _ _ | apply bs0_bnd | apply bs0_look | apply bs0_within | apply bs0_deep | split | intro _)) (by repeat' (first | exact bs0_ret | exact bs0_take | exact bs0_ref | assumption | exact bs0_sg | exact bs0_nm | exact bs0_nu | exact bs_tailsL hb _ _ | apply bs0_bnd | apply bs0_look | apply bs0_within | apply bs0_deep | split | intro _)) fun a b s2 hn => ?_
      exact ih _ _ (tr_mk hn.1.2.2.2 (tl_cons h (tl_cons hn.2 tl_nil))) s2
theorem sim_whole {v : Mv}  : Sim v v.tr wholeP wholeP := by
  intro s
  unfold wholeP
  refine sb sm_nu (by repeat' (first | exact bs0_ret | exact bs0_take | exact bs0_ref | assumption | exact bs0_sg | exact bs0_nm | exact bs0_nu | apply bs0_bnd | apply bs0_look | apply bs0_within | apply bs0_deep | split | intro _)) (by repeat' (first | exact bs0_ret | exact bs0_take | exact bs0_ref | assumption | exact bs0_sg | exact bs0_nm | exact bs0_nu | apply bs0_bnd | apply bs0_look | apply bs0_within | apply bs0_deep | split | intro _)) fun a b s1 h => ?_
  rw [h.2.1, h.2.2.1]
  exact sm_ret (tr_mk h.2.2.2 tl_nil)
theorem sim_used {v : Mv}  : Sim v v.tr usedP usedP := by
  intro s
  unfold usedP
  refine sb sm_nm (by repeat' (first | exact bs0_ret | exact bs0_take | exact bs0_ref | assumption | exact bs0_sg | exact bs0_nm | exact bs0_nu | apply bs0_bnd | apply bs0_look | apply bs0_within | apply bs0_deep | split | intro _)) (by repeat' (first | exact bs0_ret | exact bs0_take | exact bs0_ref | assumption | exact bs0_sg | exact bs0_nm | exact bs0_nu | apply bs0_bnd | apply bs0_look | apply bs0_within | apply bs0_deep | split | intro _)) fun a b s1 h => ?_
  rw [h.2.1]
  exact sm_ret (tr_mk h.2.2.2 tl_nil)
theorem sim_new {v : Mv}  : Sim v v.tr newP newP := by
  intro s
  unfold newP
  refine sb sm_nm (by repeat' (first | exact bs0_ret | exact bs0_take | exact bs0_ref | assumption | exact bs0_sg | exact bs0_nm | exact bs0_nu | apply bs0_bnd | apply bs0_look | apply bs0_within | apply bs0_deep | split | intro _)) (by repeat' (first | exact bs0_ret | exact bs0_take | exact bs0_ref | assumption | exact bs0_sg | exact bs0_nm | exact bs0_nu | apply bs0_bnd | apply bs0_look | apply bs0_within | apply bs0_deep | split | intro _)) fun a b s1 h => ?_
  rw [h.2.1]
  exact sm_ret (tr_mk h.2.2.2 tl_nil)
theorem sim_call {v : Mv} {expr : P Tree} (hp : Sim v v.tr expr expr) (hb : Bs expr 0) (hb1 : Bs expr 1) (f : Nat) : Sim v v.tr (callP f expr) (callP f expr) := by
  intro s
  unfold callP
  refine sb (sim_used s) (by repeat' (first | exact bs0_ret | exact bs0_take | exact bs0_ref | assumption | exact bs0_sg | exact bs0_nm | exact bs0_nu | exact Bs.le (bs_perhaps hb f) (Nat.zero_le _) | apply bs0_bnd | apply bs0_look | apply bs0_within | apply bs0_deep | split | intro _)) (by repeat' (first | exact bs0_ret | exact bs0_take | exact bs0_ref | assumption | exact bs0_sg | exact bs0_nm | exact bs0_nu | exact Bs.le (bs_perhaps hb f) (Nat.zero_le _) | apply bs0_bnd | apply bs0_look | apply bs0_within | apply bs0_deep | split | intro _)) fun n n' s1 h => ?_
  obtain ⟨h1, h2, h3, h4, h5⟩ := tr_parts h
  refine sm_look fun ht => sm_ite (by rw [tk_sg (by decide) _ _ ht]) (fun hc => ?_) (fun _ => sm_ret h)
  refine sb (sim_perhaps hp hb hb1 f s1) (by repeat' (first | exact bs0_ret | exact bs0_take | exact bs0_ref | assumption | exact bs0_sg | exact bs0_nm | exact bs0_nu | exact Bs.le (bs_perhaps hb f) (Nat.zero_le _) | apply bs0_bnd | apply bs0_look | apply bs0_within | apply bs0_deep | split | intro _)) (by repeat' (first | exact bs0_ret | exact bs0_take | exact bs0_ref | assumption | exact bs0_sg | exact bs0_nm | exact bs0_nu | exact Bs.le (bs_perhaps hb f) (Nat.zero_le _) | apply bs0_bnd | apply bs0_look | apply bs0_within | apply bs0_deep | split | intro _)) fun l l' s2 hl => ?_
  rw [h3, h4]
  exact sm_ret (tr_mk h2 hl)
theorem sim_valsL {v : Mv} {expr : P Tree} (hp : Sim v v.tr expr expr) (hb : Bs expr 0) : ∀ (k i : Nat) (acc acc' : List Tree), v.tl acc acc' → Sim v v.tl (valsL expr k i acc) (valsL expr k i acc') := by
  intro k
  induction k with
  | zero => intro i acc acc' h s; exact sm_ret h
  | succ k ih =>
    intro i acc acc' h s
    unfold valsL
    refine sm_ite Iff.rfl (fun _ => ?_) (fun _ => ?_)
    · refine sb sm_sg (by repeat' (first | exact bs0_ret | exact bs0_take | exact bs0_ref | assumption | exact bs0_sg | exact bs0_nm | exact bs0_nu | exact bs_valsL hb _ _ _ | apply bs0_bnd | apply bs0_look | apply bs0_within | apply bs0_deep | split | intro _)) (by repeat' (first | exact bs0_ret | exact bs0_take | exact bs0_ref | assumption | exact bs0_sg | exact bs0_nm | exact bs0_nu | exact bs_valsL hb _ _ _ | apply bs0_bnd | apply bs0_look | apply bs0_within | apply bs0_deep | split | intro _)) fun _ _ s1 _ => ?_
      exact sb (hp s1) (by repeat' (first | exact bs0_ret | exact bs0_take | exact bs0_ref | assumption | exact bs0_sg | exact bs0_nm | exact bs0_nu | exact bs_valsL hb _ _ _ | apply bs0_bnd | apply bs0_look | apply bs0_within | apply bs0_deep | split | intro _)) (by repeat' (first | exact bs0_ret | exact bs0_take | exact bs0_ref | assumption | exact bs0_sg | exact bs0_nm | exact bs0_nu | exact bs_valsL hb _ _ _ | apply bs0_bnd | apply bs0_look | apply bs0_within | apply bs0_deep | split | intro _)) fun n n' s2 hn => ih _ _ _ (tl_snoc h hn) s2
    · exact sb (hp s) (by repeat' (first | exact bs0_ret | exact bs0_take | exact bs0_ref | assumption | exact bs0_sg | exact bs0_nm | exact bs0_nu | exact bs_valsL hb _ _ _ | apply bs0_bnd | apply bs0_look | apply bs0_within | apply bs0_deep | split | intro _)) (by repeat' (first | exact bs0_ret | exact bs0_take | exact bs0_ref | assumption | exact bs0_sg | exact bs0_nm | exact bs0_nu | exact bs_valsL hb _ _ _ | apply bs0_bnd | apply bs0_look | apply bs0_within | apply bs0_deep | split | intro _)) fun n n' s2 hn => ih _ _ _ (tl_snoc h hn) s2
theorem sim_with {v : Mv} {expr : P Tree} (hp : Sim v v.tr expr expr) (hb : Bs expr 0) (k n : Nat) {s : St} (hn : (nxt v.E1 s).1 ≠ 0) : Sm v v.tr (withP expr k n) (withP expr k n) s := by
  unfold withP
  refine sb (sm_take hn) (by repeat' (first | exact bs0_ret | exact bs0_take | exact bs0_ref | assumption | exact bs0_sg | exact bs0_nm | exact bs0_nu | exact bs_valsL hb _ _ _ | apply bs0_bnd | apply bs0_look | apply bs0_within | apply bs0_deep | split | intro _)) (by repeat' (first | exact bs0_ret | exact bs0_take | exact bs0_ref | assumption | exact bs0_sg | exact bs0_nm | exact bs0_nu | exact bs_valsL hb _ _ _ | apply bs0_bnd | apply bs0_look | apply bs0_within | apply bs0_deep | split | intro _)) fun a b s1 h => ?_
  exact sb (sim_within (bs_valsL hb _ _ _) (bs_valsL hb _ _ _) (sim_valsL hp hb n 0 [] [] tl_nil)) (by repeat' (first | exact bs0_ret | exact bs0_take | exact bs0_ref | assumption | exact bs0_sg | exact bs0_nm | exact bs0_nu | exact bs_valsL hb _ _ _ | apply bs0_bnd | apply bs0_look | apply bs0_within | apply bs0_deep | split | intro _)) (by repeat' (first | exact bs0_ret | exact bs0_take | exact bs0_ref | assumption | exact bs0_sg | exact bs0_nm | exact bs0_nu | exact bs_valsL hb _ _ _ | apply bs0_bnd | apply bs0_look | apply bs0_within | apply bs0_deep | split | intro _)) fun x y s2 hx => sm_ret (tr_mk h.2.2.2 hx.2)
theorem sim_given {v : Mv} {expr : P Tree} (hp : Sim v v.tr expr expr) (hb : Bs expr 0) (hb1 : Bs expr 1) (f : Nat) : Sim v v.tr (givenP f expr) (givenP f expr) := by
  intro s
  unfold givenP
  refine sm_look fun ht => sm_ite (by rw [tk_intW _ _ ht]) (fun hc => ?_) (fun _ => ?_)
  · have hn := intW_live hc
    refine sb (sim_with hp hb 46 1 hn) (by repeat' (first | exact bs0_ret | exact bs0_take | exact bs0_ref | assumption | exact bs0_sg | exact bs0_nm | exact bs0_nu | apply bs0_bnd | apply bs0_look | apply bs0_within | apply bs0_deep | split | intro _)) (by repeat' (first | exact bs0_ret | exact bs0_take | exact bs0_ref | assumption | exact bs0_sg | exact bs0_nm | exact bs0_nu | apply bs0_bnd | apply bs0_look | apply bs0_within | apply bs0_deep | split | intro _)) fun a b s1 h => ?_
    obtain ⟨h1, h2, h3, h4, h5⟩ := tr_parts h
    rw [h1, h4, (tk_live ht hn).2.1]
    exact sm_ret (tr_mk h2 h5)
  refine sm_ite (by rw [tk_wd (by decide) _ _ ht]) (fun hc => sim_with hp hb _ _ (wd_live hc)) (fun _ => ?_)
  refine sm_ite (by rw [tk_wd (by decide) _ _ ht]) (fun hc => sim_with hp hb _ _ (wd_live hc)) (fun _ => ?_)
  refine sm_ite (by rw [tk_wd (by decide) _ _ ht]) (fun hc => sim_with hp hb _ _ (wd_live hc)) (fun _ => ?_)
  refine sm_ite (by rw [tk_wd (by decide) _ _ ht]) (fun hc => sim_with hp hb _ _ (wd_live hc)) (fun _ => ?_)
  exact sim_call hp hb hb1 f s
theorem sim_primary {v : Mv} {typ expr : P Tree} (hq : Sim v v.tr typ typ) (hc : Bs typ 0) (hp : Sim v v.tr expr expr) (hb : Bs expr 0) (hb1 : Bs expr 1) (f : Nat) : Sim v v.tr (primaryP f typ expr) (primaryP f typ expr) := by
  intro s
  unfold primaryP
  refine sm_look fun ht => sm_ite (by rw [tk_nu _ _ ht]) (fun _ => sim_whole s) (fun _ => ?_)
  refine sm_ite (by rw [tk_txt ht]) (fun hq => ?_) (fun _ => ?_)
  · have hn : (nxt v.E1 s).1 ≠ 0 := by intro q; rw [q] at hq; simp at hq
    refine sb (sm_take hn) (by repeat' (first | exact bs0_ret | exact bs0_take | exact bs0_ref | assumption | exact bs0_sg | exact bs0_nm | exact bs0_nu | apply bs0_bnd | apply bs0_look | apply bs0_within | apply bs0_deep | split | intro _)) (by repeat' (first | exact bs0_ret | exact bs0_take | exact bs0_ref | assumption | exact bs0_sg | exact bs0_nm | exact bs0_nu | apply bs0_bnd | apply bs0_look | apply bs0_within | apply bs0_deep | split | intro _)) fun a b s1 h => ?_
    rw [h.2.1]
    exact sm_ret (tr_mk h.2.2.2 tl_nil)
  refine sm_ite (by rw [tk_sg (by decide) _ _ ht]) (fun _ => sb (sim_within hb hb hp) (by repeat' (first | exact bs0_ret | exact bs0_take | exact bs0_ref | assumption | exact bs0_sg | exact bs0_nm | exact bs0_nu | apply bs0_bnd | apply bs0_look | apply bs0_within | apply bs0_deep | split | intro _)) (by repeat' (first | exact bs0_ret | exact bs0_take | exact bs0_ref | assumption | exact bs0_sg | exact bs0_nm | exact bs0_nu | apply bs0_bnd | apply bs0_look | apply bs0_within | apply bs0_deep | split | intro _)) fun a b s2 h => sm_ret h.2) (fun _ => ?_)
  refine sm_ite (by rw [tk_wd (by decide) _ _ ht]) (fun hq => sb (sm_take (wd_live hq)) (by repeat' (first | exact bs0_ret | exact bs0_take | exact bs0_ref | assumption | exact bs0_sg | exact bs0_nm | exact bs0_nu | apply bs0_bnd | apply bs0_look | apply bs0_within | apply bs0_deep | split | intro _)) (by repeat' (first | exact bs0_ret | exact bs0_take | exact bs0_ref | assumption | exact bs0_sg | exact bs0_nm | exact bs0_nu | apply bs0_bnd | apply bs0_look | apply bs0_within | apply bs0_deep | split | intro _)) fun a b s1 h => sm_ret (tr_mk h.2.2.2 tl_nil)) (fun _ => ?_)
  refine sm_ite (by rw [tk_wd (by decide) _ _ ht]) (fun hq => sb (sm_take (wd_live hq)) (by repeat' (first | exact bs0_ret | exact bs0_take | exact bs0_ref | assumption | exact bs0_sg | exact bs0_nm | exact bs0_nu | apply bs0_bnd | apply bs0_look | apply bs0_within | apply bs0_deep | split | intro _)) (by repeat' (first | exact bs0_ret | exact bs0_take | exact bs0_ref | assumption | exact bs0_sg | exact bs0_nm | exact bs0_nu | apply bs0_bnd | apply bs0_look | apply bs0_within | apply bs0_deep | split | intro _)) fun a b s1 h => sm_ret (tr_mk h.2.2.2 tl_nil)) (fun _ => ?_)
  refine sm_ite (by rw [tk_wd (by decide) _ _ ht]) (fun hq' => ?_) (fun _ => sim_given hp hb hb1 f s)
  refine sb (sm_take (wd_live hq')) (by repeat' (first | exact bs0_ret | exact bs0_take | exact bs0_ref | assumption | exact bs0_sg | exact bs0_nm | exact bs0_nu | exact Bs.le (bs_perhaps hb f) (Nat.zero_le _) | apply bs0_bnd | apply bs0_look | apply bs0_within | apply bs0_deep | split | intro _)) (by repeat' (first | exact bs0_ret | exact bs0_take | exact bs0_ref | assumption | exact bs0_sg | exact bs0_nm | exact bs0_nu | exact Bs.le (bs_perhaps hb f) (Nat.zero_le _) | apply bs0_bnd | apply bs0_look | apply bs0_within | apply bs0_deep | split | intro _)) fun a b s1 h => ?_
  refine sb (hq s1) (by repeat' (first | exact bs0_ret | exact bs0_take | exact bs0_ref | assumption | exact bs0_sg | exact bs0_nm | exact bs0_nu | exact Bs.le (bs_perhaps hb f) (Nat.zero_le _) | apply bs0_bnd | apply bs0_look | apply bs0_within | apply bs0_deep | split | intro _)) (by repeat' (first | exact bs0_ret | exact bs0_take | exact bs0_ref | assumption | exact bs0_sg | exact bs0_nm | exact bs0_nu | exact Bs.le (bs_perhaps hb f) (Nat.zero_le _) | apply bs0_bnd | apply bs0_look | apply bs0_within | apply bs0_deep | split | intro _)) fun k k' s2 hk => ?_
  exact sb (sim_perhaps hp hb hb1 f s2) (by repeat' (first | exact bs0_ret | exact bs0_take | exact bs0_ref | assumption | exact bs0_sg | exact bs0_nm | exact bs0_nu | exact Bs.le (bs_perhaps hb f) (Nat.zero_le _) | apply bs0_bnd | apply bs0_look | apply bs0_within | apply bs0_deep | split | intro _)) (by repeat' (first | exact bs0_ret | exact bs0_take | exact bs0_ref | assumption | exact bs0_sg | exact bs0_nm | exact bs0_nu | exact Bs.le (bs_perhaps hb f) (Nat.zero_le _) | apply bs0_bnd | apply bs0_look | apply bs0_within | apply bs0_deep | split | intro _)) fun l l' s3 hl => sm_ret (tr_mk h.2.2.2 (tl_cons hk hl))
theorem sim_unary {v : Mv} {rec typ expr : P Tree} (hr : Sim v v.tr rec rec) (hd : Bs rec 0) (hq : Sim v v.tr typ typ) (hc : Bs typ 0) (hp : Sim v v.tr expr expr) (hb : Bs expr 0) (hb1 : Bs expr 1) (f : Nat) : Sim v v.tr (unaryP f rec typ expr) (unaryP f rec typ expr) := by
  intro s
  unfold unaryP
  refine sm_look fun ht => sm_ite (by rw [tk_signK ht]) (fun _ => ?_) (fun h0 => ?_)
  · exact sb (sim_primary hq hc hp hb hb1 f s) (by repeat' (first | exact bs0_ret | exact bs0_take | exact bs0_ref | assumption | exact bs0_sg | exact bs0_nm | exact bs0_nu | exact bs_tailsL hb f _ | apply bs0_bnd | apply bs0_look | apply bs0_within | apply bs0_deep | split | intro _)) (by repeat' (first | exact bs0_ret | exact bs0_take | exact bs0_ref | assumption | exact bs0_sg | exact bs0_nm | exact bs0_nu | exact bs_tailsL hb f _ | apply bs0_bnd | apply bs0_look | apply bs0_within | apply bs0_deep | split | intro _)) fun n n' s1 hn => sim_tailsL hp hb f _ _ hn s1
  · have hn : (nxt v.E1 s).1 ≠ 0 := by
      intro q
      apply h0
      unfold signK sg
      rw [q]; rfl
    rw [tk_signK ht]
    refine sb (sm_take hn) (by repeat' (first | exact bs0_ret | exact bs0_take | exact bs0_ref | assumption | exact bs0_sg | exact bs0_nm | exact bs0_nu | exact bs_tailsL hb f _ | apply bs0_bnd | apply bs0_look | apply bs0_within | apply bs0_deep | split | intro _)) (by repeat' (first | exact bs0_ret | exact bs0_take | exact bs0_ref | assumption | exact bs0_sg | exact bs0_nm | exact bs0_nu | exact bs_tailsL hb f _ | apply bs0_bnd | apply bs0_look | apply bs0_within | apply bs0_deep | split | intro _)) fun a b s1 h => ?_
    exact sb (sm_deep hd hd (hr s1)) (by repeat' (first | exact bs0_ret | exact bs0_take | exact bs0_ref | assumption | exact bs0_sg | exact bs0_nm | exact bs0_nu | exact bs_tailsL hb f _ | apply bs0_bnd | apply bs0_look | apply bs0_within | apply bs0_deep | split | intro _)) (by repeat' (first | exact bs0_ret | exact bs0_take | exact bs0_ref | assumption | exact bs0_sg | exact bs0_nm | exact bs0_nu | exact bs_tailsL hb f _ | apply bs0_bnd | apply bs0_look | apply bs0_within | apply bs0_deep | split | intro _)) fun n n' s2 hn => sm_ret (tr_mk h.2.2.2 (tl_cons hn tl_nil))
theorem sim_field {v : Mv} {typ : P Tree} (hq : Sim v v.tr typ typ) (hc : Bs typ 0) : Sim v v.tr (fieldP typ) (fieldP typ) := by
  intro s
  unfold fieldP
  refine sb sm_nm (by repeat' (first | exact bs0_ret | exact bs0_take | exact bs0_ref | assumption | exact bs0_sg | exact bs0_nm | exact bs0_nu | apply bs0_bnd | apply bs0_look | apply bs0_within | apply bs0_deep | split | intro _)) (by repeat' (first | exact bs0_ret | exact bs0_take | exact bs0_ref | assumption | exact bs0_sg | exact bs0_nm | exact bs0_nu | apply bs0_bnd | apply bs0_look | apply bs0_within | apply bs0_deep | split | intro _)) fun a b s1 h => ?_
  refine sb (hq s1) (by repeat' (first | exact bs0_ret | exact bs0_take | exact bs0_ref | assumption | exact bs0_sg | exact bs0_nm | exact bs0_nu | apply bs0_bnd | apply bs0_look | apply bs0_within | apply bs0_deep | split | intro _)) (by repeat' (first | exact bs0_ret | exact bs0_take | exact bs0_ref | assumption | exact bs0_sg | exact bs0_nm | exact bs0_nu | apply bs0_bnd | apply bs0_look | apply bs0_within | apply bs0_deep | split | intro _)) fun k k' s2 hk => ?_
  rw [h.2.1]
  exact sm_ret (tr_mk h.2.2.2 (tl_cons hk tl_nil))
theorem sim_block {v : Mv} {stmts : P (List Tree)} (hs : Sim v v.tl stmts stmts) (hu : Bs stmts 0) : Sim v v.tr (blockP stmts) (blockP stmts) := by
  intro s
  unfold blockP
  exact sb (sim_within hu hu hs) (by repeat' (first | exact bs0_ret | exact bs0_take | exact bs0_ref | assumption | exact bs0_sg | exact bs0_nm | exact bs0_nu | apply bs0_bnd | apply bs0_look | apply bs0_within | apply bs0_deep | split | intro _)) (by repeat' (first | exact bs0_ret | exact bs0_take | exact bs0_ref | assumption | exact bs0_sg | exact bs0_nm | exact bs0_nu | apply bs0_bnd | apply bs0_look | apply bs0_within | apply bs0_deep | split | intro _)) fun a b s1 h => sm_ret (tr_mk h.1.2.2.2 h.2)
theorem tr_do {v : Mv} {n n' : Tree} (h : v.tr n n') : v.tr (doP n) (doP n') := by
  unfold doP
  exact tr_mk (tr_parts h).2.1 (tl_cons h tl_nil)
theorem sim_setL {v : Mv}  : ∀ (f : Nat) (go : Bool) (acc acc' : List Tree), v.tl acc acc' → Sim v v.tl (setL f go acc) (setL f go acc') := by
  intro f
  induction f with
  | zero => intro go acc acc' h s d a s' e; cases e
  | succ f ih =>
    intro go acc acc' h s
    unfold setL
    refine sm_look fun ht => sm_ite (by rw [tk_sg (by decide) _ _ ht]) (fun hc => ?_) (fun _ => sm_ret h)
    refine sb (sm_take (sg_live (Bool.and_eq_true_iff.1 hc).2)) (by repeat' (first | exact bs0_ret | exact bs0_take | exact bs0_ref | assumption | exact bs0_sg | exact bs0_nm | exact bs0_nu | exact bs_setL _ _ _ | exact Bs.le bs_used (Nat.zero_le _) | apply bs0_bnd | apply bs0_look | apply bs0_within | apply bs0_deep | split | intro _)) (by repeat' (first | exact bs0_ret | exact bs0_take | exact bs0_ref | assumption | exact bs0_sg | exact bs0_nm | exact bs0_nu | exact bs_setL _ _ _ | exact Bs.le bs_used (Nat.zero_le _) | apply bs0_bnd | apply bs0_look | apply bs0_within | apply bs0_deep | split | intro _)) fun _ _ s1 _ => ?_
    exact sb (sim_used s1) (by repeat' (first | exact bs0_ret | exact bs0_take | exact bs0_ref | assumption | exact bs0_sg | exact bs0_nm | exact bs0_nu | exact bs_setL _ _ _ | exact Bs.le bs_used (Nat.zero_le _) | apply bs0_bnd | apply bs0_look | apply bs0_within | apply bs0_deep | split | intro _)) (by repeat' (first | exact bs0_ret | exact bs0_take | exact bs0_ref | assumption | exact bs0_sg | exact bs0_nm | exact bs0_nu | exact bs_setL _ _ _ | exact Bs.le bs_used (Nat.zero_le _) | apply bs0_bnd | apply bs0_look | apply bs0_within | apply bs0_deep | split | intro _)) fun n n' s2 hn => ih _ _ _ (tl_snoc h hn) s2
theorem sim_simple {v : Mv} {expr : P Tree} (hp : Sim v v.tr expr expr) (hb : Bs expr 0) (hb1 : Bs expr 1) (f : Nat) : Sim v v.tr (simpleP f expr) (simpleP f expr) := by
  intro s
  unfold simpleP
  refine sm_look fun ht => sm_ite (by rw [tk_wd (by decide) _ _ ht]) (fun hc => ?_) (fun _ => ?_)
  · exact sb (sim_with hp hb 54 2 (wd_live hc)) (by repeat' (first | exact bs0_ret | exact bs0_take | exact bs0_ref | assumption | exact bs0_sg | exact bs0_nm | exact bs0_nu | exact bs_setL _ _ _ | exact bs_tailsL hb f _ | apply bs0_bnd | apply bs0_look | apply bs0_within | apply bs0_deep | split | intro _)) (by repeat' (first | exact bs0_ret | exact bs0_take | exact bs0_ref | assumption | exact bs0_sg | exact bs0_nm | exact bs0_nu | exact bs_setL _ _ _ | exact bs_tailsL hb f _ | apply bs0_bnd | apply bs0_look | apply bs0_within | apply bs0_deep | split | intro _)) fun n n' s1 hn => sm_ret (tr_do hn)
  · refine sb (sim_call hp hb hb1 f s) (by repeat' (first | exact bs0_ret | exact bs0_take | exact bs0_ref | assumption | exact bs0_sg | exact bs0_nm | exact bs0_nu | exact bs_setL _ _ _ | exact bs_tailsL hb f _ | apply bs0_bnd | apply bs0_look | apply bs0_within | apply bs0_deep | split | intro _)) (by repeat' (first | exact bs0_ret | exact bs0_take | exact bs0_ref | assumption | exact bs0_sg | exact bs0_nm | exact bs0_nu | exact bs_setL _ _ _ | exact bs_tailsL hb f _ | apply bs0_bnd | apply bs0_look | apply bs0_within | apply bs0_deep | split | intro _)) fun n n' s1 hn => ?_
    refine sb (sim_tailsL hp hb f _ _ hn s1) (by repeat' (first | exact bs0_ret | exact bs0_take | exact bs0_ref | assumption | exact bs0_sg | exact bs0_nm | exact bs0_nu | exact bs_setL _ _ _ | exact bs_tailsL hb f _ | apply bs0_bnd | apply bs0_look | apply bs0_within | apply bs0_deep | split | intro _)) (by repeat' (first | exact bs0_ret | exact bs0_take | exact bs0_ref | assumption | exact bs0_sg | exact bs0_nm | exact bs0_nu | exact bs_setL _ _ _ | exact bs_tailsL hb f _ | apply bs0_bnd | apply bs0_look | apply bs0_within | apply bs0_deep | split | intro _)) fun n n' s2 hn => ?_
    obtain ⟨h1, _⟩ := tr_parts hn
    refine sm_ite (by rw [h1]) (fun _ => sm_ret (tr_do hn)) (fun _ => ?_)
    rw [h1]
    refine sb (sim_setL f _ _ _ (tl_cons hn tl_nil) s2) (by repeat' (first | exact bs0_ret | exact bs0_take | exact bs0_ref | assumption | exact bs0_sg | exact bs0_nm | exact bs0_nu | exact bs_setL _ _ _ | exact bs_tailsL hb f _ | apply bs0_bnd | apply bs0_look | apply bs0_within | apply bs0_deep | split | intro _)) (by repeat' (first | exact bs0_ret | exact bs0_take | exact bs0_ref | assumption | exact bs0_sg | exact bs0_nm | exact bs0_nu | exact bs_setL _ _ _ | exact bs_tailsL hb f _ | apply bs0_bnd | apply bs0_look | apply bs0_within | apply bs0_deep | split | intro _)) fun l l' s3 hl => ?_
    refine sb sm_sg (by repeat' (first | exact bs0_ret | exact bs0_take | exact bs0_ref | assumption | exact bs0_sg | exact bs0_nm | exact bs0_nu | exact bs_setL _ _ _ | exact bs_tailsL hb f _ | apply bs0_bnd | apply bs0_look | apply bs0_within | apply bs0_deep | split | intro _)) (by repeat' (first | exact bs0_ret | exact bs0_take | exact bs0_ref | assumption | exact bs0_sg | exact bs0_nm | exact bs0_nu | exact bs_setL _ _ _ | exact bs_tailsL hb f _ | apply bs0_bnd | apply bs0_look | apply bs0_within | apply bs0_deep | split | intro _)) fun a b s4 h => ?_
    exact sb (hp s4) (by repeat' (first | exact bs0_ret | exact bs0_take | exact bs0_ref | assumption | exact bs0_sg | exact bs0_nm | exact bs0_nu | exact bs_setL _ _ _ | exact bs_tailsL hb f _ | apply bs0_bnd | apply bs0_look | apply bs0_within | apply bs0_deep | split | intro _)) (by repeat' (first | exact bs0_ret | exact bs0_take | exact bs0_ref | assumption | exact bs0_sg | exact bs0_nm | exact bs0_nu | exact bs_setL _ _ _ | exact bs_tailsL hb f _ | apply bs0_bnd | apply bs0_look | apply bs0_within | apply bs0_deep | split | intro _)) fun x y s5 hx => sm_ret (tr_mk h.2.2.2 (tl_snoc hl hx))
theorem sim_var {v : Mv} {expr : P Tree} (hp : Sim v v.tr expr expr) (hb : Bs expr 0) (hb1 : Bs expr 1) (f : Nat) : Sim v v.tr (varP f expr) (varP f expr) := by
  intro s
  unfold varP
  refine sm_look fun ht => sm_ite (by rw [tk_wd (by decide) _ _ ht]) (fun hc => ?_) (fun _ => sim_simple hp hb hb1 f s)
  refine sb (sm_take (wd_live hc)) (by repeat' (first | exact bs0_ret | exact bs0_take | exact bs0_ref | assumption | exact bs0_sg | exact bs0_nm | exact bs0_nu | exact Bs.le (bs_listP bs_new f) (Nat.zero_le _) | apply bs0_bnd | apply bs0_look | apply bs0_within | apply bs0_deep | split | intro _)) (by repeat' (first | exact bs0_ret | exact bs0_take | exact bs0_ref | assumption | exact bs0_sg | exact bs0_nm | exact bs0_nu | exact Bs.le (bs_listP bs_new f) (Nat.zero_le _) | apply bs0_bnd | apply bs0_look | apply bs0_within | apply bs0_deep | split | intro _)) fun a b s1 h => ?_
  refine sb (sim_listP sim_new (Bs.le bs_new (Nat.zero_le _)) f s1) (by repeat' (first | exact bs0_ret | exact bs0_take | exact bs0_ref | assumption | exact bs0_sg | exact bs0_nm | exact bs0_nu | exact Bs.le (bs_listP bs_new f) (Nat.zero_le _) | apply bs0_bnd | apply bs0_look | apply bs0_within | apply bs0_deep | split | intro _)) (by repeat' (first | exact bs0_ret | exact bs0_take | exact bs0_ref | assumption | exact bs0_sg | exact bs0_nm | exact bs0_nu | exact Bs.le (bs_listP bs_new f) (Nat.zero_le _) | apply bs0_bnd | apply bs0_look | apply bs0_within | apply bs0_deep | split | intro _)) fun l l' s2 hl => ?_
  refine sb sm_sg (by repeat' (first | exact bs0_ret | exact bs0_take | exact bs0_ref | assumption | exact bs0_sg | exact bs0_nm | exact bs0_nu | exact Bs.le (bs_listP bs_new f) (Nat.zero_le _) | apply bs0_bnd | apply bs0_look | apply bs0_within | apply bs0_deep | split | intro _)) (by repeat' (first | exact bs0_ret | exact bs0_take | exact bs0_ref | assumption | exact bs0_sg | exact bs0_nm | exact bs0_nu | exact Bs.le (bs_listP bs_new f) (Nat.zero_le _) | apply bs0_bnd | apply bs0_look | apply bs0_within | apply bs0_deep | split | intro _)) fun _ _ s3 _ => ?_
  exact sb (hp s3) (by repeat' (first | exact bs0_ret | exact bs0_take | exact bs0_ref | assumption | exact bs0_sg | exact bs0_nm | exact bs0_nu | exact Bs.le (bs_listP bs_new f) (Nat.zero_le _) | apply bs0_bnd | apply bs0_look | apply bs0_within | apply bs0_deep | split | intro _)) (by repeat' (first | exact bs0_ret | exact bs0_take | exact bs0_ref | assumption | exact bs0_sg | exact bs0_nm | exact bs0_nu | exact Bs.le (bs_listP bs_new f) (Nat.zero_le _) | apply bs0_bnd | apply bs0_look | apply bs0_within | apply bs0_deep | split | intro _)) fun x y s5 hx => sm_ret (tr_mk h.2.2.2 (tl_snoc hl hx))
theorem sim_away {v : Mv} (k : Nat) {s : St} (hn : (nxt v.E1 s).1 ≠ 0) : Sm v v.tr (awayP k) (awayP k) s := by
  unfold awayP
  refine sb (sm_take hn) (by repeat' (first | exact bs0_ret | exact bs0_take | exact bs0_ref | assumption | exact bs0_sg | exact bs0_nm | exact bs0_nu | apply bs0_bnd | apply bs0_look | apply bs0_within | apply bs0_deep | split | intro _)) (by repeat' (first | exact bs0_ret | exact bs0_take | exact bs0_ref | assumption | exact bs0_sg | exact bs0_nm | exact bs0_nu | apply bs0_bnd | apply bs0_look | apply bs0_within | apply bs0_deep | split | intro _)) fun a b s1 h => ?_
  refine sm_look fun ht => sm_ite (by rw [tk_nm _ _ ht]) (fun hc => ?_) (fun _ => sm_ret (tr_mk h.2.2.2 tl_nil))
  refine sb (sm_take (nm_live hc)) (by repeat' (first | exact bs0_ret | exact bs0_take | exact bs0_ref | assumption | exact bs0_sg | exact bs0_nm | exact bs0_nu | apply bs0_bnd | apply bs0_look | apply bs0_within | apply bs0_deep | split | intro _)) (by repeat' (first | exact bs0_ret | exact bs0_take | exact bs0_ref | assumption | exact bs0_sg | exact bs0_nm | exact bs0_nu | apply bs0_bnd | apply bs0_look | apply bs0_within | apply bs0_deep | split | intro _)) fun c e s2 h2 => ?_
  rw [h2.2.1]
  exact sm_ret (tr_mk h.2.2.2 tl_nil)
theorem sim_plain {v : Mv} {expr : P Tree} (hp : Sim v v.tr expr expr) (hb : Bs expr 0) (hb1 : Bs expr 1) (f : Nat) : Sim v v.tr (plainP f expr) (plainP f expr) := by
  intro s
  unfold plainP
  refine sm_look fun ht => sm_ite (by rw [tk_wd (by decide) _ _ ht]) (fun hc => sim_away _ (wd_live hc)) (fun _ => ?_)
  refine sm_ite (by rw [tk_wd (by decide) _ _ ht]) (fun hc => sim_away _ (wd_live hc)) (fun _ => ?_)
  refine sm_ite (by rw [tk_wd (by decide) _ _ ht]) (fun hc => ?_) (fun _ => ?_)
  · refine sb (sm_take (wd_live hc)) (by repeat' (first | exact bs0_ret | exact bs0_take | exact bs0_ref | assumption | exact bs0_sg | exact bs0_nm | exact bs0_nu | exact bs_listP hb f | exact bs0_need (fun t q => cn_live (Bool.and_eq_true_iff.1 q).1) | apply bs0_bnd | apply bs0_look | apply bs0_within | apply bs0_deep | split | intro _)) (by repeat' (first | exact bs0_ret | exact bs0_take | exact bs0_ref | assumption | exact bs0_sg | exact bs0_nm | exact bs0_nu | exact bs_listP hb f | exact bs0_need (fun t q => cn_live (Bool.and_eq_true_iff.1 q).1) | apply bs0_bnd | apply bs0_look | apply bs0_within | apply bs0_deep | split | intro _)) fun a b s1 h => ?_
    refine sm_look fun ht => sm_ite (by rw [tk_sg (by decide) _ _ ht]) (fun _ => sm_ret (tr_mk h.2.2.2 tl_nil)) (fun _ => ?_)
    exact sb (sim_listP hp hb f s1) (by repeat' (first | exact bs0_ret | exact bs0_take | exact bs0_ref | assumption | exact bs0_sg | exact bs0_nm | exact bs0_nu | exact bs_listP hb f | exact bs0_need (fun t q => cn_live (Bool.and_eq_true_iff.1 q).1) | apply bs0_bnd | apply bs0_look | apply bs0_within | apply bs0_deep | split | intro _)) (by repeat' (first | exact bs0_ret | exact bs0_take | exact bs0_ref | assumption | exact bs0_sg | exact bs0_nm | exact bs0_nu | exact bs_listP hb f | exact bs0_need (fun t q => cn_live (Bool.and_eq_true_iff.1 q).1) | apply bs0_bnd | apply bs0_look | apply bs0_within | apply bs0_deep | split | intro _)) fun l l' s2 hl => sm_ret (tr_mk h.2.2.2 hl)
  refine sm_ite (by rw [tk_wd (by decide) _ _ ht]) (fun hc => ?_) (fun _ => sim_var hp hb hb1 f s)
  refine sb (sm_take (wd_live hc)) (by repeat' (first | exact bs0_ret | exact bs0_take | exact bs0_ref | assumption | exact bs0_sg | exact bs0_nm | exact bs0_nu | exact bs_listP hb f | exact bs0_need (fun t q => cn_live (Bool.and_eq_true_iff.1 q).1) | apply bs0_bnd | apply bs0_look | apply bs0_within | apply bs0_deep | split | intro _)) (by repeat' (first | exact bs0_ret | exact bs0_take | exact bs0_ref | assumption | exact bs0_sg | exact bs0_nm | exact bs0_nu | exact bs_listP hb f | exact bs0_need (fun t q => cn_live (Bool.and_eq_true_iff.1 q).1) | apply bs0_bnd | apply bs0_look | apply bs0_within | apply bs0_deep | split | intro _)) fun a b s1 h => ?_
  refine sb (sm_need (fun t q => cn_live (Bool.and_eq_true_iff.1 q).1) fun t u h q => ?_) (by repeat' (first | exact bs0_ret | exact bs0_take | exact bs0_ref | assumption | exact bs0_sg | exact bs0_nm | exact bs0_nu | exact bs_listP hb f | exact bs0_need (fun t q => cn_live (Bool.and_eq_true_iff.1 q).1) | apply bs0_bnd | apply bs0_look | apply bs0_within | apply bs0_deep | split | intro _)) (by repeat' (first | exact bs0_ret | exact bs0_take | exact bs0_ref | assumption | exact bs0_sg | exact bs0_nm | exact bs0_nu | exact bs_listP hb f | exact bs0_need (fun t q => cn_live (Bool.and_eq_true_iff.1 q).1) | apply bs0_bnd | apply bs0_look | apply bs0_within | apply bs0_deep | split | intro _)) fun c e s2 h2 => ?_
  · have h1 := tk_live h (cn_live (Bool.and_eq_true_iff.1 q).1)
    rw [tk_cn t u h, h1.2.2.1]; exact q
  · rw [h2.2.2.1]
    exact sm_ret (tr_mk h.2.2.2 tl_nil)
theorem sim_unless {v : Mv} {x : List Nat} (hx : x ≠ [41]) {part : P Tree} {s : St} (hp : Sm v v.tr part part s) : Sm v v.tr (unlessP x part) (unlessP x part) s := by
  unfold unlessP
  refine sm_look fun ht => sm_ite (by rw [tk_sg hx _ _ ht]) (fun hc => ?_) (fun _ => hp)
  exact sm_ret (tr_mk (tk_live ht (sg_live hc)).2.2.2 tl_nil)
theorem sim_rounds {v : Mv} {expr : P Tree} (hp : Sim v v.tr expr expr) (hb : Bs expr 0) (hb1 : Bs expr 1) {stmts : P (List Tree)} (hs : Sim v v.tl stmts stmts) (hu : Bs stmts 0) (f : Nat) : Sim v v.tl (roundsP f expr stmts) (roundsP f expr stmts) := by
  intro s
  unfold roundsP
  refine sb (sim_unless (by decide) (sim_var hp hb hb1 f s)) (by repeat' (first | exact bs0_ret | exact bs0_take | exact bs0_ref | assumption | exact bs0_sg | exact bs0_nm | exact bs0_nu | exact bs0_unless hb | exact bs0_unless (Bs.le (bs_simple hb f) (Nat.zero_le _)) | exact Bs.le (bs_block hu) (Nat.zero_le _) | apply bs0_bnd | apply bs0_look | apply bs0_within | apply bs0_deep | split | intro _)) (by repeat' (first | exact bs0_ret | exact bs0_take | exact bs0_ref | assumption | exact bs0_sg | exact bs0_nm | exact bs0_nu | exact bs0_unless hb | exact bs0_unless (Bs.le (bs_simple hb f) (Nat.zero_le _)) | exact Bs.le (bs_block hu) (Nat.zero_le _) | apply bs0_bnd | apply bs0_look | apply bs0_within | apply bs0_deep | split | intro _)) fun a a' s1 h1 => ?_
  refine sb sm_sg (by repeat' (first | exact bs0_ret | exact bs0_take | exact bs0_ref | assumption | exact bs0_sg | exact bs0_nm | exact bs0_nu | exact bs0_unless hb | exact bs0_unless (Bs.le (bs_simple hb f) (Nat.zero_le _)) | exact Bs.le (bs_block hu) (Nat.zero_le _) | apply bs0_bnd | apply bs0_look | apply bs0_within | apply bs0_deep | split | intro _)) (by repeat' (first | exact bs0_ret | exact bs0_take | exact bs0_ref | assumption | exact bs0_sg | exact bs0_nm | exact bs0_nu | exact bs0_unless hb | exact bs0_unless (Bs.le (bs_simple hb f) (Nat.zero_le _)) | exact Bs.le (bs_block hu) (Nat.zero_le _) | apply bs0_bnd | apply bs0_look | apply bs0_within | apply bs0_deep | split | intro _)) fun _ _ s2 _ => ?_
  refine sb (sim_unless (by decide) (hp s2)) (by repeat' (first | exact bs0_ret | exact bs0_take | exact bs0_ref | assumption | exact bs0_sg | exact bs0_nm | exact bs0_nu | exact bs0_unless hb | exact bs0_unless (Bs.le (bs_simple hb f) (Nat.zero_le _)) | exact Bs.le (bs_block hu) (Nat.zero_le _) | apply bs0_bnd | apply bs0_look | apply bs0_within | apply bs0_deep | split | intro _)) (by repeat' (first | exact bs0_ret | exact bs0_take | exact bs0_ref | assumption | exact bs0_sg | exact bs0_nm | exact bs0_nu | exact bs0_unless hb | exact bs0_unless (Bs.le (bs_simple hb f) (Nat.zero_le _)) | exact Bs.le (bs_block hu) (Nat.zero_le _) | apply bs0_bnd | apply bs0_look | apply bs0_within | apply bs0_deep | split | intro _)) fun b b' s3 h3 => ?_
  refine sb sm_sg (by repeat' (first | exact bs0_ret | exact bs0_take | exact bs0_ref | assumption | exact bs0_sg | exact bs0_nm | exact bs0_nu | exact bs0_unless hb | exact bs0_unless (Bs.le (bs_simple hb f) (Nat.zero_le _)) | exact Bs.le (bs_block hu) (Nat.zero_le _) | apply bs0_bnd | apply bs0_look | apply bs0_within | apply bs0_deep | split | intro _)) (by repeat' (first | exact bs0_ret | exact bs0_take | exact bs0_ref | assumption | exact bs0_sg | exact bs0_nm | exact bs0_nu | exact bs0_unless hb | exact bs0_unless (Bs.le (bs_simple hb f) (Nat.zero_le _)) | exact Bs.le (bs_block hu) (Nat.zero_le _) | apply bs0_bnd | apply bs0_look | apply bs0_within | apply bs0_deep | split | intro _)) fun _ _ s4 _ => ?_
  refine sb (sim_unless (by decide) (sim_simple hp hb hb1 f s4)) (by repeat' (first | exact bs0_ret | exact bs0_take | exact bs0_ref | assumption | exact bs0_sg | exact bs0_nm | exact bs0_nu | exact bs0_unless hb | exact bs0_unless (Bs.le (bs_simple hb f) (Nat.zero_le _)) | exact Bs.le (bs_block hu) (Nat.zero_le _) | apply bs0_bnd | apply bs0_look | apply bs0_within | apply bs0_deep | split | intro _)) (by repeat' (first | exact bs0_ret | exact bs0_take | exact bs0_ref | assumption | exact bs0_sg | exact bs0_nm | exact bs0_nu | exact bs0_unless hb | exact bs0_unless (Bs.le (bs_simple hb f) (Nat.zero_le _)) | exact Bs.le (bs_block hu) (Nat.zero_le _) | apply bs0_bnd | apply bs0_look | apply bs0_within | apply bs0_deep | split | intro _)) fun c c' s5 h5 => ?_
  exact sb (sim_block hs hu s5) (by repeat' (first | exact bs0_ret | exact bs0_take | exact bs0_ref | assumption | exact bs0_sg | exact bs0_nm | exact bs0_nu | exact bs0_unless hb | exact bs0_unless (Bs.le (bs_simple hb f) (Nat.zero_le _)) | exact Bs.le (bs_block hu) (Nat.zero_le _) | apply bs0_bnd | apply bs0_look | apply bs0_within | apply bs0_deep | split | intro _)) (by repeat' (first | exact bs0_ret | exact bs0_take | exact bs0_ref | assumption | exact bs0_sg | exact bs0_nm | exact bs0_nu | exact bs0_unless hb | exact bs0_unless (Bs.le (bs_simple hb f) (Nat.zero_le _)) | exact Bs.le (bs_block hu) (Nat.zero_le _) | apply bs0_bnd | apply bs0_look | apply bs0_within | apply bs0_deep | split | intro _)) fun k k' s6 hk => sm_ret (tl_cons h1 (tl_cons h3 (tl_cons h5 (tl_cons hk tl_nil))))
theorem sim_const {v : Mv}  : Sim v v.tr constP constP := by
  intro s
  unfold constP
  refine sm_look fun ht => sm_ite (by rw [tk_sg (by decide) _ _ ht]) (fun hc => ?_) (fun _ => sim_whole s)
  refine sb (sm_take (sg_live hc)) (by repeat' (first | exact bs0_ret | exact bs0_take | exact bs0_ref | assumption | exact bs0_sg | exact bs0_nm | exact bs0_nu | exact Bs.le bs_whole (Nat.zero_le _) | apply bs0_bnd | apply bs0_look | apply bs0_within | apply bs0_deep | split | intro _)) (by repeat' (first | exact bs0_ret | exact bs0_take | exact bs0_ref | assumption | exact bs0_sg | exact bs0_nm | exact bs0_nu | exact Bs.le bs_whole (Nat.zero_le _) | apply bs0_bnd | apply bs0_look | apply bs0_within | apply bs0_deep | split | intro _)) fun a b s1 h => ?_
  exact sb (sim_whole s1) (by repeat' (first | exact bs0_ret | exact bs0_take | exact bs0_ref | assumption | exact bs0_sg | exact bs0_nm | exact bs0_nu | exact Bs.le bs_whole (Nat.zero_le _) | apply bs0_bnd | apply bs0_look | apply bs0_within | apply bs0_deep | split | intro _)) (by repeat' (first | exact bs0_ret | exact bs0_take | exact bs0_ref | assumption | exact bs0_sg | exact bs0_nm | exact bs0_nu | exact Bs.le bs_whole (Nat.zero_le _) | apply bs0_bnd | apply bs0_look | apply bs0_within | apply bs0_deep | split | intro _)) fun n n' s2 hn => sm_ret (tr_mk h.2.2.2 (tl_cons hn tl_nil))
theorem sim_arm {v : Mv} {stmts : P (List Tree)} (hs : Sim v v.tl stmts stmts) (hu : Bs stmts 0) : Sim v v.tr (armP stmts) (armP stmts) := by
  intro s
  unfold armP
  refine sb sm_sg (by repeat' (first | exact bs0_ret | exact bs0_take | exact bs0_ref | assumption | exact bs0_sg | exact bs0_nm | exact bs0_nu | apply bs0_bnd | apply bs0_look | apply bs0_within | apply bs0_deep | split | intro _)) (by repeat' (first | exact bs0_ret | exact bs0_take | exact bs0_ref | assumption | exact bs0_sg | exact bs0_nm | exact bs0_nu | apply bs0_bnd | apply bs0_look | apply bs0_within | apply bs0_deep | split | intro _)) fun a b s1 h => ?_
  exact sb (hs s1) (by repeat' (first | exact bs0_ret | exact bs0_take | exact bs0_ref | assumption | exact bs0_sg | exact bs0_nm | exact bs0_nu | apply bs0_bnd | apply bs0_look | apply bs0_within | apply bs0_deep | split | intro _)) (by repeat' (first | exact bs0_ret | exact bs0_take | exact bs0_ref | assumption | exact bs0_sg | exact bs0_nm | exact bs0_nu | apply bs0_bnd | apply bs0_look | apply bs0_within | apply bs0_deep | split | intro _)) fun l l' s2 hl => sm_ret (tr_mk h.2.2.2 hl)
theorem sim_caseL {v : Mv} {stmts : P (List Tree)} (hs : Sim v v.tl stmts stmts) (hu : Bs stmts 0) {g : Nat} : ∀ (f : Nat) (acc acc' : List Tree), v.tl acc acc' → Sim v v.tl (caseL g stmts f acc) (caseL g stmts f acc') := by
  intro f
  induction f with
  | zero => intro acc acc' h s d a s' e; cases e
  | succ f ih =>
    intro acc acc' h s
    unfold caseL
    refine sm_look fun ht => sm_ite (by rw [tk_wd (by decide) _ _ ht]) (fun hc => ?_) (fun _ => sm_ret h)
    refine sb (sm_take (wd_live hc)) (by repeat' (first | exact bs0_ret | exact bs0_take | exact bs0_ref | assumption | exact bs0_sg | exact bs0_nm | exact bs0_nu | exact Bs.le (bs_arm hu) (Nat.zero_le _) | exact bs_caseL hu _ _ | exact Bs.le (bs_listP bs_const g) (Nat.zero_le _) | apply bs0_bnd | apply bs0_look | apply bs0_within | apply bs0_deep | split | intro _)) (by repeat' (first | exact bs0_ret | exact bs0_take | exact bs0_ref | assumption | exact bs0_sg | exact bs0_nm | exact bs0_nu | exact Bs.le (bs_arm hu) (Nat.zero_le _) | exact bs_caseL hu _ _ | exact Bs.le (bs_listP bs_const g) (Nat.zero_le _) | apply bs0_bnd | apply bs0_look | apply bs0_within | apply bs0_deep | split | intro _)) fun a b s1 h1 => ?_
    refine sb (sim_listP sim_const (Bs.le bs_const (Nat.zero_le _)) g s1) (by repeat' (first | exact bs0_ret | exact bs0_take | exact bs0_ref | assumption | exact bs0_sg | exact bs0_nm | exact bs0_nu | exact Bs.le (bs_arm hu) (Nat.zero_le _) | exact bs_caseL hu _ _ | exact Bs.le (bs_listP bs_const g) (Nat.zero_le _) | apply bs0_bnd | apply bs0_look | apply bs0_within | apply bs0_deep | split | intro _)) (by repeat' (first | exact bs0_ret | exact bs0_take | exact bs0_ref | assumption | exact bs0_sg | exact bs0_nm | exact bs0_nu | exact Bs.le (bs_arm hu) (Nat.zero_le _) | exact bs_caseL hu _ _ | exact Bs.le (bs_listP bs_const g) (Nat.zero_le _) | apply bs0_bnd | apply bs0_look | apply bs0_within | apply bs0_deep | split | intro _)) fun l l' s2 hl => ?_
    exact sb (sim_arm hs hu s2) (by repeat' (first | exact bs0_ret | exact bs0_take | exact bs0_ref | assumption | exact bs0_sg | exact bs0_nm | exact bs0_nu | exact Bs.le (bs_arm hu) (Nat.zero_le _) | exact bs_caseL hu _ _ | exact Bs.le (bs_listP bs_const g) (Nat.zero_le _) | apply bs0_bnd | apply bs0_look | apply bs0_within | apply bs0_deep | split | intro _)) (by repeat' (first | exact bs0_ret | exact bs0_take | exact bs0_ref | assumption | exact bs0_sg | exact bs0_nm | exact bs0_nu | exact Bs.le (bs_arm hu) (Nat.zero_le _) | exact bs_caseL hu _ _ | exact Bs.le (bs_listP bs_const g) (Nat.zero_le _) | apply bs0_bnd | apply bs0_look | apply bs0_within | apply bs0_deep | split | intro _)) fun x y s3 hx => ih _ _ (tl_snoc h (tr_mk h1.2.2.2 (tl_snoc hl hx))) s3
theorem sim_choice {v : Mv} {expr : P Tree} (hp : Sim v v.tr expr expr) (hb : Bs expr 0) {stmts : P (List Tree)} (hs : Sim v v.tl stmts stmts) (hu : Bs stmts 0) (f : Nat) : Sim v v.tl (choiceP f expr stmts) (choiceP f expr stmts) := by
  intro s
  unfold choiceP
  refine sb (hp s) (by repeat' (first | exact bs0_ret | exact bs0_take | exact bs0_ref | assumption | exact bs0_sg | exact bs0_nm | exact bs0_nu | exact Bs.le (bs_arm hu) (Nat.zero_le _) | exact bs_caseL hu _ _ | apply bs0_bnd | apply bs0_look | apply bs0_within | apply bs0_deep | split | intro _)) (by repeat' (first | exact bs0_ret | exact bs0_take | exact bs0_ref | assumption | exact bs0_sg | exact bs0_nm | exact bs0_nu | exact Bs.le (bs_arm hu) (Nat.zero_le _) | exact bs_caseL hu _ _ | apply bs0_bnd | apply bs0_look | apply bs0_within | apply bs0_deep | split | intro _)) fun x x' s1 hx => ?_
  refine sb (V := fun a b => v.ts a.1 b.1 ∧ v.tl a.2 b.2) (sim_within (by repeat' (first | exact bs0_ret | exact bs0_take | exact bs0_ref | assumption | exact bs0_sg | exact bs0_nm | exact bs0_nu | exact Bs.le (bs_arm hu) (Nat.zero_le _) | exact bs_caseL hu _ _ | apply bs0_bnd | apply bs0_look | apply bs0_within | apply bs0_deep | split | intro _)) (by repeat' (first | exact bs0_ret | exact bs0_take | exact bs0_ref | assumption | exact bs0_sg | exact bs0_nm | exact bs0_nu | exact Bs.le (bs_arm hu) (Nat.zero_le _) | exact bs_caseL hu _ _ | apply bs0_bnd | apply bs0_look | apply bs0_within | apply bs0_deep | split | intro _)) fun s2 => ?_) (by repeat' (first | exact bs0_ret | exact bs0_take | exact bs0_ref | assumption | exact bs0_sg | exact bs0_nm | exact bs0_nu | exact Bs.le (bs_arm hu) (Nat.zero_le _) | exact bs_caseL hu _ _ | apply bs0_bnd | apply bs0_look | apply bs0_within | apply bs0_deep | split | intro _)) (by repeat' (first | exact bs0_ret | exact bs0_take | exact bs0_ref | assumption | exact bs0_sg | exact bs0_nm | exact bs0_nu | exact Bs.le (bs_arm hu) (Nat.zero_le _) | exact bs_caseL hu _ _ | apply bs0_bnd | apply bs0_look | apply bs0_within | apply bs0_deep | split | intro _)) fun a b s2 hn => sm_ret hn.2
  refine sb (sim_caseL hs hu f _ _ (tl_cons hx tl_nil) s2) (by repeat' (first | exact bs0_ret | exact bs0_take | exact bs0_ref | assumption | exact bs0_sg | exact bs0_nm | exact bs0_nu | exact Bs.le (bs_arm hu) (Nat.zero_le _) | exact bs_caseL hu _ _ | apply bs0_bnd | apply bs0_look | apply bs0_within | apply bs0_deep | split | intro _)) (by repeat' (first | exact bs0_ret | exact bs0_take | exact bs0_ref | assumption | exact bs0_sg | exact bs0_nm | exact bs0_nu | exact Bs.le (bs_arm hu) (Nat.zero_le _) | exact bs_caseL hu _ _ | apply bs0_bnd | apply bs0_look | apply bs0_within | apply bs0_deep | split | intro _)) fun l l' s3 hl => ?_
  refine sm_look fun ht => sm_ite (by rw [tk_wd (by decide) _ _ ht]) (fun hc => ?_) (fun _ => sm_ret hl)
  refine sb (sm_take (wd_live hc)) (by repeat' (first | exact bs0_ret | exact bs0_take | exact bs0_ref | assumption | exact bs0_sg | exact bs0_nm | exact bs0_nu | exact Bs.le (bs_arm hu) (Nat.zero_le _) | exact bs_caseL hu _ _ | apply bs0_bnd | apply bs0_look | apply bs0_within | apply bs0_deep | split | intro _)) (by repeat' (first | exact bs0_ret | exact bs0_take | exact bs0_ref | assumption | exact bs0_sg | exact bs0_nm | exact bs0_nu | exact Bs.le (bs_arm hu) (Nat.zero_le _) | exact bs_caseL hu _ _ | apply bs0_bnd | apply bs0_look | apply bs0_within | apply bs0_deep | split | intro _)) fun a b s4 h1 => ?_
  exact sb (sim_arm hs hu s4) (by repeat' (first | exact bs0_ret | exact bs0_take | exact bs0_ref | assumption | exact bs0_sg | exact bs0_nm | exact bs0_nu | exact Bs.le (bs_arm hu) (Nat.zero_le _) | exact bs_caseL hu _ _ | apply bs0_bnd | apply bs0_look | apply bs0_within | apply bs0_deep | split | intro _)) (by repeat' (first | exact bs0_ret | exact bs0_take | exact bs0_ref | assumption | exact bs0_sg | exact bs0_nm | exact bs0_nu | exact Bs.le (bs_arm hu) (Nat.zero_le _) | exact bs_caseL hu _ _ | apply bs0_bnd | apply bs0_look | apply bs0_within | apply bs0_deep | split | intro _)) fun y z s5 hy => sm_ret (tl_snoc hl (tr_mk h1.2.2.2 (tl_cons hy tl_nil)))
theorem sim_turn {v : Mv} {expr : P Tree} (hp : Sim v v.tr expr expr) (hb : Bs expr 0) (hb1 : Bs expr 1) {stmts : P (List Tree)} (hs : Sim v v.tl stmts stmts) (hu : Bs stmts 0) (f : Nat) (lb : List Nat) : Sim v v.tr (turnP f lb expr stmts) (turnP f lb expr stmts) := by
  intro s
  unfold turnP
  refine sb (sm_need (fun t => turnW_live) fun t u h q => by rw [tk_turnW t u h]; exact q) (by repeat' (first | exact bs0_ret | exact bs0_take | exact bs0_ref | assumption | exact bs0_sg | exact bs0_nm | exact bs0_nu | exact Bs.le (bs_block hu) (Nat.zero_le _) | exact Bs.le (bs_rounds hb hu f) (Nat.zero_le _) | exact Bs.le (bs_choice hb hu f) (Nat.zero_le _) | apply bs0_bnd | apply bs0_look | apply bs0_within | apply bs0_deep | split | intro _)) (by repeat' (first | exact bs0_ret | exact bs0_take | exact bs0_ref | assumption | exact bs0_sg | exact bs0_nm | exact bs0_nu | exact Bs.le (bs_block hu) (Nat.zero_le _) | exact Bs.le (bs_rounds hb hu f) (Nat.zero_le _) | exact Bs.le (bs_choice hb hu f) (Nat.zero_le _) | apply bs0_bnd | apply bs0_look | apply bs0_within | apply bs0_deep | split | intro _)) fun a b s1 h => ?_
  rw [h.2.1]
  refine sm_ite Iff.rfl (fun _ => ?_) (fun _ => sm_ite Iff.rfl (fun _ => ?_) (fun _ => sm_ite Iff.rfl (fun _ => ?_) (fun _ => sm_ret (tr_mk h.2.2.2 tl_nil))))
  · refine sb (hp s1) (by repeat' (first | exact bs0_ret | exact bs0_take | exact bs0_ref | assumption | exact bs0_sg | exact bs0_nm | exact bs0_nu | exact Bs.le (bs_block hu) (Nat.zero_le _) | exact Bs.le (bs_rounds hb hu f) (Nat.zero_le _) | exact Bs.le (bs_choice hb hu f) (Nat.zero_le _) | apply bs0_bnd | apply bs0_look | apply bs0_within | apply bs0_deep | split | intro _)) (by repeat' (first | exact bs0_ret | exact bs0_take | exact bs0_ref | assumption | exact bs0_sg | exact bs0_nm | exact bs0_nu | exact Bs.le (bs_block hu) (Nat.zero_le _) | exact Bs.le (bs_rounds hb hu f) (Nat.zero_le _) | exact Bs.le (bs_choice hb hu f) (Nat.zero_le _) | apply bs0_bnd | apply bs0_look | apply bs0_within | apply bs0_deep | split | intro _)) fun x x' s2 hx => ?_
    exact sb (sim_block hs hu s2) (by repeat' (first | exact bs0_ret | exact bs0_take | exact bs0_ref | assumption | exact bs0_sg | exact bs0_nm | exact bs0_nu | exact Bs.le (bs_block hu) (Nat.zero_le _) | exact Bs.le (bs_rounds hb hu f) (Nat.zero_le _) | exact Bs.le (bs_choice hb hu f) (Nat.zero_le _) | apply bs0_bnd | apply bs0_look | apply bs0_within | apply bs0_deep | split | intro _)) (by repeat' (first | exact bs0_ret | exact bs0_take | exact bs0_ref | assumption | exact bs0_sg | exact bs0_nm | exact bs0_nu | exact Bs.le (bs_block hu) (Nat.zero_le _) | exact Bs.le (bs_rounds hb hu f) (Nat.zero_le _) | exact Bs.le (bs_choice hb hu f) (Nat.zero_le _) | apply bs0_bnd | apply bs0_look | apply bs0_within | apply bs0_deep | split | intro _)) fun k k' s3 hk => sm_ret (tr_mk h.2.2.2 (tl_cons hx (tl_cons hk tl_nil)))
  · exact sb (sim_rounds hp hb hb1 hs hu f s1) (by repeat' (first | exact bs0_ret | exact bs0_take | exact bs0_ref | assumption | exact bs0_sg | exact bs0_nm | exact bs0_nu | exact Bs.le (bs_block hu) (Nat.zero_le _) | exact Bs.le (bs_rounds hb hu f) (Nat.zero_le _) | exact Bs.le (bs_choice hb hu f) (Nat.zero_le _) | apply bs0_bnd | apply bs0_look | apply bs0_within | apply bs0_deep | split | intro _)) (by repeat' (first | exact bs0_ret | exact bs0_take | exact bs0_ref | assumption | exact bs0_sg | exact bs0_nm | exact bs0_nu | exact Bs.le (bs_block hu) (Nat.zero_le _) | exact Bs.le (bs_rounds hb hu f) (Nat.zero_le _) | exact Bs.le (bs_choice hb hu f) (Nat.zero_le _) | apply bs0_bnd | apply bs0_look | apply bs0_within | apply bs0_deep | split | intro _)) fun l l' s2 hl => sm_ret (tr_mk h.2.2.2 hl)
  · exact sb (sim_choice hp hb hs hu f s1) (by repeat' (first | exact bs0_ret | exact bs0_take | exact bs0_ref | assumption | exact bs0_sg | exact bs0_nm | exact bs0_nu | exact Bs.le (bs_block hu) (Nat.zero_le _) | exact Bs.le (bs_rounds hb hu f) (Nat.zero_le _) | exact Bs.le (bs_choice hb hu f) (Nat.zero_le _) | apply bs0_bnd | apply bs0_look | apply bs0_within | apply bs0_deep | split | intro _)) (by repeat' (first | exact bs0_ret | exact bs0_take | exact bs0_ref | assumption | exact bs0_sg | exact bs0_nm | exact bs0_nu | exact Bs.le (bs_block hu) (Nat.zero_le _) | exact Bs.le (bs_rounds hb hu f) (Nat.zero_le _) | exact Bs.le (bs_choice hb hu f) (Nat.zero_le _) | apply bs0_bnd | apply bs0_look | apply bs0_within | apply bs0_deep | split | intro _)) fun l l' s2 hl => sm_ret (tr_mk h.2.2.2 hl)
theorem sim_branch {v : Mv} {branch : P Tree} (hr : ∀ s, (nxt v.E1 s).1 ≠ 0 → Sm v v.tr branch branch s) (hd : Bs branch 0) {expr : P Tree} (hp : Sim v v.tr expr expr) (hb : Bs expr 0) {stmts : P (List Tree)} (hs : Sim v v.tl stmts stmts) (hu : Bs stmts 0) {s : St} (hn : (nxt v.E1 s).1 ≠ 0) : Sm v v.tr (branchP branch expr stmts) (branchP branch expr stmts) s := by
  unfold branchP
  refine sb (sm_take hn) (by repeat' (first | exact bs0_ret | exact bs0_take | exact bs0_ref | assumption | exact bs0_sg | exact bs0_nm | exact bs0_nu | exact Bs.le (bs_block hu) (Nat.zero_le _) | apply bs0_bnd | apply bs0_look | apply bs0_within | apply bs0_deep | split | intro _)) (by repeat' (first | exact bs0_ret | exact bs0_take | exact bs0_ref | assumption | exact bs0_sg | exact bs0_nm | exact bs0_nu | exact Bs.le (bs_block hu) (Nat.zero_le _) | apply bs0_bnd | apply bs0_look | apply bs0_within | apply bs0_deep | split | intro _)) fun a b s1 h => ?_
  refine sb (hp s1) (by repeat' (first | exact bs0_ret | exact bs0_take | exact bs0_ref | assumption | exact bs0_sg | exact bs0_nm | exact bs0_nu | exact Bs.le (bs_block hu) (Nat.zero_le _) | apply bs0_bnd | apply bs0_look | apply bs0_within | apply bs0_deep | split | intro _)) (by repeat' (first | exact bs0_ret | exact bs0_take | exact bs0_ref | assumption | exact bs0_sg | exact bs0_nm | exact bs0_nu | exact Bs.le (bs_block hu) (Nat.zero_le _) | apply bs0_bnd | apply bs0_look | apply bs0_within | apply bs0_deep | split | intro _)) fun x x' s2 hx => ?_
  refine sb (sim_block hs hu s2) (by repeat' (first | exact bs0_ret | exact bs0_take | exact bs0_ref | assumption | exact bs0_sg | exact bs0_nm | exact bs0_nu | exact Bs.le (bs_block hu) (Nat.zero_le _) | apply bs0_bnd | apply bs0_look | apply bs0_within | apply bs0_deep | split | intro _)) (by repeat' (first | exact bs0_ret | exact bs0_take | exact bs0_ref | assumption | exact bs0_sg | exact bs0_nm | exact bs0_nu | exact Bs.le (bs_block hu) (Nat.zero_le _) | apply bs0_bnd | apply bs0_look | apply bs0_within | apply bs0_deep | split | intro _)) fun k k' s3 hk => ?_
  refine sm_look fun ht => sm_ite (by rw [tk_wd (by decide) _ _ ht]) (fun hc => ?_) (fun _ => sm_ret (tr_mk h.2.2.2 (tl_cons hx (tl_cons hk tl_nil))))
  refine sb (sm_take (wd_live hc)) (by repeat' (first | exact bs0_ret | exact bs0_take | exact bs0_ref | assumption | exact bs0_sg | exact bs0_nm | exact bs0_nu | exact Bs.le (bs_block hu) (Nat.zero_le _) | apply bs0_bnd | apply bs0_look | apply bs0_within | apply bs0_deep | split | intro _)) (by repeat' (first | exact bs0_ret | exact bs0_take | exact bs0_ref | assumption | exact bs0_sg | exact bs0_nm | exact bs0_nu | exact Bs.le (bs_block hu) (Nat.zero_le _) | apply bs0_bnd | apply bs0_look | apply bs0_within | apply bs0_deep | split | intro _)) fun o o' s4 ho => ?_
  refine sm_look fun ht => sm_ite (by rw [tk_wd (by decide) _ _ ht]) (fun hc => ?_) (fun _ => ?_)
  · exact sb (sm_deep hd hd (hr s4 (wd_live hc))) (by repeat' (first | exact bs0_ret | exact bs0_take | exact bs0_ref | assumption | exact bs0_sg | exact bs0_nm | exact bs0_nu | exact Bs.le (bs_block hu) (Nat.zero_le _) | apply bs0_bnd | apply bs0_look | apply bs0_within | apply bs0_deep | split | intro _)) (by repeat' (first | exact bs0_ret | exact bs0_take | exact bs0_ref | assumption | exact bs0_sg | exact bs0_nm | exact bs0_nu | exact Bs.le (bs_block hu) (Nat.zero_le _) | apply bs0_bnd | apply bs0_look | apply bs0_within | apply bs0_deep | split | intro _)) fun n n' s5 hn => sm_ret (tr_mk h.2.2.2 (tl_cons hx (tl_cons hk (tl_cons hn tl_nil))))
  · exact sb (sim_block hs hu s4) (by repeat' (first | exact bs0_ret | exact bs0_take | exact bs0_ref | assumption | exact bs0_sg | exact bs0_nm | exact bs0_nu | exact Bs.le (bs_block hu) (Nat.zero_le _) | apply bs0_bnd | apply bs0_look | apply bs0_within | apply bs0_deep | split | intro _)) (by repeat' (first | exact bs0_ret | exact bs0_take | exact bs0_ref | assumption | exact bs0_sg | exact bs0_nm | exact bs0_nu | exact Bs.le (bs_block hu) (Nat.zero_le _) | apply bs0_bnd | apply bs0_look | apply bs0_within | apply bs0_deep | split | intro _)) fun n n' s5 hn => sm_ret (tr_mk h.2.2.2 (tl_cons hx (tl_cons hk (tl_cons hn tl_nil))))
theorem sm_ife {v : Mv} {A : Type} {V : A → A → Prop} {c : Nat → St → Prop} [hdc : ∀ E s, Decidable (c E s)] {a a' b b' : P A} {s : St} (hc : c v.E2 (v.ext s) ↔ c v.E1 s) (h1 : c v.E1 s → Sm v V a a' s) (h2 : ¬ c v.E1 s → Sm v V b b' s) : Sm v V (fun E d s => if c E s then a E d s else b E d s) (fun E d s => if c E s then a' E d s else b' E d s) s := by
  intro d x s' e hw a2 s2 e2
  simp only [] at e e2
  by_cases h : c v.E1 s
  · rw [if_pos h] at e
    rw [if_pos (hc.2 h)] at e2
    exact h1 h d x s' e hw a2 s2 e2
  · rw [if_neg h] at e
    rw [if_neg (fun q => h (hc.1 q))] at e2
    exact h2 h d x s' e hw a2 s2 e2
theorem sim_stmt {v : Mv} {branch : P Tree} (hr : ∀ s, (nxt v.E1 s).1 ≠ 0 → Sm v v.tr branch branch s) (hd : Bs branch 0) {expr : P Tree} (hp : Sim v v.tr expr expr) (hb : Bs expr 0) (hb1 : Bs expr 1) {stmts : P (List Tree)} (hs : Sim v v.tl stmts stmts) (hu : Bs stmts 0) (f : Nat) : Sim v v.tr (stmtP f branch expr stmts) (stmtP f branch expr stmts) := by
  intro s
  have ht := (tk_nxt v s).1
  unfold stmtP
  refine sm_ife (c := fun E s => sg [123] (nxt E s) = true) (by rw [tk_sg (by decide) _ _ ht]) (fun _ => sim_block hs hu s) (fun _ => ?_)
  refine sm_ife (c := fun E s => wd [105, 102] (nxt E s) = true) (by rw [tk_wd (by decide) _ _ ht]) (fun hc => hr s (wd_live hc)) (fun _ => ?_)
  refine sm_ife (c := fun E s => turnW (nxt E s) = true) (by rw [tk_turnW _ _ ht]) (fun _ => sim_turn hp hb hb1 hs hu f [] s) (fun _ => ?_)
  refine sm_ife (c := fun E s => labelB E s = true) (by rw [tk_label]) (fun hc => ?_) (fun _ => ?_)
  · refine sb_take (label_live hc) fun h => ?_
    have hn1 : (nxt v.E1 (popS s)).1 ≠ 0 := by rw [nxt_pop]; exact sg_live (Bool.and_eq_true_iff.1 hc).2
    refine sb_take hn1 fun _ => ?_
    rw [h.2.1]
    exact sim_turn hp hb hb1 hs hu f _ _
  · refine sb (sim_plain hp hb hb1 f s) (by repeat' (first | exact bs0_ret | exact bs0_take | exact bs0_ref | assumption | exact bs0_sg | exact bs0_nm | exact bs0_nu | exact bs_turn0 hb hu f _ | exact Bs.le (bs_plain hb f) (Nat.zero_le _) | apply bs0_bnd | apply bs0_look | apply bs0_within | apply bs0_deep | split | intro _)) (by repeat' (first | exact bs0_ret | exact bs0_take | exact bs0_ref | assumption | exact bs0_sg | exact bs0_nm | exact bs0_nu | exact bs_turn0 hb hu f _ | exact Bs.le (bs_plain hb f) (Nat.zero_le _) | apply bs0_bnd | apply bs0_look | apply bs0_within | apply bs0_deep | split | intro _)) fun n n' s1 hn => ?_
    exact sb sm_sg (by repeat' (first | exact bs0_ret | exact bs0_take | exact bs0_ref | assumption | exact bs0_sg | exact bs0_nm | exact bs0_nu | exact bs_turn0 hb hu f _ | exact Bs.le (bs_plain hb f) (Nat.zero_le _) | apply bs0_bnd | apply bs0_look | apply bs0_within | apply bs0_deep | split | intro _)) (by repeat' (first | exact bs0_ret | exact bs0_take | exact bs0_ref | assumption | exact bs0_sg | exact bs0_nm | exact bs0_nu | exact bs_turn0 hb hu f _ | exact Bs.le (bs_plain hb f) (Nat.zero_le _) | apply bs0_bnd | apply bs0_look | apply bs0_within | apply bs0_deep | split | intro _)) fun _ _ s2 _ => sm_ret hn
theorem sim_stmtsL {v : Mv} {stmt : P Tree} (hp : Sim v v.tr stmt stmt) (hb : Bs stmt 0) : ∀ (f : Nat) (acc acc' : List Tree), v.tl acc acc' → Sim v v.tl (stmtsL stmt f acc) (stmtsL stmt f acc') := by
  intro f
  induction f with
  | zero => intro acc acc' h s d a s' e; cases e
  | succ f ih =>
    intro acc acc' h s
    unfold stmtsL
    have ht := (tk_nxt v s).1
    refine sm_ife (c := fun E s => s.wrong = 0 ∧ sg [125] (nxt E s) = false ∧ (wd [99, 97, 115, 101] (nxt E s) || wd [100, 101, 102, 97, 117, 108, 116] (nxt E s)) = false) (a := bnd stmt fun n => stmtsL stmt f (acc ++ [n])) (a' := bnd stmt fun n => stmtsL stmt f (acc' ++ [n])) (b := ret acc) (b' := ret acc') (by rw [tk_sg (by decide) _ _ ht, tk_wd (by decide) _ _ ht, tk_wd (by decide) _ _ ht]; rfl) (fun _ => ?_) (fun _ => sm_ret h)
    exact sb (hp s) (by repeat' (first | exact bs0_ret | exact bs0_take | exact bs0_ref | assumption | exact bs0_sg | exact bs0_nm | exact bs0_nu | exact bs_stmtsL hb _ _ | apply bs0_bnd | apply bs0_look | apply bs0_within | apply bs0_deep | split | intro _)) (by repeat' (first | exact bs0_ret | exact bs0_take | exact bs0_ref | assumption | exact bs0_sg | exact bs0_nm | exact bs0_nu | exact bs_stmtsL hb _ _ | apply bs0_bnd | apply bs0_look | apply bs0_within | apply bs0_deep | split | intro _)) fun n n' s1 hn => ih _ _ (tl_snoc h hn) s1
theorem sim_fieldsL {v : Mv} {typ : P Tree} (hq : Sim v v.tr typ typ) (hc : Bs typ 0) : ∀ (f : Nat) (acc acc' : List Tree), v.tl acc acc' → Sim v v.tl (fieldsL typ f acc) (fieldsL typ f acc') := by
  intro f
  induction f with
  | zero => intro acc acc' h s d a s' e; cases e
  | succ f ih =>
    intro acc acc' h s
    unfold fieldsL
    refine sm_look fun ht => sm_ite (by rw [tk_nm _ _ ht]) (fun _ => ?_) (fun _ => sm_ret h)
    refine sb (sim_field hq hc s) (by repeat' (first | exact bs0_ret | exact bs0_take | exact bs0_ref | assumption | exact bs0_sg | exact bs0_nm | exact bs0_nu | exact bs_fieldsL hc _ _ | exact Bs.le (bs_field hc) (Nat.zero_le _) | apply bs0_bnd | apply bs0_look | apply bs0_within | apply bs0_deep | split | intro _)) (by repeat' (first | exact bs0_ret | exact bs0_take | exact bs0_ref | assumption | exact bs0_sg | exact bs0_nm | exact bs0_nu | exact bs_fieldsL hc _ _ | exact Bs.le (bs_field hc) (Nat.zero_le _) | apply bs0_bnd | apply bs0_look | apply bs0_within | apply bs0_deep | split | intro _)) fun n n' s1 hn => ?_
    exact sb sm_sg (by repeat' (first | exact bs0_ret | exact bs0_take | exact bs0_ref | assumption | exact bs0_sg | exact bs0_nm | exact bs0_nu | exact bs_fieldsL hc _ _ | exact Bs.le (bs_field hc) (Nat.zero_le _) | apply bs0_bnd | apply bs0_look | apply bs0_within | apply bs0_deep | split | intro _)) (by repeat' (first | exact bs0_ret | exact bs0_take | exact bs0_ref | assumption | exact bs0_sg | exact bs0_nm | exact bs0_nu | exact bs_fieldsL hc _ _ | exact Bs.le (bs_field hc) (Nat.zero_le _) | apply bs0_bnd | apply bs0_look | apply bs0_within | apply bs0_deep | split | intro _)) fun _ _ s2 _ => ih _ _ (tl_snoc h hn) s2
theorem sim_record {v : Mv} {typ : P Tree} (hq : Sim v v.tr typ typ) (hc : Bs typ 0) (f : Nat) {s : St} (hn : (nxt v.E1 s).1 ≠ 0) : Sm v v.tr (recordP f typ) (recordP f typ) s := by
  unfold recordP
  refine sb (sm_take hn) (by repeat' (first | exact bs0_ret | exact bs0_take | exact bs0_ref | assumption | exact bs0_sg | exact bs0_nm | exact bs0_nu | exact bs_fieldsL hc _ _ | exact Bs.le (bs_field hc) (Nat.zero_le _) | apply bs0_bnd | apply bs0_look | apply bs0_within | apply bs0_deep | split | intro _)) (by repeat' (first | exact bs0_ret | exact bs0_take | exact bs0_ref | assumption | exact bs0_sg | exact bs0_nm | exact bs0_nu | exact bs_fieldsL hc _ _ | exact Bs.le (bs_field hc) (Nat.zero_le _) | apply bs0_bnd | apply bs0_look | apply bs0_within | apply bs0_deep | split | intro _)) fun _ _ s1 _ => ?_
  refine sb sm_nm (by repeat' (first | exact bs0_ret | exact bs0_take | exact bs0_ref | assumption | exact bs0_sg | exact bs0_nm | exact bs0_nu | exact bs_fieldsL hc _ _ | exact Bs.le (bs_field hc) (Nat.zero_le _) | apply bs0_bnd | apply bs0_look | apply bs0_within | apply bs0_deep | split | intro _)) (by repeat' (first | exact bs0_ret | exact bs0_take | exact bs0_ref | assumption | exact bs0_sg | exact bs0_nm | exact bs0_nu | exact bs_fieldsL hc _ _ | exact Bs.le (bs_field hc) (Nat.zero_le _) | apply bs0_bnd | apply bs0_look | apply bs0_within | apply bs0_deep | split | intro _)) fun a b s2 h => ?_
  refine sb (sim_within (bs_fieldsL hc f []) (bs_fieldsL hc f []) (sim_fieldsL hq hc f [] [] tl_nil)) (by repeat' (first | exact bs0_ret | exact bs0_take | exact bs0_ref | assumption | exact bs0_sg | exact bs0_nm | exact bs0_nu | exact bs_fieldsL hc _ _ | exact Bs.le (bs_field hc) (Nat.zero_le _) | apply bs0_bnd | apply bs0_look | apply bs0_within | apply bs0_deep | split | intro _)) (by repeat' (first | exact bs0_ret | exact bs0_take | exact bs0_ref | assumption | exact bs0_sg | exact bs0_nm | exact bs0_nu | exact bs_fieldsL hc _ _ | exact Bs.le (bs_field hc) (Nat.zero_le _) | apply bs0_bnd | apply bs0_look | apply bs0_within | apply bs0_deep | split | intro _)) fun x y s3 hx => ?_
  rw [h.2.1]
  exact sm_ret (tr_mk h.2.2.2 hx.2)
theorem sim_results {v : Mv} {typ : P Tree} (hq : Sim v v.tr typ typ) (hc : Bs typ 0) (hc1 : Bs typ 1) (f : Nat) : Sim v v.tr (resultsP f typ) (resultsP f typ) := by
  intro s
  unfold resultsP
  refine sm_look fun ht => sm_ite (by rw [tk_sg (by decide) _ _ ht]) (fun h => sm_ret (tr_mk (tk_live ht (sg_live h)).2.2.2 tl_nil)) (fun _ => ?_)
  refine sm_ite (by rw [tk_sg (by decide) _ _ ht]) (fun h => ?_) (fun _ => ?_)
  · exact sb (sim_within (bs_listP hc f) (bs_listP hc f) (sim_listP hq hc f)) (by repeat' (first | exact bs0_ret | exact bs0_take | exact bs0_ref | assumption | exact bs0_sg | exact bs0_nm | exact bs0_nu | exact bs_listP hc f | apply bs0_bnd | apply bs0_look | apply bs0_within | apply bs0_deep | split | intro _)) (by repeat' (first | exact bs0_ret | exact bs0_take | exact bs0_ref | assumption | exact bs0_sg | exact bs0_nm | exact bs0_nu | exact bs_listP hc f | apply bs0_bnd | apply bs0_look | apply bs0_within | apply bs0_deep | split | intro _)) fun x y s1 hx => sm_ret (tr_mk (tk_live ht (sg_live h)).2.2.2 hx.2)
  · rcases (tk_nxt v s).2 with h | h
    · exact sb (hq s) (by repeat' (first | exact bs0_ret | exact bs0_take | exact bs0_ref | assumption | exact bs0_sg | exact bs0_nm | exact bs0_nu | exact bs_listP hc f | apply bs0_bnd | apply bs0_look | apply bs0_within | apply bs0_deep | split | intro _)) (by repeat' (first | exact bs0_ret | exact bs0_take | exact bs0_ref | assumption | exact bs0_sg | exact bs0_nm | exact bs0_nu | exact bs_listP hc f | apply bs0_bnd | apply bs0_look | apply bs0_within | apply bs0_deep | split | intro _)) fun n n' s1 hn => sm_ret (tr_mk h.2.2.2 (tl_cons hn tl_nil))
    · exact sm_dead h (fun E d s => ba_bnd (hc1 E d s) (fun a s' _ => ba_ret) (by omega))
theorem sim_function {v : Mv} {typ : P Tree} (hq : Sim v v.tr typ typ) (hc : Bs typ 0) (hc1 : Bs typ 1) {stmts : P (List Tree)} (hs : Sim v v.tl stmts stmts) (hu : Bs stmts 0) (f : Nat) {s : St} (hn : (nxt v.E1 s).1 ≠ 0) : Sm v v.tr (functionP f typ stmts) (functionP f typ stmts) s := by
  unfold functionP
  refine sb (sm_take hn) (by repeat' (first | exact bs0_ret | exact bs0_take | exact bs0_ref | assumption | exact bs0_sg | exact bs0_nm | exact bs0_nu | exact Bs.le (bs_perhaps (bs_field hc) f) (Nat.zero_le _) | exact Bs.le (bs_results hc f) (Nat.zero_le _) | exact Bs.le (bs_block hu) (Nat.zero_le _) | apply bs0_bnd | apply bs0_look | apply bs0_within | apply bs0_deep | split | intro _)) (by repeat' (first | exact bs0_ret | exact bs0_take | exact bs0_ref | assumption | exact bs0_sg | exact bs0_nm | exact bs0_nu | exact Bs.le (bs_perhaps (bs_field hc) f) (Nat.zero_le _) | exact Bs.le (bs_results hc f) (Nat.zero_le _) | exact Bs.le (bs_block hu) (Nat.zero_le _) | apply bs0_bnd | apply bs0_look | apply bs0_within | apply bs0_deep | split | intro _)) fun _ _ s1 _ => ?_
  refine sb sm_nm (by repeat' (first | exact bs0_ret | exact bs0_take | exact bs0_ref | assumption | exact bs0_sg | exact bs0_nm | exact bs0_nu | exact Bs.le (bs_perhaps (bs_field hc) f) (Nat.zero_le _) | exact Bs.le (bs_results hc f) (Nat.zero_le _) | exact Bs.le (bs_block hu) (Nat.zero_le _) | apply bs0_bnd | apply bs0_look | apply bs0_within | apply bs0_deep | split | intro _)) (by repeat' (first | exact bs0_ret | exact bs0_take | exact bs0_ref | assumption | exact bs0_sg | exact bs0_nm | exact bs0_nu | exact Bs.le (bs_perhaps (bs_field hc) f) (Nat.zero_le _) | exact Bs.le (bs_results hc f) (Nat.zero_le _) | exact Bs.le (bs_block hu) (Nat.zero_le _) | apply bs0_bnd | apply bs0_look | apply bs0_within | apply bs0_deep | split | intro _)) fun a b s2 h => ?_
  refine sm_look fun _ => ?_
  rcases (tk_nxt v s2).2 with ht | ht
  · refine sb (sim_perhaps (sim_field hq hc) (Bs.le (bs_field hc) (Nat.zero_le _)) (bs_field hc) f s2) (by repeat' (first | exact bs0_ret | exact bs0_take | exact bs0_ref | assumption | exact bs0_sg | exact bs0_nm | exact bs0_nu | exact Bs.le (bs_perhaps (bs_field hc) f) (Nat.zero_le _) | exact Bs.le (bs_results hc f) (Nat.zero_le _) | exact Bs.le (bs_block hu) (Nat.zero_le _) | apply bs0_bnd | apply bs0_look | apply bs0_within | apply bs0_deep | split | intro _)) (by repeat' (first | exact bs0_ret | exact bs0_take | exact bs0_ref | assumption | exact bs0_sg | exact bs0_nm | exact bs0_nu | exact Bs.le (bs_perhaps (bs_field hc) f) (Nat.zero_le _) | exact Bs.le (bs_results hc f) (Nat.zero_le _) | exact Bs.le (bs_block hu) (Nat.zero_le _) | apply bs0_bnd | apply bs0_look | apply bs0_within | apply bs0_deep | split | intro _)) fun l l' s3 hl => ?_
    refine sb (sim_results hq hc hc1 f s3) (by repeat' (first | exact bs0_ret | exact bs0_take | exact bs0_ref | assumption | exact bs0_sg | exact bs0_nm | exact bs0_nu | exact Bs.le (bs_perhaps (bs_field hc) f) (Nat.zero_le _) | exact Bs.le (bs_results hc f) (Nat.zero_le _) | exact Bs.le (bs_block hu) (Nat.zero_le _) | apply bs0_bnd | apply bs0_look | apply bs0_within | apply bs0_deep | split | intro _)) (by repeat' (first | exact bs0_ret | exact bs0_take | exact bs0_ref | assumption | exact bs0_sg | exact bs0_nm | exact bs0_nu | exact Bs.le (bs_perhaps (bs_field hc) f) (Nat.zero_le _) | exact Bs.le (bs_results hc f) (Nat.zero_le _) | exact Bs.le (bs_block hu) (Nat.zero_le _) | apply bs0_bnd | apply bs0_look | apply bs0_within | apply bs0_deep | split | intro _)) fun r r' s4 hr => ?_
    refine sb (sim_block hs hu s4) (by repeat' (first | exact bs0_ret | exact bs0_take | exact bs0_ref | assumption | exact bs0_sg | exact bs0_nm | exact bs0_nu | exact Bs.le (bs_perhaps (bs_field hc) f) (Nat.zero_le _) | exact Bs.le (bs_results hc f) (Nat.zero_le _) | exact Bs.le (bs_block hu) (Nat.zero_le _) | apply bs0_bnd | apply bs0_look | apply bs0_within | apply bs0_deep | split | intro _)) (by repeat' (first | exact bs0_ret | exact bs0_take | exact bs0_ref | assumption | exact bs0_sg | exact bs0_nm | exact bs0_nu | exact Bs.le (bs_perhaps (bs_field hc) f) (Nat.zero_le _) | exact Bs.le (bs_results hc f) (Nat.zero_le _) | exact Bs.le (bs_block hu) (Nat.zero_le _) | apply bs0_bnd | apply bs0_look | apply bs0_within | apply bs0_deep | split | intro _)) fun k k' s5 hk => ?_
    rw [h.2.1]
    exact sm_ret (tr_mk h.2.2.2 (tl_cons (tr_mk ht.2.2.2 hl) (tl_cons hr (tl_cons hk tl_nil))))
  · exact sm_dead ht (fun E d s => ba_bnd (bs_perhaps (bs_field hc) f E d s) (fun l s3 _ => ba_bnd (bs_results hc f E d s3) (fun r s4 _ => ba_bnd (bs_block hu E d s4) (fun k s5 _ => ba_ret) (c := 0) (by omega)) (c := 0) (by omega)) (by omega))
theorem R_sim {v : Mv}  : ∀ f : Nat, Sim v v.tr (R f).typ (R f).typ ∧ Sim v v.tr (R f).unary (R f).unary ∧ Sim v v.tr (R f).expr (R f).expr ∧ (∀ s, (nxt v.E1 s).1 ≠ 0 → Sm v v.tr (R f).branch (R f).branch s) ∧ Sim v v.tl (R f).stmts (R f).stmts := by
  intro f
  induction f with
  | zero => exact ⟨fun s d a s' e => (by cases e), fun s d a s' e => (by cases e), fun s d a s' e => (by cases e), fun s _ d a s' e => (by cases e), fun s d a s' e => (by cases e)⟩
  | succ f ih =>
    obtain ⟨ht, hu, he, hb, hs⟩ := ih
    obtain ⟨kt, ku, ke, kb, ks⟩ := R_bs f
    have kb0 : Bs (R f).branch 0 := fun E d s => (kb E d s).1
    have kt0 := kt.le (Nat.zero_le _)
    have ku0 := ku.le (Nat.zero_le _)
    have ke0 := ke.le (Nat.zero_le _)
    exact ⟨sim_typeP ht kt0, sim_unary hu ku0 ht kt0 he ke0 ke f, sim_lineP hu ku0 f 5, fun s hn => sim_branch hb kb0 he ke0 hs ks hn, sim_stmtsL (sim_stmt hb kb0 he ke0 ke hs ks f) ((bs_stmt kb ke ks f).le (Nat.zero_le _)) f [] [] tl_nil⟩
end Go.Proofs.YtkagkofgfjhfgaaGreatDoor
