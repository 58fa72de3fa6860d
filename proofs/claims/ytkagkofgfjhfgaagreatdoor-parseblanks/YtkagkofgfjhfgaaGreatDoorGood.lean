/-
  WHAT IS READ IS GOOD: its texts are made of bytes, no node has too many parts.
-/
import Derived.Test.YtkagkofgfjhfgaaGreatDoorJCkCheck
import Derived.Test.YtkagkofgfjhfgaaGreatDoorPReadS
namespace Go.Proofs.YtkagkofgfjhfgaaGreatDoor
set_option linter.unusedVariables false

def Gs {A : Type} (m : P A) (Q : A → Prop) : Prop := ∀ E d s a s', (∀ t ∈ s.rest, goodT t) → m E d s = some (a, s') → Q a ∧ ∀ t ∈ s'.rest, goodT t
def gL (c : Nat) (ks : List Tree) : Prop := goodTr.goodTL ks ∧ ks.length ≤ c
theorem Gs.imp {A : Type} {m : P A} {Q U : A → Prop} (h : Gs m Q) (hq : ∀ a, Q a → U a) : Gs m U := fun E d s a s' h1 h2 => ⟨hq a (h E d s a s' h1 h2).1, (h E d s a s' h1 h2).2⟩
theorem gs_ret {A : Type} {a : A} {Q : A → Prop} (h : Q a) : Gs (ret a) Q := by
  rintro E d s _ _ h1 ⟨⟩
  exact ⟨h, h1⟩
theorem gs_none {A : Type} {Q : A → Prop} : Gs (fun _ _ _ => none : P A) Q := by rintro E d s _ _ h1 ⟨⟩
theorem gs_bnd {A C : Type} {m : P A} {f : A → P C} {Q : A → Prop} {U : C → Prop} (h : Gs m Q) (h2 : ∀ a, Q a → Gs (f a) U) : Gs (bnd m f) U := by
  intro E d s c s' hs e
  unfold bnd at e
  match hm : m E d s, e with
  | some (a, s1), e =>
    obtain ⟨q1, q2⟩ := h E d s a s1 hs hm
    exact h2 a q1 E d s1 c s' q2 e
theorem good_end (E : Nat) : goodT (0, [], 0, E, 0) := ⟨by simp, by simp⟩
theorem ahead_good {E : Nat} {s : St} (hs : ∀ t ∈ s.rest, goodT t) (i : Nat) : goodT (aheadT E s i) := by
  unfold aheadT
  rw [List.getD_eq_getElem?_getD]
  cases h : s.rest[i]? with
  | none => exact good_end E
  | some t => exact hs t (List.mem_of_getElem? h)
theorem pop_good {s : St} (hs : ∀ t ∈ s.rest, goodT t) : ∀ t ∈ (popS s).rest, goodT t := fun t ht => hs t (List.mem_of_mem_tail ht)
theorem fail_good {p e : Nat} {s : St} (hs : ∀ t ∈ s.rest, goodT t) : ∀ t ∈ (failS p e s).rest, goodT t := by
  unfold failS
  split
  · intro t ht; cases ht
  · exact hs
theorem gs_look {A : Type} {f : Tok → P A} {Q : A → Prop} (h : ∀ t, goodT t → Gs (f t) Q) : Gs (look f) Q := fun E d s a s' hs e => h _ (ahead_good hs 0) E d s a s' hs e
theorem gs_take : Gs takeT goodT := by
  rintro E d s _ _ hs ⟨⟩
  exact ⟨ahead_good hs 0, pop_good hs⟩
theorem gs_need {q : Tok → Bool} : Gs (needW q) goodT := by
  intro E d s a s' hs e
  unfold needW look needT at e
  simp only [] at e
  split at e
  · cases e; exact ⟨ahead_good hs 0, pop_good hs⟩
  · cases e; exact ⟨⟨by simp [noT], by simp [noT]⟩, fail_good hs⟩
theorem good_mk {k : Nat} {a : Int} {x : List Nat} {n : Nat} {ks : List Tree} (hx : GoodX x) (hl : ks.length ≤ 1000000) (hk : goodTr.goodTL ks) : goodTr ⟨k, a, x, n, ks⟩ := by rw [goodTr]; exact ⟨hx, hl, hk⟩
theorem goodX_nil : GoodX [] := ⟨by simp, by simp⟩
theorem tl0 : goodTr.goodTL [] := by rw [goodTr.goodTL]; trivial
theorem tl1 {t : Tree} {ts : List Tree} (h : goodTr t) (h2 : goodTr.goodTL ts) : goodTr.goodTL (t :: ts) := by rw [goodTr.goodTL]; exact ⟨h, h2⟩
theorem tla : ∀ {a b : List Tree}, goodTr.goodTL a → goodTr.goodTL b → goodTr.goodTL (a ++ b) := by
  intro a
  induction a with
  | nil => intro b _ h; exact h
  | cons t ts ih => intro b h h2; rw [goodTr.goodTL] at h; exact tl1 h.1 (ih h.2 h2)
theorem good_leaf {k : Nat} {a : Int} {x : List Nat} {n : Nat} (hx : GoodX x) : goodTr ⟨k, a, x, n, []⟩ := good_mk hx (by simp) tl0
theorem gs_ref : Gs refP goodTr := by
  rintro E d s _ _ hs ⟨⟩
  exact ⟨good_leaf goodX_nil, fail_good hs⟩
theorem gs_deep {A : Type} {t : Tok} {m : P A} {Q : A → Prop} (h : Gs m Q) : Gs (deeper t m) Q := by
  intro E d s a s' hs e
  refine h E (d + 1) (deepS d t s) a s' ?_ e
  unfold deepS
  split
  · exact fail_good hs
  · exact hs
theorem gs_within {A : Type} {x y : List Nat} {m : P A} {Q : A → Prop} (h : Gs m Q) : Gs (within x y m) (fun p => goodT p.1 ∧ Q p.2) :=
  gs_bnd gs_need fun t ht => gs_bnd (gs_deep h) fun a ha => gs_bnd gs_need fun _ _ => gs_ret ⟨ht, ha⟩
theorem gs_ite {A : Type} {c : Prop} [Decidable c] {a b : P A} {Q : A → Prop} (h1 : Gs a Q) (h2 : Gs b Q) : Gs (if c then a else b) Q := by split <;> assumption
theorem good_at (t : Tree) (h : goodTr t) : GoodX t.text ∧ t.kids.length ≤ 1000000 ∧ goodTr.goodTL t.kids := (good_parts t).1 h

/-! ### The functions one by one -/
theorem g_listL {part : P Tree} (hp : Gs part goodTr) : ∀ (f : Nat) (acc : List Tree), goodTr.goodTL acc → Gs (listL part f acc) (gL (acc.length + f)) := by
  intro f
  induction f with
  | zero => intro acc hacc; exact gs_none
  | succ f ih =>
    intro acc hacc
    unfold listL
    exact gs_look fun t _ => gs_ite (gs_bnd gs_take fun _ _ => gs_bnd hp fun n hn => (ih (acc ++ [n]) (tla hacc (tl1 hn tl0))).imp fun l hl => ⟨hl.1, by have := hl.2; simp at this; omega⟩) (gs_ret ⟨hacc, by omega⟩)
theorem g_listP {part : P Tree} (hp : Gs part goodTr) (f : Nat) : Gs (listP f part) (gL (f + 1)) := by
  unfold listP
  exact gs_bnd hp fun n hn => (g_listL hp f [n] (tl1 hn tl0)).imp fun l hl => ⟨hl.1, by have := hl.2; simp at this; omega⟩
theorem g_perhaps {part : P Tree} (hp : Gs part goodTr) (f : Nat) : Gs (perhaps f part) (gL (f + 1)) := by
  unfold perhaps
  exact gs_bnd (gs_within (gs_look fun t _ => gs_ite (gs_ret ⟨tl0, by simp⟩) (g_listP hp f))) fun x hx => gs_ret hx.2
theorem g_typeP {rec : P Tree} (hp : Gs rec goodTr) : Gs (typeP rec) goodTr := by
  unfold typeP
  refine gs_look fun t _ => gs_ite (gs_bnd gs_take fun t ht => gs_ret (good_leaf ht)) (gs_ite ?_ gs_ref)
  exact gs_bnd (gs_within (Q := fun _ => True) (gs_look fun c _ => gs_ite (gs_bnd gs_take fun _ _ => gs_ret trivial) (gs_ret trivial))) fun x _ => gs_bnd (gs_deep hp) fun k hk => gs_ret (good_mk goodX_nil (by simp) (tl1 hk tl0))
theorem g_lineL {k : Nat} {next : P Tree} (hp : Gs next goodTr) : ∀ (f : Nat) (n : Tree), goodTr n → Gs (lineL k next f n) goodTr := by
  intro f
  induction f with
  | zero => intro n hn; exact gs_none
  | succ f ih =>
    intro n hn
    unfold lineL
    refine gs_look fun t _ => gs_ite (gs_ret hn) (gs_bnd gs_take fun t _ => gs_bnd hp fun m hm => ?_)
    exact gs_ite (gs_ret (good_mk goodX_nil (by simp) (tl1 hn (tl1 hm tl0)))) (ih _ (good_mk goodX_nil (by simp) (tl1 hn (tl1 hm tl0))))
theorem g_lineP {unary : P Tree} (hp : Gs unary goodTr) (f : Nat) : ∀ j : Nat, Gs (lineP unary f j) goodTr := by
  intro j
  induction j with
  | zero => exact hp
  | succ j ih => unfold lineP; exact gs_bnd ih fun n hn => g_lineL ih f n hn
theorem g_tailsL {expr : P Tree} (he : Gs expr goodTr) : ∀ (f : Nat) (n : Tree), goodTr n → Gs (tailsL expr f n) goodTr := by
  intro f
  induction f with
  | zero => intro n hn; exact gs_none
  | succ f ih =>
    intro n hn
    unfold tailsL
    refine gs_look fun t _ => gs_ite (gs_bnd gs_take fun _ _ => gs_bnd gs_need fun m hm => ih _ (good_mk hm (by simp) (tl1 hn tl0))) (gs_ite ?_ (gs_ret hn))
    exact gs_bnd (gs_within he) fun x hx => ih _ (good_mk goodX_nil (by simp) (tl1 hn (tl1 hx.2 tl0)))
theorem g_whole  : Gs wholeP goodTr := by
  unfold wholeP
  exact gs_bnd gs_need fun t ht => gs_ret (good_leaf ht)
theorem g_used  : Gs usedP goodTr := by
  unfold usedP
  exact gs_bnd gs_need fun t ht => gs_ret (good_leaf ht)
theorem g_new  : Gs newP goodTr := by
  unfold newP
  exact gs_bnd gs_need fun t ht => gs_ret (good_leaf ht)
theorem g_call {expr : P Tree} (he : Gs expr goodTr) (f : Nat) (hf : f ≤ 300000) : Gs (callP f expr) goodTr := by
  unfold callP
  refine gs_bnd g_used fun n hn => gs_look fun t _ => gs_ite (gs_bnd (g_perhaps he f) fun l hl => gs_ret (good_mk (good_at n hn).1 (by have := hl.2; omega) hl.1)) (gs_ret hn)
theorem g_valsL {expr : P Tree} (he : Gs expr goodTr) : ∀ (k i : Nat) (acc : List Tree), goodTr.goodTL acc → Gs (valsL expr k i acc) (gL (acc.length + k)) := by
  intro k
  induction k with
  | zero => intro i acc h; exact gs_ret ⟨h, by omega⟩
  | succ k ih =>
    intro i acc h
    unfold valsL
    have key : ∀ n, goodTr n → Gs (valsL expr k (i + 1) (acc ++ [n])) (gL (acc.length + (k + 1))) := fun n hn => (ih (i + 1) (acc ++ [n]) (tla h (tl1 hn tl0))).imp fun l hl => ⟨hl.1, by have := hl.2; simp at this; omega⟩
    exact gs_ite (gs_bnd gs_need fun _ _ => gs_bnd he key) (gs_bnd he key)
theorem g_with {expr : P Tree} (he : Gs expr goodTr) (k n : Nat) (hn : n ≤ 300000) : Gs (withP expr k n) goodTr := by
  unfold withP
  exact gs_bnd gs_take fun t _ => gs_bnd (gs_within (g_valsL he n 0 [] tl0)) fun x hx => gs_ret (good_mk goodX_nil (by have := hx.2.2; simp at this; omega) hx.2.1)
theorem g_given {expr : P Tree} (he : Gs expr goodTr) (f : Nat) (hf : f ≤ 300000) : Gs (givenP f expr) goodTr := by
  unfold givenP
  refine gs_look fun t ht => gs_ite (gs_bnd (g_with he 46 1 (by omega)) fun n hn => gs_ret (good_mk ht (good_at n hn).2.1 (good_at n hn).2.2)) ?_
  exact gs_ite (g_with he _ _ (by omega)) (gs_ite (g_with he _ _ (by omega)) (gs_ite (g_with he _ _ (by omega)) (gs_ite (g_with he _ _ (by omega)) (g_call he f hf))))
theorem g_primary {typ expr : P Tree} (ht : Gs typ goodTr) (he : Gs expr goodTr) (f : Nat) (hf : f ≤ 300000) : Gs (primaryP f typ expr) goodTr := by
  unfold primaryP
  refine gs_look fun t _ => gs_ite g_whole (gs_ite (gs_bnd gs_take fun t ht => gs_ret (good_leaf ht)) (gs_ite (gs_bnd (gs_within he) fun x hx => gs_ret hx.2) ?_))
  refine gs_ite (gs_bnd gs_take fun t _ => gs_ret (good_leaf goodX_nil)) (gs_ite (gs_bnd gs_take fun t _ => gs_ret (good_leaf goodX_nil)) (gs_ite ?_ (g_given he f hf)))
  exact gs_bnd gs_take fun t _ => gs_bnd ht fun k hk => gs_bnd (g_perhaps he f) fun l hl => gs_ret (good_mk goodX_nil (by have := hl.2; simp; omega) (tl1 hk hl.1))
theorem g_unary {rec typ expr : P Tree} (hr : Gs rec goodTr) (ht : Gs typ goodTr) (he : Gs expr goodTr) (f : Nat) (hf : f ≤ 300000) : Gs (unaryP f rec typ expr) goodTr := by
  unfold unaryP
  refine gs_look fun t _ => gs_ite (gs_bnd (g_primary ht he f hf) fun n hn => g_tailsL he f n hn) ?_
  exact gs_bnd gs_take fun s _ => gs_bnd (gs_deep hr) fun n hn => gs_ret (good_mk goodX_nil (by simp) (tl1 hn tl0))
theorem g_field {typ : P Tree} (ht : Gs typ goodTr) : Gs (fieldP typ) goodTr := by
  unfold fieldP
  exact gs_bnd gs_need fun t hx => gs_bnd ht fun k hk => gs_ret (good_mk hx (by simp) (tl1 hk tl0))
theorem g_block {stmts : P (List Tree)} (hs : Gs stmts (gL 300000)) : Gs (blockP stmts) goodTr := by
  unfold blockP
  exact gs_bnd (gs_within hs) fun x hx => gs_ret (good_mk goodX_nil (by have := hx.2.2; omega) hx.2.1)
theorem g_do {n : Tree} (h : goodTr n) : goodTr (doP n) := by
  unfold doP
  exact good_mk goodX_nil (by simp) (tl1 h tl0)
theorem g_setL  : ∀ (f : Nat) (go : Bool) (acc : List Tree), goodTr.goodTL acc → Gs (setL f go acc) (gL (acc.length + f)) := by
  intro f
  induction f with
  | zero => intro go acc hacc; exact gs_none
  | succ f ih =>
    intro go acc hacc
    unfold setL
    exact gs_look fun t _ => gs_ite (gs_bnd gs_take fun _ _ => gs_bnd g_used fun n hn => (ih go (acc ++ [n]) (tla hacc (tl1 hn tl0))).imp fun l hl => ⟨hl.1, by have := hl.2; simp at this; omega⟩) (gs_ret ⟨hacc, by omega⟩)
theorem g_simple {expr : P Tree} (he : Gs expr goodTr) (f : Nat) (hf : f ≤ 300000) : Gs (simpleP f expr) goodTr := by
  unfold simpleP
  refine gs_look fun t _ => gs_ite (gs_bnd (g_with he 54 2 (by omega)) fun n hn => gs_ret (g_do hn)) ?_
  refine gs_bnd (g_call he f hf) fun n hn => gs_bnd (g_tailsL he f n hn) fun n hn => gs_ite (gs_ret (g_do hn)) ?_
  exact gs_bnd (g_setL f _ [n] (tl1 hn tl0)) fun l hl => gs_bnd gs_need fun t _ => gs_bnd he fun x hx => gs_ret (good_mk goodX_nil (by have := hl.2; simp at this ⊢; omega) (tla hl.1 (tl1 hx tl0)))
theorem g_var {expr : P Tree} (he : Gs expr goodTr) (f : Nat) (hf : f ≤ 300000) : Gs (varP f expr) goodTr := by
  unfold varP
  refine gs_look fun t _ => gs_ite ?_ (g_simple he f hf)
  exact gs_bnd gs_take fun t _ => gs_bnd (g_listP g_new f) fun l hl => gs_bnd gs_need fun _ _ => gs_bnd he fun x hx => gs_ret (good_mk goodX_nil (by have := hl.2; simp; omega) (tla hl.1 (tl1 hx tl0)))
theorem g_away (k : Nat) : Gs (awayP k) goodTr := by
  unfold awayP
  exact gs_bnd gs_take fun t _ => gs_look fun m _ => gs_ite (gs_bnd gs_take fun m hm => gs_ret (good_leaf hm)) (gs_ret (good_leaf goodX_nil))
theorem g_plain {expr : P Tree} (he : Gs expr goodTr) (f : Nat) (hf : f ≤ 300000) : Gs (plainP f expr) goodTr := by
  unfold plainP
  refine gs_look fun t _ => gs_ite (g_away _) (gs_ite (g_away _) (gs_ite ?_ (gs_ite ?_ (g_var he f hf))))
  · exact gs_bnd gs_take fun t _ => gs_look fun m _ => gs_ite (gs_ret (good_leaf goodX_nil)) (gs_bnd (g_listP he f) fun l hl => gs_ret (good_mk goodX_nil (by have := hl.2; omega) hl.1))
  · exact gs_bnd gs_take fun t _ => gs_bnd gs_need fun c _ => gs_ret (good_leaf goodX_nil)
theorem g_unless {x : List Nat} {part : P Tree} (hp : Gs part goodTr) : Gs (unlessP x part) goodTr := by
  unfold unlessP
  exact gs_look fun t _ => gs_ite (gs_ret (good_leaf goodX_nil)) hp
theorem g_rounds {expr : P Tree} (he : Gs expr goodTr) {stmts : P (List Tree)} (hs : Gs stmts (gL 300000)) (f : Nat) (hf : f ≤ 300000) : Gs (roundsP f expr stmts) (gL 300000) := by
  unfold roundsP
  exact gs_bnd (g_unless (g_var he f hf)) fun a ha => gs_bnd gs_need fun _ _ => gs_bnd (g_unless he) fun b hb => gs_bnd gs_need fun _ _ => gs_bnd (g_unless (g_simple he f hf)) fun c hc => gs_bnd (g_block hs) fun k hk => gs_ret ⟨tl1 ha (tl1 hb (tl1 hc (tl1 hk tl0))), by simp⟩
theorem g_const  : Gs constP goodTr := by
  unfold constP
  exact gs_look fun t _ => gs_ite (gs_bnd gs_take fun t _ => gs_bnd g_whole fun n hn => gs_ret (good_mk goodX_nil (by simp) (tl1 hn tl0))) g_whole
theorem g_arm {stmts : P (List Tree)} (hs : Gs stmts (gL 300000)) : Gs (armP stmts) goodTr := by
  unfold armP
  exact gs_bnd gs_need fun t _ => gs_bnd hs fun l hl => gs_ret (good_mk goodX_nil (by have := hl.2; omega) hl.1)
theorem g_caseL {stmts : P (List Tree)} (hs : Gs stmts (gL 300000)) {g : Nat} (hg : g ≤ 300000) : ∀ (f : Nat) (acc : List Tree), goodTr.goodTL acc → Gs (caseL g stmts f acc) (gL (acc.length + f)) := by
  intro f
  induction f with
  | zero => intro acc hacc; exact gs_none
  | succ f ih =>
    intro acc hacc
    unfold caseL
    refine gs_look fun t _ => gs_ite (gs_bnd gs_take fun t _ => gs_bnd (g_listP g_const g) fun l hl => gs_bnd (g_arm hs) fun a ha => ?_) (gs_ret ⟨hacc, by omega⟩)
    exact (ih _ (tla hacc (tl1 (good_mk goodX_nil (by have := hl.2; simp; omega) (tla hl.1 (tl1 ha tl0))) tl0))).imp fun l hl => ⟨hl.1, by have := hl.2; simp at this; omega⟩
theorem g_choice {expr : P Tree} (he : Gs expr goodTr) {stmts : P (List Tree)} (hs : Gs stmts (gL 300000)) (f : Nat) (hf : f ≤ 300000) : Gs (choiceP f expr stmts) (gL 300002) := by
  unfold choiceP
  refine gs_bnd he fun x hx => gs_bnd (gs_within (Q := gL 300002) (gs_bnd (g_caseL hs hf f [x] (tl1 hx tl0)) fun l hl => gs_look fun t _ => gs_ite ?_ (gs_ret ⟨hl.1, by have := hl.2; simp at this; omega⟩))) fun y hy => gs_ret hy.2
  exact gs_bnd gs_take fun t _ => gs_bnd (g_arm hs) fun a ha => gs_ret ⟨tla hl.1 (tl1 (good_mk goodX_nil (by simp) (tl1 ha tl0)) tl0), by have := hl.2; simp at this ⊢; omega⟩
theorem g_turn {expr : P Tree} (he : Gs expr goodTr) {stmts : P (List Tree)} (hs : Gs stmts (gL 300000)) (f : Nat) (hf : f ≤ 300000) (lb : List Nat) (hlb : GoodX lb) : Gs (turnP f lb expr stmts) goodTr := by
  unfold turnP
  refine gs_bnd gs_need fun t _ => gs_ite ?_ (gs_ite ?_ (gs_ite ?_ (gs_ret (good_leaf hlb))))
  · exact gs_bnd he fun x hx => gs_bnd (g_block hs) fun k hk => gs_ret (good_mk hlb (by simp) (tl1 hx (tl1 hk tl0)))
  · exact gs_bnd (g_rounds he hs f hf) fun l hl => gs_ret (good_mk hlb (by have := hl.2; omega) hl.1)
  · exact gs_bnd (g_choice he hs f hf) fun l hl => gs_ret (good_mk hlb (by have := hl.2; omega) hl.1)
theorem g_branch {rec expr : P Tree} (hr : Gs rec goodTr) (he : Gs expr goodTr) {stmts : P (List Tree)} (hs : Gs stmts (gL 300000)) : Gs (branchP rec expr stmts) goodTr := by
  unfold branchP
  refine gs_bnd gs_take fun t _ => gs_bnd he fun x hx => gs_bnd (g_block hs) fun k hk => gs_look fun e _ => gs_ite ?_ (gs_ret (good_mk goodX_nil (by simp) (tl1 hx (tl1 hk tl0))))
  refine gs_bnd gs_take fun o _ => gs_look fun i _ => gs_ite ?_ ?_
  · exact gs_bnd (gs_deep hr) fun n hn => gs_ret (good_mk goodX_nil (by simp) (tl1 hx (tl1 hk (tl1 hn tl0))))
  · exact gs_bnd (g_block hs) fun n hn => gs_ret (good_mk goodX_nil (by simp) (tl1 hx (tl1 hk (tl1 hn tl0))))
theorem g_ife {A : Type} {c : Nat → St → Prop} [hdc : ∀ E s, Decidable (c E s)] {a b : P A} {Q : A → Prop} (h1 : Gs a Q) (h2 : Gs b Q) : Gs (fun E d s => if c E s then a E d s else b E d s) Q := by
  intro E d s x s' hs e
  simp only [] at e
  split at e
  · exact h1 E d s x s' hs e
  · exact h2 E d s x s' hs e
theorem g_stmt {branch expr : P Tree} (hb : Gs branch goodTr) (he : Gs expr goodTr) {stmts : P (List Tree)} (hs : Gs stmts (gL 300000)) (f : Nat) (hf : f ≤ 300000) : Gs (stmtP f branch expr stmts) goodTr := by
  unfold stmtP
  refine g_ife (c := fun E s => sg [123] (nxt E s) = true) (g_block hs) (g_ife (c := fun E s => wd [105, 102] (nxt E s) = true) hb (g_ife (c := fun E s => turnW (nxt E s) = true) (g_turn he hs f hf [] goodX_nil) (g_ife (c := fun E s => labelB E s = true) ?_ ?_)))
  · exact gs_bnd gs_take fun l hl => gs_bnd gs_take fun _ _ => g_turn he hs f hf _ hl
  · exact gs_bnd (g_plain he f hf) fun n hn => gs_bnd gs_need fun _ _ => gs_ret hn
theorem g_stmtsL {stmt : P Tree} (hp : Gs stmt goodTr) : ∀ (f : Nat) (acc : List Tree), goodTr.goodTL acc → Gs (stmtsL stmt f acc) (gL (acc.length + f)) := by
  intro f
  induction f with
  | zero => intro acc hacc; exact gs_none
  | succ f ih =>
    intro acc hacc
    unfold stmtsL
    exact g_ife (c := fun E s => s.wrong = 0 ∧ sg [125] (nxt E s) = false ∧ (wd [99, 97, 115, 101] (nxt E s) || wd [100, 101, 102, 97, 117, 108, 116] (nxt E s)) = false) (a := bnd stmt fun n => stmtsL stmt f (acc ++ [n])) (b := ret acc) (gs_bnd hp fun n hn => (ih (acc ++ [n]) (tla hacc (tl1 hn tl0))).imp fun l hl => ⟨hl.1, by have := hl.2; simp at this; omega⟩) (gs_ret ⟨hacc, by omega⟩)
theorem g_fieldsL {typ : P Tree} (ht : Gs typ goodTr) : ∀ (f : Nat) (acc : List Tree), goodTr.goodTL acc → Gs (fieldsL typ f acc) (gL (acc.length + f)) := by
  intro f
  induction f with
  | zero => intro acc hacc; exact gs_none
  | succ f ih =>
    intro acc hacc
    unfold fieldsL
    exact gs_look fun t _ => gs_ite (gs_bnd (g_field ht) fun n hn => gs_bnd gs_need fun _ _ => (ih (acc ++ [n]) (tla hacc (tl1 hn tl0))).imp fun l hl => ⟨hl.1, by have := hl.2; simp at this; omega⟩) (gs_ret ⟨hacc, by omega⟩)
theorem g_record {typ : P Tree} (ht : Gs typ goodTr) (f : Nat) (hf : f ≤ 300000) : Gs (recordP f typ) goodTr := by
  unfold recordP
  exact gs_bnd gs_take fun _ _ => gs_bnd gs_need fun t hx => gs_bnd (gs_within (g_fieldsL ht f [] tl0)) fun x hl => gs_ret (good_mk hx (by have := hl.2.2; simp at this; omega) hl.2.1)
theorem g_results {typ : P Tree} (ht : Gs typ goodTr) (f : Nat) (hf : f ≤ 300000) : Gs (resultsP f typ) goodTr := by
  unfold resultsP
  refine gs_look fun t _ => gs_ite (gs_ret (good_leaf goodX_nil)) (gs_ite ?_ ?_)
  · exact gs_bnd (gs_within (g_listP ht f)) fun x hl => gs_ret (good_mk goodX_nil (by have := hl.2.2; omega) hl.2.1)
  · exact gs_bnd ht fun n hn => gs_ret (good_mk goodX_nil (by simp) (tl1 hn tl0))
theorem g_function {typ : P Tree} (ht : Gs typ goodTr) {stmts : P (List Tree)} (hs : Gs stmts (gL 300000)) (f : Nat) (hf : f ≤ 300000) : Gs (functionP f typ stmts) goodTr := by
  unfold functionP
  exact gs_bnd gs_take fun _ _ => gs_bnd gs_need fun t hx => gs_look fun p _ => gs_bnd (g_perhaps (g_field ht) f) fun l hl => gs_bnd (g_results ht f hf) fun r hr => gs_bnd (g_block hs) fun k hk => gs_ret (good_mk hx (by simp) (tl1 (good_mk goodX_nil (by have := hl.2; omega) hl.1) (tl1 hr (tl1 hk tl0))))
theorem g_programL {typ : P Tree} (ht : Gs typ goodTr) {stmts : P (List Tree)} (hs : Gs stmts (gL 300000)) {g : Nat} (hg : g ≤ 300000) : ∀ (f : Nat) (acc : List Tree), goodTr.goodTL acc → acc.length + f ≤ 300000 → Gs (programL g typ stmts f acc) goodTr := by
  intro f
  induction f with
  | zero => intro acc h hl; exact gs_none
  | succ f ih =>
    intro acc h hl
    unfold programL
    have key : ∀ n, goodTr n → Gs (programL g typ stmts f (acc ++ [n])) goodTr := fun n hn => ih (acc ++ [n]) (tla h (tl1 hn tl0)) (by simp; omega)
    exact gs_look fun t _ => gs_ite (gs_bnd (g_record ht g hg) key) (gs_ite (gs_bnd (g_function ht hs g hg) key) (gs_ret (good_mk goodX_nil (by omega) h)))
theorem R_good  : ∀ f : Nat, f ≤ 300000 → Gs (R f).typ goodTr ∧ Gs (R f).unary goodTr ∧ Gs (R f).expr goodTr ∧ Gs (R f).branch goodTr ∧ Gs (R f).stmts (gL 300000) := by
  intro f
  induction f with
  | zero => intro _; exact ⟨gs_none, gs_none, gs_none, gs_none, gs_none⟩
  | succ f ih =>
    intro hf
    obtain ⟨ht, hu, he, hb, hs⟩ := ih (by omega)
    have hf' : f ≤ 300000 := by omega
    exact ⟨g_typeP ht, g_unary hu ht he f hf', g_lineP hu f 5, g_branch hb he hs, (g_stmtsL (g_stmt hb he hs f hf') f [] tl0).imp fun l hl => ⟨hl.1, by have := hl.2; simp at this; omega⟩⟩
theorem program_good  : Gs (programP 300000) goodTr := by
  obtain ⟨ht, hu, he, hb, hs⟩ := R_good 300000 (Nat.le_refl _)
  unfold programP
  exact g_programL ht hs (Nat.le_refl _) 300000 [] tl0 (by simp)
theorem read_good {m : P Tree} (hm : Gs m goodTr) {l : List Nat} (hl : ∀ c ∈ l, c < 256) {t : Tree} (h : readS m l = some (.ok t)) : goodTr t := by
  unfold readS at h
  cases ht : tokens l with
  | error e => rw [ht] at h; cases h
  | ok ts =>
    rw [ht] at h
    have h : readP m l.length ts = some (.ok t) := h
    unfold readP at h
    match hq : m l.length 0 ⟨ts, 0, 0⟩, h with
    | some (n, s), h =>
      have hg := (hm _ _ _ _ _ (fun u hu => (tokens_good l ts ht hl).2 u hu) hq).1
      have h := Option.some.inj h
      simp only [] at h
      generalize (if s.rest.isEmpty = true then s else refS l.length s) = s1 at h
      split at h
      · cases h; exact hg
      · cases h
end Go.Proofs.YtkagkofgfjhfgaaGreatDoor
