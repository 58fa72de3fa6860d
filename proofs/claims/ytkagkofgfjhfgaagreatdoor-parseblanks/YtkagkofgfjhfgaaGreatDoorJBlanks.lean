/-
  Texts joined: Kit, Mono, BlTok, BlMath.
-/
import Derived.Test.YtkagkofgfjhfgaaGreatDoorJOne
import Derived.Test.YtkagkofgfjhfgaaGreatDoorJTot
import Derived.Test.YtkagkofgfjhfgaaGreatDoorJRowsMath
import Derived.Test.YtkagkofgfjhfgaaGreatDoorKShift2

/-
  CONTRACTS of the kit's Pick, SameTokens, SpoilTokens.
-/
namespace Go.Proofs.YtkagkofgfjhfgaaGreatDoor
open Go.RowKit
set_option linter.unusedVariables false

theorem pick_as (i n k : Int) (hn : 1 ≤ n) (hm : n ≤ 1048576) (hk : i % n = k) (hi : -9223372036854775808 ≤ i ∧ i ≤ 9223372036854775807) (w : World) :
    Calls Tryz.prog 15 #[.int .i64 i, .int .i64 n] w fun e w' => e = .returned (.int .i64 k) ∧ w = w' := by
  have n0 : ¬ n = 0 := by omega
  have e := Int.tmod_eq_emod (a := i) (b := n)
  have h1 := Int.emod_nonneg i n0
  have h2 := Int.emod_lt_of_pos i (show 0 < n by omega)
  have h3 : -1048576 < i.tmod n ∧ i.tmod n < 1048576 := by split at e <;> omega
  have h4 : i.tmod n < 0 → i.tmod n + n = k := by intro q; split at e <;> omega
  have h5 : ¬ i.tmod n < 0 → i.tmod n = k := by intro q; split at e <;> omega
  obtain ⟨t, ht⟩ : ∃ t, i.tmod n = t := ⟨_, rfl⟩
  rw [ht] at h3 h4 h5
  clear e h1 h2 hk hi
  by_cases hneg : t < 0
  · have h6 := h4 hneg
    clear h4 h5
    go_enter Tryz.func15, Tryz.ntmps15
    go_wp2
    go_ret
    exact ⟨rfl, rfl⟩
  · have h6 := h5 hneg
    clear h4 h5
    go_enter Tryz.func15, Tryz.ntmps15
    go_wp2
    go_ret
    exact ⟨rfl, rfl⟩

/-- Tokens lie there. -/
def TokLies (w : World) (ao : Option Addr) (ts : List (Nat × List Nat × Nat × Nat × Nat)) : Prop :=
  ts = [] ∨ ∃ b, ao = some ⟨b, 0, none⟩ ∧ ∀ i, i < ts.length * 5 → w.cell? ⟨b, i, none⟩ = (rowT ts)[i]?
theorem rowT_get (ts : List (Nat × List Nat × Nat × Nat × Nat)) (k j : Nat) (hk : k < ts.length) (hj : j < 5) : (rowT ts)[k * 5 + j]? = (cellsT ts[k])[j]? := by
  induction ts generalizing k with
  | nil => simp at hk
  | cons t r ih =>
    have e : rowT (t :: r) = cellsT t ++ rowT r := by simp [rowT]
    have hl : (cellsT t).length = 5 := rfl
    cases k with
    | zero => rw [e, Nat.zero_mul, Nat.zero_add, List.getElem?_append_left (by omega)]; rfl
    | succ k =>
      rw [e, List.getElem?_append_right (by omega), hl, show (k + 1) * 5 + j - 5 = k * 5 + j by omega, ih k (by simpa using hk)]; rfl
theorem lies_cells {w : World} {b k n : Nat} {ts : List (Nat × List Nat × Nat × Nat × Nat)} (hn : ts.length = n) (h : ∀ i, i < ts.length * 5 → w.cell? ⟨b, i, none⟩ = (rowT ts)[i]?) (hk : k < n) :
    w.cell? ⟨b, k * 5, none⟩ = some (.int .u8 ((ts.getD k default).1 : Int)) ∧ w.cell? ⟨b, k * 5 + 1, none⟩ = some (.string (strN (ts.getD k default).2.1)) ∧ w.cell? ⟨b, k * 5 + 2, none⟩ = some (.int .u64 ((ts.getD k default).2.2.1 : Int)) ∧ w.cell? ⟨b, k * 5 + 3, none⟩ = some (.int .i64 ((ts.getD k default).2.2.2.1 : Int)) ∧ w.cell? ⟨b, k * 5 + 4, none⟩ = some (.int .i64 ((ts.getD k default).2.2.2.2 : Int)) := by
  have hk2 : k < ts.length := by omega
  have e : ts.getD k default = ts[k] := by rw [List.getD_eq_getElem?_getD, List.getElem?_eq_getElem hk2]; rfl
  rw [e]
  have key : ∀ j, j < 5 → w.cell? ⟨b, k * 5 + j, none⟩ = (cellsT ts[k])[j]? := by
    intro j hj
    rw [← rowT_get ts k j hk2 hj, ← h _ (by omega)]
  exact ⟨key 0 (by omega), key 1 (by omega), key 2 (by omega), key 3 (by omega), key 4 (by omega)⟩
def SameRel (w : World) (n : Nat) (i : Value) (wr : World) : Prop := ∃ k m : Nat, k ≤ n ∧ i = .int .i64 k ∧ wr = w.drewN m
theorem lies_own {w : World} {B n : Nat} {ao : Option Addr} {cap : Nat} {ts : List (Nat × List Nat × Nat × Nat × Nat)} (h : w.ownsRow B 39 5 (.slice ao n cap) n (rowT ts)) (hn : ts.length = n) : TokLies w ao ts := by
  have h' := h
  rcases h.2 with ⟨h1, h2⟩ | ⟨g, cap', cur, h1, _⟩
  · exact .inl (List.eq_nil_of_length_eq_zero (by omega))
  · simp only [Value.slice.injEq] at h1
    obtain ⟨rfl, _, rfl⟩ := h1
    exact .inr ⟨g, rfl, fun i hi => h'.cellAt i (by omega)⟩
theorem lies_below {w w' : World} {B : Nat} {ao : Option Addr} {ts : List (Nat × List Nat × Nat × Nat × Nat)} (h : TokLies w ao ts) (hb : Below B w w') (hlt : ∀ b, ao = some ⟨b, 0, none⟩ → b < B) : TokLies w' ao ts := by
  rcases h with h | ⟨b, rfl, h⟩
  · exact .inl h
  · exact .inr ⟨b, rfl, fun i hi => (hb.cell (p := ⟨b, i, none⟩) (hlt b rfl)).trans (h i hi)⟩
end Go.Proofs.YtkagkofgfjhfgaaGreatDoor

/-
  MORE FUEL, THE SAME ANSWER: expressions and types.
-/
namespace Go.Proofs.YtkagkofgfjhfgaaGreatDoor
set_option linter.unusedVariables false

def Mo {A : Type} (m m' : P A) : Prop := ∀ E d s r, m E d s = some r → m' E d s = some r
theorem mo_refl {A : Type} (m : P A) : Mo m m := fun _ _ _ _ h => h
theorem mo_none {A : Type} {m : P A} : Mo (fun _ _ _ => none : P A) m := fun _ _ _ _ h => by cases h
theorem mo_bnd {A C : Type} {m m' : P A} {f f' : A → P C} (h : Mo m m') (h2 : ∀ a, Mo (f a) (f' a)) : Mo (bnd m f) (bnd m' f') := by
  intro E d s r e
  unfold bnd at e ⊢
  match hm : m E d s, e with
  | some (a, s1), e =>
    rw [h E d s _ hm]
    exact h2 a E d s1 r e
theorem mo_look {A : Type} {f f' : Tok → P A} (h : ∀ t, Mo (f t) (f' t)) : Mo (look f) (look f') := fun E d s r e => h _ E d s r e
theorem mo_ite {A : Type} {c : Prop} [Decidable c] {a b a' b' : P A} (h1 : Mo a a') (h2 : Mo b b') : Mo (if c then a else b) (if c then a' else b') := by split <;> assumption
theorem mo_deep {A : Type} {t : Tok} {m m' : P A} (h : Mo m m') : Mo (deeper t m) (deeper t m') := fun E d s r e => h E (d + 1) (deepS d t s) r e
theorem mo_within {A : Type} {x y : List Nat} {m m' : P A} (h : Mo m m') : Mo (within x y m) (within x y m') :=
  mo_bnd (mo_refl _) fun t => mo_bnd (mo_deep h) fun a => mo_refl _
theorem mo_listL {p p' : P Tree} (h : Mo p p') : ∀ (f f' : Nat) (acc : List Tree), f ≤ f' → Mo (listL p f acc) (listL p' f' acc) := by
  intro f
  induction f with
  | zero => intro f' acc _; exact mo_none
  | succ f ih =>
    intro f' acc hf
    obtain ⟨f', rfl⟩ : ∃ q, f' = q + 1 := ⟨f' - 1, by omega⟩
    unfold listL
    exact mo_look fun t => mo_ite (mo_bnd (mo_refl _) fun _ => mo_bnd h fun n => ih f' _ (by omega)) (mo_refl _)
theorem mo_listP {p p' : P Tree} (h : Mo p p') {f f' : Nat} (hf : f ≤ f') : Mo (listP f p) (listP f' p') := mo_bnd h fun n => mo_listL h f f' _ hf
theorem mo_perhaps {p p' : P Tree} (h : Mo p p') {f f' : Nat} (hf : f ≤ f') : Mo (perhaps f p) (perhaps f' p') :=
  mo_bnd (mo_within (mo_look fun t => mo_ite (mo_refl _) (mo_listP h hf))) fun _ => mo_refl _
theorem mo_type {p p' : P Tree} (h : Mo p p') : Mo (typeP p) (typeP p') :=
  mo_look fun t => mo_ite (mo_refl _) (mo_ite (mo_bnd (mo_refl _) fun x => mo_bnd (mo_deep h) fun _ => mo_refl _) (mo_refl _))
theorem mo_lineL {k : Nat} {p p' : P Tree} (h : Mo p p') : ∀ (f f' : Nat) (n : Tree), f ≤ f' → Mo (lineL k p f n) (lineL k p' f' n) := by
  intro f
  induction f with
  | zero => intro f' n _; exact mo_none
  | succ f ih =>
    intro f' n hf
    obtain ⟨f', rfl⟩ : ∃ q, f' = q + 1 := ⟨f' - 1, by omega⟩
    unfold lineL
    exact mo_look fun t => mo_ite (mo_refl _) (mo_bnd (mo_refl _) fun t => mo_bnd h fun m => mo_ite (mo_refl _) (ih f' _ (by omega)))
theorem mo_lineP {p p' : P Tree} (h : Mo p p') {f f' : Nat} (hf : f ≤ f') : ∀ j : Nat, Mo (lineP p f j) (lineP p' f' j) := by
  intro j
  induction j with
  | zero => exact h
  | succ j ih => exact mo_bnd ih fun n => mo_lineL ih f f' n hf
theorem mo_tailsL {p p' : P Tree} (h : Mo p p') : ∀ (f f' : Nat) (n : Tree), f ≤ f' → Mo (tailsL p f n) (tailsL p' f' n) := by
  intro f
  induction f with
  | zero => intro f' n _; exact mo_none
  | succ f ih =>
    intro f' n hf
    obtain ⟨f', rfl⟩ : ∃ q, f' = q + 1 := ⟨f' - 1, by omega⟩
    unfold tailsL
    exact mo_look fun t => mo_ite (mo_bnd (mo_refl _) fun _ => mo_bnd (mo_refl _) fun m => ih f' _ (by omega)) (mo_ite (mo_bnd (mo_within h) fun x => ih f' _ (by omega)) (mo_refl _))
theorem mo_call {p p' : P Tree} (h : Mo p p') {f f' : Nat} (hf : f ≤ f') : Mo (callP f p) (callP f' p') :=
  mo_bnd (mo_refl _) fun n => mo_look fun t => mo_ite (mo_bnd (mo_perhaps h hf) fun _ => mo_refl _) (mo_refl _)
theorem mo_vals {p p' : P Tree} (h : Mo p p') : ∀ (c i : Nat) (acc : List Tree), Mo (valsL p c i acc) (valsL p' c i acc) := by
  intro c
  induction c with
  | zero => intro i acc; exact mo_refl _
  | succ c ih =>
    intro i acc
    unfold valsL
    exact mo_ite (mo_bnd (mo_refl _) fun _ => mo_bnd h fun n => ih _ _) (mo_bnd h fun n => ih _ _)
theorem mo_with {p p' : P Tree} (h : Mo p p') (k c : Nat) : Mo (withP p k c) (withP p' k c) := mo_bnd (mo_refl _) fun t => mo_bnd (mo_within (mo_vals h c 0 [])) fun _ => mo_refl _
theorem mo_given {p p' : P Tree} (h : Mo p p') {f f' : Nat} (hf : f ≤ f') : Mo (givenP f p) (givenP f' p') :=
  mo_look fun t => mo_ite (mo_bnd (mo_with h _ _) fun _ => mo_refl _) (mo_ite (mo_with h _ _) (mo_ite (mo_with h _ _) (mo_ite (mo_with h _ _) (mo_ite (mo_with h _ _) (mo_call h hf)))))
theorem mo_primary {p p' q q' : P Tree} (hq : Mo q q') (h : Mo p p') {f f' : Nat} (hf : f ≤ f') : Mo (primaryP f q p) (primaryP f' q' p') :=
  mo_look fun t => mo_ite (mo_refl _) (mo_ite (mo_refl _) (mo_ite (mo_bnd (mo_within h) fun _ => mo_refl _) (mo_ite (mo_refl _) (mo_ite (mo_refl _) (mo_ite (mo_bnd (mo_refl _) fun t => mo_bnd hq fun k => mo_bnd (mo_perhaps h hf) fun _ => mo_refl _) (mo_given h hf))))))
theorem mo_unary {u u' p p' q q' : P Tree} (hu : Mo u u') (hq : Mo q q') (h : Mo p p') {f f' : Nat} (hf : f ≤ f') : Mo (unaryP f u q p) (unaryP f' u' q' p') :=
  mo_look fun t => mo_ite (mo_bnd (mo_primary hq h hf) fun n => mo_tailsL h f f' n hf) (mo_bnd (mo_refl _) fun s => mo_bnd (mo_deep hu) fun _ => mo_refl _)
theorem R_mo : ∀ f f' : Nat, f ≤ f' → Mo (R f).typ (R f').typ ∧ Mo (R f).unary (R f').unary ∧ Mo (R f).expr (R f').expr := by
  intro f
  induction f with
  | zero => intro f' _; exact ⟨mo_none, mo_none, mo_none⟩
  | succ f ih =>
    intro f' hf
    obtain ⟨f', rfl⟩ : ∃ q, f' = q + 1 := ⟨f' - 1, by omega⟩
    obtain ⟨h1, h2, h3⟩ := ih f' (by omega)
    exact ⟨mo_type h1, mo_unary h2 h1 h3 (by omega), mo_lineP h2 (by omega) 5⟩
/-- Where nothing is left, a line ends. -/
theorem nxt_nil {E : Nat} {s : St} (h : s.rest = []) : nxt E s = (0, [], 0, E, 0) := by simp [nxt, aheadT, h]
theorem line_end {u : P Tree} {f E d : Nat} {s s1 : St} {n : Tree} (h : u E d s = some (n, s1)) (hr : s1.rest = []) (hf : 0 < f) : ∀ j : Nat, lineP u f j E d s = some (n, s1) := by
  intro j
  induction j with
  | zero => exact h
  | succ j ih =>
    obtain ⟨f, rfl⟩ : ∃ q, f = q + 1 := ⟨f - 1, by omega⟩
    unfold lineP bnd
    rw [ih]
    show lineL _ _ (f + 1) n E d s1 = _
    unfold lineL look
    rw [nxt_nil hr]
    rfl
theorem tails_end {p : P Tree} {f E d : Nat} {s : St} {n : Tree} (hr : s.rest = []) (hf : 0 < f) : tailsL p f n E d s = some (n, s) := by
  obtain ⟨f, rfl⟩ : ∃ q, f = q + 1 := ⟨f - 1, by omega⟩
  unfold tailsL look
  rw [nxt_nil hr]
  rfl
/-- An expression in brackets. -/
theorem bracket_run {F E : Nat} {q : List Tok} {p e : Nat} {a : Tree} {s2 : St} (hF : 0 < F) (h : (R F).expr E 1 ⟨q, 0, 0⟩ = some (a, s2)) (hI : Iv s2) :
    (s2.wrong ≠ 0 → (R (F + 2)).expr E 0 ⟨(4, [40], 0, p, e) :: q, 0, 0⟩ = some (a, s2)) ∧
    (∀ t : Tok, s2.wrong = 0 → s2.rest = [t] → sg [41] t = true → (R (F + 2)).expr E 0 ⟨(4, [40], 0, p, e) :: q, 0, 0⟩ = some (a, ⟨[], 0, s2.place⟩)) := by
  have key : ∀ s3 : St, needW (sg [41]) E 0 s2 = some ((if s2.wrong = 0 then nxt E s2 else noT), s3) → s3.rest = [] → (R (F + 2)).expr E 0 ⟨(4, [40], 0, p, e) :: q, 0, 0⟩ = some (a, s3) := by
    intro s3 h3 hr
    refine line_end (u := (R (F + 1)).unary) ?_ hr (Nat.succ_pos _) 5
    have hu : (R (F + 1)).unary = unaryP F (R F).unary (R F).typ (R F).expr := rfl
    rw [hu]
    have hn : nxt E ⟨(4, [40], 0, p, e) :: q, 0, 0⟩ = (4, [40], 0, p, e) := rfl
    unfold unaryP look
    rw [hn]
    have hk : signK (4, [40], 0, p, e) = 0 := rfl
    simp only [hk, if_true]
    have hp : primaryP F (R F).typ (R F).expr E 0 ⟨(4, [40], 0, p, e) :: q, 0, 0⟩ = some (a, s3) := by
      unfold primaryP look
      rw [hn]
      show bnd (within [40] [41] (R F).expr) (fun x => ret x.2) E 0 _ = _
      have hw : within [40] [41] (R F).expr E 0 ⟨(4, [40], 0, p, e) :: q, 0, 0⟩ = some (((4, [40], 0, p, e), a), s3) := by
        have h1 : needW (sg [40]) E 0 ⟨(4, [40], 0, p, e) :: q, 0, 0⟩ = some ((4, [40], 0, p, e), ⟨q, 0, 0⟩) := rfl
        have h2 : deeper (4, [40], 0, p, e) (R F).expr E 0 ⟨q, 0, 0⟩ = some (a, s2) := h
        unfold within bnd
        rw [h1]
        simp only []
        rw [h2]
        simp only []
        rw [h3]
        rfl
      unfold bnd
      rw [hw]
      rfl
    unfold bnd
    rw [hp]
    exact tails_end hr hF
  refine ⟨fun hw => key s2 ?_ (hI hw), fun t h0 hr ht => key _ ?_ rfl⟩
  · have hs : refS E s2 = s2 := by unfold refS failS; rw [if_neg hw]
    unfold needW look needT
    simp only [nxt_nil (hI hw), hs, if_neg hw]
    rfl
  · have hn : nxt E s2 = t := by simp [nxt, aheadT, hr]
    unfold needW look needT
    simp only [hn, ht, h0, if_true]
    unfold popS
    rw [hr, h0]
    rfl
end Go.Proofs.YtkagkofgfjhfgaaGreatDoor

/-
  THE TOKENS OF A SOURCE with a remark put in ahead of a token; of a source in brackets.
-/
namespace Go.Proofs.YtkagkofgfjhfgaaGreatDoor
set_option linter.unusedVariables false

def insT (k D : Nat) (t : Nat × List Nat × Nat × Nat × Nat) : Nat × List Nat × Nat × Nat × Nat := if k ≤ t.2.2.2.1 then shiftK D t else t
theorem ins_map (D bound : Nat) : ∀ (ts : List (Nat × List Nat × Nat × Nat × Nat)) (at0 : Nat), chain bound at0 ts → ∀ i u, ts[i]? = some u → ts.take i ++ (ts.drop i).map (shiftK D) = ts.map (insT u.2.2.2.1 D) := by
  intro ts
  induction ts with
  | nil => intro at0 _ i u h; simp at h
  | cons t r ih =>
    intro at0 hc i u h
    obtain ⟨h1, h2, h3, h4⟩ := hc
    cases i with
    | zero =>
      have hu : t = u := by simpa using h
      subst hu
      have hr : r.map (shiftK D) = r.map (insT t.2.2.2.1 D) := by
        refine List.map_congr_left fun v hv => ?_
        have := chain_le _ _ _ h4 v hv
        unfold insT
        rw [if_pos (by omega)]
      have ht : insT t.2.2.2.1 D t = shiftK D t := by unfold insT; rw [if_pos (Nat.le_refl _)]
      rw [List.take_zero, List.nil_append, List.drop_zero, List.map_cons, List.map_cons, hr, ht]
    | succ i =>
      rw [List.getElem?_cons_succ] at h
      have hm := chain_le _ _ _ h4 u (List.mem_of_getElem? h)
      have ht : insT u.2.2.2.1 D t = t := by unfold insT; rw [if_neg (by omega)]
      rw [List.take_succ_cons, List.drop_succ_cons, List.cons_append, ih _ h4 i u h, List.map_cons, ht]
theorem ins_remark : insB [32, 47, 47, 32, 98, 10] := ⟨by decide, ⟨_, rfl⟩, 32, _, rfl, by decide⟩
theorem tokens_remark (l : List Nat) (hl : l.length ≤ 4096) (ts : List (Nat × List Nat × Nat × Nat × Nat)) (h : tokens l = .ok ts) (i : Nat) (u : Nat × List Nat × Nat × Nat × Nat) (hu : ts[i]? = some u) :
    u.2.2.2.1 ≤ l.length ∧ tokens (l.take u.2.2.2.1 ++ ([32, 47, 47, 32, 98, 10] ++ l.drop u.2.2.2.1)) = .ok (ts.map (insT u.2.2.2.1 6)) := by
  have hi : i < ts.length := (List.getElem?_eq_some_iff.1 hu).1
  have h1 := tokens_ins [32, 47, 47, 32, 98, 10] ins_remark (by simp) l (by omega) ts h i (by omega)
  have hp : placeOf 0 l ts i = u.2.2.2.1 := by unfold placeOf; rw [hu]; simp
  have hT : TK 0 0 l = .ok ts := by unfold tokens at h; rw [if_neg (by omega)] at h; exact h
  have hc := TK_chain _ l (Nat.le_refl _) 0 0 ts hT
  have hle := chain_le _ _ _ hc u (List.mem_of_getElem? hu)
  rw [hp, ins_map _ _ ts 0 hc i u hu] at h1
  exact ⟨by omega, h1⟩
theorem one_open (L : List Nat) : oneN (40 :: L) = .ok (4, [40], 0, 1) := by
  have h1 : letterB 40 = false := by decide
  have h2 : digitB 40 = false := by decide
  have h3 : signX (40 :: L) = some [40] := by simp [signX, signL, hasB]
  unfold oneN
  simp [h1, h2, h3]
theorem tokens_brackets (l : List Nat) (hl : l.length ≤ 4096) (ts : List (Nat × List Nat × Nat × Nat × Nat)) (h : tokens l = .ok ts) :
    tokens (40 :: (l ++ [10, 41])) = .ok ((4, [40], 0, 0, 1) :: (ts.map (shiftK 1) ++ [(4, [41], 0, l.length + 2, l.length + 3)])) := by
  have hb : tokens [41] = .ok [(4, [41], 0, 0, 1)] := by rfl
  have hj := tokens_join l [41] hl (by simp) ts _ h hb
  have hlen : (l ++ 10 :: [41]).length = l.length + 2 := by simp
  have h1 : TK 0 0 (l ++ 10 :: [41]) = .ok (ts ++ [(4, [41], 0, 0, 1)].map (shiftK (l.length + 1))) := by
    unfold tokens at hj
    rw [if_neg (by rw [hlen]; omega)] at hj
    exact hj
  have h2 := TK_from _ _ (Nat.le_refl _) 0 1 0 _ h1 (by rw [hlen]; omega)
  have h3 := TK_shift _ _ (Nat.le_refl _) 1 0 1 _ h2
  have hz : blankN false (40 :: (l ++ 10 :: [41])) = 0 := by simp [blankN, blankB]
  unfold tokens
  rw [if_neg (by simp; omega)]
  show TK 0 0 (40 :: (l ++ 10 :: [41])) = _
  rw [TK_ok 0 0 _ 4 [40] 0 1 (by rw [hz]; simp) (by omega) (by rw [hz]; exact one_open _), hz]
  rw [show (40 :: (l ++ 10 :: [41])).drop (0 + 1) = l ++ 10 :: [41] from rfl, show 0 + 0 + 1 = 0 + 1 from rfl, show 0 + 1 = 1 from rfl]
  rw [show TK 1 1 (l ++ 10 :: [41]) = _ from h3]
  simp [preT, shiftK]
  omega
end Go.Proofs.YtkagkofgfjhfgaaGreatDoor

/-
  A REMARK PUT IN, BRACKETS PUT ROUND: what is read of an expression, as mathematics.
-/
namespace Go.Proofs.YtkagkofgfjhfgaaGreatDoor
set_option linter.unusedVariables false

theorem few_toks {l : List Nat} (hl : l.length ≤ 4096) {ts : List Tok} (h : tokens l = .ok ts) : ts.length ≤ 4096 := by
  unfold tokens at h
  rw [if_neg (by omega)] at h
  have := TK_count _ l (Nat.le_refl _) 0 0 ts h
  omega
theorem remark_math (l : List Nat) (hl : l.length ≤ 4096) (ts : List Tok) (ht : tokens l = .ok ts) (x : Tree) (h : readS (R fuelN).expr l = some (.ok x)) (i : Nat) (u : Tok) (hu : ts[i]? = some u) :
    u.2.2.2.1 ≤ l.length ∧ readS (R fuelN).expr (l.take u.2.2.2.1 ++ ([32, 47, 47, 32, 98, 10] ++ l.drop u.2.2.2.1)) = some (.ok (mapTr (fun p => if (u.2.2.2.1 : Int) ≤ p then p + 6 else p) x)) := by
  obtain ⟨ts', s1, t1, r1, w1, e1⟩ := read_ok h
  obtain rfl : ts' = ts := by rw [ht] at t1; cases t1; rfl
  obtain ⟨hk, htok⟩ := tokens_remark l hl ts' ht i u hu
  refine ⟨hk, ?_⟩
  have hc := few_toks hl ht
  obtain ⟨k, hk0⟩ : ∃ k, u.2.2.2.1 = k := ⟨_, rfl⟩
  rw [hk0] at hk htok ⊢
  have hE : (l.take k ++ ([32, 47, 47, 32, 98, 10] ++ l.drop k)).length = l.length + 6 := by rw [List.length_append, List.length_append, List.length_take, List.length_drop]; simp; omega
  obtain ⟨n, sF, hF, _⟩ := expr_tot (l.length + 6) (ts'.map (insT k 6)) fuelN (by rw [List.length_map]; unfold fuelN; omega)
  let v : Mv := ⟨insT k 6, fun p => if (k : Int) ≤ p then p + 6 else p, [], l.length, l.length + 6, 0, fun t => by
    unfold insT
    by_cases hq : k ≤ t.2.2.2.1
    · rw [if_pos hq, if_pos (by omega)]
      exact ⟨rfl, rfl, rfl, by show ((t.2.2.2.1 + 6 : Nat) : Int) = _; omega⟩
    · rw [if_neg hq, if_neg (by omega)]
      exact ⟨rfl, rfl, rfl, rfl⟩, fun p => p, .inl rfl⟩
  have hx : v.ext ⟨ts', 0, 0⟩ = ⟨ts'.map (insT k 6), 0, 0⟩ := by show St.mk (ts'.map (insT k 6) ++ []) 0 0 = _; rw [List.append_nil]
  rcases (R_sim (v := v) fuelN).2.2.1 ⟨ts', 0, 0⟩ 0 x s1 r1 w1 n sF (by rw [hx]; exact hF) with ⟨hV, rfl⟩ | ⟨_, hd⟩
  · have hn : n = mapTr (fun p => if (k : Int) ≤ p then p + 6 else p) x := hV
    rw [← hn]
    refine ok_read (s := v.ext s1) htok (by rw [hE]; exact hF) w1 ?_
    show s1.rest.map _ ++ [] = []
    rw [e1]
    rfl
  · exact absurd rfl hd
theorem bracket_math (l : List Nat) (hl : l.length ≤ 4096) (x : Tree) (h : readS (R fuelN).expr l = some (.ok x)) :
    ∃ T, readS (R fuelN).expr (40 :: (l ++ [10, 41])) = some T ∧ ((∃ p, T = .error (p, 41)) ∨ T = .ok (mapTr (fun p => p + 1) x)) := by
  obtain ⟨ts, s1, t1, r1, w1, e1⟩ := read_ok h
  have hc := few_toks hl t1
  have htok := tokens_brackets l hl ts t1
  have hE : (40 :: (l ++ [10, 41])).length = l.length + 3 := by simp
  obtain ⟨F, hF⟩ : ∃ F, fuelN = F + 2 := ⟨299998, rfl⟩
  have hF2 : F = 299998 := by unfold fuelN at hF; omega
  obtain ⟨x', s1', q1, _⟩ := expr_tot l.length ts F (by omega)
  have q2 := (R_mo F fuelN (by omega)).2.2 _ _ _ _ q1
  rw [r1] at q2
  cases q2
  let v : Mv := ⟨shiftK 1, fun p => p + 1, [(4, [41], 0, l.length + 2, l.length + 3)], l.length, l.length + 3, 1, fun t => ⟨rfl, rfl, rfl, by show ((t.2.2.2.1 + 1 : Nat) : Int) = _; omega⟩, fun p => p, .inr ⟨_, _, rfl, .inr (.inl ⟨rfl, rfl⟩)⟩⟩
  have hx : v.ext ⟨ts, 0, 0⟩ = ⟨ts.map (shiftK 1) ++ [(4, [41], 0, l.length + 2, l.length + 3)], 0, 0⟩ := rfl
  obtain ⟨a2, s2, h2, hI, _⟩ := (R_tot F).2.2.1 (l.length + 3) 1 ⟨ts.map (shiftK 1) ++ [(4, [41], 0, l.length + 2, l.length + 3)], 0, 0⟩ (fun h => absurd rfl h) (by simp [M]; omega)
  obtain ⟨b1, b2⟩ := bracket_run (p := 0) (e := 1) (by omega) h2 hI
  rcases (R_sim (v := v) F).2.2.1 ⟨ts, 0, 0⟩ 0 x s1 q1 w1 a2 s2 (by rw [hx]; exact h2) with ⟨hV, rfl⟩ | ⟨hw, _⟩
  · refine ⟨.ok (mapTr (fun p => p + 1) x), ?_, .inr rfl⟩
    have hn : a2 = mapTr (fun p => p + 1) x := hV
    rw [← hn]
    have b3 := b2 (4, [41], 0, l.length + 2, l.length + 3) w1 (by show s1.rest.map _ ++ _ = _; rw [e1]; rfl) rfl
    rw [← hF] at b3
    exact ok_read htok (by rw [hE]; exact b3) rfl rfl
  · have hw0 : s2.wrong ≠ 0 := by rw [hw]; decide
    have b3 := b1 hw0
    rw [← hF] at b3
    refine ⟨.error (s2.place, 41), ?_, .inl ⟨_, rfl⟩⟩
    unfold readS
    rw [htok]
    show readP (R fuelN).expr (40 :: (l ++ [10, 41])).length _ = _
    unfold readP
    rw [hE, b3]
    simp [hI hw0, hw]
/-- The places of an expression lie within its source. -/
theorem expr_clamp (l : List Nat) (x : Tree) (h : readS (R fuelN).expr l = some (.ok x)) : mapTr (fun p => max 0 (min p (l.length : Int))) x = x := by
  obtain ⟨ts, s, t1, r1, w1, e1⟩ := read_ok h
  let v : Mv := ⟨fun t => (t.1, t.2.1, t.2.2.1, min t.2.2.2.1 l.length, t.2.2.2.2), fun p => max 0 (min p (l.length : Int)), [], l.length, l.length, 0, fun t => ⟨rfl, rfl, rfl, by show ((min t.2.2.2.1 l.length : Nat) : Int) = _; omega⟩, fun p => p, .inl rfl⟩
  have hx : v.ext ⟨ts, 0, 0⟩ = ⟨ts, 0, 0⟩ := by
    show St.mk (ts.map v.mt ++ []) 0 0 = _
    rw [List.append_nil]
    congr 1
    have : ∀ t ∈ ts, v.mt t = t := by
      intro t ht
      obtain ⟨k, x, n, p, e⟩ := t
      show (k, x, n, min p l.length, e) = (k, x, n, p, e)
      rw [Nat.min_eq_left (toks_places l ts t1 _ ht)]
    exact (List.map_congr_left this).trans (List.map_id' ts)
  rcases (R_sim (v := v) fuelN).2.2.1 ⟨ts, 0, 0⟩ 0 x s r1 w1 x s (by rw [hx]; exact r1) with ⟨hV, _⟩ | ⟨_, hd⟩
  · exact hV.symm
  · exact absurd rfl hd
theorem mapTr_comp1 (f g : Int → Int) (t : Tree) : mapTr f (mapTr g t) = mapTr (fun a => f (g a)) t := by have := mapTr_comp f g [t]; simpa using this
theorem expr_wrap (l : List Nat) (hl : l.length ≤ 4096) (x : Tree) (h : readS (R fuelN).expr l = some (.ok x)) (k : Nat) (hk : k ≤ 4096) (D : Nat) (hD : D ≤ 4097) : mapTr (shf (k : Int) (D : Int)) x = mapTr (fun p => if (k : Int) ≤ p then p + (D : Int) else p) x := by
  have hc := expr_clamp l x h
  rw [← hc, mapTr_comp1, mapTr_comp1]
  congr 1
  funext p
  unfold shf
  split
  · unfold RowKit.wrap64
    omega
  · rfl
theorem expr_plus (l : List Nat) (hl : l.length ≤ 4096) (x : Tree) (h : readS (R fuelN).expr l = some (.ok x)) : mapTr (shf 0 1) x = mapTr (fun p => p + 1) x := by
  have hc := expr_clamp l x h
  rw [← hc, mapTr_comp1, mapTr_comp1]
  congr 1
  funext p
  have h0 : 0 ≤ max 0 (min p (l.length : Int)) := by omega
  unfold shf
  rw [if_pos h0]
  unfold RowKit.wrap64
  omega
end Go.Proofs.YtkagkofgfjhfgaaGreatDoor
