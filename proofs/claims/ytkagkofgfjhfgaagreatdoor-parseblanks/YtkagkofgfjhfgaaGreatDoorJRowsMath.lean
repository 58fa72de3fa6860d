/-
  Texts joined: RowsMath, RowsMath2.
-/
import Derived.Test.YtkagkofgfjhfgaaGreatDoorSim
import Derived.Test.YtkagkofgfjhfgaaGreatDoorPReadS
import Derived.Test.YtkagkofgfjhfgaaGreatDoorJMath
import Derived.Test.YtkagkofgfjhfgaaGreatDoorJAll

/-
  TWO PROGRAMS ONE BEHIND THE OTHER, as mathematics: tokens, trees.
-/
namespace Go.Proofs.YtkagkofgfjhfgaaGreatDoor
set_option linter.unusedVariables false

/-! ### Tokens -/
theorem TK_skip (k at0 p : Nat) (L b : List Nat) (h1 : blankN false L = p + blankN false b) (h2 : ∀ j, L.drop (p + j) = b.drop j) (us : List (Nat × List Nat × Nat × Nat × Nat)) (h : TK k (at0 + p) b = .ok us) : TK k at0 L = .ok us := by
  rcases TK_inv _ _ _ _ h with ⟨rfl, he⟩ | ⟨kd, tx, n, len, rest, he, hk, ho, hr, rfl⟩
  · exact TK_end _ _ _ (by rw [h1, h2]; exact he)
  · rw [TK_ok k at0 L kd tx n len (by rw [h1, h2]; exact he) hk (by rw [h1, h2]; exact ho), h1, show p + blankN false b + len = p + (blankN false b + len) by omega, h2, show at0 + (p + blankN false b) + len = at0 + p + blankN false b + len by omega, hr, show at0 + (p + blankN false b) = at0 + p + blankN false b by omega]
    simp [preT]
theorem TK_join (b : List Nat) (us : List (Nat × List Nat × Nat × Nat × Nat)) : ∀ (N : Nat) (l : List Nat), l.length ≤ N → ∀ k at0 ts, TK k at0 l = .ok ts → TK (k + ts.length) (at0 + (l.length + 1)) b = .ok us → TK k at0 (l ++ 10 :: b) = .ok (ts ++ us) := by
  intro N
  induction N with
  | zero =>
    intro l hl k at0 ts h hb
    obtain rfl : l = [] := List.eq_nil_of_length_eq_zero (by omega)
    rcases TK_inv k at0 [] ts h with ⟨rfl, he⟩ | ⟨kd, tx, n, len, rest, he, _, _, _, _⟩
    · refine TK_skip k at0 1 _ b ?_ (fun j => by rw [Nat.add_comm]; rfl) us hb
      simp [blankN, blankB]
    · exfalso; apply he; rfl
  | succ N ih =>
    intro l hl k at0 ts h hb
    have hbnd := blank_le l false
    obtain ⟨st2, hs1, hs2⟩ := skip_take l false
    rcases TK_inv k at0 l ts h with ⟨rfl, he⟩ | ⟨kd, tx, n, len, rest, he, hk, ho, hr, rfl⟩
    · have hlen : blankN false l = l.length := by
        have := congrArg List.length he
        rw [List.length_drop] at this
        simp at this; omega
      rw [hlen, List.take_length] at hs1
      refine TK_skip k at0 (l.length + 1) _ b ?_ (fun j => ?_) us hb
      · rw [skip_run l false st2 hs1]
        cases st2 <;> simp [blankN, blankB] <;> omega
      · rw [show l ++ 10 :: b = (l ++ [10]) ++ b by simp, List.drop_append, List.drop_eq_nil_of_le (by simp), List.nil_append]
        congr 1
        simp
    · have hst : st2 = false := hs2 he
      subst hst
      have h1 := one_len _ _ _ _ _ ho
      rw [List.length_drop] at h1
      have hz := blank_zero l false he
      obtain ⟨L, hL⟩ : ∃ L, l.drop (blankN false l + len) = L := ⟨_, rfl⟩
      have hLlen : L.length = l.length - (blankN false l + len) := by rw [← hL, List.length_drop]
      rw [hL] at hr
      have hih := ih L (by omega) (k + 1) _ rest hr (by
        have e1 : k + 1 + rest.length = k + (rest.length + 1) := by omega
        have e2 : at0 + blankN false l + len + (L.length + 1) = at0 + (l.length + 1) := by omega
        rw [e1, e2]; exact hb)
      obtain ⟨r2, hr2⟩ : ∃ r2, L ++ 10 :: b = r2 := ⟨_, rfl⟩
      rw [hr2] at hih
      have hdd : (l.drop (blankN false l)).drop len = L := by rw [List.drop_drop, hL]
      have hm : mayNext ((l.drop (blankN false l)).drop len) r2 := by
        rw [hdd, ← hr2]
        cases L with
        | nil => right; intro q hq; simp at hq; rw [← hq]; rfl
        | cons u v => left; rfl
      have hnew : l ++ 10 :: b = l.take (blankN false l) ++ ((l.drop (blankN false l)).take len ++ r2) := by
        rw [← hr2, ← hdd]
        conv => lhs; rw [← List.take_append_drop (blankN false l) l]
        conv => lhs; rw [← List.take_append_drop len (l.drop (blankN false l))]
        simp [List.append_assoc]
      have e1 : blankN false (l.take (blankN false l) ++ ((l.drop (blankN false l)).take len ++ r2)) = blankN false l := by
        rw [skip_run _ _ _ hs1, token_no_blank _ kd tx n len ho hz r2 hm, List.length_take]; omega
      have e2 : (l.take (blankN false l) ++ ((l.drop (blankN false l)).take len ++ r2)).drop (blankN false l) = (l.drop (blankN false l)).take len ++ r2 := by
        rw [List.drop_append, List.drop_eq_nil_of_le (by rw [List.length_take]; omega), List.nil_append, List.length_take, show blankN false l - min (blankN false l) l.length = 0 by omega, List.drop_zero]
      have e3 : (l.take (blankN false l) ++ ((l.drop (blankN false l)).take len ++ r2)).drop (blankN false l + len) = r2 := by
        rw [← List.drop_drop, e2, List.drop_append, List.drop_eq_nil_of_le (by rw [List.length_take]; omega), List.nil_append, List.length_take, List.length_drop, show len - min len (l.length - blankN false l) = 0 by omega, List.drop_zero]
      rw [hnew]
      have hone := one_local _ kd tx n len ho r2 hm
      rw [TK_ok k at0 _ kd tx n len (by rw [e1, e2]; intro q; rw [q] at hone; cases hone) hk (by rw [e1, e2]; exact hone), e1, e3, hih]
      simp [preT]
theorem TK_count : ∀ (N : Nat) (l : List Nat), l.length ≤ N → ∀ k at0 ts, TK k at0 l = .ok ts → ts.length ≤ l.length := by
  intro N
  induction N with
  | zero =>
    intro l hl k at0 ts h
    rcases TK_inv k at0 l ts h with ⟨rfl, he⟩ | ⟨kd, tx, n, len, rest, he, _, _, _, _⟩
    · simp
    · exfalso; apply he; exact List.drop_eq_nil_of_le (by omega)
  | succ N ih =>
    intro l hl k at0 ts h
    rcases TK_inv k at0 l ts h with ⟨rfl, he⟩ | ⟨kd, tx, n, len, rest, he, hk, ho, hr, rfl⟩
    · simp
    · have h1 := one_len _ _ _ _ _ ho
      rw [List.length_drop] at h1
      have h2 := ih _ (by rw [List.length_drop]; omega) _ _ _ hr
      rw [List.length_drop] at h2
      simp; omega
/-- Counting from another number: the same tokens, as long as there are few. -/
theorem TK_from : ∀ (N : Nat) (l : List Nat), l.length ≤ N → ∀ k k' at0 ts, TK k at0 l = .ok ts → k' + l.length < 32768 → TK k' at0 l = .ok ts := by
  intro N
  induction N with
  | zero =>
    intro l hl k k' at0 ts h _
    rcases TK_inv k at0 l ts h with ⟨rfl, he⟩ | ⟨kd, tx, n, len, rest, he, _, _, _, _⟩
    · exact TK_end _ _ _ he
    · exfalso; apply he; exact List.drop_eq_nil_of_le (by omega)
  | succ N ih =>
    intro l hl k k' at0 ts h hk'
    rcases TK_inv k at0 l ts h with ⟨rfl, he⟩ | ⟨kd, tx, n, len, rest, he, hk, ho, hr, rfl⟩
    · exact TK_end _ _ _ he
    · have h1 := one_len _ _ _ _ _ ho
      rw [List.length_drop] at h1
      have h2 := ih _ (by rw [List.length_drop]; omega) _ (k' + 1) _ _ hr (by rw [List.length_drop]; omega)
      rw [TK_ok k' at0 l kd tx n len he (by omega) ho, h2]
      simp [preT]
theorem tokens_join (a b : List Nat) (ha : a.length ≤ 4096) (hb : b.length ≤ 4096) (ts us : List (Nat × List Nat × Nat × Nat × Nat)) (h1 : tokens a = .ok ts) (h2 : tokens b = .ok us) : tokens (a ++ 10 :: b) = .ok (ts ++ us.map (shiftK (a.length + 1))) := by
  unfold tokens at h1 h2 ⊢
  rw [if_neg (by omega)] at h1 h2
  rw [if_neg (by simp; omega)]
  have hc := TK_count _ a (Nat.le_refl _) 0 0 ts h1
  refine TK_join b _ _ a (Nat.le_refl _) 0 0 ts h1 ?_
  have h3 := TK_from _ b (Nat.le_refl _) 0 (0 + ts.length) 0 us h2 (by omega)
  exact TK_shift _ b (Nat.le_refl _) _ 0 (a.length + 1) us h3

/-! ### Trees -/
theorem mapTr_id : ∀ (l : List Tree), l.map (mapTr (fun a => a)) = l := by
  intro l
  induction l using treeRec with
  | h0 => rfl
  | h1 k a t n ks ts ih1 ih2 => rw [List.map_cons, mapTr_mk, ih1, ih2]
theorem mapTr_id1 (t : Tree) : mapTr (fun a => a) t = t := by have := mapTr_id [t]; simpa using this
theorem mapTr_comp (f g : Int → Int) : ∀ (l : List Tree), (l.map (mapTr g)).map (mapTr f) = l.map (mapTr fun a => f (g a)) := by
  intro l
  induction l using treeRec with
  | h0 => rfl
  | h1 k a t n ks ts ih1 ih2 => rw [List.map_cons, List.map_cons, List.map_cons, mapTr_mk, mapTr_mk, mapTr_mk, ih1, ih2]
theorem programL_mono {g : Nat} {typ : P Tree} {stmts : P (List Tree)} : ∀ (f f' : Nat) (acc : List Tree) (E d : Nat) (s : St) (r : Tree × St), f ≤ f' → programL g typ stmts f acc E d s = some r → programL g typ stmts f' acc E d s = some r := by
  intro f
  induction f with
  | zero => intro f' acc E d s r _ h; cases h
  | succ f ih =>
    intro f' acc E d s r hf h
    obtain ⟨f', rfl⟩ : ∃ q, f' = q + 1 := ⟨f' - 1, by omega⟩
    unfold programL look at h ⊢
    simp only [] at h ⊢
    split
    · rename_i hc
      rw [if_pos hc] at h
      unfold bnd at h ⊢
      cases hm : recordP g typ E d s with
      | none => rw [hm] at h; cases h
      | some x => obtain ⟨n, s1⟩ := x; rw [hm] at h; exact ih f' _ E d s1 r (by omega) h
    · rename_i hc
      rw [if_neg hc] at h
      split
      · rename_i hc2
        rw [if_pos hc2] at h
        unfold bnd at h ⊢
        cases hm : functionP g typ stmts E d s with
        | none => rw [hm] at h; cases h
        | some x => obtain ⟨n, s1⟩ := x; rw [hm] at h; exact ih f' _ E d s1 r (by omega) h
      · rename_i hc2
        rw [if_neg hc2] at h
        exact h
theorem wd_ts {v : Mv} {t u : Tok} (h : v.ts t u) (x : List Nat) : wd x u = wd x t := by unfold wd; rw [h.1, h.2.1]
/-- The items of a program, whatever was read ahead: the second run has them, too. -/
theorem prog_first {v : Mv} (hdl : v.dl = 0) (hg : v.g = fun a => a) {g : Nat} {typ : P Tree} {stmts : P (List Tree)} (hq : Sim v v.tr typ typ) (hc : Bs typ 0) (hc1 : Bs typ 1) (hs : Sim v v.tl stmts stmts) (hu : Bs stmts 0) :
    ∀ (f : Nat) (acc acc' : List Tree) (s s1 : St) (x n : Tree) (sF : St), programL g typ stmts f acc v.E1 0 s = some (x, s1) → s1.wrong = 0 → s1.rest = [] → programL g typ stmts f acc' v.E2 0 (v.ext s) = some (n, sF) →
    ∃ items f', x = ⟨1, 0, [], 0, acc ++ items⟩ ∧ f' ≤ f ∧ programL g typ stmts f' (acc' ++ items) v.E2 0 (v.ext s1) = some (n, sF) := by
  intro f
  induction f with
  | zero => intro acc acc' s s1 x n sF h; cases h
  | succ f ih =>
    intro acc acc' s s1 x n sF h hw hr h2
    have step : ∀ (m : P Tree), Bs m 0 → Sm v v.tr m m s → (bnd m fun n => programL g typ stmts f (acc ++ [n])) v.E1 0 s = some (x, s1) → (bnd m fun n => programL g typ stmts f (acc' ++ [n])) v.E2 0 (v.ext s) = some (n, sF) →
        ∃ items f', x = ⟨1, 0, [], 0, acc ++ items⟩ ∧ f' ≤ f + 1 ∧ programL g typ stmts f' (acc' ++ items) v.E2 0 (v.ext s1) = some (n, sF) := by
      intro m hb hsm e1 e2
      unfold bnd at e1 e2
      match hm : m v.E1 0 s, e1 with
      | some (a, sa), e1 =>
        match hm2 : m v.E2 0 (v.ext s), e2 with
        | some (b, sb), e2 =>
          have hwa : sa.wrong = 0 := Classical.byContradiction fun q => q (((bs_programL hc hu f _ v.E1 0 sa x s1 e1).1 q).symm.trans hw)
          rcases hsm 0 a sa hm hwa b sb (by rw [hdl]; exact hm2) with ⟨hV, rfl⟩ | ⟨_, hd⟩
          · have hab : b = a := by unfold Mv.tr at hV; rw [hV, hg, mapTr_id1]
            rw [hab] at e2
            obtain ⟨items, f', h1, h3, h4⟩ := ih (acc ++ [a]) (acc' ++ [a]) sa s1 x n sF e1 hw hr e2
            exact ⟨a :: items, f', by rw [h1]; simp, by omega, by rw [show acc' ++ a :: items = acc' ++ [a] ++ items by simp]; exact h4⟩
          · exact absurd hdl hd
    by_cases hrest : s.rest = []
    · have hnx : nxt v.E1 s = (0, [], 0, v.E1, 0) := by simp [nxt, aheadT, hrest]
      have h' := h
      unfold programL look at h'
      simp only [hnx] at h'
      rw [if_neg (by simp [wd]), if_neg (by simp [wd])] at h'
      cases h'
      exact ⟨[], f + 1, by simp, Nat.le_refl _, by rw [List.append_nil]; exact h2⟩
    · have hts := (tk_nxt v s).2.resolve_right hrest
      have h' := h
      have h2' := h2
      unfold programL look at h' h2'
      simp only [] at h' h2'
      rw [wd_ts hts, wd_ts hts] at h2'
      split at h'
      · rename_i hc3
        rw [if_pos hc3] at h2'
        exact step (recordP g typ) (Bs.le (bs_record hc g) (Nat.zero_le _)) (sim_record hq hc g (wd_live hc3)) h' h2'
      · rename_i hc3
        rw [if_neg hc3] at h2'
        split at h'
        · rename_i hc4
          rw [if_pos hc4] at h2'
          exact step (functionP g typ stmts) (Bs.le (bs_function hc hu g) (Nat.zero_le _)) (sim_function hq hc hc1 hs hu g (wd_live hc4)) h' h2'
        · cases h'
          exact ⟨[], f + 1, by simp, Nat.le_refl _, by rw [List.append_nil]; exact h2⟩
/-- A program's run, and the same with its places moved, behind other items. -/
theorem prog_second {v : Mv} (hdl : v.dl = 0) (hys : v.ys = []) {g : Nat} {typ : P Tree} {stmts : P (List Tree)} (hq : Sim v v.tr typ typ) (hc : Bs typ 0) (hc1 : Bs typ 1) (hs : Sim v v.tl stmts stmts) (hu : Bs stmts 0) :
    ∀ (f : Nat) (acc acc' : List Tree) (s s1 : St) (x n : Tree) (sF : St), programL g typ stmts f acc v.E1 0 s = some (x, s1) → s1.wrong = 0 → programL g typ stmts f acc' v.E2 0 (v.ext s) = some (n, sF) →
    ∃ items, x = ⟨1, 0, [], 0, acc ++ items⟩ ∧ n = ⟨1, 0, [], 0, acc' ++ items.map (mapTr v.g)⟩ ∧ sF = v.ext s1 := by
  intro f
  induction f with
  | zero => intro acc acc' s s1 x n sF h; cases h
  | succ f ih =>
    intro acc acc' s s1 x n sF h hw h2
    have step : ∀ (m : P Tree), Bs m 0 → Sm v v.tr m m s → (bnd m fun n => programL g typ stmts f (acc ++ [n])) v.E1 0 s = some (x, s1) → (bnd m fun n => programL g typ stmts f (acc' ++ [n])) v.E2 0 (v.ext s) = some (n, sF) →
        ∃ items, x = ⟨1, 0, [], 0, acc ++ items⟩ ∧ n = ⟨1, 0, [], 0, acc' ++ items.map (mapTr v.g)⟩ ∧ sF = v.ext s1 := by
      intro m hb hsm e1 e2
      unfold bnd at e1 e2
      match hm : m v.E1 0 s, e1 with
      | some (a, sa), e1 =>
        match hm2 : m v.E2 0 (v.ext s), e2 with
        | some (b, sb), e2 =>
          have hwa : sa.wrong = 0 := Classical.byContradiction fun q => q (((bs_programL hc hu f _ v.E1 0 sa x s1 e1).1 q).symm.trans hw)
          rcases hsm 0 a sa hm hwa b sb (by rw [hdl]; exact hm2) with ⟨hV, rfl⟩ | ⟨_, hd⟩
          · unfold Mv.tr at hV
            rw [hV] at e2
            obtain ⟨items, h1, h3, h4⟩ := ih (acc ++ [a]) _ sa s1 x n sF e1 hw e2
            exact ⟨a :: items, by rw [h1]; simp, by rw [h3]; simp, h4⟩
          · exact absurd hdl hd
    have hwd : ∀ y, wd y (nxt v.E2 (v.ext s)) = wd y (nxt v.E1 s) := by
      intro y
      rcases (tk_nxt v s).2 with hts | hrest
      · exact wd_ts hts y
      · have e1 : nxt v.E1 s = (0, [], 0, v.E1, 0) := by simp [nxt, aheadT, hrest]
        have e2 : nxt v.E2 (v.ext s) = (0, [], 0, v.E2, 0) := by simp [nxt, aheadT, Mv.ext, hrest, hys]
        rw [e1, e2]; rfl
    have h' := h
    have h2' := h2
    unfold programL look at h' h2'
    simp only [] at h' h2'
    rw [hwd, hwd] at h2'
    split at h'
    · rename_i hc3
      rw [if_pos hc3] at h2'
      exact step (recordP g typ) (Bs.le (bs_record hc g) (Nat.zero_le _)) (sim_record hq hc g (wd_live hc3)) h' h2'
    · rename_i hc3
      rw [if_neg hc3] at h2'
      split at h'
      · rename_i hc4
        rw [if_pos hc4] at h2'
        exact step (functionP g typ stmts) (Bs.le (bs_function hc hu g) (Nat.zero_le _)) (sim_function hq hc hc1 hs hu g (wd_live hc4)) h' h2'
      · rename_i hc4
        rw [if_neg hc4] at h2'
        cases h'
        cases h2'
        exact ⟨[], by simp, by simp, rfl⟩
end Go.Proofs.YtkagkofgfjhfgaaGreatDoor

/-
  TWO PROGRAMS ONE BEHIND THE OTHER, as mathematics: what is read.
-/
namespace Go.Proofs.YtkagkofgfjhfgaaGreatDoor
set_option linter.unusedVariables false

theorem read_ok {m : P Tree} {l : List Nat} {t : Tree} (h : readS m l = some (.ok t)) : ∃ ts s, tokens l = .ok ts ∧ m l.length 0 ⟨ts, 0, 0⟩ = some (t, s) ∧ s.wrong = 0 ∧ s.rest = [] := by
  unfold readS at h
  cases ht : tokens l with
  | error e => rw [ht] at h; cases h
  | ok ts =>
    rw [ht] at h
    have h : readP m l.length ts = some (.ok t) := h
    unfold readP at h
    match hm : m l.length 0 ⟨ts, 0, 0⟩, h with
    | some (n, s), h =>
      refine ⟨ts, s, rfl, ?_⟩
      cases hr : s.rest with
      | nil =>
        simp only [hr, List.isEmpty_nil, if_true, Option.some.injEq] at h
        split at h
        · rename_i hw
          cases h
          exact ⟨hm, hw, rfl⟩
        · cases h
      | cons u q =>
        simp only [hr, List.isEmpty_cons, Option.some.injEq] at h
        simp only [Bool.false_eq_true, if_false] at h
        rw [if_neg ref_wrong] at h
        cases h
theorem ok_read {m : P Tree} {l : List Nat} {t : Tree} {ts : List Tok} {s : St} (h1 : tokens l = .ok ts) (h2 : m l.length 0 ⟨ts, 0, 0⟩ = some (t, s)) (h3 : s.wrong = 0) (h4 : s.rest = []) : readS m l = some (.ok t) := by
  unfold readS
  rw [h1]
  show readP m l.length ts = _
  unfold readP
  rw [h2]
  simp [h3, h4]
theorem prog_head {g : Nat} {typ : P Tree} {stmts : P (List Tree)} {f E : Nat} {t : Tok} {q : List Tok} {acc : List Tree} {x : Tree} {s : St} (h : programL g typ stmts f acc E 0 ⟨t :: q, 0, 0⟩ = some (x, s)) (hr : s.rest = []) : t.1 = 1 ∧ (t.2.1 = [102, 110] ∨ t.2.1 = [114, 101, 99, 111, 114, 100]) := by
  cases f with
  | zero => cases h
  | succ f =>
    have hn : nxt E ⟨t :: q, 0, 0⟩ = t := rfl
    unfold programL look at h
    simp only [hn] at h
    split at h
    · rename_i hc
      unfold wd at hc
      simp at hc
      exact ⟨hc.1, .inr hc.2⟩
    · split at h
      · rename_i hc
        unfold wd at hc
        simp at hc
        exact ⟨hc.1, .inl hc.2⟩
      · cases h
        cases hr
theorem toks_places (l : List Nat) (ts : List Tok) (h : tokens l = .ok ts) : ∀ t ∈ ts, t.2.2.2.1 ≤ l.length := by
  intro t ht
  unfold tokens at h
  split at h
  · cases h
  · have h1 := TK_chain _ l (Nat.le_refl _) 0 0 ts h
    have := chain_le _ _ _ h1 t ht
    omega
theorem rows_math (a b : List Nat) (ha : a.length ≤ 4096) (hb : b.length ≤ 4096) (x y : Tree) (h1 : readS (programP fuelN) a = some (.ok x)) (h2 : readS (programP fuelN) b = some (.ok y)) :
    readS (programP fuelN) (a ++ 10 :: b) = some (.ok ⟨1, 0, [], 0, x.kids ++ y.kids.map (mapTr fun p => p + ((a.length + 1 : Nat) : Int))⟩) ∧ y = ⟨1, 0, [], 0, y.kids⟩ ∧ x = ⟨1, 0, [], 0, x.kids⟩ := by
  obtain ⟨ts, s1, t1, r1, w1, e1⟩ := read_ok h1
  obtain ⟨us, s2, t2, r2, w2, e2⟩ := read_ok h2
  have hj := tokens_join a b ha hb ts us t1 t2
  have hE : (a ++ 10 :: b).length = a.length + 1 + b.length := by simp; omega
  have hc1 : ts.length ≤ a.length := by unfold tokens at t1; rw [if_neg (by omega)] at t1; exact TK_count _ a (Nat.le_refl _) 0 0 ts t1
  have hc2 : us.length ≤ b.length := by unfold tokens at t2; rw [if_neg (by omega)] at t2; exact TK_count _ b (Nat.le_refl _) 0 0 us t2
  obtain ⟨kt, ku, ke, kb, ks⟩ := R_bs fuelN
  have kt0 := kt.le (Nat.zero_le _)
  obtain ⟨n, sF, hF, _⟩ := program_tot (a.length + 1 + b.length) (ts ++ us.map (shiftK (a.length + 1))) fuelN (by simp; unfold fuelN; omega)
  let v1 : Mv := ⟨fun t => t, fun a => a, us.map (shiftK (a.length + 1)), a.length, a.length + 1 + b.length, 0, fun t => ⟨rfl, rfl, rfl, rfl⟩, fun p => p, by
    cases us with
    | nil => exact .inl rfl
    | cons t q =>
      have hh := prog_head (t := t) (q := q) (f := fuelN) (acc := []) r2 e2
      exact .inr ⟨_, _, rfl, .inr (.inr hh)⟩⟩
  have hx1 : v1.ext ⟨ts, 0, 0⟩ = ⟨ts ++ us.map (shiftK (a.length + 1)), 0, 0⟩ := by show St.mk (ts.map (fun t => t) ++ _) 0 0 = _; rw [List.map_id']
  obtain ⟨st1, _, _, _, ss1⟩ := R_sim (v := v1) fuelN
  obtain ⟨items, f', hxi, hf', hn1⟩ := prog_first (v := v1) rfl rfl st1 kt0 kt ss1 ks fuelN [] [] ⟨ts, 0, 0⟩ s1 x n sF r1 w1 e1 (by rw [hx1]; exact hF)
  have hx2 : v1.ext s1 = ⟨us.map (shiftK (a.length + 1)), 0, s1.place⟩ := by show St.mk (s1.rest.map (fun t => t) ++ _) s1.wrong s1.place = _; rw [e1, w1]; rfl
  rw [hx2] at hn1
  have hn2 := programL_mono f' fuelN _ _ _ _ _ hf' hn1
  let v2 : Mv := ⟨shiftK (a.length + 1), fun p => p + ((a.length + 1 : Nat) : Int), [], b.length, a.length + 1 + b.length, 0, fun t => ⟨rfl, rfl, rfl, by show ((t.2.2.2.1 + (a.length + 1) : Nat) : Int) = _; omega⟩, fun _ => s1.place, .inl rfl⟩
  have hx3 : v2.ext ⟨us, 0, 0⟩ = ⟨us.map (shiftK (a.length + 1)), 0, s1.place⟩ := by show St.mk (us.map (shiftK (a.length + 1)) ++ []) 0 s1.place = _; rw [List.append_nil]
  obtain ⟨st2, _, _, _, ss2⟩ := R_sim (v := v2) fuelN
  obtain ⟨items2, hyi, hni, hsf⟩ := prog_second (v := v2) rfl rfl st2 kt0 kt ss2 ks fuelN [] ([] ++ items) ⟨us, 0, 0⟩ s2 y n sF r2 w2 (by rw [hx3]; exact hn2)
  rw [List.nil_append] at hxi hyi hni
  have hsf2 : sF.wrong = 0 ∧ sF.rest = [] := by rw [hsf]; exact ⟨w2, by show s2.rest.map _ ++ [] = []; rw [e2]; rfl⟩
  have hn3 : n = ⟨1, 0, [], 0, x.kids ++ y.kids.map (mapTr fun p => p + ((a.length + 1 : Nat) : Int))⟩ := by rw [hni, hxi, hyi]
  refine ⟨?_, by rw [hyi], by rw [hxi]⟩
  rw [← hn3]
  exact ok_read hj (by rw [hE]; exact hF) hsf2.1 hsf2.2
/-- The places of a program's items lie within its source. -/
theorem rows_clamp (l : List Nat) (hl : l.length ≤ 4096) (y : Tree) (h : readS (programP fuelN) l = some (.ok y)) : y.kids.map (mapTr fun p => max 0 (min p (l.length : Int))) = y.kids := by
  obtain ⟨ts, s, t1, r1, w1, e1⟩ := read_ok h
  obtain ⟨kt, ku, ke, kb, ks⟩ := R_bs fuelN
  have kt0 := kt.le (Nat.zero_le _)
  let v : Mv := ⟨fun t => (t.1, t.2.1, t.2.2.1, min t.2.2.2.1 l.length, t.2.2.2.2), fun p => max 0 (min p (l.length : Int)), [], l.length, l.length, 0, fun t => ⟨rfl, rfl, rfl, by show ((min t.2.2.2.1 l.length : Nat) : Int) = _; omega⟩, fun p => p, .inl rfl⟩
  have hx : v.ext ⟨ts, 0, 0⟩ = ⟨ts, 0, 0⟩ := by
    show St.mk (ts.map v.mt ++ []) 0 0 = _
    rw [List.append_nil]
    congr 1
    have : ∀ t ∈ ts, v.mt t = t := by
      intro t ht
      obtain ⟨k, x, n, p, e⟩ := t
      show (k, x, n, min p l.length, e) = (k, x, n, p, e)
      rw [Nat.min_eq_left (toks_places l ts t1 _ ht)]
    exact (List.map_congr_left this).trans (List.map_id' ts)
  obtain ⟨st2, _, _, _, ss2⟩ := R_sim (v := v) fuelN
  obtain ⟨items, hyi, hni, _⟩ := prog_second (v := v) rfl rfl st2 kt0 kt ss2 ks fuelN [] [] ⟨ts, 0, 0⟩ s y y s r1 w1 (by rw [hx]; exact r1)
  rw [List.nil_append] at hyi hni
  have := hyi.symm.trans hni
  injection this with _ _ _ _ h5
  rw [hyi]
  exact h5.symm
/-- Moved with a wrap-round or without: the same. -/
theorem rows_wrap (l : List Nat) (hl : l.length ≤ 4096) (D : Nat) (hD : D ≤ 4097) (y : Tree) (h : readS (programP fuelN) l = some (.ok y)) : y.kids.map (mapTr fun p => if 0 ≤ p then RowKit.wrap64 (p + (D : Int)) else p) = y.kids.map (mapTr fun p => p + (D : Int)) := by
  have hc := rows_clamp l hl y h
  rw [← hc, mapTr_comp, mapTr_comp]
  congr 1
  congr 1
  funext p
  have h0 : 0 ≤ max 0 (min p (l.length : Int)) := by omega
  rw [if_pos h0]
  unfold RowKit.wrap64
  omega
end Go.Proofs.YtkagkofgfjhfgaaGreatDoor
