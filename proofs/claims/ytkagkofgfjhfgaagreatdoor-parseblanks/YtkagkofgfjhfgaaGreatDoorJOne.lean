/-
  Texts joined: One, OneAll, Tokens, TokensWalk.
-/
import Derived.Test.YtkagkofgfjhfgaaGreatDoorJLow
import Derived.BigRegion

/-
  CONTRACT of the document's one: the token at a place.
-/
namespace Go.Proofs.YtkagkofgfjhfgaaGreatDoor
open Go.RowKit
set_option linter.unusedVariables false

def oneV (p : Nat) (o : Except (Nat × Nat) (Nat × List Nat × Nat × Nat)) (pl : Int) : Value :=
  match o with
  | .ok (kd, tx, n, len) => .tuple #[.agg #[.int .u8 (kd : Int), .string (strN tx), .int .u64 (n : Int), .int .i64 (p : Int), .int .i64 ((p + len : Nat) : Int)], .int .i64 pl, .int .i64 0]
  | .error (q, e) => .tuple #[.agg #[.int .u8 0, .string ⟨#[]⟩, .int .u64 0, .int .i64 0, .int .i64 0], .int .i64 ((p + q : Nat) : Int), .int .i64 (e : Int)]
theorem oneV_ok (p kd n len : Nat) (tx : List Nat) (pl b : Int) (hb : b = ((p + len : Nat) : Int)) : oneV p (.ok (kd, tx, n, len)) pl = .tuple #[.agg #[.int .u8 (kd : Int), .string (strN tx), .int .u64 (n : Int), .int .i64 (p : Int), .int .i64 b], .int .i64 pl, .int .i64 0] := by
  subst hb; rfl
theorem oneV_no (p q e : Nat) (pl b : Int) (hb : b = ((p + q : Nat) : Int)) : oneV p (.error (q, e)) pl = .tuple #[.agg #[.int .u8 0, .string ⟨#[]⟩, .int .u64 0, .int .i64 0, .int .i64 0], .int .i64 b, .int .i64 (e : Int)] := by
  subst hb; rfl
theorem takeWhile_take (q : Nat → Bool) : ∀ l : List Nat, l.take (l.takeWhile q).length = l.takeWhile q := by
  intro l
  induction l with
  | nil => rfl
  | cons c r ih =>
    rw [List.takeWhile_cons]
    split
    · rw [List.length_cons, List.take_succ_cons, ih]
    · rfl
theorem word_le (l : List Nat) : wordN l ≤ l.length := by unfold wordN; rw [← takeWhile_take, List.length_take]; omega
theorem dig_le (l : List Nat) : digN l ≤ l.length := by unfold digN; rw [← takeWhile_take, List.length_take]; omega
theorem extract_strN (s : ByteArray) (a b : Nat) (l : List Nat) (h : ((bytesN s).drop a).take (b - a) = l) : s.extract a b = strN l := by
  apply bytesN_inj
  rw [bytesN_extract, h, bytesN_strN]
  intro c hc
  rw [← h] at hc
  exact bytesN_lt s c (List.mem_of_mem_drop (List.mem_of_mem_take hc))

def zeroO : Obj := .cells #[.int .u8 0, .string ⟨#[]⟩, .int .u64 0, .int .i64 0, .int .i64 0] 39
theorem zero_kept {w w2 : World} {g : Nat} (hg : g = w.heap.size) (hb : Below (w.alloc zeroO).heap.size (w.alloc zeroO) w2) : w2.heap[g]? = some zeroO ∧ g < w2.heap.size ∧ Below g w w2 := by
  have hs : (w.alloc zeroO).heap.size = g + 1 := by rw [hg]; exact Array.size_push _
  have h1 := hb.size
  rw [hs] at h1
  refine ⟨?_, by omega, ?_⟩
  · rw [hb.block g (by omega), hg]; exact heap_alloc_new w _
  · refine ((Below.refl g w).alloc (by omega) zeroO).trans (hb.mono (by omega))
theorem set5_size (w : World) (g : Nat) (b0 b1 b2 b3 b4 : Value) : (((((w.setCell ⟨g, 0, none⟩ b0).setCell ⟨g, 1, none⟩ b1).setCell ⟨g, 2, none⟩ b2).setCell ⟨g, 3, none⟩ b3).setCell ⟨g, 4, none⟩ b4).heap.size = w.heap.size := by
  simp [World.setCell]

theorem signX_at (l : List Nat) (i : Nat) (h : i < 31) (hb : ∀ j, j < i → hasB l (signL.getD j []) = false) (hi : hasB l (signL.getD i []) = true) : signX l = some (signL.getD i []) := by
  have h2 : i < signL.length := h
  have e1 : signL.getD i [] = signL[i] := by rw [List.getD_eq_getElem?_getD, List.getElem?_eq_getElem h2]; rfl
  rw [e1] at hi ⊢
  unfold signX
  rw [List.find?_eq_some_iff_getElem]
  refine ⟨hi, i, h2, rfl, fun j hj => ?_⟩
  have := hb j hj
  rw [List.getD_eq_getElem?_getD, List.getElem?_eq_getElem (by omega)] at this
  simpa using this
theorem signX_none (l : List Nat) (hb : ∀ j, j < 31 → hasB l (signL.getD j []) = false) : signX l = none := by
  unfold signX
  rw [List.find?_eq_none]
  intro x hx
  obtain ⟨j, hj, rfl⟩ := List.getElem_of_mem hx
  have := hb j hj
  rw [List.getD_eq_getElem?_getD, List.getElem?_eq_getElem hj] at this
  simpa using this
theorem sign_bytes (i : Nat) (h : i < 31) : bytesN (signS.getD i ⟨#[]⟩) = signL.getD i [] := by
  have h2 : i < signS.length := h
  rw [← sign_same, List.getD_eq_getElem?_getD, List.getD_eq_getElem?_getD, List.getElem?_map, List.getElem?_eq_getElem h2]; rfl
theorem sign_size (i : Nat) (h : i < 31) : (signS.getD i ⟨#[]⟩).size ≤ 2 := by
  have h2 : i < signS.length := h
  rw [List.getD_eq_getElem?_getD, List.getElem?_eq_getElem h2]
  have : ∀ x ∈ signS, x.size ≤ 2 := by decide
  exact this _ (List.getElem_mem h2)
theorem below_drew {B : Nat} {w w1 : World} (h : Below B w w1) : Below B w w1.drew := ⟨h.os, h.tape, h.output, h.size, h.block⟩
theorem strN_bytesN (x : ByteArray) : strN (bytesN x) = x := by
  apply bytesN_inj; rw [bytesN_strN _ (bytesN_lt x)]
def SignRel (l : List Nat) (i : Value) : Prop := ∃ k : Nat, k ≤ 31 ∧ i = .int .i64 k ∧ ∀ j, j < k → hasB l (signL.getD j []) = false
end Go.Proofs.YtkagkofgfjhfgaaGreatDoor

/-
  CONTRACT of the document's one, all ways together.
-/
namespace Go.Proofs.YtkagkofgfjhfgaaGreatDoor
open Go.RowKit
set_option linter.unusedVariables false

theorem one_num (l : List Nat) (c : Nat) (r : List Nat) (h : l = c :: r) (h1 : letterB c = false) (h2 : digitB c = true) : oneN l =
    if sfxB ((l.drop (l.takeWhile digitB).length).takeWhile wordB) ∧ valN (l.takeWhile digitB) ≤ topN ((l.drop (l.takeWhile digitB).length).takeWhile wordB) then .ok (2, (l.drop (l.takeWhile digitB).length).takeWhile wordB, valN (l.takeWhile digitB), (l.takeWhile digitB).length + ((l.drop (l.takeWhile digitB).length).takeWhile wordB).length) else .error (0, 33) := by
  subst h; unfold oneN; simp only [h1, h2, if_true, Bool.false_eq_true, if_false]
theorem one_text (r : List Nat) : oneN (34 :: r) = match T r with | .ok (out, n) => .ok (3, out, 0, n + 1) | .error (some p, e) => .error (p + 1, e) | .error (none, e) => .error (0, e) := by
  unfold oneN; simp [letterB, digitB]; rfl
theorem one_sign (c : Nat) (r : List Nat) (h1 : letterB c = false) (h2 : digitB c = false) (h3 : ¬ c = 34) : oneN (c :: r) = match signX (c :: r) with | none => .error (0, 30) | some x => .ok (4, x, 0, x.length) := by
  unfold oneN; simp only [h1, h2, h3, Bool.false_eq_true, if_false]
  cases signX (c :: r) <;> rfl

end Go.Proofs.YtkagkofgfjhfgaaGreatDoor

/-
  CONTRACT of the document's Tokens; a row of tokens that a call makes.
-/
namespace Go.Proofs.YtkagkofgfjhfgaaGreatDoor
open Go.RowKit
set_option linter.unusedVariables false

/-- A token, as five cells. -/
def cellsT (t : Nat × List Nat × Nat × Nat × Nat) : List Value := [.int .u8 (t.1 : Int), .string (strN t.2.1), .int .u64 (t.2.2.1 : Int), .int .i64 (t.2.2.2.1 : Int), .int .i64 (t.2.2.2.2 : Int)]
def rowT (ts : List (Nat × List Nat × Nat × Nat × Nat)) : List Value := ts.flatMap cellsT
theorem rowT_length (ts : List (Nat × List Nat × Nat × Nat × Nat)) : (rowT ts).length = ts.length * 5 := by
  induction ts with
  | nil => rfl
  | cons t r ih => unfold rowT at ih ⊢; rw [List.flatMap_cons, List.length_append, ih, List.length_cons]; show 5 + _ = _; omega
theorem rowT_append (a b : List (Nat × List Nat × Nat × Nat × Nat)) : rowT (a ++ b) = rowT a ++ rowT b := by simp [rowT]
theorem info35 : (Tryz.prog.info? 39).map (fun i => (i.zero, i.size, i.bytes)) = some (some (.agg #[.int .u8 0, .string ⟨#[]⟩, .int .u64 0, .int .i64 0, .int .i64 0]), 5, 48) := by kernel_rfl

/-- 'l = append(l, t)': one token, which lies in a block of its own. -/
theorem wpList_appT {W : World} {ops : Array Oper} {rest : List Oper} {o : Oper} {a : Act} {Q : Exit → Act → World → Prop} (hgd : o.guard = none) (s x : Operand)
    (ho : o.op = .call { callee := .builtin .append, args := #[s, x], argTypes := #[29, 29] })
    (base : Nat) (v : Value) (n : Nat) (xs : List (Nat × List Nat × Nat × Nat × Nat)) (hs : a.eval s = v) (hown : W.ownsRow base 39 5 v n (rowT xs)) (t : Nat × List Nat × Nat × Nat × Nat)
    (b : Nat) (hx : a.eval x = .slice (some ⟨b, 0, none⟩) 1 1) (cs : Array Value) (fr : Nat × Nat) (hb : W.heap[b]? = some (.cells cs 39 fr)) (hcs : cs.toList = cellsT t)
    (h63 : n + 1 ≤ 1048576) (hbase : base ≤ W.heap.size)
    (h : ∀ v' w', w'.ownsRow base 39 5 v' (n + 1) (rowT (xs ++ [t])) → Below base W w' → W.grownBy w' v.ownBlock → wpList Tryz.prog ops Q rest (a.put o.dst v') w') :
    wpList Tryz.prog ops Q (o :: rest) a W := by
  obtain ⟨i8, hi, hz0, hz1, hz2⟩ := info_parts info35
  refine wpList_append_own _ hgd s x 29 ho base 39 i8 _ 5 48 Tryz.underlying29 hi hz0 hz1 hz2 rfl (by omega) v n (rowT xs) hs hown ⟨b, 0, none⟩ 1 1 (rowT [t]) hx (by rw [rowT_length]; rfl) ?_ ?_ (by unfold maxLen; omega) (by omega) hbase ?_
  · intro j u hu
    have e : rowT [t] = cs.toList := by rw [hcs]; simp [rowT]
    rw [e] at hu
    have hadd : (⟨b, 0, none⟩ : Addr).add j = ⟨b, j, none⟩ := by unfold Addr.add; split <;> simp_all
    rw [hadd, cell_of_row _ b j _ 39 _ hb]
    simpa using hu
  · intro u hu
    simp [rowT, cellsT] at hu
    rcases hu with rfl | rfl | rfl | rfl | rfl <;> rfl
  · intro v' w' h1 h2 _
    rw [← rowT_append] at h1
    exact h v' w' h1 ((Below.refl _ _).grown h2 hbase fun k hk => (hown.lt k hk).1) h2

/-! ### The tokens, one behind the other -/
theorem esc_pos : True := trivial
theorem text_pos : ∀ (f : Nat) (l : List Nat) (o : List Nat) (n : Nat), textN f l = .ok (o, n) → 1 ≤ n ∧ n ≤ l.length := by
  intro f
  induction f with
  | zero => intro l o n h; cases h
  | succ f ih =>
    intro l o n h
    cases l with
    | nil => cases h
    | cons c r =>
      unfold textN at h
      split at h
      · cases h
      · split at h
        · cases h; simp
        · split at h
          · cases hr : textN f r with
            | ok x => rw [hr] at h; obtain ⟨a, b⟩ := x; simp at h; have := ih r a b hr; simp; omega
            | error x => rw [hr] at h; obtain ⟨q, e⟩ := x; cases q <;> cases h
          · cases he : escN r with
            | error e => rw [he] at h; simp only at h; split at h <;> cases h
            | ok x =>
              obtain ⟨b, k⟩ := x
              rw [he] at h
              simp only at h
              have hl := esc_len he
              cases hr : textN f (r.drop (k - 1)) with
              | ok x =>
                rw [hr] at h; obtain ⟨a, m⟩ := x; simp at h
                have := ih _ a m hr
                rw [List.length_drop] at this
                simp; omega
              | error x => rw [hr] at h; obtain ⟨q, e⟩ := x; cases q <;> cases h
theorem one_len (l : List Nat) (kd : Nat) (tx : List Nat) (n len : Nat) (h : oneN l = .ok (kd, tx, n, len)) : 1 ≤ len ∧ len ≤ l.length := by
  cases l with
  | nil => cases h
  | cons c r =>
    unfold oneN at h
    simp only at h
    split at h
    · rename_i hl
      cases h
      have h1 := word_le (c :: r)
      have h2 := wordN_cons c r (by simp [wordB, hl])
      omega
    · split at h
      · rename_i hd
        split at h
        · simp only [Except.ok.injEq, Prod.mk.injEq] at h
          obtain ⟨_, _, _, rfl⟩ := h
          have h1 := dig_le (c :: r)
          have h2 := digN_cons c r hd
          have h3 := word_le ((c :: r).drop ((c :: r).takeWhile digitB).length)
          rw [List.length_drop] at h3
          unfold digN at h1 h2
          unfold wordN at h3
          omega
        · cases h
      · split at h
        · cases hr : textN (r.length + 1) r with
          | ok x => rw [hr] at h; obtain ⟨a, b⟩ := x; simp at h; have := text_pos _ _ _ _ hr; simp; omega
          | error x => rw [hr] at h; obtain ⟨q, e⟩ := x; cases q <;> cases h
        · cases hs : signX (c :: r) with
          | none => rw [hs] at h; cases h
          | some x =>
            rw [hs] at h; simp at h
            unfold signX at hs
            have hm := List.mem_of_find?_eq_some hs
            have hp := List.find?_some hs
            have h1 : ∀ x ∈ signL, 1 ≤ x.length := by decide
            have h2 := h1 x hm
            simp only [hasB, decide_eq_true_eq] at hp
            have h3 := congrArg List.length hp
            rw [List.length_take] at h3
            omega
theorem blank_le : ∀ (l : List Nat) (b : Bool), blankN b l ≤ l.length := by
  intro l
  induction l with
  | nil => intro b; cases b <;> simp [blankN]
  | cons c r ih =>
    intro b
    cases b with
    | true => rw [blankN, List.length_cons]; have := ih (decide (c ≠ 10)); omega
    | false =>
      rw [blankN, List.length_cons]
      split
      · have := ih true; omega
      · split
        · have := ih false; omega
        · omega
theorem toks_fuel : ∀ (f g k at0 : Nat) (l : List Nat), l.length < f → l.length < g → toksN f k at0 l = toksN g k at0 l := by
  intro f
  induction f with
  | zero => intro g k a l h; omega
  | succ f ih =>
    intro g k at0 l hf hg
    cases g with
    | zero => omega
    | succ g =>
      unfold toksN
      simp only
      split
      · rfl
      · split
        · rfl
        · cases ho : oneN (l.drop (blankN false l)) with
          | error x => rfl
          | ok x =>
            obtain ⟨kd, tx, n, len⟩ := x
            have hl := one_len _ _ _ _ _ ho
            rw [List.length_drop] at hl
            simp only
            rw [ih g (k + 1) (at0 + blankN false l + len) (l.drop (blankN false l + len)) (by rw [List.length_drop]; omega) (by rw [List.length_drop]; omega)]
end Go.Proofs.YtkagkofgfjhfgaaGreatDoor

/-
  CONTRACT of the document's Tokens.
-/
namespace Go.Proofs.YtkagkofgfjhfgaaGreatDoor
open Go.RowKit
set_option linter.unusedVariables false

def preT (ts : List (Nat × List Nat × Nat × Nat × Nat)) (x : Except (Nat × Nat) (List (Nat × List Nat × Nat × Nat × Nat))) : Except (Nat × Nat) (List (Nat × List Nat × Nat × Nat × Nat)) :=
  match x with
  | .ok r => .ok (ts ++ r)
  | .error e => .error e
theorem preT_nil (x : Except (Nat × Nat) (List (Nat × List Nat × Nat × Nat × Nat))) : preT [] x = x := by cases x <;> rfl
theorem preT_pre (a b : List (Nat × List Nat × Nat × Nat × Nat)) (x : Except (Nat × Nat) (List (Nat × List Nat × Nat × Nat × Nat))) : preT a (preT b x) = preT (a ++ b) x := by
  cases x <;> simp [preT]
def TK (k at0 : Nat) (l : List Nat) : Except (Nat × Nat) (List (Nat × List Nat × Nat × Nat × Nat)) := toksN (l.length + 1) k at0 l
theorem TK_end (k at0 : Nat) (l : List Nat) (h : l.drop (blankN false l) = []) : TK k at0 l = .ok [] := by
  unfold TK toksN; simp only; rw [if_pos h]
theorem TK_limit (k at0 : Nat) (l : List Nat) (h : ¬ l.drop (blankN false l) = []) (hk : k = 32768) : TK k at0 l = .error (at0 + blankN false l, 3) := by
  unfold TK toksN; simp only; rw [if_neg h, if_pos hk]
theorem TK_err (k at0 : Nat) (l : List Nat) (p e : Nat) (h : ¬ l.drop (blankN false l) = []) (hk : ¬ k = 32768) (ho : oneN (l.drop (blankN false l)) = .error (p, e)) : TK k at0 l = .error (at0 + blankN false l + p, e) := by
  unfold TK toksN; simp only; rw [if_neg h, if_neg hk, ho]
theorem TK_ok (k at0 : Nat) (l : List Nat) (kd : Nat) (tx : List Nat) (n len : Nat) (h : ¬ l.drop (blankN false l) = []) (hk : ¬ k = 32768) (ho : oneN (l.drop (blankN false l)) = .ok (kd, tx, n, len)) :
    TK k at0 l = preT [(kd, tx, n, at0 + blankN false l, at0 + blankN false l + len)] (TK (k + 1) (at0 + blankN false l + len) (l.drop (blankN false l + len))) := by
  have hl := one_len _ _ _ _ _ ho
  rw [List.length_drop] at hl
  unfold TK
  conv => lhs; unfold toksN
  simp only
  rw [if_neg h, if_neg hk, ho]
  simp only
  rw [toks_fuel l.length ((l.drop (blankN false l + len)).length + 1) _ _ _ (by rw [List.length_drop]; omega) (by omega)]
  cases toksN ((l.drop (blankN false l + len)).length + 1) (k + 1) (at0 + blankN false l + len) (l.drop (blankN false l + len)) <;> rfl
theorem text_err : ∀ (f : Nat) (l : List Nat) (q : Option Nat) (e : Nat), textN f l = .error (q, e) → e = 31 ∨ e = 32 := by
  intro f
  induction f with
  | zero => intro l q e h; cases h; simp
  | succ f ih =>
    intro l q e h
    cases l with
    | nil => cases h; simp
    | cons c r =>
      unfold textN at h
      split at h
      · cases h; simp
      · split at h
        · cases h
        · split at h
          · cases hr : textN f r with
            | ok x => rw [hr] at h; obtain ⟨a, b⟩ := x; cases h
            | error x =>
              rw [hr] at h; obtain ⟨q', e'⟩ := x
              have := ih r q' e' hr
              cases q' <;> (cases h; exact this)
          · cases he : escN r with
            | error e' =>
              rw [he] at h; simp only at h
              have := esc_error he
              split at h <;> cases h
              · simp
              · exact this
            | ok x =>
              obtain ⟨b, k⟩ := x
              rw [he] at h
              simp only at h
              cases hr : textN f (r.drop (k - 1)) with
              | ok x => rw [hr] at h; obtain ⟨a, m⟩ := x; cases h
              | error x =>
                rw [hr] at h; obtain ⟨q', e'⟩ := x
                have := ih _ q' e' hr
                cases q' <;> (cases h; exact this)
theorem one_err (l : List Nat) (p e : Nat) (h : oneN l = .error (p, e)) : 30 ≤ e ∧ e ≤ 33 := by
  cases l with
  | nil => cases h; omega
  | cons c r =>
    unfold oneN at h
    simp only at h
    split at h
    · cases h
    · split at h
      · split at h
        · cases h
        · cases h; omega
      · split at h
        · cases hr : textN (r.length + 1) r with
          | ok x => rw [hr] at h; obtain ⟨a, b⟩ := x; cases h
          | error x =>
            rw [hr] at h; obtain ⟨q, e'⟩ := x
            have := text_err _ _ _ _ hr
            cases q <;> (cases h; omega)
        · cases hs : signX (c :: r) with
          | none => rw [hs] at h; cases h; omega
          | some x => rw [hs] at h; cases h
theorem own_form {w : World} {B n : Nat} {v : Value} {xs : List Value} (h : w.ownsRow B 39 5 v n xs) : ∃ ao cap, v = .slice ao n cap := by
  rcases h.2 with ⟨h1, h2⟩ | ⟨g, cap, cur, h1, _⟩
  · exact ⟨none, 0, by rw [h1, h2]⟩
  · exact ⟨_, cap, h1⟩
theorem own_kept {w w' : World} {B n : Nat} {v : Value} {xs : List Value} (h : w.ownsRow B 39 5 v n xs) (hb : Below w.heap.size w w') : w'.ownsRow B 39 5 v n xs := by
  refine ⟨h.1, ?_⟩
  rcases h.2 with hn | ⟨g, cap, cur, hv, hB, hg, rest⟩
  · exact .inl hn
  · exact .inr ⟨g, cap, cur, hv, hB, by rw [hb.block g (Array.getElem?_eq_some_iff.1 hg).1]; exact hg, rest⟩

theorem alloc2_first (w : World) (A B : Obj) : ((w.alloc A).alloc B).heap[w.heap.size]? = some A := by
  have hs : (w.alloc A).heap.size = w.heap.size + 1 := Array.size_push _
  have h1 : ((w.alloc A).heap.push B)[w.heap.size]? = (w.alloc A).heap[w.heap.size]? := by rw [Array.getElem?_push, if_neg (by omega)]
  exact h1.trans (heap_alloc_new w A)
theorem alloc2_size (w : World) (A B : Obj) : ((w.alloc A).alloc B).heap.size = w.heap.size + 2 := by
  have hs : (w.alloc A).heap.size = w.heap.size + 1 := Array.size_push _
  have h2 : ((w.alloc A).heap.push B).size = (w.alloc A).heap.size + 1 := Array.size_push _
  exact h2.trans (by omega)
/-- What a call of Tokens gives. -/
def TokGives (w : World) (x : Except (Nat × Nat) (List (Nat × List Nat × Nat × Nat × Nat))) (e : Ending) (w' : World) : Prop :=
  match x with
  | .ok ts => ∃ v, e = .returned (.tuple #[v, .int .i64 0, .int .i64 0]) ∧ w'.ownsRow w.heap.size 39 5 v ts.length (rowT ts) ∧ Below w.heap.size w w'
  | .error (p, k) => e = .returned (.tuple #[.slice none 0 0, .int .i64 (p : Int), .int .i64 (k : Int)]) ∧ Below w.heap.size w w'
def TokRel (s : ByteArray) (w : World) (B : Nat) (TT : Except (Nat × Nat) (List (Nat × List Nat × Nat × Nat × Nat))) (v i : Value) (wr : World) : Prop :=
  ∃ (at0 P : Nat) (ts : List (Nat × List Nat × Nat × Nat × Nat)), at0 ≤ s.size ∧ P = at0 + blankN false ((bytesN s).drop at0) ∧ i = .int .i64 P ∧ ts.length ≤ 32768 ∧ wr.ownsRow B 39 5 v ts.length (rowT ts) ∧ Below B w wr ∧
    preT ts (TK ts.length at0 ((bytesN s).drop at0)) = TT
theorem gives_err {w w' : World} {p k : Nat} {x : Except (Nat × Nat) (List (Nat × List Nat × Nat × Nat × Nat))} {e : Ending} (hx : Hid (x = .error (p, k))) (he : e = .returned (.tuple #[.slice none 0 0, .int .i64 (p : Int), .int .i64 (k : Int)])) (hb : Below w.heap.size w w') : TokGives w x e w' := by
  rw [hx.out]; exact ⟨he, hb⟩

end Go.Proofs.YtkagkofgfjhfgaaGreatDoor
