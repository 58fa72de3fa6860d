/-
  CONTRACT of the document's Tokens; a row of tokens that a call makes.
-/
import Derived.Test.YteeoakbafbnkhaaDoorOneAll
namespace Go.Proofs.YteeoakbafbnkhaaDoor
open Go.RowKit
set_option linter.unusedVariables false

/-- A token, as five cells. -/
def cellsT (t : Nat × List Nat × Nat × Nat × Nat) : List Value := [.int .u8 (t.1 : Int), .string (strN t.2.1), .int .u64 (t.2.2.1 : Int), .int .i64 (t.2.2.2.1 : Int), .int .i64 (t.2.2.2.2 : Int)]
def rowT (ts : List (Nat × List Nat × Nat × Nat × Nat)) : List Value := ts.flatMap cellsT
theorem rowT_length (ts : List (Nat × List Nat × Nat × Nat × Nat)) : (rowT ts).length = ts.length * 5 := by
  induction ts with
  | nil => rfl
  | cons t r ih => unfold rowT at ih ⊢; rw [List.flatMap_cons, List.length_append, ih, List.length_cons]; show 5 + _ = _; omega
theorem rowT_append (a b : List (Nat × List Nat × Nat × Nat × Nat)) : rowT (a ++ b) = rowT a ++ rowT b := by simp [rowT]
theorem info35 : (Tryd.prog.info? 39).map (fun i => (i.zero, i.size, i.bytes)) = some (some (.agg #[.int .u8 0, .string ⟨#[]⟩, .int .u64 0, .int .i64 0, .int .i64 0]), 5, 48) := by kernel_rfl

/-- 'l = append(l, t)': one token, which lies in a block of its own. -/
theorem wpList_appT {W : World} {ops : Array Oper} {rest : List Oper} {o : Oper} {a : Act} {Q : Exit → Act → World → Prop} (hgd : o.guard = none) (s x : Operand)
    (ho : o.op = .call { callee := .builtin .append, args := #[s, x], argTypes := #[28, 28] })
    (base : Nat) (v : Value) (n : Nat) (xs : List (Nat × List Nat × Nat × Nat × Nat)) (hs : a.eval s = v) (hown : W.ownsRow base 39 5 v n (rowT xs)) (t : Nat × List Nat × Nat × Nat × Nat)
    (b : Nat) (hx : a.eval x = .slice (some ⟨b, 0, none⟩) 1 1) (cs : Array Value) (fr : Nat × Nat) (hb : W.heap[b]? = some (.cells cs 39 fr)) (hcs : cs.toList = cellsT t)
    (h63 : n + 1 ≤ 1048576) (hbase : base ≤ W.heap.size)
    (h : ∀ v' w', w'.ownsRow base 39 5 v' (n + 1) (rowT (xs ++ [t])) → Below base W w' → W.grownBy w' v.ownBlock → wpList Tryd.prog ops Q rest (a.put o.dst v') w') :
    wpList Tryd.prog ops Q (o :: rest) a W := by
  obtain ⟨i8, hi, hz0, hz1, hz2⟩ := info_parts info35
  refine wpList_append_own _ hgd s x 28 ho base 39 i8 _ 5 48 Tryd.underlying28 hi hz0 hz1 hz2 rfl (by omega) v n (rowT xs) hs hown ⟨b, 0, none⟩ 1 1 (rowT [t]) hx (by rw [rowT_length]; rfl) ?_ ?_ (by unfold maxLen; omega) (by omega) hbase ?_
  · intro j u hu
    have e : rowT [t] = cs.toList := by rw [hcs]; simp [rowT]
    rw [e] at hu
    have hadd : (⟨b, 0, none⟩ : Addr).add j = ⟨b, j, none⟩ := by unfold Addr.add; split <;> simp_all
    rw [hadd, cell_of_row _ b j _ 39 _ hb]
    simpa using hu
  · intro u hu
    simp [rowT, cellsT] at hu
    rcases hu with rfl | rfl | rfl | rfl | rfl <;> rfl
  · intro v' w' h1 h2 _
    rw [← rowT_append] at h1
    exact h v' w' h1 ((Below.refl _ _).grown h2 hbase fun k hk => (hown.lt k hk).1) h2

/-! ### The tokens, one behind the other -/
theorem esc_pos : True := trivial
theorem text_pos : ∀ (f : Nat) (l : List Nat) (o : List Nat) (n : Nat), textN f l = .ok (o, n) → 1 ≤ n ∧ n ≤ l.length := by
  intro f
  induction f with
  | zero => intro l o n h; cases h
  | succ f ih =>
    intro l o n h
    cases l with
    | nil => cases h
    | cons c r =>
      unfold textN at h
      split at h
      · cases h
      · split at h
        · cases h; simp
        · split at h
          · cases hr : textN f r with
            | ok x => rw [hr] at h; obtain ⟨a, b⟩ := x; simp at h; have := ih r a b hr; simp; omega
            | error x => rw [hr] at h; obtain ⟨q, e⟩ := x; cases q <;> cases h
          · cases he : escN r with
            | error e => rw [he] at h; simp only at h; split at h <;> cases h
            | ok x =>
              obtain ⟨b, k⟩ := x
              rw [he] at h
              simp only at h
              have hl := esc_len he
              cases hr : textN f (r.drop (k - 1)) with
              | ok x =>
                rw [hr] at h; obtain ⟨a, m⟩ := x; simp at h
                have := ih _ a m hr
                rw [List.length_drop] at this
                simp; omega
              | error x => rw [hr] at h; obtain ⟨q, e⟩ := x; cases q <;> cases h
theorem one_len (l : List Nat) (kd : Nat) (tx : List Nat) (n len : Nat) (h : oneN l = .ok (kd, tx, n, len)) : 1 ≤ len ∧ len ≤ l.length := by
  cases l with
  | nil => cases h
  | cons c r =>
    unfold oneN at h
    simp only at h
    split at h
    · rename_i hl
      cases h
      have h1 := word_le (c :: r)
      have h2 := wordN_cons c r (by simp [wordB, hl])
      omega
    · split at h
      · rename_i hd
        split at h
        · simp only [Except.ok.injEq, Prod.mk.injEq] at h
          obtain ⟨_, _, _, rfl⟩ := h
          have h1 := dig_le (c :: r)
          have h2 := digN_cons c r hd
          have h3 := word_le ((c :: r).drop ((c :: r).takeWhile digitB).length)
          rw [List.length_drop] at h3
          unfold digN at h1 h2
          unfold wordN at h3
          omega
        · cases h
      · split at h
        · cases hr : textN (r.length + 1) r with
          | ok x => rw [hr] at h; obtain ⟨a, b⟩ := x; simp at h; have := text_pos _ _ _ _ hr; simp; omega
          | error x => rw [hr] at h; obtain ⟨q, e⟩ := x; cases q <;> cases h
        · cases hs : signX (c :: r) with
          | none => rw [hs] at h; cases h
          | some x =>
            rw [hs] at h; simp at h
            unfold signX at hs
            have hm := List.mem_of_find?_eq_some hs
            have hp := List.find?_some hs
            have h1 : ∀ x ∈ signL, 1 ≤ x.length := by decide
            have h2 := h1 x hm
            simp only [hasB, decide_eq_true_eq] at hp
            have h3 := congrArg List.length hp
            rw [List.length_take] at h3
            omega
theorem blank_le : ∀ (l : List Nat) (b : Bool), blankN b l ≤ l.length := by
  intro l
  induction l with
  | nil => intro b; cases b <;> simp [blankN]
  | cons c r ih =>
    intro b
    cases b with
    | true => rw [blankN, List.length_cons]; have := ih (decide (c ≠ 10)); omega
    | false =>
      rw [blankN, List.length_cons]
      split
      · have := ih true; omega
      · split
        · have := ih false; omega
        · omega
theorem toks_fuel : ∀ (f g k at0 : Nat) (l : List Nat), l.length < f → l.length < g → toksN f k at0 l = toksN g k at0 l := by
  intro f
  induction f with
  | zero => intro g k a l h; omega
  | succ f ih =>
    intro g k at0 l hf hg
    cases g with
    | zero => omega
    | succ g =>
      unfold toksN
      simp only
      split
      · rfl
      · split
        · rfl
        · cases ho : oneN (l.drop (blankN false l)) with
          | error x => rfl
          | ok x =>
            obtain ⟨kd, tx, n, len⟩ := x
            have hl := one_len _ _ _ _ _ ho
            rw [List.length_drop] at hl
            simp only
            rw [ih g (k + 1) (at0 + blankN false l + len) (l.drop (blankN false l + len)) (by rw [List.length_drop]; omega) (by rw [List.length_drop]; omega)]
end Go.Proofs.YteeoakbafbnkhaaDoor
