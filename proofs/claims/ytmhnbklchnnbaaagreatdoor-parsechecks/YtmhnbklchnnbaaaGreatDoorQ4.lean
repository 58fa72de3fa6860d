import Derived.Test.YtmhnbklchnnbaaaGreatDoorJLow
import Derived.BigRegion
import Derived.Test.YtmhnbklchnnbaaaGreatDoorJModel
namespace Go.Proofs.YtmhnbklchnnbaaaGreatDoor
open Go.RowKit
set_option linter.unusedVariables false
theorem takeWhile_take (q : Nat → Bool) : ∀ l : List Nat, l.take (l.takeWhile q).length = l.takeWhile q := by
  intro l
  induction l with
  | nil => rfl
  | cons c r ih =>
    rw [List.takeWhile_cons]
    split
    · rw [List.length_cons, List.take_succ_cons, ih]
    · rfl
theorem word_le (l : List Nat) : wordN l ≤ l.length := by unfold wordN; rw [← takeWhile_take, List.length_take]; omega
theorem dig_le (l : List Nat) : digN l ≤ l.length := by unfold digN; rw [← takeWhile_take, List.length_take]; omega
theorem extract_strN (s : ByteArray) (a b : Nat) (l : List Nat) (h : ((bytesN s).drop a).take (b - a) = l) : s.extract a b = strN l := by
  apply bytesN_inj
  rw [bytesN_extract, h, bytesN_strN]
  intro c hc
  rw [← h] at hc
  exact bytesN_lt s c (List.mem_of_mem_drop (List.mem_of_mem_take hc))
theorem set5_size (w : World) (g : Nat) (b0 b1 b2 b3 b4 : Value) : (((((w.setCell ⟨g, 0, none⟩ b0).setCell ⟨g, 1, none⟩ b1).setCell ⟨g, 2, none⟩ b2).setCell ⟨g, 3, none⟩ b3).setCell ⟨g, 4, none⟩ b4).heap.size = w.heap.size := by
  simp [World.setCell]
theorem sign_size (i : Nat) (h : i < 31) : (signS.getD i ⟨#[]⟩).size ≤ 2 := by
  have h2 : i < signS.length := h
  rw [List.getD_eq_getElem?_getD, List.getElem?_eq_getElem h2]
  have : ∀ x ∈ signS, x.size ≤ 2 := by decide
  exact this _ (List.getElem_mem h2)
theorem strN_bytesN (x : ByteArray) : strN (bytesN x) = x := by
  apply bytesN_inj; rw [bytesN_strN _ (bytesN_lt x)]
theorem one_num (l : List Nat) (c : Nat) (r : List Nat) (h : l = c :: r) (h1 : letterB c = false) (h2 : digitB c = true) : oneN l =
    if sfxB ((l.drop (l.takeWhile digitB).length).takeWhile wordB) ∧ valN (l.takeWhile digitB) ≤ topN ((l.drop (l.takeWhile digitB).length).takeWhile wordB) then .ok (2, (l.drop (l.takeWhile digitB).length).takeWhile wordB, valN (l.takeWhile digitB), (l.takeWhile digitB).length + ((l.drop (l.takeWhile digitB).length).takeWhile wordB).length) else .error (0, 33) := by
  subst h; unfold oneN; simp only [h1, h2, if_true, Bool.false_eq_true, if_false]
theorem one_text (r : List Nat) : oneN (34 :: r) = match T r with | .ok (out, n) => .ok (3, out, 0, n + 1) | .error (some p, e) => .error (p + 1, e) | .error (none, e) => .error (0, e) := by
  unfold oneN; simp [letterB, digitB]; rfl
theorem one_sign (c : Nat) (r : List Nat) (h1 : letterB c = false) (h2 : digitB c = false) (h3 : ¬ c = 34) : oneN (c :: r) = match signX (c :: r) with | none => .error (0, 30) | some x => .ok (4, x, 0, x.length) := by
  unfold oneN; simp only [h1, h2, h3, Bool.false_eq_true, if_false]
  cases signX (c :: r) <;> rfl
def cellsT (t : Nat × List Nat × Nat × Nat × Nat) : List Value := [.int .u8 (t.1 : Int), .string (strN t.2.1), .int .u64 (t.2.2.1 : Int), .int .i64 (t.2.2.2.1 : Int), .int .i64 (t.2.2.2.2 : Int)]
def rowT (ts : List (Nat × List Nat × Nat × Nat × Nat)) : List Value := ts.flatMap cellsT
theorem rowT_length (ts : List (Nat × List Nat × Nat × Nat × Nat)) : (rowT ts).length = ts.length * 5 := by
  induction ts with
  | nil => rfl
  | cons t r ih => unfold rowT at ih ⊢; rw [List.flatMap_cons, List.length_append, ih, List.length_cons]; show 5 + _ = _; omega
theorem rowT_append (a b : List (Nat × List Nat × Nat × Nat × Nat)) : rowT (a ++ b) = rowT a ++ rowT b := by simp [rowT]
theorem info35 : (Tryz.prog.info? 77).map (fun i => (i.zero, i.size, i.bytes)) = some (some (.agg #[.int .u8 0, .string ⟨#[]⟩, .int .u64 0, .int .i64 0, .int .i64 0]), 5, 48) := by kernel_rfl
theorem text_pos : ∀ (f : Nat) (l : List Nat) (o : List Nat) (n : Nat), textN f l = .ok (o, n) → 1 ≤ n ∧ n ≤ l.length := by
  intro f
  induction f with
  | zero => intro l o n h; cases h
  | succ f ih =>
    intro l o n h
    cases l with
    | nil => cases h
    | cons c r =>
      unfold textN at h
      split at h
      · cases h
      · split at h
        · cases h; simp
        · split at h
          · cases hr : textN f r with
            | ok x => rw [hr] at h; obtain ⟨a, b⟩ := x; simp at h; have := ih r a b hr; simp; omega
            | error x => rw [hr] at h; obtain ⟨q, e⟩ := x; cases q <;> cases h
          · cases he : escN r with
            | error e => rw [he] at h; simp only at h; split at h <;> cases h
            | ok x =>
              obtain ⟨b, k⟩ := x
              rw [he] at h
              simp only at h
              have hl := esc_len he
              cases hr : textN f (r.drop (k - 1)) with
              | ok x =>
                rw [hr] at h; obtain ⟨a, m⟩ := x; simp at h
                have := ih _ a m hr
                rw [List.length_drop] at this
                simp; omega
              | error x => rw [hr] at h; obtain ⟨q, e⟩ := x; cases q <;> cases h
theorem one_len (l : List Nat) (kd : Nat) (tx : List Nat) (n len : Nat) (h : oneN l = .ok (kd, tx, n, len)) : 1 ≤ len ∧ len ≤ l.length := by
  cases l with
  | nil => cases h
  | cons c r =>
    unfold oneN at h
    simp only at h
    split at h
    · rename_i hl
      cases h
      have h1 := word_le (c :: r)
      have h2 := wordN_cons c r (by simp [wordB, hl])
      omega
    · split at h
      · rename_i hd
        split at h
        · simp only [Except.ok.injEq, Prod.mk.injEq] at h
          obtain ⟨_, _, _, rfl⟩ := h
          have h1 := dig_le (c :: r)
          have h2 := digN_cons c r hd
          have h3 := word_le ((c :: r).drop ((c :: r).takeWhile digitB).length)
          rw [List.length_drop] at h3
          unfold digN at h1 h2
          unfold wordN at h3
          omega
        · cases h
      · split at h
        · cases hr : textN (r.length + 1) r with
          | ok x => rw [hr] at h; obtain ⟨a, b⟩ := x; simp at h; have := text_pos _ _ _ _ hr; simp; omega
          | error x => rw [hr] at h; obtain ⟨q, e⟩ := x; cases q <;> cases h
        · cases hs : signX (c :: r) with
          | none => rw [hs] at h; cases h
          | some x =>
            rw [hs] at h; simp at h
            unfold signX at hs
            have hm := List.mem_of_find?_eq_some hs
            have hp := List.find?_some hs
            have h1 : ∀ x ∈ signL, 1 ≤ x.length := by decide
            have h2 := h1 x hm
            simp only [hasB, decide_eq_true_eq] at hp
            have h3 := congrArg List.length hp
            rw [List.length_take] at h3
            omega
theorem blank_le : ∀ (l : List Nat) (b : Bool), blankN b l ≤ l.length := by
  intro l
  induction l with
  | nil => intro b; cases b <;> simp [blankN]
  | cons c r ih =>
    intro b
    cases b with
    | true => rw [blankN, List.length_cons]; have := ih (decide (c ≠ 10)); omega
    | false =>
      rw [blankN, List.length_cons]
      split
      · have := ih true; omega
      · split
        · have := ih false; omega
        · omega
theorem toks_fuel : ∀ (f g k at0 : Nat) (l : List Nat), l.length < f → l.length < g → toksN f k at0 l = toksN g k at0 l := by
  intro f
  induction f with
  | zero => intro g k a l h; omega
  | succ f ih =>
    intro g k at0 l hf hg
    cases g with
    | zero => omega
    | succ g =>
      unfold toksN
      simp only
      split
      · rfl
      · split
        · rfl
        · cases ho : oneN (l.drop (blankN false l)) with
          | error x => rfl
          | ok x =>
            obtain ⟨kd, tx, n, len⟩ := x
            have hl := one_len _ _ _ _ _ ho
            rw [List.length_drop] at hl
            simp only
            rw [ih g (k + 1) (at0 + blankN false l + len) (l.drop (blankN false l + len)) (by rw [List.length_drop]; omega) (by rw [List.length_drop]; omega)]
def preT (ts : List (Nat × List Nat × Nat × Nat × Nat)) (x : Except (Nat × Nat) (List (Nat × List Nat × Nat × Nat × Nat))) : Except (Nat × Nat) (List (Nat × List Nat × Nat × Nat × Nat)) :=
  match x with
  | .ok r => .ok (ts ++ r)
  | .error e => .error e
theorem preT_nil (x : Except (Nat × Nat) (List (Nat × List Nat × Nat × Nat × Nat))) : preT [] x = x := by cases x <;> rfl
theorem preT_pre (a b : List (Nat × List Nat × Nat × Nat × Nat)) (x : Except (Nat × Nat) (List (Nat × List Nat × Nat × Nat × Nat))) : preT a (preT b x) = preT (a ++ b) x := by
  cases x <;> simp [preT]
def TK (k at0 : Nat) (l : List Nat) : Except (Nat × Nat) (List (Nat × List Nat × Nat × Nat × Nat)) := toksN (l.length + 1) k at0 l
theorem TK_end (k at0 : Nat) (l : List Nat) (h : l.drop (blankN false l) = []) : TK k at0 l = .ok [] := by
  unfold TK toksN; simp only; rw [if_pos h]
theorem TK_limit (k at0 : Nat) (l : List Nat) (h : ¬ l.drop (blankN false l) = []) (hk : k = 32768) : TK k at0 l = .error (at0 + blankN false l, 3) := by
  unfold TK toksN; simp only; rw [if_neg h, if_pos hk]
theorem TK_err (k at0 : Nat) (l : List Nat) (p e : Nat) (h : ¬ l.drop (blankN false l) = []) (hk : ¬ k = 32768) (ho : oneN (l.drop (blankN false l)) = .error (p, e)) : TK k at0 l = .error (at0 + blankN false l + p, e) := by
  unfold TK toksN; simp only; rw [if_neg h, if_neg hk, ho]
theorem TK_ok (k at0 : Nat) (l : List Nat) (kd : Nat) (tx : List Nat) (n len : Nat) (h : ¬ l.drop (blankN false l) = []) (hk : ¬ k = 32768) (ho : oneN (l.drop (blankN false l)) = .ok (kd, tx, n, len)) :
    TK k at0 l = preT [(kd, tx, n, at0 + blankN false l, at0 + blankN false l + len)] (TK (k + 1) (at0 + blankN false l + len) (l.drop (blankN false l + len))) := by
  have hl := one_len _ _ _ _ _ ho
  rw [List.length_drop] at hl
  unfold TK
  conv => lhs; unfold toksN
  simp only
  rw [if_neg h, if_neg hk, ho]
  simp only
  rw [toks_fuel l.length ((l.drop (blankN false l + len)).length + 1) _ _ _ (by rw [List.length_drop]; omega) (by omega)]
  cases toksN ((l.drop (blankN false l + len)).length + 1) (k + 1) (at0 + blankN false l + len) (l.drop (blankN false l + len)) <;> rfl
theorem text_err : ∀ (f : Nat) (l : List Nat) (q : Option Nat) (e : Nat), textN f l = .error (q, e) → e = 31 ∨ e = 32 := by
  intro f
  induction f with
  | zero => intro l q e h; cases h; simp
  | succ f ih =>
    intro l q e h
    cases l with
    | nil => cases h; simp
    | cons c r =>
      unfold textN at h
      split at h
      · cases h; simp
      · split at h
        · cases h
        · split at h
          · cases hr : textN f r with
            | ok x => rw [hr] at h; obtain ⟨a, b⟩ := x; cases h
            | error x =>
              rw [hr] at h; obtain ⟨q', e'⟩ := x
              have := ih r q' e' hr
              cases q' <;> (cases h; exact this)
          · cases he : escN r with
            | error e' =>
              rw [he] at h; simp only at h
              have := esc_error he
              split at h <;> cases h
              · simp
              · exact this
            | ok x =>
              obtain ⟨b, k⟩ := x
              rw [he] at h
              simp only at h
              cases hr : textN f (r.drop (k - 1)) with
              | ok x => rw [hr] at h; obtain ⟨a, m⟩ := x; cases h
              | error x =>
                rw [hr] at h; obtain ⟨q', e'⟩ := x
                have := ih _ q' e' hr
                cases q' <;> (cases h; exact this)
theorem one_err (l : List Nat) (p e : Nat) (h : oneN l = .error (p, e)) : 30 ≤ e ∧ e ≤ 33 := by
  cases l with
  | nil => cases h; omega
  | cons c r =>
    unfold oneN at h
    simp only at h
    split at h
    · cases h
    · split at h
      · split at h
        · cases h
        · cases h; omega
      · split at h
        · cases hr : textN (r.length + 1) r with
          | ok x => rw [hr] at h; obtain ⟨a, b⟩ := x; cases h
          | error x =>
            rw [hr] at h; obtain ⟨q, e'⟩ := x
            have := text_err _ _ _ _ hr
            cases q <;> (cases h; omega)
        · cases hs : signX (c :: r) with
          | none => rw [hs] at h; cases h; omega
          | some x => rw [hs] at h; cases h
theorem own_form {w : World} {B n : Nat} {v : Value} {xs : List Value} (h : w.ownsRow B 77 5 v n xs) : ∃ ao cap, v = .slice ao n cap := by
  rcases h.2 with ⟨h1, h2⟩ | ⟨g, cap, cur, h1, _⟩
  · exact ⟨none, 0, by rw [h1, h2]⟩
  · exact ⟨_, cap, h1⟩
def TokGives (w : World) (x : Except (Nat × Nat) (List (Nat × List Nat × Nat × Nat × Nat))) (e : Ending) (w' : World) : Prop :=
  match x with
  | .ok ts => ∃ v, e = .returned (.tuple #[v, .int .i64 0, .int .i64 0]) ∧ w'.ownsRow w.heap.size 77 5 v ts.length (rowT ts) ∧ Below w.heap.size w w'
  | .error (p, k) => e = .returned (.tuple #[.slice none 0 0, .int .i64 (p : Int), .int .i64 (k : Int)]) ∧ Below w.heap.size w w'
theorem gives_err {w w' : World} {p k : Nat} {x : Except (Nat × Nat) (List (Nat × List Nat × Nat × Nat × Nat))} {e : Ending} (hx : Hid (x = .error (p, k))) (he : e = .returned (.tuple #[.slice none 0 0, .int .i64 (p : Int), .int .i64 (k : Int)])) (hb : Below w.heap.size w w') : TokGives w x e w' := by
  rw [hx.out]; exact ⟨he, hb⟩
def Iv (s : St) : Prop := s.wrong ≠ 0 → s.rest = []
def M (s : St) : Nat := if s.wrong = 0 then s.rest.length + 1 else 0
def Tot {A : Type} (m : P A) (E d : Nat) (s : St) (k : Nat) : Prop := ∃ a s', m E d s = some (a, s') ∧ Iv s' ∧ M s' ≤ k
theorem Tot.le {A : Type} {m : P A} {E d : Nat} {s : St} {k k' : Nat} (h : Tot m E d s k) (hk : k ≤ k') : Tot m E d s k' := by
  obtain ⟨a, s', h1, h2, h3⟩ := h
  exact ⟨a, s', h1, h2, Nat.le_trans h3 hk⟩
def Tl {A : Type} (part : P A) (m : Nat) : Prop := ∀ E d s, Iv s → M s < m → Tot part E d s (M s)
def TT {A : Type} (part : P A) (m : Nat) : Prop := ∀ E d s, Iv s → (M s < m ∨ M s = 0) → Tot part E d s (M s)
def Te {A : Type} (part : P A) (m : Nat) : Prop := ∀ E d s, Iv s → M s ≤ m → Tot part E d s (M s)
theorem TT.l {A : Type} {part : P A} {m : Nat} (h : TT part m) : Tl part m := fun E d s hI hm => h E d s hI (.inl hm)
theorem Te.l {A : Type} {part : P A} {m : Nat} (h : Te part m) : Tl part m := fun E d s hI hm => h E d s hI (by omega)
theorem Tl.le {A : Type} {part : P A} {m m' : Nat} (h : Tl part m) (hm : m' ≤ m) : Tl part m' := fun E d s hI h1 => h E d s hI (by omega)
theorem Tl.e {A : Type} {part : P A} {m k : Nat} (h : Tl part m) (hk : k < m) : Te part k := fun E d s hI hm => h E d s hI (by omega)
theorem TT.le {A : Type} {part : P A} {m m' : Nat} (h : TT part m) (hm : m' ≤ m) : TT part m' := fun E d s hI h1 => h E d s hI (by omega)
def TB (branch : P Tree) (m : Nat) : Prop := ∀ E d s, Iv s → M s ≤ m → Tot branch E d s (M s) ∧ ((nxt E s).1 ≠ 0 → Tot branch E d s (M s - 1))
theorem TB.l {branch : P Tree} {m : Nat} (h : TB branch m) : Te branch m := fun E d s hI hm => (h E d s hI hm).1
def Ba {A : Type} (m : P A) (E d : Nat) (s : St) (c : Nat) : Prop := ∀ a s', m E d s = some (a, s') → (s.wrong ≠ 0 → s'.wrong = s.wrong) ∧ (s'.wrong = 0 → ∃ pre, s.rest = pre ++ s'.rest ∧ c ≤ pre.length)
def Bs {A : Type} (m : P A) (c : Nat) : Prop := ∀ E d s, Ba m E d s c
theorem Ba.le {A : Type} {m : P A} {E d : Nat} {s : St} {c c' : Nat} (h : Ba m E d s c) (hc : c' ≤ c) : Ba m E d s c' := fun a s' e =>
  ⟨(h a s' e).1, fun q => by obtain ⟨p, h1, h2⟩ := (h a s' e).2 q; exact ⟨p, h1, by omega⟩⟩
theorem Bs.le {A : Type} {m : P A} {c c' : Nat} (h : Bs m c) (hc : c' ≤ c) : Bs m c' := fun E d s => (h E d s).le hc
theorem fail_keeps {p e : Nat} {s : St} (h : s.wrong ≠ 0) : failS p e s = s := by
  unfold failS; rw [if_neg h]
end Go.Proofs.YtmhnbklchnnbaaaGreatDoor
