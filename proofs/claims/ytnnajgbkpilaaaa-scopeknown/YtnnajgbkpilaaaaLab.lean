/-
  THE LABELS' MAP: what is looked up in it, kept and struck.
-/
import Derived.Test.YtnnajgbkpilaaaaPop
import Derived.Maps.OwnSet
import Derived.Shelf.SlMaps.Clone
namespace Go.Proofs.Ytnnajgbkpilaaaa
open Go.RowKit Go.Maps
set_option linter.unusedVariables false

/-- A turn as it stands in the map. -/
def tV (x : T × Int) : Value := .agg #[.string x.1.label, .int .i64 (x.1.no : Int), .int .i64 x.2]
def tD (x : T × Int) : DataW Unit := .agg [.lit (.string x.1.label.data.toList), .lit (.int .i64 (x.1.no : Int)), .lit (.int .i64 x.2)]
def tR (v : Value) : Option (DataW Unit × List MemPlace) := match v with
  | .agg cs => match cs.toList with
    | [.string s, .int .i64 a, .int .i64 b] => some (.agg [.lit (.string s.data.toList), .lit (.int .i64 a), .lit (.int .i64 b)], [])
    | _ => none
  | _ => none
theorem tR_tV (x : T × Int) : tR (tV x) = some (tD x, []) := rfl
theorem ba_ext {a b : ByteArray} (h : a.data.toList = b.data.toList) : a = b := by
  cases a; cases b
  simp only at h
  congr 1
  exact Array.toList_inj.mp h
theorem tR_inv {v : Value} {y : DataW Unit × List MemPlace} (h : tR v = some y) : ∃ s a b, v = .agg #[.string s, .int .i64 a, .int .i64 b] ∧ y.1 = .agg [.lit (.string s.data.toList), .lit (.int .i64 a), .lit (.int .i64 b)] := by
  unfold tR at h
  split at h
  · rename_i cs
    split at h
    · rename_i s a b hl
      refine ⟨s, a, b, ?_, by rw [← Option.some.inj h]⟩
      congr 1
      exact Array.toList_inj.mp hl
    · cases h
  · cases h
def labF (ts : List T) (l : ByteArray) : Option (T × Int) := if l = empt then none else (tl (-1) ts).find? fun x => decide (x.1.label = l)
def labD (ts : List T) (l : ByteArray) : DataW Unit := match labF ts l with | some x => tD x | none => .nil
def LabIs (D : DataW Unit) (ts : List T) : Prop := IsMap D ∧ ∀ l : ByteArray, D.atKey (.string l.data.toList) .nil = labD ts l
def LabAt (w : World) (vm : Value) (m : M) : Prop := (vm = .map none ∧ ∀ t ∈ m.turns, t.label = empt) ∨ ∃ b n D, vm = .map (some b) ∧ w.ownsMap Try.prog 9 tR b n D ∧ n ≤ m.next ∧ LabIs D m.turns
theorem keyed9 : Keyed Try.prog 9 := string_keyed Try.underlying9
theorem key9 {l : ByteArray} (h : l.size ≤ maxLen) : keyOf Try.prog 9 (.string l) = some (.string l.data.toList) := WideMaps.keyOf_string_mk Try.underlying9 h
theorem tl_mem {x : T × Int} : ∀ {ts : List T} {a : Int}, x ∈ tl a ts → x.1 ∈ ts
  | t :: r, a, h => by
    simp only [tl, List.mem_cons] at h
    rcases h with rfl | h
    · simp
    · exact List.mem_cons_of_mem _ (tl_mem h)
theorem labF_none {ts : List T} (h : ∀ t ∈ ts, t.label = empt) (l : ByteArray) : labF ts l = none := by
  unfold labF
  split
  · rfl
  · rename_i hl
    rw [List.find?_eq_none]
    intro x hx
    have := h _ (tl_mem hx)
    simp only [decide_eq_true_eq]
    intro e
    exact hl (by rw [← e, this])
def lookV (o : Option (T × Int)) : Value := match o with
  | some x => .tuple #[tV x, .bool true]
  | none => .tuple #[.agg #[.string ⟨#[]⟩, .int .i64 0, .int .i64 0], .bool false]
/-- What a look-up answers. -/
theorem lab_look {w : World} {vm : Value} {m : M} (h : LabAt w vm m) {l : ByteArray} (hl : l.size ≤ maxLen) : (Instr.lookup 55 vm (.string l) true).run Try.prog w = .ok (lookV (labF m.turns l)) w := by
  rcases h with ⟨rfl, h⟩ | ⟨b, n, D, rfl, h1, _, h2, h3⟩
  · rw [labF_none h]
    have hf : (Instr.findKey 9 (.string l) []).run Try.prog w = .ok none w := by
      rcases keyed9.find w (key9 hl) [] (by simp) with ⟨q, _⟩ | ⟨j, e, _, q, _⟩
      · exact q
      · simp at q
    simp [Instr.lookup, run_underlying Try.underlying55, keyed9.check w _ (key9 hl), hf, Try.zeroValue68, Result.andThen, lookV]
  · have hat := h3 l
    obtain ⟨es, clock, hb, F, hs, rfl⟩ := h1
    rcases Maps.fit_look true keyed9 Try.underlying55 (Try.zeroValue68 w) hb F (key9 hl) with ⟨hrun, _, hz⟩ | ⟨e0, y, _, _, hrun, hR, hz, _⟩
    · rw [hz] at hat
      unfold labD at hat
      cases hf : labF m.turns l with
      | none => simpa [lookV] using hrun
      | some x => rw [hf] at hat; exact absurd hat (by simp [tD])
    · rw [hz] at hat
      unfold labD at hat
      obtain ⟨s, a, c, e1, e2⟩ := tR_inv hR
      cases hf : labF m.turns l with
      | none => rw [hf] at hat; rw [e2] at hat; cases hat
      | some x =>
        rw [hf] at hat
        have e3 : e0.val = tV x := by
          rw [e2] at hat
          simp only [tD, DataW.agg.injEq, List.cons.injEq, DataW.lit.injEq, Lit.string.injEq, Lit.int.injEq, true_and, and_true] at hat
          rw [e1, ba_ext hat.1, hat.2.1, hat.2.2]
          rfl
        rw [hrun, e3]; rfl
theorem lab_on {w w' : World} {vm : Value} {m : M} (h : LabAt w vm m) (hb : ∀ b, vm = .map (some b) → w'.heap[b]? = w.heap[b]?) : LabAt w' vm m := by
  rcases h with h | ⟨b, n, D, rfl, ⟨es, clock, g1, g2⟩, h2⟩
  · exact .inl h
  · exact .inr ⟨b, n, D, rfl, ⟨es, clock, (hb b rfl).trans g1, g2⟩, h2⟩
theorem lab_lt {w : World} {vm : Value} {m : M} (h : LabAt w vm m) {b : Nat} (hb : vm = .map (some b)) : b < w.heap.size := by
  rcases h with ⟨rfl, _⟩ | ⟨b', n, D, rfl, h, _⟩
  · cases hb
  · cases hb; exact h.lt
theorem lab_ne {w : World} {vm : Value} {m : M} (h : LabAt w vm m) {b g : Nat} (hb : vm = .map (some b)) {cs : Array Value} {t : TypeId} (ho : Own w g cs t) : b ≠ g := by
  rcases h with ⟨rfl, _⟩ | ⟨b', n, D, rfl, ⟨es, clock, g1, _⟩, _⟩
  · cases hb
  · cases hb
    rintro rfl
    unfold Own at ho
    rw [g1] at ho
    cases ho
theorem lab_neR {w : World} {vm : Value} {m : M} (h : LabAt w vm m) {b : Nat} (hb : vm = .map (some b)) {e : TypeId} {size n : Nat} {v : Value} {xs : List Value} (hr : Rw w e size v n xs) : v.ownBlock ≠ some b := by
  rcases hr.2 with ⟨rfl, _⟩ | ⟨g, cap, cur, rfl, _, hg, _⟩
  · simp [Value.ownBlock]
  · intro q
    simp [Value.ownBlock] at q
    exact lab_ne h hb (show Own w g cur e from hg) q.symm
theorem labF_other {ts : List T} (t : T) {l : ByteArray} (he : ¬ l = t.label) : labF (ts ++ [t]) l = labF ts l := by
  unfold labF
  split
  · rfl
  · rw [tl_snoc, List.find?_append]
    have e2 : List.find? (fun x : T × Int => decide (x.1.label = l)) [(t, if t.loop then (t.no : Int) else lpF (-1) ts)] = none := by simp [Ne.symm he]
    rw [e2, Option.or_none]
/-- A label that is kept. -/
theorem lab_put {D : DataW Unit} {ts : List T} (h : LabIs D ts) (t : T) (hne : t.label ≠ empt) (hsz : t.label.size ≤ maxLen) (hfresh : ∀ x ∈ ts, x.label ≠ t.label) : LabIs (D.put (.string t.label.data.toList) (tD (t, if t.loop then (t.no : Int) else lpF (-1) ts))) (ts ++ [t]) := by
  refine ⟨?_, fun l => ?_⟩
  · obtain ⟨es, rfl⟩ := h.1
    exact ⟨_, rfl⟩
  · have hf : ∀ x ∈ tl (-1) ts, x.1.label ≠ t.label := fun x hx => hfresh _ (tl_mem hx)
    by_cases he : l = t.label
    · subst he
      rw [atKey_put_same h.1 (keyed9.key (key9 hsz))]
      unfold labD labF
      rw [if_neg hne, tl_snoc, List.find?_append, List.find?_eq_none.2 (fun x hx => by simpa using hf x hx)]
      simp
    · rw [atKey_put_other (fun e => he (ba_ext (by simpa using e))), h.2 l]
      unfold labD
      rw [labF_other t he]
theorem lab_same {ts : List T} (t : T) (he : t.label = empt) (l : ByteArray) : labF (ts ++ [t]) l = labF ts l := by
  unfold labF
  split
  · rfl
  · rename_i hl
    rw [tl_snoc, List.find?_append]
    have e2 : List.find? (fun x : T × Int => decide (x.1.label = l)) [(t, if t.loop then (t.no : Int) else lpF (-1) ts)] = none := by simp [he, Ne.symm hl]
    rw [e2, Option.or_none]
/-- A label that is struck. -/
theorem lab_del {D : DataW Unit} {ts : List T} {t : T} (h : LabIs D (ts ++ [t])) (hfresh : ∀ x ∈ ts, x.label = t.label → x.label = empt) : LabIs (D.del (.string t.label.data.toList)) ts := by
  refine ⟨?_, fun l => ?_⟩
  · obtain ⟨es, rfl⟩ := h.1
    exact ⟨_, rfl⟩
  · by_cases he : l = t.label
    · subst he
      rw [atKey_del_same]
      unfold labD
      split
      · rename_i x hx
        unfold labF at hx
        split at hx
        · cases hx
        · rename_i hne
          have := List.find?_some hx
          have h2 := List.mem_of_find?_eq_some hx
          simp only [decide_eq_true_eq] at this
          exact absurd (hfresh _ (tl_mem h2) this) (by rw [this]; exact hne)
      · rfl
    · rw [atKey_del_other (fun e => he (ba_ext (by simpa using e))), h.2 l]
      unfold labD
      rw [labF_other t he]
end Go.Proofs.Ytnnajgbkpilaaaa
