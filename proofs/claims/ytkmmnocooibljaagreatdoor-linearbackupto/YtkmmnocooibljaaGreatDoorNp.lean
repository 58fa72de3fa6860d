/-
  LABELS' PLACES: the map that the landed layout keeps.
-/
import Derived.Test.YtkmmnocooibljaaGreatDoorNd
import Derived.Test.YtkmmnocooibljaaGreatDoorNb
import Derived.Maps.OwnSet
import Derived.BigRegion
namespace Go.Proofs.YtkmmnocooibljaaGreatDoor
open Go.RowKit Go.Maps
set_option linter.unusedVariables false

def plR (v : Value) : Option (DataW Unit × List MemPlace) := match v with
  | .int .i64 a => some (.lit (.int .i64 a), [])
  | _ => none
theorem plR_inv {v : Value} {y : DataW Unit × List MemPlace} (h : plR v = some y) : ∃ a, v = .int .i64 a ∧ y = (.lit (.int .i64 a), []) := by
  unfold plR at h
  split at h
  · rename_i a
    exact ⟨a, rfl, by rw [← Option.some.inj h]⟩
  · cases h
/-- The place of a label, if it has one. -/
def plF (ps : List (Int × Int)) (k : Int) : Option Int := (ps.find? fun x => decide (x.1 = k)).map Prod.snd
def plD (ps : List (Int × Int)) (k : Int) : DataW Unit := match plF ps k with | some p => .lit (.int .i64 p) | none => .nil
def PlIs (D : DataW Unit) (ps : List (Int × Int)) : Prop := IsMap D ∧ ∀ k : Int, D.atKey (.int .i64 k) .nil = plD ps k
def PlAt (w : World) (b : Nat) (ps : List (Int × Int)) : Prop := ∃ n D, w.ownsMap Tryz.prog 2 plR b n D ∧ n ≤ ps.length ∧ PlIs D ps
theorem keyedI : Keyed Tryz.prog 2 := int_keyed Tryz.underlying2
theorem lit_wf {k : Int} (h : N64 k) : (Lit.int .i64 k).wf = true := by
  have e1 : IntKind.i64.min = -9223372036854775808 := by rfl
  have e2 : IntKind.i64.max = 9223372036854775807 := by rfl
  simp only [Lit.wf, e1, e2, Bool.and_eq_true, decide_eq_true_eq]
  exact ⟨h.1, h.2⟩
theorem keyI {k : Int} (h : N64 k) : keyOf Tryz.prog 2 (.int .i64 k) = some (.int .i64 k) := keyOf_int_mk Tryz.underlying2 (lit_wf h)
theorem PlAt.made (w : World) : PlAt (w.alloc (.map #[] 0)) w.heap.size [] := ⟨0, .map [], World.ownsMap_made w _ _ _, Nat.le_refl _, ⟨_, rfl⟩, fun k => rfl⟩
theorem PlAt.on {w w' : World} {b : Nat} {ps : List (Int × Int)} (h : PlAt w b ps) (hb : w'.heap[b]? = w.heap[b]?) : PlAt w' b ps := by
  obtain ⟨n, D, ⟨es, clock, g1, g2⟩, h2⟩ := h
  exact ⟨n, D, ⟨es, clock, hb.trans g1, g2⟩, h2⟩
theorem PlAt.lt {w : World} {b : Nat} {ps : List (Int × Int)} (h : PlAt w b ps) : b < w.heap.size := by
  obtain ⟨n, D, h, _⟩ := h
  exact h.lt
theorem PlAt.below {w w' : World} {b : Nat} {ps : List (Int × Int)} (h : PlAt w b ps) (hb : Below w.heap.size w w') : PlAt w' b ps := h.on (hb.block b h.lt)
theorem PlAt.ne {w : World} {b g : Nat} {ps : List (Int × Int)} (h : PlAt w b ps) {cs : Array Value} {t : TypeId} (ho : Own w g cs t) : b ≠ g := by
  obtain ⟨n, D, ⟨es, clock, g1, _⟩, _⟩ := h
  rintro rfl
  unfold Own at ho
  rw [g1] at ho
  cases ho
theorem PlAt.drew {w : World} {b : Nat} {ps : List (Int × Int)} (h : PlAt w b ps) : PlAt w.drew b ps := h.on rfl
/-- What a look-up answers. -/
def lkV (o : Option Int) : Value := match o with
  | some x => .tuple #[.int .i64 x, .bool true]
  | none => .tuple #[.int .i64 0, .bool false]
theorem pl_look {w : World} {b : Nat} {ps : List (Int × Int)} (h : PlAt w b ps) {k : Int} (hk : N64 k) : (Instr.lookup 63 (.map (some b)) (.int .i64 k) true).run Tryz.prog w = .ok (lkV (plF ps k)) w := by
  obtain ⟨n, D, h1, _, h3⟩ := h
  have hat := h3.2 k
  obtain ⟨es, clock, hb, F, hs, rfl⟩ := h1
  rcases Maps.fit_look true keyedI Tryz.underlying63 (Tryz.zeroValue3 w) hb F (keyI hk) with ⟨hrun, _, hz⟩ | ⟨e0, y, _, _, hrun, hR, hz, _⟩
  · rw [hz] at hat
    unfold plD at hat
    cases hf : plF ps k with
    | none => simpa [lkV] using hrun
    | some x => rw [hf] at hat; cases hat
  · rw [hz] at hat
    unfold plD at hat
    obtain ⟨a, e1, e2⟩ := plR_inv hR
    cases hf : plF ps k with
    | none => rw [hf] at hat; rw [e2] at hat; cases hat
    | some x =>
      rw [hf] at hat
      rw [e2] at hat
      simp only [DataW.lit.injEq, Lit.int.injEq, true_and] at hat
      rw [hrun, e1, hat]; rfl
theorem pl_look1 {w : World} {b : Nat} {ps : List (Int × Int)} (h : PlAt w b ps) {k : Int} (hk : N64 k) : (Instr.lookup 63 (.map (some b)) (.int .i64 k) false).run Tryz.prog w = .ok (.int .i64 ((plF ps k).getD 0)) w := by
  obtain ⟨n, D, h1, _, h3⟩ := h
  have hat := h3.2 k
  obtain ⟨es, clock, hb, F, hs, rfl⟩ := h1
  rcases Maps.fit_look false keyedI Tryz.underlying63 (Tryz.zeroValue3 w) hb F (keyI hk) with ⟨hrun, _, hz⟩ | ⟨e0, y, _, _, hrun, hR, hz, _⟩
  · rw [hz] at hat
    unfold plD at hat
    cases hf : plF ps k with
    | none => simpa using hrun
    | some x => rw [hf] at hat; cases hat
  · rw [hz] at hat
    unfold plD at hat
    obtain ⟨a, e1, e2⟩ := plR_inv hR
    cases hf : plF ps k with
    | none => rw [hf] at hat; rw [e2] at hat; cases hat
    | some x =>
      rw [hf] at hat
      rw [e2] at hat
      simp only [DataW.lit.injEq, Lit.int.injEq, true_and] at hat
      rw [hrun, e1, hat]; rfl
theorem plF_snoc {ps : List (Int × Int)} {k p : Int} (h : plF ps k = none) (j : Int) : plF (ps ++ [(k, p)]) j = if j = k then some p else plF ps j := by
  unfold plF at *
  rw [List.find?_append]
  by_cases e : j = k
  · subst e
    have h0 : ps.find? (fun x => decide (x.1 = j)) = none := by
      cases hf : ps.find? (fun x => decide (x.1 = j)) with
      | none => rfl
      | some x => rw [hf] at h; cases h
    rw [h0]
    simp
  · rw [if_neg e]
    have : List.find? (fun x : Int × Int => decide (x.1 = j)) [(k, p)] = none := by simp [Ne.symm e]
    rw [this, Option.or_none]
/-- A label that is kept. -/
theorem pl_put {w : World} {b : Nat} {ps : List (Int × Int)} (h : PlAt w b ps) (hn : ps.length < 1000000000) {k p : Int} (hk : N64 k) (hf : plF ps k = none) : ∃ w', (Instr.mapUpdate 63 (.map (some b)) (.int .i64 k) (.int .i64 p)).run Tryz.prog w = .ok () w' ∧ PlAt w' b (ps ++ [(k, p)]) ∧ w.grownBy w' (some b) := by
  obtain ⟨n, D, h1, h2, h3⟩ := h
  obtain ⟨w', hrun, g1, g2⟩ := h1.update keyedI Tryz.underlying63 (by unfold maxLen; omega) (keyI hk) (show plR (.int .i64 p) = some (_, []) from rfl)
  refine ⟨w', hrun, ⟨n + 1, _, g1, by simp; omega, h3.1.put _ _, fun j => ?_⟩, g2⟩
  unfold plD
  rw [plF_snoc hf]
  by_cases e : j = k
  · subst e
    rw [atKey_put_same h3.1 (keyedI.key (keyI hk)), if_pos rfl]
  · rw [atKey_put_other (fun q => e (by simpa using q)), if_neg e, h3.2 j]
    rfl
end Go.Proofs.YtkmmnocooibljaaGreatDoor
