/-
  THE WALK of WordReckons.
-/
import Derived.Test.YtnfglmfioifciaaRefTwo
import Derived.Deep.QuietTactic
import Derived.BigQuiet
import Derived.Below
namespace Go.Proofs.Ytnfglmfioifciaa
open Go.RowKit
set_option linter.unusedVariables false

/-- The worlds in which all that stood in w2 stands. -/
def After (w2 : World) : Type := { w' : World // Below w2.heap.size w2 w' }
theorem after_of {w2 w' : World} (h : Below w2.heap.size w2 w') : ∃ t : After w2, w' = t.1 := ⟨⟨w', h⟩, rfl⟩
theorem quiet_same {w2 : World} {f : FuncId} {args : Array Value} {v : Value} (t : After w2) (h : Calls Try.prog f args t.1 fun e w' => e = .returned v ∧ t.1 = w') :
    Calls Try.prog f args t.1 fun e w'' => e = .returned v ∧ ∃ t' : After w2, w'' = t'.1 :=
  h.mono fun _ _ ⟨he, hw⟩ => ⟨he, t, hw.symm⟩
theorem wp_region_after {id : Nat} {Q : Exit → Act → World → Prop} {a : Act} {w : World} {l : List Oper} (hm : Try.prog.follows .mixedOrders = true) (hB : Region.lexB .any l.toArray = true)
    (h : wpQuiet Try.prog l.toArray (fun w' => ∃ t : After w, w' = t.1) (fun a' => ∀ w', (∃ t : After w, w' = t.1) → Q .normal a' w') l a) : (Code.region id l.toArray true).wp Try.prog Q a w :=
  wp_region_quiet (C := fun w' => ∃ t : After w, w' = t.1) hm hB (after_of ⟨rfl, rfl, rfl, Nat.le_refl _, fun _ _ => rfl⟩) (by simpa using h)

set_option maxRecDepth 100000 in
set_option maxHeartbeats 1000000 in
theorem reckons_walk (op X a b n t o : Int) (s : Bool) (IA : Hid (In a)) (IB : Hid (In b)) (Hn : Hid (two op X a b = n)) (Ht : Hid (trap op X b = t)) (Ho : Hid (one op X a = o)) (Hs : Hid (test op X a b = s)) (w : World) :
    Calls Try.prog 4 #[.agg #[.int .u8 op, .int .u8 X, .int .i64 a, .int .i64 b]] w fun e w' => e = .returned (.bool true) ∧ Below w.heap.size w w' := by
  go_enter Try.func4, Try.ntmps4
  go_wp2_with fail
  refine (two_as op X a b n t Hn.out Ht.out IA.out IB.out _).mono ?_
  rintro e wx ⟨rfl, rfl⟩
  go_wp2_with fail
  refine (rtwo_as op X a b n t Hn.out Ht.out _).mono ?_
  rintro e wx ⟨rfl, rfl⟩
  go_wp2_with fail
  obtain ⟨w1, hw1⟩ : ∃ w1, w1 = w.alloc (.cells #[.int .u8 op, .int .u8 X, .int .i64 a, .int .i64 b] 27) := ⟨_, rfl⟩
  rw [← hw1]
  have HB1 : Hid (Below w.heap.size w w1) := by unfold Hid; rw [hw1]; exact (Below.refl _ _).alloc (Nat.le_refl _) _
  have hsz : w.heap.size < w1.heap.size := by rw [hw1]; show _ < (w.heap.push _).size; rw [Array.size_push]; omega
  have hc : ∀ (j : Nat) (v : Value), #[Value.int .u8 op, .int .u8 X, .int .i64 a, .int .i64 b][j]? = some v → ∀ z : After w1, z.1.cell? ⟨w.heap.size, j, none⟩ = some v := by
    intro j v hv z
    rw [z.2.cell (p := ⟨w.heap.size, j, none⟩) hsz, hw1]
    exact (cell_of_row _ w.heap.size j _ 27 _ (heap_alloc_new w _)).trans hv
  have c0 := hc 0 _ rfl
  have c1 := hc 1 _ rfl
  have c2 := hc 2 _ rfl
  have c3 := hc 3 _ rfl
  clear hc hsz hw1
  refine wp_region_after (by kernel_rfl) (by kernel_rfl) ?_
  repeat (go_big_quiet_step (with_reducible exact rfl))
  go_big_quiet_step (exact quiet_same _ (one_as op X a o Ho.out IA.out _))
  repeat (go_big_quiet_step (with_reducible exact rfl))
  go_big_quiet_step (exact quiet_same _ (rone_as op X a o Ho.out _))
  repeat (go_big_quiet_step (with_reducible exact rfl))
  go_big_quiet_step (exact quiet_same _ (test_as op X a b s Hs.out IA.out IB.out _))
  repeat (go_big_quiet_step (with_reducible exact rfl))
  go_big_quiet_step (exact quiet_same _ (rtest_as op X a b s Hs.out _))
  repeat (go_big_quiet_step (with_reducible exact rfl))
  go_big_quiet_step (exact quiet_same _ (works_any _))
  repeat (go_big_quiet_step (with_reducible exact rfl))
  refine wpQuiet_nil ?_
  intro _ hw'
  obtain ⟨z, rfl⟩ := hw'
  go_wp2
  go_ret
  exact ⟨rfl, HB1.out.trans (z.2.mono HB1.out.size)⟩
end Go.Proofs.Ytnfglmfioifciaa
