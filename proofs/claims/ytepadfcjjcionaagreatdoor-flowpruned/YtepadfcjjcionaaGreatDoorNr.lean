/-
  CONTRACTS of what tells how many statements are come to.
-/
import Derived.Test.YtepadfcjjcionaaGreatDoorNt
namespace Go.Proofs.YtepadfcjjcionaaGreatDoor
open Go.RowKit
set_option linter.unusedVariables false

theorem bodyPost_tt {P : Program} {fn : Func} {R : Ending → World → Prop} {a : Act} {w : World} {u v : Tmp} (h : fn.results = #[.tmp u, .tmp v]) (hd : a.defers = [])
    (hR : R (.returned (.tuple #[a.tmps.getD u undef, a.tmps.getD v undef])) w) : bodyPost P fn R .ret a w := by
  refine bodyPost_ret ?_ hd hR
  simp [results, h]
set_option maxRecDepth 100000 in
set_option maxHeartbeats 400000 in
theorem reached_as {w0 w : World} {op ty n : Int} {tx : ByteArray} {ks : List Tm} {kv : Value} (h : AskIn w0 w ⟨op, ty, n, tx, ks⟩ kv) :
    Calls Tryz.prog 9 #[.agg #[.int .u8 op, .int .i64 ty, .int .i64 n, .string tx, kv]] w fun en w' => en = .returned (.tuple #[.int .i64 ((tellF ⟨op, ty, n, tx, ks⟩ true).y : Int), .int .i64 ((tellF ⟨op, ty, n, tx, ks⟩ true).z : Int)]) ∧ Below w.heap.size w w' := by
  obtain ⟨ao, cap, rfl, hl1, hl2, _⟩ := id h.2.1
  obtain ⟨m, hm⟩ : ∃ m, ks.length = m := ⟨_, rfl⟩
  have HA : Hid (AskIn w0 w ⟨op, ty, n, tx, ks⟩ (.slice ao m cap)) := by rw [← hm]; exact h
  simp only at hl1
  simp only [hm] at hl1 ⊢
  clear h
  have oB := Own.new w #[.int .u8 op, .int .i64 ty, .int .i64 n, .string tx, .slice ao m cap] 24
  have s1 : (w.alloc (.cells #[.int .u8 op, .int .i64 ty, .int .i64 n, .string tx, .slice ao m cap] 24)).heap.size = w.heap.size + 1 := Array.size_push ..
  have HWB : Hid (Below w.heap.size w (w.alloc (.cells #[.int .u8 op, .int .i64 ty, .int .i64 n, .string tx, .slice ao m cap] 24))) := (Below.refl _ _).alloc (Nat.le_refl _) _
  generalize hX0 : w.alloc (.cells #[.int .u8 op, .int .i64 ty, .int .i64 n, .string tx, .slice ao m cap] 24) = X0 at *
  obtain ⟨e, he⟩ : ∃ e, tellF ⟨op, ty, n, tx, ks⟩ true = e := ⟨_, rfl⟩
  have TR := tour_as X0
  rw [s1] at TR
  obtain ⟨t1, t2⟩ := tourW_at X0
  rw [s1] at t1
  have ST := ask_stmt HA.out (HWB.out.trans ⟨t2.os, t2.tape, t2.output, t2.size, fun g hg => t2.block g (Nat.lt_trans hg (by omega))⟩) (by omega) (by omega) (by omega) t1
  rw [he] at ST
  rw [he]
  clear he
  have oT : Own (tourW X0) w.heap.size #[.int .u8 op, .int .i64 ty, .int .i64 n, .string tx, .slice ao m cap] 24 := Own.below oB t2
  obtain ⟨f0, f1, f2, f3, f4, _⟩ := oT.five
  have fl := oT.lt
  have ol := oB.lt
  clear t1 t2
  go_enter Tryz.func9, Tryz.ntmps9
  go_wp2_with fail
  clear hX0
  refine TR.mono ?_
  rintro en w1 ⟨rfl, rfl⟩
  clear TR
  go_wp2_with fail
  refine ST.mono ?_
  rintro en w2 ⟨rfl, ⟨A, k, hT⟩, hB2, hK2⟩
  have c0 := hT.1.cell 0
  have c1 := hT.1.cell 1
  have cl := hT.1.lt
  simp only [List.getElem?_toArray, List.getElem?_cons_succ, List.getElem?_cons_zero] at c0 c1
  have HB2 : Hid (Below w.heap.size w w2) := hB2
  clear hT hK2 hB2 ST
  go_wp2_with fail
  go_region
  go_wp2
  exact bodyPost_tt rfl rfl ⟨rfl, HB2.out.drew⟩
end Go.Proofs.YtepadfcjjcionaaGreatDoor
