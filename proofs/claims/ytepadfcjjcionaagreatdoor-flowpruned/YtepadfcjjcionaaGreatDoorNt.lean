/-
  CONTRACTS of what makes a tour, and of the two that ask it.
-/
import Derived.Test.YtepadfcjjcionaaGreatDoorSx
namespace Go.Proofs.YtepadfcjjcionaaGreatDoor
open Go.RowKit
set_option linter.unusedVariables false

theorem fn13 : FnIs 13 := fun b w => by kernel_rfl
theorem fn14 : FnIs 14 := fun b w => by kernel_rfl
set_option maxRecDepth 100000 in
theorem keeper_as (w : World) (M : Nat) : Calls Tryz.prog 16 #[.map (some M)] w fun en w' => en = .returned (.func (.func 24) #[] #[.pointer (some ⟨w.heap.size, 0, none⟩)]) ∧ w' = w.alloc (.cells #[.map (some M)] 37) := by
  go_enter Tryz.func16, Tryz.ntmps16
  go_wp2
  go_ret
  exact ⟨rfl, rfl⟩
def tourW (w : World) : World := ((w.alloc (.map #[] 0)).alloc (.cells #[.map (some w.heap.size)] 37)).alloc (.cells #[.int .i64 0, .int .i64 0, .map (some w.heap.size), .func (.func 24) #[] #[.pointer (some ⟨w.heap.size + 1, 0, none⟩)]] 40)
theorem tourW_at (w : World) : TourAt (tourW w) (w.heap.size + 2) w.heap.size (w.heap.size + 1) noW 0 0 0 ∧ Below w.heap.size w (tourW w) := by
  have s1 : (w.alloc (.map #[] 0)).heap.size = w.heap.size + 1 := Array.size_push ..
  have s2 : ((w.alloc (.map #[] 0)).alloc (.cells #[.map (some w.heap.size)] 37)).heap.size = w.heap.size + 2 := by rw [World.size_alloc, s1]
  refine ⟨⟨?_, ?_, ?_⟩, ?_⟩
  · have q := Own.new ((w.alloc (.map #[] 0)).alloc (.cells #[.map (some w.heap.size)] 37)) #[.int .i64 0, .int .i64 0, .map (some w.heap.size), .func (.func 24) #[] #[.pointer (some ⟨w.heap.size + 1, 0, none⟩)]] 40
    rw [s2] at q
    exact q
  · have q := Own.new (w.alloc (.map #[] 0)) #[.map (some w.heap.size)] 37
    rw [s1] at q
    exact q.alloc _
  · exact ((mapAt_new w).alloc _).alloc _
  · exact (((Below.refl _ _).alloc (Nat.le_refl _) _).alloc (by rw [s1]; omega) _).alloc (by rw [s2]; omega) _
set_option maxRecDepth 100000 in
theorem tour_as (w : World) : Calls Tryz.prog 13 #[] w fun en w' => en = .returned (.pointer (some ⟨w.heap.size + 2, 0, none⟩)) ∧ w' = tourW w := by
  have KP := keeper_as (w.alloc (.map #[] 0)) w.heap.size
  have s1 : (w.alloc (.map #[] 0)).heap.size = w.heap.size + 1 := Array.size_push ..
  rw [s1] at KP
  have hmm : (Instr.makeMap 37 none).run Tryz.prog w = .ok (.map (some w.heap.size)) (w.alloc (.map #[] 0)) := rfl
  go_enter Tryz.func13, Tryz.ntmps13
  go_wp2_with fail
  refine KP.mono ?_
  rintro en w1 ⟨rfl, rfl⟩
  clear KP
  go_wp2
  go_ret
  exact ⟨rfl, rfl⟩

/-- What the two ask of a term. -/
def AskIn (w0 w : World) (t : Tm) (kv : Value) : Prop := inr t.n ∧ KidsR w0 kv t.ks ∧ Below w0.heap.size w0 w ∧ cnt t ≤ 500000
theorem ask_stmt {w0 w X : World} {op ty n : Int} {tx : ByteArray} {ks : List Tm} {kv : Value} {R M B : Nat} (h : AskIn w0 w ⟨op, ty, n, tx, ks⟩ kv) (hX : Below w.heap.size w X) (hR : w.heap.size ≤ R) (hM : w.heap.size ≤ M) (hB : w.heap.size ≤ B) (hT : TourAt X R M B noW 0 0 0) :
    Calls Tryz.prog 14 #[.pointer (some ⟨R, 0, none⟩), .agg #[.int .u8 op, .int .i64 ty, .int .i64 n, .string tx, kv], .bool true] X fun en w' => en = .returned (.bool (tellF ⟨op, ty, n, tx, ks⟩ true).e) ∧ (∃ A k, TourAt w' R M B A (tellF ⟨op, ty, n, tx, ks⟩ true).y (tellF ⟨op, ty, n, tx, ks⟩ true).z k) ∧ Below w.heap.size w w' ∧ Kt R M X w' := by
  obtain ⟨h1, h2, h3, h4⟩ := h
  have hw := wt_le ⟨op, ty, n, tx, ks⟩
  have hs := h3.size
  have hbX : Below w0.heap.size w0 X := h3.trans ⟨hX.os, hX.tape, hX.output, hX.size, fun g hg => hX.block g (Nat.lt_of_lt_of_le hg h3.size)⟩
  have q := stmt_ok (cnt ⟨op, ty, n, tx, ks⟩ + 1) w0 X R M B noW 0 0 0 op ty n tx ks kv true (.inl (Nat.lt_succ_self _)) h1 h2 hbX (by omega) (by omega) (by omega) hT (by omega)
  refine q.mono ?_
  rintro en w' ⟨rfl, q1, q2⟩
  simp only [Nat.zero_add] at q1
  exact ⟨rfl, ⟨_, _, q1⟩, kt_below hX q2 hR hM, q2⟩
set_option maxRecDepth 100000 in
set_option maxHeartbeats 1000000 in
theorem ends_as {w0 w : World} {op ty n : Int} {tx : ByteArray} {ks : List Tm} {kv : Value} (h : AskIn w0 w ⟨op, ty, n, tx, ks⟩ kv) :
    Calls Tryz.prog 10 #[.agg #[.int .u8 op, .int .i64 ty, .int .i64 n, .string tx, kv]] w fun en w' => en = .returned (.bool (tellF ⟨op, ty, n, tx, ks⟩ true).e) ∧ Below w.heap.size w w' := by
  obtain ⟨ao, cap, rfl, hl1, hl2, _⟩ := id h.2.1
  obtain ⟨m, hm⟩ : ∃ m, ks.length = m := ⟨_, rfl⟩
  have HA : Hid (AskIn w0 w ⟨op, ty, n, tx, ks⟩ (.slice ao m cap)) := by rw [← hm]; exact h
  simp only at hl1
  simp only [hm] at hl1 ⊢
  clear h
  have oB := Own.new w #[.int .u8 op, .int .i64 ty, .int .i64 n, .string tx, .slice ao m cap] 24
  have s1 : (w.alloc (.cells #[.int .u8 op, .int .i64 ty, .int .i64 n, .string tx, .slice ao m cap] 24)).heap.size = w.heap.size + 1 := Array.size_push ..
  have HWB : Hid (Below w.heap.size w (w.alloc (.cells #[.int .u8 op, .int .i64 ty, .int .i64 n, .string tx, .slice ao m cap] 24))) := (Below.refl _ _).alloc (Nat.le_refl _) _
  generalize hX0 : w.alloc (.cells #[.int .u8 op, .int .i64 ty, .int .i64 n, .string tx, .slice ao m cap] 24) = X0 at *
  obtain ⟨e, he⟩ : ∃ e, (tellF ⟨op, ty, n, tx, ks⟩ true).e = e := ⟨_, rfl⟩
  have TR := tour_as X0.drew
  rw [show X0.drew.heap.size = w.heap.size + 1 from s1] at TR
  obtain ⟨t1, t2⟩ := tourW_at X0.drew
  rw [show X0.drew.heap.size = w.heap.size + 1 from s1] at t1
  have oT : Own (tourW X0.drew) w.heap.size #[.int .u8 op, .int .i64 ty, .int .i64 n, .string tx, .slice ao m cap] 24 := Own.below (show Own X0.drew _ _ 24 from oB) t2
  have ST : Calls Tryz.prog 14 #[.pointer (some ⟨w.heap.size + 1 + 2, 0, none⟩), .agg #[.int .u8 op, .int .i64 ty, .int .i64 n, .string tx, .slice ao m cap], .bool true] (tourW X0.drew) fun en w' => en = .returned (.bool e) ∧ Below w.heap.size w w' := by
    refine (ask_stmt HA.out (HWB.out.drew.trans ⟨t2.os, t2.tape, t2.output, t2.size, fun g hg => t2.block g (Nat.lt_trans hg (by show w.heap.size < X0.heap.size; omega))⟩) (by omega) (by omega) (by omega) t1).mono ?_
    rintro en w' ⟨rfl, _, q, _⟩
    exact ⟨by rw [he], q⟩
  rw [he]
  clear he
  obtain ⟨d0, d1, d2, d3, d4, _⟩ := oB.five
  have ol := oB.lt
  go_enter Tryz.func10, Tryz.ntmps10
  go_wp2_with fail
  clear hX0
  obtain ⟨f0, f1, f2, f3, f4, _⟩ := oT.five
  have fl := oT.lt
  clear t1 t2
  go_region_law (first
    | (refine step_callN (by rfl) 14 #[.tmp 3, .tmp 4, .const (.bool true)] #[34, 24, 4] (by rfl) fn14 _ (by rfl) ST ?_; rintro en w2 ⟨rfl, q⟩; refine ⟨_, rfl, ?_⟩)
    | (refine step_callN (by rfl) 13 #[] #[] (by rfl) fn13 _ (by rfl) TR ?_; rintro en w1 ⟨rfl, rfl⟩; refine ⟨_, rfl, ?_⟩)
    | fail)
  all_goals (
    go_wp2_with fail
    go_ret
    exact ⟨rfl, q⟩)
end Go.Proofs.YtepadfcjjcionaaGreatDoor
