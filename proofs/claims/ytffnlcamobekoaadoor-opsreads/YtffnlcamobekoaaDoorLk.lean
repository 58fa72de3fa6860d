/-
  CONTRACT of the kit's KeptInstr.
-/
import Derived.Test.YtffnlcamobekoaaDoorLe
namespace Go.Proofs.YtffnlcamobekoaaDoor
open Go.RowKit
set_option linter.unusedVariables false

/-- An instruction's arms that are lent: a row with the mark behind. -/
def LentR (w : World) (g n c : Nat) (ar : List (Int × Int)) : Prop := Rw w 46 2 (.slice (some ⟨g, 0, none⟩) (n + 1) c) (n + 1) (armC (ar ++ [(77, 0)]))
theorem LentR.below {w w' : World} {g n c : Nat} {ar : List (Int × Int)} (h : LentR w g n c ar) (hb : Below w.heap.size w w') : LentR w' g n c ar := Rw.on h fun k e => hb.block k (Rw.lt h e)
theorem LentR.arms {w : World} {g n c : Nat} {ar : List (Int × Int)} (h : LentR w g n c ar) (hn : n = ar.length) (hm : ∀ y ∈ ar, (-9223372036854775808 ≤ y.1 ∧ y.1 ≤ 9223372036854775807) ∧ (-9223372036854775808 ≤ y.2 ∧ y.2 ≤ 9223372036854775807)) : ArmLies w (some ⟨g, 0, none⟩) ar := by
  refine ⟨hm, .inr ⟨g, 0, rfl, Rw.lt h rfl, fun i hi => ?_⟩⟩
  have q := armC_get (ar ++ [(77, 0)]) i (by simp; omega)
  have e : (ar ++ [((77 : Int), (0 : Int))]).getD i (0, 0) = ar.getD i (0, 0) := by simp [List.getD, List.getElem?_append, hi]
  rw [e] at q
  exact ⟨by rw [Nat.zero_add]; exact Rw.cells h _ _ q.1, by rw [Nat.zero_add]; exact Rw.cells h _ _ q.2⟩
theorem LentR.mark {w : World} {g n c : Nat} {ar : List (Int × Int)} (h : LentR w g n c ar) (hn : n = ar.length) : w.cell? ⟨g, n * 2, none⟩ = some (.int .i64 77) := by
  have q := armC_get (ar ++ [(77, 0)]) n (by simp; omega)
  have e : (ar ++ [((77 : Int), (0 : Int))]).getD n (0, 0) = (77, 0) := by rw [hn]; simp [List.getD]
  rw [e] at q
  exact Rw.cells h _ _ q.1
set_option maxHeartbeats 2000000 in
set_option maxRecDepth 100000 in
theorem kkept_as {w : World} {x : In} {ao : Option Addr} {cp : Nat} (hl : InLies w x ao) (n : Nat) (hn : n = x.arms.length) (hmx : n ≤ 100000) (g c : Nat) (hlent : LentR w g n c x.arms) :
    Calls Tryd.prog 17 #[insV x (.slice (some ⟨g, 0, none⟩) n c), insV x (.slice ao n cp)] w fun e w' => e = .returned (.bool true) ∧ Below w.heap.size w w' := by
  have o1 := (Own.new w #[.int .u8 (x.op : Int), .int .i64 x.a, .int .i64 x.b, .slice (some ⟨g, 0, none⟩) n c] 24).alloc (.cells #[.int .u8 (x.op : Int), .int .i64 x.a, .int .i64 x.b, .slice ao n cp] 24)
  have o2 := Own.new (w.alloc (.cells #[.int .u8 (x.op : Int), .int .i64 x.a, .int .i64 x.b, .slice (some ⟨g, 0, none⟩) n c] 24)) #[.int .u8 (x.op : Int), .int .i64 x.a, .int .i64 x.b, .slice ao n cp] 24
  rw [World.size_alloc] at o2
  have hb0 : Below w.heap.size w ((w.alloc (.cells #[.int .u8 (x.op : Int), .int .i64 x.a, .int .i64 x.b, .slice (some ⟨g, 0, none⟩) n c] 24)).alloc (.cells #[.int .u8 (x.op : Int), .int .i64 x.a, .int .i64 x.b, .slice ao n cp] 24)) := (new_below _ _).alloc (by simp) _
  have hcap : n + 1 ≤ c := by
    obtain ⟨a', c', e, h1, h2⟩ := Rw.shape hlent
    cases e; exact h1
  have HS : Hid (∀ W, Below w.heap.size w W → Calls Tryd.prog 23 #[.agg #[.int .u8 (x.op : Int), .int .i64 x.a, .int .i64 x.b, .slice (some ⟨g, 0, none⟩) n c], .agg #[.int .u8 (x.op : Int), .int .i64 x.a, .int .i64 x.b, .slice ao n cp]] W fun e w' => e = .returned (.bool true) ∧ Below W.heap.size W w') := fun W h =>
    sameIns_eq hn ((hlent.below h).arms hn hl.arms.nums) (hl.arms.below h) (by omega)
  have HM : Hid (∀ W, Below w.heap.size w W → W.cell? ⟨g, n * 2, none⟩ = some (.int .i64 77)) := fun W h => (hlent.below h).mark hn
  unfold insV
  generalize (x.op : Int) = N at *
  generalize x.a = XA at *
  generalize x.b = XB at *
  clear hn hl hlent
  go_enter Tryd.func17, Tryd.ntmps17
  go_upto_region 1 with fail
  generalize (w.alloc (.cells #[.int .u8 N, .int .i64 XA, .int .i64 XB, .slice (some ⟨g, 0, none⟩) n c] 24)).alloc (.cells #[.int .u8 N, .int .i64 XA, .int .i64 XB, .slice ao n cp] 24) = w2 at *
  obtain ⟨x0, x1, x2, x3⟩ := cells4 o1
  obtain ⟨y0, y1, y2, y3⟩ := cells4 o2
  have m0 : ∀ t : After w2, t.1.cell? ⟨g, n * 2, none⟩ = some (.int .i64 77) := fun t => HM.out t.1 (hb0.trans (t.2.mono hb0.size))
  have HQ : Hid (∀ t : After w2, Calls Tryd.prog 23 #[.agg #[.int .u8 N, .int .i64 XA, .int .i64 XB, .slice (some ⟨g, 0, none⟩) n c], .agg #[.int .u8 N, .int .i64 XA, .int .i64 XB, .slice ao n cp]] t.1 fun e w'' => e = .returned (.bool true) ∧ ∃ t' : After w2, w'' = t'.1) := fun t => quiet_new t (HS.out t.1 (hb0.trans (t.2.mono hb0.size)))
  have e1 : (n : Int) + 1 ≤ (c : Int) := by omega
  have e2 : n + 1 ≤ c := hcap
  have e3 : ¬ c = 0 := by omega
  have e4 : (0 : Int) ≤ (n : Int) := by omega
  have e5 : (0 : Int) ≤ (n : Int) + 1 := by omega
  have e6 : (n : Int) < (n : Int) + 1 := by omega
  have e7 : n < n + 1 := by omega
  clear o1 o2 HS HM hcap
  refine wp_region_after (by kernel_rfl) (by kernel_rfl) ?_
  repeat (go_big_quiet_step (with_reducible exact rfl))
  go_big_quiet_step (exact HQ.out _)
  repeat (go_big_quiet_step (with_reducible exact rfl))
  refine wpQuiet_nil ?_
  rintro _ ⟨⟨w4, b4⟩, rfl⟩
  go_wp2
  go_ret
  exact ⟨rfl, hb0.trans (b4.mono hb0.size)⟩
end Go.Proofs.YtffnlcamobekoaaDoor
