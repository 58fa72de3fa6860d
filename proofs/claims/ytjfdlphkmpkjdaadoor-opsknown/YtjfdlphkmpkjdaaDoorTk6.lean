/-
  CONTRACT of ofWidth: the conversion.
-/
import Derived.Test.YtjfdlphkmpkjdaaDoorJta
namespace Go.Proofs.YtjfdlphkmpkjdaaDoor
open Go.RowKit
set_option linter.unusedVariables false

set_option maxHeartbeats 1000000 in
set_option maxRecDepth 100000 in
theorem ofWidth29 (w : World) (a b : Int) (ao : Option Addr) (n cp : Nat) : Calls Tryd.prog 50 #[.agg #[.int .u8 29, .int .i64 a, .int .i64 b, .slice ao n cp]] w (EffRet w ([a], [b])) := by
  have ox := Own.new w #[.int .u8 29, .int .i64 a, .int .i64 b, .slice ao n cp] 24
  have bx := new_below w (.cells #[.int .u8 29, .int .i64 a, .int .i64 b, .slice ao n cp] 24)
  go_enter Tryd.func50, Tryd.ntmps50
  go_upto_region 1 with fail
  have ex : (w.alloc (.cells #[.int .u8 29, .int .i64 a, .int .i64 b, .slice ao n cp] 24)).heap.size = w.heap.size + 1 := World.size_alloc _ _
  generalize w.alloc (.cells #[.int .u8 29, .int .i64 a, .int .i64 b, .slice ao n cp] 24) = wx at *
  have o0 := Own.new wx zEff 69
  have bn := new_below wx (.cells zEff 69)
  have ox1 := ox.below bn
  have b0 := bx.trans (bn.mono bx.size)
  rw [ex] at o0
  generalize wx.alloc (.cells zEff 69) = w1 at *
  obtain ⟨x0, x1, x2, x3, xf⟩ := own4 ox1
  clear ox bx bn ex 
  go_upto_region 31 with fail
  clear x0 x1 x3 xf
  have hne : ¬ w.heap.size + 1 = w.heap.size := by omega
  have hne' : ¬ w.heap.size = w.heap.size + 1 := by omega
  go_region_held3 (fun w' => w'.cell? ⟨w.heap.size, 2, none⟩ = some (.int .i64 b)) (go_keep)
    (first
      | (have hz := B2; clear hz; go_at_call 45; refine (put_as (B := w.heap.size) (tv := .slice a2 1 c2) (T := [a]) (c := 1) (n := 1) (xs := [b]) (by first | exact b2s | exact Nat.le_trans b2s (new_below _ _).size) (by first | exact i2 | exact i2.below (new_below _ _)) (by first | exact rowP W2 [b] | exact (rowA _ [b]).below k2 | exact (rowB _ [b] _).below k2 | exact (rowC _ _ [b]).below k2) rfl (fun e => by cases e) (Nat.le_refl _) (by omega)).mono ?_; rintro en W3 ⟨pv, rfl, i3, j3, k3⟩; obtain ⟨a3, c3, rfl⟩ := j3.shape; have B3 : Below w1.heap.size w1 W3 := (by first | exact B2.trans (k3.mono B2.size) | exact (B2.alloc B2.size _).trans (k3.mono (B2.alloc B2.size _).size)); have ob := ox1.below B3; have or := o0.below B3; obtain ⟨z0, z1, z2, z3, zf⟩ := own4 ob; obtain ⟨r0, r1, rf⟩ := own2 or)
      | (go_at_call 44; refine (take_as (c := 1) (n := 1) (xs := [a]) (by first | exact rowA _ [a] | exact rowB _ [a] _ | exact rowC _ _ [a]) rfl (fun e => by cases e) (Nat.le_refl _) (by omega)).mono ?_; rintro en W2 ⟨tv, rfl, i2, k2⟩; obtain ⟨a2, c2, rfl⟩ := i2.shape; have B2 : Below w1.heap.size w1 W2 := (by first | exact (belowA _ _).trans (k2.mono (belowA _ _).size) | exact (belowAA _ _ _).trans (k2.mono (belowAA _ _ _).size)); have b2s : w.heap.size ≤ W2.heap.size := Nat.le_trans b0.size B2.size; have i2 := i2.mono (show w.heap.size ≤ _ by first | exact Nat.le_trans b0.size (belowA _ _).size | exact Nat.le_trans b0.size (belowAA _ _ _).size); have ob := ox1.below B2; obtain ⟨z0, z1, z2, z3, zf⟩ := own4 ob; clear ob)
      )
  all_goals (
    have o5 := (or.set 0 (.slice a2 1 c2)).set 1 (.slice a3 1 c3)
    have o6 : Own ((W3.setCell ⟨w.heap.size + 1, 0, none⟩ (.slice a2 1 c2)).setCell ⟨w.heap.size + 1, 1, none⟩ (.slice a3 1 c3)) (w.heap.size + 1) #[.slice a2 1 c2, .slice a3 1 c3] 69 := by simpa using o5
    go_wp2
    refine bodyPost_cell1 (g := w.heap.size + 1) (t := 69) rfl rfl rfl o6 Tryd.underlying69 rfl (by kernel_rfl) ?_
    have i5 := i3.set2 or (by decide) (.slice a2 1 c2) (.slice a3 1 c3)
    have j5 := j3.set2 or (by decide) (.slice a2 1 c2) (.slice a3 1 c3)
    have b5 := below_set2 (b0.trans (B3.mono b0.size)) (show w.heap.size ≤ w.heap.size + 1 by omega) (.slice a2 1 c2) (.slice a3 1 c3)
    exact ⟨_, _, _, _, rfl, i5, j5, b5⟩)
end Go.Proofs.YtjfdlphkmpkjdaaDoor
