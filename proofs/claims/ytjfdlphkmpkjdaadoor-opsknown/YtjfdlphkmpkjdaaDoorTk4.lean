/-
  CONTRACT of ofOp: by the op.
-/
import Derived.Test.YtjfdlphkmpkjdaaDoorJta
namespace Go.Proofs.YtjfdlphkmpkjdaaDoor
open Go.RowKit
set_option linter.unusedVariables false

set_option maxHeartbeats 1000000 in
set_option maxRecDepth 100000 in
theorem ofOp4 (w : World) : Calls Tryd.prog 49 #[.int .u8 4] w (EffRet w ([], [4])) := by
  have o0 := Own.new w zEff 69
  have b0 := new_below w (.cells zEff 69)
  go_enter Tryd.func49, Tryd.ntmps49
  go_upto_region 4 with fail
  generalize w.alloc (.cells zEff 69) = w1 at *
  go_wp2_with fail
  refine (takeN (B := w.heap.size) b0.size).mono ?_
  rintro e w2 ⟨ta, tc, rfl, i2, k2⟩
  have o2 := o0.below (k2.mono (Nat.le_refl _))
  have b2 := b0.trans (k2.mono b0.size)
  clear o0 b0 k2
  go_wp2_with fail
  refine (putL (B := w.heap.size) b2.size i2 [4] (by simp)).mono ?_
  rintro e w3 ⟨pa, pc, rfl, i3, j3, k3⟩
  have o3 := o2.below (k3.mono (Nat.le_refl _))
  have b3 := b2.trans (k3.mono b2.size)
  clear o2 b2 k3 i2
  go_wp2_with (refine wpList_put rfl 69 (.tmp 2) (.tmp 9) rfl rfl w.heap.size 0 rfl rfl o3 infoE rfl (by simp) rfl ?_; intro w5 o5 g5)
  refine bodyPost_cell1 (g := w.heap.size) (t := 69) rfl rfl rfl o5 Tryd.underlying69 rfl (by kernel_rfl) ?_
  exact ⟨ta, tc, _, _, rfl, i3.grown g5 o3 (by decide), (j3.grown g5 o3 (by decide)), b3.grown g5 b3.size (fun k e => by cases e; omega)⟩
set_option maxHeartbeats 1000000 in
set_option maxRecDepth 100000 in
theorem ofOp5 (w : World) : Calls Tryd.prog 49 #[.int .u8 5] w (EffRet w ([], [4])) := by
  have o0 := Own.new w zEff 69
  have b0 := new_below w (.cells zEff 69)
  go_enter Tryd.func49, Tryd.ntmps49
  go_upto_region 4 with fail
  generalize w.alloc (.cells zEff 69) = w1 at *
  go_wp2_with fail
  refine (takeN (B := w.heap.size) b0.size).mono ?_
  rintro e w2 ⟨ta, tc, rfl, i2, k2⟩
  have o2 := o0.below (k2.mono (Nat.le_refl _))
  have b2 := b0.trans (k2.mono b0.size)
  clear o0 b0 k2
  go_wp2_with fail
  refine (putL (B := w.heap.size) b2.size i2 [4] (by simp)).mono ?_
  rintro e w3 ⟨pa, pc, rfl, i3, j3, k3⟩
  have o3 := o2.below (k3.mono (Nat.le_refl _))
  have b3 := b2.trans (k3.mono b2.size)
  clear o2 b2 k3 i2
  go_wp2_with (refine wpList_put rfl 69 (.tmp 2) (.tmp 9) rfl rfl w.heap.size 0 rfl rfl o3 infoE rfl (by simp) rfl ?_; intro w5 o5 g5)
  refine bodyPost_cell1 (g := w.heap.size) (t := 69) rfl rfl rfl o5 Tryd.underlying69 rfl (by kernel_rfl) ?_
  exact ⟨ta, tc, _, _, rfl, i3.grown g5 o3 (by decide), (j3.grown g5 o3 (by decide)), b3.grown g5 b3.size (fun k e => by cases e; omega)⟩
set_option maxHeartbeats 1000000 in
set_option maxRecDepth 100000 in
theorem ofOp7 (w : World) : Calls Tryd.prog 49 #[.int .u8 7] w (EffRet w ([], [0])) := by
  have o0 := Own.new w zEff 69
  have b0 := new_below w (.cells zEff 69)
  go_enter Tryd.func49, Tryd.ntmps49
  go_upto_region 6 with fail
  generalize w.alloc (.cells zEff 69) = w1 at *
  go_wp2_with fail
  refine (takeN (B := w.heap.size) b0.size).mono ?_
  rintro e w2 ⟨ta, tc, rfl, i2, k2⟩
  have o2 := o0.below (k2.mono (Nat.le_refl _))
  have b2 := b0.trans (k2.mono b0.size)
  clear o0 b0 k2
  go_wp2_with fail
  refine (putL (B := w.heap.size) b2.size i2 [0] (by simp)).mono ?_
  rintro e w3 ⟨pa, pc, rfl, i3, j3, k3⟩
  have o3 := o2.below (k3.mono (Nat.le_refl _))
  have b3 := b2.trans (k3.mono b2.size)
  clear o2 b2 k3 i2
  go_wp2_with (refine wpList_put rfl 69 (.tmp 2) (.tmp 14) rfl rfl w.heap.size 0 rfl rfl o3 infoE rfl (by simp) rfl ?_; intro w5 o5 g5)
  refine bodyPost_cell1 (g := w.heap.size) (t := 69) rfl rfl rfl o5 Tryd.underlying69 rfl (by kernel_rfl) ?_
  exact ⟨ta, tc, _, _, rfl, i3.grown g5 o3 (by decide), (j3.grown g5 o3 (by decide)), b3.grown g5 b3.size (fun k e => by cases e; omega)⟩
set_option maxHeartbeats 1000000 in
set_option maxRecDepth 100000 in
theorem ofOp8 (w : World) : Calls Tryd.prog 49 #[.int .u8 8] w (EffRet w ([0], [])) := by
  have o0 := Own.new w zEff 69
  have b0 := new_below w (.cells zEff 69)
  go_enter Tryd.func49, Tryd.ntmps49
  go_upto_region 9 with fail
  generalize w.alloc (.cells zEff 69) = w1 at *
  go_wp2_with fail
  refine (takeL (B := w.heap.size) b0.size [0] (by simp)).mono ?_
  rintro e w2 ⟨ta, tc, rfl, i2, k2⟩
  have o2 := o0.below (k2.mono (Nat.le_refl _))
  have b2 := b0.trans (k2.mono b0.size)
  clear o0 b0 k2
  go_wp2_with (refine wpList_put rfl 69 (.tmp 2) (.tmp 19) rfl rfl w.heap.size 0 rfl rfl o2 infoE rfl (by simp) rfl ?_; intro w5 o5 g5)
  refine bodyPost_cell1 (g := w.heap.size) (t := 69) rfl rfl rfl o5 Tryd.underlying69 rfl (by kernel_rfl) ?_
  exact ⟨ta, tc, _, _, rfl, i2.grown g5 o2 (by decide), (IntNew.nil _ _), b2.grown g5 b2.size (fun k e => by cases e; omega)⟩
set_option maxHeartbeats 1000000 in
set_option maxRecDepth 100000 in
theorem ofOp9 (w : World) : Calls Tryd.prog 49 #[.int .u8 9] w (EffRet w ([0], [])) := by
  have o0 := Own.new w zEff 69
  have b0 := new_below w (.cells zEff 69)
  go_enter Tryd.func49, Tryd.ntmps49
  go_upto_region 9 with fail
  generalize w.alloc (.cells zEff 69) = w1 at *
  go_wp2_with fail
  refine (takeL (B := w.heap.size) b0.size [0] (by simp)).mono ?_
  rintro e w2 ⟨ta, tc, rfl, i2, k2⟩
  have o2 := o0.below (k2.mono (Nat.le_refl _))
  have b2 := b0.trans (k2.mono b0.size)
  clear o0 b0 k2
  go_wp2_with (refine wpList_put rfl 69 (.tmp 2) (.tmp 19) rfl rfl w.heap.size 0 rfl rfl o2 infoE rfl (by simp) rfl ?_; intro w5 o5 g5)
  refine bodyPost_cell1 (g := w.heap.size) (t := 69) rfl rfl rfl o5 Tryd.underlying69 rfl (by kernel_rfl) ?_
  exact ⟨ta, tc, _, _, rfl, i2.grown g5 o2 (by decide), (IntNew.nil _ _), b2.grown g5 b2.size (fun k e => by cases e; omega)⟩
set_option maxHeartbeats 1000000 in
set_option maxRecDepth 100000 in
theorem ofOp10 (w : World) : Calls Tryd.prog 49 #[.int .u8 10] w (EffRet w ([0], [0, 0])) := by
  have o0 := Own.new w zEff 69
  have b0 := new_below w (.cells zEff 69)
  go_enter Tryd.func49, Tryd.ntmps49
  go_upto_region 11 with fail
  generalize w.alloc (.cells zEff 69) = w1 at *
  go_wp2_with fail
  refine (takeL (B := w.heap.size) b0.size [0] (by simp)).mono ?_
  rintro e w2 ⟨ta, tc, rfl, i2, k2⟩
  have o2 := o0.below (k2.mono (Nat.le_refl _))
  have b2 := b0.trans (k2.mono b0.size)
  clear o0 b0 k2
  go_wp2_with fail
  refine (putL (B := w.heap.size) b2.size i2 [0, 0] (by simp)).mono ?_
  rintro e w3 ⟨pa, pc, rfl, i3, j3, k3⟩
  have o3 := o2.below (k3.mono (Nat.le_refl _))
  have b3 := b2.trans (k3.mono b2.size)
  clear o2 b2 k3 i2
  go_wp2_with (refine wpList_put rfl 69 (.tmp 2) (.tmp 25) rfl rfl w.heap.size 0 rfl rfl o3 infoE rfl (by simp) rfl ?_; intro w5 o5 g5)
  refine bodyPost_cell1 (g := w.heap.size) (t := 69) rfl rfl rfl o5 Tryd.underlying69 rfl (by kernel_rfl) ?_
  exact ⟨ta, tc, _, _, rfl, i3.grown g5 o3 (by decide), (j3.grown g5 o3 (by decide)), b3.grown g5 b3.size (fun k e => by cases e; omega)⟩
set_option maxHeartbeats 1000000 in
set_option maxRecDepth 100000 in
theorem ofOp30 (w : World) : Calls Tryd.prog 49 #[.int .u8 30] w (EffRet w ([4], [4])) := by
  have o0 := Own.new w zEff 69
  have b0 := new_below w (.cells zEff 69)
  go_enter Tryd.func49, Tryd.ntmps49
  go_upto_region 13 with fail
  generalize w.alloc (.cells zEff 69) = w1 at *
  go_wp2_with fail
  refine (takeL (B := w.heap.size) b0.size [4] (by simp)).mono ?_
  rintro e w2 ⟨ta, tc, rfl, i2, k2⟩
  have o2 := o0.below (k2.mono (Nat.le_refl _))
  have b2 := b0.trans (k2.mono b0.size)
  clear o0 b0 k2
  go_wp2_with fail
  refine (putL (B := w.heap.size) b2.size i2 [4] (by simp)).mono ?_
  rintro e w3 ⟨pa, pc, rfl, i3, j3, k3⟩
  have o3 := o2.below (k3.mono (Nat.le_refl _))
  have b3 := b2.trans (k3.mono b2.size)
  clear o2 b2 k3 i2
  go_wp2_with (refine wpList_put rfl 69 (.tmp 2) (.tmp 31) rfl rfl w.heap.size 0 rfl rfl o3 infoE rfl (by simp) rfl ?_; intro w5 o5 g5)
  refine bodyPost_cell1 (g := w.heap.size) (t := 69) rfl rfl rfl o5 Tryd.underlying69 rfl (by kernel_rfl) ?_
  exact ⟨ta, tc, _, _, rfl, i3.grown g5 o3 (by decide), (j3.grown g5 o3 (by decide)), b3.grown g5 b3.size (fun k e => by cases e; omega)⟩
set_option maxHeartbeats 1000000 in
set_option maxRecDepth 100000 in
theorem ofOp31 (w : World) : Calls Tryd.prog 49 #[.int .u8 31] w (EffRet w ([5, 5], [5])) := by
  have o0 := Own.new w zEff 69
  have b0 := new_below w (.cells zEff 69)
  go_enter Tryd.func49, Tryd.ntmps49
  go_upto_region 15 with fail
  generalize w.alloc (.cells zEff 69) = w1 at *
  go_wp2_with fail
  refine (takeL (B := w.heap.size) b0.size [5, 5] (by simp)).mono ?_
  rintro e w2 ⟨ta, tc, rfl, i2, k2⟩
  have o2 := o0.below (k2.mono (Nat.le_refl _))
  have b2 := b0.trans (k2.mono b0.size)
  clear o0 b0 k2
  go_wp2_with fail
  refine (putL (B := w.heap.size) b2.size i2 [5] (by simp)).mono ?_
  rintro e w3 ⟨pa, pc, rfl, i3, j3, k3⟩
  have o3 := o2.below (k3.mono (Nat.le_refl _))
  have b3 := b2.trans (k3.mono b2.size)
  clear o2 b2 k3 i2
  go_wp2_with (refine wpList_put rfl 69 (.tmp 2) (.tmp 37) rfl rfl w.heap.size 0 rfl rfl o3 infoE rfl (by simp) rfl ?_; intro w5 o5 g5)
  refine bodyPost_cell1 (g := w.heap.size) (t := 69) rfl rfl rfl o5 Tryd.underlying69 rfl (by kernel_rfl) ?_
  exact ⟨ta, tc, _, _, rfl, i3.grown g5 o3 (by decide), (j3.grown g5 o3 (by decide)), b3.grown g5 b3.size (fun k e => by cases e; omega)⟩
set_option maxHeartbeats 1000000 in
set_option maxRecDepth 100000 in
theorem ofOp32 (w : World) : Calls Tryd.prog 49 #[.int .u8 32] w (EffRet w ([5], [3])) := by
  have o0 := Own.new w zEff 69
  have b0 := new_below w (.cells zEff 69)
  go_enter Tryd.func49, Tryd.ntmps49
  go_upto_region 17 with fail
  generalize w.alloc (.cells zEff 69) = w1 at *
  go_wp2_with fail
  refine (takeL (B := w.heap.size) b0.size [5] (by simp)).mono ?_
  rintro e w2 ⟨ta, tc, rfl, i2, k2⟩
  have o2 := o0.below (k2.mono (Nat.le_refl _))
  have b2 := b0.trans (k2.mono b0.size)
  clear o0 b0 k2
  go_wp2_with fail
  refine (putL (B := w.heap.size) b2.size i2 [3] (by simp)).mono ?_
  rintro e w3 ⟨pa, pc, rfl, i3, j3, k3⟩
  have o3 := o2.below (k3.mono (Nat.le_refl _))
  have b3 := b2.trans (k3.mono b2.size)
  clear o2 b2 k3 i2
  go_wp2_with (refine wpList_put rfl 69 (.tmp 2) (.tmp 43) rfl rfl w.heap.size 0 rfl rfl o3 infoE rfl (by simp) rfl ?_; intro w5 o5 g5)
  refine bodyPost_cell1 (g := w.heap.size) (t := 69) rfl rfl rfl o5 Tryd.underlying69 rfl (by kernel_rfl) ?_
  exact ⟨ta, tc, _, _, rfl, i3.grown g5 o3 (by decide), (j3.grown g5 o3 (by decide)), b3.grown g5 b3.size (fun k e => by cases e; omega)⟩
set_option maxHeartbeats 1000000 in
set_option maxRecDepth 100000 in
theorem ofOp33 (w : World) : Calls Tryd.prog 49 #[.int .u8 33] w (EffRet w ([5, 3], [2])) := by
  have o0 := Own.new w zEff 69
  have b0 := new_below w (.cells zEff 69)
  go_enter Tryd.func49, Tryd.ntmps49
  go_upto_region 19 with fail
  generalize w.alloc (.cells zEff 69) = w1 at *
  go_wp2_with fail
  refine (takeL (B := w.heap.size) b0.size [5, 3] (by simp)).mono ?_
  rintro e w2 ⟨ta, tc, rfl, i2, k2⟩
  have o2 := o0.below (k2.mono (Nat.le_refl _))
  have b2 := b0.trans (k2.mono b0.size)
  clear o0 b0 k2
  go_wp2_with fail
  refine (putL (B := w.heap.size) b2.size i2 [2] (by simp)).mono ?_
  rintro e w3 ⟨pa, pc, rfl, i3, j3, k3⟩
  have o3 := o2.below (k3.mono (Nat.le_refl _))
  have b3 := b2.trans (k3.mono b2.size)
  clear o2 b2 k3 i2
  go_wp2_with (refine wpList_put rfl 69 (.tmp 2) (.tmp 49) rfl rfl w.heap.size 0 rfl rfl o3 infoE rfl (by simp) rfl ?_; intro w5 o5 g5)
  refine bodyPost_cell1 (g := w.heap.size) (t := 69) rfl rfl rfl o5 Tryd.underlying69 rfl (by kernel_rfl) ?_
  exact ⟨ta, tc, _, _, rfl, i3.grown g5 o3 (by decide), (j3.grown g5 o3 (by decide)), b3.grown g5 b3.size (fun k e => by cases e; omega)⟩
set_option maxHeartbeats 1000000 in
set_option maxRecDepth 100000 in
theorem ofOp34 (w : World) : Calls Tryd.prog 49 #[.int .u8 34] w (EffRet w ([5, 3, 3], [5])) := by
  have o0 := Own.new w zEff 69
  have b0 := new_below w (.cells zEff 69)
  go_enter Tryd.func49, Tryd.ntmps49
  go_upto_region 21 with fail
  generalize w.alloc (.cells zEff 69) = w1 at *
  go_wp2_with fail
  refine (takeL (B := w.heap.size) b0.size [5, 3, 3] (by simp)).mono ?_
  rintro e w2 ⟨ta, tc, rfl, i2, k2⟩
  have o2 := o0.below (k2.mono (Nat.le_refl _))
  have b2 := b0.trans (k2.mono b0.size)
  clear o0 b0 k2
  go_wp2_with fail
  refine (putL (B := w.heap.size) b2.size i2 [5] (by simp)).mono ?_
  rintro e w3 ⟨pa, pc, rfl, i3, j3, k3⟩
  have o3 := o2.below (k3.mono (Nat.le_refl _))
  have b3 := b2.trans (k3.mono b2.size)
  clear o2 b2 k3 i2
  go_wp2_with (refine wpList_put rfl 69 (.tmp 2) (.tmp 55) rfl rfl w.heap.size 0 rfl rfl o3 infoE rfl (by simp) rfl ?_; intro w5 o5 g5)
  refine bodyPost_cell1 (g := w.heap.size) (t := 69) rfl rfl rfl o5 Tryd.underlying69 rfl (by kernel_rfl) ?_
  exact ⟨ta, tc, _, _, rfl, i3.grown g5 o3 (by decide), (j3.grown g5 o3 (by decide)), b3.grown g5 b3.size (fun k e => by cases e; omega)⟩
set_option maxHeartbeats 1000000 in
set_option maxRecDepth 100000 in
theorem ofOp35 (w : World) : Calls Tryd.prog 49 #[.int .u8 35] w (EffRet w ([2], [5])) := by
  have o0 := Own.new w zEff 69
  have b0 := new_below w (.cells zEff 69)
  go_enter Tryd.func49, Tryd.ntmps49
  go_upto_region 23 with fail
  generalize w.alloc (.cells zEff 69) = w1 at *
  go_wp2_with fail
  refine (takeL (B := w.heap.size) b0.size [2] (by simp)).mono ?_
  rintro e w2 ⟨ta, tc, rfl, i2, k2⟩
  have o2 := o0.below (k2.mono (Nat.le_refl _))
  have b2 := b0.trans (k2.mono b0.size)
  clear o0 b0 k2
  go_wp2_with fail
  refine (putL (B := w.heap.size) b2.size i2 [5] (by simp)).mono ?_
  rintro e w3 ⟨pa, pc, rfl, i3, j3, k3⟩
  have o3 := o2.below (k3.mono (Nat.le_refl _))
  have b3 := b2.trans (k3.mono b2.size)
  clear o2 b2 k3 i2
  go_wp2_with (refine wpList_put rfl 69 (.tmp 2) (.tmp 61) rfl rfl w.heap.size 0 rfl rfl o3 infoE rfl (by simp) rfl ?_; intro w5 o5 g5)
  refine bodyPost_cell1 (g := w.heap.size) (t := 69) rfl rfl rfl o5 Tryd.underlying69 rfl (by kernel_rfl) ?_
  exact ⟨ta, tc, _, _, rfl, i3.grown g5 o3 (by decide), (j3.grown g5 o3 (by decide)), b3.grown g5 b3.size (fun k e => by cases e; omega)⟩
set_option maxHeartbeats 1000000 in
set_option maxRecDepth 100000 in
theorem ofOp47 (w : World) : Calls Tryd.prog 49 #[.int .u8 47] w (EffRet w ([4], [])) := by
  have o0 := Own.new w zEff 69
  have b0 := new_below w (.cells zEff 69)
  go_enter Tryd.func49, Tryd.ntmps49
  go_upto_region 24 with fail
  generalize w.alloc (.cells zEff 69) = w1 at *
  go_wp2_with fail
  refine (takeL (B := w.heap.size) b0.size [4] (by simp)).mono ?_
  rintro e w2 ⟨ta, tc, rfl, i2, k2⟩
  have o2 := o0.below (k2.mono (Nat.le_refl _))
  have b2 := b0.trans (k2.mono b0.size)
  clear o0 b0 k2
  go_wp2_with (refine wpList_put rfl 69 (.tmp 2) (.tmp 63) rfl rfl w.heap.size 0 rfl rfl o2 infoE rfl (by simp) rfl ?_; intro w5 o5 g5)
  refine bodyPost_cell1 (g := w.heap.size) (t := 69) rfl rfl rfl o5 Tryd.underlying69 rfl (by kernel_rfl) ?_
  exact ⟨ta, tc, _, _, rfl, i2.grown g5 o2 (by decide), (IntNew.nil _ _), b2.grown g5 b2.size (fun k e => by cases e; omega)⟩
set_option maxHeartbeats 1000000 in
set_option maxRecDepth 100000 in
theorem ofOp48 (w : World) : Calls Tryd.prog 49 #[.int .u8 48] w (EffRet w ([4], [])) := by
  have o0 := Own.new w zEff 69
  have b0 := new_below w (.cells zEff 69)
  go_enter Tryd.func49, Tryd.ntmps49
  go_upto_region 24 with fail
  generalize w.alloc (.cells zEff 69) = w1 at *
  go_wp2_with fail
  refine (takeL (B := w.heap.size) b0.size [4] (by simp)).mono ?_
  rintro e w2 ⟨ta, tc, rfl, i2, k2⟩
  have o2 := o0.below (k2.mono (Nat.le_refl _))
  have b2 := b0.trans (k2.mono b0.size)
  clear o0 b0 k2
  go_wp2_with (refine wpList_put rfl 69 (.tmp 2) (.tmp 63) rfl rfl w.heap.size 0 rfl rfl o2 infoE rfl (by simp) rfl ?_; intro w5 o5 g5)
  refine bodyPost_cell1 (g := w.heap.size) (t := 69) rfl rfl rfl o5 Tryd.underlying69 rfl (by kernel_rfl) ?_
  exact ⟨ta, tc, _, _, rfl, i2.grown g5 o2 (by decide), (IntNew.nil _ _), b2.grown g5 b2.size (fun k e => by cases e; omega)⟩
end Go.Proofs.YtjfdlphkmpkjdaaDoor
