/-
  CONTRACT of ofWidth: by the op.
  CONTRACTS of fieldTypes and arraysOf.
  CONTRACTS of ofCall and ofRecord.
-/
import Derived.Test.YtjfdlphkmpkjdaaDoorJta
import Derived.Test.YtjfdlphkmpkjdaaDoorJml
namespace Go.Proofs.YtjfdlphkmpkjdaaDoor
open Go.RowKit
set_option linter.unusedVariables false

set_option maxHeartbeats 1000000 in
set_option maxRecDepth 100000 in
theorem ofWidth1 (w : World) (a b : Int) (ao : Option Addr) (n cp : Nat) : Calls Tryd.prog 50 #[.agg #[.int .u8 1, .int .i64 a, .int .i64 b, .slice ao n cp]] w (EffRet w ([], [1])) := by
  have ox := Own.new w #[.int .u8 1, .int .i64 a, .int .i64 b, .slice ao n cp] 24
  have bx := new_below w (.cells #[.int .u8 1, .int .i64 a, .int .i64 b, .slice ao n cp] 24)
  go_enter Tryd.func50, Tryd.ntmps50
  go_upto_region 1 with fail
  have ex : (w.alloc (.cells #[.int .u8 1, .int .i64 a, .int .i64 b, .slice ao n cp] 24)).heap.size = w.heap.size + 1 := World.size_alloc _ _
  generalize w.alloc (.cells #[.int .u8 1, .int .i64 a, .int .i64 b, .slice ao n cp] 24) = wx at *
  have o0 := Own.new wx zEff 69
  have bn := new_below wx (.cells zEff 69)
  have ox1 := ox.below bn
  have b0 := bx.trans (bn.mono bx.size)
  rw [ex] at o0
  generalize wx.alloc (.cells zEff 69) = w1 at *
  obtain ⟨x0, x1, x2, x3, xf⟩ := own4 ox1
  clear ox bx bn ex ox1
  go_upto_region 4 with fail
  clear x0 x1 x2 x3 xf
  go_wp2_with fail
  refine (takeN (B := w.heap.size) b0.size).mono ?_
  rintro e w2 ⟨ta, tc, rfl, i2, k2⟩
  have o2 := o0.below (k2.mono (Nat.le_refl _))
  have b2 := b0.trans (k2.mono b0.size)
  clear o0 b0 k2
  go_wp2_with fail
  refine (putL (B := w.heap.size) b2.size i2 [1] (by simp)).mono ?_
  rintro e w3 ⟨pa, pc, rfl, i3, j3, k3⟩
  have o3 := o2.below (k3.mono (Nat.le_refl _))
  have b3 := b2.trans (k3.mono b2.size)
  clear o2 b2 k3 i2
  go_wp2_with (refine wpList_put rfl 69 (.tmp 2) (.tmp 12) rfl rfl (w.heap.size + 1) 0 rfl rfl o3 infoE rfl (by simp) rfl ?_; intro w5 o5 g5)
  refine bodyPost_cell1 (g := (w.heap.size + 1)) (t := 69) rfl rfl rfl o5 Tryd.underlying69 rfl (by kernel_rfl) ?_
  exact ⟨ta, tc, _, _, rfl, i3.grown g5 o3 (by decide), (j3.grown g5 o3 (by decide)), b3.grown g5 b3.size (fun k e => by cases e; omega)⟩
set_option maxHeartbeats 1000000 in
set_option maxRecDepth 100000 in
theorem ofWidth2 (w : World) (a b : Int) (ao : Option Addr) (n cp : Nat) : Calls Tryd.prog 50 #[.agg #[.int .u8 2, .int .i64 a, .int .i64 b, .slice ao n cp]] w (EffRet w ([], [2])) := by
  have ox := Own.new w #[.int .u8 2, .int .i64 a, .int .i64 b, .slice ao n cp] 24
  have bx := new_below w (.cells #[.int .u8 2, .int .i64 a, .int .i64 b, .slice ao n cp] 24)
  go_enter Tryd.func50, Tryd.ntmps50
  go_upto_region 1 with fail
  have ex : (w.alloc (.cells #[.int .u8 2, .int .i64 a, .int .i64 b, .slice ao n cp] 24)).heap.size = w.heap.size + 1 := World.size_alloc _ _
  generalize w.alloc (.cells #[.int .u8 2, .int .i64 a, .int .i64 b, .slice ao n cp] 24) = wx at *
  have o0 := Own.new wx zEff 69
  have bn := new_below wx (.cells zEff 69)
  have ox1 := ox.below bn
  have b0 := bx.trans (bn.mono bx.size)
  rw [ex] at o0
  generalize wx.alloc (.cells zEff 69) = w1 at *
  obtain ⟨x0, x1, x2, x3, xf⟩ := own4 ox1
  clear ox bx bn ex ox1
  go_upto_region 6 with fail
  clear x0 x1 x2 x3 xf
  go_wp2_with fail
  refine (takeN (B := w.heap.size) b0.size).mono ?_
  rintro e w2 ⟨ta, tc, rfl, i2, k2⟩
  have o2 := o0.below (k2.mono (Nat.le_refl _))
  have b2 := b0.trans (k2.mono b0.size)
  clear o0 b0 k2
  go_wp2_with fail
  refine (putL (B := w.heap.size) b2.size i2 [2] (by simp)).mono ?_
  rintro e w3 ⟨pa, pc, rfl, i3, j3, k3⟩
  have o3 := o2.below (k3.mono (Nat.le_refl _))
  have b3 := b2.trans (k3.mono b2.size)
  clear o2 b2 k3 i2
  go_wp2_with (refine wpList_put rfl 69 (.tmp 2) (.tmp 17) rfl rfl (w.heap.size + 1) 0 rfl rfl o3 infoE rfl (by simp) rfl ?_; intro w5 o5 g5)
  refine bodyPost_cell1 (g := (w.heap.size + 1)) (t := 69) rfl rfl rfl o5 Tryd.underlying69 rfl (by kernel_rfl) ?_
  exact ⟨ta, tc, _, _, rfl, i3.grown g5 o3 (by decide), (j3.grown g5 o3 (by decide)), b3.grown g5 b3.size (fun k e => by cases e; omega)⟩
set_option maxHeartbeats 1000000 in
set_option maxRecDepth 100000 in
theorem ofWidth3 (w : World) (a b : Int) (ao : Option Addr) (n cp : Nat) : Calls Tryd.prog 50 #[.agg #[.int .u8 3, .int .i64 a, .int .i64 b, .slice ao n cp]] w (EffRet w ([], [3])) := by
  have ox := Own.new w #[.int .u8 3, .int .i64 a, .int .i64 b, .slice ao n cp] 24
  have bx := new_below w (.cells #[.int .u8 3, .int .i64 a, .int .i64 b, .slice ao n cp] 24)
  go_enter Tryd.func50, Tryd.ntmps50
  go_upto_region 1 with fail
  have ex : (w.alloc (.cells #[.int .u8 3, .int .i64 a, .int .i64 b, .slice ao n cp] 24)).heap.size = w.heap.size + 1 := World.size_alloc _ _
  generalize w.alloc (.cells #[.int .u8 3, .int .i64 a, .int .i64 b, .slice ao n cp] 24) = wx at *
  have o0 := Own.new wx zEff 69
  have bn := new_below wx (.cells zEff 69)
  have ox1 := ox.below bn
  have b0 := bx.trans (bn.mono bx.size)
  rw [ex] at o0
  generalize wx.alloc (.cells zEff 69) = w1 at *
  obtain ⟨x0, x1, x2, x3, xf⟩ := own4 ox1
  clear ox bx bn ex ox1
  go_upto_region 8 with fail
  clear x0 x1 x2 x3 xf
  go_wp2_with fail
  refine (takeN (B := w.heap.size) b0.size).mono ?_
  rintro e w2 ⟨ta, tc, rfl, i2, k2⟩
  have o2 := o0.below (k2.mono (Nat.le_refl _))
  have b2 := b0.trans (k2.mono b0.size)
  clear o0 b0 k2
  go_wp2_with fail
  refine (putL (B := w.heap.size) b2.size i2 [3] (by simp)).mono ?_
  rintro e w3 ⟨pa, pc, rfl, i3, j3, k3⟩
  have o3 := o2.below (k3.mono (Nat.le_refl _))
  have b3 := b2.trans (k3.mono b2.size)
  clear o2 b2 k3 i2
  go_wp2_with (refine wpList_put rfl 69 (.tmp 2) (.tmp 22) rfl rfl (w.heap.size + 1) 0 rfl rfl o3 infoE rfl (by simp) rfl ?_; intro w5 o5 g5)
  refine bodyPost_cell1 (g := (w.heap.size + 1)) (t := 69) rfl rfl rfl o5 Tryd.underlying69 rfl (by kernel_rfl) ?_
  exact ⟨ta, tc, _, _, rfl, i3.grown g5 o3 (by decide), (j3.grown g5 o3 (by decide)), b3.grown g5 b3.size (fun k e => by cases e; omega)⟩
set_option maxHeartbeats 1000000 in
set_option maxRecDepth 100000 in
theorem ofWidth11 (w : World) (a b : Int) (ao : Option Addr) (n cp : Nat) : Calls Tryd.prog 50 #[.agg #[.int .u8 11, .int .i64 a, .int .i64 b, .slice ao n cp]] w (EffRet w ([a, a], [a])) := by
  have ox := Own.new w #[.int .u8 11, .int .i64 a, .int .i64 b, .slice ao n cp] 24
  have bx := new_below w (.cells #[.int .u8 11, .int .i64 a, .int .i64 b, .slice ao n cp] 24)
  go_enter Tryd.func50, Tryd.ntmps50
  go_upto_region 1 with fail
  have ex : (w.alloc (.cells #[.int .u8 11, .int .i64 a, .int .i64 b, .slice ao n cp] 24)).heap.size = w.heap.size + 1 := World.size_alloc _ _
  generalize w.alloc (.cells #[.int .u8 11, .int .i64 a, .int .i64 b, .slice ao n cp] 24) = wx at *
  have o0 := Own.new wx zEff 69
  have bn := new_below wx (.cells zEff 69)
  have ox1 := ox.below bn
  have b0 := bx.trans (bn.mono bx.size)
  rw [ex] at o0
  generalize wx.alloc (.cells zEff 69) = w1 at *
  obtain ⟨x0, x1, x2, x3, xf⟩ := own4 ox1
  clear ox bx bn ex ox1
  go_upto_region 19 with fail
  clear x0 x1 x2 x3 xf
  go_wp2_with fail
  refine (takeL (B := w.heap.size) b0.size [a, a] (by simp)).mono ?_
  rintro e w2 ⟨ta, tc, rfl, i2, k2⟩
  have o2 := o0.below (k2.mono (Nat.le_refl _))
  have b2 := b0.trans (k2.mono b0.size)
  clear o0 b0 k2
  go_wp2_with fail
  refine (putL (B := w.heap.size) b2.size i2 [a] (by simp)).mono ?_
  rintro e w3 ⟨pa, pc, rfl, i3, j3, k3⟩
  have o3 := o2.below (k3.mono (Nat.le_refl _))
  have b3 := b2.trans (k3.mono b2.size)
  clear o2 b2 k3 i2
  go_wp2_with (refine wpList_put rfl 69 (.tmp 2) (.tmp 40) rfl rfl (w.heap.size + 1) 0 rfl rfl o3 infoE rfl (by simp) rfl ?_; intro w5 o5 g5)
  refine bodyPost_cell1 (g := (w.heap.size + 1)) (t := 69) rfl rfl rfl o5 Tryd.underlying69 rfl (by kernel_rfl) ?_
  exact ⟨ta, tc, _, _, rfl, i3.grown g5 o3 (by decide), (j3.grown g5 o3 (by decide)), b3.grown g5 b3.size (fun k e => by cases e; omega)⟩
set_option maxHeartbeats 1000000 in
set_option maxRecDepth 100000 in
theorem ofWidth12 (w : World) (a b : Int) (ao : Option Addr) (n cp : Nat) : Calls Tryd.prog 50 #[.agg #[.int .u8 12, .int .i64 a, .int .i64 b, .slice ao n cp]] w (EffRet w ([a, a], [a])) := by
  have ox := Own.new w #[.int .u8 12, .int .i64 a, .int .i64 b, .slice ao n cp] 24
  have bx := new_below w (.cells #[.int .u8 12, .int .i64 a, .int .i64 b, .slice ao n cp] 24)
  go_enter Tryd.func50, Tryd.ntmps50
  go_upto_region 1 with fail
  have ex : (w.alloc (.cells #[.int .u8 12, .int .i64 a, .int .i64 b, .slice ao n cp] 24)).heap.size = w.heap.size + 1 := World.size_alloc _ _
  generalize w.alloc (.cells #[.int .u8 12, .int .i64 a, .int .i64 b, .slice ao n cp] 24) = wx at *
  have o0 := Own.new wx zEff 69
  have bn := new_below wx (.cells zEff 69)
  have ox1 := ox.below bn
  have b0 := bx.trans (bn.mono bx.size)
  rw [ex] at o0
  generalize wx.alloc (.cells zEff 69) = w1 at *
  obtain ⟨x0, x1, x2, x3, xf⟩ := own4 ox1
  clear ox bx bn ex ox1
  go_upto_region 19 with fail
  clear x0 x1 x2 x3 xf
  go_wp2_with fail
  refine (takeL (B := w.heap.size) b0.size [a, a] (by simp)).mono ?_
  rintro e w2 ⟨ta, tc, rfl, i2, k2⟩
  have o2 := o0.below (k2.mono (Nat.le_refl _))
  have b2 := b0.trans (k2.mono b0.size)
  clear o0 b0 k2
  go_wp2_with fail
  refine (putL (B := w.heap.size) b2.size i2 [a] (by simp)).mono ?_
  rintro e w3 ⟨pa, pc, rfl, i3, j3, k3⟩
  have o3 := o2.below (k3.mono (Nat.le_refl _))
  have b3 := b2.trans (k3.mono b2.size)
  clear o2 b2 k3 i2
  go_wp2_with (refine wpList_put rfl 69 (.tmp 2) (.tmp 40) rfl rfl (w.heap.size + 1) 0 rfl rfl o3 infoE rfl (by simp) rfl ?_; intro w5 o5 g5)
  refine bodyPost_cell1 (g := (w.heap.size + 1)) (t := 69) rfl rfl rfl o5 Tryd.underlying69 rfl (by kernel_rfl) ?_
  exact ⟨ta, tc, _, _, rfl, i3.grown g5 o3 (by decide), (j3.grown g5 o3 (by decide)), b3.grown g5 b3.size (fun k e => by cases e; omega)⟩
set_option maxHeartbeats 1000000 in
set_option maxRecDepth 100000 in
theorem ofWidth13 (w : World) (a b : Int) (ao : Option Addr) (n cp : Nat) : Calls Tryd.prog 50 #[.agg #[.int .u8 13, .int .i64 a, .int .i64 b, .slice ao n cp]] w (EffRet w ([a, a], [a])) := by
  have ox := Own.new w #[.int .u8 13, .int .i64 a, .int .i64 b, .slice ao n cp] 24
  have bx := new_below w (.cells #[.int .u8 13, .int .i64 a, .int .i64 b, .slice ao n cp] 24)
  go_enter Tryd.func50, Tryd.ntmps50
  go_upto_region 1 with fail
  have ex : (w.alloc (.cells #[.int .u8 13, .int .i64 a, .int .i64 b, .slice ao n cp] 24)).heap.size = w.heap.size + 1 := World.size_alloc _ _
  generalize w.alloc (.cells #[.int .u8 13, .int .i64 a, .int .i64 b, .slice ao n cp] 24) = wx at *
  have o0 := Own.new wx zEff 69
  have bn := new_below wx (.cells zEff 69)
  have ox1 := ox.below bn
  have b0 := bx.trans (bn.mono bx.size)
  rw [ex] at o0
  generalize wx.alloc (.cells zEff 69) = w1 at *
  obtain ⟨x0, x1, x2, x3, xf⟩ := own4 ox1
  clear ox bx bn ex ox1
  go_upto_region 19 with fail
  clear x0 x1 x2 x3 xf
  go_wp2_with fail
  refine (takeL (B := w.heap.size) b0.size [a, a] (by simp)).mono ?_
  rintro e w2 ⟨ta, tc, rfl, i2, k2⟩
  have o2 := o0.below (k2.mono (Nat.le_refl _))
  have b2 := b0.trans (k2.mono b0.size)
  clear o0 b0 k2
  go_wp2_with fail
  refine (putL (B := w.heap.size) b2.size i2 [a] (by simp)).mono ?_
  rintro e w3 ⟨pa, pc, rfl, i3, j3, k3⟩
  have o3 := o2.below (k3.mono (Nat.le_refl _))
  have b3 := b2.trans (k3.mono b2.size)
  clear o2 b2 k3 i2
  go_wp2_with (refine wpList_put rfl 69 (.tmp 2) (.tmp 40) rfl rfl (w.heap.size + 1) 0 rfl rfl o3 infoE rfl (by simp) rfl ?_; intro w5 o5 g5)
  refine bodyPost_cell1 (g := (w.heap.size + 1)) (t := 69) rfl rfl rfl o5 Tryd.underlying69 rfl (by kernel_rfl) ?_
  exact ⟨ta, tc, _, _, rfl, i3.grown g5 o3 (by decide), (j3.grown g5 o3 (by decide)), b3.grown g5 b3.size (fun k e => by cases e; omega)⟩
set_option maxHeartbeats 1000000 in
set_option maxRecDepth 100000 in
theorem ofWidth14 (w : World) (a b : Int) (ao : Option Addr) (n cp : Nat) : Calls Tryd.prog 50 #[.agg #[.int .u8 14, .int .i64 a, .int .i64 b, .slice ao n cp]] w (EffRet w ([a, a], [a])) := by
  have ox := Own.new w #[.int .u8 14, .int .i64 a, .int .i64 b, .slice ao n cp] 24
  have bx := new_below w (.cells #[.int .u8 14, .int .i64 a, .int .i64 b, .slice ao n cp] 24)
  go_enter Tryd.func50, Tryd.ntmps50
  go_upto_region 1 with fail
  have ex : (w.alloc (.cells #[.int .u8 14, .int .i64 a, .int .i64 b, .slice ao n cp] 24)).heap.size = w.heap.size + 1 := World.size_alloc _ _
  generalize w.alloc (.cells #[.int .u8 14, .int .i64 a, .int .i64 b, .slice ao n cp] 24) = wx at *
  have o0 := Own.new wx zEff 69
  have bn := new_below wx (.cells zEff 69)
  have ox1 := ox.below bn
  have b0 := bx.trans (bn.mono bx.size)
  rw [ex] at o0
  generalize wx.alloc (.cells zEff 69) = w1 at *
  obtain ⟨x0, x1, x2, x3, xf⟩ := own4 ox1
  clear ox bx bn ex ox1
  go_upto_region 19 with fail
  clear x0 x1 x2 x3 xf
  go_wp2_with fail
  refine (takeL (B := w.heap.size) b0.size [a, a] (by simp)).mono ?_
  rintro e w2 ⟨ta, tc, rfl, i2, k2⟩
  have o2 := o0.below (k2.mono (Nat.le_refl _))
  have b2 := b0.trans (k2.mono b0.size)
  clear o0 b0 k2
  go_wp2_with fail
  refine (putL (B := w.heap.size) b2.size i2 [a] (by simp)).mono ?_
  rintro e w3 ⟨pa, pc, rfl, i3, j3, k3⟩
  have o3 := o2.below (k3.mono (Nat.le_refl _))
  have b3 := b2.trans (k3.mono b2.size)
  clear o2 b2 k3 i2
  go_wp2_with (refine wpList_put rfl 69 (.tmp 2) (.tmp 40) rfl rfl (w.heap.size + 1) 0 rfl rfl o3 infoE rfl (by simp) rfl ?_; intro w5 o5 g5)
  refine bodyPost_cell1 (g := (w.heap.size + 1)) (t := 69) rfl rfl rfl o5 Tryd.underlying69 rfl (by kernel_rfl) ?_
  exact ⟨ta, tc, _, _, rfl, i3.grown g5 o3 (by decide), (j3.grown g5 o3 (by decide)), b3.grown g5 b3.size (fun k e => by cases e; omega)⟩
set_option maxHeartbeats 1000000 in
set_option maxRecDepth 100000 in
theorem ofWidth15 (w : World) (a b : Int) (ao : Option Addr) (n cp : Nat) : Calls Tryd.prog 50 #[.agg #[.int .u8 15, .int .i64 a, .int .i64 b, .slice ao n cp]] w (EffRet w ([a, a], [a])) := by
  have ox := Own.new w #[.int .u8 15, .int .i64 a, .int .i64 b, .slice ao n cp] 24
  have bx := new_below w (.cells #[.int .u8 15, .int .i64 a, .int .i64 b, .slice ao n cp] 24)
  go_enter Tryd.func50, Tryd.ntmps50
  go_upto_region 1 with fail
  have ex : (w.alloc (.cells #[.int .u8 15, .int .i64 a, .int .i64 b, .slice ao n cp] 24)).heap.size = w.heap.size + 1 := World.size_alloc _ _
  generalize w.alloc (.cells #[.int .u8 15, .int .i64 a, .int .i64 b, .slice ao n cp] 24) = wx at *
  have o0 := Own.new wx zEff 69
  have bn := new_below wx (.cells zEff 69)
  have ox1 := ox.below bn
  have b0 := bx.trans (bn.mono bx.size)
  rw [ex] at o0
  generalize wx.alloc (.cells zEff 69) = w1 at *
  obtain ⟨x0, x1, x2, x3, xf⟩ := own4 ox1
  clear ox bx bn ex ox1
  go_upto_region 19 with fail
  clear x0 x1 x2 x3 xf
  go_wp2_with fail
  refine (takeL (B := w.heap.size) b0.size [a, a] (by simp)).mono ?_
  rintro e w2 ⟨ta, tc, rfl, i2, k2⟩
  have o2 := o0.below (k2.mono (Nat.le_refl _))
  have b2 := b0.trans (k2.mono b0.size)
  clear o0 b0 k2
  go_wp2_with fail
  refine (putL (B := w.heap.size) b2.size i2 [a] (by simp)).mono ?_
  rintro e w3 ⟨pa, pc, rfl, i3, j3, k3⟩
  have o3 := o2.below (k3.mono (Nat.le_refl _))
  have b3 := b2.trans (k3.mono b2.size)
  clear o2 b2 k3 i2
  go_wp2_with (refine wpList_put rfl 69 (.tmp 2) (.tmp 40) rfl rfl (w.heap.size + 1) 0 rfl rfl o3 infoE rfl (by simp) rfl ?_; intro w5 o5 g5)
  refine bodyPost_cell1 (g := (w.heap.size + 1)) (t := 69) rfl rfl rfl o5 Tryd.underlying69 rfl (by kernel_rfl) ?_
  exact ⟨ta, tc, _, _, rfl, i3.grown g5 o3 (by decide), (j3.grown g5 o3 (by decide)), b3.grown g5 b3.size (fun k e => by cases e; omega)⟩
set_option maxHeartbeats 1000000 in
set_option maxRecDepth 100000 in
theorem ofWidth16 (w : World) (a b : Int) (ao : Option Addr) (n cp : Nat) : Calls Tryd.prog 50 #[.agg #[.int .u8 16, .int .i64 a, .int .i64 b, .slice ao n cp]] w (EffRet w ([a, a], [a])) := by
  have ox := Own.new w #[.int .u8 16, .int .i64 a, .int .i64 b, .slice ao n cp] 24
  have bx := new_below w (.cells #[.int .u8 16, .int .i64 a, .int .i64 b, .slice ao n cp] 24)
  go_enter Tryd.func50, Tryd.ntmps50
  go_upto_region 1 with fail
  have ex : (w.alloc (.cells #[.int .u8 16, .int .i64 a, .int .i64 b, .slice ao n cp] 24)).heap.size = w.heap.size + 1 := World.size_alloc _ _
  generalize w.alloc (.cells #[.int .u8 16, .int .i64 a, .int .i64 b, .slice ao n cp] 24) = wx at *
  have o0 := Own.new wx zEff 69
  have bn := new_below wx (.cells zEff 69)
  have ox1 := ox.below bn
  have b0 := bx.trans (bn.mono bx.size)
  rw [ex] at o0
  generalize wx.alloc (.cells zEff 69) = w1 at *
  obtain ⟨x0, x1, x2, x3, xf⟩ := own4 ox1
  clear ox bx bn ex ox1
  go_upto_region 19 with fail
  clear x0 x1 x2 x3 xf
  go_wp2_with fail
  refine (takeL (B := w.heap.size) b0.size [a, a] (by simp)).mono ?_
  rintro e w2 ⟨ta, tc, rfl, i2, k2⟩
  have o2 := o0.below (k2.mono (Nat.le_refl _))
  have b2 := b0.trans (k2.mono b0.size)
  clear o0 b0 k2
  go_wp2_with fail
  refine (putL (B := w.heap.size) b2.size i2 [a] (by simp)).mono ?_
  rintro e w3 ⟨pa, pc, rfl, i3, j3, k3⟩
  have o3 := o2.below (k3.mono (Nat.le_refl _))
  have b3 := b2.trans (k3.mono b2.size)
  clear o2 b2 k3 i2
  go_wp2_with (refine wpList_put rfl 69 (.tmp 2) (.tmp 40) rfl rfl (w.heap.size + 1) 0 rfl rfl o3 infoE rfl (by simp) rfl ?_; intro w5 o5 g5)
  refine bodyPost_cell1 (g := (w.heap.size + 1)) (t := 69) rfl rfl rfl o5 Tryd.underlying69 rfl (by kernel_rfl) ?_
  exact ⟨ta, tc, _, _, rfl, i3.grown g5 o3 (by decide), (j3.grown g5 o3 (by decide)), b3.grown g5 b3.size (fun k e => by cases e; omega)⟩
set_option maxHeartbeats 1000000 in
set_option maxRecDepth 100000 in
theorem ofWidth17 (w : World) (a b : Int) (ao : Option Addr) (n cp : Nat) : Calls Tryd.prog 50 #[.agg #[.int .u8 17, .int .i64 a, .int .i64 b, .slice ao n cp]] w (EffRet w ([a, a], [a])) := by
  have ox := Own.new w #[.int .u8 17, .int .i64 a, .int .i64 b, .slice ao n cp] 24
  have bx := new_below w (.cells #[.int .u8 17, .int .i64 a, .int .i64 b, .slice ao n cp] 24)
  go_enter Tryd.func50, Tryd.ntmps50
  go_upto_region 1 with fail
  have ex : (w.alloc (.cells #[.int .u8 17, .int .i64 a, .int .i64 b, .slice ao n cp] 24)).heap.size = w.heap.size + 1 := World.size_alloc _ _
  generalize w.alloc (.cells #[.int .u8 17, .int .i64 a, .int .i64 b, .slice ao n cp] 24) = wx at *
  have o0 := Own.new wx zEff 69
  have bn := new_below wx (.cells zEff 69)
  have ox1 := ox.below bn
  have b0 := bx.trans (bn.mono bx.size)
  rw [ex] at o0
  generalize wx.alloc (.cells zEff 69) = w1 at *
  obtain ⟨x0, x1, x2, x3, xf⟩ := own4 ox1
  clear ox bx bn ex ox1
  go_upto_region 19 with fail
  clear x0 x1 x2 x3 xf
  go_wp2_with fail
  refine (takeL (B := w.heap.size) b0.size [a, a] (by simp)).mono ?_
  rintro e w2 ⟨ta, tc, rfl, i2, k2⟩
  have o2 := o0.below (k2.mono (Nat.le_refl _))
  have b2 := b0.trans (k2.mono b0.size)
  clear o0 b0 k2
  go_wp2_with fail
  refine (putL (B := w.heap.size) b2.size i2 [a] (by simp)).mono ?_
  rintro e w3 ⟨pa, pc, rfl, i3, j3, k3⟩
  have o3 := o2.below (k3.mono (Nat.le_refl _))
  have b3 := b2.trans (k3.mono b2.size)
  clear o2 b2 k3 i2
  go_wp2_with (refine wpList_put rfl 69 (.tmp 2) (.tmp 40) rfl rfl (w.heap.size + 1) 0 rfl rfl o3 infoE rfl (by simp) rfl ?_; intro w5 o5 g5)
  refine bodyPost_cell1 (g := (w.heap.size + 1)) (t := 69) rfl rfl rfl o5 Tryd.underlying69 rfl (by kernel_rfl) ?_
  exact ⟨ta, tc, _, _, rfl, i3.grown g5 o3 (by decide), (j3.grown g5 o3 (by decide)), b3.grown g5 b3.size (fun k e => by cases e; omega)⟩
set_option maxHeartbeats 1000000 in
set_option maxRecDepth 100000 in
theorem ofWidth18 (w : World) (a b : Int) (ao : Option Addr) (n cp : Nat) : Calls Tryd.prog 50 #[.agg #[.int .u8 18, .int .i64 a, .int .i64 b, .slice ao n cp]] w (EffRet w ([a, a], [a])) := by
  have ox := Own.new w #[.int .u8 18, .int .i64 a, .int .i64 b, .slice ao n cp] 24
  have bx := new_below w (.cells #[.int .u8 18, .int .i64 a, .int .i64 b, .slice ao n cp] 24)
  go_enter Tryd.func50, Tryd.ntmps50
  go_upto_region 1 with fail
  have ex : (w.alloc (.cells #[.int .u8 18, .int .i64 a, .int .i64 b, .slice ao n cp] 24)).heap.size = w.heap.size + 1 := World.size_alloc _ _
  generalize w.alloc (.cells #[.int .u8 18, .int .i64 a, .int .i64 b, .slice ao n cp] 24) = wx at *
  have o0 := Own.new wx zEff 69
  have bn := new_below wx (.cells zEff 69)
  have ox1 := ox.below bn
  have b0 := bx.trans (bn.mono bx.size)
  rw [ex] at o0
  generalize wx.alloc (.cells zEff 69) = w1 at *
  obtain ⟨x0, x1, x2, x3, xf⟩ := own4 ox1
  clear ox bx bn ex ox1
  go_upto_region 19 with fail
  clear x0 x1 x2 x3 xf
  go_wp2_with fail
  refine (takeL (B := w.heap.size) b0.size [a, a] (by simp)).mono ?_
  rintro e w2 ⟨ta, tc, rfl, i2, k2⟩
  have o2 := o0.below (k2.mono (Nat.le_refl _))
  have b2 := b0.trans (k2.mono b0.size)
  clear o0 b0 k2
  go_wp2_with fail
  refine (putL (B := w.heap.size) b2.size i2 [a] (by simp)).mono ?_
  rintro e w3 ⟨pa, pc, rfl, i3, j3, k3⟩
  have o3 := o2.below (k3.mono (Nat.le_refl _))
  have b3 := b2.trans (k3.mono b2.size)
  clear o2 b2 k3 i2
  go_wp2_with (refine wpList_put rfl 69 (.tmp 2) (.tmp 40) rfl rfl (w.heap.size + 1) 0 rfl rfl o3 infoE rfl (by simp) rfl ?_; intro w5 o5 g5)
  refine bodyPost_cell1 (g := (w.heap.size + 1)) (t := 69) rfl rfl rfl o5 Tryd.underlying69 rfl (by kernel_rfl) ?_
  exact ⟨ta, tc, _, _, rfl, i3.grown g5 o3 (by decide), (j3.grown g5 o3 (by decide)), b3.grown g5 b3.size (fun k e => by cases e; omega)⟩
set_option maxHeartbeats 1000000 in
set_option maxRecDepth 100000 in
theorem ofWidth19 (w : World) (a b : Int) (ao : Option Addr) (n cp : Nat) : Calls Tryd.prog 50 #[.agg #[.int .u8 19, .int .i64 a, .int .i64 b, .slice ao n cp]] w (EffRet w ([a, a], [a])) := by
  have ox := Own.new w #[.int .u8 19, .int .i64 a, .int .i64 b, .slice ao n cp] 24
  have bx := new_below w (.cells #[.int .u8 19, .int .i64 a, .int .i64 b, .slice ao n cp] 24)
  go_enter Tryd.func50, Tryd.ntmps50
  go_upto_region 1 with fail
  have ex : (w.alloc (.cells #[.int .u8 19, .int .i64 a, .int .i64 b, .slice ao n cp] 24)).heap.size = w.heap.size + 1 := World.size_alloc _ _
  generalize w.alloc (.cells #[.int .u8 19, .int .i64 a, .int .i64 b, .slice ao n cp] 24) = wx at *
  have o0 := Own.new wx zEff 69
  have bn := new_below wx (.cells zEff 69)
  have ox1 := ox.below bn
  have b0 := bx.trans (bn.mono bx.size)
  rw [ex] at o0
  generalize wx.alloc (.cells zEff 69) = w1 at *
  obtain ⟨x0, x1, x2, x3, xf⟩ := own4 ox1
  clear ox bx bn ex ox1
  go_upto_region 19 with fail
  clear x0 x1 x2 x3 xf
  go_wp2_with fail
  refine (takeL (B := w.heap.size) b0.size [a, a] (by simp)).mono ?_
  rintro e w2 ⟨ta, tc, rfl, i2, k2⟩
  have o2 := o0.below (k2.mono (Nat.le_refl _))
  have b2 := b0.trans (k2.mono b0.size)
  clear o0 b0 k2
  go_wp2_with fail
  refine (putL (B := w.heap.size) b2.size i2 [a] (by simp)).mono ?_
  rintro e w3 ⟨pa, pc, rfl, i3, j3, k3⟩
  have o3 := o2.below (k3.mono (Nat.le_refl _))
  have b3 := b2.trans (k3.mono b2.size)
  clear o2 b2 k3 i2
  go_wp2_with (refine wpList_put rfl 69 (.tmp 2) (.tmp 40) rfl rfl (w.heap.size + 1) 0 rfl rfl o3 infoE rfl (by simp) rfl ?_; intro w5 o5 g5)
  refine bodyPost_cell1 (g := (w.heap.size + 1)) (t := 69) rfl rfl rfl o5 Tryd.underlying69 rfl (by kernel_rfl) ?_
  exact ⟨ta, tc, _, _, rfl, i3.grown g5 o3 (by decide), (j3.grown g5 o3 (by decide)), b3.grown g5 b3.size (fun k e => by cases e; omega)⟩
set_option maxHeartbeats 1000000 in
set_option maxRecDepth 100000 in
theorem ofWidth20 (w : World) (a b : Int) (ao : Option Addr) (n cp : Nat) : Calls Tryd.prog 50 #[.agg #[.int .u8 20, .int .i64 a, .int .i64 b, .slice ao n cp]] w (EffRet w ([a, a], [a])) := by
  have ox := Own.new w #[.int .u8 20, .int .i64 a, .int .i64 b, .slice ao n cp] 24
  have bx := new_below w (.cells #[.int .u8 20, .int .i64 a, .int .i64 b, .slice ao n cp] 24)
  go_enter Tryd.func50, Tryd.ntmps50
  go_upto_region 1 with fail
  have ex : (w.alloc (.cells #[.int .u8 20, .int .i64 a, .int .i64 b, .slice ao n cp] 24)).heap.size = w.heap.size + 1 := World.size_alloc _ _
  generalize w.alloc (.cells #[.int .u8 20, .int .i64 a, .int .i64 b, .slice ao n cp] 24) = wx at *
  have o0 := Own.new wx zEff 69
  have bn := new_below wx (.cells zEff 69)
  have ox1 := ox.below bn
  have b0 := bx.trans (bn.mono bx.size)
  rw [ex] at o0
  generalize wx.alloc (.cells zEff 69) = w1 at *
  obtain ⟨x0, x1, x2, x3, xf⟩ := own4 ox1
  clear ox bx bn ex ox1
  go_upto_region 19 with fail
  clear x0 x1 x2 x3 xf
  go_wp2_with fail
  refine (takeL (B := w.heap.size) b0.size [a, a] (by simp)).mono ?_
  rintro e w2 ⟨ta, tc, rfl, i2, k2⟩
  have o2 := o0.below (k2.mono (Nat.le_refl _))
  have b2 := b0.trans (k2.mono b0.size)
  clear o0 b0 k2
  go_wp2_with fail
  refine (putL (B := w.heap.size) b2.size i2 [a] (by simp)).mono ?_
  rintro e w3 ⟨pa, pc, rfl, i3, j3, k3⟩
  have o3 := o2.below (k3.mono (Nat.le_refl _))
  have b3 := b2.trans (k3.mono b2.size)
  clear o2 b2 k3 i2
  go_wp2_with (refine wpList_put rfl 69 (.tmp 2) (.tmp 40) rfl rfl (w.heap.size + 1) 0 rfl rfl o3 infoE rfl (by simp) rfl ?_; intro w5 o5 g5)
  refine bodyPost_cell1 (g := (w.heap.size + 1)) (t := 69) rfl rfl rfl o5 Tryd.underlying69 rfl (by kernel_rfl) ?_
  exact ⟨ta, tc, _, _, rfl, i3.grown g5 o3 (by decide), (j3.grown g5 o3 (by decide)), b3.grown g5 b3.size (fun k e => by cases e; omega)⟩
set_option maxHeartbeats 1000000 in
set_option maxRecDepth 100000 in
theorem ofWidth21 (w : World) (a b : Int) (ao : Option Addr) (n cp : Nat) : Calls Tryd.prog 50 #[.agg #[.int .u8 21, .int .i64 a, .int .i64 b, .slice ao n cp]] w (EffRet w ([a], [a])) := by
  have ox := Own.new w #[.int .u8 21, .int .i64 a, .int .i64 b, .slice ao n cp] 24
  have bx := new_below w (.cells #[.int .u8 21, .int .i64 a, .int .i64 b, .slice ao n cp] 24)
  go_enter Tryd.func50, Tryd.ntmps50
  go_upto_region 1 with fail
  have ex : (w.alloc (.cells #[.int .u8 21, .int .i64 a, .int .i64 b, .slice ao n cp] 24)).heap.size = w.heap.size + 1 := World.size_alloc _ _
  generalize w.alloc (.cells #[.int .u8 21, .int .i64 a, .int .i64 b, .slice ao n cp] 24) = wx at *
  have o0 := Own.new wx zEff 69
  have bn := new_below wx (.cells zEff 69)
  have ox1 := ox.below bn
  have b0 := bx.trans (bn.mono bx.size)
  rw [ex] at o0
  generalize wx.alloc (.cells zEff 69) = w1 at *
  obtain ⟨x0, x1, x2, x3, xf⟩ := own4 ox1
  clear ox bx bn ex ox1
  go_upto_region 22 with fail
  clear x0 x1 x2 x3 xf
  go_wp2_with fail
  refine (takeL (B := w.heap.size) b0.size [a] (by simp)).mono ?_
  rintro e w2 ⟨ta, tc, rfl, i2, k2⟩
  have o2 := o0.below (k2.mono (Nat.le_refl _))
  have b2 := b0.trans (k2.mono b0.size)
  clear o0 b0 k2
  go_wp2_with fail
  refine (putL (B := w.heap.size) b2.size i2 [a] (by simp)).mono ?_
  rintro e w3 ⟨pa, pc, rfl, i3, j3, k3⟩
  have o3 := o2.below (k3.mono (Nat.le_refl _))
  have b3 := b2.trans (k3.mono b2.size)
  clear o2 b2 k3 i2
  go_wp2_with (refine wpList_put rfl 69 (.tmp 2) (.tmp 49) rfl rfl (w.heap.size + 1) 0 rfl rfl o3 infoE rfl (by simp) rfl ?_; intro w5 o5 g5)
  refine bodyPost_cell1 (g := (w.heap.size + 1)) (t := 69) rfl rfl rfl o5 Tryd.underlying69 rfl (by kernel_rfl) ?_
  exact ⟨ta, tc, _, _, rfl, i3.grown g5 o3 (by decide), (j3.grown g5 o3 (by decide)), b3.grown g5 b3.size (fun k e => by cases e; omega)⟩
set_option maxHeartbeats 1000000 in
set_option maxRecDepth 100000 in
theorem ofWidth22 (w : World) (a b : Int) (ao : Option Addr) (n cp : Nat) : Calls Tryd.prog 50 #[.agg #[.int .u8 22, .int .i64 a, .int .i64 b, .slice ao n cp]] w (EffRet w ([a], [a])) := by
  have ox := Own.new w #[.int .u8 22, .int .i64 a, .int .i64 b, .slice ao n cp] 24
  have bx := new_below w (.cells #[.int .u8 22, .int .i64 a, .int .i64 b, .slice ao n cp] 24)
  go_enter Tryd.func50, Tryd.ntmps50
  go_upto_region 1 with fail
  have ex : (w.alloc (.cells #[.int .u8 22, .int .i64 a, .int .i64 b, .slice ao n cp] 24)).heap.size = w.heap.size + 1 := World.size_alloc _ _
  generalize w.alloc (.cells #[.int .u8 22, .int .i64 a, .int .i64 b, .slice ao n cp] 24) = wx at *
  have o0 := Own.new wx zEff 69
  have bn := new_below wx (.cells zEff 69)
  have ox1 := ox.below bn
  have b0 := bx.trans (bn.mono bx.size)
  rw [ex] at o0
  generalize wx.alloc (.cells zEff 69) = w1 at *
  obtain ⟨x0, x1, x2, x3, xf⟩ := own4 ox1
  clear ox bx bn ex ox1
  go_upto_region 22 with fail
  clear x0 x1 x2 x3 xf
  go_wp2_with fail
  refine (takeL (B := w.heap.size) b0.size [a] (by simp)).mono ?_
  rintro e w2 ⟨ta, tc, rfl, i2, k2⟩
  have o2 := o0.below (k2.mono (Nat.le_refl _))
  have b2 := b0.trans (k2.mono b0.size)
  clear o0 b0 k2
  go_wp2_with fail
  refine (putL (B := w.heap.size) b2.size i2 [a] (by simp)).mono ?_
  rintro e w3 ⟨pa, pc, rfl, i3, j3, k3⟩
  have o3 := o2.below (k3.mono (Nat.le_refl _))
  have b3 := b2.trans (k3.mono b2.size)
  clear o2 b2 k3 i2
  go_wp2_with (refine wpList_put rfl 69 (.tmp 2) (.tmp 49) rfl rfl (w.heap.size + 1) 0 rfl rfl o3 infoE rfl (by simp) rfl ?_; intro w5 o5 g5)
  refine bodyPost_cell1 (g := (w.heap.size + 1)) (t := 69) rfl rfl rfl o5 Tryd.underlying69 rfl (by kernel_rfl) ?_
  exact ⟨ta, tc, _, _, rfl, i3.grown g5 o3 (by decide), (j3.grown g5 o3 (by decide)), b3.grown g5 b3.size (fun k e => by cases e; omega)⟩
set_option maxHeartbeats 1000000 in
set_option maxRecDepth 100000 in
theorem ofWidth23 (w : World) (a b : Int) (ao : Option Addr) (n cp : Nat) : Calls Tryd.prog 50 #[.agg #[.int .u8 23, .int .i64 a, .int .i64 b, .slice ao n cp]] w (EffRet w ([a, a], [4])) := by
  have ox := Own.new w #[.int .u8 23, .int .i64 a, .int .i64 b, .slice ao n cp] 24
  have bx := new_below w (.cells #[.int .u8 23, .int .i64 a, .int .i64 b, .slice ao n cp] 24)
  go_enter Tryd.func50, Tryd.ntmps50
  go_upto_region 1 with fail
  have ex : (w.alloc (.cells #[.int .u8 23, .int .i64 a, .int .i64 b, .slice ao n cp] 24)).heap.size = w.heap.size + 1 := World.size_alloc _ _
  generalize w.alloc (.cells #[.int .u8 23, .int .i64 a, .int .i64 b, .slice ao n cp] 24) = wx at *
  have o0 := Own.new wx zEff 69
  have bn := new_below wx (.cells zEff 69)
  have ox1 := ox.below bn
  have b0 := bx.trans (bn.mono bx.size)
  rw [ex] at o0
  generalize wx.alloc (.cells zEff 69) = w1 at *
  obtain ⟨x0, x1, x2, x3, xf⟩ := own4 ox1
  clear ox bx bn ex ox1
  go_upto_region 29 with fail
  clear x0 x1 x2 x3 xf
  go_wp2_with fail
  refine (takeL (B := w.heap.size) b0.size [a, a] (by simp)).mono ?_
  rintro e w2 ⟨ta, tc, rfl, i2, k2⟩
  have o2 := o0.below (k2.mono (Nat.le_refl _))
  have b2 := b0.trans (k2.mono b0.size)
  clear o0 b0 k2
  go_wp2_with fail
  refine (putL (B := w.heap.size) b2.size i2 [4] (by simp)).mono ?_
  rintro e w3 ⟨pa, pc, rfl, i3, j3, k3⟩
  have o3 := o2.below (k3.mono (Nat.le_refl _))
  have b3 := b2.trans (k3.mono b2.size)
  clear o2 b2 k3 i2
  go_wp2_with (refine wpList_put rfl 69 (.tmp 2) (.tmp 62) rfl rfl (w.heap.size + 1) 0 rfl rfl o3 infoE rfl (by simp) rfl ?_; intro w5 o5 g5)
  refine bodyPost_cell1 (g := (w.heap.size + 1)) (t := 69) rfl rfl rfl o5 Tryd.underlying69 rfl (by kernel_rfl) ?_
  exact ⟨ta, tc, _, _, rfl, i3.grown g5 o3 (by decide), (j3.grown g5 o3 (by decide)), b3.grown g5 b3.size (fun k e => by cases e; omega)⟩
set_option maxHeartbeats 1000000 in
set_option maxRecDepth 100000 in
theorem ofWidth24 (w : World) (a b : Int) (ao : Option Addr) (n cp : Nat) : Calls Tryd.prog 50 #[.agg #[.int .u8 24, .int .i64 a, .int .i64 b, .slice ao n cp]] w (EffRet w ([a, a], [4])) := by
  have ox := Own.new w #[.int .u8 24, .int .i64 a, .int .i64 b, .slice ao n cp] 24
  have bx := new_below w (.cells #[.int .u8 24, .int .i64 a, .int .i64 b, .slice ao n cp] 24)
  go_enter Tryd.func50, Tryd.ntmps50
  go_upto_region 1 with fail
  have ex : (w.alloc (.cells #[.int .u8 24, .int .i64 a, .int .i64 b, .slice ao n cp] 24)).heap.size = w.heap.size + 1 := World.size_alloc _ _
  generalize w.alloc (.cells #[.int .u8 24, .int .i64 a, .int .i64 b, .slice ao n cp] 24) = wx at *
  have o0 := Own.new wx zEff 69
  have bn := new_below wx (.cells zEff 69)
  have ox1 := ox.below bn
  have b0 := bx.trans (bn.mono bx.size)
  rw [ex] at o0
  generalize wx.alloc (.cells zEff 69) = w1 at *
  obtain ⟨x0, x1, x2, x3, xf⟩ := own4 ox1
  clear ox bx bn ex ox1
  go_upto_region 29 with fail
  clear x0 x1 x2 x3 xf
  go_wp2_with fail
  refine (takeL (B := w.heap.size) b0.size [a, a] (by simp)).mono ?_
  rintro e w2 ⟨ta, tc, rfl, i2, k2⟩
  have o2 := o0.below (k2.mono (Nat.le_refl _))
  have b2 := b0.trans (k2.mono b0.size)
  clear o0 b0 k2
  go_wp2_with fail
  refine (putL (B := w.heap.size) b2.size i2 [4] (by simp)).mono ?_
  rintro e w3 ⟨pa, pc, rfl, i3, j3, k3⟩
  have o3 := o2.below (k3.mono (Nat.le_refl _))
  have b3 := b2.trans (k3.mono b2.size)
  clear o2 b2 k3 i2
  go_wp2_with (refine wpList_put rfl 69 (.tmp 2) (.tmp 62) rfl rfl (w.heap.size + 1) 0 rfl rfl o3 infoE rfl (by simp) rfl ?_; intro w5 o5 g5)
  refine bodyPost_cell1 (g := (w.heap.size + 1)) (t := 69) rfl rfl rfl o5 Tryd.underlying69 rfl (by kernel_rfl) ?_
  exact ⟨ta, tc, _, _, rfl, i3.grown g5 o3 (by decide), (j3.grown g5 o3 (by decide)), b3.grown g5 b3.size (fun k e => by cases e; omega)⟩
set_option maxHeartbeats 1000000 in
set_option maxRecDepth 100000 in
theorem ofWidth25 (w : World) (a b : Int) (ao : Option Addr) (n cp : Nat) : Calls Tryd.prog 50 #[.agg #[.int .u8 25, .int .i64 a, .int .i64 b, .slice ao n cp]] w (EffRet w ([a, a], [4])) := by
  have ox := Own.new w #[.int .u8 25, .int .i64 a, .int .i64 b, .slice ao n cp] 24
  have bx := new_below w (.cells #[.int .u8 25, .int .i64 a, .int .i64 b, .slice ao n cp] 24)
  go_enter Tryd.func50, Tryd.ntmps50
  go_upto_region 1 with fail
  have ex : (w.alloc (.cells #[.int .u8 25, .int .i64 a, .int .i64 b, .slice ao n cp] 24)).heap.size = w.heap.size + 1 := World.size_alloc _ _
  generalize w.alloc (.cells #[.int .u8 25, .int .i64 a, .int .i64 b, .slice ao n cp] 24) = wx at *
  have o0 := Own.new wx zEff 69
  have bn := new_below wx (.cells zEff 69)
  have ox1 := ox.below bn
  have b0 := bx.trans (bn.mono bx.size)
  rw [ex] at o0
  generalize wx.alloc (.cells zEff 69) = w1 at *
  obtain ⟨x0, x1, x2, x3, xf⟩ := own4 ox1
  clear ox bx bn ex ox1
  go_upto_region 29 with fail
  clear x0 x1 x2 x3 xf
  go_wp2_with fail
  refine (takeL (B := w.heap.size) b0.size [a, a] (by simp)).mono ?_
  rintro e w2 ⟨ta, tc, rfl, i2, k2⟩
  have o2 := o0.below (k2.mono (Nat.le_refl _))
  have b2 := b0.trans (k2.mono b0.size)
  clear o0 b0 k2
  go_wp2_with fail
  refine (putL (B := w.heap.size) b2.size i2 [4] (by simp)).mono ?_
  rintro e w3 ⟨pa, pc, rfl, i3, j3, k3⟩
  have o3 := o2.below (k3.mono (Nat.le_refl _))
  have b3 := b2.trans (k3.mono b2.size)
  clear o2 b2 k3 i2
  go_wp2_with (refine wpList_put rfl 69 (.tmp 2) (.tmp 62) rfl rfl (w.heap.size + 1) 0 rfl rfl o3 infoE rfl (by simp) rfl ?_; intro w5 o5 g5)
  refine bodyPost_cell1 (g := (w.heap.size + 1)) (t := 69) rfl rfl rfl o5 Tryd.underlying69 rfl (by kernel_rfl) ?_
  exact ⟨ta, tc, _, _, rfl, i3.grown g5 o3 (by decide), (j3.grown g5 o3 (by decide)), b3.grown g5 b3.size (fun k e => by cases e; omega)⟩
set_option maxHeartbeats 1000000 in
set_option maxRecDepth 100000 in
theorem ofWidth26 (w : World) (a b : Int) (ao : Option Addr) (n cp : Nat) : Calls Tryd.prog 50 #[.agg #[.int .u8 26, .int .i64 a, .int .i64 b, .slice ao n cp]] w (EffRet w ([a, a], [4])) := by
  have ox := Own.new w #[.int .u8 26, .int .i64 a, .int .i64 b, .slice ao n cp] 24
  have bx := new_below w (.cells #[.int .u8 26, .int .i64 a, .int .i64 b, .slice ao n cp] 24)
  go_enter Tryd.func50, Tryd.ntmps50
  go_upto_region 1 with fail
  have ex : (w.alloc (.cells #[.int .u8 26, .int .i64 a, .int .i64 b, .slice ao n cp] 24)).heap.size = w.heap.size + 1 := World.size_alloc _ _
  generalize w.alloc (.cells #[.int .u8 26, .int .i64 a, .int .i64 b, .slice ao n cp] 24) = wx at *
  have o0 := Own.new wx zEff 69
  have bn := new_below wx (.cells zEff 69)
  have ox1 := ox.below bn
  have b0 := bx.trans (bn.mono bx.size)
  rw [ex] at o0
  generalize wx.alloc (.cells zEff 69) = w1 at *
  obtain ⟨x0, x1, x2, x3, xf⟩ := own4 ox1
  clear ox bx bn ex ox1
  go_upto_region 29 with fail
  clear x0 x1 x2 x3 xf
  go_wp2_with fail
  refine (takeL (B := w.heap.size) b0.size [a, a] (by simp)).mono ?_
  rintro e w2 ⟨ta, tc, rfl, i2, k2⟩
  have o2 := o0.below (k2.mono (Nat.le_refl _))
  have b2 := b0.trans (k2.mono b0.size)
  clear o0 b0 k2
  go_wp2_with fail
  refine (putL (B := w.heap.size) b2.size i2 [4] (by simp)).mono ?_
  rintro e w3 ⟨pa, pc, rfl, i3, j3, k3⟩
  have o3 := o2.below (k3.mono (Nat.le_refl _))
  have b3 := b2.trans (k3.mono b2.size)
  clear o2 b2 k3 i2
  go_wp2_with (refine wpList_put rfl 69 (.tmp 2) (.tmp 62) rfl rfl (w.heap.size + 1) 0 rfl rfl o3 infoE rfl (by simp) rfl ?_; intro w5 o5 g5)
  refine bodyPost_cell1 (g := (w.heap.size + 1)) (t := 69) rfl rfl rfl o5 Tryd.underlying69 rfl (by kernel_rfl) ?_
  exact ⟨ta, tc, _, _, rfl, i3.grown g5 o3 (by decide), (j3.grown g5 o3 (by decide)), b3.grown g5 b3.size (fun k e => by cases e; omega)⟩
set_option maxHeartbeats 1000000 in
set_option maxRecDepth 100000 in
theorem ofWidth27 (w : World) (a b : Int) (ao : Option Addr) (n cp : Nat) : Calls Tryd.prog 50 #[.agg #[.int .u8 27, .int .i64 a, .int .i64 b, .slice ao n cp]] w (EffRet w ([a, a], [4])) := by
  have ox := Own.new w #[.int .u8 27, .int .i64 a, .int .i64 b, .slice ao n cp] 24
  have bx := new_below w (.cells #[.int .u8 27, .int .i64 a, .int .i64 b, .slice ao n cp] 24)
  go_enter Tryd.func50, Tryd.ntmps50
  go_upto_region 1 with fail
  have ex : (w.alloc (.cells #[.int .u8 27, .int .i64 a, .int .i64 b, .slice ao n cp] 24)).heap.size = w.heap.size + 1 := World.size_alloc _ _
  generalize w.alloc (.cells #[.int .u8 27, .int .i64 a, .int .i64 b, .slice ao n cp] 24) = wx at *
  have o0 := Own.new wx zEff 69
  have bn := new_below wx (.cells zEff 69)
  have ox1 := ox.below bn
  have b0 := bx.trans (bn.mono bx.size)
  rw [ex] at o0
  generalize wx.alloc (.cells zEff 69) = w1 at *
  obtain ⟨x0, x1, x2, x3, xf⟩ := own4 ox1
  clear ox bx bn ex ox1
  go_upto_region 29 with fail
  clear x0 x1 x2 x3 xf
  go_wp2_with fail
  refine (takeL (B := w.heap.size) b0.size [a, a] (by simp)).mono ?_
  rintro e w2 ⟨ta, tc, rfl, i2, k2⟩
  have o2 := o0.below (k2.mono (Nat.le_refl _))
  have b2 := b0.trans (k2.mono b0.size)
  clear o0 b0 k2
  go_wp2_with fail
  refine (putL (B := w.heap.size) b2.size i2 [4] (by simp)).mono ?_
  rintro e w3 ⟨pa, pc, rfl, i3, j3, k3⟩
  have o3 := o2.below (k3.mono (Nat.le_refl _))
  have b3 := b2.trans (k3.mono b2.size)
  clear o2 b2 k3 i2
  go_wp2_with (refine wpList_put rfl 69 (.tmp 2) (.tmp 62) rfl rfl (w.heap.size + 1) 0 rfl rfl o3 infoE rfl (by simp) rfl ?_; intro w5 o5 g5)
  refine bodyPost_cell1 (g := (w.heap.size + 1)) (t := 69) rfl rfl rfl o5 Tryd.underlying69 rfl (by kernel_rfl) ?_
  exact ⟨ta, tc, _, _, rfl, i3.grown g5 o3 (by decide), (j3.grown g5 o3 (by decide)), b3.grown g5 b3.size (fun k e => by cases e; omega)⟩
set_option maxHeartbeats 1000000 in
set_option maxRecDepth 100000 in
theorem ofWidth28 (w : World) (a b : Int) (ao : Option Addr) (n cp : Nat) : Calls Tryd.prog 50 #[.agg #[.int .u8 28, .int .i64 a, .int .i64 b, .slice ao n cp]] w (EffRet w ([a, a], [4])) := by
  have ox := Own.new w #[.int .u8 28, .int .i64 a, .int .i64 b, .slice ao n cp] 24
  have bx := new_below w (.cells #[.int .u8 28, .int .i64 a, .int .i64 b, .slice ao n cp] 24)
  go_enter Tryd.func50, Tryd.ntmps50
  go_upto_region 1 with fail
  have ex : (w.alloc (.cells #[.int .u8 28, .int .i64 a, .int .i64 b, .slice ao n cp] 24)).heap.size = w.heap.size + 1 := World.size_alloc _ _
  generalize w.alloc (.cells #[.int .u8 28, .int .i64 a, .int .i64 b, .slice ao n cp] 24) = wx at *
  have o0 := Own.new wx zEff 69
  have bn := new_below wx (.cells zEff 69)
  have ox1 := ox.below bn
  have b0 := bx.trans (bn.mono bx.size)
  rw [ex] at o0
  generalize wx.alloc (.cells zEff 69) = w1 at *
  obtain ⟨x0, x1, x2, x3, xf⟩ := own4 ox1
  clear ox bx bn ex ox1
  go_upto_region 29 with fail
  clear x0 x1 x2 x3 xf
  go_wp2_with fail
  refine (takeL (B := w.heap.size) b0.size [a, a] (by simp)).mono ?_
  rintro e w2 ⟨ta, tc, rfl, i2, k2⟩
  have o2 := o0.below (k2.mono (Nat.le_refl _))
  have b2 := b0.trans (k2.mono b0.size)
  clear o0 b0 k2
  go_wp2_with fail
  refine (putL (B := w.heap.size) b2.size i2 [4] (by simp)).mono ?_
  rintro e w3 ⟨pa, pc, rfl, i3, j3, k3⟩
  have o3 := o2.below (k3.mono (Nat.le_refl _))
  have b3 := b2.trans (k3.mono b2.size)
  clear o2 b2 k3 i2
  go_wp2_with (refine wpList_put rfl 69 (.tmp 2) (.tmp 62) rfl rfl (w.heap.size + 1) 0 rfl rfl o3 infoE rfl (by simp) rfl ?_; intro w5 o5 g5)
  refine bodyPost_cell1 (g := (w.heap.size + 1)) (t := 69) rfl rfl rfl o5 Tryd.underlying69 rfl (by kernel_rfl) ?_
  exact ⟨ta, tc, _, _, rfl, i3.grown g5 o3 (by decide), (j3.grown g5 o3 (by decide)), b3.grown g5 b3.size (fun k e => by cases e; omega)⟩
set_option maxHeartbeats 1000000 in
set_option maxRecDepth 100000 in
theorem ofWidth46 (w : World) (a b : Int) (ao : Option Addr) (n cp : Nat) : Calls Tryd.prog 50 #[.agg #[.int .u8 46, .int .i64 a, .int .i64 b, .slice ao n cp]] w (EffRet w ([], [])) := by
  have ox := Own.new w #[.int .u8 46, .int .i64 a, .int .i64 b, .slice ao n cp] 24
  have bx := new_below w (.cells #[.int .u8 46, .int .i64 a, .int .i64 b, .slice ao n cp] 24)
  go_enter Tryd.func50, Tryd.ntmps50
  go_upto_region 1 with fail
  have ex : (w.alloc (.cells #[.int .u8 46, .int .i64 a, .int .i64 b, .slice ao n cp] 24)).heap.size = w.heap.size + 1 := World.size_alloc _ _
  generalize w.alloc (.cells #[.int .u8 46, .int .i64 a, .int .i64 b, .slice ao n cp] 24) = wx at *
  have o0 := Own.new wx zEff 69
  have bn := new_below wx (.cells zEff 69)
  have ox1 := ox.below bn
  have b0 := bx.trans (bn.mono bx.size)
  rw [ex] at o0
  generalize wx.alloc (.cells zEff 69) = w1 at *
  obtain ⟨x0, x1, x2, x3, xf⟩ := own4 ox1
  clear ox bx bn ex ox1
  go_upto_region 34 with fail
  clear x0 x1 x2 x3 xf
  go_wp2_with (refine wpList_put rfl 69 (.tmp 2) (.tmp 77) rfl rfl (w.heap.size + 1) 0 rfl rfl o0 infoE rfl (by simp) rfl ?_; intro w5 o5 g5)
  refine bodyPost_cell1 (g := w.heap.size + 1) (t := 69) rfl rfl rfl o5 Tryd.underlying69 rfl (by kernel_rfl) ?_
  exact ⟨_, _, _, _, rfl, IntNew.nil _ _, IntNew.nil _ _, b0.grown g5 b0.size (fun k e => by cases e; omega)⟩
set_option maxHeartbeats 1000000 in
set_option maxRecDepth 100000 in
theorem ofWidth49 (w : World) (a b : Int) (ao : Option Addr) (n cp : Nat) : Calls Tryd.prog 50 #[.agg #[.int .u8 49, .int .i64 a, .int .i64 b, .slice ao n cp]] w (EffRet w ([a], [])) := by
  have ox := Own.new w #[.int .u8 49, .int .i64 a, .int .i64 b, .slice ao n cp] 24
  have bx := new_below w (.cells #[.int .u8 49, .int .i64 a, .int .i64 b, .slice ao n cp] 24)
  go_enter Tryd.func50, Tryd.ntmps50
  go_upto_region 1 with fail
  have ex : (w.alloc (.cells #[.int .u8 49, .int .i64 a, .int .i64 b, .slice ao n cp] 24)).heap.size = w.heap.size + 1 := World.size_alloc _ _
  generalize w.alloc (.cells #[.int .u8 49, .int .i64 a, .int .i64 b, .slice ao n cp] 24) = wx at *
  have o0 := Own.new wx zEff 69
  have bn := new_below wx (.cells zEff 69)
  have ox1 := ox.below bn
  have b0 := bx.trans (bn.mono bx.size)
  rw [ex] at o0
  generalize wx.alloc (.cells zEff 69) = w1 at *
  obtain ⟨x0, x1, x2, x3, xf⟩ := own4 ox1
  clear ox bx bn ex ox1
  go_upto_region 33 with fail
  clear x0 x1 x2 x3 xf
  go_wp2_with fail
  refine (takeL (B := w.heap.size) b0.size [a] (by simp)).mono ?_
  rintro e w2 ⟨ta, tc, rfl, i2, k2⟩
  have o2 := o0.below (k2.mono (Nat.le_refl _))
  have b2 := b0.trans (k2.mono b0.size)
  clear o0 b0 k2
  go_wp2_with (refine wpList_put rfl 69 (.tmp 2) (.tmp 76) rfl rfl (w.heap.size + 1) 0 rfl rfl o2 infoE rfl (by simp) rfl ?_; intro w5 o5 g5)
  refine bodyPost_cell1 (g := (w.heap.size + 1)) (t := 69) rfl rfl rfl o5 Tryd.underlying69 rfl (by kernel_rfl) ?_
  exact ⟨ta, tc, _, _, rfl, i2.grown g5 o2 (by decide), (IntNew.nil _ _), b2.grown g5 b2.size (fun k e => by cases e; omega)⟩
set_option maxHeartbeats 1000000 in
set_option maxRecDepth 100000 in
theorem ofWidth51 (w : World) (a b : Int) (ao : Option Addr) (n cp : Nat) : Calls Tryd.prog 50 #[.agg #[.int .u8 51, .int .i64 a, .int .i64 b, .slice ao n cp]] w (EffRet w ([], [])) := by
  have ox := Own.new w #[.int .u8 51, .int .i64 a, .int .i64 b, .slice ao n cp] 24
  have bx := new_below w (.cells #[.int .u8 51, .int .i64 a, .int .i64 b, .slice ao n cp] 24)
  go_enter Tryd.func50, Tryd.ntmps50
  go_upto_region 1 with fail
  have ex : (w.alloc (.cells #[.int .u8 51, .int .i64 a, .int .i64 b, .slice ao n cp] 24)).heap.size = w.heap.size + 1 := World.size_alloc _ _
  generalize w.alloc (.cells #[.int .u8 51, .int .i64 a, .int .i64 b, .slice ao n cp] 24) = wx at *
  have o0 := Own.new wx zEff 69
  have bn := new_below wx (.cells zEff 69)
  have ox1 := ox.below bn
  have b0 := bx.trans (bn.mono bx.size)
  rw [ex] at o0
  generalize wx.alloc (.cells zEff 69) = w1 at *
  obtain ⟨x0, x1, x2, x3, xf⟩ := own4 ox1
  clear ox bx bn ex ox1
  go_upto_region 34 with fail
  clear x0 x1 x2 x3 xf
  go_wp2_with (refine wpList_put rfl 69 (.tmp 2) (.tmp 77) rfl rfl (w.heap.size + 1) 0 rfl rfl o0 infoE rfl (by simp) rfl ?_; intro w5 o5 g5)
  refine bodyPost_cell1 (g := w.heap.size + 1) (t := 69) rfl rfl rfl o5 Tryd.underlying69 rfl (by kernel_rfl) ?_
  exact ⟨_, _, _, _, rfl, IntNew.nil _ _, IntNew.nil _ _, b0.grown g5 b0.size (fun k e => by cases e; omega)⟩
set_option maxHeartbeats 1000000 in
set_option maxRecDepth 100000 in
theorem ofWidth52 (w : World) (a b : Int) (ao : Option Addr) (n cp : Nat) : Calls Tryd.prog 50 #[.agg #[.int .u8 52, .int .i64 a, .int .i64 b, .slice ao n cp]] w (EffRet w ([], [])) := by
  have ox := Own.new w #[.int .u8 52, .int .i64 a, .int .i64 b, .slice ao n cp] 24
  have bx := new_below w (.cells #[.int .u8 52, .int .i64 a, .int .i64 b, .slice ao n cp] 24)
  go_enter Tryd.func50, Tryd.ntmps50
  go_upto_region 1 with fail
  have ex : (w.alloc (.cells #[.int .u8 52, .int .i64 a, .int .i64 b, .slice ao n cp] 24)).heap.size = w.heap.size + 1 := World.size_alloc _ _
  generalize w.alloc (.cells #[.int .u8 52, .int .i64 a, .int .i64 b, .slice ao n cp] 24) = wx at *
  have o0 := Own.new wx zEff 69
  have bn := new_below wx (.cells zEff 69)
  have ox1 := ox.below bn
  have b0 := bx.trans (bn.mono bx.size)
  rw [ex] at o0
  generalize wx.alloc (.cells zEff 69) = w1 at *
  obtain ⟨x0, x1, x2, x3, xf⟩ := own4 ox1
  clear ox bx bn ex ox1
  go_upto_region 34 with fail
  clear x0 x1 x2 x3 xf
  go_wp2_with (refine wpList_put rfl 69 (.tmp 2) (.tmp 77) rfl rfl (w.heap.size + 1) 0 rfl rfl o0 infoE rfl (by simp) rfl ?_; intro w5 o5 g5)
  refine bodyPost_cell1 (g := w.heap.size + 1) (t := 69) rfl rfl rfl o5 Tryd.underlying69 rfl (by kernel_rfl) ?_
  exact ⟨_, _, _, _, rfl, IntNew.nil _ _, IntNew.nil _ _, b0.grown g5 b0.size (fun k e => by cases e; omega)⟩
end Go.Proofs.YtjfdlphkmpkjdaaDoor
namespace Go.Proofs.YtjfdlphkmpkjdaaDoor
open Go.RowKit
set_option linter.unusedVariables false

theorem flCells {w : World} {a : Option Addr} {fs : List Fl} (h : RowAt w a 2 fs.length (flF fs)) {i : Nat} (hi : i < fs.length) (t : Fl) (ht : fs.getD i zFl = t) : ∃ b off, a = some ⟨b, off, none⟩ ∧ w.cell? ⟨b, off + i * 2, none⟩ = some (.string t.name) ∧ w.cell? ⟨b, off + i * 2 + 1, none⟩ = some (.int .i64 t.typ) := by
  obtain ⟨b, off, e, hc⟩ := h.at hi
  subst ht
  exact ⟨b, off, e, hc 0 (by omega), hc 1 (by omega)⟩
theorem intV_app (xs : List Int) (x : Int) : intV (xs ++ [x]) = intV xs ++ [.int .i64 x] := by simp [intV]
structure FtRel (w : World) (g : Nat) (fs : List Fl) (t : TyP) (v i : Value) (wr : World) : Prop where
  ex : ∃ k : Nat, k ≤ fs.length ∧ i = .int .i64 (k : Int) ∧ IntNew wr w.heap.size v ((fs.take k).map Fl.typ)
  own : Own wr g (tyA t) 57
  bel : Below w.heap.size w wr
set_option maxHeartbeats 2000000 in
set_option maxRecDepth 100000 in
theorem fieldTypes_as {w : World} {t : TyP} (ht : TyIn w t) (hs : t.t.fields.length ≤ 1000000) :
    Calls Tryd.prog 71 #[.agg (tyA t)] w fun e w' => ∃ v, e = .returned v ∧ IntNew w' w.heap.size v (t.t.fields.map Fl.typ) ∧ Below w.heap.size w w' := by
  have o0 := Own.new w (tyA t) 57
  have b0 := new_below w (.cells (tyA t) 57)
  have HR : Hid (∀ wr, Below w.heap.size w wr → RowAt wr t.fa 2 t.t.fields.length (flF t.t.fields)) := fun wr h => ht.row.below h
  have HS : Hid (t.t.fields.length ≤ 1000000) := hs
  obtain ⟨n, hn⟩ : ∃ n, n = t.t.fields.length := ⟨_, rfl⟩
  have HN : Hid (n = t.t.fields.length) := hn
  have REL : Hid (FtRel w w.heap.size t.t.fields t (.slice none 0 0) (.int .i64 0) (w.alloc (.cells (tyA t) 57))) := ⟨⟨0, Nat.zero_le _, rfl, IntNew.nil _ _⟩, o0, b0⟩
  have nm : ∀ x, x = t.t.fields.length → n = x := fun x h => by omega
  unfold tyA at o0 b0 REL
  rw [← hn] at o0 b0 REL
  clear ht hs nm
  unfold tyA
  rw [← hn]
  clear hn
  go_enter Tryd.func71, Tryd.ntmps71
  go_upto_region 1 with fail
  generalize w.alloc _ = w1 at *
  obtain ⟨x0, x1, x2, x3, x4, xf⟩ := own5' o0
  go_wp2_with fail
  clear x0 x1 x2 x3 x4 xf o0 b0
  go_loopw [3, 9] (fun v i wr => FtRel w w.heap.size t.t.fields t v i wr) (fun _ i _ => n - (intOf i).toNat)
  case atStart => exact REL.out
  case round =>
    clear REL
    obtain ⟨⟨k, hk, rfl, hi⟩, ho, hb⟩ := hrel
    by_cases hlt : k < n
    · have hka : k < t.t.fields.length := by rw [← HN.out]; exact hlt
      obtain ⟨f, hf⟩ : ∃ f, t.t.fields.getD k zFl = f := ⟨_, rfl⟩
      obtain ⟨b, off, hfa, c0, c1⟩ := flCells (HR.out wr hb) hka f hf
      have HT : Hid ((t.t.fields.take (k + 1)).map Fl.typ = (t.t.fields.take k).map Fl.typ ++ [f.typ]) := by
        unfold Hid
        rw [List.take_succ_eq_append_getElem hka, List.map_append]
        congr 2
        rw [← hf]; simp [List.getD, hka]
      have hlen : ((t.t.fields.take k).map Fl.typ).length = k := by rw [List.length_map, List.length_take]; omega
      have HK : Hid (k ≤ 1000000) := by have := HS.out; unfold Hid; omega
      obtain ⟨nm, ty⟩ := f
      simp only at c0 c1 HT
      have oF := Own.new wr #[.string nm, .int .i64 ty] 54
      have bF := new_below wr (.cells #[.string nm, .int .i64 ty] 54)
      have hiF := hi.below bF
      have hoF := ho.below bF
      have hbF := hb.trans (bF.mono hb.size)
      rw [hfa]
      clear hf hi ho hb bF
      go_upto_region 5 with fail
      clear c0 c1
      generalize wr.alloc (.cells #[.string nm, .int .i64 ty] 54) = w5 at *
      obtain ⟨y0, y1, yf⟩ := own2 oF
      have oI := Own.new w5 #[.int .i64 ty] 3
      have bI := new_below w5 (.cells #[.int .i64 ty] 3)
      have hiI := hiF.below bI
      have hoI := hoF.below bI
      have hbI := hbF.trans (bI.mono hbF.size)
      have rowI := hiI.row
      rw [hlen] at rowI
      have hnew := hiI.new
      have hsI : w.heap.size ≤ w5.heap.size := hbF.size
      obtain ⟨a1, cp1, rfl⟩ := hiI.shape
      rw [hlen] at rowI hnew ⊢
      clear hiF hoF hbF bI hiI oF
      go_wp2_with (refine wpList_app1 okN (by rfl) (.tmp 13) (.tmp 16) (by rfl) _ k (intV ((t.t.fields.take k).map Fl.typ)) (by rfl) rowI w5.heap.size [.int .i64 ty] (by rfl) oI rfl (by simp [Value.oneCell']) (by have := HK.out; omega) ?_; intro ao2 cap2 wz q1 q2 q3)
      have hz : IntNew wz w.heap.size (.slice ao2 (k + 1) cap2) ((t.t.fields.take (k + 1)).map Fl.typ) := by
        refine ⟨?_, fun b q => ?_⟩
        · have e : ((t.t.fields.take (k + 1)).map Fl.typ).length = k + 1 := by rw [List.length_map, List.length_take]; omega
          rw [e, HT.out, intV_app]
          exact q1
        · rcases q3 with q3 | q3
          · exact hnew b (by rw [← q3]; exact q)
          · rw [q3] at q; cases q; exact Nat.le_trans hsI (by simp)
      have ho' := hoI.grown q2 (fun e => rowI.ne hoI (by decide) e.symm)
      have hb' := hbI.grown q2 hbI.size (fun k e => hnew k e)
      have hkk : k ≤ 1000000 := HK.out
      have hw : wrap64 ((k : Int) + 1) = (k : Int) + 1 := by unfold wrap64; omega
      go_roundw
      case rel => exact ⟨⟨k + 1, hka, by rw [hw]; rfl, hz⟩, ho', hb'⟩
      case measure => rw [hw]; simp [intOf]; omega
    · have hkn : k = t.t.fields.length := by have := HN.out; omega
      rw [hkn, List.take_of_length_le (Nat.le_refl _)] at hi
      obtain ⟨a1, cp1, rfl⟩ := hi.shape
      go_wp2
      go_ret
      exact ⟨_, rfl, hi, hb⟩
set_option maxHeartbeats 1000000 in
theorem arraysOf39 (w : World) : Calls Tryd.prog 72 #[.int .u8 39] w fun e w' => ∃ g, e = .returned (.slice (some ⟨g, 0, none⟩) 1 1) ∧ KsAt w' g [7] ∧ Below w.heap.size w w' := by
  have o := Own.new w #[.int .u8 7] 5
  have b := new_below w (.cells #[.int .u8 7] 5)
  go_enter Tryd.func72, Tryd.ntmps72
  go_wp2
  go_ret
  refine ⟨_, rfl, ⟨by simp, by simp, fun i hi => ?_⟩, b⟩
  rw [o.cell]
  simp only [List.length_cons, List.length_nil] at hi
  rcases (show i = 0 ∨ i = 1 by omega) with rfl | rfl <;> first | rfl | omega
set_option maxHeartbeats 1000000 in
theorem arraysOf40 (w : World) : Calls Tryd.prog 72 #[.int .u8 40] w fun e w' => ∃ g, e = .returned (.slice (some ⟨g, 0, none⟩) 1 1) ∧ KsAt w' g [8] ∧ Below w.heap.size w w' := by
  have o := Own.new w #[.int .u8 8] 5
  have b := new_below w (.cells #[.int .u8 8] 5)
  go_enter Tryd.func72, Tryd.ntmps72
  go_wp2
  go_ret
  refine ⟨_, rfl, ⟨by simp, by simp, fun i hi => ?_⟩, b⟩
  rw [o.cell]
  simp only [List.length_cons, List.length_nil] at hi
  rcases (show i = 0 ∨ i = 1 by omega) with rfl | rfl <;> first | rfl | omega
set_option maxHeartbeats 1000000 in
theorem arraysOf41 (w : World) : Calls Tryd.prog 72 #[.int .u8 41] w fun e w' => ∃ g, e = .returned (.slice (some ⟨g, 0, none⟩) 2 2) ∧ KsAt w' g [7, 8] ∧ Below w.heap.size w w' := by
  have o := Own.new w #[.int .u8 7, .int .u8 8] 5
  have b := new_below w (.cells #[.int .u8 7, .int .u8 8] 5)
  go_enter Tryd.func72, Tryd.ntmps72
  go_wp2
  go_ret
  refine ⟨_, rfl, ⟨by simp, by simp, fun i hi => ?_⟩, b⟩
  rw [o.cell]
  simp only [List.length_cons, List.length_nil] at hi
  rcases (show i = 0 ∨ i = 1 by omega) with rfl | rfl <;> first | rfl | omega
set_option maxHeartbeats 1000000 in
theorem arraysOf42 (w : World) : Calls Tryd.prog 72 #[.int .u8 42] w fun e w' => ∃ g, e = .returned (.slice (some ⟨g, 0, none⟩) 2 2) ∧ KsAt w' g [7, 8] ∧ Below w.heap.size w w' := by
  have o := Own.new w #[.int .u8 7, .int .u8 8] 5
  have b := new_below w (.cells #[.int .u8 7, .int .u8 8] 5)
  go_enter Tryd.func72, Tryd.ntmps72
  go_wp2
  go_ret
  refine ⟨_, rfl, ⟨by simp, by simp, fun i hi => ?_⟩, b⟩
  rw [o.cell]
  simp only [List.length_cons, List.length_nil] at hi
  rcases (show i = 0 ∨ i = 1 by omega) with rfl | rfl <;> first | rfl | omega
set_option maxHeartbeats 1000000 in
theorem arraysOf43 (w : World) : Calls Tryd.prog 72 #[.int .u8 43] w fun e w' => ∃ g, e = .returned (.slice (some ⟨g, 0, none⟩) 2 2) ∧ KsAt w' g [7, 8] ∧ Below w.heap.size w w' := by
  have o := Own.new w #[.int .u8 7, .int .u8 8] 5
  have b := new_below w (.cells #[.int .u8 7, .int .u8 8] 5)
  go_enter Tryd.func72, Tryd.ntmps72
  go_wp2
  go_ret
  refine ⟨_, rfl, ⟨by simp, by simp, fun i hi => ?_⟩, b⟩
  rw [o.cell]
  simp only [List.length_cons, List.length_nil] at hi
  rcases (show i = 0 ∨ i = 1 by omega) with rfl | rfl <;> first | rfl | omega
set_option maxHeartbeats 1000000 in
theorem arraysOf44 (w : World) : Calls Tryd.prog 72 #[.int .u8 44] w fun e w' => ∃ g, e = .returned (.slice (some ⟨g, 0, none⟩) 1 1) ∧ KsAt w' g [8] ∧ Below w.heap.size w w' := by
  have o := Own.new w #[.int .u8 8] 5
  have b := new_below w (.cells #[.int .u8 8] 5)
  go_enter Tryd.func72, Tryd.ntmps72
  go_wp2
  go_ret
  refine ⟨_, rfl, ⟨by simp, by simp, fun i hi => ?_⟩, b⟩
  rw [o.cell]
  simp only [List.length_cons, List.length_nil] at hi
  rcases (show i = 0 ∨ i = 1 by omega) with rfl | rfl <;> first | rfl | omega
set_option maxHeartbeats 1000000 in
theorem arraysOf45 (w : World) : Calls Tryd.prog 72 #[.int .u8 45] w fun e w' => ∃ g, e = .returned (.slice (some ⟨g, 0, none⟩) 1 1) ∧ KsAt w' g [8] ∧ Below w.heap.size w w' := by
  have o := Own.new w #[.int .u8 8] 5
  have b := new_below w (.cells #[.int .u8 8] 5)
  go_enter Tryd.func72, Tryd.ntmps72
  go_wp2
  go_ret
  refine ⟨_, rfl, ⟨by simp, by simp, fun i hi => ?_⟩, b⟩
  rw [o.cell]
  simp only [List.length_cons, List.length_nil] at hi
  rcases (show i = 0 ∨ i = 1 by omega) with rfl | rfl <;> first | rfl | omega
end Go.Proofs.YtjfdlphkmpkjdaaDoor
namespace Go.Proofs.YtjfdlphkmpkjdaaDoor
open Go.RowKit
set_option linter.unusedVariables false

/-- What effectOf answers: an effect of the call's own, or that what is named is not there. -/
def OutRet (w : World) (R : Option (List Int × List Int)) (e : Ending) (w' : World) : Prop := match R with
  | none => (∃ ta tn tc pa pn pc, e = .returned (.tuple #[effV (.slice ta tn tc) (.slice pa pn pc), .bool false])) ∧ Below w.heap.size w w'
  | some r => (∃ ta tc pa pc, e = .returned (.tuple #[effV (.slice ta r.1.length tc) (.slice pa r.2.length pc), .bool true]) ∧ IntNew w' w.heap.size (.slice ta r.1.length tc) r.1 ∧ IntNew w' w.heap.size (.slice pa r.2.length pc) r.2) ∧ Below w.heap.size w w'
theorem below_drew1 {B : Nat} {w w1 : World} (h : Below B w w1) : Below B w w1.drew := below_drawn h 1
abbrev roA (r : RoP) : Array Value := #[.string r.r.name, .slice r.pa r.r.params.length r.pc, .slice r.ra r.r.results.length r.rc, .int .i64 r.r.locals, .int .i64 r.r.stack, .slice r.ca r.r.code.length r.cc]
theorem own6 {w : World} {g : Nat} {a0 a1 a2 a3 a4 a5 : Value} {t : TypeId} (h : Own w g #[a0, a1, a2, a3, a4, a5] t) : w.cell? ⟨g, 0, none⟩ = some a0 ∧ w.cell? ⟨g, 1, none⟩ = some a1 ∧ w.cell? ⟨g, 2, none⟩ = some a2 ∧ w.cell? ⟨g, 3, none⟩ = some a3 ∧ w.cell? ⟨g, 4, none⟩ = some a4 ∧ w.cell? ⟨g, 5, none⟩ = some a5 ∧ ∀ j, w.frozen? ⟨g, j, none⟩ = false := ⟨h.cell 0, h.cell 1, h.cell 2, h.cell 3, h.cell 4, h.cell 5, h.froz⟩
theorem roCells {w : World} {a : Option Addr} {fs : List RoP} (h : RowAt w a 6 fs.length (roF fs)) {i : Nat} (hi : i < fs.length) (r : RoP) (hr : fs.getD i zRP = r) : ∃ b off, a = some ⟨b, off, none⟩ ∧ w.cell? ⟨b, off + i * 6, none⟩ = some (.string r.r.name) ∧ w.cell? ⟨b, off + i * 6 + 1, none⟩ = some (.slice r.pa r.r.params.length r.pc) ∧ w.cell? ⟨b, off + i * 6 + 2, none⟩ = some (.slice r.ra r.r.results.length r.rc) ∧ w.cell? ⟨b, off + i * 6 + 3, none⟩ = some (.int .i64 r.r.locals) ∧ w.cell? ⟨b, off + i * 6 + 4, none⟩ = some (.int .i64 r.r.stack) ∧ w.cell? ⟨b, off + i * 6 + 5, none⟩ = some (.slice r.ca r.r.code.length r.cc) := by
  obtain ⟨b, off, e, hc⟩ := h.at hi
  subst hr
  exact ⟨b, off, e, hc 0 (by omega), hc 1 (by omega), hc 2 (by omega), hc 3 (by omega), hc 4 (by omega), hc 5 (by omega)⟩
def callM (fs : List RoP) (x : Int) : Option (List Int × List Int) := if x < (fs.length : Int) then some ((fs.getD x.toNat zRP).r.params, (fs.getD x.toNat zRP).r.results) else none
set_option maxHeartbeats 2000000 in
set_option maxRecDepth 100000 in
theorem ofCall_as {w : World} {a : Option Addr} {n c : Nat} {fs : List RoP} (hr : RowAt w a 6 fs.length (roF fs)) (hn : n = fs.length) (hm : n ≤ 100000) (hro : ∀ r ∈ fs, RoIn w r ∧ r.r.params.length ≤ 100000 ∧ r.r.results.length ≤ 100000) (x : Int) (h0 : 0 ≤ x) (h1 : x ≤ 65535) :
    Calls Tryd.prog 46 #[.int .i64 x, .slice a n c] w (OutRet w (callM fs x)) := by
  have o0 := Own.new w zEff 69
  have b0 := new_below w (.cells zEff 69)
  obtain ⟨R, HR⟩ : ∃ R, Hid (callM fs x = R) := ⟨_, rfl⟩
  rw [HR.out]
  have HN : Hid (n = fs.length) := hn
  by_cases hx : x < (n : Int)
  · obtain ⟨r, hri⟩ : ∃ r, fs.getD x.toNat zRP = r := ⟨_, rfl⟩
    have hin : x.toNat < fs.length := by omega
    obtain rfl : some (r.r.params, r.r.results) = R := by rw [← HR.out]; unfold callM; rw [if_pos (by rw [← HN.out]; exact hx), hri]
    obtain ⟨hR, hp, hq⟩ := hro r (by rw [← hri]; exact getD_in hin)
    have e0 : (w.alloc (.cells zEff 69)).heap.size = w.heap.size + 1 := World.size_alloc _ _
    obtain ⟨b, off, rfl, c0, c1, c2, c3, c4, c5⟩ := roCells (hr.below b0) hin r hri
    have HTK : Hid (∀ W, Below w.heap.size w W → Calls Tryd.prog 44 #[.slice r.pa r.r.params.length r.pc] W fun e w' => ∃ v, e = .returned (effV v (.slice none 0 0)) ∧ IntNew w' W.heap.size v r.r.params ∧ Below W.heap.size W w') := fun W hb => take_as (hR.params.below hb) rfl hR.pno hR.ple (by omega)
    have HPT : Hid (∀ W tv, Below w.heap.size w W → IntNew W w.heap.size tv r.r.params → Calls Tryd.prog 45 #[effV tv (.slice none 0 0), .slice r.ra r.r.results.length r.rc] W fun e w' => ∃ v, e = .returned (effV tv v) ∧ IntNew w' w.heap.size tv r.r.params ∧ IntNew w' w.heap.size v r.r.results ∧ Below W.heap.size W w') := fun W tv hb hi => put_as hb.size hi (hR.results.below hb) rfl hR.rno hR.rle (by omega)
    clear hr hn hm hro hri hR hp hq hin HR HN
    go_enter Tryd.func46, Tryd.ntmps46
    go_upto_region 1 with fail
    generalize w.alloc (.cells zEff 69) = w1 at *
    go_upto_region 4 with fail
    have oB := Own.new w1 (roA r) 59
    rw [e0] at oB
    have bB := new_below w1 (.cells (roA r) 59)
    have o2 := o0.below bB
    have b2 := b0.trans (bB.mono b0.size)
    clear c0 c1 c2 c3 c4 c5 o0 b0 bB e0
    generalize w1.alloc (.cells (roA r) 59) = w2 at *
    obtain ⟨y0, y1, y2, y3, y4, y5, yf⟩ := own6 oB
    have ne1 : ¬ w.heap.size + 1 = w.heap.size := by omega
    have ne2 : ¬ w.heap.size = w.heap.size + 1 := by omega
    go_region_held3 (fun w' => w'.cell? ⟨w.heap.size + 1, 1, none⟩ = some (.slice r.pa r.r.params.length r.pc) ∧ w'.cell? ⟨w.heap.size + 1, 2, none⟩ = some (.slice r.ra r.r.results.length r.rc)) (go_keep)
      (first
        | (have hz := B3; clear hz; go_at_call 45; refine (HPT.out W3 (.slice a2 r.r.params.length c2) B3 i2).mono ?_; rintro en W4 ⟨pv, rfl, i4, j4, k4⟩; obtain ⟨a4, d4, rfl⟩ := j4.shape; have B4 : Below w.heap.size w W4 := B3.trans (k4.mono B3.size); have ob4 := ob3.below k4; have or4 := or3.below k4; obtain ⟨u0, u1, u2, u3, u4, u5, uf⟩ := own6 ob4; obtain ⟨r0, r1, rf⟩ := own2 or4)
        | (go_at_call 44; refine (HTK.out w2.drew (below_drew1 b2)).mono ?_; rintro en W3 ⟨tv, rfl, i3, k3⟩; obtain ⟨a2, c2, rfl⟩ := i3.shape; have kk3 : Below w2.heap.size w2 W3 := (below_drew1 (Below.refl _ w2)).trans k3; have B3 : Below w.heap.size w W3 := b2.trans (kk3.mono b2.size); have i2 := i3.mono b2.size; have ob3 := oB.below kk3; have or3 := o2.below kk3; obtain ⟨z0, z1, z2, z3, z4, z5, zf⟩ := own6 ob3))
    have o5 := (or4.set 0 (.slice a2 r.r.params.length c2)).set 1 (.slice a4 r.r.results.length d4)
    have o6 : Own ((W4.setCell ⟨w.heap.size, 0, none⟩ (.slice a2 r.r.params.length c2)).setCell ⟨w.heap.size, 1, none⟩ (.slice a4 r.r.results.length d4)) w.heap.size #[.slice a2 r.r.params.length c2, .slice a4 r.r.results.length d4] 69 := by simpa using o5
    go_wp2
    refine bodyPost_cell2 (g := w.heap.size) (t := 69) rfl rfl rfl o6 Tryd.underlying69 rfl (by kernel_rfl) ?_
    exact ⟨⟨_, _, _, _, rfl, i4.set2 or4 (by decide) _ _, j4.set2 or4 (by decide) _ _⟩, below_set2 B4 (Nat.le_refl _) _ _⟩
  · obtain rfl : none = R := by rw [← HR.out]; unfold callM; rw [if_neg (by rw [← HN.out]; exact hx)]
    clear hr hn hm hro HR HN h0 h1
    go_enter Tryd.func46, Tryd.ntmps46
    go_upto_region 1 with fail
    generalize w.alloc (.cells zEff 69) = w1 at *
    go_wp2_with (refine wpList_put rfl 69 (.tmp 4) (.tmp 11) rfl rfl w.heap.size 0 rfl rfl o0 infoE rfl (by simp) rfl ?_; intro w5 o5 g5)
    refine bodyPost_cell2 (g := w.heap.size) (t := 69) rfl rfl rfl o5 Tryd.underlying69 rfl (by kernel_rfl) ?_
    exact ⟨⟨_, _, _, _, _, _, rfl⟩, b0.grown g5 b0.size (fun k e => by cases e; exact Nat.le_refl _)⟩
end Go.Proofs.YtjfdlphkmpkjdaaDoor
