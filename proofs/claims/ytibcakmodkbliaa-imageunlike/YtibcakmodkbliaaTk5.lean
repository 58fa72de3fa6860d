/-
  CONTRACT of ofWidth: by the op.
-/
import Derived.Test.YtibcakmodkbliaaTk3
namespace Go.Proofs.Ytibcakmodkbliaa
open Go.RowKit
set_option linter.unusedVariables false

set_option maxHeartbeats 1000000 in
set_option maxRecDepth 100000 in
theorem ofWidth1 (w : World) (a b : Int) (ao : Option Addr) (n cp : Nat) : Calls Try.prog 69 #[.agg #[.int .u8 1, .int .i64 a, .int .i64 b, .slice ao n cp]] w (EffRet w ([], [1])) := by
  have ox := Own.new w #[.int .u8 1, .int .i64 a, .int .i64 b, .slice ao n cp] 84
  have bx := new_below w (.cells #[.int .u8 1, .int .i64 a, .int .i64 b, .slice ao n cp] 84)
  go_enter Try.func69, Try.ntmps69
  go_upto_region 1 with fail
  have ex : (w.alloc (.cells #[.int .u8 1, .int .i64 a, .int .i64 b, .slice ao n cp] 84)).heap.size = w.heap.size + 1 := World.size_alloc _ _
  generalize w.alloc (.cells #[.int .u8 1, .int .i64 a, .int .i64 b, .slice ao n cp] 84) = wx at *
  have o0 := Own.new wx zEff 103
  have bn := new_below wx (.cells zEff 103)
  have ox1 := ox.below bn
  have b0 := bx.trans (bn.mono bx.size)
  rw [ex] at o0
  generalize wx.alloc (.cells zEff 103) = w1 at *
  obtain ⟨x0, x1, x2, x3, xf⟩ := own4 ox1
  clear ox bx bn ex ox1
  go_upto_region 4 with fail
  clear x0 x1 x2 x3 xf
  go_wp2_with fail
  refine (takeN (B := w.heap.size) b0.size).mono ?_
  rintro e w2 ⟨ta, tc, rfl, i2, k2⟩
  have o2 := o0.below (k2.mono (Nat.le_refl _))
  have b2 := b0.trans (k2.mono b0.size)
  clear o0 b0 k2
  go_wp2_with fail
  refine (putL (B := w.heap.size) b2.size i2 [1] (by simp)).mono ?_
  rintro e w3 ⟨pa, pc, rfl, i3, j3, k3⟩
  have o3 := o2.below (k3.mono (Nat.le_refl _))
  have b3 := b2.trans (k3.mono b2.size)
  clear o2 b2 k3 i2
  go_wp2_with (refine wpList_put rfl 103 (.tmp 2) (.tmp 12) rfl rfl (w.heap.size + 1) 0 rfl rfl o3 infoE rfl (by simp) rfl ?_; intro w5 o5 g5)
  refine bodyPost_cell1 (g := (w.heap.size + 1)) (t := 103) rfl rfl rfl o5 Try.underlying103 rfl (by kernel_rfl) ?_
  exact ⟨ta, tc, _, _, rfl, i3.grown g5 o3 (by decide), (j3.grown g5 o3 (by decide)), b3.grown g5 b3.size (fun k e => by cases e; omega)⟩
set_option maxHeartbeats 1000000 in
set_option maxRecDepth 100000 in
theorem ofWidth2 (w : World) (a b : Int) (ao : Option Addr) (n cp : Nat) : Calls Try.prog 69 #[.agg #[.int .u8 2, .int .i64 a, .int .i64 b, .slice ao n cp]] w (EffRet w ([], [2])) := by
  have ox := Own.new w #[.int .u8 2, .int .i64 a, .int .i64 b, .slice ao n cp] 84
  have bx := new_below w (.cells #[.int .u8 2, .int .i64 a, .int .i64 b, .slice ao n cp] 84)
  go_enter Try.func69, Try.ntmps69
  go_upto_region 1 with fail
  have ex : (w.alloc (.cells #[.int .u8 2, .int .i64 a, .int .i64 b, .slice ao n cp] 84)).heap.size = w.heap.size + 1 := World.size_alloc _ _
  generalize w.alloc (.cells #[.int .u8 2, .int .i64 a, .int .i64 b, .slice ao n cp] 84) = wx at *
  have o0 := Own.new wx zEff 103
  have bn := new_below wx (.cells zEff 103)
  have ox1 := ox.below bn
  have b0 := bx.trans (bn.mono bx.size)
  rw [ex] at o0
  generalize wx.alloc (.cells zEff 103) = w1 at *
  obtain ⟨x0, x1, x2, x3, xf⟩ := own4 ox1
  clear ox bx bn ex ox1
  go_upto_region 6 with fail
  clear x0 x1 x2 x3 xf
  go_wp2_with fail
  refine (takeN (B := w.heap.size) b0.size).mono ?_
  rintro e w2 ⟨ta, tc, rfl, i2, k2⟩
  have o2 := o0.below (k2.mono (Nat.le_refl _))
  have b2 := b0.trans (k2.mono b0.size)
  clear o0 b0 k2
  go_wp2_with fail
  refine (putL (B := w.heap.size) b2.size i2 [2] (by simp)).mono ?_
  rintro e w3 ⟨pa, pc, rfl, i3, j3, k3⟩
  have o3 := o2.below (k3.mono (Nat.le_refl _))
  have b3 := b2.trans (k3.mono b2.size)
  clear o2 b2 k3 i2
  go_wp2_with (refine wpList_put rfl 103 (.tmp 2) (.tmp 17) rfl rfl (w.heap.size + 1) 0 rfl rfl o3 infoE rfl (by simp) rfl ?_; intro w5 o5 g5)
  refine bodyPost_cell1 (g := (w.heap.size + 1)) (t := 103) rfl rfl rfl o5 Try.underlying103 rfl (by kernel_rfl) ?_
  exact ⟨ta, tc, _, _, rfl, i3.grown g5 o3 (by decide), (j3.grown g5 o3 (by decide)), b3.grown g5 b3.size (fun k e => by cases e; omega)⟩
set_option maxHeartbeats 1000000 in
set_option maxRecDepth 100000 in
theorem ofWidth3 (w : World) (a b : Int) (ao : Option Addr) (n cp : Nat) : Calls Try.prog 69 #[.agg #[.int .u8 3, .int .i64 a, .int .i64 b, .slice ao n cp]] w (EffRet w ([], [3])) := by
  have ox := Own.new w #[.int .u8 3, .int .i64 a, .int .i64 b, .slice ao n cp] 84
  have bx := new_below w (.cells #[.int .u8 3, .int .i64 a, .int .i64 b, .slice ao n cp] 84)
  go_enter Try.func69, Try.ntmps69
  go_upto_region 1 with fail
  have ex : (w.alloc (.cells #[.int .u8 3, .int .i64 a, .int .i64 b, .slice ao n cp] 84)).heap.size = w.heap.size + 1 := World.size_alloc _ _
  generalize w.alloc (.cells #[.int .u8 3, .int .i64 a, .int .i64 b, .slice ao n cp] 84) = wx at *
  have o0 := Own.new wx zEff 103
  have bn := new_below wx (.cells zEff 103)
  have ox1 := ox.below bn
  have b0 := bx.trans (bn.mono bx.size)
  rw [ex] at o0
  generalize wx.alloc (.cells zEff 103) = w1 at *
  obtain ⟨x0, x1, x2, x3, xf⟩ := own4 ox1
  clear ox bx bn ex ox1
  go_upto_region 8 with fail
  clear x0 x1 x2 x3 xf
  go_wp2_with fail
  refine (takeN (B := w.heap.size) b0.size).mono ?_
  rintro e w2 ⟨ta, tc, rfl, i2, k2⟩
  have o2 := o0.below (k2.mono (Nat.le_refl _))
  have b2 := b0.trans (k2.mono b0.size)
  clear o0 b0 k2
  go_wp2_with fail
  refine (putL (B := w.heap.size) b2.size i2 [3] (by simp)).mono ?_
  rintro e w3 ⟨pa, pc, rfl, i3, j3, k3⟩
  have o3 := o2.below (k3.mono (Nat.le_refl _))
  have b3 := b2.trans (k3.mono b2.size)
  clear o2 b2 k3 i2
  go_wp2_with (refine wpList_put rfl 103 (.tmp 2) (.tmp 22) rfl rfl (w.heap.size + 1) 0 rfl rfl o3 infoE rfl (by simp) rfl ?_; intro w5 o5 g5)
  refine bodyPost_cell1 (g := (w.heap.size + 1)) (t := 103) rfl rfl rfl o5 Try.underlying103 rfl (by kernel_rfl) ?_
  exact ⟨ta, tc, _, _, rfl, i3.grown g5 o3 (by decide), (j3.grown g5 o3 (by decide)), b3.grown g5 b3.size (fun k e => by cases e; omega)⟩
set_option maxHeartbeats 1000000 in
set_option maxRecDepth 100000 in
theorem ofWidth11 (w : World) (a b : Int) (ao : Option Addr) (n cp : Nat) : Calls Try.prog 69 #[.agg #[.int .u8 11, .int .i64 a, .int .i64 b, .slice ao n cp]] w (EffRet w ([a, a], [a])) := by
  have ox := Own.new w #[.int .u8 11, .int .i64 a, .int .i64 b, .slice ao n cp] 84
  have bx := new_below w (.cells #[.int .u8 11, .int .i64 a, .int .i64 b, .slice ao n cp] 84)
  go_enter Try.func69, Try.ntmps69
  go_upto_region 1 with fail
  have ex : (w.alloc (.cells #[.int .u8 11, .int .i64 a, .int .i64 b, .slice ao n cp] 84)).heap.size = w.heap.size + 1 := World.size_alloc _ _
  generalize w.alloc (.cells #[.int .u8 11, .int .i64 a, .int .i64 b, .slice ao n cp] 84) = wx at *
  have o0 := Own.new wx zEff 103
  have bn := new_below wx (.cells zEff 103)
  have ox1 := ox.below bn
  have b0 := bx.trans (bn.mono bx.size)
  rw [ex] at o0
  generalize wx.alloc (.cells zEff 103) = w1 at *
  obtain ⟨x0, x1, x2, x3, xf⟩ := own4 ox1
  clear ox bx bn ex ox1
  go_upto_region 19 with fail
  clear x0 x1 x2 x3 xf
  go_wp2_with fail
  refine (takeL (B := w.heap.size) b0.size [a, a] (by simp)).mono ?_
  rintro e w2 ⟨ta, tc, rfl, i2, k2⟩
  have o2 := o0.below (k2.mono (Nat.le_refl _))
  have b2 := b0.trans (k2.mono b0.size)
  clear o0 b0 k2
  go_wp2_with fail
  refine (putL (B := w.heap.size) b2.size i2 [a] (by simp)).mono ?_
  rintro e w3 ⟨pa, pc, rfl, i3, j3, k3⟩
  have o3 := o2.below (k3.mono (Nat.le_refl _))
  have b3 := b2.trans (k3.mono b2.size)
  clear o2 b2 k3 i2
  go_wp2_with (refine wpList_put rfl 103 (.tmp 2) (.tmp 40) rfl rfl (w.heap.size + 1) 0 rfl rfl o3 infoE rfl (by simp) rfl ?_; intro w5 o5 g5)
  refine bodyPost_cell1 (g := (w.heap.size + 1)) (t := 103) rfl rfl rfl o5 Try.underlying103 rfl (by kernel_rfl) ?_
  exact ⟨ta, tc, _, _, rfl, i3.grown g5 o3 (by decide), (j3.grown g5 o3 (by decide)), b3.grown g5 b3.size (fun k e => by cases e; omega)⟩
set_option maxHeartbeats 1000000 in
set_option maxRecDepth 100000 in
theorem ofWidth12 (w : World) (a b : Int) (ao : Option Addr) (n cp : Nat) : Calls Try.prog 69 #[.agg #[.int .u8 12, .int .i64 a, .int .i64 b, .slice ao n cp]] w (EffRet w ([a, a], [a])) := by
  have ox := Own.new w #[.int .u8 12, .int .i64 a, .int .i64 b, .slice ao n cp] 84
  have bx := new_below w (.cells #[.int .u8 12, .int .i64 a, .int .i64 b, .slice ao n cp] 84)
  go_enter Try.func69, Try.ntmps69
  go_upto_region 1 with fail
  have ex : (w.alloc (.cells #[.int .u8 12, .int .i64 a, .int .i64 b, .slice ao n cp] 84)).heap.size = w.heap.size + 1 := World.size_alloc _ _
  generalize w.alloc (.cells #[.int .u8 12, .int .i64 a, .int .i64 b, .slice ao n cp] 84) = wx at *
  have o0 := Own.new wx zEff 103
  have bn := new_below wx (.cells zEff 103)
  have ox1 := ox.below bn
  have b0 := bx.trans (bn.mono bx.size)
  rw [ex] at o0
  generalize wx.alloc (.cells zEff 103) = w1 at *
  obtain ⟨x0, x1, x2, x3, xf⟩ := own4 ox1
  clear ox bx bn ex ox1
  go_upto_region 19 with fail
  clear x0 x1 x2 x3 xf
  go_wp2_with fail
  refine (takeL (B := w.heap.size) b0.size [a, a] (by simp)).mono ?_
  rintro e w2 ⟨ta, tc, rfl, i2, k2⟩
  have o2 := o0.below (k2.mono (Nat.le_refl _))
  have b2 := b0.trans (k2.mono b0.size)
  clear o0 b0 k2
  go_wp2_with fail
  refine (putL (B := w.heap.size) b2.size i2 [a] (by simp)).mono ?_
  rintro e w3 ⟨pa, pc, rfl, i3, j3, k3⟩
  have o3 := o2.below (k3.mono (Nat.le_refl _))
  have b3 := b2.trans (k3.mono b2.size)
  clear o2 b2 k3 i2
  go_wp2_with (refine wpList_put rfl 103 (.tmp 2) (.tmp 40) rfl rfl (w.heap.size + 1) 0 rfl rfl o3 infoE rfl (by simp) rfl ?_; intro w5 o5 g5)
  refine bodyPost_cell1 (g := (w.heap.size + 1)) (t := 103) rfl rfl rfl o5 Try.underlying103 rfl (by kernel_rfl) ?_
  exact ⟨ta, tc, _, _, rfl, i3.grown g5 o3 (by decide), (j3.grown g5 o3 (by decide)), b3.grown g5 b3.size (fun k e => by cases e; omega)⟩
set_option maxHeartbeats 1000000 in
set_option maxRecDepth 100000 in
theorem ofWidth13 (w : World) (a b : Int) (ao : Option Addr) (n cp : Nat) : Calls Try.prog 69 #[.agg #[.int .u8 13, .int .i64 a, .int .i64 b, .slice ao n cp]] w (EffRet w ([a, a], [a])) := by
  have ox := Own.new w #[.int .u8 13, .int .i64 a, .int .i64 b, .slice ao n cp] 84
  have bx := new_below w (.cells #[.int .u8 13, .int .i64 a, .int .i64 b, .slice ao n cp] 84)
  go_enter Try.func69, Try.ntmps69
  go_upto_region 1 with fail
  have ex : (w.alloc (.cells #[.int .u8 13, .int .i64 a, .int .i64 b, .slice ao n cp] 84)).heap.size = w.heap.size + 1 := World.size_alloc _ _
  generalize w.alloc (.cells #[.int .u8 13, .int .i64 a, .int .i64 b, .slice ao n cp] 84) = wx at *
  have o0 := Own.new wx zEff 103
  have bn := new_below wx (.cells zEff 103)
  have ox1 := ox.below bn
  have b0 := bx.trans (bn.mono bx.size)
  rw [ex] at o0
  generalize wx.alloc (.cells zEff 103) = w1 at *
  obtain ⟨x0, x1, x2, x3, xf⟩ := own4 ox1
  clear ox bx bn ex ox1
  go_upto_region 19 with fail
  clear x0 x1 x2 x3 xf
  go_wp2_with fail
  refine (takeL (B := w.heap.size) b0.size [a, a] (by simp)).mono ?_
  rintro e w2 ⟨ta, tc, rfl, i2, k2⟩
  have o2 := o0.below (k2.mono (Nat.le_refl _))
  have b2 := b0.trans (k2.mono b0.size)
  clear o0 b0 k2
  go_wp2_with fail
  refine (putL (B := w.heap.size) b2.size i2 [a] (by simp)).mono ?_
  rintro e w3 ⟨pa, pc, rfl, i3, j3, k3⟩
  have o3 := o2.below (k3.mono (Nat.le_refl _))
  have b3 := b2.trans (k3.mono b2.size)
  clear o2 b2 k3 i2
  go_wp2_with (refine wpList_put rfl 103 (.tmp 2) (.tmp 40) rfl rfl (w.heap.size + 1) 0 rfl rfl o3 infoE rfl (by simp) rfl ?_; intro w5 o5 g5)
  refine bodyPost_cell1 (g := (w.heap.size + 1)) (t := 103) rfl rfl rfl o5 Try.underlying103 rfl (by kernel_rfl) ?_
  exact ⟨ta, tc, _, _, rfl, i3.grown g5 o3 (by decide), (j3.grown g5 o3 (by decide)), b3.grown g5 b3.size (fun k e => by cases e; omega)⟩
set_option maxHeartbeats 1000000 in
set_option maxRecDepth 100000 in
theorem ofWidth14 (w : World) (a b : Int) (ao : Option Addr) (n cp : Nat) : Calls Try.prog 69 #[.agg #[.int .u8 14, .int .i64 a, .int .i64 b, .slice ao n cp]] w (EffRet w ([a, a], [a])) := by
  have ox := Own.new w #[.int .u8 14, .int .i64 a, .int .i64 b, .slice ao n cp] 84
  have bx := new_below w (.cells #[.int .u8 14, .int .i64 a, .int .i64 b, .slice ao n cp] 84)
  go_enter Try.func69, Try.ntmps69
  go_upto_region 1 with fail
  have ex : (w.alloc (.cells #[.int .u8 14, .int .i64 a, .int .i64 b, .slice ao n cp] 84)).heap.size = w.heap.size + 1 := World.size_alloc _ _
  generalize w.alloc (.cells #[.int .u8 14, .int .i64 a, .int .i64 b, .slice ao n cp] 84) = wx at *
  have o0 := Own.new wx zEff 103
  have bn := new_below wx (.cells zEff 103)
  have ox1 := ox.below bn
  have b0 := bx.trans (bn.mono bx.size)
  rw [ex] at o0
  generalize wx.alloc (.cells zEff 103) = w1 at *
  obtain ⟨x0, x1, x2, x3, xf⟩ := own4 ox1
  clear ox bx bn ex ox1
  go_upto_region 19 with fail
  clear x0 x1 x2 x3 xf
  go_wp2_with fail
  refine (takeL (B := w.heap.size) b0.size [a, a] (by simp)).mono ?_
  rintro e w2 ⟨ta, tc, rfl, i2, k2⟩
  have o2 := o0.below (k2.mono (Nat.le_refl _))
  have b2 := b0.trans (k2.mono b0.size)
  clear o0 b0 k2
  go_wp2_with fail
  refine (putL (B := w.heap.size) b2.size i2 [a] (by simp)).mono ?_
  rintro e w3 ⟨pa, pc, rfl, i3, j3, k3⟩
  have o3 := o2.below (k3.mono (Nat.le_refl _))
  have b3 := b2.trans (k3.mono b2.size)
  clear o2 b2 k3 i2
  go_wp2_with (refine wpList_put rfl 103 (.tmp 2) (.tmp 40) rfl rfl (w.heap.size + 1) 0 rfl rfl o3 infoE rfl (by simp) rfl ?_; intro w5 o5 g5)
  refine bodyPost_cell1 (g := (w.heap.size + 1)) (t := 103) rfl rfl rfl o5 Try.underlying103 rfl (by kernel_rfl) ?_
  exact ⟨ta, tc, _, _, rfl, i3.grown g5 o3 (by decide), (j3.grown g5 o3 (by decide)), b3.grown g5 b3.size (fun k e => by cases e; omega)⟩
set_option maxHeartbeats 1000000 in
set_option maxRecDepth 100000 in
theorem ofWidth15 (w : World) (a b : Int) (ao : Option Addr) (n cp : Nat) : Calls Try.prog 69 #[.agg #[.int .u8 15, .int .i64 a, .int .i64 b, .slice ao n cp]] w (EffRet w ([a, a], [a])) := by
  have ox := Own.new w #[.int .u8 15, .int .i64 a, .int .i64 b, .slice ao n cp] 84
  have bx := new_below w (.cells #[.int .u8 15, .int .i64 a, .int .i64 b, .slice ao n cp] 84)
  go_enter Try.func69, Try.ntmps69
  go_upto_region 1 with fail
  have ex : (w.alloc (.cells #[.int .u8 15, .int .i64 a, .int .i64 b, .slice ao n cp] 84)).heap.size = w.heap.size + 1 := World.size_alloc _ _
  generalize w.alloc (.cells #[.int .u8 15, .int .i64 a, .int .i64 b, .slice ao n cp] 84) = wx at *
  have o0 := Own.new wx zEff 103
  have bn := new_below wx (.cells zEff 103)
  have ox1 := ox.below bn
  have b0 := bx.trans (bn.mono bx.size)
  rw [ex] at o0
  generalize wx.alloc (.cells zEff 103) = w1 at *
  obtain ⟨x0, x1, x2, x3, xf⟩ := own4 ox1
  clear ox bx bn ex ox1
  go_upto_region 19 with fail
  clear x0 x1 x2 x3 xf
  go_wp2_with fail
  refine (takeL (B := w.heap.size) b0.size [a, a] (by simp)).mono ?_
  rintro e w2 ⟨ta, tc, rfl, i2, k2⟩
  have o2 := o0.below (k2.mono (Nat.le_refl _))
  have b2 := b0.trans (k2.mono b0.size)
  clear o0 b0 k2
  go_wp2_with fail
  refine (putL (B := w.heap.size) b2.size i2 [a] (by simp)).mono ?_
  rintro e w3 ⟨pa, pc, rfl, i3, j3, k3⟩
  have o3 := o2.below (k3.mono (Nat.le_refl _))
  have b3 := b2.trans (k3.mono b2.size)
  clear o2 b2 k3 i2
  go_wp2_with (refine wpList_put rfl 103 (.tmp 2) (.tmp 40) rfl rfl (w.heap.size + 1) 0 rfl rfl o3 infoE rfl (by simp) rfl ?_; intro w5 o5 g5)
  refine bodyPost_cell1 (g := (w.heap.size + 1)) (t := 103) rfl rfl rfl o5 Try.underlying103 rfl (by kernel_rfl) ?_
  exact ⟨ta, tc, _, _, rfl, i3.grown g5 o3 (by decide), (j3.grown g5 o3 (by decide)), b3.grown g5 b3.size (fun k e => by cases e; omega)⟩
set_option maxHeartbeats 1000000 in
set_option maxRecDepth 100000 in
theorem ofWidth16 (w : World) (a b : Int) (ao : Option Addr) (n cp : Nat) : Calls Try.prog 69 #[.agg #[.int .u8 16, .int .i64 a, .int .i64 b, .slice ao n cp]] w (EffRet w ([a, a], [a])) := by
  have ox := Own.new w #[.int .u8 16, .int .i64 a, .int .i64 b, .slice ao n cp] 84
  have bx := new_below w (.cells #[.int .u8 16, .int .i64 a, .int .i64 b, .slice ao n cp] 84)
  go_enter Try.func69, Try.ntmps69
  go_upto_region 1 with fail
  have ex : (w.alloc (.cells #[.int .u8 16, .int .i64 a, .int .i64 b, .slice ao n cp] 84)).heap.size = w.heap.size + 1 := World.size_alloc _ _
  generalize w.alloc (.cells #[.int .u8 16, .int .i64 a, .int .i64 b, .slice ao n cp] 84) = wx at *
  have o0 := Own.new wx zEff 103
  have bn := new_below wx (.cells zEff 103)
  have ox1 := ox.below bn
  have b0 := bx.trans (bn.mono bx.size)
  rw [ex] at o0
  generalize wx.alloc (.cells zEff 103) = w1 at *
  obtain ⟨x0, x1, x2, x3, xf⟩ := own4 ox1
  clear ox bx bn ex ox1
  go_upto_region 19 with fail
  clear x0 x1 x2 x3 xf
  go_wp2_with fail
  refine (takeL (B := w.heap.size) b0.size [a, a] (by simp)).mono ?_
  rintro e w2 ⟨ta, tc, rfl, i2, k2⟩
  have o2 := o0.below (k2.mono (Nat.le_refl _))
  have b2 := b0.trans (k2.mono b0.size)
  clear o0 b0 k2
  go_wp2_with fail
  refine (putL (B := w.heap.size) b2.size i2 [a] (by simp)).mono ?_
  rintro e w3 ⟨pa, pc, rfl, i3, j3, k3⟩
  have o3 := o2.below (k3.mono (Nat.le_refl _))
  have b3 := b2.trans (k3.mono b2.size)
  clear o2 b2 k3 i2
  go_wp2_with (refine wpList_put rfl 103 (.tmp 2) (.tmp 40) rfl rfl (w.heap.size + 1) 0 rfl rfl o3 infoE rfl (by simp) rfl ?_; intro w5 o5 g5)
  refine bodyPost_cell1 (g := (w.heap.size + 1)) (t := 103) rfl rfl rfl o5 Try.underlying103 rfl (by kernel_rfl) ?_
  exact ⟨ta, tc, _, _, rfl, i3.grown g5 o3 (by decide), (j3.grown g5 o3 (by decide)), b3.grown g5 b3.size (fun k e => by cases e; omega)⟩
set_option maxHeartbeats 1000000 in
set_option maxRecDepth 100000 in
theorem ofWidth17 (w : World) (a b : Int) (ao : Option Addr) (n cp : Nat) : Calls Try.prog 69 #[.agg #[.int .u8 17, .int .i64 a, .int .i64 b, .slice ao n cp]] w (EffRet w ([a, a], [a])) := by
  have ox := Own.new w #[.int .u8 17, .int .i64 a, .int .i64 b, .slice ao n cp] 84
  have bx := new_below w (.cells #[.int .u8 17, .int .i64 a, .int .i64 b, .slice ao n cp] 84)
  go_enter Try.func69, Try.ntmps69
  go_upto_region 1 with fail
  have ex : (w.alloc (.cells #[.int .u8 17, .int .i64 a, .int .i64 b, .slice ao n cp] 84)).heap.size = w.heap.size + 1 := World.size_alloc _ _
  generalize w.alloc (.cells #[.int .u8 17, .int .i64 a, .int .i64 b, .slice ao n cp] 84) = wx at *
  have o0 := Own.new wx zEff 103
  have bn := new_below wx (.cells zEff 103)
  have ox1 := ox.below bn
  have b0 := bx.trans (bn.mono bx.size)
  rw [ex] at o0
  generalize wx.alloc (.cells zEff 103) = w1 at *
  obtain ⟨x0, x1, x2, x3, xf⟩ := own4 ox1
  clear ox bx bn ex ox1
  go_upto_region 19 with fail
  clear x0 x1 x2 x3 xf
  go_wp2_with fail
  refine (takeL (B := w.heap.size) b0.size [a, a] (by simp)).mono ?_
  rintro e w2 ⟨ta, tc, rfl, i2, k2⟩
  have o2 := o0.below (k2.mono (Nat.le_refl _))
  have b2 := b0.trans (k2.mono b0.size)
  clear o0 b0 k2
  go_wp2_with fail
  refine (putL (B := w.heap.size) b2.size i2 [a] (by simp)).mono ?_
  rintro e w3 ⟨pa, pc, rfl, i3, j3, k3⟩
  have o3 := o2.below (k3.mono (Nat.le_refl _))
  have b3 := b2.trans (k3.mono b2.size)
  clear o2 b2 k3 i2
  go_wp2_with (refine wpList_put rfl 103 (.tmp 2) (.tmp 40) rfl rfl (w.heap.size + 1) 0 rfl rfl o3 infoE rfl (by simp) rfl ?_; intro w5 o5 g5)
  refine bodyPost_cell1 (g := (w.heap.size + 1)) (t := 103) rfl rfl rfl o5 Try.underlying103 rfl (by kernel_rfl) ?_
  exact ⟨ta, tc, _, _, rfl, i3.grown g5 o3 (by decide), (j3.grown g5 o3 (by decide)), b3.grown g5 b3.size (fun k e => by cases e; omega)⟩
set_option maxHeartbeats 1000000 in
set_option maxRecDepth 100000 in
theorem ofWidth18 (w : World) (a b : Int) (ao : Option Addr) (n cp : Nat) : Calls Try.prog 69 #[.agg #[.int .u8 18, .int .i64 a, .int .i64 b, .slice ao n cp]] w (EffRet w ([a, a], [a])) := by
  have ox := Own.new w #[.int .u8 18, .int .i64 a, .int .i64 b, .slice ao n cp] 84
  have bx := new_below w (.cells #[.int .u8 18, .int .i64 a, .int .i64 b, .slice ao n cp] 84)
  go_enter Try.func69, Try.ntmps69
  go_upto_region 1 with fail
  have ex : (w.alloc (.cells #[.int .u8 18, .int .i64 a, .int .i64 b, .slice ao n cp] 84)).heap.size = w.heap.size + 1 := World.size_alloc _ _
  generalize w.alloc (.cells #[.int .u8 18, .int .i64 a, .int .i64 b, .slice ao n cp] 84) = wx at *
  have o0 := Own.new wx zEff 103
  have bn := new_below wx (.cells zEff 103)
  have ox1 := ox.below bn
  have b0 := bx.trans (bn.mono bx.size)
  rw [ex] at o0
  generalize wx.alloc (.cells zEff 103) = w1 at *
  obtain ⟨x0, x1, x2, x3, xf⟩ := own4 ox1
  clear ox bx bn ex ox1
  go_upto_region 19 with fail
  clear x0 x1 x2 x3 xf
  go_wp2_with fail
  refine (takeL (B := w.heap.size) b0.size [a, a] (by simp)).mono ?_
  rintro e w2 ⟨ta, tc, rfl, i2, k2⟩
  have o2 := o0.below (k2.mono (Nat.le_refl _))
  have b2 := b0.trans (k2.mono b0.size)
  clear o0 b0 k2
  go_wp2_with fail
  refine (putL (B := w.heap.size) b2.size i2 [a] (by simp)).mono ?_
  rintro e w3 ⟨pa, pc, rfl, i3, j3, k3⟩
  have o3 := o2.below (k3.mono (Nat.le_refl _))
  have b3 := b2.trans (k3.mono b2.size)
  clear o2 b2 k3 i2
  go_wp2_with (refine wpList_put rfl 103 (.tmp 2) (.tmp 40) rfl rfl (w.heap.size + 1) 0 rfl rfl o3 infoE rfl (by simp) rfl ?_; intro w5 o5 g5)
  refine bodyPost_cell1 (g := (w.heap.size + 1)) (t := 103) rfl rfl rfl o5 Try.underlying103 rfl (by kernel_rfl) ?_
  exact ⟨ta, tc, _, _, rfl, i3.grown g5 o3 (by decide), (j3.grown g5 o3 (by decide)), b3.grown g5 b3.size (fun k e => by cases e; omega)⟩
set_option maxHeartbeats 1000000 in
set_option maxRecDepth 100000 in
theorem ofWidth19 (w : World) (a b : Int) (ao : Option Addr) (n cp : Nat) : Calls Try.prog 69 #[.agg #[.int .u8 19, .int .i64 a, .int .i64 b, .slice ao n cp]] w (EffRet w ([a, a], [a])) := by
  have ox := Own.new w #[.int .u8 19, .int .i64 a, .int .i64 b, .slice ao n cp] 84
  have bx := new_below w (.cells #[.int .u8 19, .int .i64 a, .int .i64 b, .slice ao n cp] 84)
  go_enter Try.func69, Try.ntmps69
  go_upto_region 1 with fail
  have ex : (w.alloc (.cells #[.int .u8 19, .int .i64 a, .int .i64 b, .slice ao n cp] 84)).heap.size = w.heap.size + 1 := World.size_alloc _ _
  generalize w.alloc (.cells #[.int .u8 19, .int .i64 a, .int .i64 b, .slice ao n cp] 84) = wx at *
  have o0 := Own.new wx zEff 103
  have bn := new_below wx (.cells zEff 103)
  have ox1 := ox.below bn
  have b0 := bx.trans (bn.mono bx.size)
  rw [ex] at o0
  generalize wx.alloc (.cells zEff 103) = w1 at *
  obtain ⟨x0, x1, x2, x3, xf⟩ := own4 ox1
  clear ox bx bn ex ox1
  go_upto_region 19 with fail
  clear x0 x1 x2 x3 xf
  go_wp2_with fail
  refine (takeL (B := w.heap.size) b0.size [a, a] (by simp)).mono ?_
  rintro e w2 ⟨ta, tc, rfl, i2, k2⟩
  have o2 := o0.below (k2.mono (Nat.le_refl _))
  have b2 := b0.trans (k2.mono b0.size)
  clear o0 b0 k2
  go_wp2_with fail
  refine (putL (B := w.heap.size) b2.size i2 [a] (by simp)).mono ?_
  rintro e w3 ⟨pa, pc, rfl, i3, j3, k3⟩
  have o3 := o2.below (k3.mono (Nat.le_refl _))
  have b3 := b2.trans (k3.mono b2.size)
  clear o2 b2 k3 i2
  go_wp2_with (refine wpList_put rfl 103 (.tmp 2) (.tmp 40) rfl rfl (w.heap.size + 1) 0 rfl rfl o3 infoE rfl (by simp) rfl ?_; intro w5 o5 g5)
  refine bodyPost_cell1 (g := (w.heap.size + 1)) (t := 103) rfl rfl rfl o5 Try.underlying103 rfl (by kernel_rfl) ?_
  exact ⟨ta, tc, _, _, rfl, i3.grown g5 o3 (by decide), (j3.grown g5 o3 (by decide)), b3.grown g5 b3.size (fun k e => by cases e; omega)⟩
set_option maxHeartbeats 1000000 in
set_option maxRecDepth 100000 in
theorem ofWidth20 (w : World) (a b : Int) (ao : Option Addr) (n cp : Nat) : Calls Try.prog 69 #[.agg #[.int .u8 20, .int .i64 a, .int .i64 b, .slice ao n cp]] w (EffRet w ([a, a], [a])) := by
  have ox := Own.new w #[.int .u8 20, .int .i64 a, .int .i64 b, .slice ao n cp] 84
  have bx := new_below w (.cells #[.int .u8 20, .int .i64 a, .int .i64 b, .slice ao n cp] 84)
  go_enter Try.func69, Try.ntmps69
  go_upto_region 1 with fail
  have ex : (w.alloc (.cells #[.int .u8 20, .int .i64 a, .int .i64 b, .slice ao n cp] 84)).heap.size = w.heap.size + 1 := World.size_alloc _ _
  generalize w.alloc (.cells #[.int .u8 20, .int .i64 a, .int .i64 b, .slice ao n cp] 84) = wx at *
  have o0 := Own.new wx zEff 103
  have bn := new_below wx (.cells zEff 103)
  have ox1 := ox.below bn
  have b0 := bx.trans (bn.mono bx.size)
  rw [ex] at o0
  generalize wx.alloc (.cells zEff 103) = w1 at *
  obtain ⟨x0, x1, x2, x3, xf⟩ := own4 ox1
  clear ox bx bn ex ox1
  go_upto_region 19 with fail
  clear x0 x1 x2 x3 xf
  go_wp2_with fail
  refine (takeL (B := w.heap.size) b0.size [a, a] (by simp)).mono ?_
  rintro e w2 ⟨ta, tc, rfl, i2, k2⟩
  have o2 := o0.below (k2.mono (Nat.le_refl _))
  have b2 := b0.trans (k2.mono b0.size)
  clear o0 b0 k2
  go_wp2_with fail
  refine (putL (B := w.heap.size) b2.size i2 [a] (by simp)).mono ?_
  rintro e w3 ⟨pa, pc, rfl, i3, j3, k3⟩
  have o3 := o2.below (k3.mono (Nat.le_refl _))
  have b3 := b2.trans (k3.mono b2.size)
  clear o2 b2 k3 i2
  go_wp2_with (refine wpList_put rfl 103 (.tmp 2) (.tmp 40) rfl rfl (w.heap.size + 1) 0 rfl rfl o3 infoE rfl (by simp) rfl ?_; intro w5 o5 g5)
  refine bodyPost_cell1 (g := (w.heap.size + 1)) (t := 103) rfl rfl rfl o5 Try.underlying103 rfl (by kernel_rfl) ?_
  exact ⟨ta, tc, _, _, rfl, i3.grown g5 o3 (by decide), (j3.grown g5 o3 (by decide)), b3.grown g5 b3.size (fun k e => by cases e; omega)⟩
set_option maxHeartbeats 1000000 in
set_option maxRecDepth 100000 in
theorem ofWidth21 (w : World) (a b : Int) (ao : Option Addr) (n cp : Nat) : Calls Try.prog 69 #[.agg #[.int .u8 21, .int .i64 a, .int .i64 b, .slice ao n cp]] w (EffRet w ([a], [a])) := by
  have ox := Own.new w #[.int .u8 21, .int .i64 a, .int .i64 b, .slice ao n cp] 84
  have bx := new_below w (.cells #[.int .u8 21, .int .i64 a, .int .i64 b, .slice ao n cp] 84)
  go_enter Try.func69, Try.ntmps69
  go_upto_region 1 with fail
  have ex : (w.alloc (.cells #[.int .u8 21, .int .i64 a, .int .i64 b, .slice ao n cp] 84)).heap.size = w.heap.size + 1 := World.size_alloc _ _
  generalize w.alloc (.cells #[.int .u8 21, .int .i64 a, .int .i64 b, .slice ao n cp] 84) = wx at *
  have o0 := Own.new wx zEff 103
  have bn := new_below wx (.cells zEff 103)
  have ox1 := ox.below bn
  have b0 := bx.trans (bn.mono bx.size)
  rw [ex] at o0
  generalize wx.alloc (.cells zEff 103) = w1 at *
  obtain ⟨x0, x1, x2, x3, xf⟩ := own4 ox1
  clear ox bx bn ex ox1
  go_upto_region 22 with fail
  clear x0 x1 x2 x3 xf
  go_wp2_with fail
  refine (takeL (B := w.heap.size) b0.size [a] (by simp)).mono ?_
  rintro e w2 ⟨ta, tc, rfl, i2, k2⟩
  have o2 := o0.below (k2.mono (Nat.le_refl _))
  have b2 := b0.trans (k2.mono b0.size)
  clear o0 b0 k2
  go_wp2_with fail
  refine (putL (B := w.heap.size) b2.size i2 [a] (by simp)).mono ?_
  rintro e w3 ⟨pa, pc, rfl, i3, j3, k3⟩
  have o3 := o2.below (k3.mono (Nat.le_refl _))
  have b3 := b2.trans (k3.mono b2.size)
  clear o2 b2 k3 i2
  go_wp2_with (refine wpList_put rfl 103 (.tmp 2) (.tmp 49) rfl rfl (w.heap.size + 1) 0 rfl rfl o3 infoE rfl (by simp) rfl ?_; intro w5 o5 g5)
  refine bodyPost_cell1 (g := (w.heap.size + 1)) (t := 103) rfl rfl rfl o5 Try.underlying103 rfl (by kernel_rfl) ?_
  exact ⟨ta, tc, _, _, rfl, i3.grown g5 o3 (by decide), (j3.grown g5 o3 (by decide)), b3.grown g5 b3.size (fun k e => by cases e; omega)⟩
set_option maxHeartbeats 1000000 in
set_option maxRecDepth 100000 in
theorem ofWidth22 (w : World) (a b : Int) (ao : Option Addr) (n cp : Nat) : Calls Try.prog 69 #[.agg #[.int .u8 22, .int .i64 a, .int .i64 b, .slice ao n cp]] w (EffRet w ([a], [a])) := by
  have ox := Own.new w #[.int .u8 22, .int .i64 a, .int .i64 b, .slice ao n cp] 84
  have bx := new_below w (.cells #[.int .u8 22, .int .i64 a, .int .i64 b, .slice ao n cp] 84)
  go_enter Try.func69, Try.ntmps69
  go_upto_region 1 with fail
  have ex : (w.alloc (.cells #[.int .u8 22, .int .i64 a, .int .i64 b, .slice ao n cp] 84)).heap.size = w.heap.size + 1 := World.size_alloc _ _
  generalize w.alloc (.cells #[.int .u8 22, .int .i64 a, .int .i64 b, .slice ao n cp] 84) = wx at *
  have o0 := Own.new wx zEff 103
  have bn := new_below wx (.cells zEff 103)
  have ox1 := ox.below bn
  have b0 := bx.trans (bn.mono bx.size)
  rw [ex] at o0
  generalize wx.alloc (.cells zEff 103) = w1 at *
  obtain ⟨x0, x1, x2, x3, xf⟩ := own4 ox1
  clear ox bx bn ex ox1
  go_upto_region 22 with fail
  clear x0 x1 x2 x3 xf
  go_wp2_with fail
  refine (takeL (B := w.heap.size) b0.size [a] (by simp)).mono ?_
  rintro e w2 ⟨ta, tc, rfl, i2, k2⟩
  have o2 := o0.below (k2.mono (Nat.le_refl _))
  have b2 := b0.trans (k2.mono b0.size)
  clear o0 b0 k2
  go_wp2_with fail
  refine (putL (B := w.heap.size) b2.size i2 [a] (by simp)).mono ?_
  rintro e w3 ⟨pa, pc, rfl, i3, j3, k3⟩
  have o3 := o2.below (k3.mono (Nat.le_refl _))
  have b3 := b2.trans (k3.mono b2.size)
  clear o2 b2 k3 i2
  go_wp2_with (refine wpList_put rfl 103 (.tmp 2) (.tmp 49) rfl rfl (w.heap.size + 1) 0 rfl rfl o3 infoE rfl (by simp) rfl ?_; intro w5 o5 g5)
  refine bodyPost_cell1 (g := (w.heap.size + 1)) (t := 103) rfl rfl rfl o5 Try.underlying103 rfl (by kernel_rfl) ?_
  exact ⟨ta, tc, _, _, rfl, i3.grown g5 o3 (by decide), (j3.grown g5 o3 (by decide)), b3.grown g5 b3.size (fun k e => by cases e; omega)⟩
set_option maxHeartbeats 1000000 in
set_option maxRecDepth 100000 in
theorem ofWidth23 (w : World) (a b : Int) (ao : Option Addr) (n cp : Nat) : Calls Try.prog 69 #[.agg #[.int .u8 23, .int .i64 a, .int .i64 b, .slice ao n cp]] w (EffRet w ([a, a], [4])) := by
  have ox := Own.new w #[.int .u8 23, .int .i64 a, .int .i64 b, .slice ao n cp] 84
  have bx := new_below w (.cells #[.int .u8 23, .int .i64 a, .int .i64 b, .slice ao n cp] 84)
  go_enter Try.func69, Try.ntmps69
  go_upto_region 1 with fail
  have ex : (w.alloc (.cells #[.int .u8 23, .int .i64 a, .int .i64 b, .slice ao n cp] 84)).heap.size = w.heap.size + 1 := World.size_alloc _ _
  generalize w.alloc (.cells #[.int .u8 23, .int .i64 a, .int .i64 b, .slice ao n cp] 84) = wx at *
  have o0 := Own.new wx zEff 103
  have bn := new_below wx (.cells zEff 103)
  have ox1 := ox.below bn
  have b0 := bx.trans (bn.mono bx.size)
  rw [ex] at o0
  generalize wx.alloc (.cells zEff 103) = w1 at *
  obtain ⟨x0, x1, x2, x3, xf⟩ := own4 ox1
  clear ox bx bn ex ox1
  go_upto_region 29 with fail
  clear x0 x1 x2 x3 xf
  go_wp2_with fail
  refine (takeL (B := w.heap.size) b0.size [a, a] (by simp)).mono ?_
  rintro e w2 ⟨ta, tc, rfl, i2, k2⟩
  have o2 := o0.below (k2.mono (Nat.le_refl _))
  have b2 := b0.trans (k2.mono b0.size)
  clear o0 b0 k2
  go_wp2_with fail
  refine (putL (B := w.heap.size) b2.size i2 [4] (by simp)).mono ?_
  rintro e w3 ⟨pa, pc, rfl, i3, j3, k3⟩
  have o3 := o2.below (k3.mono (Nat.le_refl _))
  have b3 := b2.trans (k3.mono b2.size)
  clear o2 b2 k3 i2
  go_wp2_with (refine wpList_put rfl 103 (.tmp 2) (.tmp 62) rfl rfl (w.heap.size + 1) 0 rfl rfl o3 infoE rfl (by simp) rfl ?_; intro w5 o5 g5)
  refine bodyPost_cell1 (g := (w.heap.size + 1)) (t := 103) rfl rfl rfl o5 Try.underlying103 rfl (by kernel_rfl) ?_
  exact ⟨ta, tc, _, _, rfl, i3.grown g5 o3 (by decide), (j3.grown g5 o3 (by decide)), b3.grown g5 b3.size (fun k e => by cases e; omega)⟩
set_option maxHeartbeats 1000000 in
set_option maxRecDepth 100000 in
theorem ofWidth24 (w : World) (a b : Int) (ao : Option Addr) (n cp : Nat) : Calls Try.prog 69 #[.agg #[.int .u8 24, .int .i64 a, .int .i64 b, .slice ao n cp]] w (EffRet w ([a, a], [4])) := by
  have ox := Own.new w #[.int .u8 24, .int .i64 a, .int .i64 b, .slice ao n cp] 84
  have bx := new_below w (.cells #[.int .u8 24, .int .i64 a, .int .i64 b, .slice ao n cp] 84)
  go_enter Try.func69, Try.ntmps69
  go_upto_region 1 with fail
  have ex : (w.alloc (.cells #[.int .u8 24, .int .i64 a, .int .i64 b, .slice ao n cp] 84)).heap.size = w.heap.size + 1 := World.size_alloc _ _
  generalize w.alloc (.cells #[.int .u8 24, .int .i64 a, .int .i64 b, .slice ao n cp] 84) = wx at *
  have o0 := Own.new wx zEff 103
  have bn := new_below wx (.cells zEff 103)
  have ox1 := ox.below bn
  have b0 := bx.trans (bn.mono bx.size)
  rw [ex] at o0
  generalize wx.alloc (.cells zEff 103) = w1 at *
  obtain ⟨x0, x1, x2, x3, xf⟩ := own4 ox1
  clear ox bx bn ex ox1
  go_upto_region 29 with fail
  clear x0 x1 x2 x3 xf
  go_wp2_with fail
  refine (takeL (B := w.heap.size) b0.size [a, a] (by simp)).mono ?_
  rintro e w2 ⟨ta, tc, rfl, i2, k2⟩
  have o2 := o0.below (k2.mono (Nat.le_refl _))
  have b2 := b0.trans (k2.mono b0.size)
  clear o0 b0 k2
  go_wp2_with fail
  refine (putL (B := w.heap.size) b2.size i2 [4] (by simp)).mono ?_
  rintro e w3 ⟨pa, pc, rfl, i3, j3, k3⟩
  have o3 := o2.below (k3.mono (Nat.le_refl _))
  have b3 := b2.trans (k3.mono b2.size)
  clear o2 b2 k3 i2
  go_wp2_with (refine wpList_put rfl 103 (.tmp 2) (.tmp 62) rfl rfl (w.heap.size + 1) 0 rfl rfl o3 infoE rfl (by simp) rfl ?_; intro w5 o5 g5)
  refine bodyPost_cell1 (g := (w.heap.size + 1)) (t := 103) rfl rfl rfl o5 Try.underlying103 rfl (by kernel_rfl) ?_
  exact ⟨ta, tc, _, _, rfl, i3.grown g5 o3 (by decide), (j3.grown g5 o3 (by decide)), b3.grown g5 b3.size (fun k e => by cases e; omega)⟩
set_option maxHeartbeats 1000000 in
set_option maxRecDepth 100000 in
theorem ofWidth25 (w : World) (a b : Int) (ao : Option Addr) (n cp : Nat) : Calls Try.prog 69 #[.agg #[.int .u8 25, .int .i64 a, .int .i64 b, .slice ao n cp]] w (EffRet w ([a, a], [4])) := by
  have ox := Own.new w #[.int .u8 25, .int .i64 a, .int .i64 b, .slice ao n cp] 84
  have bx := new_below w (.cells #[.int .u8 25, .int .i64 a, .int .i64 b, .slice ao n cp] 84)
  go_enter Try.func69, Try.ntmps69
  go_upto_region 1 with fail
  have ex : (w.alloc (.cells #[.int .u8 25, .int .i64 a, .int .i64 b, .slice ao n cp] 84)).heap.size = w.heap.size + 1 := World.size_alloc _ _
  generalize w.alloc (.cells #[.int .u8 25, .int .i64 a, .int .i64 b, .slice ao n cp] 84) = wx at *
  have o0 := Own.new wx zEff 103
  have bn := new_below wx (.cells zEff 103)
  have ox1 := ox.below bn
  have b0 := bx.trans (bn.mono bx.size)
  rw [ex] at o0
  generalize wx.alloc (.cells zEff 103) = w1 at *
  obtain ⟨x0, x1, x2, x3, xf⟩ := own4 ox1
  clear ox bx bn ex ox1
  go_upto_region 29 with fail
  clear x0 x1 x2 x3 xf
  go_wp2_with fail
  refine (takeL (B := w.heap.size) b0.size [a, a] (by simp)).mono ?_
  rintro e w2 ⟨ta, tc, rfl, i2, k2⟩
  have o2 := o0.below (k2.mono (Nat.le_refl _))
  have b2 := b0.trans (k2.mono b0.size)
  clear o0 b0 k2
  go_wp2_with fail
  refine (putL (B := w.heap.size) b2.size i2 [4] (by simp)).mono ?_
  rintro e w3 ⟨pa, pc, rfl, i3, j3, k3⟩
  have o3 := o2.below (k3.mono (Nat.le_refl _))
  have b3 := b2.trans (k3.mono b2.size)
  clear o2 b2 k3 i2
  go_wp2_with (refine wpList_put rfl 103 (.tmp 2) (.tmp 62) rfl rfl (w.heap.size + 1) 0 rfl rfl o3 infoE rfl (by simp) rfl ?_; intro w5 o5 g5)
  refine bodyPost_cell1 (g := (w.heap.size + 1)) (t := 103) rfl rfl rfl o5 Try.underlying103 rfl (by kernel_rfl) ?_
  exact ⟨ta, tc, _, _, rfl, i3.grown g5 o3 (by decide), (j3.grown g5 o3 (by decide)), b3.grown g5 b3.size (fun k e => by cases e; omega)⟩
set_option maxHeartbeats 1000000 in
set_option maxRecDepth 100000 in
theorem ofWidth26 (w : World) (a b : Int) (ao : Option Addr) (n cp : Nat) : Calls Try.prog 69 #[.agg #[.int .u8 26, .int .i64 a, .int .i64 b, .slice ao n cp]] w (EffRet w ([a, a], [4])) := by
  have ox := Own.new w #[.int .u8 26, .int .i64 a, .int .i64 b, .slice ao n cp] 84
  have bx := new_below w (.cells #[.int .u8 26, .int .i64 a, .int .i64 b, .slice ao n cp] 84)
  go_enter Try.func69, Try.ntmps69
  go_upto_region 1 with fail
  have ex : (w.alloc (.cells #[.int .u8 26, .int .i64 a, .int .i64 b, .slice ao n cp] 84)).heap.size = w.heap.size + 1 := World.size_alloc _ _
  generalize w.alloc (.cells #[.int .u8 26, .int .i64 a, .int .i64 b, .slice ao n cp] 84) = wx at *
  have o0 := Own.new wx zEff 103
  have bn := new_below wx (.cells zEff 103)
  have ox1 := ox.below bn
  have b0 := bx.trans (bn.mono bx.size)
  rw [ex] at o0
  generalize wx.alloc (.cells zEff 103) = w1 at *
  obtain ⟨x0, x1, x2, x3, xf⟩ := own4 ox1
  clear ox bx bn ex ox1
  go_upto_region 29 with fail
  clear x0 x1 x2 x3 xf
  go_wp2_with fail
  refine (takeL (B := w.heap.size) b0.size [a, a] (by simp)).mono ?_
  rintro e w2 ⟨ta, tc, rfl, i2, k2⟩
  have o2 := o0.below (k2.mono (Nat.le_refl _))
  have b2 := b0.trans (k2.mono b0.size)
  clear o0 b0 k2
  go_wp2_with fail
  refine (putL (B := w.heap.size) b2.size i2 [4] (by simp)).mono ?_
  rintro e w3 ⟨pa, pc, rfl, i3, j3, k3⟩
  have o3 := o2.below (k3.mono (Nat.le_refl _))
  have b3 := b2.trans (k3.mono b2.size)
  clear o2 b2 k3 i2
  go_wp2_with (refine wpList_put rfl 103 (.tmp 2) (.tmp 62) rfl rfl (w.heap.size + 1) 0 rfl rfl o3 infoE rfl (by simp) rfl ?_; intro w5 o5 g5)
  refine bodyPost_cell1 (g := (w.heap.size + 1)) (t := 103) rfl rfl rfl o5 Try.underlying103 rfl (by kernel_rfl) ?_
  exact ⟨ta, tc, _, _, rfl, i3.grown g5 o3 (by decide), (j3.grown g5 o3 (by decide)), b3.grown g5 b3.size (fun k e => by cases e; omega)⟩
set_option maxHeartbeats 1000000 in
set_option maxRecDepth 100000 in
theorem ofWidth27 (w : World) (a b : Int) (ao : Option Addr) (n cp : Nat) : Calls Try.prog 69 #[.agg #[.int .u8 27, .int .i64 a, .int .i64 b, .slice ao n cp]] w (EffRet w ([a, a], [4])) := by
  have ox := Own.new w #[.int .u8 27, .int .i64 a, .int .i64 b, .slice ao n cp] 84
  have bx := new_below w (.cells #[.int .u8 27, .int .i64 a, .int .i64 b, .slice ao n cp] 84)
  go_enter Try.func69, Try.ntmps69
  go_upto_region 1 with fail
  have ex : (w.alloc (.cells #[.int .u8 27, .int .i64 a, .int .i64 b, .slice ao n cp] 84)).heap.size = w.heap.size + 1 := World.size_alloc _ _
  generalize w.alloc (.cells #[.int .u8 27, .int .i64 a, .int .i64 b, .slice ao n cp] 84) = wx at *
  have o0 := Own.new wx zEff 103
  have bn := new_below wx (.cells zEff 103)
  have ox1 := ox.below bn
  have b0 := bx.trans (bn.mono bx.size)
  rw [ex] at o0
  generalize wx.alloc (.cells zEff 103) = w1 at *
  obtain ⟨x0, x1, x2, x3, xf⟩ := own4 ox1
  clear ox bx bn ex ox1
  go_upto_region 29 with fail
  clear x0 x1 x2 x3 xf
  go_wp2_with fail
  refine (takeL (B := w.heap.size) b0.size [a, a] (by simp)).mono ?_
  rintro e w2 ⟨ta, tc, rfl, i2, k2⟩
  have o2 := o0.below (k2.mono (Nat.le_refl _))
  have b2 := b0.trans (k2.mono b0.size)
  clear o0 b0 k2
  go_wp2_with fail
  refine (putL (B := w.heap.size) b2.size i2 [4] (by simp)).mono ?_
  rintro e w3 ⟨pa, pc, rfl, i3, j3, k3⟩
  have o3 := o2.below (k3.mono (Nat.le_refl _))
  have b3 := b2.trans (k3.mono b2.size)
  clear o2 b2 k3 i2
  go_wp2_with (refine wpList_put rfl 103 (.tmp 2) (.tmp 62) rfl rfl (w.heap.size + 1) 0 rfl rfl o3 infoE rfl (by simp) rfl ?_; intro w5 o5 g5)
  refine bodyPost_cell1 (g := (w.heap.size + 1)) (t := 103) rfl rfl rfl o5 Try.underlying103 rfl (by kernel_rfl) ?_
  exact ⟨ta, tc, _, _, rfl, i3.grown g5 o3 (by decide), (j3.grown g5 o3 (by decide)), b3.grown g5 b3.size (fun k e => by cases e; omega)⟩
set_option maxHeartbeats 1000000 in
set_option maxRecDepth 100000 in
theorem ofWidth28 (w : World) (a b : Int) (ao : Option Addr) (n cp : Nat) : Calls Try.prog 69 #[.agg #[.int .u8 28, .int .i64 a, .int .i64 b, .slice ao n cp]] w (EffRet w ([a, a], [4])) := by
  have ox := Own.new w #[.int .u8 28, .int .i64 a, .int .i64 b, .slice ao n cp] 84
  have bx := new_below w (.cells #[.int .u8 28, .int .i64 a, .int .i64 b, .slice ao n cp] 84)
  go_enter Try.func69, Try.ntmps69
  go_upto_region 1 with fail
  have ex : (w.alloc (.cells #[.int .u8 28, .int .i64 a, .int .i64 b, .slice ao n cp] 84)).heap.size = w.heap.size + 1 := World.size_alloc _ _
  generalize w.alloc (.cells #[.int .u8 28, .int .i64 a, .int .i64 b, .slice ao n cp] 84) = wx at *
  have o0 := Own.new wx zEff 103
  have bn := new_below wx (.cells zEff 103)
  have ox1 := ox.below bn
  have b0 := bx.trans (bn.mono bx.size)
  rw [ex] at o0
  generalize wx.alloc (.cells zEff 103) = w1 at *
  obtain ⟨x0, x1, x2, x3, xf⟩ := own4 ox1
  clear ox bx bn ex ox1
  go_upto_region 29 with fail
  clear x0 x1 x2 x3 xf
  go_wp2_with fail
  refine (takeL (B := w.heap.size) b0.size [a, a] (by simp)).mono ?_
  rintro e w2 ⟨ta, tc, rfl, i2, k2⟩
  have o2 := o0.below (k2.mono (Nat.le_refl _))
  have b2 := b0.trans (k2.mono b0.size)
  clear o0 b0 k2
  go_wp2_with fail
  refine (putL (B := w.heap.size) b2.size i2 [4] (by simp)).mono ?_
  rintro e w3 ⟨pa, pc, rfl, i3, j3, k3⟩
  have o3 := o2.below (k3.mono (Nat.le_refl _))
  have b3 := b2.trans (k3.mono b2.size)
  clear o2 b2 k3 i2
  go_wp2_with (refine wpList_put rfl 103 (.tmp 2) (.tmp 62) rfl rfl (w.heap.size + 1) 0 rfl rfl o3 infoE rfl (by simp) rfl ?_; intro w5 o5 g5)
  refine bodyPost_cell1 (g := (w.heap.size + 1)) (t := 103) rfl rfl rfl o5 Try.underlying103 rfl (by kernel_rfl) ?_
  exact ⟨ta, tc, _, _, rfl, i3.grown g5 o3 (by decide), (j3.grown g5 o3 (by decide)), b3.grown g5 b3.size (fun k e => by cases e; omega)⟩
set_option maxHeartbeats 1000000 in
set_option maxRecDepth 100000 in
theorem ofWidth46 (w : World) (a b : Int) (ao : Option Addr) (n cp : Nat) : Calls Try.prog 69 #[.agg #[.int .u8 46, .int .i64 a, .int .i64 b, .slice ao n cp]] w (EffRet w ([], [])) := by
  have ox := Own.new w #[.int .u8 46, .int .i64 a, .int .i64 b, .slice ao n cp] 84
  have bx := new_below w (.cells #[.int .u8 46, .int .i64 a, .int .i64 b, .slice ao n cp] 84)
  go_enter Try.func69, Try.ntmps69
  go_upto_region 1 with fail
  have ex : (w.alloc (.cells #[.int .u8 46, .int .i64 a, .int .i64 b, .slice ao n cp] 84)).heap.size = w.heap.size + 1 := World.size_alloc _ _
  generalize w.alloc (.cells #[.int .u8 46, .int .i64 a, .int .i64 b, .slice ao n cp] 84) = wx at *
  have o0 := Own.new wx zEff 103
  have bn := new_below wx (.cells zEff 103)
  have ox1 := ox.below bn
  have b0 := bx.trans (bn.mono bx.size)
  rw [ex] at o0
  generalize wx.alloc (.cells zEff 103) = w1 at *
  obtain ⟨x0, x1, x2, x3, xf⟩ := own4 ox1
  clear ox bx bn ex ox1
  go_upto_region 34 with fail
  clear x0 x1 x2 x3 xf
  go_wp2_with (refine wpList_put rfl 103 (.tmp 2) (.tmp 77) rfl rfl (w.heap.size + 1) 0 rfl rfl o0 infoE rfl (by simp) rfl ?_; intro w5 o5 g5)
  refine bodyPost_cell1 (g := w.heap.size + 1) (t := 103) rfl rfl rfl o5 Try.underlying103 rfl (by kernel_rfl) ?_
  exact ⟨_, _, _, _, rfl, IntNew.nil _ _, IntNew.nil _ _, b0.grown g5 b0.size (fun k e => by cases e; omega)⟩
set_option maxHeartbeats 1000000 in
set_option maxRecDepth 100000 in
theorem ofWidth49 (w : World) (a b : Int) (ao : Option Addr) (n cp : Nat) : Calls Try.prog 69 #[.agg #[.int .u8 49, .int .i64 a, .int .i64 b, .slice ao n cp]] w (EffRet w ([a], [])) := by
  have ox := Own.new w #[.int .u8 49, .int .i64 a, .int .i64 b, .slice ao n cp] 84
  have bx := new_below w (.cells #[.int .u8 49, .int .i64 a, .int .i64 b, .slice ao n cp] 84)
  go_enter Try.func69, Try.ntmps69
  go_upto_region 1 with fail
  have ex : (w.alloc (.cells #[.int .u8 49, .int .i64 a, .int .i64 b, .slice ao n cp] 84)).heap.size = w.heap.size + 1 := World.size_alloc _ _
  generalize w.alloc (.cells #[.int .u8 49, .int .i64 a, .int .i64 b, .slice ao n cp] 84) = wx at *
  have o0 := Own.new wx zEff 103
  have bn := new_below wx (.cells zEff 103)
  have ox1 := ox.below bn
  have b0 := bx.trans (bn.mono bx.size)
  rw [ex] at o0
  generalize wx.alloc (.cells zEff 103) = w1 at *
  obtain ⟨x0, x1, x2, x3, xf⟩ := own4 ox1
  clear ox bx bn ex ox1
  go_upto_region 33 with fail
  clear x0 x1 x2 x3 xf
  go_wp2_with fail
  refine (takeL (B := w.heap.size) b0.size [a] (by simp)).mono ?_
  rintro e w2 ⟨ta, tc, rfl, i2, k2⟩
  have o2 := o0.below (k2.mono (Nat.le_refl _))
  have b2 := b0.trans (k2.mono b0.size)
  clear o0 b0 k2
  go_wp2_with (refine wpList_put rfl 103 (.tmp 2) (.tmp 76) rfl rfl (w.heap.size + 1) 0 rfl rfl o2 infoE rfl (by simp) rfl ?_; intro w5 o5 g5)
  refine bodyPost_cell1 (g := (w.heap.size + 1)) (t := 103) rfl rfl rfl o5 Try.underlying103 rfl (by kernel_rfl) ?_
  exact ⟨ta, tc, _, _, rfl, i2.grown g5 o2 (by decide), (IntNew.nil _ _), b2.grown g5 b2.size (fun k e => by cases e; omega)⟩
set_option maxHeartbeats 1000000 in
set_option maxRecDepth 100000 in
theorem ofWidth51 (w : World) (a b : Int) (ao : Option Addr) (n cp : Nat) : Calls Try.prog 69 #[.agg #[.int .u8 51, .int .i64 a, .int .i64 b, .slice ao n cp]] w (EffRet w ([], [])) := by
  have ox := Own.new w #[.int .u8 51, .int .i64 a, .int .i64 b, .slice ao n cp] 84
  have bx := new_below w (.cells #[.int .u8 51, .int .i64 a, .int .i64 b, .slice ao n cp] 84)
  go_enter Try.func69, Try.ntmps69
  go_upto_region 1 with fail
  have ex : (w.alloc (.cells #[.int .u8 51, .int .i64 a, .int .i64 b, .slice ao n cp] 84)).heap.size = w.heap.size + 1 := World.size_alloc _ _
  generalize w.alloc (.cells #[.int .u8 51, .int .i64 a, .int .i64 b, .slice ao n cp] 84) = wx at *
  have o0 := Own.new wx zEff 103
  have bn := new_below wx (.cells zEff 103)
  have ox1 := ox.below bn
  have b0 := bx.trans (bn.mono bx.size)
  rw [ex] at o0
  generalize wx.alloc (.cells zEff 103) = w1 at *
  obtain ⟨x0, x1, x2, x3, xf⟩ := own4 ox1
  clear ox bx bn ex ox1
  go_upto_region 34 with fail
  clear x0 x1 x2 x3 xf
  go_wp2_with (refine wpList_put rfl 103 (.tmp 2) (.tmp 77) rfl rfl (w.heap.size + 1) 0 rfl rfl o0 infoE rfl (by simp) rfl ?_; intro w5 o5 g5)
  refine bodyPost_cell1 (g := w.heap.size + 1) (t := 103) rfl rfl rfl o5 Try.underlying103 rfl (by kernel_rfl) ?_
  exact ⟨_, _, _, _, rfl, IntNew.nil _ _, IntNew.nil _ _, b0.grown g5 b0.size (fun k e => by cases e; omega)⟩
set_option maxHeartbeats 1000000 in
set_option maxRecDepth 100000 in
theorem ofWidth52 (w : World) (a b : Int) (ao : Option Addr) (n cp : Nat) : Calls Try.prog 69 #[.agg #[.int .u8 52, .int .i64 a, .int .i64 b, .slice ao n cp]] w (EffRet w ([], [])) := by
  have ox := Own.new w #[.int .u8 52, .int .i64 a, .int .i64 b, .slice ao n cp] 84
  have bx := new_below w (.cells #[.int .u8 52, .int .i64 a, .int .i64 b, .slice ao n cp] 84)
  go_enter Try.func69, Try.ntmps69
  go_upto_region 1 with fail
  have ex : (w.alloc (.cells #[.int .u8 52, .int .i64 a, .int .i64 b, .slice ao n cp] 84)).heap.size = w.heap.size + 1 := World.size_alloc _ _
  generalize w.alloc (.cells #[.int .u8 52, .int .i64 a, .int .i64 b, .slice ao n cp] 84) = wx at *
  have o0 := Own.new wx zEff 103
  have bn := new_below wx (.cells zEff 103)
  have ox1 := ox.below bn
  have b0 := bx.trans (bn.mono bx.size)
  rw [ex] at o0
  generalize wx.alloc (.cells zEff 103) = w1 at *
  obtain ⟨x0, x1, x2, x3, xf⟩ := own4 ox1
  clear ox bx bn ex ox1
  go_upto_region 34 with fail
  clear x0 x1 x2 x3 xf
  go_wp2_with (refine wpList_put rfl 103 (.tmp 2) (.tmp 77) rfl rfl (w.heap.size + 1) 0 rfl rfl o0 infoE rfl (by simp) rfl ?_; intro w5 o5 g5)
  refine bodyPost_cell1 (g := w.heap.size + 1) (t := 103) rfl rfl rfl o5 Try.underlying103 rfl (by kernel_rfl) ?_
  exact ⟨_, _, _, _, rfl, IntNew.nil _ _, IntNew.nil _ _, b0.grown g5 b0.size (fun k e => by cases e; omega)⟩
end Go.Proofs.Ytibcakmodkbliaa
