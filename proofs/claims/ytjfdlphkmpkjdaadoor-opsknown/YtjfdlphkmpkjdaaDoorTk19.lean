/-
  CONTRACT of effectOf: by the op.
-/
import Derived.Test.YtjfdlphkmpkjdaaDoorJts
namespace Go.Proofs.YtjfdlphkmpkjdaaDoor
open Go.RowKit
set_option linter.unusedVariables false

set_option maxHeartbeats 2000000 in
set_option maxRecDepth 100000 in
theorem effectOf1 {w : World} {m : MoP} (hm : MoIn w m) (hs : Small m 100000) (a b : Int) (ao : Option Addr) (n cp : Nat) :
    Calls Tryd.prog 27 #[.agg #[.int .u8 1, .int .i64 a, .int .i64 b, .slice ao n cp], .agg m.cs] w (OutRet w (effM m 1 a b)) := by
  clear hm hs
  obtain ⟨R, HR⟩ : ∃ R, Hid (effM m 1 a b = R) := ⟨_, rfl⟩
  rw [HR.out]
  have ox := Own.new w #[.int .u8 1, .int .i64 a, .int .i64 b, .slice ao n cp] 24
  have bx := new_below w (.cells #[.int .u8 1, .int .i64 a, .int .i64 b, .slice ao n cp] 24)
  go_enter Tryd.func27, Tryd.ntmps27
  go_upto_region 1 with fail
  have e1 : (w.alloc (.cells #[.int .u8 1, .int .i64 a, .int .i64 b, .slice ao n cp] 24)).heap.size = w.heap.size + 1 := World.size_alloc _ _
  generalize w.alloc (.cells #[.int .u8 1, .int .i64 a, .int .i64 b, .slice ao n cp] 24) = w1 at *
  have om := Own.new w1 m.cs 29
  have bm := new_below w1 (.cells m.cs 29)
  have ox1 := ox.below bm
  have b2 := bx.trans (bm.mono bx.size)
  have e2 : (w1.alloc (.cells m.cs 29)).heap.size = w.heap.size + 2 := by rw [World.size_alloc, e1]
  rw [e1] at om
  unfold MoP.cs at *
  generalize w1.alloc (.cells #[.slice m.ta m.tys.length m.tc, .slice m.sa m.txs.length m.sc, .slice m.fa m.fns.length m.fc] 29) = w2 at *
  have o0 := Own.new w2 zEff 69
  have bn := new_below w2 (.cells zEff 69)
  have ox2 := ox1.below bn
  have om2 := om.below bn
  have b3 := b2.trans (bn.mono b2.size)
  rw [e2] at o0
  clear ox bx bm ox1 om b2 bn e1 e2
  generalize w2.alloc (.cells zEff 69) = w3 at *
  obtain ⟨x0, x1, x2, x3, xf⟩ := own4 ox2
  obtain ⟨m0, m1, m2, mf⟩ := own3 om2
  obtain rfl : some ([], [1]) = R := by rw [← HR.out]; rfl
  clear HR
  go_upto_region 33 with fail
  go_wp2_with fail
  refine (ofWidth1 w3 a b ao n cp).mono ?_
  rintro e w4 ⟨ta, tc, pa, pc, rfl, i4, j4, k4⟩
  have o4 := o0.below k4
  have i5 := i4.mono b3.size
  have j5 := j4.mono b3.size
  have b4 := b3.trans (k4.mono b3.size)
  clear x0 x1 x2 x3 xf m0 m1 m2 mf o0 b3 k4 ox2 om2 i4 j4
  go_wp2_with (refine wpList_put rfl 69 (.tmp 4) (.tmp 71) rfl rfl (w.heap.size + 2) 0 rfl rfl o4 infoE rfl (by simp) rfl ?_; intro w5 o5 g5)
  refine bodyPost_cell2 (g := w.heap.size + 2) (t := 69) rfl rfl rfl o5 Tryd.underlying69 rfl (by kernel_rfl) ?_
  exact ⟨⟨_, _, _, _, rfl, i5.grown g5 o4 (by decide), j5.grown g5 o4 (by decide)⟩, b4.grown g5 b4.size (fun k e => by cases e; omega)⟩
set_option maxHeartbeats 2000000 in
set_option maxRecDepth 100000 in
theorem effectOf2 {w : World} {m : MoP} (hm : MoIn w m) (hs : Small m 100000) (a b : Int) (ao : Option Addr) (n cp : Nat) :
    Calls Tryd.prog 27 #[.agg #[.int .u8 2, .int .i64 a, .int .i64 b, .slice ao n cp], .agg m.cs] w (OutRet w (effM m 2 a b)) := by
  clear hm hs
  obtain ⟨R, HR⟩ : ∃ R, Hid (effM m 2 a b = R) := ⟨_, rfl⟩
  rw [HR.out]
  have ox := Own.new w #[.int .u8 2, .int .i64 a, .int .i64 b, .slice ao n cp] 24
  have bx := new_below w (.cells #[.int .u8 2, .int .i64 a, .int .i64 b, .slice ao n cp] 24)
  go_enter Tryd.func27, Tryd.ntmps27
  go_upto_region 1 with fail
  have e1 : (w.alloc (.cells #[.int .u8 2, .int .i64 a, .int .i64 b, .slice ao n cp] 24)).heap.size = w.heap.size + 1 := World.size_alloc _ _
  generalize w.alloc (.cells #[.int .u8 2, .int .i64 a, .int .i64 b, .slice ao n cp] 24) = w1 at *
  have om := Own.new w1 m.cs 29
  have bm := new_below w1 (.cells m.cs 29)
  have ox1 := ox.below bm
  have b2 := bx.trans (bm.mono bx.size)
  have e2 : (w1.alloc (.cells m.cs 29)).heap.size = w.heap.size + 2 := by rw [World.size_alloc, e1]
  rw [e1] at om
  unfold MoP.cs at *
  generalize w1.alloc (.cells #[.slice m.ta m.tys.length m.tc, .slice m.sa m.txs.length m.sc, .slice m.fa m.fns.length m.fc] 29) = w2 at *
  have o0 := Own.new w2 zEff 69
  have bn := new_below w2 (.cells zEff 69)
  have ox2 := ox1.below bn
  have om2 := om.below bn
  have b3 := b2.trans (bn.mono b2.size)
  rw [e2] at o0
  clear ox bx bm ox1 om b2 bn e1 e2
  generalize w2.alloc (.cells zEff 69) = w3 at *
  obtain ⟨x0, x1, x2, x3, xf⟩ := own4 ox2
  obtain ⟨m0, m1, m2, mf⟩ := own3 om2
  obtain rfl : some ([], [2]) = R := by rw [← HR.out]; rfl
  clear HR
  go_upto_region 33 with fail
  go_wp2_with fail
  refine (ofWidth2 w3 a b ao n cp).mono ?_
  rintro e w4 ⟨ta, tc, pa, pc, rfl, i4, j4, k4⟩
  have o4 := o0.below k4
  have i5 := i4.mono b3.size
  have j5 := j4.mono b3.size
  have b4 := b3.trans (k4.mono b3.size)
  clear x0 x1 x2 x3 xf m0 m1 m2 mf o0 b3 k4 ox2 om2 i4 j4
  go_wp2_with (refine wpList_put rfl 69 (.tmp 4) (.tmp 71) rfl rfl (w.heap.size + 2) 0 rfl rfl o4 infoE rfl (by simp) rfl ?_; intro w5 o5 g5)
  refine bodyPost_cell2 (g := w.heap.size + 2) (t := 69) rfl rfl rfl o5 Tryd.underlying69 rfl (by kernel_rfl) ?_
  exact ⟨⟨_, _, _, _, rfl, i5.grown g5 o4 (by decide), j5.grown g5 o4 (by decide)⟩, b4.grown g5 b4.size (fun k e => by cases e; omega)⟩
set_option maxHeartbeats 2000000 in
set_option maxRecDepth 100000 in
theorem effectOf3 {w : World} {m : MoP} (hm : MoIn w m) (hs : Small m 100000) (a b : Int) (ao : Option Addr) (n cp : Nat) :
    Calls Tryd.prog 27 #[.agg #[.int .u8 3, .int .i64 a, .int .i64 b, .slice ao n cp], .agg m.cs] w (OutRet w (effM m 3 a b)) := by
  clear hm hs
  obtain ⟨R, HR⟩ : ∃ R, Hid (effM m 3 a b = R) := ⟨_, rfl⟩
  rw [HR.out]
  have ox := Own.new w #[.int .u8 3, .int .i64 a, .int .i64 b, .slice ao n cp] 24
  have bx := new_below w (.cells #[.int .u8 3, .int .i64 a, .int .i64 b, .slice ao n cp] 24)
  go_enter Tryd.func27, Tryd.ntmps27
  go_upto_region 1 with fail
  have e1 : (w.alloc (.cells #[.int .u8 3, .int .i64 a, .int .i64 b, .slice ao n cp] 24)).heap.size = w.heap.size + 1 := World.size_alloc _ _
  generalize w.alloc (.cells #[.int .u8 3, .int .i64 a, .int .i64 b, .slice ao n cp] 24) = w1 at *
  have om := Own.new w1 m.cs 29
  have bm := new_below w1 (.cells m.cs 29)
  have ox1 := ox.below bm
  have b2 := bx.trans (bm.mono bx.size)
  have e2 : (w1.alloc (.cells m.cs 29)).heap.size = w.heap.size + 2 := by rw [World.size_alloc, e1]
  rw [e1] at om
  unfold MoP.cs at *
  generalize w1.alloc (.cells #[.slice m.ta m.tys.length m.tc, .slice m.sa m.txs.length m.sc, .slice m.fa m.fns.length m.fc] 29) = w2 at *
  have o0 := Own.new w2 zEff 69
  have bn := new_below w2 (.cells zEff 69)
  have ox2 := ox1.below bn
  have om2 := om.below bn
  have b3 := b2.trans (bn.mono b2.size)
  rw [e2] at o0
  clear ox bx bm ox1 om b2 bn e1 e2
  generalize w2.alloc (.cells zEff 69) = w3 at *
  obtain ⟨x0, x1, x2, x3, xf⟩ := own4 ox2
  obtain ⟨m0, m1, m2, mf⟩ := own3 om2
  obtain rfl : some ([], [3]) = R := by rw [← HR.out]; rfl
  clear HR
  go_upto_region 33 with fail
  go_wp2_with fail
  refine (ofWidth3 w3 a b ao n cp).mono ?_
  rintro e w4 ⟨ta, tc, pa, pc, rfl, i4, j4, k4⟩
  have o4 := o0.below k4
  have i5 := i4.mono b3.size
  have j5 := j4.mono b3.size
  have b4 := b3.trans (k4.mono b3.size)
  clear x0 x1 x2 x3 xf m0 m1 m2 mf o0 b3 k4 ox2 om2 i4 j4
  go_wp2_with (refine wpList_put rfl 69 (.tmp 4) (.tmp 71) rfl rfl (w.heap.size + 2) 0 rfl rfl o4 infoE rfl (by simp) rfl ?_; intro w5 o5 g5)
  refine bodyPost_cell2 (g := w.heap.size + 2) (t := 69) rfl rfl rfl o5 Tryd.underlying69 rfl (by kernel_rfl) ?_
  exact ⟨⟨_, _, _, _, rfl, i5.grown g5 o4 (by decide), j5.grown g5 o4 (by decide)⟩, b4.grown g5 b4.size (fun k e => by cases e; omega)⟩
set_option maxHeartbeats 2000000 in
set_option maxRecDepth 100000 in
theorem effectOf4 {w : World} {m : MoP} (hm : MoIn w m) (hs : Small m 100000) (a b : Int) (ao : Option Addr) (n cp : Nat) :
    Calls Tryd.prog 27 #[.agg #[.int .u8 4, .int .i64 a, .int .i64 b, .slice ao n cp], .agg m.cs] w (OutRet w (effM m 4 a b)) := by
  clear hm hs
  obtain ⟨R, HR⟩ : ∃ R, Hid (effM m 4 a b = R) := ⟨_, rfl⟩
  rw [HR.out]
  have ox := Own.new w #[.int .u8 4, .int .i64 a, .int .i64 b, .slice ao n cp] 24
  have bx := new_below w (.cells #[.int .u8 4, .int .i64 a, .int .i64 b, .slice ao n cp] 24)
  go_enter Tryd.func27, Tryd.ntmps27
  go_upto_region 1 with fail
  have e1 : (w.alloc (.cells #[.int .u8 4, .int .i64 a, .int .i64 b, .slice ao n cp] 24)).heap.size = w.heap.size + 1 := World.size_alloc _ _
  generalize w.alloc (.cells #[.int .u8 4, .int .i64 a, .int .i64 b, .slice ao n cp] 24) = w1 at *
  have om := Own.new w1 m.cs 29
  have bm := new_below w1 (.cells m.cs 29)
  have ox1 := ox.below bm
  have b2 := bx.trans (bm.mono bx.size)
  have e2 : (w1.alloc (.cells m.cs 29)).heap.size = w.heap.size + 2 := by rw [World.size_alloc, e1]
  rw [e1] at om
  unfold MoP.cs at *
  generalize w1.alloc (.cells #[.slice m.ta m.tys.length m.tc, .slice m.sa m.txs.length m.sc, .slice m.fa m.fns.length m.fc] 29) = w2 at *
  have o0 := Own.new w2 zEff 69
  have bn := new_below w2 (.cells zEff 69)
  have ox2 := ox1.below bn
  have om2 := om.below bn
  have b3 := b2.trans (bn.mono b2.size)
  rw [e2] at o0
  clear ox bx bm ox1 om b2 bn e1 e2
  generalize w2.alloc (.cells zEff 69) = w3 at *
  obtain ⟨x0, x1, x2, x3, xf⟩ := own4 ox2
  obtain ⟨m0, m1, m2, mf⟩ := own3 om2
  obtain rfl : some ([], [4]) = R := by rw [← HR.out]; rfl
  clear HR
  go_upto_region 32 with fail
  go_wp2_with fail
  refine (ofOp4 w3).mono ?_
  rintro e w4 ⟨ta, tc, pa, pc, rfl, i4, j4, k4⟩
  have o4 := o0.below k4
  have i5 := i4.mono b3.size
  have j5 := j4.mono b3.size
  have b4 := b3.trans (k4.mono b3.size)
  clear x0 x1 x2 x3 xf m0 m1 m2 mf o0 b3 k4 ox2 om2 i4 j4
  go_wp2_with (refine wpList_put rfl 69 (.tmp 4) (.tmp 69) rfl rfl (w.heap.size + 2) 0 rfl rfl o4 infoE rfl (by simp) rfl ?_; intro w5 o5 g5)
  refine bodyPost_cell2 (g := w.heap.size + 2) (t := 69) rfl rfl rfl o5 Tryd.underlying69 rfl (by kernel_rfl) ?_
  exact ⟨⟨_, _, _, _, rfl, i5.grown g5 o4 (by decide), j5.grown g5 o4 (by decide)⟩, b4.grown g5 b4.size (fun k e => by cases e; omega)⟩
set_option maxHeartbeats 2000000 in
set_option maxRecDepth 100000 in
theorem effectOf5 {w : World} {m : MoP} (hm : MoIn w m) (hs : Small m 100000) (a b : Int) (ao : Option Addr) (n cp : Nat) :
    Calls Tryd.prog 27 #[.agg #[.int .u8 5, .int .i64 a, .int .i64 b, .slice ao n cp], .agg m.cs] w (OutRet w (effM m 5 a b)) := by
  clear hm hs
  obtain ⟨R, HR⟩ : ∃ R, Hid (effM m 5 a b = R) := ⟨_, rfl⟩
  rw [HR.out]
  have ox := Own.new w #[.int .u8 5, .int .i64 a, .int .i64 b, .slice ao n cp] 24
  have bx := new_below w (.cells #[.int .u8 5, .int .i64 a, .int .i64 b, .slice ao n cp] 24)
  go_enter Tryd.func27, Tryd.ntmps27
  go_upto_region 1 with fail
  have e1 : (w.alloc (.cells #[.int .u8 5, .int .i64 a, .int .i64 b, .slice ao n cp] 24)).heap.size = w.heap.size + 1 := World.size_alloc _ _
  generalize w.alloc (.cells #[.int .u8 5, .int .i64 a, .int .i64 b, .slice ao n cp] 24) = w1 at *
  have om := Own.new w1 m.cs 29
  have bm := new_below w1 (.cells m.cs 29)
  have ox1 := ox.below bm
  have b2 := bx.trans (bm.mono bx.size)
  have e2 : (w1.alloc (.cells m.cs 29)).heap.size = w.heap.size + 2 := by rw [World.size_alloc, e1]
  rw [e1] at om
  unfold MoP.cs at *
  generalize w1.alloc (.cells #[.slice m.ta m.tys.length m.tc, .slice m.sa m.txs.length m.sc, .slice m.fa m.fns.length m.fc] 29) = w2 at *
  have o0 := Own.new w2 zEff 69
  have bn := new_below w2 (.cells zEff 69)
  have ox2 := ox1.below bn
  have om2 := om.below bn
  have b3 := b2.trans (bn.mono b2.size)
  rw [e2] at o0
  clear ox bx bm ox1 om b2 bn e1 e2
  generalize w2.alloc (.cells zEff 69) = w3 at *
  obtain ⟨x0, x1, x2, x3, xf⟩ := own4 ox2
  obtain ⟨m0, m1, m2, mf⟩ := own3 om2
  obtain rfl : some ([], [4]) = R := by rw [← HR.out]; rfl
  clear HR
  go_upto_region 32 with fail
  go_wp2_with fail
  refine (ofOp5 w3).mono ?_
  rintro e w4 ⟨ta, tc, pa, pc, rfl, i4, j4, k4⟩
  have o4 := o0.below k4
  have i5 := i4.mono b3.size
  have j5 := j4.mono b3.size
  have b4 := b3.trans (k4.mono b3.size)
  clear x0 x1 x2 x3 xf m0 m1 m2 mf o0 b3 k4 ox2 om2 i4 j4
  go_wp2_with (refine wpList_put rfl 69 (.tmp 4) (.tmp 69) rfl rfl (w.heap.size + 2) 0 rfl rfl o4 infoE rfl (by simp) rfl ?_; intro w5 o5 g5)
  refine bodyPost_cell2 (g := w.heap.size + 2) (t := 69) rfl rfl rfl o5 Tryd.underlying69 rfl (by kernel_rfl) ?_
  exact ⟨⟨_, _, _, _, rfl, i5.grown g5 o4 (by decide), j5.grown g5 o4 (by decide)⟩, b4.grown g5 b4.size (fun k e => by cases e; omega)⟩
set_option maxHeartbeats 2000000 in
set_option maxRecDepth 100000 in
theorem effectOf7 {w : World} {m : MoP} (hm : MoIn w m) (hs : Small m 100000) (a b : Int) (ao : Option Addr) (n cp : Nat) :
    Calls Tryd.prog 27 #[.agg #[.int .u8 7, .int .i64 a, .int .i64 b, .slice ao n cp], .agg m.cs] w (OutRet w (effM m 7 a b)) := by
  clear hm hs
  obtain ⟨R, HR⟩ : ∃ R, Hid (effM m 7 a b = R) := ⟨_, rfl⟩
  rw [HR.out]
  have ox := Own.new w #[.int .u8 7, .int .i64 a, .int .i64 b, .slice ao n cp] 24
  have bx := new_below w (.cells #[.int .u8 7, .int .i64 a, .int .i64 b, .slice ao n cp] 24)
  go_enter Tryd.func27, Tryd.ntmps27
  go_upto_region 1 with fail
  have e1 : (w.alloc (.cells #[.int .u8 7, .int .i64 a, .int .i64 b, .slice ao n cp] 24)).heap.size = w.heap.size + 1 := World.size_alloc _ _
  generalize w.alloc (.cells #[.int .u8 7, .int .i64 a, .int .i64 b, .slice ao n cp] 24) = w1 at *
  have om := Own.new w1 m.cs 29
  have bm := new_below w1 (.cells m.cs 29)
  have ox1 := ox.below bm
  have b2 := bx.trans (bm.mono bx.size)
  have e2 : (w1.alloc (.cells m.cs 29)).heap.size = w.heap.size + 2 := by rw [World.size_alloc, e1]
  rw [e1] at om
  unfold MoP.cs at *
  generalize w1.alloc (.cells #[.slice m.ta m.tys.length m.tc, .slice m.sa m.txs.length m.sc, .slice m.fa m.fns.length m.fc] 29) = w2 at *
  have o0 := Own.new w2 zEff 69
  have bn := new_below w2 (.cells zEff 69)
  have ox2 := ox1.below bn
  have om2 := om.below bn
  have b3 := b2.trans (bn.mono b2.size)
  rw [e2] at o0
  clear ox bx bm ox1 om b2 bn e1 e2
  generalize w2.alloc (.cells zEff 69) = w3 at *
  obtain ⟨x0, x1, x2, x3, xf⟩ := own4 ox2
  obtain ⟨m0, m1, m2, mf⟩ := own3 om2
  obtain rfl : some ([], [0]) = R := by rw [← HR.out]; rfl
  clear HR
  go_upto_region 32 with fail
  go_wp2_with fail
  refine (ofOp7 w3).mono ?_
  rintro e w4 ⟨ta, tc, pa, pc, rfl, i4, j4, k4⟩
  have o4 := o0.below k4
  have i5 := i4.mono b3.size
  have j5 := j4.mono b3.size
  have b4 := b3.trans (k4.mono b3.size)
  clear x0 x1 x2 x3 xf m0 m1 m2 mf o0 b3 k4 ox2 om2 i4 j4
  go_wp2_with (refine wpList_put rfl 69 (.tmp 4) (.tmp 69) rfl rfl (w.heap.size + 2) 0 rfl rfl o4 infoE rfl (by simp) rfl ?_; intro w5 o5 g5)
  refine bodyPost_cell2 (g := w.heap.size + 2) (t := 69) rfl rfl rfl o5 Tryd.underlying69 rfl (by kernel_rfl) ?_
  exact ⟨⟨_, _, _, _, rfl, i5.grown g5 o4 (by decide), j5.grown g5 o4 (by decide)⟩, b4.grown g5 b4.size (fun k e => by cases e; omega)⟩
set_option maxHeartbeats 2000000 in
set_option maxRecDepth 100000 in
theorem effectOf8 {w : World} {m : MoP} (hm : MoIn w m) (hs : Small m 100000) (a b : Int) (ao : Option Addr) (n cp : Nat) :
    Calls Tryd.prog 27 #[.agg #[.int .u8 8, .int .i64 a, .int .i64 b, .slice ao n cp], .agg m.cs] w (OutRet w (effM m 8 a b)) := by
  clear hm hs
  obtain ⟨R, HR⟩ : ∃ R, Hid (effM m 8 a b = R) := ⟨_, rfl⟩
  rw [HR.out]
  have ox := Own.new w #[.int .u8 8, .int .i64 a, .int .i64 b, .slice ao n cp] 24
  have bx := new_below w (.cells #[.int .u8 8, .int .i64 a, .int .i64 b, .slice ao n cp] 24)
  go_enter Tryd.func27, Tryd.ntmps27
  go_upto_region 1 with fail
  have e1 : (w.alloc (.cells #[.int .u8 8, .int .i64 a, .int .i64 b, .slice ao n cp] 24)).heap.size = w.heap.size + 1 := World.size_alloc _ _
  generalize w.alloc (.cells #[.int .u8 8, .int .i64 a, .int .i64 b, .slice ao n cp] 24) = w1 at *
  have om := Own.new w1 m.cs 29
  have bm := new_below w1 (.cells m.cs 29)
  have ox1 := ox.below bm
  have b2 := bx.trans (bm.mono bx.size)
  have e2 : (w1.alloc (.cells m.cs 29)).heap.size = w.heap.size + 2 := by rw [World.size_alloc, e1]
  rw [e1] at om
  unfold MoP.cs at *
  generalize w1.alloc (.cells #[.slice m.ta m.tys.length m.tc, .slice m.sa m.txs.length m.sc, .slice m.fa m.fns.length m.fc] 29) = w2 at *
  have o0 := Own.new w2 zEff 69
  have bn := new_below w2 (.cells zEff 69)
  have ox2 := ox1.below bn
  have om2 := om.below bn
  have b3 := b2.trans (bn.mono b2.size)
  rw [e2] at o0
  clear ox bx bm ox1 om b2 bn e1 e2
  generalize w2.alloc (.cells zEff 69) = w3 at *
  obtain ⟨x0, x1, x2, x3, xf⟩ := own4 ox2
  obtain ⟨m0, m1, m2, mf⟩ := own3 om2
  obtain rfl : some ([0], []) = R := by rw [← HR.out]; rfl
  clear HR
  go_upto_region 32 with fail
  go_wp2_with fail
  refine (ofOp8 w3).mono ?_
  rintro e w4 ⟨ta, tc, pa, pc, rfl, i4, j4, k4⟩
  have o4 := o0.below k4
  have i5 := i4.mono b3.size
  have j5 := j4.mono b3.size
  have b4 := b3.trans (k4.mono b3.size)
  clear x0 x1 x2 x3 xf m0 m1 m2 mf o0 b3 k4 ox2 om2 i4 j4
  go_wp2_with (refine wpList_put rfl 69 (.tmp 4) (.tmp 69) rfl rfl (w.heap.size + 2) 0 rfl rfl o4 infoE rfl (by simp) rfl ?_; intro w5 o5 g5)
  refine bodyPost_cell2 (g := w.heap.size + 2) (t := 69) rfl rfl rfl o5 Tryd.underlying69 rfl (by kernel_rfl) ?_
  exact ⟨⟨_, _, _, _, rfl, i5.grown g5 o4 (by decide), j5.grown g5 o4 (by decide)⟩, b4.grown g5 b4.size (fun k e => by cases e; omega)⟩
set_option maxHeartbeats 2000000 in
set_option maxRecDepth 100000 in
theorem effectOf9 {w : World} {m : MoP} (hm : MoIn w m) (hs : Small m 100000) (a b : Int) (ao : Option Addr) (n cp : Nat) :
    Calls Tryd.prog 27 #[.agg #[.int .u8 9, .int .i64 a, .int .i64 b, .slice ao n cp], .agg m.cs] w (OutRet w (effM m 9 a b)) := by
  clear hm hs
  obtain ⟨R, HR⟩ : ∃ R, Hid (effM m 9 a b = R) := ⟨_, rfl⟩
  rw [HR.out]
  have ox := Own.new w #[.int .u8 9, .int .i64 a, .int .i64 b, .slice ao n cp] 24
  have bx := new_below w (.cells #[.int .u8 9, .int .i64 a, .int .i64 b, .slice ao n cp] 24)
  go_enter Tryd.func27, Tryd.ntmps27
  go_upto_region 1 with fail
  have e1 : (w.alloc (.cells #[.int .u8 9, .int .i64 a, .int .i64 b, .slice ao n cp] 24)).heap.size = w.heap.size + 1 := World.size_alloc _ _
  generalize w.alloc (.cells #[.int .u8 9, .int .i64 a, .int .i64 b, .slice ao n cp] 24) = w1 at *
  have om := Own.new w1 m.cs 29
  have bm := new_below w1 (.cells m.cs 29)
  have ox1 := ox.below bm
  have b2 := bx.trans (bm.mono bx.size)
  have e2 : (w1.alloc (.cells m.cs 29)).heap.size = w.heap.size + 2 := by rw [World.size_alloc, e1]
  rw [e1] at om
  unfold MoP.cs at *
  generalize w1.alloc (.cells #[.slice m.ta m.tys.length m.tc, .slice m.sa m.txs.length m.sc, .slice m.fa m.fns.length m.fc] 29) = w2 at *
  have o0 := Own.new w2 zEff 69
  have bn := new_below w2 (.cells zEff 69)
  have ox2 := ox1.below bn
  have om2 := om.below bn
  have b3 := b2.trans (bn.mono b2.size)
  rw [e2] at o0
  clear ox bx bm ox1 om b2 bn e1 e2
  generalize w2.alloc (.cells zEff 69) = w3 at *
  obtain ⟨x0, x1, x2, x3, xf⟩ := own4 ox2
  obtain ⟨m0, m1, m2, mf⟩ := own3 om2
  obtain rfl : some ([0], []) = R := by rw [← HR.out]; rfl
  clear HR
  go_upto_region 32 with fail
  go_wp2_with fail
  refine (ofOp9 w3).mono ?_
  rintro e w4 ⟨ta, tc, pa, pc, rfl, i4, j4, k4⟩
  have o4 := o0.below k4
  have i5 := i4.mono b3.size
  have j5 := j4.mono b3.size
  have b4 := b3.trans (k4.mono b3.size)
  clear x0 x1 x2 x3 xf m0 m1 m2 mf o0 b3 k4 ox2 om2 i4 j4
  go_wp2_with (refine wpList_put rfl 69 (.tmp 4) (.tmp 69) rfl rfl (w.heap.size + 2) 0 rfl rfl o4 infoE rfl (by simp) rfl ?_; intro w5 o5 g5)
  refine bodyPost_cell2 (g := w.heap.size + 2) (t := 69) rfl rfl rfl o5 Tryd.underlying69 rfl (by kernel_rfl) ?_
  exact ⟨⟨_, _, _, _, rfl, i5.grown g5 o4 (by decide), j5.grown g5 o4 (by decide)⟩, b4.grown g5 b4.size (fun k e => by cases e; omega)⟩
set_option maxHeartbeats 2000000 in
set_option maxRecDepth 100000 in
theorem effectOf10 {w : World} {m : MoP} (hm : MoIn w m) (hs : Small m 100000) (a b : Int) (ao : Option Addr) (n cp : Nat) :
    Calls Tryd.prog 27 #[.agg #[.int .u8 10, .int .i64 a, .int .i64 b, .slice ao n cp], .agg m.cs] w (OutRet w (effM m 10 a b)) := by
  clear hm hs
  obtain ⟨R, HR⟩ : ∃ R, Hid (effM m 10 a b = R) := ⟨_, rfl⟩
  rw [HR.out]
  have ox := Own.new w #[.int .u8 10, .int .i64 a, .int .i64 b, .slice ao n cp] 24
  have bx := new_below w (.cells #[.int .u8 10, .int .i64 a, .int .i64 b, .slice ao n cp] 24)
  go_enter Tryd.func27, Tryd.ntmps27
  go_upto_region 1 with fail
  have e1 : (w.alloc (.cells #[.int .u8 10, .int .i64 a, .int .i64 b, .slice ao n cp] 24)).heap.size = w.heap.size + 1 := World.size_alloc _ _
  generalize w.alloc (.cells #[.int .u8 10, .int .i64 a, .int .i64 b, .slice ao n cp] 24) = w1 at *
  have om := Own.new w1 m.cs 29
  have bm := new_below w1 (.cells m.cs 29)
  have ox1 := ox.below bm
  have b2 := bx.trans (bm.mono bx.size)
  have e2 : (w1.alloc (.cells m.cs 29)).heap.size = w.heap.size + 2 := by rw [World.size_alloc, e1]
  rw [e1] at om
  unfold MoP.cs at *
  generalize w1.alloc (.cells #[.slice m.ta m.tys.length m.tc, .slice m.sa m.txs.length m.sc, .slice m.fa m.fns.length m.fc] 29) = w2 at *
  have o0 := Own.new w2 zEff 69
  have bn := new_below w2 (.cells zEff 69)
  have ox2 := ox1.below bn
  have om2 := om.below bn
  have b3 := b2.trans (bn.mono b2.size)
  rw [e2] at o0
  clear ox bx bm ox1 om b2 bn e1 e2
  generalize w2.alloc (.cells zEff 69) = w3 at *
  obtain ⟨x0, x1, x2, x3, xf⟩ := own4 ox2
  obtain ⟨m0, m1, m2, mf⟩ := own3 om2
  obtain rfl : some ([0], [0, 0]) = R := by rw [← HR.out]; rfl
  clear HR
  go_upto_region 32 with fail
  go_wp2_with fail
  refine (ofOp10 w3).mono ?_
  rintro e w4 ⟨ta, tc, pa, pc, rfl, i4, j4, k4⟩
  have o4 := o0.below k4
  have i5 := i4.mono b3.size
  have j5 := j4.mono b3.size
  have b4 := b3.trans (k4.mono b3.size)
  clear x0 x1 x2 x3 xf m0 m1 m2 mf o0 b3 k4 ox2 om2 i4 j4
  go_wp2_with (refine wpList_put rfl 69 (.tmp 4) (.tmp 69) rfl rfl (w.heap.size + 2) 0 rfl rfl o4 infoE rfl (by simp) rfl ?_; intro w5 o5 g5)
  refine bodyPost_cell2 (g := w.heap.size + 2) (t := 69) rfl rfl rfl o5 Tryd.underlying69 rfl (by kernel_rfl) ?_
  exact ⟨⟨_, _, _, _, rfl, i5.grown g5 o4 (by decide), j5.grown g5 o4 (by decide)⟩, b4.grown g5 b4.size (fun k e => by cases e; omega)⟩
set_option maxHeartbeats 2000000 in
set_option maxRecDepth 100000 in
theorem effectOf11 {w : World} {m : MoP} (hm : MoIn w m) (hs : Small m 100000) (a b : Int) (ao : Option Addr) (n cp : Nat) :
    Calls Tryd.prog 27 #[.agg #[.int .u8 11, .int .i64 a, .int .i64 b, .slice ao n cp], .agg m.cs] w (OutRet w (effM m 11 a b)) := by
  clear hm hs
  obtain ⟨R, HR⟩ : ∃ R, Hid (effM m 11 a b = R) := ⟨_, rfl⟩
  rw [HR.out]
  have ox := Own.new w #[.int .u8 11, .int .i64 a, .int .i64 b, .slice ao n cp] 24
  have bx := new_below w (.cells #[.int .u8 11, .int .i64 a, .int .i64 b, .slice ao n cp] 24)
  go_enter Tryd.func27, Tryd.ntmps27
  go_upto_region 1 with fail
  have e1 : (w.alloc (.cells #[.int .u8 11, .int .i64 a, .int .i64 b, .slice ao n cp] 24)).heap.size = w.heap.size + 1 := World.size_alloc _ _
  generalize w.alloc (.cells #[.int .u8 11, .int .i64 a, .int .i64 b, .slice ao n cp] 24) = w1 at *
  have om := Own.new w1 m.cs 29
  have bm := new_below w1 (.cells m.cs 29)
  have ox1 := ox.below bm
  have b2 := bx.trans (bm.mono bx.size)
  have e2 : (w1.alloc (.cells m.cs 29)).heap.size = w.heap.size + 2 := by rw [World.size_alloc, e1]
  rw [e1] at om
  unfold MoP.cs at *
  generalize w1.alloc (.cells #[.slice m.ta m.tys.length m.tc, .slice m.sa m.txs.length m.sc, .slice m.fa m.fns.length m.fc] 29) = w2 at *
  have o0 := Own.new w2 zEff 69
  have bn := new_below w2 (.cells zEff 69)
  have ox2 := ox1.below bn
  have om2 := om.below bn
  have b3 := b2.trans (bn.mono b2.size)
  rw [e2] at o0
  clear ox bx bm ox1 om b2 bn e1 e2
  generalize w2.alloc (.cells zEff 69) = w3 at *
  obtain ⟨x0, x1, x2, x3, xf⟩ := own4 ox2
  obtain ⟨m0, m1, m2, mf⟩ := own3 om2
  obtain rfl : some ([a, a], [a]) = R := by rw [← HR.out]; rfl
  clear HR
  go_upto_region 33 with fail
  go_wp2_with fail
  refine (ofWidth11 w3 a b ao n cp).mono ?_
  rintro e w4 ⟨ta, tc, pa, pc, rfl, i4, j4, k4⟩
  have o4 := o0.below k4
  have i5 := i4.mono b3.size
  have j5 := j4.mono b3.size
  have b4 := b3.trans (k4.mono b3.size)
  clear x0 x1 x2 x3 xf m0 m1 m2 mf o0 b3 k4 ox2 om2 i4 j4
  go_wp2_with (refine wpList_put rfl 69 (.tmp 4) (.tmp 71) rfl rfl (w.heap.size + 2) 0 rfl rfl o4 infoE rfl (by simp) rfl ?_; intro w5 o5 g5)
  refine bodyPost_cell2 (g := w.heap.size + 2) (t := 69) rfl rfl rfl o5 Tryd.underlying69 rfl (by kernel_rfl) ?_
  exact ⟨⟨_, _, _, _, rfl, i5.grown g5 o4 (by decide), j5.grown g5 o4 (by decide)⟩, b4.grown g5 b4.size (fun k e => by cases e; omega)⟩
set_option maxHeartbeats 2000000 in
set_option maxRecDepth 100000 in
theorem effectOf12 {w : World} {m : MoP} (hm : MoIn w m) (hs : Small m 100000) (a b : Int) (ao : Option Addr) (n cp : Nat) :
    Calls Tryd.prog 27 #[.agg #[.int .u8 12, .int .i64 a, .int .i64 b, .slice ao n cp], .agg m.cs] w (OutRet w (effM m 12 a b)) := by
  clear hm hs
  obtain ⟨R, HR⟩ : ∃ R, Hid (effM m 12 a b = R) := ⟨_, rfl⟩
  rw [HR.out]
  have ox := Own.new w #[.int .u8 12, .int .i64 a, .int .i64 b, .slice ao n cp] 24
  have bx := new_below w (.cells #[.int .u8 12, .int .i64 a, .int .i64 b, .slice ao n cp] 24)
  go_enter Tryd.func27, Tryd.ntmps27
  go_upto_region 1 with fail
  have e1 : (w.alloc (.cells #[.int .u8 12, .int .i64 a, .int .i64 b, .slice ao n cp] 24)).heap.size = w.heap.size + 1 := World.size_alloc _ _
  generalize w.alloc (.cells #[.int .u8 12, .int .i64 a, .int .i64 b, .slice ao n cp] 24) = w1 at *
  have om := Own.new w1 m.cs 29
  have bm := new_below w1 (.cells m.cs 29)
  have ox1 := ox.below bm
  have b2 := bx.trans (bm.mono bx.size)
  have e2 : (w1.alloc (.cells m.cs 29)).heap.size = w.heap.size + 2 := by rw [World.size_alloc, e1]
  rw [e1] at om
  unfold MoP.cs at *
  generalize w1.alloc (.cells #[.slice m.ta m.tys.length m.tc, .slice m.sa m.txs.length m.sc, .slice m.fa m.fns.length m.fc] 29) = w2 at *
  have o0 := Own.new w2 zEff 69
  have bn := new_below w2 (.cells zEff 69)
  have ox2 := ox1.below bn
  have om2 := om.below bn
  have b3 := b2.trans (bn.mono b2.size)
  rw [e2] at o0
  clear ox bx bm ox1 om b2 bn e1 e2
  generalize w2.alloc (.cells zEff 69) = w3 at *
  obtain ⟨x0, x1, x2, x3, xf⟩ := own4 ox2
  obtain ⟨m0, m1, m2, mf⟩ := own3 om2
  obtain rfl : some ([a, a], [a]) = R := by rw [← HR.out]; rfl
  clear HR
  go_upto_region 33 with fail
  go_wp2_with fail
  refine (ofWidth12 w3 a b ao n cp).mono ?_
  rintro e w4 ⟨ta, tc, pa, pc, rfl, i4, j4, k4⟩
  have o4 := o0.below k4
  have i5 := i4.mono b3.size
  have j5 := j4.mono b3.size
  have b4 := b3.trans (k4.mono b3.size)
  clear x0 x1 x2 x3 xf m0 m1 m2 mf o0 b3 k4 ox2 om2 i4 j4
  go_wp2_with (refine wpList_put rfl 69 (.tmp 4) (.tmp 71) rfl rfl (w.heap.size + 2) 0 rfl rfl o4 infoE rfl (by simp) rfl ?_; intro w5 o5 g5)
  refine bodyPost_cell2 (g := w.heap.size + 2) (t := 69) rfl rfl rfl o5 Tryd.underlying69 rfl (by kernel_rfl) ?_
  exact ⟨⟨_, _, _, _, rfl, i5.grown g5 o4 (by decide), j5.grown g5 o4 (by decide)⟩, b4.grown g5 b4.size (fun k e => by cases e; omega)⟩
set_option maxHeartbeats 2000000 in
set_option maxRecDepth 100000 in
theorem effectOf13 {w : World} {m : MoP} (hm : MoIn w m) (hs : Small m 100000) (a b : Int) (ao : Option Addr) (n cp : Nat) :
    Calls Tryd.prog 27 #[.agg #[.int .u8 13, .int .i64 a, .int .i64 b, .slice ao n cp], .agg m.cs] w (OutRet w (effM m 13 a b)) := by
  clear hm hs
  obtain ⟨R, HR⟩ : ∃ R, Hid (effM m 13 a b = R) := ⟨_, rfl⟩
  rw [HR.out]
  have ox := Own.new w #[.int .u8 13, .int .i64 a, .int .i64 b, .slice ao n cp] 24
  have bx := new_below w (.cells #[.int .u8 13, .int .i64 a, .int .i64 b, .slice ao n cp] 24)
  go_enter Tryd.func27, Tryd.ntmps27
  go_upto_region 1 with fail
  have e1 : (w.alloc (.cells #[.int .u8 13, .int .i64 a, .int .i64 b, .slice ao n cp] 24)).heap.size = w.heap.size + 1 := World.size_alloc _ _
  generalize w.alloc (.cells #[.int .u8 13, .int .i64 a, .int .i64 b, .slice ao n cp] 24) = w1 at *
  have om := Own.new w1 m.cs 29
  have bm := new_below w1 (.cells m.cs 29)
  have ox1 := ox.below bm
  have b2 := bx.trans (bm.mono bx.size)
  have e2 : (w1.alloc (.cells m.cs 29)).heap.size = w.heap.size + 2 := by rw [World.size_alloc, e1]
  rw [e1] at om
  unfold MoP.cs at *
  generalize w1.alloc (.cells #[.slice m.ta m.tys.length m.tc, .slice m.sa m.txs.length m.sc, .slice m.fa m.fns.length m.fc] 29) = w2 at *
  have o0 := Own.new w2 zEff 69
  have bn := new_below w2 (.cells zEff 69)
  have ox2 := ox1.below bn
  have om2 := om.below bn
  have b3 := b2.trans (bn.mono b2.size)
  rw [e2] at o0
  clear ox bx bm ox1 om b2 bn e1 e2
  generalize w2.alloc (.cells zEff 69) = w3 at *
  obtain ⟨x0, x1, x2, x3, xf⟩ := own4 ox2
  obtain ⟨m0, m1, m2, mf⟩ := own3 om2
  obtain rfl : some ([a, a], [a]) = R := by rw [← HR.out]; rfl
  clear HR
  go_upto_region 33 with fail
  go_wp2_with fail
  refine (ofWidth13 w3 a b ao n cp).mono ?_
  rintro e w4 ⟨ta, tc, pa, pc, rfl, i4, j4, k4⟩
  have o4 := o0.below k4
  have i5 := i4.mono b3.size
  have j5 := j4.mono b3.size
  have b4 := b3.trans (k4.mono b3.size)
  clear x0 x1 x2 x3 xf m0 m1 m2 mf o0 b3 k4 ox2 om2 i4 j4
  go_wp2_with (refine wpList_put rfl 69 (.tmp 4) (.tmp 71) rfl rfl (w.heap.size + 2) 0 rfl rfl o4 infoE rfl (by simp) rfl ?_; intro w5 o5 g5)
  refine bodyPost_cell2 (g := w.heap.size + 2) (t := 69) rfl rfl rfl o5 Tryd.underlying69 rfl (by kernel_rfl) ?_
  exact ⟨⟨_, _, _, _, rfl, i5.grown g5 o4 (by decide), j5.grown g5 o4 (by decide)⟩, b4.grown g5 b4.size (fun k e => by cases e; omega)⟩
end Go.Proofs.YtjfdlphkmpkjdaaDoor
