/-
  CONTRACT of effectOf: by the op.
-/
import Derived.Test.YtjfdlphkmpkjdaaDoorJts
namespace Go.Proofs.YtjfdlphkmpkjdaaDoor
open Go.RowKit
set_option linter.unusedVariables false

set_option maxHeartbeats 2000000 in
set_option maxRecDepth 100000 in
theorem effectOf14 {w : World} {m : MoP} (hm : MoIn w m) (hs : Small m 100000) (a b : Int) (ao : Option Addr) (n cp : Nat) :
    Calls Tryd.prog 27 #[.agg #[.int .u8 14, .int .i64 a, .int .i64 b, .slice ao n cp], .agg m.cs] w (OutRet w (effM m 14 a b)) := by
  clear hm hs
  obtain ⟨R, HR⟩ : ∃ R, Hid (effM m 14 a b = R) := ⟨_, rfl⟩
  rw [HR.out]
  have ox := Own.new w #[.int .u8 14, .int .i64 a, .int .i64 b, .slice ao n cp] 24
  have bx := new_below w (.cells #[.int .u8 14, .int .i64 a, .int .i64 b, .slice ao n cp] 24)
  go_enter Tryd.func27, Tryd.ntmps27
  go_upto_region 1 with fail
  have e1 : (w.alloc (.cells #[.int .u8 14, .int .i64 a, .int .i64 b, .slice ao n cp] 24)).heap.size = w.heap.size + 1 := World.size_alloc _ _
  generalize w.alloc (.cells #[.int .u8 14, .int .i64 a, .int .i64 b, .slice ao n cp] 24) = w1 at *
  have om := Own.new w1 m.cs 29
  have bm := new_below w1 (.cells m.cs 29)
  have ox1 := ox.below bm
  have b2 := bx.trans (bm.mono bx.size)
  have e2 : (w1.alloc (.cells m.cs 29)).heap.size = w.heap.size + 2 := by rw [World.size_alloc, e1]
  rw [e1] at om
  unfold MoP.cs at *
  generalize w1.alloc (.cells #[.slice m.ta m.tys.length m.tc, .slice m.sa m.txs.length m.sc, .slice m.fa m.fns.length m.fc] 29) = w2 at *
  have o0 := Own.new w2 zEff 69
  have bn := new_below w2 (.cells zEff 69)
  have ox2 := ox1.below bn
  have om2 := om.below bn
  have b3 := b2.trans (bn.mono b2.size)
  rw [e2] at o0
  clear ox bx bm ox1 om b2 bn e1 e2
  generalize w2.alloc (.cells zEff 69) = w3 at *
  obtain ⟨x0, x1, x2, x3, xf⟩ := own4 ox2
  obtain ⟨m0, m1, m2, mf⟩ := own3 om2
  obtain rfl : some ([a, a], [a]) = R := by rw [← HR.out]; rfl
  clear HR
  go_upto_region 33 with fail
  go_wp2_with fail
  refine (ofWidth14 w3 a b ao n cp).mono ?_
  rintro e w4 ⟨ta, tc, pa, pc, rfl, i4, j4, k4⟩
  have o4 := o0.below k4
  have i5 := i4.mono b3.size
  have j5 := j4.mono b3.size
  have b4 := b3.trans (k4.mono b3.size)
  clear x0 x1 x2 x3 xf m0 m1 m2 mf o0 b3 k4 ox2 om2 i4 j4
  go_wp2_with (refine wpList_put rfl 69 (.tmp 4) (.tmp 71) rfl rfl (w.heap.size + 2) 0 rfl rfl o4 infoE rfl (by simp) rfl ?_; intro w5 o5 g5)
  refine bodyPost_cell2 (g := w.heap.size + 2) (t := 69) rfl rfl rfl o5 Tryd.underlying69 rfl (by kernel_rfl) ?_
  exact ⟨⟨_, _, _, _, rfl, i5.grown g5 o4 (by decide), j5.grown g5 o4 (by decide)⟩, b4.grown g5 b4.size (fun k e => by cases e; omega)⟩
set_option maxHeartbeats 2000000 in
set_option maxRecDepth 100000 in
theorem effectOf15 {w : World} {m : MoP} (hm : MoIn w m) (hs : Small m 100000) (a b : Int) (ao : Option Addr) (n cp : Nat) :
    Calls Tryd.prog 27 #[.agg #[.int .u8 15, .int .i64 a, .int .i64 b, .slice ao n cp], .agg m.cs] w (OutRet w (effM m 15 a b)) := by
  clear hm hs
  obtain ⟨R, HR⟩ : ∃ R, Hid (effM m 15 a b = R) := ⟨_, rfl⟩
  rw [HR.out]
  have ox := Own.new w #[.int .u8 15, .int .i64 a, .int .i64 b, .slice ao n cp] 24
  have bx := new_below w (.cells #[.int .u8 15, .int .i64 a, .int .i64 b, .slice ao n cp] 24)
  go_enter Tryd.func27, Tryd.ntmps27
  go_upto_region 1 with fail
  have e1 : (w.alloc (.cells #[.int .u8 15, .int .i64 a, .int .i64 b, .slice ao n cp] 24)).heap.size = w.heap.size + 1 := World.size_alloc _ _
  generalize w.alloc (.cells #[.int .u8 15, .int .i64 a, .int .i64 b, .slice ao n cp] 24) = w1 at *
  have om := Own.new w1 m.cs 29
  have bm := new_below w1 (.cells m.cs 29)
  have ox1 := ox.below bm
  have b2 := bx.trans (bm.mono bx.size)
  have e2 : (w1.alloc (.cells m.cs 29)).heap.size = w.heap.size + 2 := by rw [World.size_alloc, e1]
  rw [e1] at om
  unfold MoP.cs at *
  generalize w1.alloc (.cells #[.slice m.ta m.tys.length m.tc, .slice m.sa m.txs.length m.sc, .slice m.fa m.fns.length m.fc] 29) = w2 at *
  have o0 := Own.new w2 zEff 69
  have bn := new_below w2 (.cells zEff 69)
  have ox2 := ox1.below bn
  have om2 := om.below bn
  have b3 := b2.trans (bn.mono b2.size)
  rw [e2] at o0
  clear ox bx bm ox1 om b2 bn e1 e2
  generalize w2.alloc (.cells zEff 69) = w3 at *
  obtain ⟨x0, x1, x2, x3, xf⟩ := own4 ox2
  obtain ⟨m0, m1, m2, mf⟩ := own3 om2
  obtain rfl : some ([a, a], [a]) = R := by rw [← HR.out]; rfl
  clear HR
  go_upto_region 33 with fail
  go_wp2_with fail
  refine (ofWidth15 w3 a b ao n cp).mono ?_
  rintro e w4 ⟨ta, tc, pa, pc, rfl, i4, j4, k4⟩
  have o4 := o0.below k4
  have i5 := i4.mono b3.size
  have j5 := j4.mono b3.size
  have b4 := b3.trans (k4.mono b3.size)
  clear x0 x1 x2 x3 xf m0 m1 m2 mf o0 b3 k4 ox2 om2 i4 j4
  go_wp2_with (refine wpList_put rfl 69 (.tmp 4) (.tmp 71) rfl rfl (w.heap.size + 2) 0 rfl rfl o4 infoE rfl (by simp) rfl ?_; intro w5 o5 g5)
  refine bodyPost_cell2 (g := w.heap.size + 2) (t := 69) rfl rfl rfl o5 Tryd.underlying69 rfl (by kernel_rfl) ?_
  exact ⟨⟨_, _, _, _, rfl, i5.grown g5 o4 (by decide), j5.grown g5 o4 (by decide)⟩, b4.grown g5 b4.size (fun k e => by cases e; omega)⟩
set_option maxHeartbeats 2000000 in
set_option maxRecDepth 100000 in
theorem effectOf16 {w : World} {m : MoP} (hm : MoIn w m) (hs : Small m 100000) (a b : Int) (ao : Option Addr) (n cp : Nat) :
    Calls Tryd.prog 27 #[.agg #[.int .u8 16, .int .i64 a, .int .i64 b, .slice ao n cp], .agg m.cs] w (OutRet w (effM m 16 a b)) := by
  clear hm hs
  obtain ⟨R, HR⟩ : ∃ R, Hid (effM m 16 a b = R) := ⟨_, rfl⟩
  rw [HR.out]
  have ox := Own.new w #[.int .u8 16, .int .i64 a, .int .i64 b, .slice ao n cp] 24
  have bx := new_below w (.cells #[.int .u8 16, .int .i64 a, .int .i64 b, .slice ao n cp] 24)
  go_enter Tryd.func27, Tryd.ntmps27
  go_upto_region 1 with fail
  have e1 : (w.alloc (.cells #[.int .u8 16, .int .i64 a, .int .i64 b, .slice ao n cp] 24)).heap.size = w.heap.size + 1 := World.size_alloc _ _
  generalize w.alloc (.cells #[.int .u8 16, .int .i64 a, .int .i64 b, .slice ao n cp] 24) = w1 at *
  have om := Own.new w1 m.cs 29
  have bm := new_below w1 (.cells m.cs 29)
  have ox1 := ox.below bm
  have b2 := bx.trans (bm.mono bx.size)
  have e2 : (w1.alloc (.cells m.cs 29)).heap.size = w.heap.size + 2 := by rw [World.size_alloc, e1]
  rw [e1] at om
  unfold MoP.cs at *
  generalize w1.alloc (.cells #[.slice m.ta m.tys.length m.tc, .slice m.sa m.txs.length m.sc, .slice m.fa m.fns.length m.fc] 29) = w2 at *
  have o0 := Own.new w2 zEff 69
  have bn := new_below w2 (.cells zEff 69)
  have ox2 := ox1.below bn
  have om2 := om.below bn
  have b3 := b2.trans (bn.mono b2.size)
  rw [e2] at o0
  clear ox bx bm ox1 om b2 bn e1 e2
  generalize w2.alloc (.cells zEff 69) = w3 at *
  obtain ⟨x0, x1, x2, x3, xf⟩ := own4 ox2
  obtain ⟨m0, m1, m2, mf⟩ := own3 om2
  obtain rfl : some ([a, a], [a]) = R := by rw [← HR.out]; rfl
  clear HR
  go_upto_region 33 with fail
  go_wp2_with fail
  refine (ofWidth16 w3 a b ao n cp).mono ?_
  rintro e w4 ⟨ta, tc, pa, pc, rfl, i4, j4, k4⟩
  have o4 := o0.below k4
  have i5 := i4.mono b3.size
  have j5 := j4.mono b3.size
  have b4 := b3.trans (k4.mono b3.size)
  clear x0 x1 x2 x3 xf m0 m1 m2 mf o0 b3 k4 ox2 om2 i4 j4
  go_wp2_with (refine wpList_put rfl 69 (.tmp 4) (.tmp 71) rfl rfl (w.heap.size + 2) 0 rfl rfl o4 infoE rfl (by simp) rfl ?_; intro w5 o5 g5)
  refine bodyPost_cell2 (g := w.heap.size + 2) (t := 69) rfl rfl rfl o5 Tryd.underlying69 rfl (by kernel_rfl) ?_
  exact ⟨⟨_, _, _, _, rfl, i5.grown g5 o4 (by decide), j5.grown g5 o4 (by decide)⟩, b4.grown g5 b4.size (fun k e => by cases e; omega)⟩
set_option maxHeartbeats 2000000 in
set_option maxRecDepth 100000 in
theorem effectOf17 {w : World} {m : MoP} (hm : MoIn w m) (hs : Small m 100000) (a b : Int) (ao : Option Addr) (n cp : Nat) :
    Calls Tryd.prog 27 #[.agg #[.int .u8 17, .int .i64 a, .int .i64 b, .slice ao n cp], .agg m.cs] w (OutRet w (effM m 17 a b)) := by
  clear hm hs
  obtain ⟨R, HR⟩ : ∃ R, Hid (effM m 17 a b = R) := ⟨_, rfl⟩
  rw [HR.out]
  have ox := Own.new w #[.int .u8 17, .int .i64 a, .int .i64 b, .slice ao n cp] 24
  have bx := new_below w (.cells #[.int .u8 17, .int .i64 a, .int .i64 b, .slice ao n cp] 24)
  go_enter Tryd.func27, Tryd.ntmps27
  go_upto_region 1 with fail
  have e1 : (w.alloc (.cells #[.int .u8 17, .int .i64 a, .int .i64 b, .slice ao n cp] 24)).heap.size = w.heap.size + 1 := World.size_alloc _ _
  generalize w.alloc (.cells #[.int .u8 17, .int .i64 a, .int .i64 b, .slice ao n cp] 24) = w1 at *
  have om := Own.new w1 m.cs 29
  have bm := new_below w1 (.cells m.cs 29)
  have ox1 := ox.below bm
  have b2 := bx.trans (bm.mono bx.size)
  have e2 : (w1.alloc (.cells m.cs 29)).heap.size = w.heap.size + 2 := by rw [World.size_alloc, e1]
  rw [e1] at om
  unfold MoP.cs at *
  generalize w1.alloc (.cells #[.slice m.ta m.tys.length m.tc, .slice m.sa m.txs.length m.sc, .slice m.fa m.fns.length m.fc] 29) = w2 at *
  have o0 := Own.new w2 zEff 69
  have bn := new_below w2 (.cells zEff 69)
  have ox2 := ox1.below bn
  have om2 := om.below bn
  have b3 := b2.trans (bn.mono b2.size)
  rw [e2] at o0
  clear ox bx bm ox1 om b2 bn e1 e2
  generalize w2.alloc (.cells zEff 69) = w3 at *
  obtain ⟨x0, x1, x2, x3, xf⟩ := own4 ox2
  obtain ⟨m0, m1, m2, mf⟩ := own3 om2
  obtain rfl : some ([a, a], [a]) = R := by rw [← HR.out]; rfl
  clear HR
  go_upto_region 33 with fail
  go_wp2_with fail
  refine (ofWidth17 w3 a b ao n cp).mono ?_
  rintro e w4 ⟨ta, tc, pa, pc, rfl, i4, j4, k4⟩
  have o4 := o0.below k4
  have i5 := i4.mono b3.size
  have j5 := j4.mono b3.size
  have b4 := b3.trans (k4.mono b3.size)
  clear x0 x1 x2 x3 xf m0 m1 m2 mf o0 b3 k4 ox2 om2 i4 j4
  go_wp2_with (refine wpList_put rfl 69 (.tmp 4) (.tmp 71) rfl rfl (w.heap.size + 2) 0 rfl rfl o4 infoE rfl (by simp) rfl ?_; intro w5 o5 g5)
  refine bodyPost_cell2 (g := w.heap.size + 2) (t := 69) rfl rfl rfl o5 Tryd.underlying69 rfl (by kernel_rfl) ?_
  exact ⟨⟨_, _, _, _, rfl, i5.grown g5 o4 (by decide), j5.grown g5 o4 (by decide)⟩, b4.grown g5 b4.size (fun k e => by cases e; omega)⟩
set_option maxHeartbeats 2000000 in
set_option maxRecDepth 100000 in
theorem effectOf18 {w : World} {m : MoP} (hm : MoIn w m) (hs : Small m 100000) (a b : Int) (ao : Option Addr) (n cp : Nat) :
    Calls Tryd.prog 27 #[.agg #[.int .u8 18, .int .i64 a, .int .i64 b, .slice ao n cp], .agg m.cs] w (OutRet w (effM m 18 a b)) := by
  clear hm hs
  obtain ⟨R, HR⟩ : ∃ R, Hid (effM m 18 a b = R) := ⟨_, rfl⟩
  rw [HR.out]
  have ox := Own.new w #[.int .u8 18, .int .i64 a, .int .i64 b, .slice ao n cp] 24
  have bx := new_below w (.cells #[.int .u8 18, .int .i64 a, .int .i64 b, .slice ao n cp] 24)
  go_enter Tryd.func27, Tryd.ntmps27
  go_upto_region 1 with fail
  have e1 : (w.alloc (.cells #[.int .u8 18, .int .i64 a, .int .i64 b, .slice ao n cp] 24)).heap.size = w.heap.size + 1 := World.size_alloc _ _
  generalize w.alloc (.cells #[.int .u8 18, .int .i64 a, .int .i64 b, .slice ao n cp] 24) = w1 at *
  have om := Own.new w1 m.cs 29
  have bm := new_below w1 (.cells m.cs 29)
  have ox1 := ox.below bm
  have b2 := bx.trans (bm.mono bx.size)
  have e2 : (w1.alloc (.cells m.cs 29)).heap.size = w.heap.size + 2 := by rw [World.size_alloc, e1]
  rw [e1] at om
  unfold MoP.cs at *
  generalize w1.alloc (.cells #[.slice m.ta m.tys.length m.tc, .slice m.sa m.txs.length m.sc, .slice m.fa m.fns.length m.fc] 29) = w2 at *
  have o0 := Own.new w2 zEff 69
  have bn := new_below w2 (.cells zEff 69)
  have ox2 := ox1.below bn
  have om2 := om.below bn
  have b3 := b2.trans (bn.mono b2.size)
  rw [e2] at o0
  clear ox bx bm ox1 om b2 bn e1 e2
  generalize w2.alloc (.cells zEff 69) = w3 at *
  obtain ⟨x0, x1, x2, x3, xf⟩ := own4 ox2
  obtain ⟨m0, m1, m2, mf⟩ := own3 om2
  obtain rfl : some ([a, a], [a]) = R := by rw [← HR.out]; rfl
  clear HR
  go_upto_region 33 with fail
  go_wp2_with fail
  refine (ofWidth18 w3 a b ao n cp).mono ?_
  rintro e w4 ⟨ta, tc, pa, pc, rfl, i4, j4, k4⟩
  have o4 := o0.below k4
  have i5 := i4.mono b3.size
  have j5 := j4.mono b3.size
  have b4 := b3.trans (k4.mono b3.size)
  clear x0 x1 x2 x3 xf m0 m1 m2 mf o0 b3 k4 ox2 om2 i4 j4
  go_wp2_with (refine wpList_put rfl 69 (.tmp 4) (.tmp 71) rfl rfl (w.heap.size + 2) 0 rfl rfl o4 infoE rfl (by simp) rfl ?_; intro w5 o5 g5)
  refine bodyPost_cell2 (g := w.heap.size + 2) (t := 69) rfl rfl rfl o5 Tryd.underlying69 rfl (by kernel_rfl) ?_
  exact ⟨⟨_, _, _, _, rfl, i5.grown g5 o4 (by decide), j5.grown g5 o4 (by decide)⟩, b4.grown g5 b4.size (fun k e => by cases e; omega)⟩
set_option maxHeartbeats 2000000 in
set_option maxRecDepth 100000 in
theorem effectOf19 {w : World} {m : MoP} (hm : MoIn w m) (hs : Small m 100000) (a b : Int) (ao : Option Addr) (n cp : Nat) :
    Calls Tryd.prog 27 #[.agg #[.int .u8 19, .int .i64 a, .int .i64 b, .slice ao n cp], .agg m.cs] w (OutRet w (effM m 19 a b)) := by
  clear hm hs
  obtain ⟨R, HR⟩ : ∃ R, Hid (effM m 19 a b = R) := ⟨_, rfl⟩
  rw [HR.out]
  have ox := Own.new w #[.int .u8 19, .int .i64 a, .int .i64 b, .slice ao n cp] 24
  have bx := new_below w (.cells #[.int .u8 19, .int .i64 a, .int .i64 b, .slice ao n cp] 24)
  go_enter Tryd.func27, Tryd.ntmps27
  go_upto_region 1 with fail
  have e1 : (w.alloc (.cells #[.int .u8 19, .int .i64 a, .int .i64 b, .slice ao n cp] 24)).heap.size = w.heap.size + 1 := World.size_alloc _ _
  generalize w.alloc (.cells #[.int .u8 19, .int .i64 a, .int .i64 b, .slice ao n cp] 24) = w1 at *
  have om := Own.new w1 m.cs 29
  have bm := new_below w1 (.cells m.cs 29)
  have ox1 := ox.below bm
  have b2 := bx.trans (bm.mono bx.size)
  have e2 : (w1.alloc (.cells m.cs 29)).heap.size = w.heap.size + 2 := by rw [World.size_alloc, e1]
  rw [e1] at om
  unfold MoP.cs at *
  generalize w1.alloc (.cells #[.slice m.ta m.tys.length m.tc, .slice m.sa m.txs.length m.sc, .slice m.fa m.fns.length m.fc] 29) = w2 at *
  have o0 := Own.new w2 zEff 69
  have bn := new_below w2 (.cells zEff 69)
  have ox2 := ox1.below bn
  have om2 := om.below bn
  have b3 := b2.trans (bn.mono b2.size)
  rw [e2] at o0
  clear ox bx bm ox1 om b2 bn e1 e2
  generalize w2.alloc (.cells zEff 69) = w3 at *
  obtain ⟨x0, x1, x2, x3, xf⟩ := own4 ox2
  obtain ⟨m0, m1, m2, mf⟩ := own3 om2
  obtain rfl : some ([a, a], [a]) = R := by rw [← HR.out]; rfl
  clear HR
  go_upto_region 33 with fail
  go_wp2_with fail
  refine (ofWidth19 w3 a b ao n cp).mono ?_
  rintro e w4 ⟨ta, tc, pa, pc, rfl, i4, j4, k4⟩
  have o4 := o0.below k4
  have i5 := i4.mono b3.size
  have j5 := j4.mono b3.size
  have b4 := b3.trans (k4.mono b3.size)
  clear x0 x1 x2 x3 xf m0 m1 m2 mf o0 b3 k4 ox2 om2 i4 j4
  go_wp2_with (refine wpList_put rfl 69 (.tmp 4) (.tmp 71) rfl rfl (w.heap.size + 2) 0 rfl rfl o4 infoE rfl (by simp) rfl ?_; intro w5 o5 g5)
  refine bodyPost_cell2 (g := w.heap.size + 2) (t := 69) rfl rfl rfl o5 Tryd.underlying69 rfl (by kernel_rfl) ?_
  exact ⟨⟨_, _, _, _, rfl, i5.grown g5 o4 (by decide), j5.grown g5 o4 (by decide)⟩, b4.grown g5 b4.size (fun k e => by cases e; omega)⟩
set_option maxHeartbeats 2000000 in
set_option maxRecDepth 100000 in
theorem effectOf20 {w : World} {m : MoP} (hm : MoIn w m) (hs : Small m 100000) (a b : Int) (ao : Option Addr) (n cp : Nat) :
    Calls Tryd.prog 27 #[.agg #[.int .u8 20, .int .i64 a, .int .i64 b, .slice ao n cp], .agg m.cs] w (OutRet w (effM m 20 a b)) := by
  clear hm hs
  obtain ⟨R, HR⟩ : ∃ R, Hid (effM m 20 a b = R) := ⟨_, rfl⟩
  rw [HR.out]
  have ox := Own.new w #[.int .u8 20, .int .i64 a, .int .i64 b, .slice ao n cp] 24
  have bx := new_below w (.cells #[.int .u8 20, .int .i64 a, .int .i64 b, .slice ao n cp] 24)
  go_enter Tryd.func27, Tryd.ntmps27
  go_upto_region 1 with fail
  have e1 : (w.alloc (.cells #[.int .u8 20, .int .i64 a, .int .i64 b, .slice ao n cp] 24)).heap.size = w.heap.size + 1 := World.size_alloc _ _
  generalize w.alloc (.cells #[.int .u8 20, .int .i64 a, .int .i64 b, .slice ao n cp] 24) = w1 at *
  have om := Own.new w1 m.cs 29
  have bm := new_below w1 (.cells m.cs 29)
  have ox1 := ox.below bm
  have b2 := bx.trans (bm.mono bx.size)
  have e2 : (w1.alloc (.cells m.cs 29)).heap.size = w.heap.size + 2 := by rw [World.size_alloc, e1]
  rw [e1] at om
  unfold MoP.cs at *
  generalize w1.alloc (.cells #[.slice m.ta m.tys.length m.tc, .slice m.sa m.txs.length m.sc, .slice m.fa m.fns.length m.fc] 29) = w2 at *
  have o0 := Own.new w2 zEff 69
  have bn := new_below w2 (.cells zEff 69)
  have ox2 := ox1.below bn
  have om2 := om.below bn
  have b3 := b2.trans (bn.mono b2.size)
  rw [e2] at o0
  clear ox bx bm ox1 om b2 bn e1 e2
  generalize w2.alloc (.cells zEff 69) = w3 at *
  obtain ⟨x0, x1, x2, x3, xf⟩ := own4 ox2
  obtain ⟨m0, m1, m2, mf⟩ := own3 om2
  obtain rfl : some ([a, a], [a]) = R := by rw [← HR.out]; rfl
  clear HR
  go_upto_region 33 with fail
  go_wp2_with fail
  refine (ofWidth20 w3 a b ao n cp).mono ?_
  rintro e w4 ⟨ta, tc, pa, pc, rfl, i4, j4, k4⟩
  have o4 := o0.below k4
  have i5 := i4.mono b3.size
  have j5 := j4.mono b3.size
  have b4 := b3.trans (k4.mono b3.size)
  clear x0 x1 x2 x3 xf m0 m1 m2 mf o0 b3 k4 ox2 om2 i4 j4
  go_wp2_with (refine wpList_put rfl 69 (.tmp 4) (.tmp 71) rfl rfl (w.heap.size + 2) 0 rfl rfl o4 infoE rfl (by simp) rfl ?_; intro w5 o5 g5)
  refine bodyPost_cell2 (g := w.heap.size + 2) (t := 69) rfl rfl rfl o5 Tryd.underlying69 rfl (by kernel_rfl) ?_
  exact ⟨⟨_, _, _, _, rfl, i5.grown g5 o4 (by decide), j5.grown g5 o4 (by decide)⟩, b4.grown g5 b4.size (fun k e => by cases e; omega)⟩
set_option maxHeartbeats 2000000 in
set_option maxRecDepth 100000 in
theorem effectOf21 {w : World} {m : MoP} (hm : MoIn w m) (hs : Small m 100000) (a b : Int) (ao : Option Addr) (n cp : Nat) :
    Calls Tryd.prog 27 #[.agg #[.int .u8 21, .int .i64 a, .int .i64 b, .slice ao n cp], .agg m.cs] w (OutRet w (effM m 21 a b)) := by
  clear hm hs
  obtain ⟨R, HR⟩ : ∃ R, Hid (effM m 21 a b = R) := ⟨_, rfl⟩
  rw [HR.out]
  have ox := Own.new w #[.int .u8 21, .int .i64 a, .int .i64 b, .slice ao n cp] 24
  have bx := new_below w (.cells #[.int .u8 21, .int .i64 a, .int .i64 b, .slice ao n cp] 24)
  go_enter Tryd.func27, Tryd.ntmps27
  go_upto_region 1 with fail
  have e1 : (w.alloc (.cells #[.int .u8 21, .int .i64 a, .int .i64 b, .slice ao n cp] 24)).heap.size = w.heap.size + 1 := World.size_alloc _ _
  generalize w.alloc (.cells #[.int .u8 21, .int .i64 a, .int .i64 b, .slice ao n cp] 24) = w1 at *
  have om := Own.new w1 m.cs 29
  have bm := new_below w1 (.cells m.cs 29)
  have ox1 := ox.below bm
  have b2 := bx.trans (bm.mono bx.size)
  have e2 : (w1.alloc (.cells m.cs 29)).heap.size = w.heap.size + 2 := by rw [World.size_alloc, e1]
  rw [e1] at om
  unfold MoP.cs at *
  generalize w1.alloc (.cells #[.slice m.ta m.tys.length m.tc, .slice m.sa m.txs.length m.sc, .slice m.fa m.fns.length m.fc] 29) = w2 at *
  have o0 := Own.new w2 zEff 69
  have bn := new_below w2 (.cells zEff 69)
  have ox2 := ox1.below bn
  have om2 := om.below bn
  have b3 := b2.trans (bn.mono b2.size)
  rw [e2] at o0
  clear ox bx bm ox1 om b2 bn e1 e2
  generalize w2.alloc (.cells zEff 69) = w3 at *
  obtain ⟨x0, x1, x2, x3, xf⟩ := own4 ox2
  obtain ⟨m0, m1, m2, mf⟩ := own3 om2
  obtain rfl : some ([a], [a]) = R := by rw [← HR.out]; rfl
  clear HR
  go_upto_region 33 with fail
  go_wp2_with fail
  refine (ofWidth21 w3 a b ao n cp).mono ?_
  rintro e w4 ⟨ta, tc, pa, pc, rfl, i4, j4, k4⟩
  have o4 := o0.below k4
  have i5 := i4.mono b3.size
  have j5 := j4.mono b3.size
  have b4 := b3.trans (k4.mono b3.size)
  clear x0 x1 x2 x3 xf m0 m1 m2 mf o0 b3 k4 ox2 om2 i4 j4
  go_wp2_with (refine wpList_put rfl 69 (.tmp 4) (.tmp 71) rfl rfl (w.heap.size + 2) 0 rfl rfl o4 infoE rfl (by simp) rfl ?_; intro w5 o5 g5)
  refine bodyPost_cell2 (g := w.heap.size + 2) (t := 69) rfl rfl rfl o5 Tryd.underlying69 rfl (by kernel_rfl) ?_
  exact ⟨⟨_, _, _, _, rfl, i5.grown g5 o4 (by decide), j5.grown g5 o4 (by decide)⟩, b4.grown g5 b4.size (fun k e => by cases e; omega)⟩
set_option maxHeartbeats 2000000 in
set_option maxRecDepth 100000 in
theorem effectOf22 {w : World} {m : MoP} (hm : MoIn w m) (hs : Small m 100000) (a b : Int) (ao : Option Addr) (n cp : Nat) :
    Calls Tryd.prog 27 #[.agg #[.int .u8 22, .int .i64 a, .int .i64 b, .slice ao n cp], .agg m.cs] w (OutRet w (effM m 22 a b)) := by
  clear hm hs
  obtain ⟨R, HR⟩ : ∃ R, Hid (effM m 22 a b = R) := ⟨_, rfl⟩
  rw [HR.out]
  have ox := Own.new w #[.int .u8 22, .int .i64 a, .int .i64 b, .slice ao n cp] 24
  have bx := new_below w (.cells #[.int .u8 22, .int .i64 a, .int .i64 b, .slice ao n cp] 24)
  go_enter Tryd.func27, Tryd.ntmps27
  go_upto_region 1 with fail
  have e1 : (w.alloc (.cells #[.int .u8 22, .int .i64 a, .int .i64 b, .slice ao n cp] 24)).heap.size = w.heap.size + 1 := World.size_alloc _ _
  generalize w.alloc (.cells #[.int .u8 22, .int .i64 a, .int .i64 b, .slice ao n cp] 24) = w1 at *
  have om := Own.new w1 m.cs 29
  have bm := new_below w1 (.cells m.cs 29)
  have ox1 := ox.below bm
  have b2 := bx.trans (bm.mono bx.size)
  have e2 : (w1.alloc (.cells m.cs 29)).heap.size = w.heap.size + 2 := by rw [World.size_alloc, e1]
  rw [e1] at om
  unfold MoP.cs at *
  generalize w1.alloc (.cells #[.slice m.ta m.tys.length m.tc, .slice m.sa m.txs.length m.sc, .slice m.fa m.fns.length m.fc] 29) = w2 at *
  have o0 := Own.new w2 zEff 69
  have bn := new_below w2 (.cells zEff 69)
  have ox2 := ox1.below bn
  have om2 := om.below bn
  have b3 := b2.trans (bn.mono b2.size)
  rw [e2] at o0
  clear ox bx bm ox1 om b2 bn e1 e2
  generalize w2.alloc (.cells zEff 69) = w3 at *
  obtain ⟨x0, x1, x2, x3, xf⟩ := own4 ox2
  obtain ⟨m0, m1, m2, mf⟩ := own3 om2
  obtain rfl : some ([a], [a]) = R := by rw [← HR.out]; rfl
  clear HR
  go_upto_region 33 with fail
  go_wp2_with fail
  refine (ofWidth22 w3 a b ao n cp).mono ?_
  rintro e w4 ⟨ta, tc, pa, pc, rfl, i4, j4, k4⟩
  have o4 := o0.below k4
  have i5 := i4.mono b3.size
  have j5 := j4.mono b3.size
  have b4 := b3.trans (k4.mono b3.size)
  clear x0 x1 x2 x3 xf m0 m1 m2 mf o0 b3 k4 ox2 om2 i4 j4
  go_wp2_with (refine wpList_put rfl 69 (.tmp 4) (.tmp 71) rfl rfl (w.heap.size + 2) 0 rfl rfl o4 infoE rfl (by simp) rfl ?_; intro w5 o5 g5)
  refine bodyPost_cell2 (g := w.heap.size + 2) (t := 69) rfl rfl rfl o5 Tryd.underlying69 rfl (by kernel_rfl) ?_
  exact ⟨⟨_, _, _, _, rfl, i5.grown g5 o4 (by decide), j5.grown g5 o4 (by decide)⟩, b4.grown g5 b4.size (fun k e => by cases e; omega)⟩
set_option maxHeartbeats 2000000 in
set_option maxRecDepth 100000 in
theorem effectOf23 {w : World} {m : MoP} (hm : MoIn w m) (hs : Small m 100000) (a b : Int) (ao : Option Addr) (n cp : Nat) :
    Calls Tryd.prog 27 #[.agg #[.int .u8 23, .int .i64 a, .int .i64 b, .slice ao n cp], .agg m.cs] w (OutRet w (effM m 23 a b)) := by
  clear hm hs
  obtain ⟨R, HR⟩ : ∃ R, Hid (effM m 23 a b = R) := ⟨_, rfl⟩
  rw [HR.out]
  have ox := Own.new w #[.int .u8 23, .int .i64 a, .int .i64 b, .slice ao n cp] 24
  have bx := new_below w (.cells #[.int .u8 23, .int .i64 a, .int .i64 b, .slice ao n cp] 24)
  go_enter Tryd.func27, Tryd.ntmps27
  go_upto_region 1 with fail
  have e1 : (w.alloc (.cells #[.int .u8 23, .int .i64 a, .int .i64 b, .slice ao n cp] 24)).heap.size = w.heap.size + 1 := World.size_alloc _ _
  generalize w.alloc (.cells #[.int .u8 23, .int .i64 a, .int .i64 b, .slice ao n cp] 24) = w1 at *
  have om := Own.new w1 m.cs 29
  have bm := new_below w1 (.cells m.cs 29)
  have ox1 := ox.below bm
  have b2 := bx.trans (bm.mono bx.size)
  have e2 : (w1.alloc (.cells m.cs 29)).heap.size = w.heap.size + 2 := by rw [World.size_alloc, e1]
  rw [e1] at om
  unfold MoP.cs at *
  generalize w1.alloc (.cells #[.slice m.ta m.tys.length m.tc, .slice m.sa m.txs.length m.sc, .slice m.fa m.fns.length m.fc] 29) = w2 at *
  have o0 := Own.new w2 zEff 69
  have bn := new_below w2 (.cells zEff 69)
  have ox2 := ox1.below bn
  have om2 := om.below bn
  have b3 := b2.trans (bn.mono b2.size)
  rw [e2] at o0
  clear ox bx bm ox1 om b2 bn e1 e2
  generalize w2.alloc (.cells zEff 69) = w3 at *
  obtain ⟨x0, x1, x2, x3, xf⟩ := own4 ox2
  obtain ⟨m0, m1, m2, mf⟩ := own3 om2
  obtain rfl : some ([a, a], [4]) = R := by rw [← HR.out]; rfl
  clear HR
  go_upto_region 33 with fail
  go_wp2_with fail
  refine (ofWidth23 w3 a b ao n cp).mono ?_
  rintro e w4 ⟨ta, tc, pa, pc, rfl, i4, j4, k4⟩
  have o4 := o0.below k4
  have i5 := i4.mono b3.size
  have j5 := j4.mono b3.size
  have b4 := b3.trans (k4.mono b3.size)
  clear x0 x1 x2 x3 xf m0 m1 m2 mf o0 b3 k4 ox2 om2 i4 j4
  go_wp2_with (refine wpList_put rfl 69 (.tmp 4) (.tmp 71) rfl rfl (w.heap.size + 2) 0 rfl rfl o4 infoE rfl (by simp) rfl ?_; intro w5 o5 g5)
  refine bodyPost_cell2 (g := w.heap.size + 2) (t := 69) rfl rfl rfl o5 Tryd.underlying69 rfl (by kernel_rfl) ?_
  exact ⟨⟨_, _, _, _, rfl, i5.grown g5 o4 (by decide), j5.grown g5 o4 (by decide)⟩, b4.grown g5 b4.size (fun k e => by cases e; omega)⟩
set_option maxHeartbeats 2000000 in
set_option maxRecDepth 100000 in
theorem effectOf24 {w : World} {m : MoP} (hm : MoIn w m) (hs : Small m 100000) (a b : Int) (ao : Option Addr) (n cp : Nat) :
    Calls Tryd.prog 27 #[.agg #[.int .u8 24, .int .i64 a, .int .i64 b, .slice ao n cp], .agg m.cs] w (OutRet w (effM m 24 a b)) := by
  clear hm hs
  obtain ⟨R, HR⟩ : ∃ R, Hid (effM m 24 a b = R) := ⟨_, rfl⟩
  rw [HR.out]
  have ox := Own.new w #[.int .u8 24, .int .i64 a, .int .i64 b, .slice ao n cp] 24
  have bx := new_below w (.cells #[.int .u8 24, .int .i64 a, .int .i64 b, .slice ao n cp] 24)
  go_enter Tryd.func27, Tryd.ntmps27
  go_upto_region 1 with fail
  have e1 : (w.alloc (.cells #[.int .u8 24, .int .i64 a, .int .i64 b, .slice ao n cp] 24)).heap.size = w.heap.size + 1 := World.size_alloc _ _
  generalize w.alloc (.cells #[.int .u8 24, .int .i64 a, .int .i64 b, .slice ao n cp] 24) = w1 at *
  have om := Own.new w1 m.cs 29
  have bm := new_below w1 (.cells m.cs 29)
  have ox1 := ox.below bm
  have b2 := bx.trans (bm.mono bx.size)
  have e2 : (w1.alloc (.cells m.cs 29)).heap.size = w.heap.size + 2 := by rw [World.size_alloc, e1]
  rw [e1] at om
  unfold MoP.cs at *
  generalize w1.alloc (.cells #[.slice m.ta m.tys.length m.tc, .slice m.sa m.txs.length m.sc, .slice m.fa m.fns.length m.fc] 29) = w2 at *
  have o0 := Own.new w2 zEff 69
  have bn := new_below w2 (.cells zEff 69)
  have ox2 := ox1.below bn
  have om2 := om.below bn
  have b3 := b2.trans (bn.mono b2.size)
  rw [e2] at o0
  clear ox bx bm ox1 om b2 bn e1 e2
  generalize w2.alloc (.cells zEff 69) = w3 at *
  obtain ⟨x0, x1, x2, x3, xf⟩ := own4 ox2
  obtain ⟨m0, m1, m2, mf⟩ := own3 om2
  obtain rfl : some ([a, a], [4]) = R := by rw [← HR.out]; rfl
  clear HR
  go_upto_region 33 with fail
  go_wp2_with fail
  refine (ofWidth24 w3 a b ao n cp).mono ?_
  rintro e w4 ⟨ta, tc, pa, pc, rfl, i4, j4, k4⟩
  have o4 := o0.below k4
  have i5 := i4.mono b3.size
  have j5 := j4.mono b3.size
  have b4 := b3.trans (k4.mono b3.size)
  clear x0 x1 x2 x3 xf m0 m1 m2 mf o0 b3 k4 ox2 om2 i4 j4
  go_wp2_with (refine wpList_put rfl 69 (.tmp 4) (.tmp 71) rfl rfl (w.heap.size + 2) 0 rfl rfl o4 infoE rfl (by simp) rfl ?_; intro w5 o5 g5)
  refine bodyPost_cell2 (g := w.heap.size + 2) (t := 69) rfl rfl rfl o5 Tryd.underlying69 rfl (by kernel_rfl) ?_
  exact ⟨⟨_, _, _, _, rfl, i5.grown g5 o4 (by decide), j5.grown g5 o4 (by decide)⟩, b4.grown g5 b4.size (fun k e => by cases e; omega)⟩
set_option maxHeartbeats 2000000 in
set_option maxRecDepth 100000 in
theorem effectOf25 {w : World} {m : MoP} (hm : MoIn w m) (hs : Small m 100000) (a b : Int) (ao : Option Addr) (n cp : Nat) :
    Calls Tryd.prog 27 #[.agg #[.int .u8 25, .int .i64 a, .int .i64 b, .slice ao n cp], .agg m.cs] w (OutRet w (effM m 25 a b)) := by
  clear hm hs
  obtain ⟨R, HR⟩ : ∃ R, Hid (effM m 25 a b = R) := ⟨_, rfl⟩
  rw [HR.out]
  have ox := Own.new w #[.int .u8 25, .int .i64 a, .int .i64 b, .slice ao n cp] 24
  have bx := new_below w (.cells #[.int .u8 25, .int .i64 a, .int .i64 b, .slice ao n cp] 24)
  go_enter Tryd.func27, Tryd.ntmps27
  go_upto_region 1 with fail
  have e1 : (w.alloc (.cells #[.int .u8 25, .int .i64 a, .int .i64 b, .slice ao n cp] 24)).heap.size = w.heap.size + 1 := World.size_alloc _ _
  generalize w.alloc (.cells #[.int .u8 25, .int .i64 a, .int .i64 b, .slice ao n cp] 24) = w1 at *
  have om := Own.new w1 m.cs 29
  have bm := new_below w1 (.cells m.cs 29)
  have ox1 := ox.below bm
  have b2 := bx.trans (bm.mono bx.size)
  have e2 : (w1.alloc (.cells m.cs 29)).heap.size = w.heap.size + 2 := by rw [World.size_alloc, e1]
  rw [e1] at om
  unfold MoP.cs at *
  generalize w1.alloc (.cells #[.slice m.ta m.tys.length m.tc, .slice m.sa m.txs.length m.sc, .slice m.fa m.fns.length m.fc] 29) = w2 at *
  have o0 := Own.new w2 zEff 69
  have bn := new_below w2 (.cells zEff 69)
  have ox2 := ox1.below bn
  have om2 := om.below bn
  have b3 := b2.trans (bn.mono b2.size)
  rw [e2] at o0
  clear ox bx bm ox1 om b2 bn e1 e2
  generalize w2.alloc (.cells zEff 69) = w3 at *
  obtain ⟨x0, x1, x2, x3, xf⟩ := own4 ox2
  obtain ⟨m0, m1, m2, mf⟩ := own3 om2
  obtain rfl : some ([a, a], [4]) = R := by rw [← HR.out]; rfl
  clear HR
  go_upto_region 33 with fail
  go_wp2_with fail
  refine (ofWidth25 w3 a b ao n cp).mono ?_
  rintro e w4 ⟨ta, tc, pa, pc, rfl, i4, j4, k4⟩
  have o4 := o0.below k4
  have i5 := i4.mono b3.size
  have j5 := j4.mono b3.size
  have b4 := b3.trans (k4.mono b3.size)
  clear x0 x1 x2 x3 xf m0 m1 m2 mf o0 b3 k4 ox2 om2 i4 j4
  go_wp2_with (refine wpList_put rfl 69 (.tmp 4) (.tmp 71) rfl rfl (w.heap.size + 2) 0 rfl rfl o4 infoE rfl (by simp) rfl ?_; intro w5 o5 g5)
  refine bodyPost_cell2 (g := w.heap.size + 2) (t := 69) rfl rfl rfl o5 Tryd.underlying69 rfl (by kernel_rfl) ?_
  exact ⟨⟨_, _, _, _, rfl, i5.grown g5 o4 (by decide), j5.grown g5 o4 (by decide)⟩, b4.grown g5 b4.size (fun k e => by cases e; omega)⟩
set_option maxHeartbeats 2000000 in
set_option maxRecDepth 100000 in
theorem effectOf26 {w : World} {m : MoP} (hm : MoIn w m) (hs : Small m 100000) (a b : Int) (ao : Option Addr) (n cp : Nat) :
    Calls Tryd.prog 27 #[.agg #[.int .u8 26, .int .i64 a, .int .i64 b, .slice ao n cp], .agg m.cs] w (OutRet w (effM m 26 a b)) := by
  clear hm hs
  obtain ⟨R, HR⟩ : ∃ R, Hid (effM m 26 a b = R) := ⟨_, rfl⟩
  rw [HR.out]
  have ox := Own.new w #[.int .u8 26, .int .i64 a, .int .i64 b, .slice ao n cp] 24
  have bx := new_below w (.cells #[.int .u8 26, .int .i64 a, .int .i64 b, .slice ao n cp] 24)
  go_enter Tryd.func27, Tryd.ntmps27
  go_upto_region 1 with fail
  have e1 : (w.alloc (.cells #[.int .u8 26, .int .i64 a, .int .i64 b, .slice ao n cp] 24)).heap.size = w.heap.size + 1 := World.size_alloc _ _
  generalize w.alloc (.cells #[.int .u8 26, .int .i64 a, .int .i64 b, .slice ao n cp] 24) = w1 at *
  have om := Own.new w1 m.cs 29
  have bm := new_below w1 (.cells m.cs 29)
  have ox1 := ox.below bm
  have b2 := bx.trans (bm.mono bx.size)
  have e2 : (w1.alloc (.cells m.cs 29)).heap.size = w.heap.size + 2 := by rw [World.size_alloc, e1]
  rw [e1] at om
  unfold MoP.cs at *
  generalize w1.alloc (.cells #[.slice m.ta m.tys.length m.tc, .slice m.sa m.txs.length m.sc, .slice m.fa m.fns.length m.fc] 29) = w2 at *
  have o0 := Own.new w2 zEff 69
  have bn := new_below w2 (.cells zEff 69)
  have ox2 := ox1.below bn
  have om2 := om.below bn
  have b3 := b2.trans (bn.mono b2.size)
  rw [e2] at o0
  clear ox bx bm ox1 om b2 bn e1 e2
  generalize w2.alloc (.cells zEff 69) = w3 at *
  obtain ⟨x0, x1, x2, x3, xf⟩ := own4 ox2
  obtain ⟨m0, m1, m2, mf⟩ := own3 om2
  obtain rfl : some ([a, a], [4]) = R := by rw [← HR.out]; rfl
  clear HR
  go_upto_region 33 with fail
  go_wp2_with fail
  refine (ofWidth26 w3 a b ao n cp).mono ?_
  rintro e w4 ⟨ta, tc, pa, pc, rfl, i4, j4, k4⟩
  have o4 := o0.below k4
  have i5 := i4.mono b3.size
  have j5 := j4.mono b3.size
  have b4 := b3.trans (k4.mono b3.size)
  clear x0 x1 x2 x3 xf m0 m1 m2 mf o0 b3 k4 ox2 om2 i4 j4
  go_wp2_with (refine wpList_put rfl 69 (.tmp 4) (.tmp 71) rfl rfl (w.heap.size + 2) 0 rfl rfl o4 infoE rfl (by simp) rfl ?_; intro w5 o5 g5)
  refine bodyPost_cell2 (g := w.heap.size + 2) (t := 69) rfl rfl rfl o5 Tryd.underlying69 rfl (by kernel_rfl) ?_
  exact ⟨⟨_, _, _, _, rfl, i5.grown g5 o4 (by decide), j5.grown g5 o4 (by decide)⟩, b4.grown g5 b4.size (fun k e => by cases e; omega)⟩
set_option maxHeartbeats 2000000 in
set_option maxRecDepth 100000 in
theorem effectOf27 {w : World} {m : MoP} (hm : MoIn w m) (hs : Small m 100000) (a b : Int) (ao : Option Addr) (n cp : Nat) :
    Calls Tryd.prog 27 #[.agg #[.int .u8 27, .int .i64 a, .int .i64 b, .slice ao n cp], .agg m.cs] w (OutRet w (effM m 27 a b)) := by
  clear hm hs
  obtain ⟨R, HR⟩ : ∃ R, Hid (effM m 27 a b = R) := ⟨_, rfl⟩
  rw [HR.out]
  have ox := Own.new w #[.int .u8 27, .int .i64 a, .int .i64 b, .slice ao n cp] 24
  have bx := new_below w (.cells #[.int .u8 27, .int .i64 a, .int .i64 b, .slice ao n cp] 24)
  go_enter Tryd.func27, Tryd.ntmps27
  go_upto_region 1 with fail
  have e1 : (w.alloc (.cells #[.int .u8 27, .int .i64 a, .int .i64 b, .slice ao n cp] 24)).heap.size = w.heap.size + 1 := World.size_alloc _ _
  generalize w.alloc (.cells #[.int .u8 27, .int .i64 a, .int .i64 b, .slice ao n cp] 24) = w1 at *
  have om := Own.new w1 m.cs 29
  have bm := new_below w1 (.cells m.cs 29)
  have ox1 := ox.below bm
  have b2 := bx.trans (bm.mono bx.size)
  have e2 : (w1.alloc (.cells m.cs 29)).heap.size = w.heap.size + 2 := by rw [World.size_alloc, e1]
  rw [e1] at om
  unfold MoP.cs at *
  generalize w1.alloc (.cells #[.slice m.ta m.tys.length m.tc, .slice m.sa m.txs.length m.sc, .slice m.fa m.fns.length m.fc] 29) = w2 at *
  have o0 := Own.new w2 zEff 69
  have bn := new_below w2 (.cells zEff 69)
  have ox2 := ox1.below bn
  have om2 := om.below bn
  have b3 := b2.trans (bn.mono b2.size)
  rw [e2] at o0
  clear ox bx bm ox1 om b2 bn e1 e2
  generalize w2.alloc (.cells zEff 69) = w3 at *
  obtain ⟨x0, x1, x2, x3, xf⟩ := own4 ox2
  obtain ⟨m0, m1, m2, mf⟩ := own3 om2
  obtain rfl : some ([a, a], [4]) = R := by rw [← HR.out]; rfl
  clear HR
  go_upto_region 33 with fail
  go_wp2_with fail
  refine (ofWidth27 w3 a b ao n cp).mono ?_
  rintro e w4 ⟨ta, tc, pa, pc, rfl, i4, j4, k4⟩
  have o4 := o0.below k4
  have i5 := i4.mono b3.size
  have j5 := j4.mono b3.size
  have b4 := b3.trans (k4.mono b3.size)
  clear x0 x1 x2 x3 xf m0 m1 m2 mf o0 b3 k4 ox2 om2 i4 j4
  go_wp2_with (refine wpList_put rfl 69 (.tmp 4) (.tmp 71) rfl rfl (w.heap.size + 2) 0 rfl rfl o4 infoE rfl (by simp) rfl ?_; intro w5 o5 g5)
  refine bodyPost_cell2 (g := w.heap.size + 2) (t := 69) rfl rfl rfl o5 Tryd.underlying69 rfl (by kernel_rfl) ?_
  exact ⟨⟨_, _, _, _, rfl, i5.grown g5 o4 (by decide), j5.grown g5 o4 (by decide)⟩, b4.grown g5 b4.size (fun k e => by cases e; omega)⟩
set_option maxHeartbeats 2000000 in
set_option maxRecDepth 100000 in
theorem effectOf28 {w : World} {m : MoP} (hm : MoIn w m) (hs : Small m 100000) (a b : Int) (ao : Option Addr) (n cp : Nat) :
    Calls Tryd.prog 27 #[.agg #[.int .u8 28, .int .i64 a, .int .i64 b, .slice ao n cp], .agg m.cs] w (OutRet w (effM m 28 a b)) := by
  clear hm hs
  obtain ⟨R, HR⟩ : ∃ R, Hid (effM m 28 a b = R) := ⟨_, rfl⟩
  rw [HR.out]
  have ox := Own.new w #[.int .u8 28, .int .i64 a, .int .i64 b, .slice ao n cp] 24
  have bx := new_below w (.cells #[.int .u8 28, .int .i64 a, .int .i64 b, .slice ao n cp] 24)
  go_enter Tryd.func27, Tryd.ntmps27
  go_upto_region 1 with fail
  have e1 : (w.alloc (.cells #[.int .u8 28, .int .i64 a, .int .i64 b, .slice ao n cp] 24)).heap.size = w.heap.size + 1 := World.size_alloc _ _
  generalize w.alloc (.cells #[.int .u8 28, .int .i64 a, .int .i64 b, .slice ao n cp] 24) = w1 at *
  have om := Own.new w1 m.cs 29
  have bm := new_below w1 (.cells m.cs 29)
  have ox1 := ox.below bm
  have b2 := bx.trans (bm.mono bx.size)
  have e2 : (w1.alloc (.cells m.cs 29)).heap.size = w.heap.size + 2 := by rw [World.size_alloc, e1]
  rw [e1] at om
  unfold MoP.cs at *
  generalize w1.alloc (.cells #[.slice m.ta m.tys.length m.tc, .slice m.sa m.txs.length m.sc, .slice m.fa m.fns.length m.fc] 29) = w2 at *
  have o0 := Own.new w2 zEff 69
  have bn := new_below w2 (.cells zEff 69)
  have ox2 := ox1.below bn
  have om2 := om.below bn
  have b3 := b2.trans (bn.mono b2.size)
  rw [e2] at o0
  clear ox bx bm ox1 om b2 bn e1 e2
  generalize w2.alloc (.cells zEff 69) = w3 at *
  obtain ⟨x0, x1, x2, x3, xf⟩ := own4 ox2
  obtain ⟨m0, m1, m2, mf⟩ := own3 om2
  obtain rfl : some ([a, a], [4]) = R := by rw [← HR.out]; rfl
  clear HR
  go_upto_region 33 with fail
  go_wp2_with fail
  refine (ofWidth28 w3 a b ao n cp).mono ?_
  rintro e w4 ⟨ta, tc, pa, pc, rfl, i4, j4, k4⟩
  have o4 := o0.below k4
  have i5 := i4.mono b3.size
  have j5 := j4.mono b3.size
  have b4 := b3.trans (k4.mono b3.size)
  clear x0 x1 x2 x3 xf m0 m1 m2 mf o0 b3 k4 ox2 om2 i4 j4
  go_wp2_with (refine wpList_put rfl 69 (.tmp 4) (.tmp 71) rfl rfl (w.heap.size + 2) 0 rfl rfl o4 infoE rfl (by simp) rfl ?_; intro w5 o5 g5)
  refine bodyPost_cell2 (g := w.heap.size + 2) (t := 69) rfl rfl rfl o5 Tryd.underlying69 rfl (by kernel_rfl) ?_
  exact ⟨⟨_, _, _, _, rfl, i5.grown g5 o4 (by decide), j5.grown g5 o4 (by decide)⟩, b4.grown g5 b4.size (fun k e => by cases e; omega)⟩
set_option maxHeartbeats 2000000 in
set_option maxRecDepth 100000 in
theorem effectOf29 {w : World} {m : MoP} (hm : MoIn w m) (hs : Small m 100000) (a b : Int) (ao : Option Addr) (n cp : Nat) :
    Calls Tryd.prog 27 #[.agg #[.int .u8 29, .int .i64 a, .int .i64 b, .slice ao n cp], .agg m.cs] w (OutRet w (effM m 29 a b)) := by
  clear hm hs
  obtain ⟨R, HR⟩ : ∃ R, Hid (effM m 29 a b = R) := ⟨_, rfl⟩
  rw [HR.out]
  have ox := Own.new w #[.int .u8 29, .int .i64 a, .int .i64 b, .slice ao n cp] 24
  have bx := new_below w (.cells #[.int .u8 29, .int .i64 a, .int .i64 b, .slice ao n cp] 24)
  go_enter Tryd.func27, Tryd.ntmps27
  go_upto_region 1 with fail
  have e1 : (w.alloc (.cells #[.int .u8 29, .int .i64 a, .int .i64 b, .slice ao n cp] 24)).heap.size = w.heap.size + 1 := World.size_alloc _ _
  generalize w.alloc (.cells #[.int .u8 29, .int .i64 a, .int .i64 b, .slice ao n cp] 24) = w1 at *
  have om := Own.new w1 m.cs 29
  have bm := new_below w1 (.cells m.cs 29)
  have ox1 := ox.below bm
  have b2 := bx.trans (bm.mono bx.size)
  have e2 : (w1.alloc (.cells m.cs 29)).heap.size = w.heap.size + 2 := by rw [World.size_alloc, e1]
  rw [e1] at om
  unfold MoP.cs at *
  generalize w1.alloc (.cells #[.slice m.ta m.tys.length m.tc, .slice m.sa m.txs.length m.sc, .slice m.fa m.fns.length m.fc] 29) = w2 at *
  have o0 := Own.new w2 zEff 69
  have bn := new_below w2 (.cells zEff 69)
  have ox2 := ox1.below bn
  have om2 := om.below bn
  have b3 := b2.trans (bn.mono b2.size)
  rw [e2] at o0
  clear ox bx bm ox1 om b2 bn e1 e2
  generalize w2.alloc (.cells zEff 69) = w3 at *
  obtain ⟨x0, x1, x2, x3, xf⟩ := own4 ox2
  obtain ⟨m0, m1, m2, mf⟩ := own3 om2
  obtain rfl : some ([a], [b]) = R := by rw [← HR.out]; rfl
  clear HR
  go_upto_region 33 with fail
  go_wp2_with fail
  refine (ofWidth29 w3 a b ao n cp).mono ?_
  rintro e w4 ⟨ta, tc, pa, pc, rfl, i4, j4, k4⟩
  have o4 := o0.below k4
  have i5 := i4.mono b3.size
  have j5 := j4.mono b3.size
  have b4 := b3.trans (k4.mono b3.size)
  clear x0 x1 x2 x3 xf m0 m1 m2 mf o0 b3 k4 ox2 om2 i4 j4
  go_wp2_with (refine wpList_put rfl 69 (.tmp 4) (.tmp 71) rfl rfl (w.heap.size + 2) 0 rfl rfl o4 infoE rfl (by simp) rfl ?_; intro w5 o5 g5)
  refine bodyPost_cell2 (g := w.heap.size + 2) (t := 69) rfl rfl rfl o5 Tryd.underlying69 rfl (by kernel_rfl) ?_
  exact ⟨⟨_, _, _, _, rfl, i5.grown g5 o4 (by decide), j5.grown g5 o4 (by decide)⟩, b4.grown g5 b4.size (fun k e => by cases e; omega)⟩
end Go.Proofs.YtjfdlphkmpkjdaaDoor
