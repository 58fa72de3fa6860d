/-
  CONTRACT of effectOf: by the op.
-/
import Derived.Test.YtjfdlphkmpkjdaaDoorJts
namespace Go.Proofs.YtjfdlphkmpkjdaaDoor
open Go.RowKit
set_option linter.unusedVariables false

set_option maxHeartbeats 2000000 in
set_option maxRecDepth 100000 in
theorem effectOf39 {w : World} {m : MoP} (hm : MoIn w m) (hs : Small m 100000) (a b : Int) (ha : 0 ≤ a ∧ a ≤ 65535) (ao : Option Addr) (n cp : Nat) :
    Calls Tryd.prog 27 #[.agg #[.int .u8 39, .int .i64 a, .int .i64 b, .slice ao n cp], .agg m.cs] w (OutRet w (effM m 39 a b)) := by
  have HC : Hid (∀ W, Below w.heap.size w W → Calls Tryd.prog 48 #[.agg #[.int .u8 39, .int .i64 a, .int .i64 b, .slice ao n cp], .slice m.ta m.tys.length m.tc] W (OutRet W (arrM m.tys 39 a))) := fun W hh => ofArray39 (hm.tyr.below hh) rfl hs.ty (fun t ht => ⟨(hm.ty t ht).below hh, hs.fl t ht⟩) a b ha.1 ha.2 ao n cp
  clear hm hs ha
  obtain ⟨R, HR⟩ : ∃ R, Hid (effM m 39 a b = R) := ⟨_, rfl⟩
  rw [HR.out]
  have ox := Own.new w #[.int .u8 39, .int .i64 a, .int .i64 b, .slice ao n cp] 24
  have bx := new_below w (.cells #[.int .u8 39, .int .i64 a, .int .i64 b, .slice ao n cp] 24)
  go_enter Tryd.func27, Tryd.ntmps27
  go_upto_region 1 with fail
  have e1 : (w.alloc (.cells #[.int .u8 39, .int .i64 a, .int .i64 b, .slice ao n cp] 24)).heap.size = w.heap.size + 1 := World.size_alloc _ _
  generalize w.alloc (.cells #[.int .u8 39, .int .i64 a, .int .i64 b, .slice ao n cp] 24) = w1 at *
  have om := Own.new w1 m.cs 29
  have bm := new_below w1 (.cells m.cs 29)
  have ox1 := ox.below bm
  have b2 := bx.trans (bm.mono bx.size)
  have e2 : (w1.alloc (.cells m.cs 29)).heap.size = w.heap.size + 2 := by rw [World.size_alloc, e1]
  rw [e1] at om
  unfold MoP.cs at *
  generalize w1.alloc (.cells #[.slice m.ta m.tys.length m.tc, .slice m.sa m.txs.length m.sc, .slice m.fa m.fns.length m.fc] 29) = w2 at *
  have o0 := Own.new w2 zEff 69
  have bn := new_below w2 (.cells zEff 69)
  have ox2 := ox1.below bn
  have om2 := om.below bn
  have b3 := b2.trans (bn.mono b2.size)
  rw [e2] at o0
  clear ox bx bm ox1 om b2 bn e1 e2
  generalize w2.alloc (.cells zEff 69) = w3 at *
  obtain ⟨x0, x1, x2, x3, xf⟩ := own4 ox2
  obtain ⟨m0, m1, m2, mf⟩ := own3 om2
  have hC := HC.out w3 b3
  rw [show arrM m.tys 39 a = R from HR.out] at hC
  clear HC HR
  go_upto_region 17 with fail
  go_wp2_with fail
  refine hC.mono ?_
  clear hC
  rintro e w4 hq
  cases R with
  | none =>
    obtain ⟨⟨ta, tn, tc, pa, pn, pc, rfl⟩, k4⟩ := hq
    have o4 := o0.below k4
    have b4 := b3.trans (k4.mono b3.size)
    clear x0 x1 x2 x3 xf m0 m1 m2 mf o0 b3 k4 ox2 om2
    go_wp2_with (refine wpList_put rfl 69 (.tmp 4) (.tmp 50) rfl rfl (w.heap.size + 2) 0 rfl rfl o4 infoE rfl (by simp) rfl ?_; intro w5 o5 g5)
    refine bodyPost_cell2 (g := w.heap.size + 2) (t := 69) rfl rfl rfl o5 Tryd.underlying69 rfl (by kernel_rfl) ?_
    exact ⟨⟨_, _, _, _, _, _, rfl⟩, b4.grown g5 b4.size (fun k e => by cases e; omega)⟩
  | some r =>
    obtain ⟨⟨ta, tc, pa, pc, rfl, i4, j4⟩, k4⟩ := hq
    have o4 := o0.below k4
    have i5 := i4.mono b3.size
    have j5 := j4.mono b3.size
    have b4 := b3.trans (k4.mono b3.size)
    clear x0 x1 x2 x3 xf m0 m1 m2 mf o0 b3 k4 ox2 om2 i4 j4
    go_wp2_with (refine wpList_put rfl 69 (.tmp 4) (.tmp 50) rfl rfl (w.heap.size + 2) 0 rfl rfl o4 infoE rfl (by simp) rfl ?_; intro w5 o5 g5)
    refine bodyPost_cell2 (g := w.heap.size + 2) (t := 69) rfl rfl rfl o5 Tryd.underlying69 rfl (by kernel_rfl) ?_
    exact ⟨⟨_, _, _, _, rfl, i5.grown g5 o4 (by decide), j5.grown g5 o4 (by decide)⟩, b4.grown g5 b4.size (fun k e => by cases e; omega)⟩
set_option maxHeartbeats 2000000 in
set_option maxRecDepth 100000 in
theorem effectOf40 {w : World} {m : MoP} (hm : MoIn w m) (hs : Small m 100000) (a b : Int) (ha : 0 ≤ a ∧ a ≤ 65535) (ao : Option Addr) (n cp : Nat) :
    Calls Tryd.prog 27 #[.agg #[.int .u8 40, .int .i64 a, .int .i64 b, .slice ao n cp], .agg m.cs] w (OutRet w (effM m 40 a b)) := by
  have HC : Hid (∀ W, Below w.heap.size w W → Calls Tryd.prog 48 #[.agg #[.int .u8 40, .int .i64 a, .int .i64 b, .slice ao n cp], .slice m.ta m.tys.length m.tc] W (OutRet W (arrM m.tys 40 a))) := fun W hh => ofArray40 (hm.tyr.below hh) rfl hs.ty (fun t ht => ⟨(hm.ty t ht).below hh, hs.fl t ht⟩) a b ha.1 ha.2 ao n cp
  clear hm hs ha
  obtain ⟨R, HR⟩ : ∃ R, Hid (effM m 40 a b = R) := ⟨_, rfl⟩
  rw [HR.out]
  have ox := Own.new w #[.int .u8 40, .int .i64 a, .int .i64 b, .slice ao n cp] 24
  have bx := new_below w (.cells #[.int .u8 40, .int .i64 a, .int .i64 b, .slice ao n cp] 24)
  go_enter Tryd.func27, Tryd.ntmps27
  go_upto_region 1 with fail
  have e1 : (w.alloc (.cells #[.int .u8 40, .int .i64 a, .int .i64 b, .slice ao n cp] 24)).heap.size = w.heap.size + 1 := World.size_alloc _ _
  generalize w.alloc (.cells #[.int .u8 40, .int .i64 a, .int .i64 b, .slice ao n cp] 24) = w1 at *
  have om := Own.new w1 m.cs 29
  have bm := new_below w1 (.cells m.cs 29)
  have ox1 := ox.below bm
  have b2 := bx.trans (bm.mono bx.size)
  have e2 : (w1.alloc (.cells m.cs 29)).heap.size = w.heap.size + 2 := by rw [World.size_alloc, e1]
  rw [e1] at om
  unfold MoP.cs at *
  generalize w1.alloc (.cells #[.slice m.ta m.tys.length m.tc, .slice m.sa m.txs.length m.sc, .slice m.fa m.fns.length m.fc] 29) = w2 at *
  have o0 := Own.new w2 zEff 69
  have bn := new_below w2 (.cells zEff 69)
  have ox2 := ox1.below bn
  have om2 := om.below bn
  have b3 := b2.trans (bn.mono b2.size)
  rw [e2] at o0
  clear ox bx bm ox1 om b2 bn e1 e2
  generalize w2.alloc (.cells zEff 69) = w3 at *
  obtain ⟨x0, x1, x2, x3, xf⟩ := own4 ox2
  obtain ⟨m0, m1, m2, mf⟩ := own3 om2
  have hC := HC.out w3 b3
  rw [show arrM m.tys 40 a = R from HR.out] at hC
  clear HC HR
  go_upto_region 17 with fail
  go_wp2_with fail
  refine hC.mono ?_
  clear hC
  rintro e w4 hq
  cases R with
  | none =>
    obtain ⟨⟨ta, tn, tc, pa, pn, pc, rfl⟩, k4⟩ := hq
    have o4 := o0.below k4
    have b4 := b3.trans (k4.mono b3.size)
    clear x0 x1 x2 x3 xf m0 m1 m2 mf o0 b3 k4 ox2 om2
    go_wp2_with (refine wpList_put rfl 69 (.tmp 4) (.tmp 50) rfl rfl (w.heap.size + 2) 0 rfl rfl o4 infoE rfl (by simp) rfl ?_; intro w5 o5 g5)
    refine bodyPost_cell2 (g := w.heap.size + 2) (t := 69) rfl rfl rfl o5 Tryd.underlying69 rfl (by kernel_rfl) ?_
    exact ⟨⟨_, _, _, _, _, _, rfl⟩, b4.grown g5 b4.size (fun k e => by cases e; omega)⟩
  | some r =>
    obtain ⟨⟨ta, tc, pa, pc, rfl, i4, j4⟩, k4⟩ := hq
    have o4 := o0.below k4
    have i5 := i4.mono b3.size
    have j5 := j4.mono b3.size
    have b4 := b3.trans (k4.mono b3.size)
    clear x0 x1 x2 x3 xf m0 m1 m2 mf o0 b3 k4 ox2 om2 i4 j4
    go_wp2_with (refine wpList_put rfl 69 (.tmp 4) (.tmp 50) rfl rfl (w.heap.size + 2) 0 rfl rfl o4 infoE rfl (by simp) rfl ?_; intro w5 o5 g5)
    refine bodyPost_cell2 (g := w.heap.size + 2) (t := 69) rfl rfl rfl o5 Tryd.underlying69 rfl (by kernel_rfl) ?_
    exact ⟨⟨_, _, _, _, rfl, i5.grown g5 o4 (by decide), j5.grown g5 o4 (by decide)⟩, b4.grown g5 b4.size (fun k e => by cases e; omega)⟩
set_option maxHeartbeats 2000000 in
set_option maxRecDepth 100000 in
theorem effectOf41 {w : World} {m : MoP} (hm : MoIn w m) (hs : Small m 100000) (a b : Int) (ha : 0 ≤ a ∧ a ≤ 65535) (ao : Option Addr) (n cp : Nat) :
    Calls Tryd.prog 27 #[.agg #[.int .u8 41, .int .i64 a, .int .i64 b, .slice ao n cp], .agg m.cs] w (OutRet w (effM m 41 a b)) := by
  have HC : Hid (∀ W, Below w.heap.size w W → Calls Tryd.prog 48 #[.agg #[.int .u8 41, .int .i64 a, .int .i64 b, .slice ao n cp], .slice m.ta m.tys.length m.tc] W (OutRet W (arrM m.tys 41 a))) := fun W hh => ofArray41 (hm.tyr.below hh) rfl hs.ty (fun t ht => ⟨(hm.ty t ht).below hh, hs.fl t ht⟩) a b ha.1 ha.2 ao n cp
  clear hm hs ha
  obtain ⟨R, HR⟩ : ∃ R, Hid (effM m 41 a b = R) := ⟨_, rfl⟩
  rw [HR.out]
  have ox := Own.new w #[.int .u8 41, .int .i64 a, .int .i64 b, .slice ao n cp] 24
  have bx := new_below w (.cells #[.int .u8 41, .int .i64 a, .int .i64 b, .slice ao n cp] 24)
  go_enter Tryd.func27, Tryd.ntmps27
  go_upto_region 1 with fail
  have e1 : (w.alloc (.cells #[.int .u8 41, .int .i64 a, .int .i64 b, .slice ao n cp] 24)).heap.size = w.heap.size + 1 := World.size_alloc _ _
  generalize w.alloc (.cells #[.int .u8 41, .int .i64 a, .int .i64 b, .slice ao n cp] 24) = w1 at *
  have om := Own.new w1 m.cs 29
  have bm := new_below w1 (.cells m.cs 29)
  have ox1 := ox.below bm
  have b2 := bx.trans (bm.mono bx.size)
  have e2 : (w1.alloc (.cells m.cs 29)).heap.size = w.heap.size + 2 := by rw [World.size_alloc, e1]
  rw [e1] at om
  unfold MoP.cs at *
  generalize w1.alloc (.cells #[.slice m.ta m.tys.length m.tc, .slice m.sa m.txs.length m.sc, .slice m.fa m.fns.length m.fc] 29) = w2 at *
  have o0 := Own.new w2 zEff 69
  have bn := new_below w2 (.cells zEff 69)
  have ox2 := ox1.below bn
  have om2 := om.below bn
  have b3 := b2.trans (bn.mono b2.size)
  rw [e2] at o0
  clear ox bx bm ox1 om b2 bn e1 e2
  generalize w2.alloc (.cells zEff 69) = w3 at *
  obtain ⟨x0, x1, x2, x3, xf⟩ := own4 ox2
  obtain ⟨m0, m1, m2, mf⟩ := own3 om2
  have hC := HC.out w3 b3
  rw [show arrM m.tys 41 a = R from HR.out] at hC
  clear HC HR
  go_upto_region 17 with fail
  go_wp2_with fail
  refine hC.mono ?_
  clear hC
  rintro e w4 hq
  cases R with
  | none =>
    obtain ⟨⟨ta, tn, tc, pa, pn, pc, rfl⟩, k4⟩ := hq
    have o4 := o0.below k4
    have b4 := b3.trans (k4.mono b3.size)
    clear x0 x1 x2 x3 xf m0 m1 m2 mf o0 b3 k4 ox2 om2
    go_wp2_with (refine wpList_put rfl 69 (.tmp 4) (.tmp 50) rfl rfl (w.heap.size + 2) 0 rfl rfl o4 infoE rfl (by simp) rfl ?_; intro w5 o5 g5)
    refine bodyPost_cell2 (g := w.heap.size + 2) (t := 69) rfl rfl rfl o5 Tryd.underlying69 rfl (by kernel_rfl) ?_
    exact ⟨⟨_, _, _, _, _, _, rfl⟩, b4.grown g5 b4.size (fun k e => by cases e; omega)⟩
  | some r =>
    obtain ⟨⟨ta, tc, pa, pc, rfl, i4, j4⟩, k4⟩ := hq
    have o4 := o0.below k4
    have i5 := i4.mono b3.size
    have j5 := j4.mono b3.size
    have b4 := b3.trans (k4.mono b3.size)
    clear x0 x1 x2 x3 xf m0 m1 m2 mf o0 b3 k4 ox2 om2 i4 j4
    go_wp2_with (refine wpList_put rfl 69 (.tmp 4) (.tmp 50) rfl rfl (w.heap.size + 2) 0 rfl rfl o4 infoE rfl (by simp) rfl ?_; intro w5 o5 g5)
    refine bodyPost_cell2 (g := w.heap.size + 2) (t := 69) rfl rfl rfl o5 Tryd.underlying69 rfl (by kernel_rfl) ?_
    exact ⟨⟨_, _, _, _, rfl, i5.grown g5 o4 (by decide), j5.grown g5 o4 (by decide)⟩, b4.grown g5 b4.size (fun k e => by cases e; omega)⟩
set_option maxHeartbeats 2000000 in
set_option maxRecDepth 100000 in
theorem effectOf42 {w : World} {m : MoP} (hm : MoIn w m) (hs : Small m 100000) (a b : Int) (ha : 0 ≤ a ∧ a ≤ 65535) (ao : Option Addr) (n cp : Nat) :
    Calls Tryd.prog 27 #[.agg #[.int .u8 42, .int .i64 a, .int .i64 b, .slice ao n cp], .agg m.cs] w (OutRet w (effM m 42 a b)) := by
  have HC : Hid (∀ W, Below w.heap.size w W → Calls Tryd.prog 48 #[.agg #[.int .u8 42, .int .i64 a, .int .i64 b, .slice ao n cp], .slice m.ta m.tys.length m.tc] W (OutRet W (arrM m.tys 42 a))) := fun W hh => ofArray42 (hm.tyr.below hh) rfl hs.ty (fun t ht => ⟨(hm.ty t ht).below hh, hs.fl t ht⟩) a b ha.1 ha.2 ao n cp
  clear hm hs ha
  obtain ⟨R, HR⟩ : ∃ R, Hid (effM m 42 a b = R) := ⟨_, rfl⟩
  rw [HR.out]
  have ox := Own.new w #[.int .u8 42, .int .i64 a, .int .i64 b, .slice ao n cp] 24
  have bx := new_below w (.cells #[.int .u8 42, .int .i64 a, .int .i64 b, .slice ao n cp] 24)
  go_enter Tryd.func27, Tryd.ntmps27
  go_upto_region 1 with fail
  have e1 : (w.alloc (.cells #[.int .u8 42, .int .i64 a, .int .i64 b, .slice ao n cp] 24)).heap.size = w.heap.size + 1 := World.size_alloc _ _
  generalize w.alloc (.cells #[.int .u8 42, .int .i64 a, .int .i64 b, .slice ao n cp] 24) = w1 at *
  have om := Own.new w1 m.cs 29
  have bm := new_below w1 (.cells m.cs 29)
  have ox1 := ox.below bm
  have b2 := bx.trans (bm.mono bx.size)
  have e2 : (w1.alloc (.cells m.cs 29)).heap.size = w.heap.size + 2 := by rw [World.size_alloc, e1]
  rw [e1] at om
  unfold MoP.cs at *
  generalize w1.alloc (.cells #[.slice m.ta m.tys.length m.tc, .slice m.sa m.txs.length m.sc, .slice m.fa m.fns.length m.fc] 29) = w2 at *
  have o0 := Own.new w2 zEff 69
  have bn := new_below w2 (.cells zEff 69)
  have ox2 := ox1.below bn
  have om2 := om.below bn
  have b3 := b2.trans (bn.mono b2.size)
  rw [e2] at o0
  clear ox bx bm ox1 om b2 bn e1 e2
  generalize w2.alloc (.cells zEff 69) = w3 at *
  obtain ⟨x0, x1, x2, x3, xf⟩ := own4 ox2
  obtain ⟨m0, m1, m2, mf⟩ := own3 om2
  have hC := HC.out w3 b3
  rw [show arrM m.tys 42 a = R from HR.out] at hC
  clear HC HR
  go_upto_region 17 with fail
  go_wp2_with fail
  refine hC.mono ?_
  clear hC
  rintro e w4 hq
  cases R with
  | none =>
    obtain ⟨⟨ta, tn, tc, pa, pn, pc, rfl⟩, k4⟩ := hq
    have o4 := o0.below k4
    have b4 := b3.trans (k4.mono b3.size)
    clear x0 x1 x2 x3 xf m0 m1 m2 mf o0 b3 k4 ox2 om2
    go_wp2_with (refine wpList_put rfl 69 (.tmp 4) (.tmp 50) rfl rfl (w.heap.size + 2) 0 rfl rfl o4 infoE rfl (by simp) rfl ?_; intro w5 o5 g5)
    refine bodyPost_cell2 (g := w.heap.size + 2) (t := 69) rfl rfl rfl o5 Tryd.underlying69 rfl (by kernel_rfl) ?_
    exact ⟨⟨_, _, _, _, _, _, rfl⟩, b4.grown g5 b4.size (fun k e => by cases e; omega)⟩
  | some r =>
    obtain ⟨⟨ta, tc, pa, pc, rfl, i4, j4⟩, k4⟩ := hq
    have o4 := o0.below k4
    have i5 := i4.mono b3.size
    have j5 := j4.mono b3.size
    have b4 := b3.trans (k4.mono b3.size)
    clear x0 x1 x2 x3 xf m0 m1 m2 mf o0 b3 k4 ox2 om2 i4 j4
    go_wp2_with (refine wpList_put rfl 69 (.tmp 4) (.tmp 50) rfl rfl (w.heap.size + 2) 0 rfl rfl o4 infoE rfl (by simp) rfl ?_; intro w5 o5 g5)
    refine bodyPost_cell2 (g := w.heap.size + 2) (t := 69) rfl rfl rfl o5 Tryd.underlying69 rfl (by kernel_rfl) ?_
    exact ⟨⟨_, _, _, _, rfl, i5.grown g5 o4 (by decide), j5.grown g5 o4 (by decide)⟩, b4.grown g5 b4.size (fun k e => by cases e; omega)⟩
set_option maxHeartbeats 2000000 in
set_option maxRecDepth 100000 in
theorem effectOf43 {w : World} {m : MoP} (hm : MoIn w m) (hs : Small m 100000) (a b : Int) (ha : 0 ≤ a ∧ a ≤ 65535) (ao : Option Addr) (n cp : Nat) :
    Calls Tryd.prog 27 #[.agg #[.int .u8 43, .int .i64 a, .int .i64 b, .slice ao n cp], .agg m.cs] w (OutRet w (effM m 43 a b)) := by
  have HC : Hid (∀ W, Below w.heap.size w W → Calls Tryd.prog 48 #[.agg #[.int .u8 43, .int .i64 a, .int .i64 b, .slice ao n cp], .slice m.ta m.tys.length m.tc] W (OutRet W (arrM m.tys 43 a))) := fun W hh => ofArray43 (hm.tyr.below hh) rfl hs.ty (fun t ht => ⟨(hm.ty t ht).below hh, hs.fl t ht⟩) a b ha.1 ha.2 ao n cp
  clear hm hs ha
  obtain ⟨R, HR⟩ : ∃ R, Hid (effM m 43 a b = R) := ⟨_, rfl⟩
  rw [HR.out]
  have ox := Own.new w #[.int .u8 43, .int .i64 a, .int .i64 b, .slice ao n cp] 24
  have bx := new_below w (.cells #[.int .u8 43, .int .i64 a, .int .i64 b, .slice ao n cp] 24)
  go_enter Tryd.func27, Tryd.ntmps27
  go_upto_region 1 with fail
  have e1 : (w.alloc (.cells #[.int .u8 43, .int .i64 a, .int .i64 b, .slice ao n cp] 24)).heap.size = w.heap.size + 1 := World.size_alloc _ _
  generalize w.alloc (.cells #[.int .u8 43, .int .i64 a, .int .i64 b, .slice ao n cp] 24) = w1 at *
  have om := Own.new w1 m.cs 29
  have bm := new_below w1 (.cells m.cs 29)
  have ox1 := ox.below bm
  have b2 := bx.trans (bm.mono bx.size)
  have e2 : (w1.alloc (.cells m.cs 29)).heap.size = w.heap.size + 2 := by rw [World.size_alloc, e1]
  rw [e1] at om
  unfold MoP.cs at *
  generalize w1.alloc (.cells #[.slice m.ta m.tys.length m.tc, .slice m.sa m.txs.length m.sc, .slice m.fa m.fns.length m.fc] 29) = w2 at *
  have o0 := Own.new w2 zEff 69
  have bn := new_below w2 (.cells zEff 69)
  have ox2 := ox1.below bn
  have om2 := om.below bn
  have b3 := b2.trans (bn.mono b2.size)
  rw [e2] at o0
  clear ox bx bm ox1 om b2 bn e1 e2
  generalize w2.alloc (.cells zEff 69) = w3 at *
  obtain ⟨x0, x1, x2, x3, xf⟩ := own4 ox2
  obtain ⟨m0, m1, m2, mf⟩ := own3 om2
  have hC := HC.out w3 b3
  rw [show arrM m.tys 43 a = R from HR.out] at hC
  clear HC HR
  go_upto_region 17 with fail
  go_wp2_with fail
  refine hC.mono ?_
  clear hC
  rintro e w4 hq
  cases R with
  | none =>
    obtain ⟨⟨ta, tn, tc, pa, pn, pc, rfl⟩, k4⟩ := hq
    have o4 := o0.below k4
    have b4 := b3.trans (k4.mono b3.size)
    clear x0 x1 x2 x3 xf m0 m1 m2 mf o0 b3 k4 ox2 om2
    go_wp2_with (refine wpList_put rfl 69 (.tmp 4) (.tmp 50) rfl rfl (w.heap.size + 2) 0 rfl rfl o4 infoE rfl (by simp) rfl ?_; intro w5 o5 g5)
    refine bodyPost_cell2 (g := w.heap.size + 2) (t := 69) rfl rfl rfl o5 Tryd.underlying69 rfl (by kernel_rfl) ?_
    exact ⟨⟨_, _, _, _, _, _, rfl⟩, b4.grown g5 b4.size (fun k e => by cases e; omega)⟩
  | some r =>
    obtain ⟨⟨ta, tc, pa, pc, rfl, i4, j4⟩, k4⟩ := hq
    have o4 := o0.below k4
    have i5 := i4.mono b3.size
    have j5 := j4.mono b3.size
    have b4 := b3.trans (k4.mono b3.size)
    clear x0 x1 x2 x3 xf m0 m1 m2 mf o0 b3 k4 ox2 om2 i4 j4
    go_wp2_with (refine wpList_put rfl 69 (.tmp 4) (.tmp 50) rfl rfl (w.heap.size + 2) 0 rfl rfl o4 infoE rfl (by simp) rfl ?_; intro w5 o5 g5)
    refine bodyPost_cell2 (g := w.heap.size + 2) (t := 69) rfl rfl rfl o5 Tryd.underlying69 rfl (by kernel_rfl) ?_
    exact ⟨⟨_, _, _, _, rfl, i5.grown g5 o4 (by decide), j5.grown g5 o4 (by decide)⟩, b4.grown g5 b4.size (fun k e => by cases e; omega)⟩
set_option maxHeartbeats 2000000 in
set_option maxRecDepth 100000 in
theorem effectOf44 {w : World} {m : MoP} (hm : MoIn w m) (hs : Small m 100000) (a b : Int) (ha : 0 ≤ a ∧ a ≤ 65535) (ao : Option Addr) (n cp : Nat) :
    Calls Tryd.prog 27 #[.agg #[.int .u8 44, .int .i64 a, .int .i64 b, .slice ao n cp], .agg m.cs] w (OutRet w (effM m 44 a b)) := by
  have HC : Hid (∀ W, Below w.heap.size w W → Calls Tryd.prog 48 #[.agg #[.int .u8 44, .int .i64 a, .int .i64 b, .slice ao n cp], .slice m.ta m.tys.length m.tc] W (OutRet W (arrM m.tys 44 a))) := fun W hh => ofArray44 (hm.tyr.below hh) rfl hs.ty (fun t ht => ⟨(hm.ty t ht).below hh, hs.fl t ht⟩) a b ha.1 ha.2 ao n cp
  clear hm hs ha
  obtain ⟨R, HR⟩ : ∃ R, Hid (effM m 44 a b = R) := ⟨_, rfl⟩
  rw [HR.out]
  have ox := Own.new w #[.int .u8 44, .int .i64 a, .int .i64 b, .slice ao n cp] 24
  have bx := new_below w (.cells #[.int .u8 44, .int .i64 a, .int .i64 b, .slice ao n cp] 24)
  go_enter Tryd.func27, Tryd.ntmps27
  go_upto_region 1 with fail
  have e1 : (w.alloc (.cells #[.int .u8 44, .int .i64 a, .int .i64 b, .slice ao n cp] 24)).heap.size = w.heap.size + 1 := World.size_alloc _ _
  generalize w.alloc (.cells #[.int .u8 44, .int .i64 a, .int .i64 b, .slice ao n cp] 24) = w1 at *
  have om := Own.new w1 m.cs 29
  have bm := new_below w1 (.cells m.cs 29)
  have ox1 := ox.below bm
  have b2 := bx.trans (bm.mono bx.size)
  have e2 : (w1.alloc (.cells m.cs 29)).heap.size = w.heap.size + 2 := by rw [World.size_alloc, e1]
  rw [e1] at om
  unfold MoP.cs at *
  generalize w1.alloc (.cells #[.slice m.ta m.tys.length m.tc, .slice m.sa m.txs.length m.sc, .slice m.fa m.fns.length m.fc] 29) = w2 at *
  have o0 := Own.new w2 zEff 69
  have bn := new_below w2 (.cells zEff 69)
  have ox2 := ox1.below bn
  have om2 := om.below bn
  have b3 := b2.trans (bn.mono b2.size)
  rw [e2] at o0
  clear ox bx bm ox1 om b2 bn e1 e2
  generalize w2.alloc (.cells zEff 69) = w3 at *
  obtain ⟨x0, x1, x2, x3, xf⟩ := own4 ox2
  obtain ⟨m0, m1, m2, mf⟩ := own3 om2
  have hC := HC.out w3 b3
  rw [show arrM m.tys 44 a = R from HR.out] at hC
  clear HC HR
  go_upto_region 17 with fail
  go_wp2_with fail
  refine hC.mono ?_
  clear hC
  rintro e w4 hq
  cases R with
  | none =>
    obtain ⟨⟨ta, tn, tc, pa, pn, pc, rfl⟩, k4⟩ := hq
    have o4 := o0.below k4
    have b4 := b3.trans (k4.mono b3.size)
    clear x0 x1 x2 x3 xf m0 m1 m2 mf o0 b3 k4 ox2 om2
    go_wp2_with (refine wpList_put rfl 69 (.tmp 4) (.tmp 50) rfl rfl (w.heap.size + 2) 0 rfl rfl o4 infoE rfl (by simp) rfl ?_; intro w5 o5 g5)
    refine bodyPost_cell2 (g := w.heap.size + 2) (t := 69) rfl rfl rfl o5 Tryd.underlying69 rfl (by kernel_rfl) ?_
    exact ⟨⟨_, _, _, _, _, _, rfl⟩, b4.grown g5 b4.size (fun k e => by cases e; omega)⟩
  | some r =>
    obtain ⟨⟨ta, tc, pa, pc, rfl, i4, j4⟩, k4⟩ := hq
    have o4 := o0.below k4
    have i5 := i4.mono b3.size
    have j5 := j4.mono b3.size
    have b4 := b3.trans (k4.mono b3.size)
    clear x0 x1 x2 x3 xf m0 m1 m2 mf o0 b3 k4 ox2 om2 i4 j4
    go_wp2_with (refine wpList_put rfl 69 (.tmp 4) (.tmp 50) rfl rfl (w.heap.size + 2) 0 rfl rfl o4 infoE rfl (by simp) rfl ?_; intro w5 o5 g5)
    refine bodyPost_cell2 (g := w.heap.size + 2) (t := 69) rfl rfl rfl o5 Tryd.underlying69 rfl (by kernel_rfl) ?_
    exact ⟨⟨_, _, _, _, rfl, i5.grown g5 o4 (by decide), j5.grown g5 o4 (by decide)⟩, b4.grown g5 b4.size (fun k e => by cases e; omega)⟩
set_option maxHeartbeats 2000000 in
set_option maxRecDepth 100000 in
theorem effectOf45 {w : World} {m : MoP} (hm : MoIn w m) (hs : Small m 100000) (a b : Int) (ha : 0 ≤ a ∧ a ≤ 65535) (ao : Option Addr) (n cp : Nat) :
    Calls Tryd.prog 27 #[.agg #[.int .u8 45, .int .i64 a, .int .i64 b, .slice ao n cp], .agg m.cs] w (OutRet w (effM m 45 a b)) := by
  have HC : Hid (∀ W, Below w.heap.size w W → Calls Tryd.prog 48 #[.agg #[.int .u8 45, .int .i64 a, .int .i64 b, .slice ao n cp], .slice m.ta m.tys.length m.tc] W (OutRet W (arrM m.tys 45 a))) := fun W hh => ofArray45 (hm.tyr.below hh) rfl hs.ty (fun t ht => ⟨(hm.ty t ht).below hh, hs.fl t ht⟩) a b ha.1 ha.2 ao n cp
  clear hm hs ha
  obtain ⟨R, HR⟩ : ∃ R, Hid (effM m 45 a b = R) := ⟨_, rfl⟩
  rw [HR.out]
  have ox := Own.new w #[.int .u8 45, .int .i64 a, .int .i64 b, .slice ao n cp] 24
  have bx := new_below w (.cells #[.int .u8 45, .int .i64 a, .int .i64 b, .slice ao n cp] 24)
  go_enter Tryd.func27, Tryd.ntmps27
  go_upto_region 1 with fail
  have e1 : (w.alloc (.cells #[.int .u8 45, .int .i64 a, .int .i64 b, .slice ao n cp] 24)).heap.size = w.heap.size + 1 := World.size_alloc _ _
  generalize w.alloc (.cells #[.int .u8 45, .int .i64 a, .int .i64 b, .slice ao n cp] 24) = w1 at *
  have om := Own.new w1 m.cs 29
  have bm := new_below w1 (.cells m.cs 29)
  have ox1 := ox.below bm
  have b2 := bx.trans (bm.mono bx.size)
  have e2 : (w1.alloc (.cells m.cs 29)).heap.size = w.heap.size + 2 := by rw [World.size_alloc, e1]
  rw [e1] at om
  unfold MoP.cs at *
  generalize w1.alloc (.cells #[.slice m.ta m.tys.length m.tc, .slice m.sa m.txs.length m.sc, .slice m.fa m.fns.length m.fc] 29) = w2 at *
  have o0 := Own.new w2 zEff 69
  have bn := new_below w2 (.cells zEff 69)
  have ox2 := ox1.below bn
  have om2 := om.below bn
  have b3 := b2.trans (bn.mono b2.size)
  rw [e2] at o0
  clear ox bx bm ox1 om b2 bn e1 e2
  generalize w2.alloc (.cells zEff 69) = w3 at *
  obtain ⟨x0, x1, x2, x3, xf⟩ := own4 ox2
  obtain ⟨m0, m1, m2, mf⟩ := own3 om2
  have hC := HC.out w3 b3
  rw [show arrM m.tys 45 a = R from HR.out] at hC
  clear HC HR
  go_upto_region 17 with fail
  go_wp2_with fail
  refine hC.mono ?_
  clear hC
  rintro e w4 hq
  cases R with
  | none =>
    obtain ⟨⟨ta, tn, tc, pa, pn, pc, rfl⟩, k4⟩ := hq
    have o4 := o0.below k4
    have b4 := b3.trans (k4.mono b3.size)
    clear x0 x1 x2 x3 xf m0 m1 m2 mf o0 b3 k4 ox2 om2
    go_wp2_with (refine wpList_put rfl 69 (.tmp 4) (.tmp 50) rfl rfl (w.heap.size + 2) 0 rfl rfl o4 infoE rfl (by simp) rfl ?_; intro w5 o5 g5)
    refine bodyPost_cell2 (g := w.heap.size + 2) (t := 69) rfl rfl rfl o5 Tryd.underlying69 rfl (by kernel_rfl) ?_
    exact ⟨⟨_, _, _, _, _, _, rfl⟩, b4.grown g5 b4.size (fun k e => by cases e; omega)⟩
  | some r =>
    obtain ⟨⟨ta, tc, pa, pc, rfl, i4, j4⟩, k4⟩ := hq
    have o4 := o0.below k4
    have i5 := i4.mono b3.size
    have j5 := j4.mono b3.size
    have b4 := b3.trans (k4.mono b3.size)
    clear x0 x1 x2 x3 xf m0 m1 m2 mf o0 b3 k4 ox2 om2 i4 j4
    go_wp2_with (refine wpList_put rfl 69 (.tmp 4) (.tmp 50) rfl rfl (w.heap.size + 2) 0 rfl rfl o4 infoE rfl (by simp) rfl ?_; intro w5 o5 g5)
    refine bodyPost_cell2 (g := w.heap.size + 2) (t := 69) rfl rfl rfl o5 Tryd.underlying69 rfl (by kernel_rfl) ?_
    exact ⟨⟨_, _, _, _, rfl, i5.grown g5 o4 (by decide), j5.grown g5 o4 (by decide)⟩, b4.grown g5 b4.size (fun k e => by cases e; omega)⟩
end Go.Proofs.YtjfdlphkmpkjdaaDoor
