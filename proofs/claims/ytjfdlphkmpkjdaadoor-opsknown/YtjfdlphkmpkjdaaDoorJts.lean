/-
  CONTRACT of effectOf: by the op.
  CONTRACT of effectOf: by the op.
-/
import Derived.Test.YtjfdlphkmpkjdaaDoorTk4
import Derived.Test.YtjfdlphkmpkjdaaDoorJtb
import Derived.Test.YtjfdlphkmpkjdaaDoorTk6
import Derived.Test.YtjfdlphkmpkjdaaDoorJtk
import Derived.Test.YtjfdlphkmpkjdaaDoorTk12
import Derived.Test.YtjfdlphkmpkjdaaDoorTk13
import Derived.Test.YtjfdlphkmpkjdaaDoorJtp
namespace Go.Proofs.YtjfdlphkmpkjdaaDoor
open Go.RowKit
set_option linter.unusedVariables false

/-- What an instruction takes and puts that hangs on itself alone. -/
def plE (op : Nat) (a b : Int) : List Int × List Int :=
  if op ≤ 3 then ([], [(op : Int)]) else if op ≤ 5 then ([], [4]) else if op = 7 then ([], [0]) else if op ≤ 9 then ([0], []) else if op = 10 then ([0], [0, 0])
  else if op ≤ 20 then ([a, a], [a]) else if op ≤ 22 then ([a], [a]) else if op ≤ 28 then ([a, a], [4]) else if op = 29 then ([a], [b]) else if op = 30 then ([4], [4])
  else if op = 31 then ([5, 5], [5]) else if op = 32 then ([5], [3]) else if op = 33 then ([5, 3], [2]) else if op = 34 then ([5, 3, 3], [5]) else if op = 35 then ([2], [5])
  else if op = 46 then ([], []) else if op ≤ 48 then ([4], []) else if op = 49 then ([a], []) else ([], [])
def effM (m : MoP) (op : Nat) (a b : Int) : Option (List Int × List Int) :=
  if op = 6 then (if a < (m.txs.length : Int) then some ([], [5]) else none)
  else if op = 50 then callM m.fns a
  else if op = 36 ∨ op = 37 ∨ op = 38 then recM m.tys op a b
  else if 39 ≤ op ∧ op ≤ 45 then arrM m.tys op a
  else some (plE op a b)
end Go.Proofs.YtjfdlphkmpkjdaaDoor
namespace Go.Proofs.YtjfdlphkmpkjdaaDoor
open Go.RowKit
set_option linter.unusedVariables false

set_option maxHeartbeats 2000000 in
set_option maxRecDepth 100000 in
theorem effectOf6 {w : World} {m : MoP} (hm : MoIn w m) (hs : Small m 100000) (a b : Int) (ha : 0 ≤ a ∧ a ≤ 65535) (ao : Option Addr) (n cp : Nat) :
    Calls Tryd.prog 27 #[.agg #[.int .u8 6, .int .i64 a, .int .i64 b, .slice ao n cp], .agg m.cs] w (OutRet w (effM m 6 a b)) := by
  have HTX : Hid ((m.txs.length : Int) ≤ 100000) := by have := hs.tx; unfold Hid; omega
  clear hm hs ha
  obtain ⟨R, HR⟩ : ∃ R, Hid (effM m 6 a b = R) := ⟨_, rfl⟩
  rw [HR.out]
  have ox := Own.new w #[.int .u8 6, .int .i64 a, .int .i64 b, .slice ao n cp] 24
  have bx := new_below w (.cells #[.int .u8 6, .int .i64 a, .int .i64 b, .slice ao n cp] 24)
  go_enter Tryd.func27, Tryd.ntmps27
  go_upto_region 1 with fail
  have e1 : (w.alloc (.cells #[.int .u8 6, .int .i64 a, .int .i64 b, .slice ao n cp] 24)).heap.size = w.heap.size + 1 := World.size_alloc _ _
  generalize w.alloc (.cells #[.int .u8 6, .int .i64 a, .int .i64 b, .slice ao n cp] 24) = w1 at *
  have om := Own.new w1 m.cs 29
  have bm := new_below w1 (.cells m.cs 29)
  have ox1 := ox.below bm
  have b2 := bx.trans (bm.mono bx.size)
  have e2 : (w1.alloc (.cells m.cs 29)).heap.size = w.heap.size + 2 := by rw [World.size_alloc, e1]
  rw [e1] at om
  unfold MoP.cs at *
  generalize w1.alloc (.cells #[.slice m.ta m.tys.length m.tc, .slice m.sa m.txs.length m.sc, .slice m.fa m.fns.length m.fc] 29) = w2 at *
  have o0 := Own.new w2 zEff 69
  have bn := new_below w2 (.cells zEff 69)
  have ox2 := ox1.below bn
  have om2 := om.below bn
  have b3 := b2.trans (bn.mono b2.size)
  rw [e2] at o0
  clear ox bx bm ox1 om b2 bn e1 e2
  generalize w2.alloc (.cells zEff 69) = w3 at *
  obtain ⟨x0, x1, x2, x3, xf⟩ := own4 ox2
  obtain ⟨m0, m1, m2, mf⟩ := own3 om2
  have ne1 : ¬ w.heap.size + 2 = w.heap.size := by omega
  have ne2 : ¬ w.heap.size = w.heap.size + 2 := by omega
  have ne3 : ¬ w.heap.size + 2 = w.heap.size + 1 := by omega
  have ne4 : ¬ w.heap.size + 1 = w.heap.size + 2 := by omega
  have HE6 : Hid (R = if a < (m.txs.length : Int) then some ([], [5]) else none) := by rw [Hid, ← HR.out]; unfold effM; rw [if_pos rfl]
  clear HR
  generalize m.txs.length = n2 at *
  go_upto_region 3 with fail
  clear x0 x2 x3 m0 m2
  go_region_held3 (fun w' => w'.cell? ⟨w.heap.size, 1, none⟩ = some (.int .i64 a) ∧ w'.cell? ⟨w.heap.size + 1, 1, none⟩ = some (.slice m.sa n2 m.sc)) (go_keep)
    (first
      | (have hz := B2; clear hz; go_at_call 45; refine (put_as (B := w.heap.size) (tv := .slice a2 0 c2) (T := []) (c := 1) (n := 1) (xs := [5]) (by first | exact b2s | exact Nat.le_trans b2s (new_below _ _).size) (by first | exact i2 | exact i2.below (new_below _ _)) (by first | exact rowP W2 [5] | exact (rowA _ [5]).below k2) rfl (fun e => by cases e) (Nat.le_refl _) (by omega)).mono ?_; rintro en W3 ⟨pv, rfl, i3, j3, k3⟩; obtain ⟨a3, c3, rfl⟩ := j3.shape; have B3 : Below w3.heap.size w3 W3 := (by first | exact B2.trans (k3.mono B2.size) | exact (B2.alloc B2.size _).trans (k3.mono (B2.alloc B2.size _).size)); obtain ⟨z0, z1, z2, z3, zf⟩ := own4 (ox2.below B3); obtain ⟨y0, y1, y2, yf⟩ := own3 (om2.below B3); have or := o0.below B3; obtain ⟨r0, r1, rf⟩ := own2 or; clear z0 z2 z3 y0 y2)
      | (go_at_call 44; refine (take_as (a := none) (c := 0) (n := 0) (xs := []) (.inl rfl) rfl (fun _ => rfl) (Nat.le_refl _) (by omega)).mono ?_; rintro en W2 ⟨tv, rfl, i2, k2⟩; obtain ⟨a2, c2, rfl⟩ := i2.shape; have B2 : Below w3.heap.size w3 W2 := (by first | exact (below_drew1 (Below.refl _ w3)).trans k2 | exact (belowA w3 _).trans (k2.mono (belowA w3 _).size)); have b2s : w.heap.size ≤ W2.heap.size := Nat.le_trans b3.size B2.size; have i2 := i2.mono (show w.heap.size ≤ _ by first | exact b3.size | exact Nat.le_trans b3.size (belowA w3 _).size); obtain ⟨z0, z1, z2, z3, zf⟩ := own4 (ox2.below B2); obtain ⟨y0, y1, y2, yf⟩ := own3 (om2.below B2); clear z0 z2 z3 y0 y2))
  all_goals (
    have o5 := (or.set 0 (.slice a2 0 c2)).set 1 (.slice a3 1 c3)
    have o6 : Own ((W3.setCell ⟨w.heap.size + 2, 0, none⟩ (.slice a2 0 c2)).setCell ⟨w.heap.size + 2, 1, none⟩ (.slice a3 1 c3)) (w.heap.size + 2) #[.slice a2 0 c2, .slice a3 1 c3] 69 := by simpa using o5
    go_wp2
    refine bodyPost_cell2 (g := w.heap.size + 2) (t := 69) rfl rfl rfl o6 Tryd.underlying69 rfl (by kernel_rfl) ?_
    have i5 := i3.set2 or (by decide) (.slice a2 0 c2) (.slice a3 1 c3)
    have j5 := j3.set2 or (by decide) (.slice a2 0 c2) (.slice a3 1 c3)
    have b5 := below_set2 (b3.trans (B3.mono b3.size)) (show w.heap.size ≤ w.heap.size + 2 by omega) (.slice a2 0 c2) (.slice a3 1 c3)
    by_cases hlt : a < (n2 : Int)
    · obtain rfl : some ([], [5]) = R := by rw [HE6.out, if_pos hlt]
      refine ⟨⟨a2, c2, a3, c3, ?_, i5, j5⟩, b5⟩
      simp [hlt]
    · obtain rfl : none = R := by rw [HE6.out, if_neg hlt]
      refine ⟨⟨a2, 0, c2, a3, 1, c3, ?_⟩, b5⟩
      simp [hlt])
set_option maxHeartbeats 2000000 in
set_option maxRecDepth 100000 in
theorem effectOf50 {w : World} {m : MoP} (hm : MoIn w m) (hs : Small m 100000) (a b : Int) (ha : 0 ≤ a ∧ a ≤ 65535) (ao : Option Addr) (n cp : Nat) :
    Calls Tryd.prog 27 #[.agg #[.int .u8 50, .int .i64 a, .int .i64 b, .slice ao n cp], .agg m.cs] w (OutRet w (effM m 50 a b)) := by
  have HC : Hid (∀ W, Below w.heap.size w W → Calls Tryd.prog 46 #[.int .i64 a, .slice m.fa m.fns.length m.fc] W (OutRet W (callM m.fns a))) := fun W hb => ofCall_as (hm.fnr.below hb) rfl hs.fn (fun r hr => ⟨(hm.fn r hr).below hb, (hs.ro r hr).1, (hs.ro r hr).2.1⟩) a ha.1 ha.2
  clear hm hs ha
  obtain ⟨R, HR⟩ : ∃ R, Hid (effM m 50 a b = R) := ⟨_, rfl⟩
  rw [HR.out]
  have ox := Own.new w #[.int .u8 50, .int .i64 a, .int .i64 b, .slice ao n cp] 24
  have bx := new_below w (.cells #[.int .u8 50, .int .i64 a, .int .i64 b, .slice ao n cp] 24)
  go_enter Tryd.func27, Tryd.ntmps27
  go_upto_region 1 with fail
  have e1 : (w.alloc (.cells #[.int .u8 50, .int .i64 a, .int .i64 b, .slice ao n cp] 24)).heap.size = w.heap.size + 1 := World.size_alloc _ _
  generalize w.alloc (.cells #[.int .u8 50, .int .i64 a, .int .i64 b, .slice ao n cp] 24) = w1 at *
  have om := Own.new w1 m.cs 29
  have bm := new_below w1 (.cells m.cs 29)
  have ox1 := ox.below bm
  have b2 := bx.trans (bm.mono bx.size)
  have e2 : (w1.alloc (.cells m.cs 29)).heap.size = w.heap.size + 2 := by rw [World.size_alloc, e1]
  rw [e1] at om
  unfold MoP.cs at *
  generalize w1.alloc (.cells #[.slice m.ta m.tys.length m.tc, .slice m.sa m.txs.length m.sc, .slice m.fa m.fns.length m.fc] 29) = w2 at *
  have o0 := Own.new w2 zEff 69
  have bn := new_below w2 (.cells zEff 69)
  have ox2 := ox1.below bn
  have om2 := om.below bn
  have b3 := b2.trans (bn.mono b2.size)
  rw [e2] at o0
  clear ox bx bm ox1 om b2 bn e1 e2
  generalize w2.alloc (.cells zEff 69) = w3 at *
  obtain ⟨x0, x1, x2, x3, xf⟩ := own4 ox2
  obtain ⟨m0, m1, m2, mf⟩ := own3 om2
  have hC := HC.out w3 b3
  rw [show callM m.fns a = R from HR.out] at hC
  clear HC HR
  go_upto_region 5 with fail
  go_wp2_with fail
  refine hC.mono ?_
  clear hC
  rintro e w4 hq
  cases R with
  | none =>
    obtain ⟨⟨ta, tn, tc, pa, pn, pc, rfl⟩, k4⟩ := hq
    have o4 := o0.below k4
    have b4 := b3.trans (k4.mono b3.size)
    clear x0 x1 x2 x3 xf m0 m1 m2 mf o0 b3 k4 ox2 om2
    go_wp2_with (refine wpList_put rfl 69 (.tmp 4) (.tmp 26) rfl rfl (w.heap.size + 2) 0 rfl rfl o4 infoE rfl (by simp) rfl ?_; intro w5 o5 g5)
    refine bodyPost_cell2 (g := w.heap.size + 2) (t := 69) rfl rfl rfl o5 Tryd.underlying69 rfl (by kernel_rfl) ?_
    exact ⟨⟨_, _, _, _, _, _, rfl⟩, b4.grown g5 b4.size (fun k e => by cases e; omega)⟩
  | some r =>
    obtain ⟨⟨ta, tc, pa, pc, rfl, i4, j4⟩, k4⟩ := hq
    have o4 := o0.below k4
    have i5 := i4.mono b3.size
    have j5 := j4.mono b3.size
    have b4 := b3.trans (k4.mono b3.size)
    clear x0 x1 x2 x3 xf m0 m1 m2 mf o0 b3 k4 ox2 om2 i4 j4
    go_wp2_with (refine wpList_put rfl 69 (.tmp 4) (.tmp 26) rfl rfl (w.heap.size + 2) 0 rfl rfl o4 infoE rfl (by simp) rfl ?_; intro w5 o5 g5)
    refine bodyPost_cell2 (g := w.heap.size + 2) (t := 69) rfl rfl rfl o5 Tryd.underlying69 rfl (by kernel_rfl) ?_
    exact ⟨⟨_, _, _, _, rfl, i5.grown g5 o4 (by decide), j5.grown g5 o4 (by decide)⟩, b4.grown g5 b4.size (fun k e => by cases e; omega)⟩
set_option maxHeartbeats 2000000 in
set_option maxRecDepth 100000 in
theorem effectOf36 {w : World} {m : MoP} (hm : MoIn w m) (hs : Small m 100000) (a b : Int) (ha : 0 ≤ a ∧ a ≤ 65535) (hb : 0 ≤ b ∧ b ≤ 65535) (ao : Option Addr) (n cp : Nat) :
    Calls Tryd.prog 27 #[.agg #[.int .u8 36, .int .i64 a, .int .i64 b, .slice ao n cp], .agg m.cs] w (OutRet w (effM m 36 a b)) := by
  have HC : Hid (∀ W, Below w.heap.size w W → Calls Tryd.prog 47 #[.agg #[.int .u8 36, .int .i64 a, .int .i64 b, .slice ao n cp], .slice m.ta m.tys.length m.tc] W (OutRet W (recM m.tys 36 a b))) := fun W hh => ofRecord36 (hm.tyr.below hh) rfl hs.ty (fun t ht => ⟨(hm.ty t ht).below hh, hs.fl t ht⟩) a b ha.1 ha.2 hb.1 hb.2 ao n cp
  clear hm hs ha hb
  obtain ⟨R, HR⟩ : ∃ R, Hid (effM m 36 a b = R) := ⟨_, rfl⟩
  rw [HR.out]
  have ox := Own.new w #[.int .u8 36, .int .i64 a, .int .i64 b, .slice ao n cp] 24
  have bx := new_below w (.cells #[.int .u8 36, .int .i64 a, .int .i64 b, .slice ao n cp] 24)
  go_enter Tryd.func27, Tryd.ntmps27
  go_upto_region 1 with fail
  have e1 : (w.alloc (.cells #[.int .u8 36, .int .i64 a, .int .i64 b, .slice ao n cp] 24)).heap.size = w.heap.size + 1 := World.size_alloc _ _
  generalize w.alloc (.cells #[.int .u8 36, .int .i64 a, .int .i64 b, .slice ao n cp] 24) = w1 at *
  have om := Own.new w1 m.cs 29
  have bm := new_below w1 (.cells m.cs 29)
  have ox1 := ox.below bm
  have b2 := bx.trans (bm.mono bx.size)
  have e2 : (w1.alloc (.cells m.cs 29)).heap.size = w.heap.size + 2 := by rw [World.size_alloc, e1]
  rw [e1] at om
  unfold MoP.cs at *
  generalize w1.alloc (.cells #[.slice m.ta m.tys.length m.tc, .slice m.sa m.txs.length m.sc, .slice m.fa m.fns.length m.fc] 29) = w2 at *
  have o0 := Own.new w2 zEff 69
  have bn := new_below w2 (.cells zEff 69)
  have ox2 := ox1.below bn
  have om2 := om.below bn
  have b3 := b2.trans (bn.mono b2.size)
  rw [e2] at o0
  clear ox bx bm ox1 om b2 bn e1 e2
  generalize w2.alloc (.cells zEff 69) = w3 at *
  obtain ⟨x0, x1, x2, x3, xf⟩ := own4 ox2
  obtain ⟨m0, m1, m2, mf⟩ := own3 om2
  have hC := HC.out w3 b3
  rw [show recM m.tys 36 a b = R from HR.out] at hC
  clear HC HR
  go_upto_region 9 with fail
  go_wp2_with fail
  refine hC.mono ?_
  clear hC
  rintro e w4 hq
  cases R with
  | none =>
    obtain ⟨⟨ta, tn, tc, pa, pn, pc, rfl⟩, k4⟩ := hq
    have o4 := o0.below k4
    have b4 := b3.trans (k4.mono b3.size)
    clear x0 x1 x2 x3 xf m0 m1 m2 mf o0 b3 k4 ox2 om2
    go_wp2_with (refine wpList_put rfl 69 (.tmp 4) (.tmp 36) rfl rfl (w.heap.size + 2) 0 rfl rfl o4 infoE rfl (by simp) rfl ?_; intro w5 o5 g5)
    refine bodyPost_cell2 (g := w.heap.size + 2) (t := 69) rfl rfl rfl o5 Tryd.underlying69 rfl (by kernel_rfl) ?_
    exact ⟨⟨_, _, _, _, _, _, rfl⟩, b4.grown g5 b4.size (fun k e => by cases e; omega)⟩
  | some r =>
    obtain ⟨⟨ta, tc, pa, pc, rfl, i4, j4⟩, k4⟩ := hq
    have o4 := o0.below k4
    have i5 := i4.mono b3.size
    have j5 := j4.mono b3.size
    have b4 := b3.trans (k4.mono b3.size)
    clear x0 x1 x2 x3 xf m0 m1 m2 mf o0 b3 k4 ox2 om2 i4 j4
    go_wp2_with (refine wpList_put rfl 69 (.tmp 4) (.tmp 36) rfl rfl (w.heap.size + 2) 0 rfl rfl o4 infoE rfl (by simp) rfl ?_; intro w5 o5 g5)
    refine bodyPost_cell2 (g := w.heap.size + 2) (t := 69) rfl rfl rfl o5 Tryd.underlying69 rfl (by kernel_rfl) ?_
    exact ⟨⟨_, _, _, _, rfl, i5.grown g5 o4 (by decide), j5.grown g5 o4 (by decide)⟩, b4.grown g5 b4.size (fun k e => by cases e; omega)⟩
set_option maxHeartbeats 2000000 in
set_option maxRecDepth 100000 in
theorem effectOf37 {w : World} {m : MoP} (hm : MoIn w m) (hs : Small m 100000) (a b : Int) (ha : 0 ≤ a ∧ a ≤ 65535) (hb : 0 ≤ b ∧ b ≤ 65535) (ao : Option Addr) (n cp : Nat) :
    Calls Tryd.prog 27 #[.agg #[.int .u8 37, .int .i64 a, .int .i64 b, .slice ao n cp], .agg m.cs] w (OutRet w (effM m 37 a b)) := by
  have HC : Hid (∀ W, Below w.heap.size w W → Calls Tryd.prog 47 #[.agg #[.int .u8 37, .int .i64 a, .int .i64 b, .slice ao n cp], .slice m.ta m.tys.length m.tc] W (OutRet W (recM m.tys 37 a b))) := fun W hh => ofRecord37 (hm.tyr.below hh) rfl hs.ty (fun t ht => ⟨(hm.ty t ht).below hh, hs.fl t ht⟩) a b ha.1 ha.2 hb.1 hb.2 ao n cp
  clear hm hs ha hb
  obtain ⟨R, HR⟩ : ∃ R, Hid (effM m 37 a b = R) := ⟨_, rfl⟩
  rw [HR.out]
  have ox := Own.new w #[.int .u8 37, .int .i64 a, .int .i64 b, .slice ao n cp] 24
  have bx := new_below w (.cells #[.int .u8 37, .int .i64 a, .int .i64 b, .slice ao n cp] 24)
  go_enter Tryd.func27, Tryd.ntmps27
  go_upto_region 1 with fail
  have e1 : (w.alloc (.cells #[.int .u8 37, .int .i64 a, .int .i64 b, .slice ao n cp] 24)).heap.size = w.heap.size + 1 := World.size_alloc _ _
  generalize w.alloc (.cells #[.int .u8 37, .int .i64 a, .int .i64 b, .slice ao n cp] 24) = w1 at *
  have om := Own.new w1 m.cs 29
  have bm := new_below w1 (.cells m.cs 29)
  have ox1 := ox.below bm
  have b2 := bx.trans (bm.mono bx.size)
  have e2 : (w1.alloc (.cells m.cs 29)).heap.size = w.heap.size + 2 := by rw [World.size_alloc, e1]
  rw [e1] at om
  unfold MoP.cs at *
  generalize w1.alloc (.cells #[.slice m.ta m.tys.length m.tc, .slice m.sa m.txs.length m.sc, .slice m.fa m.fns.length m.fc] 29) = w2 at *
  have o0 := Own.new w2 zEff 69
  have bn := new_below w2 (.cells zEff 69)
  have ox2 := ox1.below bn
  have om2 := om.below bn
  have b3 := b2.trans (bn.mono b2.size)
  rw [e2] at o0
  clear ox bx bm ox1 om b2 bn e1 e2
  generalize w2.alloc (.cells zEff 69) = w3 at *
  obtain ⟨x0, x1, x2, x3, xf⟩ := own4 ox2
  obtain ⟨m0, m1, m2, mf⟩ := own3 om2
  have hC := HC.out w3 b3
  rw [show recM m.tys 37 a b = R from HR.out] at hC
  clear HC HR
  go_upto_region 9 with fail
  go_wp2_with fail
  refine hC.mono ?_
  clear hC
  rintro e w4 hq
  cases R with
  | none =>
    obtain ⟨⟨ta, tn, tc, pa, pn, pc, rfl⟩, k4⟩ := hq
    have o4 := o0.below k4
    have b4 := b3.trans (k4.mono b3.size)
    clear x0 x1 x2 x3 xf m0 m1 m2 mf o0 b3 k4 ox2 om2
    go_wp2_with (refine wpList_put rfl 69 (.tmp 4) (.tmp 36) rfl rfl (w.heap.size + 2) 0 rfl rfl o4 infoE rfl (by simp) rfl ?_; intro w5 o5 g5)
    refine bodyPost_cell2 (g := w.heap.size + 2) (t := 69) rfl rfl rfl o5 Tryd.underlying69 rfl (by kernel_rfl) ?_
    exact ⟨⟨_, _, _, _, _, _, rfl⟩, b4.grown g5 b4.size (fun k e => by cases e; omega)⟩
  | some r =>
    obtain ⟨⟨ta, tc, pa, pc, rfl, i4, j4⟩, k4⟩ := hq
    have o4 := o0.below k4
    have i5 := i4.mono b3.size
    have j5 := j4.mono b3.size
    have b4 := b3.trans (k4.mono b3.size)
    clear x0 x1 x2 x3 xf m0 m1 m2 mf o0 b3 k4 ox2 om2 i4 j4
    go_wp2_with (refine wpList_put rfl 69 (.tmp 4) (.tmp 36) rfl rfl (w.heap.size + 2) 0 rfl rfl o4 infoE rfl (by simp) rfl ?_; intro w5 o5 g5)
    refine bodyPost_cell2 (g := w.heap.size + 2) (t := 69) rfl rfl rfl o5 Tryd.underlying69 rfl (by kernel_rfl) ?_
    exact ⟨⟨_, _, _, _, rfl, i5.grown g5 o4 (by decide), j5.grown g5 o4 (by decide)⟩, b4.grown g5 b4.size (fun k e => by cases e; omega)⟩
set_option maxHeartbeats 2000000 in
set_option maxRecDepth 100000 in
theorem effectOf38 {w : World} {m : MoP} (hm : MoIn w m) (hs : Small m 100000) (a b : Int) (ha : 0 ≤ a ∧ a ≤ 65535) (hb : 0 ≤ b ∧ b ≤ 65535) (ao : Option Addr) (n cp : Nat) :
    Calls Tryd.prog 27 #[.agg #[.int .u8 38, .int .i64 a, .int .i64 b, .slice ao n cp], .agg m.cs] w (OutRet w (effM m 38 a b)) := by
  have HC : Hid (∀ W, Below w.heap.size w W → Calls Tryd.prog 47 #[.agg #[.int .u8 38, .int .i64 a, .int .i64 b, .slice ao n cp], .slice m.ta m.tys.length m.tc] W (OutRet W (recM m.tys 38 a b))) := fun W hh => ofRecord38 (hm.tyr.below hh) rfl hs.ty (fun t ht => ⟨(hm.ty t ht).below hh, hs.fl t ht⟩) a b ha.1 ha.2 hb.1 hb.2 ao n cp
  clear hm hs ha hb
  obtain ⟨R, HR⟩ : ∃ R, Hid (effM m 38 a b = R) := ⟨_, rfl⟩
  rw [HR.out]
  have ox := Own.new w #[.int .u8 38, .int .i64 a, .int .i64 b, .slice ao n cp] 24
  have bx := new_below w (.cells #[.int .u8 38, .int .i64 a, .int .i64 b, .slice ao n cp] 24)
  go_enter Tryd.func27, Tryd.ntmps27
  go_upto_region 1 with fail
  have e1 : (w.alloc (.cells #[.int .u8 38, .int .i64 a, .int .i64 b, .slice ao n cp] 24)).heap.size = w.heap.size + 1 := World.size_alloc _ _
  generalize w.alloc (.cells #[.int .u8 38, .int .i64 a, .int .i64 b, .slice ao n cp] 24) = w1 at *
  have om := Own.new w1 m.cs 29
  have bm := new_below w1 (.cells m.cs 29)
  have ox1 := ox.below bm
  have b2 := bx.trans (bm.mono bx.size)
  have e2 : (w1.alloc (.cells m.cs 29)).heap.size = w.heap.size + 2 := by rw [World.size_alloc, e1]
  rw [e1] at om
  unfold MoP.cs at *
  generalize w1.alloc (.cells #[.slice m.ta m.tys.length m.tc, .slice m.sa m.txs.length m.sc, .slice m.fa m.fns.length m.fc] 29) = w2 at *
  have o0 := Own.new w2 zEff 69
  have bn := new_below w2 (.cells zEff 69)
  have ox2 := ox1.below bn
  have om2 := om.below bn
  have b3 := b2.trans (bn.mono b2.size)
  rw [e2] at o0
  clear ox bx bm ox1 om b2 bn e1 e2
  generalize w2.alloc (.cells zEff 69) = w3 at *
  obtain ⟨x0, x1, x2, x3, xf⟩ := own4 ox2
  obtain ⟨m0, m1, m2, mf⟩ := own3 om2
  have hC := HC.out w3 b3
  rw [show recM m.tys 38 a b = R from HR.out] at hC
  clear HC HR
  go_upto_region 9 with fail
  go_wp2_with fail
  refine hC.mono ?_
  clear hC
  rintro e w4 hq
  cases R with
  | none =>
    obtain ⟨⟨ta, tn, tc, pa, pn, pc, rfl⟩, k4⟩ := hq
    have o4 := o0.below k4
    have b4 := b3.trans (k4.mono b3.size)
    clear x0 x1 x2 x3 xf m0 m1 m2 mf o0 b3 k4 ox2 om2
    go_wp2_with (refine wpList_put rfl 69 (.tmp 4) (.tmp 36) rfl rfl (w.heap.size + 2) 0 rfl rfl o4 infoE rfl (by simp) rfl ?_; intro w5 o5 g5)
    refine bodyPost_cell2 (g := w.heap.size + 2) (t := 69) rfl rfl rfl o5 Tryd.underlying69 rfl (by kernel_rfl) ?_
    exact ⟨⟨_, _, _, _, _, _, rfl⟩, b4.grown g5 b4.size (fun k e => by cases e; omega)⟩
  | some r =>
    obtain ⟨⟨ta, tc, pa, pc, rfl, i4, j4⟩, k4⟩ := hq
    have o4 := o0.below k4
    have i5 := i4.mono b3.size
    have j5 := j4.mono b3.size
    have b4 := b3.trans (k4.mono b3.size)
    clear x0 x1 x2 x3 xf m0 m1 m2 mf o0 b3 k4 ox2 om2 i4 j4
    go_wp2_with (refine wpList_put rfl 69 (.tmp 4) (.tmp 36) rfl rfl (w.heap.size + 2) 0 rfl rfl o4 infoE rfl (by simp) rfl ?_; intro w5 o5 g5)
    refine bodyPost_cell2 (g := w.heap.size + 2) (t := 69) rfl rfl rfl o5 Tryd.underlying69 rfl (by kernel_rfl) ?_
    exact ⟨⟨_, _, _, _, rfl, i5.grown g5 o4 (by decide), j5.grown g5 o4 (by decide)⟩, b4.grown g5 b4.size (fun k e => by cases e; omega)⟩
end Go.Proofs.YtjfdlphkmpkjdaaDoor
