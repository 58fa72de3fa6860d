/-
  CONTRACTS of the document's parts behind an Op: place, width, leap, parts, within.
-/
import Derived.Test.YtjfdlphkmpkjdaaDoorKt
namespace Go.Proofs.YtjfdlphkmpkjdaaDoor
open Go.RowKit
set_option linter.unusedVariables false

abbrev partC (k : Nm) : List Value := [.int .i64 (k.sz : Int), .int .i64 k.lo, .int .i64 k.hi, .bool k.sg]
/-- Parts that lie in a block of their own. -/
def PartLies (w : World) (ao : Option Addr) (n : Nat) (ps : List Nm) : Prop := n = ps.length ∧ (ps = [] ∨ ∃ b, ao = some ⟨b, 0, none⟩ ∧ Own w b ((ps.map partC).flatten).toArray 96)
def RpRet (ps : List Nm) (ok : Bool) (w : World) (e : Ending) (w' : World) : Prop := ∃ ao n c, e = .returned (.tuple #[.slice ao n c, .bool ok]) ∧ PartLies w' ao n ps ∧ Below w.heap.size w w'
theorem rleap_any (w : World) : Calls Tryd.prog 42 #[] w fun e w' => e = .returned (.agg (partC nPlace).toArray) ∧ Below w.heap.size w w' := by
  go_enter Tryd.func42, Tryd.ntmps42
  go_wp2
  refine bodyPost_cell1 (g := w.heap.size) (t := 96) rfl rfl rfl (heap_alloc_new w _) Tryd.underlying96 rfl (by kernel_rfl) ?_
  exact ⟨rfl, new_below _ _⟩
theorem rplace_any (w : World) : Calls Tryd.prog 65 #[] w fun e w' => e = .returned (.agg (partC nShort).toArray) ∧ Below w.heap.size w w' := by
  go_enter Tryd.func65, Tryd.ntmps65
  go_wp2
  refine bodyPost_cell1 (g := w.heap.size) (t := 96) rfl rfl rfl (heap_alloc_new w _) Tryd.underlying96 rfl (by kernel_rfl) ?_
  exact ⟨rfl, new_below _ _⟩
theorem rwidth_any (m : Int) (w : World) : Calls Tryd.prog 66 #[.int .i64 m] w fun e w' => e = .returned (.agg (partC ⟨1, false, 1, m⟩).toArray) ∧ Below w.heap.size w w' := by
  go_enter Tryd.func66, Tryd.ntmps66
  go_wp2
  refine bodyPost_cell1 (g := w.heap.size) (t := 96) rfl rfl rfl (heap_alloc_new w _) Tryd.underlying96 rfl (by kernel_rfl) ?_
  exact ⟨rfl, new_below _ _⟩
set_option maxHeartbeats 2000000 in
set_option maxRecDepth 100000 in
theorem rp0 (w : World) : Calls Tryd.prog 39 #[.int .u8 0] w (RpRet [] false w) := by
  have hb : Below w.heap.size w w := Below.refl _ _
  go_enter Tryd.func39, Tryd.ntmps39
  go_wp2
  go_ret2
  exact ⟨_, _, _, rfl, ⟨rfl, .inl rfl⟩, hb⟩
set_option maxHeartbeats 2000000 in
set_option maxRecDepth 100000 in
theorem rp1 (w : World) : Calls Tryd.prog 39 #[.int .u8 1] w (RpRet [nI8] true w) := by
  have hb : Below w.heap.size w w := Below.refl _ _
  go_enter Tryd.func39, Tryd.ntmps39
  go_wp2
  go_ret2
  exact ⟨_, _, _, rfl, ⟨rfl, .inr ⟨_, rfl, Own.new _ _ _⟩⟩, hb.alloc hb.size _⟩
set_option maxHeartbeats 2000000 in
set_option maxRecDepth 100000 in
theorem rp2 (w : World) : Calls Tryd.prog 39 #[.int .u8 2] w (RpRet [nI32] true w) := by
  have hb : Below w.heap.size w w := Below.refl _ _
  go_enter Tryd.func39, Tryd.ntmps39
  go_wp2
  go_ret2
  exact ⟨_, _, _, rfl, ⟨rfl, .inr ⟨_, rfl, Own.new _ _ _⟩⟩, hb.alloc hb.size _⟩
set_option maxHeartbeats 2000000 in
set_option maxRecDepth 100000 in
theorem rp3 (w : World) : Calls Tryd.prog 39 #[.int .u8 3] w (RpRet [nI64] true w) := by
  have hb : Below w.heap.size w w := Below.refl _ _
  go_enter Tryd.func39, Tryd.ntmps39
  go_wp2
  go_ret2
  exact ⟨_, _, _, rfl, ⟨rfl, .inr ⟨_, rfl, Own.new _ _ _⟩⟩, hb.alloc hb.size _⟩
set_option maxHeartbeats 2000000 in
set_option maxRecDepth 100000 in
theorem rp4 (w : World) : Calls Tryd.prog 39 #[.int .u8 4] w (RpRet [] true w) := by
  have hb : Below w.heap.size w w := Below.refl _ _
  go_enter Tryd.func39, Tryd.ntmps39
  go_wp2
  go_ret2
  exact ⟨_, _, _, rfl, ⟨rfl, .inl rfl⟩, hb⟩
set_option maxHeartbeats 2000000 in
set_option maxRecDepth 100000 in
theorem rp5 (w : World) : Calls Tryd.prog 39 #[.int .u8 5] w (RpRet [] true w) := by
  have hb : Below w.heap.size w w := Below.refl _ _
  go_enter Tryd.func39, Tryd.ntmps39
  go_wp2
  go_ret2
  exact ⟨_, _, _, rfl, ⟨rfl, .inl rfl⟩, hb⟩
set_option maxHeartbeats 2000000 in
set_option maxRecDepth 100000 in
theorem rp6 (w : World) : Calls Tryd.prog 39 #[.int .u8 6] w (RpRet [nShort] true w) := by
  have hb : Below w.heap.size w w := Below.refl _ _
  go_enter Tryd.func39, Tryd.ntmps39
  go_wp2_with fail
  refine (rplace_any _).mono ?_
  rintro e w0 ⟨rfl, b0⟩
  replace hb := hb.trans (b0.mono hb.size)
  clear b0
  go_wp2
  go_ret2
  exact ⟨_, _, _, rfl, ⟨rfl, .inr ⟨_, rfl, Own.new _ _ _⟩⟩, hb.alloc hb.size _⟩
set_option maxHeartbeats 2000000 in
set_option maxRecDepth 100000 in
theorem rp7 (w : World) : Calls Tryd.prog 39 #[.int .u8 7] w (RpRet [nShort] true w) := by
  have hb : Below w.heap.size w w := Below.refl _ _
  go_enter Tryd.func39, Tryd.ntmps39
  go_wp2_with fail
  refine (rplace_any _).mono ?_
  rintro e w0 ⟨rfl, b0⟩
  replace hb := hb.trans (b0.mono hb.size)
  clear b0
  go_wp2
  go_ret2
  exact ⟨_, _, _, rfl, ⟨rfl, .inr ⟨_, rfl, Own.new _ _ _⟩⟩, hb.alloc hb.size _⟩
set_option maxHeartbeats 2000000 in
set_option maxRecDepth 100000 in
theorem rp8 (w : World) : Calls Tryd.prog 39 #[.int .u8 8] w (RpRet [nShort] true w) := by
  have hb : Below w.heap.size w w := Below.refl _ _
  go_enter Tryd.func39, Tryd.ntmps39
  go_wp2_with fail
  refine (rplace_any _).mono ?_
  rintro e w0 ⟨rfl, b0⟩
  replace hb := hb.trans (b0.mono hb.size)
  clear b0
  go_wp2
  go_ret2
  exact ⟨_, _, _, rfl, ⟨rfl, .inr ⟨_, rfl, Own.new _ _ _⟩⟩, hb.alloc hb.size _⟩
set_option maxHeartbeats 2000000 in
set_option maxRecDepth 100000 in
theorem rp9 (w : World) : Calls Tryd.prog 39 #[.int .u8 9] w (RpRet [] true w) := by
  have hb : Below w.heap.size w w := Below.refl _ _
  go_enter Tryd.func39, Tryd.ntmps39
  go_wp2
  go_ret2
  exact ⟨_, _, _, rfl, ⟨rfl, .inl rfl⟩, hb⟩
set_option maxHeartbeats 2000000 in
set_option maxRecDepth 100000 in
theorem rp10 (w : World) : Calls Tryd.prog 39 #[.int .u8 10] w (RpRet [] true w) := by
  have hb : Below w.heap.size w w := Below.refl _ _
  go_enter Tryd.func39, Tryd.ntmps39
  go_wp2
  go_ret2
  exact ⟨_, _, _, rfl, ⟨rfl, .inl rfl⟩, hb⟩
set_option maxHeartbeats 2000000 in
set_option maxRecDepth 100000 in
theorem rp11 (w : World) : Calls Tryd.prog 39 #[.int .u8 11] w (RpRet [nWidth] true w) := by
  have hb : Below w.heap.size w w := Below.refl _ _
  go_enter Tryd.func39, Tryd.ntmps39
  go_wp2_with fail
  refine (rwidth_any 3 _).mono ?_
  rintro e w0 ⟨rfl, b0⟩
  replace hb := hb.trans (b0.mono hb.size)
  clear b0
  go_wp2
  go_ret2
  exact ⟨_, _, _, rfl, ⟨rfl, .inr ⟨_, rfl, Own.new _ _ _⟩⟩, hb.alloc hb.size _⟩
set_option maxHeartbeats 2000000 in
set_option maxRecDepth 100000 in
theorem rp12 (w : World) : Calls Tryd.prog 39 #[.int .u8 12] w (RpRet [nWidth] true w) := by
  have hb : Below w.heap.size w w := Below.refl _ _
  go_enter Tryd.func39, Tryd.ntmps39
  go_wp2_with fail
  refine (rwidth_any 3 _).mono ?_
  rintro e w0 ⟨rfl, b0⟩
  replace hb := hb.trans (b0.mono hb.size)
  clear b0
  go_wp2
  go_ret2
  exact ⟨_, _, _, rfl, ⟨rfl, .inr ⟨_, rfl, Own.new _ _ _⟩⟩, hb.alloc hb.size _⟩
set_option maxHeartbeats 2000000 in
set_option maxRecDepth 100000 in
theorem rp13 (w : World) : Calls Tryd.prog 39 #[.int .u8 13] w (RpRet [nWidth] true w) := by
  have hb : Below w.heap.size w w := Below.refl _ _
  go_enter Tryd.func39, Tryd.ntmps39
  go_wp2_with fail
  refine (rwidth_any 3 _).mono ?_
  rintro e w0 ⟨rfl, b0⟩
  replace hb := hb.trans (b0.mono hb.size)
  clear b0
  go_wp2
  go_ret2
  exact ⟨_, _, _, rfl, ⟨rfl, .inr ⟨_, rfl, Own.new _ _ _⟩⟩, hb.alloc hb.size _⟩
set_option maxHeartbeats 2000000 in
set_option maxRecDepth 100000 in
theorem rp14 (w : World) : Calls Tryd.prog 39 #[.int .u8 14] w (RpRet [nWidth] true w) := by
  have hb : Below w.heap.size w w := Below.refl _ _
  go_enter Tryd.func39, Tryd.ntmps39
  go_wp2_with fail
  refine (rwidth_any 3 _).mono ?_
  rintro e w0 ⟨rfl, b0⟩
  replace hb := hb.trans (b0.mono hb.size)
  clear b0
  go_wp2
  go_ret2
  exact ⟨_, _, _, rfl, ⟨rfl, .inr ⟨_, rfl, Own.new _ _ _⟩⟩, hb.alloc hb.size _⟩
set_option maxHeartbeats 2000000 in
set_option maxRecDepth 100000 in
theorem rp15 (w : World) : Calls Tryd.prog 39 #[.int .u8 15] w (RpRet [nWidth] true w) := by
  have hb : Below w.heap.size w w := Below.refl _ _
  go_enter Tryd.func39, Tryd.ntmps39
  go_wp2_with fail
  refine (rwidth_any 3 _).mono ?_
  rintro e w0 ⟨rfl, b0⟩
  replace hb := hb.trans (b0.mono hb.size)
  clear b0
  go_wp2
  go_ret2
  exact ⟨_, _, _, rfl, ⟨rfl, .inr ⟨_, rfl, Own.new _ _ _⟩⟩, hb.alloc hb.size _⟩
set_option maxHeartbeats 2000000 in
set_option maxRecDepth 100000 in
theorem rp16 (w : World) : Calls Tryd.prog 39 #[.int .u8 16] w (RpRet [nWidth] true w) := by
  have hb : Below w.heap.size w w := Below.refl _ _
  go_enter Tryd.func39, Tryd.ntmps39
  go_wp2_with fail
  refine (rwidth_any 3 _).mono ?_
  rintro e w0 ⟨rfl, b0⟩
  replace hb := hb.trans (b0.mono hb.size)
  clear b0
  go_wp2
  go_ret2
  exact ⟨_, _, _, rfl, ⟨rfl, .inr ⟨_, rfl, Own.new _ _ _⟩⟩, hb.alloc hb.size _⟩
set_option maxHeartbeats 2000000 in
set_option maxRecDepth 100000 in
theorem rp17 (w : World) : Calls Tryd.prog 39 #[.int .u8 17] w (RpRet [nWidth] true w) := by
  have hb : Below w.heap.size w w := Below.refl _ _
  go_enter Tryd.func39, Tryd.ntmps39
  go_wp2_with fail
  refine (rwidth_any 3 _).mono ?_
  rintro e w0 ⟨rfl, b0⟩
  replace hb := hb.trans (b0.mono hb.size)
  clear b0
  go_wp2
  go_ret2
  exact ⟨_, _, _, rfl, ⟨rfl, .inr ⟨_, rfl, Own.new _ _ _⟩⟩, hb.alloc hb.size _⟩
set_option maxHeartbeats 2000000 in
set_option maxRecDepth 100000 in
theorem rp18 (w : World) : Calls Tryd.prog 39 #[.int .u8 18] w (RpRet [nWidth] true w) := by
  have hb : Below w.heap.size w w := Below.refl _ _
  go_enter Tryd.func39, Tryd.ntmps39
  go_wp2_with fail
  refine (rwidth_any 3 _).mono ?_
  rintro e w0 ⟨rfl, b0⟩
  replace hb := hb.trans (b0.mono hb.size)
  clear b0
  go_wp2
  go_ret2
  exact ⟨_, _, _, rfl, ⟨rfl, .inr ⟨_, rfl, Own.new _ _ _⟩⟩, hb.alloc hb.size _⟩
set_option maxHeartbeats 2000000 in
set_option maxRecDepth 100000 in
theorem rp19 (w : World) : Calls Tryd.prog 39 #[.int .u8 19] w (RpRet [nWidth] true w) := by
  have hb : Below w.heap.size w w := Below.refl _ _
  go_enter Tryd.func39, Tryd.ntmps39
  go_wp2_with fail
  refine (rwidth_any 3 _).mono ?_
  rintro e w0 ⟨rfl, b0⟩
  replace hb := hb.trans (b0.mono hb.size)
  clear b0
  go_wp2
  go_ret2
  exact ⟨_, _, _, rfl, ⟨rfl, .inr ⟨_, rfl, Own.new _ _ _⟩⟩, hb.alloc hb.size _⟩
set_option maxHeartbeats 2000000 in
set_option maxRecDepth 100000 in
theorem rp20 (w : World) : Calls Tryd.prog 39 #[.int .u8 20] w (RpRet [nWidth] true w) := by
  have hb : Below w.heap.size w w := Below.refl _ _
  go_enter Tryd.func39, Tryd.ntmps39
  go_wp2_with fail
  refine (rwidth_any 3 _).mono ?_
  rintro e w0 ⟨rfl, b0⟩
  replace hb := hb.trans (b0.mono hb.size)
  clear b0
  go_wp2
  go_ret2
  exact ⟨_, _, _, rfl, ⟨rfl, .inr ⟨_, rfl, Own.new _ _ _⟩⟩, hb.alloc hb.size _⟩
set_option maxHeartbeats 2000000 in
set_option maxRecDepth 100000 in
theorem rp21 (w : World) : Calls Tryd.prog 39 #[.int .u8 21] w (RpRet [nWidth] true w) := by
  have hb : Below w.heap.size w w := Below.refl _ _
  go_enter Tryd.func39, Tryd.ntmps39
  go_wp2_with fail
  refine (rwidth_any 3 _).mono ?_
  rintro e w0 ⟨rfl, b0⟩
  replace hb := hb.trans (b0.mono hb.size)
  clear b0
  go_wp2
  go_ret2
  exact ⟨_, _, _, rfl, ⟨rfl, .inr ⟨_, rfl, Own.new _ _ _⟩⟩, hb.alloc hb.size _⟩
set_option maxHeartbeats 2000000 in
set_option maxRecDepth 100000 in
theorem rp22 (w : World) : Calls Tryd.prog 39 #[.int .u8 22] w (RpRet [nWidth] true w) := by
  have hb : Below w.heap.size w w := Below.refl _ _
  go_enter Tryd.func39, Tryd.ntmps39
  go_wp2_with fail
  refine (rwidth_any 3 _).mono ?_
  rintro e w0 ⟨rfl, b0⟩
  replace hb := hb.trans (b0.mono hb.size)
  clear b0
  go_wp2
  go_ret2
  exact ⟨_, _, _, rfl, ⟨rfl, .inr ⟨_, rfl, Own.new _ _ _⟩⟩, hb.alloc hb.size _⟩
set_option maxHeartbeats 2000000 in
set_option maxRecDepth 100000 in
theorem rp23 (w : World) : Calls Tryd.prog 39 #[.int .u8 23] w (RpRet [nKind] true w) := by
  have hb : Below w.heap.size w w := Below.refl _ _
  go_enter Tryd.func39, Tryd.ntmps39
  go_wp2_with fail
  refine (rwidth_any 5 _).mono ?_
  rintro e w0 ⟨rfl, b0⟩
  replace hb := hb.trans (b0.mono hb.size)
  clear b0
  go_wp2
  go_ret2
  exact ⟨_, _, _, rfl, ⟨rfl, .inr ⟨_, rfl, Own.new _ _ _⟩⟩, hb.alloc hb.size _⟩
set_option maxHeartbeats 2000000 in
set_option maxRecDepth 100000 in
theorem rp24 (w : World) : Calls Tryd.prog 39 #[.int .u8 24] w (RpRet [nKind] true w) := by
  have hb : Below w.heap.size w w := Below.refl _ _
  go_enter Tryd.func39, Tryd.ntmps39
  go_wp2_with fail
  refine (rwidth_any 5 _).mono ?_
  rintro e w0 ⟨rfl, b0⟩
  replace hb := hb.trans (b0.mono hb.size)
  clear b0
  go_wp2
  go_ret2
  exact ⟨_, _, _, rfl, ⟨rfl, .inr ⟨_, rfl, Own.new _ _ _⟩⟩, hb.alloc hb.size _⟩
set_option maxHeartbeats 2000000 in
set_option maxRecDepth 100000 in
theorem rp25 (w : World) : Calls Tryd.prog 39 #[.int .u8 25] w (RpRet [nWidth] true w) := by
  have hb : Below w.heap.size w w := Below.refl _ _
  go_enter Tryd.func39, Tryd.ntmps39
  go_wp2_with fail
  refine (rwidth_any 3 _).mono ?_
  rintro e w0 ⟨rfl, b0⟩
  replace hb := hb.trans (b0.mono hb.size)
  clear b0
  go_wp2
  go_ret2
  exact ⟨_, _, _, rfl, ⟨rfl, .inr ⟨_, rfl, Own.new _ _ _⟩⟩, hb.alloc hb.size _⟩
set_option maxHeartbeats 2000000 in
set_option maxRecDepth 100000 in
theorem rp26 (w : World) : Calls Tryd.prog 39 #[.int .u8 26] w (RpRet [nWidth] true w) := by
  have hb : Below w.heap.size w w := Below.refl _ _
  go_enter Tryd.func39, Tryd.ntmps39
  go_wp2_with fail
  refine (rwidth_any 3 _).mono ?_
  rintro e w0 ⟨rfl, b0⟩
  replace hb := hb.trans (b0.mono hb.size)
  clear b0
  go_wp2
  go_ret2
  exact ⟨_, _, _, rfl, ⟨rfl, .inr ⟨_, rfl, Own.new _ _ _⟩⟩, hb.alloc hb.size _⟩
set_option maxHeartbeats 2000000 in
set_option maxRecDepth 100000 in
theorem rp27 (w : World) : Calls Tryd.prog 39 #[.int .u8 27] w (RpRet [nWidth] true w) := by
  have hb : Below w.heap.size w w := Below.refl _ _
  go_enter Tryd.func39, Tryd.ntmps39
  go_wp2_with fail
  refine (rwidth_any 3 _).mono ?_
  rintro e w0 ⟨rfl, b0⟩
  replace hb := hb.trans (b0.mono hb.size)
  clear b0
  go_wp2
  go_ret2
  exact ⟨_, _, _, rfl, ⟨rfl, .inr ⟨_, rfl, Own.new _ _ _⟩⟩, hb.alloc hb.size _⟩
set_option maxHeartbeats 2000000 in
set_option maxRecDepth 100000 in
theorem rp28 (w : World) : Calls Tryd.prog 39 #[.int .u8 28] w (RpRet [nWidth] true w) := by
  have hb : Below w.heap.size w w := Below.refl _ _
  go_enter Tryd.func39, Tryd.ntmps39
  go_wp2_with fail
  refine (rwidth_any 3 _).mono ?_
  rintro e w0 ⟨rfl, b0⟩
  replace hb := hb.trans (b0.mono hb.size)
  clear b0
  go_wp2
  go_ret2
  exact ⟨_, _, _, rfl, ⟨rfl, .inr ⟨_, rfl, Own.new _ _ _⟩⟩, hb.alloc hb.size _⟩
set_option maxHeartbeats 2000000 in
set_option maxRecDepth 100000 in
theorem rp29 (w : World) : Calls Tryd.prog 39 #[.int .u8 29] w (RpRet [nWidth, nWidth] true w) := by
  have hb : Below w.heap.size w w := Below.refl _ _
  go_enter Tryd.func39, Tryd.ntmps39
  go_wp2_with fail
  refine (rwidth_any 3 _).mono ?_
  rintro e w0 ⟨rfl, b0⟩
  replace hb := hb.trans (b0.mono hb.size)
  clear b0
  go_wp2_with fail
  refine (rwidth_any 3 _).mono ?_
  rintro e w1 ⟨rfl, b1⟩
  replace hb := hb.trans (b1.mono hb.size)
  clear b1
  go_wp2
  go_ret2
  exact ⟨_, _, _, rfl, ⟨rfl, .inr ⟨_, rfl, Own.new _ _ _⟩⟩, hb.alloc hb.size _⟩
set_option maxHeartbeats 2000000 in
set_option maxRecDepth 100000 in
theorem rp30 (w : World) : Calls Tryd.prog 39 #[.int .u8 30] w (RpRet [] true w) := by
  have hb : Below w.heap.size w w := Below.refl _ _
  go_enter Tryd.func39, Tryd.ntmps39
  go_wp2
  go_ret2
  exact ⟨_, _, _, rfl, ⟨rfl, .inl rfl⟩, hb⟩
set_option maxHeartbeats 2000000 in
set_option maxRecDepth 100000 in
theorem rp31 (w : World) : Calls Tryd.prog 39 #[.int .u8 31] w (RpRet [] true w) := by
  have hb : Below w.heap.size w w := Below.refl _ _
  go_enter Tryd.func39, Tryd.ntmps39
  go_wp2
  go_ret2
  exact ⟨_, _, _, rfl, ⟨rfl, .inl rfl⟩, hb⟩
set_option maxHeartbeats 2000000 in
set_option maxRecDepth 100000 in
theorem rp32 (w : World) : Calls Tryd.prog 39 #[.int .u8 32] w (RpRet [] true w) := by
  have hb : Below w.heap.size w w := Below.refl _ _
  go_enter Tryd.func39, Tryd.ntmps39
  go_wp2
  go_ret2
  exact ⟨_, _, _, rfl, ⟨rfl, .inl rfl⟩, hb⟩
set_option maxHeartbeats 2000000 in
set_option maxRecDepth 100000 in
theorem rp33 (w : World) : Calls Tryd.prog 39 #[.int .u8 33] w (RpRet [] true w) := by
  have hb : Below w.heap.size w w := Below.refl _ _
  go_enter Tryd.func39, Tryd.ntmps39
  go_wp2
  go_ret2
  exact ⟨_, _, _, rfl, ⟨rfl, .inl rfl⟩, hb⟩
set_option maxHeartbeats 2000000 in
set_option maxRecDepth 100000 in
theorem rp34 (w : World) : Calls Tryd.prog 39 #[.int .u8 34] w (RpRet [] true w) := by
  have hb : Below w.heap.size w w := Below.refl _ _
  go_enter Tryd.func39, Tryd.ntmps39
  go_wp2
  go_ret2
  exact ⟨_, _, _, rfl, ⟨rfl, .inl rfl⟩, hb⟩
set_option maxHeartbeats 2000000 in
set_option maxRecDepth 100000 in
theorem rp35 (w : World) : Calls Tryd.prog 39 #[.int .u8 35] w (RpRet [] true w) := by
  have hb : Below w.heap.size w w := Below.refl _ _
  go_enter Tryd.func39, Tryd.ntmps39
  go_wp2
  go_ret2
  exact ⟨_, _, _, rfl, ⟨rfl, .inl rfl⟩, hb⟩
set_option maxHeartbeats 2000000 in
set_option maxRecDepth 100000 in
theorem rp36 (w : World) : Calls Tryd.prog 39 #[.int .u8 36] w (RpRet [nShort] true w) := by
  have hb : Below w.heap.size w w := Below.refl _ _
  go_enter Tryd.func39, Tryd.ntmps39
  go_wp2_with fail
  refine (rplace_any _).mono ?_
  rintro e w0 ⟨rfl, b0⟩
  replace hb := hb.trans (b0.mono hb.size)
  clear b0
  go_wp2
  go_ret2
  exact ⟨_, _, _, rfl, ⟨rfl, .inr ⟨_, rfl, Own.new _ _ _⟩⟩, hb.alloc hb.size _⟩
set_option maxHeartbeats 2000000 in
set_option maxRecDepth 100000 in
theorem rp37 (w : World) : Calls Tryd.prog 39 #[.int .u8 37] w (RpRet [nShort, nShort] true w) := by
  have hb : Below w.heap.size w w := Below.refl _ _
  go_enter Tryd.func39, Tryd.ntmps39
  go_wp2_with fail
  refine (rplace_any _).mono ?_
  rintro e w0 ⟨rfl, b0⟩
  replace hb := hb.trans (b0.mono hb.size)
  clear b0
  go_wp2_with fail
  refine (rplace_any _).mono ?_
  rintro e w1 ⟨rfl, b1⟩
  replace hb := hb.trans (b1.mono hb.size)
  clear b1
  go_wp2
  go_ret2
  exact ⟨_, _, _, rfl, ⟨rfl, .inr ⟨_, rfl, Own.new _ _ _⟩⟩, hb.alloc hb.size _⟩
set_option maxHeartbeats 2000000 in
set_option maxRecDepth 100000 in
theorem rp38 (w : World) : Calls Tryd.prog 39 #[.int .u8 38] w (RpRet [nShort, nShort] true w) := by
  have hb : Below w.heap.size w w := Below.refl _ _
  go_enter Tryd.func39, Tryd.ntmps39
  go_wp2_with fail
  refine (rplace_any _).mono ?_
  rintro e w0 ⟨rfl, b0⟩
  replace hb := hb.trans (b0.mono hb.size)
  clear b0
  go_wp2_with fail
  refine (rplace_any _).mono ?_
  rintro e w1 ⟨rfl, b1⟩
  replace hb := hb.trans (b1.mono hb.size)
  clear b1
  go_wp2
  go_ret2
  exact ⟨_, _, _, rfl, ⟨rfl, .inr ⟨_, rfl, Own.new _ _ _⟩⟩, hb.alloc hb.size _⟩
set_option maxHeartbeats 2000000 in
set_option maxRecDepth 100000 in
theorem rp39 (w : World) : Calls Tryd.prog 39 #[.int .u8 39] w (RpRet [nShort] true w) := by
  have hb : Below w.heap.size w w := Below.refl _ _
  go_enter Tryd.func39, Tryd.ntmps39
  go_wp2_with fail
  refine (rplace_any _).mono ?_
  rintro e w0 ⟨rfl, b0⟩
  replace hb := hb.trans (b0.mono hb.size)
  clear b0
  go_wp2
  go_ret2
  exact ⟨_, _, _, rfl, ⟨rfl, .inr ⟨_, rfl, Own.new _ _ _⟩⟩, hb.alloc hb.size _⟩
set_option maxHeartbeats 2000000 in
set_option maxRecDepth 100000 in
theorem rp40 (w : World) : Calls Tryd.prog 39 #[.int .u8 40] w (RpRet [nShort] true w) := by
  have hb : Below w.heap.size w w := Below.refl _ _
  go_enter Tryd.func39, Tryd.ntmps39
  go_wp2_with fail
  refine (rplace_any _).mono ?_
  rintro e w0 ⟨rfl, b0⟩
  replace hb := hb.trans (b0.mono hb.size)
  clear b0
  go_wp2
  go_ret2
  exact ⟨_, _, _, rfl, ⟨rfl, .inr ⟨_, rfl, Own.new _ _ _⟩⟩, hb.alloc hb.size _⟩
set_option maxHeartbeats 2000000 in
set_option maxRecDepth 100000 in
theorem rp41 (w : World) : Calls Tryd.prog 39 #[.int .u8 41] w (RpRet [nShort] true w) := by
  have hb : Below w.heap.size w w := Below.refl _ _
  go_enter Tryd.func39, Tryd.ntmps39
  go_wp2_with fail
  refine (rplace_any _).mono ?_
  rintro e w0 ⟨rfl, b0⟩
  replace hb := hb.trans (b0.mono hb.size)
  clear b0
  go_wp2
  go_ret2
  exact ⟨_, _, _, rfl, ⟨rfl, .inr ⟨_, rfl, Own.new _ _ _⟩⟩, hb.alloc hb.size _⟩
set_option maxHeartbeats 2000000 in
set_option maxRecDepth 100000 in
theorem rp42 (w : World) : Calls Tryd.prog 39 #[.int .u8 42] w (RpRet [nShort] true w) := by
  have hb : Below w.heap.size w w := Below.refl _ _
  go_enter Tryd.func39, Tryd.ntmps39
  go_wp2_with fail
  refine (rplace_any _).mono ?_
  rintro e w0 ⟨rfl, b0⟩
  replace hb := hb.trans (b0.mono hb.size)
  clear b0
  go_wp2
  go_ret2
  exact ⟨_, _, _, rfl, ⟨rfl, .inr ⟨_, rfl, Own.new _ _ _⟩⟩, hb.alloc hb.size _⟩
set_option maxHeartbeats 2000000 in
set_option maxRecDepth 100000 in
theorem rp43 (w : World) : Calls Tryd.prog 39 #[.int .u8 43] w (RpRet [nShort] true w) := by
  have hb : Below w.heap.size w w := Below.refl _ _
  go_enter Tryd.func39, Tryd.ntmps39
  go_wp2_with fail
  refine (rplace_any _).mono ?_
  rintro e w0 ⟨rfl, b0⟩
  replace hb := hb.trans (b0.mono hb.size)
  clear b0
  go_wp2
  go_ret2
  exact ⟨_, _, _, rfl, ⟨rfl, .inr ⟨_, rfl, Own.new _ _ _⟩⟩, hb.alloc hb.size _⟩
set_option maxHeartbeats 2000000 in
set_option maxRecDepth 100000 in
theorem rp44 (w : World) : Calls Tryd.prog 39 #[.int .u8 44] w (RpRet [nShort] true w) := by
  have hb : Below w.heap.size w w := Below.refl _ _
  go_enter Tryd.func39, Tryd.ntmps39
  go_wp2_with fail
  refine (rplace_any _).mono ?_
  rintro e w0 ⟨rfl, b0⟩
  replace hb := hb.trans (b0.mono hb.size)
  clear b0
  go_wp2
  go_ret2
  exact ⟨_, _, _, rfl, ⟨rfl, .inr ⟨_, rfl, Own.new _ _ _⟩⟩, hb.alloc hb.size _⟩
set_option maxHeartbeats 2000000 in
set_option maxRecDepth 100000 in
theorem rp45 (w : World) : Calls Tryd.prog 39 #[.int .u8 45] w (RpRet [nShort] true w) := by
  have hb : Below w.heap.size w w := Below.refl _ _
  go_enter Tryd.func39, Tryd.ntmps39
  go_wp2_with fail
  refine (rplace_any _).mono ?_
  rintro e w0 ⟨rfl, b0⟩
  replace hb := hb.trans (b0.mono hb.size)
  clear b0
  go_wp2
  go_ret2
  exact ⟨_, _, _, rfl, ⟨rfl, .inr ⟨_, rfl, Own.new _ _ _⟩⟩, hb.alloc hb.size _⟩
set_option maxHeartbeats 2000000 in
set_option maxRecDepth 100000 in
theorem rp46 (w : World) : Calls Tryd.prog 39 #[.int .u8 46] w (RpRet [nPlace] true w) := by
  have hb : Below w.heap.size w w := Below.refl _ _
  go_enter Tryd.func39, Tryd.ntmps39
  go_wp2_with fail
  refine (rleap_any _).mono ?_
  rintro e w0 ⟨rfl, b0⟩
  replace hb := hb.trans (b0.mono hb.size)
  clear b0
  go_wp2
  go_ret2
  exact ⟨_, _, _, rfl, ⟨rfl, .inr ⟨_, rfl, Own.new _ _ _⟩⟩, hb.alloc hb.size _⟩
set_option maxHeartbeats 2000000 in
set_option maxRecDepth 100000 in
theorem rp47 (w : World) : Calls Tryd.prog 39 #[.int .u8 47] w (RpRet [nPlace] true w) := by
  have hb : Below w.heap.size w w := Below.refl _ _
  go_enter Tryd.func39, Tryd.ntmps39
  go_wp2_with fail
  refine (rleap_any _).mono ?_
  rintro e w0 ⟨rfl, b0⟩
  replace hb := hb.trans (b0.mono hb.size)
  clear b0
  go_wp2
  go_ret2
  exact ⟨_, _, _, rfl, ⟨rfl, .inr ⟨_, rfl, Own.new _ _ _⟩⟩, hb.alloc hb.size _⟩
set_option maxHeartbeats 2000000 in
set_option maxRecDepth 100000 in
theorem rp48 (w : World) : Calls Tryd.prog 39 #[.int .u8 48] w (RpRet [nPlace] true w) := by
  have hb : Below w.heap.size w w := Below.refl _ _
  go_enter Tryd.func39, Tryd.ntmps39
  go_wp2_with fail
  refine (rleap_any _).mono ?_
  rintro e w0 ⟨rfl, b0⟩
  replace hb := hb.trans (b0.mono hb.size)
  clear b0
  go_wp2
  go_ret2
  exact ⟨_, _, _, rfl, ⟨rfl, .inr ⟨_, rfl, Own.new _ _ _⟩⟩, hb.alloc hb.size _⟩
set_option maxHeartbeats 2000000 in
set_option maxRecDepth 100000 in
theorem rp49 (w : World) : Calls Tryd.prog 39 #[.int .u8 49] w (RpRet [nWidth] true w) := by
  have hb : Below w.heap.size w w := Below.refl _ _
  go_enter Tryd.func39, Tryd.ntmps39
  go_wp2_with fail
  refine (rwidth_any 3 _).mono ?_
  rintro e w0 ⟨rfl, b0⟩
  replace hb := hb.trans (b0.mono hb.size)
  clear b0
  go_wp2
  go_ret2
  exact ⟨_, _, _, rfl, ⟨rfl, .inr ⟨_, rfl, Own.new _ _ _⟩⟩, hb.alloc hb.size _⟩
set_option maxHeartbeats 2000000 in
set_option maxRecDepth 100000 in
theorem rp50 (w : World) : Calls Tryd.prog 39 #[.int .u8 50] w (RpRet [nShort] true w) := by
  have hb : Below w.heap.size w w := Below.refl _ _
  go_enter Tryd.func39, Tryd.ntmps39
  go_wp2_with fail
  refine (rplace_any _).mono ?_
  rintro e w0 ⟨rfl, b0⟩
  replace hb := hb.trans (b0.mono hb.size)
  clear b0
  go_wp2
  go_ret2
  exact ⟨_, _, _, rfl, ⟨rfl, .inr ⟨_, rfl, Own.new _ _ _⟩⟩, hb.alloc hb.size _⟩
set_option maxHeartbeats 2000000 in
set_option maxRecDepth 100000 in
theorem rp51 (w : World) : Calls Tryd.prog 39 #[.int .u8 51] w (RpRet [] true w) := by
  have hb : Below w.heap.size w w := Below.refl _ _
  go_enter Tryd.func39, Tryd.ntmps39
  go_wp2
  go_ret2
  exact ⟨_, _, _, rfl, ⟨rfl, .inl rfl⟩, hb⟩
set_option maxHeartbeats 2000000 in
set_option maxRecDepth 100000 in
theorem rp52 (w : World) : Calls Tryd.prog 39 #[.int .u8 52] w (RpRet [nByte] true w) := by
  have hb : Below w.heap.size w w := Below.refl _ _
  go_enter Tryd.func39, Tryd.ntmps39
  go_wp2
  go_ret2
  exact ⟨_, _, _, rfl, ⟨rfl, .inr ⟨_, rfl, Own.new _ _ _⟩⟩, hb.alloc hb.size _⟩
set_option maxHeartbeats 2000000 in
set_option maxRecDepth 100000 in
theorem rpBig (op : Nat) (h : 53 ≤ op) (h256 : op < 256) (w : World) : Calls Tryd.prog 39 #[.int .u8 (op : Int)] w (RpRet [] false w) := by
  have h1 : (53 : Int) ≤ (op : Int) := by omega
  have h2 : (op : Int) < 256 := by omega
  have n1 : ((op : Int) == 1) = false := by rw [beq_eq_false_iff_ne]; omega
  have n2 : ((op : Int) == 2) = false := by rw [beq_eq_false_iff_ne]; omega
  have n3 : ((op : Int) == 3) = false := by rw [beq_eq_false_iff_ne]; omega
  have n6 : ((op : Int) == 6) = false := by rw [beq_eq_false_iff_ne]; omega
  have n7 : ((op : Int) == 7) = false := by rw [beq_eq_false_iff_ne]; omega
  have n8 : ((op : Int) == 8) = false := by rw [beq_eq_false_iff_ne]; omega
  have n50 : ((op : Int) == 50) = false := by rw [beq_eq_false_iff_ne]; omega
  have n36 : ((op : Int) == 36) = false := by rw [beq_eq_false_iff_ne]; omega
  have n37 : ((op : Int) == 37) = false := by rw [beq_eq_false_iff_ne]; omega
  have n38 : ((op : Int) == 38) = false := by rw [beq_eq_false_iff_ne]; omega
  have n23 : ((op : Int) == 23) = false := by rw [beq_eq_false_iff_ne]; omega
  have n24 : ((op : Int) == 24) = false := by rw [beq_eq_false_iff_ne]; omega
  have n29 : ((op : Int) == 29) = false := by rw [beq_eq_false_iff_ne]; omega
  have n46 : ((op : Int) == 46) = false := by rw [beq_eq_false_iff_ne]; omega
  have n47 : ((op : Int) == 47) = false := by rw [beq_eq_false_iff_ne]; omega
  have n48 : ((op : Int) == 48) = false := by rw [beq_eq_false_iff_ne]; omega
  have n52 : ((op : Int) == 52) = false := by rw [beq_eq_false_iff_ne]; omega
  have n49 : ((op : Int) == 49) = false := by rw [beq_eq_false_iff_ne]; omega
  have m1 : ¬ (op : Int) ≤ 45 := by omega
  have m2 : ¬ (op : Int) ≤ 28 := by omega
  have m3 : ¬ (op : Int) ≤ 52 := by omega
  go_enter Tryd.func39, Tryd.ntmps39
  go_wp2
  go_ret2
  exact ⟨_, _, _, rfl, ⟨rfl, .inl rfl⟩, Below.refl _ _⟩
end Go.Proofs.YtjfdlphkmpkjdaaDoor
