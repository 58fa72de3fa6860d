/-
  OpsKnown, walked.
-/
import Derived.Test.YtjfdlphkmpkjdaaDoorOk2
namespace Go.Proofs.YtjfdlphkmpkjdaaDoor
open Go.RowKit
set_option linter.unusedVariables false

set_option maxHeartbeats 8000000 in
set_option maxRecDepth 100000 in
theorem known_walk (W : World) (hN : NamesAt W) : Calls Tryd.prog 4 #[] W fun e w' => e = .returned (.bool true) ∧ Below W.heap.size W w' := by
  have HWORKS : Hid (∀ w, Below W.heap.size W w → Calls Tryd.prog 6 #[] w (RT w)) := fun w h => works_any (hN.below h)
  clear hN
  go_enter Tryd.func4, Tryd.ntmps4
  go_wp2_with fail
  refine Calls.mono (b1 W) ?_
  rintro e w1 ⟨rfl, q1⟩
  go_wp2_with fail
  refine Calls.mono (b2 w1) ?_
  rintro e w2 ⟨rfl, b⟩
  replace q1 := q1.trans (b.mono q1.size)
  clear b
  go_wp2_with fail
  refine Calls.mono (b3 w2) ?_
  rintro e w3 ⟨rfl, b⟩
  replace q1 := q1.trans (b.mono q1.size)
  clear b
  go_wp2_with fail
  refine Calls.mono (b4 w3) ?_
  rintro e w4 ⟨rfl, b⟩
  replace q1 := q1.trans (b.mono q1.size)
  clear b
  go_wp2_with fail
  have oA := Own.new w4 #[.int .i64 5, .int .i64 7] 44
  have b := new_below w4 (.cells #[.int .i64 5, .int .i64 7] 44)
  replace q1 := q1.trans (b.mono q1.size)
  refine Calls.mono (b5 _ _ oA) ?_
  clear b oA
  rintro e w5 ⟨rfl, b⟩
  replace q1 := q1.trans (b.mono q1.size)
  clear b
  go_wp2_with fail
  refine Calls.mono (b6 w5) ?_
  rintro e w6 ⟨rfl, b⟩
  replace q1 := q1.trans (b.mono q1.size)
  clear b
  have MK1 : ∀ w, (Instr.makeSlice 22 (.int .i64 65536) (.int .i64 65536)).run Tryd.prog w = .ok (.slice (some ⟨w.heap.size, 0, none⟩) 65536 65536) (w.alloc (.cells (zCs 65536) 44)) := fun w => made_arms w 65536 (by omega)
  have z1 : (w6.alloc (.cells #[.int .i64 128, .int .i64 0] 44)).heap.size = w6.heap.size + 1 := World.size_alloc _ _
  have o1 := Own.new w6 #[.int .i64 128, .int .i64 0] 44
  have p1 := new_below w6 (.cells #[.int .i64 128, .int .i64 0] 44)
  replace q1 := q1.trans (p1.mono q1.size)
  go_upto_region 3 with fail
  clear p1
  generalize w6.alloc (.cells #[.int .i64 128, .int .i64 0] 44) = x1 at *
  generalize w6.heap.size = g1 at *
  have o2 := Own.new x1 #[.int .i64 0, .int .i64 4294967296] 44
  have z2 : (x1.alloc (.cells #[.int .i64 0, .int .i64 4294967296] 44)).heap.size = g1 + 1 + 1 := by rw [World.size_alloc, z1]
  have p2 := new_below x1 (.cells #[.int .i64 0, .int .i64 4294967296] 44)
  rw [z1] at o2
  replace o1 := o1.below p2
  replace q1 := q1.trans (p2.mono q1.size)
  clear p2 z1
  generalize x1.alloc (.cells #[.int .i64 0, .int .i64 4294967296] 44) = x2 at *
  have o3 := Own.new x2 #[.int .i64 0, .int .i64 0] 44
  have z3 : (x2.alloc (.cells #[.int .i64 0, .int .i64 0] 44)).heap.size = g1 + 1 + 1 + 1 := by rw [World.size_alloc, z2]
  have p3 := new_below x2 (.cells #[.int .i64 0, .int .i64 0] 44)
  rw [z2] at o3
  replace o1 := o1.below p3
  replace o2 := o2.below p3
  replace q1 := q1.trans (p3.mono q1.size)
  clear p3 z2
  generalize x2.alloc (.cells #[.int .i64 0, .int .i64 0] 44) = x3 at *
  have o4 := Own.new x3 (zCs 65536) 44
  have z4 : (x3.alloc (.cells (zCs 65536) 44)).heap.size = g1 + 1 + 1 + 1 + 1 := by rw [World.size_alloc, z3]
  have p4 := new_below x3 (.cells (zCs 65536) 44)
  rw [z3] at o4
  replace o1 := o1.below p4
  replace o2 := o2.below p4
  replace o3 := o3.below p4
  replace q1 := q1.trans (p4.mono q1.size)
  clear p4 z3 MK1
  generalize x3.alloc (.cells (zCs 65536) 44) = x4 at *
  generalize hW7 : World.alloc x4 _ = w7 at *
  have o5 : Own w7 (g1 + 1 + 1 + 1 + 1) (insC (badPs g1 (g1 + 1) (g1 + 1 + 1) (g1 + 1 + 1 + 1))).toArray 24 := by
    rw [← hW7, ← z4]
    exact Own.new x4 _ 24
  have p5 : Below x4.heap.size x4 w7 := by rw [← hW7]; exact new_below x4 _
  clear hW7
  have HAT : Hid (∀ y ∈ badPs g1 (g1 + 1) (g1 + 1 + 1) (g1 + 1 + 1 + 1), ItAt w7 y ∧ y.1.ok = false) := bad_at
    (armsOwn (o1.below p5) (fun i hi => by
      obtain rfl : i = 0 := by simp at hi; omega
      exact ⟨rfl, rfl⟩) (by simp))
    (armsOwn (o2.below p5) (fun i hi => by
      obtain rfl : i = 0 := by simp at hi; omega
      exact ⟨rfl, rfl⟩) (by simp))
    (armsOwn (o3.below p5) (fun i hi => by
      obtain rfl : i = 0 := by simp at hi; omega
      exact ⟨rfl, rfl⟩) (by simp))
    (zA_lies (o4.below p5))
  replace q1 := q1.trans (p5.mono q1.size)
  have HQ1 : Hid (Below W.heap.size W w7) := q1
  have HLN : Hid ((badPs g1 (g1 + 1) (g1 + 1 + 1) (g1 + 1 + 1 + 1)).length = 26) := rfl
  clear o1 o2 o3 o4 p5 z4 q1
  generalize badPs g1 (g1 + 1) (g1 + 1 + 1) (g1 + 1 + 1 + 1) = ps at *
  have HO5 : Hid (Own w7 (g1 + 1 + 1 + 1 + 1) (insC ps).toArray 24) := o5
  clear o5
  generalize g1 + 1 + 1 + 1 + 1 = gb at *
  go_wp2_with fail
  go_loopw [3] (fun i wr => ∃ k : Nat, k ≤ 26 ∧ i = .int .i64 (k : Int) ∧ Below w7.heap.size w7 wr) (fun i _ => 26 - (intOf i).toNat)
  case atStart => exact ⟨0, Nat.zero_le _, rfl, Below.refl _ _⟩
  case round =>
    obtain ⟨k, hk, rfl, hb⟩ := hrel
    by_cases hlt : k < 26
    · have hkl : k < ps.length := by rw [HLN.out]; exact hlt
      obtain ⟨y, hy⟩ : ∃ y, ps.getD k (zI, undef) = y := ⟨_, rfl⟩
      obtain ⟨hit, hno⟩ := HAT.out y (by rw [← hy]; exact getD_in hkl)
      obtain ⟨d0, d1, d2, d3⟩ := ins_cells (HO5.out.below hb) hkl hy
      have HEN : Hid (∀ W, Below w7.heap.size w7 W → Calls Tryd.prog 15 #[.agg #[.int .u8 (y.1.op : Int), .int .i64 y.1.a, .int .i64 y.1.b, y.2]] W (NoR W)) := fun W q => no_enc (hit.below q) hno
      have HSZ : Hid (∀ W, Below w7.heap.size w7 W → Calls Tryd.prog 16 #[.agg #[.int .u8 (y.1.op : Int), .int .i64 y.1.a, .int .i64 y.1.b, y.2]] W fun e w' => e = .returned (.int .i64 0) ∧ Below W.heap.size W w') := fun W q => no_size (hit.below q) hno
      have HCL : Hid (∀ W, Below wr.heap.size wr W → W.cell? ⟨gb, k * 4, none⟩ = some (.int .u8 (y.1.op : Int)) ∧ W.cell? ⟨gb, k * 4 + 1, none⟩ = some (.int .i64 y.1.a) ∧ W.cell? ⟨gb, k * 4 + 2, none⟩ = some (.int .i64 y.1.b) ∧ W.cell? ⟨gb, k * 4 + 3, none⟩ = some y.2) := fun W q => ins_cells (HO5.out.below (hb.trans (q.mono hb.size))) hkl hy
      clear hit hno hy hkl HAT HO5 HLN
      generalize (y.1.op : Int) = OP at *
      generalize y.1.a = XA at *
      generalize y.1.b = XB at *
      generalize y.2 = XV at *
      have hlt2 : (k : Int) < 26 := by omega
      have hk0 : (0 : Int) ≤ (k : Int) := by omega
      go_wp2_with fail
      refine Calls.mono (HEN.out wr hb) ?_
      rintro e w8 ⟨a8, c8, rfl, b8⟩
      obtain ⟨d0', d1', d2', d3'⟩ := HCL.out w8 b8
      replace hb := hb.trans (b8.mono hb.size)
      clear d0 d1 d2 d3 HEN HCL b8
      go_wp2_with fail
      refine Calls.mono (HSZ.out w8 hb) ?_
      rintro e w9 ⟨rfl, b9⟩
      have HB9 : Hid (Below w7.heap.size w7 w9) := hb.trans (b9.mono hb.size)
      clear d0' d1' d2' d3' HSZ b9 hb
      go_wp2
      go_roundw
      case rel => exact ⟨k + 1, hlt, by go_num, HB9.out⟩
      case measure => simp [intOf]; omega
    · obtain rfl : k = 26 := by omega
      replace HQ1 := HQ1.out.trans (hb.mono HQ1.out.size)
      clear HAT HO5 HLN hb hlt hk ps
      have q1 : Below W.heap.size W wr := HQ1
      clear HQ1
      have MK2 : ∀ w, (Instr.makeSlice 22 (.int .i64 65535) (.int .i64 65535)).run Tryd.prog w = .ok (.slice (some ⟨w.heap.size, 0, none⟩) 65535 65535) (w.alloc (.cells (zCs 65535) 44)) := fun w => made_arms w 65535 (by omega)
      have z1 : (wr.alloc (.cells (zCs 65535) 44)).heap.size = wr.heap.size + 1 := World.size_alloc _ _
      have o1 := Own.new wr (zCs 65535) 44
      have p1 := new_below wr (.cells (zCs 65535) 44)
      replace q1 := q1.trans (p1.mono q1.size)
      go_upto_region 10 with fail
      clear p1
      generalize wr.alloc (.cells (zCs 65535) 44) = x1 at *
      generalize wr.heap.size = g1 at *
      have o2 := Own.new x1 #[.int .i64 1, .int .i64 0, .int .i64 1, .int .i64 0] 44
      have z2 : (x1.alloc (.cells #[.int .i64 1, .int .i64 0, .int .i64 1, .int .i64 0] 44)).heap.size = g1 + 1 + 1 := by rw [World.size_alloc, z1]
      have p2 := new_below x1 (.cells #[.int .i64 1, .int .i64 0, .int .i64 1, .int .i64 0] 44)
      rw [z1] at o2
      replace o1 := o1.below p2
      replace q1 := q1.trans (p2.mono q1.size)
      clear p2 z1 MK2
      generalize x1.alloc (.cells #[.int .i64 1, .int .i64 0, .int .i64 1, .int .i64 0] 44) = x2 at *
      generalize hW7 : World.alloc x2 _ = w10 at *
      have o5 : Own w10 (g1 + 1 + 1) (insC (goodPs g1 (g1 + 1))).toArray 24 := by
        rw [← hW7, ← z2]
        exact Own.new x2 _ 24
      have p5 : Below x2.heap.size x2 w10 := by rw [← hW7]; exact new_below x2 _
      clear hW7
      have HAT : Hid (∀ y ∈ goodPs g1 (g1 + 1), ItAt w10 y ∧ y.1.ok = true) := good_at (zA_lies (o1.below p5))
        (armsOwn (o2.below p5) (fun i hi => by
          rcases Nat.lt_or_ge i 1 with h | h
          · obtain rfl : i = 0 := by omega
            exact ⟨rfl, rfl⟩
          · obtain rfl : i = 1 := by simp at hi; omega
            exact ⟨rfl, rfl⟩) (by simp))
      replace q1 := q1.trans (p5.mono q1.size)
      have HQ1 : Hid (Below W.heap.size W w10) := q1
      have HLN : Hid ((goodPs g1 (g1 + 1)).length = 7) := rfl
      clear o1 o2 p5 z2 q1
      generalize goodPs g1 (g1 + 1) = ps at *
      have HO5 : Hid (Own w10 (g1 + 1 + 1) (insC ps).toArray 24) := o5
      clear o5
      generalize g1 + 1 + 1 = gd at *
      go_wp2_with fail
      go_loopw [7] (fun i wr => ∃ k : Nat, k ≤ 7 ∧ i = .int .i64 (k : Int) ∧ Below w10.heap.size w10 wr) (fun i _ => 7 - (intOf i).toNat)
      case atStart => exact ⟨0, Nat.zero_le _, rfl, Below.refl _ _⟩
      case round =>
        obtain ⟨k, hk, rfl, hb⟩ := hrel
        by_cases hlt : k < 7
        · have hkl : k < ps.length := by rw [HLN.out]; exact hlt
          obtain ⟨y, hy⟩ : ∃ y, ps.getD k (zI, undef) = y := ⟨_, rfl⟩
          obtain ⟨hit, hok⟩ := HAT.out y (by rw [← hy]; exact getD_in hkl)
          obtain ⟨d0, d1, d2, d3⟩ := ins_cells (HO5.out.below hb) hkl hy
          have HEN : Hid (∀ W, Below w10.heap.size w10 W → Calls Tryd.prog 15 #[.agg #[.int .u8 (y.1.op : Int), .int .i64 y.1.a, .int .i64 y.1.b, y.2]] W (YesR W y.1.enc.length (nums y.1.enc))) := fun W q => yes_enc (hit.below q) hok
          have HDC : Hid (∀ (W : World) (a : Option Addr) (c : Nat), Rw W 5 1 (.slice a y.1.enc.length c) y.1.enc.length (nums y.1.enc) → Calls Tryd.prog 17 #[.slice a y.1.enc.length c, .int .i64 0] W (DcG W (y.1.op : Int) y.1.a y.1.b y.1.arms.length y.1.enc.length (armC y.1.arms))) := fun W a c q => yes_dec hit.op hok q
          have HSM : Hid (∀ (W : World) (a : Option Addr) (c : Nat), Below w10.heap.size w10 W → Rw W 44 2 (.slice a y.1.arms.length c) y.1.arms.length (armC y.1.arms) → Calls Tryd.prog 18 #[.agg #[.int .u8 (y.1.op : Int), .int .i64 y.1.a, .int .i64 y.1.b, .slice a y.1.arms.length c], .agg #[.int .u8 (y.1.op : Int), .int .i64 y.1.a, .int .i64 y.1.b, y.2]] W (RT W)) := fun W a c q hr => yes_same (hit.below q) hr
          have HCL : Hid (∀ W, Below w10.heap.size w10 W → W.cell? ⟨gd, k * 4, none⟩ = some (.int .u8 (y.1.op : Int)) ∧ W.cell? ⟨gd, k * 4 + 1, none⟩ = some (.int .i64 y.1.a) ∧ W.cell? ⟨gd, k * 4 + 2, none⟩ = some (.int .i64 y.1.b) ∧ W.cell? ⟨gd, k * 4 + 3, none⟩ = some y.2) := fun W q => ins_cells (HO5.out.below q) hkl hy
          have HSZ : Hid (y.1.enc.length ≤ 1000000) := enc_small _
          clear hit hok hy hkl HAT HO5 HLN
          generalize (y.1.op : Int) = OP at *
          generalize y.1.a = XA at *
          generalize y.1.b = XB at *
          generalize y.2 = XV at *
          generalize nums y.1.enc = ZS at *
          generalize y.1.enc.length = L at *
          generalize armC y.1.arms = AC at *
          generalize y.1.arms.length = m at *
          have hlt2 : (k : Int) < 7 := by omega
          have hk0 : (0 : Int) ≤ (k : Int) := by omega
          go_wp2_with fail
          refine Calls.mono (HEN.out wr hb) ?_
          rintro e w11 ⟨a8, c8, rfl, r8, b8⟩
          replace hb := hb.trans (b8.mono hb.size)
          clear d0 d1 d2 d3 HEN b8
          go_wp2_with fail
          refine Calls.mono (HDC.out w11 a8 c8 r8) ?_
          rintro e w12 ⟨a9, c9, rfl, r9, b9⟩
          replace hb := hb.trans (b9.mono hb.size)
          clear HDC r8 b9
          have ox := Own.new w12 #[.int .u8 OP, .int .i64 XA, .int .i64 XB, .slice a9 m c9] 24
          have b10 := new_below w12 (.cells #[.int .u8 OP, .int .i64 XA, .int .i64 XB, .slice a9 m c9] 24)
          replace r9 := r9.belowR b10
          replace hb := hb.trans (b10.mono hb.size)
          clear b10
          go_upto_region 15 with fail
          generalize w12.alloc (.cells #[.int .u8 OP, .int .i64 XA, .int .i64 XB, .slice a9 m c9] 24) = w13 at *
          generalize w12.heap.size = gx at *
          obtain ⟨x0, x1, x2, x3⟩ := cells4 ox
          have d0 : ∀ t : After w13, t.1.cell? ⟨gd, k * 4, none⟩ = some (.int .u8 OP) := fun t => (HCL.out _ (hb.trans (t.2.mono hb.size))).1
          have d1 : ∀ t : After w13, t.1.cell? ⟨gd, k * 4 + 1, none⟩ = some (.int .i64 XA) := fun t => (HCL.out _ (hb.trans (t.2.mono hb.size))).2.1
          have d2 : ∀ t : After w13, t.1.cell? ⟨gd, k * 4 + 2, none⟩ = some (.int .i64 XB) := fun t => (HCL.out _ (hb.trans (t.2.mono hb.size))).2.2.1
          have d3 : ∀ t : After w13, t.1.cell? ⟨gd, k * 4 + 3, none⟩ = some XV := fun t => (HCL.out _ (hb.trans (t.2.mono hb.size))).2.2.2
          have Q1 : Hid (∀ t : After w13, Calls Tryd.prog 18 #[.agg #[.int .u8 OP, .int .i64 XA, .int .i64 XB, .slice a9 m c9], .agg #[.int .u8 OP, .int .i64 XA, .int .i64 XB, XV]] t.1 fun e w'' => e = .returned (.bool true) ∧ ∃ t' : After w13, w'' = t'.1) := fun t => quiet_new t (HSM.out t.1 a9 c9 (hb.trans (t.2.mono hb.size)) (r9.belowR t.2))
          clear HCL HSM ox r9
          refine wp_region_after (by kernel_rfl) (by kernel_rfl) ?_
          repeat (go_big_quiet_step (with_reducible exact rfl))
          go_big_quiet_step (exact Q1.out _)
          repeat (go_big_quiet_step (with_reducible exact rfl))
          refine wpQuiet_nil ?_
          rintro w14 ⟨t14, e14⟩
          have b14 : Below w13.heap.size w13 w14 := by rw [e14]; exact t14.2
          have HB14 : Hid (Below w10.heap.size w10 w14) := hb.trans (b14.mono hb.size)
          clear e14 t14 Q1 x0 x1 x2 x3 d0 d1 d2 d3 b14 hb
          go_wp2
          refine ⟨?rel, ?measure⟩
          case rel => exact ⟨_, _, _, _, _, _, _, _, _, _, _, _, _, _, _, _, _, _, _, _, _, _, _, _, _, _, _, _, _, _, _, _, _, _, _, _, _, _, _, _, _, _, _, _, _, _, _, _, ⟨k + 1, hlt, by go_num, HB14.out⟩, rfl⟩
          case measure => simp [intOf]; omega
        · obtain rfl : k = 7 := by omega
          have q1 : Below W.heap.size W wr := HQ1.out.trans (hb.mono HQ1.out.size)
          clear HAT HO5 HLN hb hlt hk ps HQ1
          go_wp2_with fail
          refine Calls.mono (v1 _) ?_
          rintro e u0 ⟨rfl, b⟩
          replace q1 := q1.trans (b.mono q1.size)
          clear b
          go_wp2_with fail
          refine Calls.mono (v2 _) ?_
          rintro e u1 ⟨rfl, b⟩
          replace q1 := q1.trans (b.mono q1.size)
          clear b
          go_wp2_with fail
          refine Calls.mono (v3 _) ?_
          rintro e u2 ⟨rfl, b⟩
          replace q1 := q1.trans (b.mono q1.size)
          clear b
          go_wp2_with fail
          refine Calls.mono (v4 _) ?_
          rintro e u3 ⟨rfl, b⟩
          replace q1 := q1.trans (b.mono q1.size)
          clear b
          go_wp2_with fail
          refine Calls.mono (v5 _) ?_
          rintro e u4 ⟨rfl, b⟩
          replace q1 := q1.trans (b.mono q1.size)
          clear b
          go_wp2_with fail
          refine Calls.mono (v6 _) ?_
          rintro e u5 ⟨rfl, b⟩
          replace q1 := q1.trans (b.mono q1.size)
          clear b
          go_wp2_with fail
          refine Calls.mono (v7 _) ?_
          rintro e u6 ⟨rfl, b⟩
          replace q1 := q1.trans (b.mono q1.size)
          clear b
          go_wp2_with fail
          refine Calls.mono (v8 _) ?_
          rintro e u7 ⟨rfl, b⟩
          replace q1 := q1.trans (b.mono q1.size)
          clear b
          go_wp2_with fail
          refine Calls.mono (v9 _) ?_
          rintro e u8 ⟨rfl, b⟩
          replace q1 := q1.trans (b.mono q1.size)
          clear b
          go_wp2_with fail
          refine Calls.mono (v10 _) ?_
          rintro e u9 ⟨rfl, b⟩
          replace q1 := q1.trans (b.mono q1.size)
          clear b
          go_wp2_with fail
          refine Calls.mono (v11 _) ?_
          rintro e u10 ⟨rfl, b⟩
          replace q1 := q1.trans (b.mono q1.size)
          clear b
          go_wp2_with fail
          refine Calls.mono (v12 _) ?_
          rintro e u11 ⟨rfl, b⟩
          replace q1 := q1.trans (b.mono q1.size)
          clear b
          have hdc : dec [4, 5] 1 = (⟨5, 0, 0, []⟩, 2, 0) := by rfl
          have hl := lies_new u11 [4, 5] (by decide) (by decide)
          have hc := dec_as (cap := 2) hl rfl 1
          rw [hdc] at hc
          have b := new_below u11 (.cells (nums [4, 5]).toArray 5)
          replace q1 := q1.trans (b.mono q1.size)
          clear b hdc hl
          go_wp2_with fail
          refine Calls.mono hc ?_
          rintro e w15 ⟨v, he, hr, -, b15⟩
          have he : e = .returned (.tuple #[.agg #[.int .u8 5, .int .i64 0, .int .i64 0, v], .int .i64 2, .int .i64 0]) := he
          subst he
          have hr0 : Rw w15 44 2 v 0 [] := hr
          obtain ⟨ao, cp, rfl, -⟩ := hr0.shape
          replace q1 := q1.trans (b15.mono q1.size)
          clear hc hr hr0 b15
          have oX := Own.new w15 #[.int .u8 5, .int .i64 0, .int .i64 0, .slice ao 0 cp] 24
          have b := new_below w15 (.cells #[.int .u8 5, .int .i64 0, .int .i64 0, .slice ao 0 cp] 24)
          replace q1 := q1.trans (b.mono q1.size)
          clear b
          go_upto_region 19 with fail
          generalize w15.alloc (.cells #[.int .u8 5, .int .i64 0, .int .i64 0, .slice ao 0 cp] 24) = w16 at *
          generalize w15.heap.size = gx at *
          have oF := Own.new w16 #[.string ⟨#[97]⟩, .int .i64 1, .string ⟨#[98]⟩, .int .i64 5] 54
          have zF : (w16.alloc (.cells #[.string ⟨#[97]⟩, .int .i64 1, .string ⟨#[98]⟩, .int .i64 5] 54)).heap.size = w16.heap.size + 1 := World.size_alloc _ _
          have b := new_below w16 (.cells #[.string ⟨#[97]⟩, .int .i64 1, .string ⟨#[98]⟩, .int .i64 5] 54)
          replace oX := oX.below b
          replace q1 := q1.trans (b.mono q1.size)
          clear b
          go_upto_region 20 with fail
          generalize w16.alloc (.cells #[.string ⟨#[97]⟩, .int .i64 1, .string ⟨#[98]⟩, .int .i64 5] 54) = x1 at *
          generalize w16.heap.size = gF at *
          have oT := Own.new x1 #[.int .u8 6, .string ⟨#[]⟩, .slice (some ⟨gF, 0, none⟩) 2 2, .int .i64 0, .int .i64 0, .int .u8 8, .string ⟨#[]⟩, .slice none 0 0, .int .i64 5, .int .i64 0, .int .u8 7, .string ⟨#[]⟩, .slice none 0 0, .int .i64 4, .int .i64 3] 57
          have zT : (x1.alloc (.cells #[.int .u8 6, .string ⟨#[]⟩, .slice (some ⟨gF, 0, none⟩) 2 2, .int .i64 0, .int .i64 0, .int .u8 8, .string ⟨#[]⟩, .slice none 0 0, .int .i64 5, .int .i64 0, .int .u8 7, .string ⟨#[]⟩, .slice none 0 0, .int .i64 4, .int .i64 3] 57)).heap.size = gF + 1 + 1 := by rw [World.size_alloc, zF]
          have b := new_below x1 (.cells #[.int .u8 6, .string ⟨#[]⟩, .slice (some ⟨gF, 0, none⟩) 2 2, .int .i64 0, .int .i64 0, .int .u8 8, .string ⟨#[]⟩, .slice none 0 0, .int .i64 5, .int .i64 0, .int .u8 7, .string ⟨#[]⟩, .slice none 0 0, .int .i64 4, .int .i64 3] 57)
          rw [zF] at oT
          replace oX := oX.below b
          replace oF := oF.below b
          replace q1 := q1.trans (b.mono q1.size)
          clear b zF
          generalize x1.alloc (.cells #[.int .u8 6, .string ⟨#[]⟩, .slice (some ⟨gF, 0, none⟩) 2 2, .int .i64 0, .int .i64 0, .int .u8 8, .string ⟨#[]⟩, .slice none 0 0, .int .i64 5, .int .i64 0, .int .u8 7, .string ⟨#[]⟩, .slice none 0 0, .int .i64 4, .int .i64 3] 57) = x2 at *
          have oM := Own.new x2 #[.slice (some ⟨gF + 1, 0, none⟩) 3 3, .slice none 0 0, .slice none 0 0] 29
          have b := new_below x2 (.cells #[.slice (some ⟨gF + 1, 0, none⟩) 3 3, .slice none 0 0, .slice none 0 0] 29)
          rw [zT] at oM
          replace oX := oX.below b
          have HM : Hid (∀ W, Below (x2.alloc (.cells #[.slice (some ⟨gF + 1, 0, none⟩) 3 3, .slice none 0 0, .slice none 0 0] 29)).heap.size (x2.alloc (.cells #[.slice (some ⟨gF + 1, 0, none⟩) 3 3, .slice none 0 0, .slice none 0 0] 29)) W → MoIn W (kM gF (gF + 1))) := fun W q => (kM_in (oF.below b) (oT.below b)).below q
          replace q1 := q1.trans (b.mono q1.size)
          clear b zT oF oT
          generalize x2.alloc (.cells #[.slice (some ⟨gF + 1, 0, none⟩) 3 3, .slice none 0 0, .slice none 0 0] 29) = w17 at *
          generalize gF + 1 + 1 = gM at *
          have HT1 : Hid (∀ W, Below w17.heap.size w17 W → Calls Tryd.prog 10 #[.agg #[.int .u8 41, .int .i64 17, .int .i64 0, .slice none 0 0], .agg #[.slice (some ⟨gF + 1, 0, none⟩) 3 3, .slice none 0 0, .slice none 0 0]] W (TK W 2 1 [17, 3] [5] 0)) := fun W q => k_takes (HM.out W q) (y := (⟨41, 17, 0, []⟩, nilV)) (it0 W 41 17 0 (by decide) (by decide) (by decide)) (by rfl) rfl rfl
          have HT2 : Hid (∀ W, Below w17.heap.size w17 W → Calls Tryd.prog 10 #[.agg #[.int .u8 38, .int .i64 16, .int .i64 1, .slice none 0 0], .agg #[.slice (some ⟨gF + 1, 0, none⟩) 3 3, .slice none 0 0, .slice none 0 0]] W (TK W 2 0 [16, 5] [] 0)) := fun W q => k_takes (HM.out W q) (y := (⟨38, 16, 1, []⟩, nilV)) (it0 W 38 16 1 (by decide) (by decide) (by decide)) (by rfl) rfl rfl
          have HT3 : Hid (∀ (W : World) (y : In × Value), Below w17.heap.size w17 W → y ∈ nonePs → Calls Tryd.prog 10 #[.agg #[.int .u8 (y.1.op : Int), .int .i64 y.1.a, .int .i64 y.1.b, y.2], .agg #[.slice (some ⟨gF + 1, 0, none⟩) 3 3, .slice none 0 0, .slice none 0 0]] W (TK W 0 0 [] [] 2)) := fun W y q hy => k_takes (HM.out W q) (none_at y hy) (none_takes y hy _ _) rfl rfl
          clear HM
          generalize gF + 1 = gT at *
          obtain ⟨m0, m1, m2, mf⟩ := own3 oM
          go_wp2_with fail
          refine Calls.mono (HT1.out w17 (Below.refl _ _)) ?_
          rintro e w18 ⟨a1, c1, a2, c2, rfl, r1, r2, b18⟩
          have B18 := b18
          have oM2 := oM.below b18
          have oX2 := oX.below b18
          clear m0 m1 m2 mf b18 HT1
          obtain ⟨m0, m1, m2, mf⟩ := own3 oM2
          go_wp2_with fail
          refine Calls.mono (HT2.out w18 B18) ?_
          rintro e w19 ⟨a3, c3, a4, c4, rfl, r3, -, b19⟩
          have B19 := B18.trans (b19.mono B18.size)
          have oX3 := oX2.below b19
          replace r1 := r1.belowR b19
          replace r2 := r2.belowR b19
          clear m0 m1 m2 mf b19 HT2 B18 oM2 oX2 oX
          obtain ⟨x0, x1, x2, x3, xf⟩ := own4 oX3
          have s1 := new_below w19 (.cells #[.int .i64 17, .int .i64 3] 3)
          have s2 := Own.new w19 #[.int .i64 17, .int .i64 3] 3
          have hC := k_same (l := [17, 3]) rfl (r1.belowR s1) s2 (by decide)
          go_wp2_with fail
          refine Calls.mono hC ?_
          rintro e w20 ⟨rfl, b⟩
          replace s1 := s1.trans (b.mono s1.size)
          replace r2 := r2.belowR s1
          replace r3 := r3.belowR s1
          have B20 := B19.trans (s1.mono B19.size)
          clear b s1 s2 r1 hC x0 x1 x2 x3 xf oX3 B19
          have s1 := new_below w20 (.cells #[.int .i64 5] 3)
          have s2 := Own.new w20 #[.int .i64 5] 3
          have hC := k_same (l := [5]) rfl (r2.belowR s1) s2 (by decide)
          go_wp2_with fail
          refine Calls.mono hC ?_
          rintro e w21 ⟨rfl, b⟩
          replace s1 := s1.trans (b.mono s1.size)
          replace r3 := r3.belowR s1
          have B21 := B20.trans (s1.mono B20.size)
          clear b s1 s2 r2 hC B20
          have s1 := new_below w21 (.cells #[.int .i64 16, .int .i64 5] 3)
          have s2 := Own.new w21 #[.int .i64 16, .int .i64 5] 3
          have hC := k_same (l := [16, 5]) rfl (r3.belowR s1) s2 (by decide)
          go_wp2_with fail
          refine Calls.mono hC ?_
          rintro e w22 ⟨rfl, b⟩
          replace s1 := s1.trans (b.mono s1.size)
          have B22 := B21.trans (s1.mono B21.size)
          clear b s1 s2 r3 hC B21
          go_upto_region 24 with fail
          generalize hW7 : World.alloc w22 _ = w23 at *
          have o5 : Own w23 w22.heap.size (insC nonePs).toArray 24 := by
            rw [← hW7]
            exact Own.new w22 _ 24
          have p5 : Below w22.heap.size w22 w23 := by rw [← hW7]; exact new_below w22 _
          clear hW7
          have HB23 : Hid (Below w17.heap.size w17 w23) := B22.trans (p5.mono B22.size)
          have HO5 : Hid (Own w23 w22.heap.size (insC nonePs).toArray 24) := o5
          have HOM : Hid (Own w23 gM #[.slice (some ⟨gT, 0, none⟩) 3 3, .slice none 0 0, .slice none 0 0] 29) := oM.below HB23.out
          have HLN : Hid (nonePs.length = 14) := rfl
          have HQ1 : Hid (Below W.heap.size W w17) := q1
          clear o5 oM p5 B22 q1
          generalize w22.heap.size = ge at *
          go_wp2_with fail
          go_loopw [26] (fun i wr => ∃ k : Nat, k ≤ 14 ∧ i = .int .i64 (k : Int) ∧ Below w23.heap.size w23 wr) (fun i _ => 14 - (intOf i).toNat)
          case atStart => exact ⟨0, Nat.zero_le _, rfl, Below.refl _ _⟩
          case round =>
            obtain ⟨k, hk, rfl, hb⟩ := hrel
            by_cases hlt : k < 14
            · have hkl : k < nonePs.length := by rw [HLN.out]; exact hlt
              obtain ⟨y, hy⟩ : ∃ y, nonePs.getD k (zI, undef) = y := ⟨_, rfl⟩
              have hin : y ∈ nonePs := by rw [← hy]; exact getD_in hkl
              obtain ⟨d0, d1, d2, d3⟩ := ins_cells (HO5.out.below hb) hkl hy
              obtain ⟨m0, m1, m2, mf⟩ := own3 (HOM.out.below hb)
              have HTK : Hid (∀ W, Below wr.heap.size wr W → Calls Tryd.prog 10 #[.agg #[.int .u8 (y.1.op : Int), .int .i64 y.1.a, .int .i64 y.1.b, y.2], .agg #[.slice (some ⟨gT, 0, none⟩) 3 3, .slice none 0 0, .slice none 0 0]] W fun e w' => ∃ a1 c1 a2 c2, e = .returned (.tuple #[.slice a1 0 c1, .slice a2 0 c2, .int .i64 2]) ∧ (w'.cell? ⟨ge, k * 4, none⟩ = some (.int .u8 (y.1.op : Int)) ∧ w'.cell? ⟨ge, k * 4 + 1, none⟩ = some (.int .i64 y.1.a) ∧ w'.cell? ⟨ge, k * 4 + 2, none⟩ = some (.int .i64 y.1.b) ∧ w'.cell? ⟨ge, k * 4 + 3, none⟩ = some y.2 ∧ w'.cell? ⟨gM, 0, none⟩ = some (.slice (some ⟨gT, 0, none⟩) 3 3) ∧ w'.cell? ⟨gM, 1, none⟩ = some (.slice none 0 0) ∧ w'.cell? ⟨gM, 2, none⟩ = some (.slice none 0 0)) ∧ Below wr.heap.size wr w') := fun W q => by
                have hb2 := hb.trans (q.mono hb.size)
                refine (HT3.out W y (HB23.out.trans (hb2.mono HB23.out.size)) hin).mono ?_
                rintro e w' ⟨a1, c1, a2, c2, rfl, -, -, b⟩
                have hb3 := hb2.trans (b.mono hb2.size)
                obtain ⟨z0, z1, z2, -⟩ := own3 (HOM.out.below hb3)
                obtain ⟨y0, y1, y2, y3⟩ := ins_cells (HO5.out.below hb3) hkl hy
                exact ⟨a1, c1, a2, c2, rfl, ⟨y0, y1, y2, y3, z0, z1, z2⟩, q.trans (b.mono q.size)⟩
              have HBB : Hid (Below w23.heap.size w23 wr) := hb
              clear hin hy hkl HO5 HOM HT3 HB23 HLN hb HQ1
              generalize (y.1.op : Int) = OP at *
              generalize y.1.a = XA at *
              generalize y.1.b = XB at *
              generalize y.2 = XV at *
              have hlt2 : (k : Int) < 14 := by omega
              have hk0 : (0 : Int) ≤ (k : Int) := by omega
              go_upto_region 27 with fail
              go_region_held3 (fun w' => w'.cell? ⟨ge, k * 4, none⟩ = some (.int .u8 OP) ∧ w'.cell? ⟨ge, k * 4 + 1, none⟩ = some (.int .i64 XA) ∧ w'.cell? ⟨ge, k * 4 + 2, none⟩ = some (.int .i64 XB) ∧ w'.cell? ⟨ge, k * 4 + 3, none⟩ = some XV ∧ w'.cell? ⟨gM, 0, none⟩ = some (.slice (some ⟨gT, 0, none⟩) 3 3) ∧ w'.cell? ⟨gM, 1, none⟩ = some (.slice none 0 0) ∧ w'.cell? ⟨gM, 2, none⟩ = some (.slice none 0 0)) (go_keep)
                (first
                  | (go_at_call 10; refine (HTK.out wr.drew (below_drawn (Below.refl _ wr) 1)).mono ?_; rintro en W2 ⟨ta, tc, pa, pc, rfl, ⟨q0, q1, q2, q3, q4, q5, q6⟩, k2⟩))
              have HB2 : Hid (Below w23.heap.size w23 W2) := HBB.out.trans (k2.mono HBB.out.size)
              clear HTK HBB k2 q0 q1 q2 q3 q4 q5 q6 d0 d1 d2 d3 m0 m1 m2 mf
              go_wp2
              go_roundw
              case rel => exact ⟨k + 1, hlt, by go_num, HB2.out⟩
              case measure => simp [intOf]; omega
            · obtain rfl : k = 14 := by omega
              have hb2 := HB23.out.trans (hb.mono HB23.out.size)
              have hb3 := HQ1.out.trans (hb2.mono HQ1.out.size)
              clear HO5 HOM HT3 HB23 HLN hb HQ1 hb2
              go_wp2_with fail
              refine Calls.mono (HWORKS.out wr hb3) ?_
              rintro e w25 ⟨rfl, b⟩
              replace hb3 := hb3.trans (b.mono hb3.size)
              go_wp2
              go_ret
              exact ⟨rfl, hb3⟩
end Go.Proofs.YtjfdlphkmpkjdaaDoor
