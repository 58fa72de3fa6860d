/-
  What came in: numbers, lines.
-/
import Derived.Test.YtkmmnocooibljaaGreatDoorNb
import Derived.SizedLaws
namespace Go.Proofs.YtkmmnocooibljaaGreatDoor
open Go.ChangeShapes Go.WideShapes Go.ChangeAt Go.RowKit Go.Deep
set_option linter.unusedVariables false

theorem ncI64 : Tryz.prog.cellsOf 2 = 1 := by kernel_rfl
theorem ncInt : Tryz.prog.cellsOf 3 = 1 := by kernel_rfl
theorem ncU8 : Tryz.prog.cellsOf 5 = 1 := by kernel_rfl
theorem ncArm : Tryz.prog.cellsOf 51 = 2 := by kernel_rfl
theorem ncArms : Tryz.prog.cellsOf 41 = 1 := by kernel_rfl
theorem ncInstr : Tryz.prog.cellsOf 43 = 4 := by kernel_rfl
theorem ncLine : Tryz.prog.cellsOf 56 = 5 := by kernel_rfl
theorem nbI64 : Tryz.prog.bytesOf 2 = 8 := by kernel_rfl
theorem nbArm : Tryz.prog.bytesOf 51 = 16 := by kernel_rfl
theorem nbLine : Tryz.prog.bytesOf 56 = 56 := by kernel_rfl
theorem nlist2 {α : Type} (l : List α) (h : l.length = 2) : ∃ a0 a1, l = [a0, a1] := by
  match l, h with
  | [a0, a1], _ => exact ⟨a0, a1, rfl⟩
theorem nlist4 {α : Type} (l : List α) (h : l.length = 4) : ∃ a0 a1 a2 a3, l = [a0, a1, a2, a3] := by
  match l, h with
  | [a0, a1, a2, a3], _ => exact ⟨a0, a1, a2, a3, rfl⟩
theorem nlist5 {α : Type} (l : List α) (h : l.length = 5) : ∃ a0 a1 a2 a3 a4, l = [a0, a1, a2, a3, a4] := by
  match l, h with
  | [a0, a1, a2, a3, a4], _ => exact ⟨a0, a1, a2, a3, a4, rfl⟩
theorem nwf_i64 {x : Int} (h : (Lit.int .i64 x).wf = true) : N64 x := by
  have h2 := h
  simp [Lit.wf] at h2
  have e1 : IntKind.i64.min = -9223372036854775808 := by rfl
  have e2 : IntKind.i64.max = 9223372036854775807 := by rfl
  rw [e1] at h2
  exact ⟨by omega, by omega⟩
theorem nwf_u8 {x : Int} (h : (Lit.int .u8 x).wf = true) : 0 ≤ x ∧ x < 256 := by
  have h2 := h
  simp [Lit.wf] at h2
  have e1 : IntKind.u8.min = 0 := by rfl
  have e2 : IntKind.u8.max = 255 := by rfl
  rw [e1, e2] at h2
  exact ⟨by omega, by omega⟩
theorem each_i64 {H : Type} {enc : TypeId × Value → H} {W : World} (cs : List Value) (fuel : Nat) (y : DataW H × List MemPlace) (h : DataW.trod enc Tryz.prog W 0 (fun _ => true) true fuel 2 cs = some y) (hw : ∀ k ∈ y.1.weights Tryz.prog 2, k ≤ reachBytes) : ∃ x : Int, cs = [.int .i64 x] ∧ N64 x := by
  obtain ⟨x, rfl, _, hb⟩ := DataW.trod_int Tryz.underlying2 h
  exact ⟨x, rfl, nwf_i64 hb⟩
/-- A row of numbers that came in. -/
structure I64In (W : World) (ao : Option Addr) (xs : List Int) : Prop where
  row : RowAt W ao 1 xs.length (inF xs)
  each : ∀ x ∈ xs, N64 x
set_option maxRecDepth 100000 in
theorem open_i64s {H : Type} {enc : TypeId × Value → H} {W : World} {base : Nat} {v : Value} {d : DataW H} {ps : List MemPlace} {r : Reach} (hv : Value.okWide Tryz.prog W r base 44 v) (h : DataW.Trod enc Tryz.prog W 0 (fun _ => true) true 44 v d ps) (hw : ∀ k ∈ d.weights Tryz.prog 44, k ≤ reachBytes) : ∃ ao xs cap, v = .slice ao xs.length cap ∧ I64In W ao xs := by
  obtain ⟨a0, len, cap, rfl⟩ := okWide_slice Tryz.underlying44 hv
  obtain ⟨fuel, h⟩ := h
  obtain ⟨ao, xs, cap2, hr⟩ := trod_row Tryz.underlying44 1 8 ncI64 nbI64 (by omega) (by omega) (0 : Int) (fun x => [.int .i64 x]) (fun _ => rfl) N64 each_i64 h hw
  exact ⟨ao, xs, cap2, hr.eq, hr.at (fun i hi d hd => by
    obtain rfl : d = 0 := by omega
    rfl), hr.each⟩
set_option maxRecDepth 100000 in
theorem each_arm {H : Type} {enc : TypeId × Value → H} {W : World} (cs : List Value) (fuel : Nat) (y : DataW H × List MemPlace) (h : DataW.trod enc Tryz.prog W 0 (fun _ => true) true fuel 51 cs = some y) (hw : ∀ k ∈ y.1.weights Tryz.prog 51, k ≤ reachBytes) : ∃ x : Int × Int, cs = [.int .i64 x.1, .int .i64 x.2] ∧ (N64 x.1 ∧ N64 x.2) := by
  obtain ⟨xs, k, hk, rfl, hcl, hxl, hf⟩ := DataW.trod_struct Tryz.underlying51 h
  rw [ncArm] at hcl
  obtain ⟨y0, y1, rfl⟩ := nlist2 xs hxl
  obtain ⟨u0, u1, rfl⟩ := nlist2 cs hcl
  have g0 := hf 0 _ rfl
  have g1 := hf 1 _ rfl
  simp [ncI64, ncInt] at g0 g1
  obtain ⟨x0, q0, _, b0⟩ := DataW.trod_int Tryz.underlying2 g0
  obtain ⟨x1, q1, _, b1⟩ := DataW.trod_int Tryz.underlying3 g1
  simp at q0 q1
  subst q0 q1
  exact ⟨(x0, x1), rfl, nwf_i64 b0, nwf_i64 b1⟩
set_option maxRecDepth 100000 in
theorem each_line {H : Type} {enc : TypeId × Value → H} {W : World} (cs : List Value) (fuel : Nat) (y : DataW H × List MemPlace) (h : DataW.trod enc Tryz.prog W 0 (fun _ => true) true fuel 56 cs = some y) (hw : ∀ k ∈ y.1.weights Tryz.prog 56, k ≤ reachBytes) : ∃ x : LnP, cs = x.cs.toList ∧ LnIn W x := by
  obtain ⟨xs, k, hk, rfl, hcl, hxl, hf⟩ := DataW.trod_struct Tryz.underlying56 h
  rw [ncLine] at hcl
  have hwe : ∀ (j : Nat) (t : TypeId) (d : DataW H), ([3, 43] : List TypeId)[j]? = some t → (xs.map (·.1))[j]? = some d → ∀ n ∈ d.weights Tryz.prog t, n ≤ reachBytes := by
    intro j t d ht hd n hn
    refine hw n ?_
    simp only [DataW.weights, Tryz.underlying56]
    exact DataW.weights_mem_each (j := j) (t := t) (d := d) ht hd n hn
  obtain ⟨y0, y1, rfl⟩ := nlist2 xs hxl
  obtain ⟨u0, u1, u2, u3, u4, rfl⟩ := nlist5 cs hcl
  have g0 := hf 0 _ rfl
  have g1 := hf 1 _ rfl
  simp [ncInt, ncInstr] at g0 g1
  have hw1 := hwe 1 43 y1.1 rfl rfl
  obtain ⟨x0, q0, _, b0⟩ := DataW.trod_int Tryz.underlying3 g0
  simp at q0
  subst q0
  obtain ⟨zs, k2, hk2, e2, hcl2, hxl2, hf2⟩ := DataW.trod_struct Tryz.underlying43 g1
  have hwi : ∀ (j : Nat) (t : TypeId) (d : DataW H), ([5, 2, 2, 41] : List TypeId)[j]? = some t → (zs.map (·.1))[j]? = some d → ∀ n ∈ d.weights Tryz.prog t, n ≤ reachBytes := by
    intro j t d ht hd n hn
    refine hw1 n ?_
    have e3 := congrArg Prod.fst e2
    rw [e3]
    simp only [DataW.weights, Tryz.underlying43]
    exact DataW.weights_mem_each (j := j) (t := t) (d := d) ht hd n hn
  obtain ⟨z0, z1, z2, z3, rfl⟩ := nlist4 zs hxl2
  have p0 := hf2 0 _ rfl
  have p1 := hf2 1 _ rfl
  have p2 := hf2 2 _ rfl
  have p3 := hf2 3 _ rfl
  simp [ncU8, ncI64, ncArms] at p0 p1 p2 p3
  obtain ⟨s0, r0, _, c0⟩ := DataW.trod_int Tryz.underlying5 p0
  obtain ⟨s1, r1, _, c1⟩ := DataW.trod_int Tryz.underlying2 p1
  obtain ⟨s2, r2, _, c2⟩ := DataW.trod_int Tryz.underlying2 p2
  obtain ⟨ao, ar, cap, hr⟩ := trod_row Tryz.underlying41 2 16 ncArm nbArm (by omega) (by omega) ((0, 0) : Int × Int) (fun x => [.int .i64 x.1, .int .i64 x.2]) (fun _ => rfl) (fun x => N64 x.1 ∧ N64 x.2) each_arm p3 (hwi 3 41 z3.1 rfl rfl)
  have r3 := hr.eq
  simp at r0 r1 r2
  subst r0 r1 r2 r3
  have hb := nwf_u8 c0
  obtain ⟨z, rfl⟩ := Int.eq_ofNat_of_zero_le hb.1
  refine ⟨⟨x0, ⟨z, s1, s2, ar⟩, ao, cap⟩, rfl, nwf_i64 b0, ⟨by show z < 256; omega, nwf_i64 c1, nwf_i64 c2, ⟨hr.each, ?_⟩⟩, ?_⟩
  · rcases hr.row with h0 | ⟨b, off, e, hc⟩
    · exact .inl (List.length_eq_zero_iff.1 h0)
    · by_cases h0 : ar = []
      · exact .inl h0
      · right
        have hl : 0 < ar.length := List.length_pos_iff.2 h0
        have hq := hc 0 hl 0 (by omega)
        refine ⟨b, off, e, World.block_lt_of_cell? W _ hq, fun i hi => ⟨?_, ?_⟩⟩
        · exact hc i hi 0 (by omega)
        · exact hc i hi 1 (by omega)
  · exact Nat.le_trans hr.mx (by unfold big; omega)
set_option maxRecDepth 100000 in
theorem open_lines {H : Type} {enc : TypeId × Value → H} {W : World} {base : Nat} {v : Value} {d : DataW H} {ps : List MemPlace} {r : Reach} (hv : Value.okWide Tryz.prog W r base 22 v) (h : DataW.Trod enc Tryz.prog W 0 (fun _ => true) true 22 v d ps) (hw : ∀ k ∈ d.weights Tryz.prog 22, k ≤ reachBytes) : ∃ ao xs cap, v = .slice ao xs.length cap ∧ LnsIn W ao xs := by
  obtain ⟨a0, len, cap, rfl⟩ := okWide_slice Tryz.underlying22 hv
  obtain ⟨fuel, h⟩ := h
  obtain ⟨ao, xs, cap2, hr⟩ := trod_row Tryz.underlying22 5 56 ncLine nbLine (by omega) (by omega) zLn (fun x => x.cs.toList) (fun _ => rfl) (LnIn W) each_line h hw
  refine ⟨ao, xs, cap2, hr.eq, hr.at (fun i hi d hd => ?_), hr.each, Nat.le_trans hr.mx (by unfold big; omega)⟩
  rcases (by omega : d = 0 ∨ d = 1 ∨ d = 2 ∨ d = 3 ∨ d = 4) with rfl | rfl | rfl | rfl | rfl <;> rfl
end Go.Proofs.YtkmmnocooibljaaGreatDoor
