/-
  ARGUMENTS THAT CAME IN: bytes, an instruction, a row of instructions.
-/
import Derived.Test.YtjfdlphkmpkjdaaDoorChecked
import Derived.Test.YtjfdlphkmpkjdaaDoorKt
import Derived.Deep.Slices
import Derived.ProofKit
import Derived.OpenShut
import Derived.Carry
namespace Go.Proofs.YtjfdlphkmpkjdaaDoor
open Go.ChangeShapes Go.WideShapes Go.ChangeAt Go.RowKit Go.Deep
set_option linter.unusedVariables false

theorem cellsU8 : Tryd.prog.cellsOf 5 = 1 := by kernel_rfl
theorem cellsI64 : Tryd.prog.cellsOf 2 = 1 := by kernel_rfl
theorem cellsInt : Tryd.prog.cellsOf 3 = 1 := by kernel_rfl
theorem cellsArm : Tryd.prog.cellsOf 44 = 2 := by kernel_rfl
theorem cellsArms : Tryd.prog.cellsOf 22 = 1 := by kernel_rfl
theorem cellsIns : Tryd.prog.cellsOf 24 = 4 := by kernel_rfl
theorem wf_u8 {x : Int} (h : (Lit.int .u8 x).wf = true) : 0 ≤ x ∧ x < 256 := by
  have h2 := h
  simp [Lit.wf] at h2
  have e1 : IntKind.u8.min = 0 := by rfl
  have e2 : IntKind.u8.max = 255 := by rfl
  rw [e1, e2] at h2
  exact ⟨by omega, by omega⟩
theorem wf_i64 {x : Int} (h : (Lit.int .i64 x).wf = true) : -9223372036854775808 ≤ x ∧ x ≤ 9223372036854775807 := by
  have h2 := h
  simp [Lit.wf] at h2
  have e1 : IntKind.i64.min = -9223372036854775808 := by rfl
  have e2 : IntKind.i64.max = 9223372036854775807 := by rfl
  rw [e1] at h2
  exact ⟨by omega, by omega⟩
theorem add_lit (b o i : Nat) : (⟨b, o, none⟩ : Addr).add i = ⟨b, o + i, none⟩ := by unfold Addr.add; split <;> simp_all
/-- Bytes that came in. -/
structure BytesAt (w : World) (ao : Option Addr) (cap : Nat) (xs : List Nat) : Prop where
  lies : Lies w ao xs
  none : ao = none → cap = 0
  le : xs.length ≤ cap
  max : cap ≤ maxLen
set_option maxRecDepth 100000 in
theorem trod_bytes {H : Type} {enc : TypeId × Value → H} {W : World} {v : Value} {fuel : Nat} {y : DataW H × List MemPlace} (h : DataW.trod enc Tryd.prog W 0 (fun _ => true) true fuel 46 [v] = some y) :
    ∃ ao xs cap, v = .slice ao xs.length cap ∧ BytesAt W ao cap xs := by
  rcases open_slice Tryd.underlying46 h with ⟨e, _⟩ | ⟨a, len, cap, m, n, D, Pl, e, hb, hl, hm, hmm, _, hx⟩
  · simp at e
    subst e
    exact ⟨none, [], 0, rfl, ⟨by simp, by simp, .inl rfl⟩, fun _ => rfl, Nat.le_refl _, by unfold maxLen; omega⟩
  · simp at e
    subst e
    simp only [if_true] at hmm
    subst hmm
    have each : ∀ i, i < len → ∃ x : Nat, W.cell? (a.add i) = some (.int .u8 (x : Int)) ∧ x < 256 := by
      intro i hi
      obtain ⟨cs, h1, h2⟩ := hx i (by omega)
      rw [cellsU8, Nat.mul_one] at h1
      obtain ⟨_, hlen, hcell⟩ := World.cells?_some h1
      obtain ⟨x, rfl, _, hw⟩ := DataW.trod_int Tryd.underlying5 h2
      have hb2 := wf_u8 hw
      obtain ⟨z, rfl⟩ := Int.eq_ofNat_of_zero_le hb2.1
      have e0 := hcell 0 (by omega)
      rw [add_add] at e0
      exact ⟨z, by simpa using e0, by omega⟩
    obtain ⟨f, hf⟩ := @choose_lt Nat ⟨0⟩ _ _ each
    have hlen : ((List.range len).map f).length = len := by simp
    refine ⟨some a, (List.range len).map f, m, by rw [hlen], ⟨?_, by rw [hlen]; unfold maxLen at hm; omega, ?_⟩, (fun e => by cases e), by rw [hlen]; exact hl, hm⟩
    · intro s hs
      obtain ⟨i, hi, rfl⟩ := List.mem_map.1 hs
      exact (hf i (List.mem_range.1 hi)).2
    · by_cases h0 : len = 0
      · left; rw [h0]; rfl
      · right
        obtain ⟨b, o, spot⟩ := a
        have c0 := (hf 0 (by omega)).1
        have hs : spot = none := by simpa [Addr.add] using World.cell?_spot c0
        subst hs
        refine ⟨b, o, rfl, fun i hi => ?_⟩
        rw [hlen] at hi
        have hd : ((List.range len).map f).getD i 0 = f i := by simp [List.getD, hi]
        rw [hd, ← add_lit]
        exact (hf i hi).1
set_option maxRecDepth 100000 in
theorem open_bytes {H : Type} {enc : TypeId × Value → H} {W : World} {base : Nat} {v : Value} {d : DataW H} {ps : List MemPlace} {r : Reach} (hv : Value.okWide Tryd.prog W r base 46 v) (h : DataW.Trod enc Tryd.prog W 0 (fun _ => true) true 46 v d ps) :
    ∃ ao xs cap, v = .slice ao xs.length cap ∧ BytesAt W ao cap xs := by
  obtain ⟨a0, len, cap, rfl⟩ := okWide_slice Tryd.underlying46 hv
  obtain ⟨fuel, h⟩ := h
  exact trod_bytes h
theorem list2 {α : Type} (l : List α) (h : l.length = 2) : ∃ a0 a1, l = [a0, a1] := by
  match l, h with
  | [a0, a1], _ => exact ⟨a0, a1, rfl⟩
theorem list4 {α : Type} (l : List α) (h : l.length = 4) : ∃ a0 a1 a2 a3, l = [a0, a1, a2, a3] := by
  match l, h with
  | [a0, a1, a2, a3], _ => exact ⟨a0, a1, a2, a3, rfl⟩
set_option maxRecDepth 100000 in
theorem trod_arms {H : Type} {enc : TypeId × Value → H} {W : World} {v : Value} {fuel : Nat} {y : DataW H × List MemPlace} (h : DataW.trod enc Tryd.prog W 0 (fun _ => true) true fuel 22 [v] = some y) :
    ∃ ao ar cap, v = .slice ao ar.length cap ∧ ArmLies W ao ar ∧ (ao = none → cap = 0) ∧ ar.length ≤ cap ∧ cap ≤ maxLen := by
  rcases open_slice Tryd.underlying22 h with ⟨e, _⟩ | ⟨a, len, cap, m, n, D, Pl, e, hb, hl, hm, hmm, _, hx⟩
  · simp at e
    subst e
    exact ⟨none, [], 0, rfl, ⟨by simp, .inl rfl⟩, fun _ => rfl, Nat.le_refl _, by unfold maxLen; omega⟩
  · simp at e
    subst e
    simp only [if_true] at hmm
    subst hmm
    have each : ∀ i, i < len → ∃ y : Int × Int, W.cell? (a.add (i * 2)) = some (.int .i64 y.1) ∧ W.cell? (a.add (i * 2 + 1)) = some (.int .i64 y.2) ∧ (-9223372036854775808 ≤ y.1 ∧ y.1 ≤ 9223372036854775807) ∧ (-9223372036854775808 ≤ y.2 ∧ y.2 ≤ 9223372036854775807) := by
      intro i hi
      obtain ⟨cs, h1, h2⟩ := hx i (by omega)
      rw [cellsArm] at h1
      obtain ⟨_, hlen, hcell⟩ := World.cells?_some h1
      obtain ⟨xs, k, hk, _, hcl, hxl, hf⟩ := DataW.trod_struct Tryd.underlying44 h2
      rw [cellsArm] at hcl
      obtain ⟨y0, y1, rfl⟩ := list2 xs hxl
      obtain ⟨u0, u1, rfl⟩ := list2 cs hcl
      have g0 := hf 0 _ rfl
      have g1 := hf 1 _ rfl
      simp [cellsI64, cellsInt] at g0 g1
      obtain ⟨x0, q0, _, b0⟩ := DataW.trod_int Tryd.underlying2 g0
      obtain ⟨x1, q1, _, b1⟩ := DataW.trod_int Tryd.underlying3 g1
      simp at q0 q1
      subst q0 q1
      have e0 := hcell 0 (by omega)
      have e1 := hcell 1 (by omega)
      rw [add_add] at e0 e1
      exact ⟨(x0, x1), by simpa using e0, by simpa using e1, wf_i64 b0, wf_i64 b1⟩
    obtain ⟨f, hf⟩ := @choose_lt (Int × Int) ⟨(0, 0)⟩ _ _ each
    have hlen : ((List.range len).map f).length = len := by simp
    refine ⟨some a, (List.range len).map f, m, by rw [hlen], ⟨?_, ?_⟩, (fun e => by cases e), by rw [hlen]; exact hl, hm⟩
    · intro s hs
      obtain ⟨i, hi, rfl⟩ := List.mem_map.1 hs
      exact (hf i (List.mem_range.1 hi)).2.2
    · by_cases h0 : len = 0
      · left; rw [h0]; rfl
      · right
        obtain ⟨b, o, spot⟩ := a
        have c0 := (hf 0 (by omega)).1
        have hs : spot = none := by simpa [Addr.add] using World.cell?_spot c0
        subst hs
        refine ⟨b, o, rfl, by simpa [Addr.add] using World.block_lt_of_cell? W _ c0, fun i hi => ?_⟩
        rw [hlen] at hi
        have hd : ((List.range len).map f).getD i (0, 0) = f i := by simp [List.getD, hi]
        have h2 := hf i hi
        rw [hd]
        rw [add_lit, add_lit] at h2
        exact ⟨h2.1, by rw [Nat.add_assoc]; exact h2.2.1⟩
/-- An instruction that came in. -/
structure InAt (w : World) (x : In) (ao : Option Addr) (cap : Nat) : Prop where
  lies : InLies w x ao
  none : ao = none → cap = 0
  le : x.arms.length ≤ cap
  max : cap ≤ maxLen
set_option maxRecDepth 100000 in
theorem trod_ins {H : Type} {enc : TypeId × Value → H} {W : World} {cs : List Value} {fuel : Nat} {y : DataW H × List MemPlace} (h : DataW.trod enc Tryd.prog W 0 (fun _ => true) true fuel 24 cs = some y) :
    ∃ x ao cap, cs = [.int .u8 (x.op : Int), .int .i64 x.a, .int .i64 x.b, .slice ao x.arms.length cap] ∧ InAt W x ao cap := by
  obtain ⟨xs, k, hk, rfl, hcl, hxl, hf⟩ := DataW.trod_struct Tryd.underlying24 h
  rw [cellsIns] at hcl
  obtain ⟨y0, y1, y2, y3, rfl⟩ := list4 xs hxl
  obtain ⟨u0, u1, u2, u3, rfl⟩ := list4 cs hcl
  have g0 := hf 0 _ rfl
  have g1 := hf 1 _ rfl
  have g2 := hf 2 _ rfl
  have g3 := hf 3 _ rfl
  simp [cellsU8, cellsI64, cellsArms] at g0 g1 g2 g3
  obtain ⟨x0, q0, _, b0⟩ := DataW.trod_int Tryd.underlying5 g0
  obtain ⟨x1, q1, _, b1⟩ := DataW.trod_int Tryd.underlying2 g1
  obtain ⟨x2, q2, _, b2⟩ := DataW.trod_int Tryd.underlying2 g2
  obtain ⟨ao, ar, cap, q3, ha, hno, hle, hmx⟩ := trod_arms g3
  simp at q0 q1 q2
  subst q0 q1 q2 q3
  have hb := wf_u8 b0
  obtain ⟨z, rfl⟩ := Int.eq_ofNat_of_zero_le hb.1
  exact ⟨⟨z, x1, x2, ar⟩, ao, cap, rfl, ⟨by show z < 256; omega, wf_i64 b1, wf_i64 b2, ha⟩, hno, hle, hmx⟩
set_option maxRecDepth 100000 in
theorem open_ins {H : Type} {enc : TypeId × Value → H} {W : World} {base : Nat} {v : Value} {d : DataW H} {ps : List MemPlace} {r : Reach} (hv : Value.okWide Tryd.prog W r base 24 v) (h : DataW.Trod enc Tryd.prog W 0 (fun _ => true) true 24 v d ps) :
    ∃ x ao cap, v = insV x (.slice ao x.arms.length cap) ∧ InAt W x ao cap := by
  obtain ⟨cs, rfl, -⟩ := okWide_struct Tryd.underlying24 hv
  obtain ⟨fuel, h⟩ := h
  obtain ⟨x, ao, cap, e, hs⟩ := trod_ins h
  refine ⟨x, ao, cap, ?_, hs⟩
  have e2 : cs.toList = [.int .u8 (x.op : Int), .int .i64 x.a, .int .i64 x.b, .slice ao x.arms.length cap] := by simpa [Value.cells] using e
  unfold insV
  rw [← Array.toArray_toList (xs := cs), e2]
end Go.Proofs.YtjfdlphkmpkjdaaDoor
