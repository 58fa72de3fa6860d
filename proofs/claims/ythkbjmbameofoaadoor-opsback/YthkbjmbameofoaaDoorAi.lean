/-
  A ROW OF INSTRUCTIONS THAT CAME IN.
-/
import Derived.Test.YthkbjmbameofoaaDoorAg
import Derived.Test.YthkbjmbameofoaaDoorSi
namespace Go.Proofs.YthkbjmbameofoaaDoor
open Go.ChangeShapes Go.WideShapes Go.ChangeAt Go.RowKit Go.Deep
set_option linter.unusedVariables false

structure InssAt (w : World) (ao : Option Addr) (cap : Nat) (ps : List Pi) : Prop where
  lies : InsLies w ao ps
  each : ∀ y ∈ ps, InAt w y.1 y.2.1 y.2.2
  le : ps.length ≤ cap
  max : cap ≤ maxLen
set_option maxRecDepth 100000 in
theorem open_inss {H : Type} {enc : TypeId × Value → H} {W : World} {base : Nat} {v : Value} {d : DataW H} {ps : List MemPlace} {r : Reach} (hv : Value.okWide Tryd.prog W r base 38 v) (h : DataW.Trod enc Tryd.prog W 0 (fun _ => true) true 38 v d ps) :
    ∃ ao ss cap, v = .slice ao ss.length cap ∧ InssAt W ao cap ss := by
  obtain ⟨a0, len, cap, rfl⟩ := okWide_slice Tryd.underlying38 hv
  obtain ⟨fuel, h⟩ := h
  rcases open_slice Tryd.underlying38 h with ⟨e, _⟩ | ⟨a, len', cap', m, n, D, Pl, e, hb, hl, hm, hmm, ex, hx⟩
  · simp [Value.cells] at e
    obtain ⟨rfl, rfl, rfl⟩ := e
    exact ⟨none, [], 0, rfl, ⟨by simp, .inl rfl⟩, by simp, Nat.le_refl _, by unfold maxLen; omega⟩
  · simp [Value.cells] at e
    obtain ⟨rfl, rfl, rfl⟩ := e
    simp only [if_true] at hmm
    subst hmm
    have each : ∀ i, i < len → ∃ y : Pi, (W.cell? (a.add (i * 4)) = some (.int .u8 (y.1.op : Int)) ∧ W.cell? (a.add (i * 4 + 1)) = some (.int .i64 y.1.a) ∧ W.cell? (a.add (i * 4 + 2)) = some (.int .i64 y.1.b) ∧ W.cell? (a.add (i * 4 + 3)) = some (.slice y.2.1 y.1.arms.length y.2.2)) ∧ InAt W y.1 y.2.1 y.2.2 := by
      intro i hi
      obtain ⟨cs, h1, h2⟩ := hx i (by omega)
      rw [cellsIns] at h1
      obtain ⟨_, hlen, hcell⟩ := World.cells?_some h1
      obtain ⟨x, ao, cap, rfl, hs⟩ := trod_ins h2
      have e0 := hcell 0 (by omega)
      have e1 := hcell 1 (by omega)
      have e2 := hcell 2 (by omega)
      have e3 := hcell 3 (by omega)
      rw [add_add] at e0 e1 e2 e3
      exact ⟨(x, ao, cap), ⟨by simpa using e0, by simpa using e1, by simpa using e2, by simpa using e3⟩, hs⟩
    obtain ⟨f, hf⟩ := @choose_lt Pi ⟨zP⟩ _ _ each
    have hlen : ((List.range len).map f).length = len := by simp
    have hin : ∀ y ∈ (List.range len).map f, InAt W y.1 y.2.1 y.2.2 := by
      intro s hs
      obtain ⟨i, hi, rfl⟩ := List.mem_map.1 hs
      exact (hf i (List.mem_range.1 hi)).2
    refine ⟨some a, (List.range len).map f, m, by rw [hlen], ⟨fun y hy => (hin y hy).lies, ?_⟩, hin, by rw [hlen]; exact hl, hm⟩
    by_cases h0 : len = 0
    · left; rw [h0]; rfl
    · right
      obtain ⟨b, o, spot⟩ := a
      have c0 := (hf 0 (by omega)).1.1
      have hs : spot = none := by simpa [Addr.add] using World.cell?_spot c0
      subst hs
      refine ⟨b, o, rfl, by simpa [Addr.add] using World.block_lt_of_cell? W _ c0, fun i hi => ?_⟩
      rw [hlen] at hi
      have hd : ((List.range len).map f).getD i zP = f i := by simp [List.getD, hi]
      obtain ⟨⟨k0, k1, k2, k3⟩, -⟩ := hf i hi
      rw [hd]
      rw [add_lit] at k0 k1 k2 k3
      exact ⟨k0, by rw [Nat.add_assoc]; exact k1, by rw [Nat.add_assoc]; exact k2, by rw [Nat.add_assoc]; exact k3⟩
end Go.Proofs.YthkbjmbameofoaaDoor
