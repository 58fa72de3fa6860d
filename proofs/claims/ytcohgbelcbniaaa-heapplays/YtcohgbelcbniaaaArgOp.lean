/-
  A CALL THAT CAME IN, and a row of them, as the calls that lie there.
-/
import Derived.Test.YtcohgbelcbniaaaArg
import Derived.Test.YtcohgbelcbniaaaOps
import Derived.SizedLaws
namespace Go.Proofs.Ytcohgbelcbniaaa
open Go.ChangeShapes Go.WideShapes Go.ChangeAt Go.RowKit Go.Deep
set_option linter.unusedVariables false

theorem cells26 : Try.prog.cellsOf 26 = 8 := by kernel_rfl
theorem cells3 : Try.prog.cellsOf 3 = 1 := by kernel_rfl
theorem cells9 : Try.prog.cellsOf 9 = 1 := by kernel_rfl
theorem cells23 : Try.prog.cellsOf 23 = 1 := by kernel_rfl
theorem cells2 : Try.prog.cellsOf 2 = 1 := by kernel_rfl
theorem bytes24 : Try.prog.bytesOf 24 = 8 := by kernel_rfl
theorem weights_mem_all {H : Type} {P : Program} {e : TypeId} : ∀ {ds : List (DataW H)} {d : DataW H}, d ∈ ds → ∀ n ∈ d.weights P e, n ∈ DataW.weightsAll P e ds
  | x :: r, d, hd, n, hn => by
    rw [DataW.weightsAll, List.mem_append]
    rcases List.mem_cons.1 hd with rfl | hd
    · exact .inl hn
    · exact .inr (weights_mem_all hd n hn)
  | [], _, hd, _, _ => by cases hd
theorem words_len {H : Type} {enc : TypeId × Value → H} {W : World} {ao : Option Addr} {len cap fuel : Nat} {y : DataW H × List MemPlace} (h : DataW.trod enc Try.prog W 0 (fun _ => true) true fuel 23 [.slice ao len cap] = some y) (hw : ∀ k ∈ y.1.weights Try.prog 23, k ≤ reachBytes) : len ≤ 140737488355328 := by
  rcases open_slice Try.underlying23 h with ⟨e, _⟩ | ⟨a, len', cap', m, n, D, Pl, e, hb, hl, hm, hmm, rfl, hx⟩
  · simp at e; omega
  · simp at e
    obtain ⟨_, rfl, rfl⟩ := e
    have := hw ((((List.range len).map D).length + ((List.range (m - len)).map fun j => D (len + j)).length) * Try.prog.bytesOf 24) (by simp [DataW.weights, Try.underlying23])
    rw [bytes24] at this
    simp only [List.length_map, List.length_range] at this
    unfold reachBytes at this
    omega
theorem list8 {α : Type} (l : List α) (h : l.length = 8) : ∃ a0 a1 a2 a3 a4 a5 a6 a7, l = [a0, a1, a2, a3, a4, a5, a6, a7] := by
  match l, h with
  | [a0, a1, a2, a3, a4, a5, a6, a7], _ => exact ⟨a0, a1, a2, a3, a4, a5, a6, a7, rfl⟩
set_option maxRecDepth 100000 in
theorem trod_op {H : Type} {enc : TypeId × Value → H} {W : World} {cs : List Value} {fuel : Nat} {y : DataW H × List MemPlace} (h : DataW.trod enc Try.prog W 0 (fun _ => true) true fuel 26 cs = some y) (hw : ∀ k ∈ y.1.weights Try.prog 26, k ≤ reachBytes) :
    ∃ s : Op, cs = opV s ∧ OpOk W s := by
  obtain ⟨xs, k, hk, rfl, hcl, hxl, hf⟩ := DataW.trod_struct Try.underlying26 h
  rw [cells26] at hcl
  have hwe : ∀ (j : Nat) (t : TypeId) (d : DataW H), ([3, 9, 3, 3, 23, 24, 2, 24] : List TypeId)[j]? = some t → (xs.map (·.1))[j]? = some d → ∀ n ∈ d.weights Try.prog t, n ≤ reachBytes := by
    intro j t d ht hd n hn
    refine hw n ?_
    simp only [DataW.weights, Try.underlying26]
    exact DataW.weights_mem_each (j := j) (t := t) (d := d) ht hd n hn
  obtain ⟨y0, y1, y2, y3, y4, y5, y6, y7, rfl⟩ := list8 xs hxl
  obtain ⟨u0, u1, u2, u3, u4, u5, u6, u7, rfl⟩ := list8 cs hcl
  have g0 := hf 0 _ rfl
  have g1 := hf 1 _ rfl
  have g2 := hf 2 _ rfl
  have g3 := hf 3 _ rfl
  have g4 := hf 4 _ rfl
  have g5 := hf 5 _ rfl
  have g6 := hf 6 _ rfl
  have g7 := hf 7 _ rfl
  simp [cells3, cells9, cells23, cells24, cells2] at g0 g1 g2 g3 g4 g5 g6 g7
  obtain ⟨x0, q0, _, b0⟩ := DataW.trod_int Try.underlying3 g0
  obtain ⟨x1, q1, e1, _⟩ := DataW.trod_string Try.underlying9 g1
  obtain ⟨x2, q2, _, b2⟩ := DataW.trod_int Try.underlying3 g2
  obtain ⟨x3, q3, _, b3⟩ := DataW.trod_int Try.underlying3 g3
  obtain ⟨ao, ws, cap, q4, hws⟩ := trod_words g4
  obtain ⟨x5, q5, _, b5⟩ := DataW.trod_int Try.underlying24 g5
  obtain ⟨x6, q6, _, b6⟩ := DataW.trod_int Try.underlying2 g6
  obtain ⟨x7, q7, _, b7⟩ := DataW.trod_int Try.underlying24 g7
  simp at q0 q1 q2 q3 q5 q6 q7
  subst q0 q1 q2 q3 q4 q5 q6 q7
  have l1 : x1.size ≤ 140737488355328 := by
    have := hwe 1 9 y1.1 rfl rfl x1.data.toList.length (by rw [e1]; simp [DataW.weights])
    unfold reachBytes at this
    rw [Array.length_toList] at this
    exact Nat.le_trans this (by decide)
  have l4 : ws.length ≤ 140737488355328 := words_len g4 fun n hn => hwe 4 23 y4.1 rfl rfl n hn
  exact ⟨⟨x0, x1, x2, x3, ws, x5, x6, x7, ao, cap⟩, rfl, ⟨l1, l4, wf_i64 b0, wf_i64 b2, wf_i64 b3, wf_u64 b5, wf_i64 b6, wf_u64 b7, hws⟩⟩
set_option maxRecDepth 100000 in
theorem open_ops {H : Type} {enc : TypeId × Value → H} {W : World} {base : Nat} {v : Value} {d : DataW H} {ps : List MemPlace} {r : Reach} (hv : Value.okWide Try.prog W r base 22 v) (h : DataW.Trod enc Try.prog W 0 (fun _ => true) true 22 v d ps) (hw : ∀ k ∈ d.weights Try.prog 22, k ≤ reachBytes) :
    ∃ ao ss cap, v = .slice ao ss.length cap ∧ OpsAt W ao cap ss := by
  obtain ⟨a0, len, cap, rfl⟩ := okWide_slice Try.underlying22 hv
  obtain ⟨fuel, h⟩ := h
  rcases open_slice Try.underlying22 h with ⟨e, _⟩ | ⟨a, len', cap', m, n, D, Pl, e, hb, hl, hm, hmm, ex, hx⟩
  · simp [Value.cells] at e
    obtain ⟨rfl, rfl, rfl⟩ := e
    exact ⟨none, [], 0, rfl, ⟨by simp, .inl rfl, Nat.le_refl _, by unfold maxLen; omega⟩⟩
  · simp [Value.cells] at e
    obtain ⟨rfl, rfl, rfl⟩ := e
    simp only [if_true] at hmm
    subst hmm
    have ed : d = .slice ((List.range len).map D) ((List.range (m - len)).map fun j => D (len + j)) := congrArg Prod.fst ex
    have each : ∀ i, i < len → ∃ s : Op, (∀ j, j < 8 → W.cell? (a.add (i * 8 + j)) = (opV s)[j]?) ∧ OpOk W s := by
      intro i hi
      obtain ⟨cs, h1, h2⟩ := hx i (by omega)
      rw [cells26] at h1
      obtain ⟨_, hlen, hcell⟩ := World.cells?_some h1
      have hwi : ∀ k ∈ (D i).weights Try.prog 26, k ≤ reachBytes := by
        intro k hk
        refine hw k ?_
        rw [ed]
        simp only [DataW.weights, Try.underlying22]
        rw [List.mem_cons, List.mem_append]
        exact .inr (.inl (weights_mem_all (List.mem_map.2 ⟨i, List.mem_range.2 hi, rfl⟩) k hk))
      obtain ⟨s, rfl, hs⟩ := trod_op h2 hwi
      refine ⟨s, fun j hj => ?_, hs⟩
      have e0 := hcell j (by omega)
      rw [add_add] at e0
      rw [e0]
    obtain ⟨f, hf⟩ := @choose_lt Op ⟨dO⟩ _ _ each
    have hlen : ((List.range len).map f).length = len := by simp
    refine ⟨some a, (List.range len).map f, m, by rw [hlen], ⟨?_, ?_, by rw [hlen]; exact hl, hm⟩⟩
    · intro s hs
      obtain ⟨i, hi, rfl⟩ := List.mem_map.1 hs
      exact (hf i (List.mem_range.1 hi)).2
    · by_cases h0 : len = 0
      · left; rw [h0]; rfl
      · right
        obtain ⟨b, o, spot⟩ := a
        have c0 := (hf 0 (by omega)).1 0 (by omega)
        have c1 : W.cell? ((⟨b, o, spot⟩ : Addr).add (0 * 8 + 0)) = some (.int .i64 (f 0).kind) := c0
        have hs : spot = none := by simpa [Addr.add] using World.cell?_spot c1
        subst hs
        refine ⟨b, o, rfl, by simpa [Addr.add] using World.block_lt_of_cell? W _ c1, fun i hi j hj => ?_⟩
        rw [hlen] at hi
        have hd : ((List.range len).map f).getD i dO = f i := by simp [List.getD, hi]
        rw [hd]
        have hadd : (⟨b, o, none⟩ : Addr).add (i * 8 + j) = ⟨b, o + i * 8 + j, none⟩ := by unfold Addr.add; split <;> simp_all [Nat.add_assoc]
        rw [← hadd]
        exact (hf i hi).1 j hj
set_option maxRecDepth 100000 in
theorem open_op {H : Type} {enc : TypeId × Value → H} {W : World} {base : Nat} {v : Value} {d : DataW H} {ps : List MemPlace} {r : Reach} (hv : Value.okWide Try.prog W r base 26 v) (h : DataW.Trod enc Try.prog W 0 (fun _ => true) true 26 v d ps) (hw : ∀ k ∈ d.weights Try.prog 26, k ≤ reachBytes) :
    ∃ s : Op, v = .agg (opV s).toArray ∧ OpOk W s := by
  obtain ⟨cs, rfl, -⟩ := okWide_struct Try.underlying26 hv
  obtain ⟨fuel, h⟩ := h
  obtain ⟨s, e, hs⟩ := trod_op h hw
  refine ⟨s, ?_, hs⟩
  have e2 : cs.toList = opV s := by simpa [Value.cells] using e
  rw [← e2]
end Go.Proofs.Ytcohgbelcbniaaa
