/-
  CONTRACTS of the landed Find, of a nil scope.
-/
import Derived.Test.YtnnajgbkpilaaaaFace2
import Derived.Deep.QuietTactic
import Derived.BigQuiet
namespace Go.Proofs.Ytnnajgbkpilaaaa
open Go.RowKit
set_option linter.unusedVariables false

def M.findV (m : M) (nm : ByteArray) : Value := match m.find nm with | some x => .tuple #[.int .i64 (x.slot : Int), .int .i64 x.typ, .bool true] | none => .tuple #[.int .i64 0, .int .i64 0, .bool false]
set_option maxRecDepth 100000 in
set_option maxHeartbeats 2000000 in
theorem findS {w : World} {p : Nat} {m : M} {F : Nat → Prop} (h : ScAt w p m F) (nm : ByteArray) : Calls Try.prog 19 #[.pointer (some ⟨p, 0, none⟩), .string nm] w fun e w' => e = .returned (m.findV nm) ∧ Below w.heap.size w w' := by
  obtain ⟨v0, v1, v2, v3, vm, H, hF, hl⟩ := h
  have hlow := H.inv.lows
  have hfew := H.inv.few
  have ho := H.own
  obtain ⟨ao2, cap2, e2, hc2, hc3⟩ := H.r2.shape
  have hls : LsIn w w.heap.size ao2 m.flat := by
    rcases H.r2.2 with ⟨e, h0⟩ | ⟨g, cap', cur, e, _, _⟩
    · exact .inl (List.eq_nil_of_length_eq_zero h0)
    · rw [e2] at e
      cases e
      have := lsIn_of (a := []) (b := m.flat) (show Rw w 71 2 (.slice (some ⟨g, 0, none⟩) m.flat.length cap2) m.flat.length (([] ++ m.flat).flatMap cL) from by rw [← e2]; exact H.r2)
      exact this
  have hla := last_as nm m.flat (by omega) ao2 cap2 w hls
  have c2 := ho.cell 2
  rw [e2] at c2
  simp only [List.getElem?_toArray, List.getElem?_cons_zero, List.getElem?_cons_succ] at c2
  unfold LastV at hla
  have hfind : Hid (m.find nm = lastN nm m.flat) := rfl
  cases hx : lastN nm m.flat with
  | none =>
    rw [hx] at hla hfind
    simp only at hla
    go_enter Try.func19, Try.ntmps19
    go_wp2_with (go_at_call 41; refine hla.mono ?_; rintro e w1 ⟨rfl, hB1⟩)
    go_ret3
    exact ⟨by unfold M.findV; rw [hfind.out]; rfl, hB1⟩
  | some x =>
    rw [hx] at hla hfind
    simp only at hla
    have hmem : x ∈ m.flat := by
      have := List.mem_of_find?_eq_some hx
      simpa using this
    have hsl := H.inv.slots x hmem
    obtain ⟨hlt, -⟩ := List.getElem?_eq_some_iff.1 hsl
    obtain ⟨g, cap3, cur, e3, hg, k1, k2, k3, k4⟩ := H.r3.block (by omega)
    have R3 := H.r3
    rw [e3] at R3
    have hcell : m.rowI[x.slot]? = some (.int .i64 x.typ) := by simp only [M.rowI, List.getElem?_map, hsl]; rfl
    obtain ⟨sl, hsl2⟩ : ∃ s, Hid (x.slot = s) := ⟨_, rfl⟩
    obtain ⟨n, hnn⟩ : ∃ s, Hid (m.types.length = s) := ⟨_, rfl⟩
    rw [hsl2.out] at hla hcell hlt
    rw [hnn.out] at hlt R3 e3 hfew
    unfold maxLen at k2
    clear k1 k3 k4 hsl hlow hx
    go_enter Try.func19, Try.ntmps19
    go_upto_region 6 with (go_at_call 41; refine hla.mono ?_; rintro e w1 ⟨rfl, hB1⟩)
    have o1 := (ho.below hB1).drew
    have R1 := (R3.fr (F := fun _ => False) (Fr.of hB1) fun _ _ q => q).drew
    have c3 := o1.cell 3
    rw [e3] at c3
    simp only [List.getElem?_toArray, List.getElem?_cons_zero, List.getElem?_cons_succ] at c3
    have c4 := R1.cells _ _ hcell
    go_region
    all_goals (
      go_wp2_with fail
      go_ret3
      exact ⟨by unfold M.findV; rw [hfind.out]; simp only [hsl2.out]; rfl, hB1.drew⟩)
end Go.Proofs.Ytnnajgbkpilaaaa
