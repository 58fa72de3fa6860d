/-
  ARGUMENTS THAT CAME IN: bytes. Pick.
-/
import Derived.Test.YtmmbdpdpkkikjaaGreatChecked
import Derived.Test.YtmmbdpdpkkikjaaGreatMp
import Derived.Deep.Slices
import Derived.ProofKit
import Derived.OpenShut
import Derived.Carry
namespace Go.Proofs.YtmmbdpdpkkikjaaGreat
open Go.ChangeShapes Go.WideShapes Go.ChangeAt Go.RowKit Go.Deep
set_option linter.unusedVariables false

theorem cellsU8 : Tryz.prog.cellsOf 5 = 1 := by kernel_rfl
theorem wf_u8 {x : Int} (h : (Lit.int .u8 x).wf = true) : 0 ≤ x ∧ x < 256 := by
  have h2 := h
  simp [Lit.wf] at h2
  have e1 : IntKind.u8.min = 0 := by rfl
  have e2 : IntKind.u8.max = 255 := by rfl
  rw [e1, e2] at h2
  exact ⟨by omega, by omega⟩
theorem wf_i64 {x : Int} (h : (Lit.int .i64 x).wf = true) : -9223372036854775808 ≤ x ∧ x ≤ 9223372036854775807 := by
  have h2 := h
  simp [Lit.wf] at h2
  have e1 : IntKind.i64.min = -9223372036854775808 := by rfl
  have e2 : IntKind.i64.max = 9223372036854775807 := by rfl
  rw [e1] at h2
  exact ⟨by omega, by omega⟩
theorem add_lit (b o i : Nat) : (⟨b, o, none⟩ : Addr).add i = ⟨b, o + i, none⟩ := by unfold Addr.add; split <;> simp_all
/-- Bytes that came in. -/
structure BytesAt (w : World) (ao : Option Addr) (cap : Nat) (xs : List Nat) : Prop where
  lies : Lies w ao xs
  none : ao = none → cap = 0
  le : xs.length ≤ cap
  max : cap ≤ maxLen
set_option maxRecDepth 100000 in
theorem trod_bytes {H : Type} {enc : TypeId × Value → H} {W : World} {v : Value} {fuel : Nat} {y : DataW H × List MemPlace} (h : DataW.trod enc Tryz.prog W 0 (fun _ => true) true fuel 29 [v] = some y) :
    ∃ ao xs cap, v = .slice ao xs.length cap ∧ BytesAt W ao cap xs := by
  rcases open_slice Tryz.underlying29 h with ⟨e, _⟩ | ⟨a, len, cap, m, n, D, Pl, e, hb, hl, hm, hmm, _, hx⟩
  · simp at e
    subst e
    exact ⟨none, [], 0, rfl, ⟨by simp, by simp, .inl rfl⟩, fun _ => rfl, Nat.le_refl _, by unfold maxLen; omega⟩
  · simp at e
    subst e
    simp only [if_true] at hmm
    subst hmm
    have each : ∀ i, i < len → ∃ x : Nat, W.cell? (a.add i) = some (.int .u8 (x : Int)) ∧ x < 256 := by
      intro i hi
      obtain ⟨cs, h1, h2⟩ := hx i (by omega)
      rw [cellsU8, Nat.mul_one] at h1
      obtain ⟨_, hlen, hcell⟩ := World.cells?_some h1
      obtain ⟨x, rfl, _, hw⟩ := DataW.trod_int Tryz.underlying5 h2
      have hb2 := wf_u8 hw
      obtain ⟨z, rfl⟩ := Int.eq_ofNat_of_zero_le hb2.1
      have e0 := hcell 0 (by omega)
      rw [add_add] at e0
      exact ⟨z, by simpa using e0, by omega⟩
    obtain ⟨f, hf⟩ := @choose_lt Nat ⟨0⟩ _ _ each
    have hlen : ((List.range len).map f).length = len := by simp
    refine ⟨some a, (List.range len).map f, m, by rw [hlen], ⟨?_, by rw [hlen]; unfold maxLen at hm; omega, ?_⟩, (fun e => by cases e), by rw [hlen]; exact hl, hm⟩
    · intro s hs
      obtain ⟨i, hi, rfl⟩ := List.mem_map.1 hs
      exact (hf i (List.mem_range.1 hi)).2
    · by_cases h0 : len = 0
      · left; rw [h0]; rfl
      · right
        obtain ⟨b, o, spot⟩ := a
        have c0 := (hf 0 (by omega)).1
        have hs : spot = none := by simpa [Addr.add] using World.cell?_spot c0
        subst hs
        refine ⟨b, o, rfl, fun i hi => ?_⟩
        rw [hlen] at hi
        have hd : ((List.range len).map f).getD i 0 = f i := by simp [List.getD, hi]
        rw [hd, ← add_lit]
        exact (hf i hi).1
set_option maxRecDepth 100000 in
theorem open_bytes {H : Type} {enc : TypeId × Value → H} {W : World} {base : Nat} {v : Value} {d : DataW H} {ps : List MemPlace} {r : Reach} (hv : Value.okWide Tryz.prog W r base 29 v) (h : DataW.Trod enc Tryz.prog W 0 (fun _ => true) true 29 v d ps) :
    ∃ ao xs cap, v = .slice ao xs.length cap ∧ BytesAt W ao cap xs := by
  obtain ⟨a0, len, cap, rfl⟩ := okWide_slice Tryz.underlying29 hv
  obtain ⟨fuel, h⟩ := h
  exact trod_bytes h
/-- Pick. -/
def pk (i n : Int) : Int := if n < 1 then 0 else i % n
set_option maxRecDepth 100000 in
theorem pick_as (i n : Int) (h1 : -9223372036854775808 ≤ i) (h2 : i ≤ 9223372036854775807) (hn : n ≤ 9223372036854775807) (p : Int) (hp : pk i n = p) (w : World) : Calls Tryz.prog 15 #[.int .i64 i, .int .i64 n] w fun e w' => e = .returned (.int .i64 p) ∧ w = w' := by
  unfold pk at hp
  by_cases h0 : n < 1
  · rw [if_pos h0] at hp
    subst hp
    go_enter Tryz.func15, Tryz.ntmps15
    go_wp2
    go_ret
    exact ⟨rfl, rfl⟩
  · rw [if_neg h0] at hp
    have hz : (n == 0) = false := by simp; omega
    have hm : n ≠ -1 := by omega
    by_cases hneg : i.tmod n < 0
    · have hq : i.tmod n + n = p := by
        rw [← hp]
        rw [Int.tmod_eq_emod] at hneg ⊢
        split at hneg
        · have := Int.emod_nonneg i (show n ≠ 0 by omega); omega
        · rename_i hh; rw [if_neg hh]; omega
      have hb := Int.tmod_lt_of_pos i (show 0 < n by omega)
      have hb2 : -n < i.tmod n := by
        have := Int.emod_nonneg i (show n ≠ 0 by omega)
        rw [Int.tmod_eq_emod]; split <;> omega
      clear hp
      go_enter Tryz.func15, Tryz.ntmps15
      go_wp2
      go_ret
      refine ⟨ret_int ?_, rfl⟩
      first | rfl | exact hq | (unfold wrap64; omega)
    · have hq : i.tmod n = p := by
        rw [← hp]
        rw [Int.tmod_eq_emod] at hneg ⊢
        have := Int.emod_nonneg i (show n ≠ 0 by omega)
        have := Int.emod_lt_of_pos i (show 0 < n by omega)
        split
        · omega
        · rename_i hh; rw [if_neg hh] at hneg; omega
      clear hp
      subst hq
      go_enter Tryz.func15, Tryz.ntmps15
      go_wp2
      go_ret
      exact ⟨rfl, rfl⟩
end Go.Proofs.YtmmbdpdpkkikjaaGreat
