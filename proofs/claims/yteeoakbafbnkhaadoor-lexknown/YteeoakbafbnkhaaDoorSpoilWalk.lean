/-
  CONTRACT of the kit's SpoilTokens.
-/
import Derived.Test.YteeoakbafbnkhaaDoorSpoil
namespace Go.Proofs.YteeoakbafbnkhaaDoor
open Go.RowKit
set_option linter.unusedVariables false

set_option maxRecDepth 100000 in
set_option maxHeartbeats 1000000 in
theorem spoil_some (w : World) (B g n cap : Nat) (xs : List Value) (own : w.ownsRow B 39 5 (.slice (some ⟨g, 0, none⟩) n cap) n xs) (hB : B ≤ w.heap.size) (hn : n ≤ 32768) :
    Calls Tryd.prog 18 #[.slice (some ⟨g, 0, none⟩) n cap] w fun e w' => e = .returned (.tuple #[]) ∧ w.grownBy w' (some g) := by
  have OW0 : Hid (w.ownsRow B 39 5 (.slice (some ⟨g, 0, none⟩) n cap) n xs) := own
  have HB : Hid (B ≤ w.heap.size) := hB
  clear own hB
  go_enter Tryd.func18, Tryd.ntmps18
  go_wp2
  go_loopw [2] (fun i wr => SpoilRel w B g n cap i wr) (fun i _ => n - (intOf i).toNat)
  case atStart => exact ⟨0, xs, by omega, rfl, OW0.out, grown_refl _ _⟩
  case round =>
    obtain ⟨k, ys, hk, rfl, own1, gr1⟩ := hrel
    have OW : Hid (wr.ownsRow B 39 5 (.slice (some ⟨g, 0, none⟩) n cap) n ys) := own1
    have GR : Hid (w.grownBy wr (some g)) := gr1
    clear gr1
    by_cases hlt : k < n
    · have hcell : ∀ j, j < 5 → ∃ v, wr.cell? ⟨g, k * 5 + j, none⟩ = some v := by
        intro j hj
        rw [own1.cellAt (k * 5 + j) (by omega)]
        have hl := own1.1
        exact ⟨_, List.getElem?_eq_getElem (by omega)⟩
      have f0 : ∀ j, wr.frozen? ⟨g, j, none⟩ = false := fun j => own1.frozenAt j
      obtain ⟨v0, c0⟩ := hcell 0 (by omega)
      obtain ⟨v1, c1⟩ := hcell 1 (by omega)
      obtain ⟨v2, c2⟩ := hcell 2 (by omega)
      obtain ⟨v3, c3⟩ := hcell 3 (by omega)
      obtain ⟨v4, c4⟩ := hcell 4 (by omega)
      rw [Nat.add_zero] at c0
      clear hcell own1
      go_wp2
      go_roundw
      case rel =>
        obtain ⟨zs, o2, g2⟩ := stored5 OW.out (k * 5) (k * 5 + 1) (k * 5 + 2) (k * 5 + 3) (k * 5 + 4) (.int .u8 77) (.string ⟨#[]⟩) (.int .u64 0) (.int .i64 0) (.int .i64 0)
        exact ⟨k + 1, zs, by omega, by go_num, o2, grown_trans GR.out g2 fun _ _ q => q⟩
      case measure => simp [intOf]; omega
    · have hkn : k = n := by omega
      subst hkn
      clear own1 hlt hk
      go_wp2_with fail
      go_loopw [3, 4] (fun v i wr => SpareRel w B k (some g) v i wr) (fun _ i _ => 8 - (intOf i).toNat)
      case atStart => exact ⟨0, ys, by omega, rfl, OW.out, GR.out, fun q _ h => h⟩
      case round =>
        obtain ⟨j, zs, hj, rfl, own2, gr2, hq⟩ := hrel
        have OW2 : Hid (wr.ownsRow B 39 5 u3 (k + j) zs) := own2
        have GR2 : Hid (w.grownBy wr (some g)) := gr2
        have HQ : Hid (∀ q, q < w.heap.size → u3.ownBlock = some q → some g = some q) := hq
        have HB2 : Hid (B ≤ wr.heap.size) := Nat.le_trans HB.out gr2.size
        clear own2 gr2 hq
        by_cases hlt : j < 8
        · go_wp2_with (at_builtin; refine wpList_appW rfl (.tmp 20) (.tmp 22) rfl B u3 (k + j) zs rfl (OW2.out.alloc _) wr.heap.size rfl _ _ (heap_alloc_new wr _) rfl (by intro u hu; simp at hu; rcases hu with rfl | rfl | rfl | rfl | rfl <;> rfl) (by omega) (Nat.le_trans HB2.out (by show _ ≤ (wr.heap.push _).size; rw [Array.size_push]; omega)) ?_; intro v1 w1 ys1 own1 gr1 hwh)
          go_roundw
          case rel =>
            refine ⟨j + 1, ys1, by omega, by go_num, own1, ?_, ?_⟩
            · refine grown_trans (grown_trans GR2.out (World.grownBy_alloc wr _ none) (fun _ _ q => by cases q)) gr1 ?_
              intro q hq hqq
              exact (HQ.out q hq hqq.symm).symm
            · intro q hq hqq
              rcases hwh with hwh | hwh
              · exact HQ.out q hq (by rw [← hwh]; exact hqq)
              · exfalso
                rw [hwh] at hqq
                have h1 := GR2.out.size
                have h2 : (wr.alloc (.cells #[.int .u8 78, .string ⟨#[]⟩, .int .u64 0, .int .i64 0, .int .i64 0] 39)).heap.size = wr.heap.size + 1 := Array.size_push _
                rw [h2] at hqq
                cases hqq
                omega
          case measure => simp [intOf]; omega
        · have hj8 : j = 8 := by omega
          subst hj8
          go_wp2
          go_end0
          exact ⟨rfl, GR2.out⟩

set_option maxRecDepth 100000 in
set_option maxHeartbeats 1000000 in
theorem spoil_none (w : World) :
    Calls Tryd.prog 18 #[.slice none 0 0] w fun e w' => e = .returned (.tuple #[]) ∧ w.grownBy w' none := by
  go_enter Tryd.func18, Tryd.ntmps18
  go_wp2
  go_rounds 1
  go_loopw [3, 4] (fun v i wr => SpareRel w w.heap.size 0 none v i wr) (fun _ i _ => 8 - (intOf i).toNat)
  case atStart => exact ⟨0, [], by omega, rfl, World.ownsRow_nil _ _ _ _, grown_refl _ _, fun q _ h => by cases h⟩
  case round =>
    obtain ⟨j, zs, hj, rfl, own2, gr2, hq⟩ := hrel
    have OW2 : Hid (wr.ownsRow w.heap.size 39 5 u3 (0 + j) zs) := own2
    have GR2 : Hid (w.grownBy wr none) := gr2
    have HQ : Hid (∀ q, q < w.heap.size → u3.ownBlock = some q → none = some q) := hq
    have HB2 : Hid (w.heap.size ≤ wr.heap.size) := gr2.size
    clear own2 gr2 hq
    by_cases hlt : j < 8
    · go_wp2_with (at_builtin; refine wpList_appW rfl (.tmp 20) (.tmp 22) rfl w.heap.size u3 (0 + j) zs rfl (OW2.out.alloc _) wr.heap.size rfl _ _ (heap_alloc_new wr _) rfl (by intro u hu; simp at hu; rcases hu with rfl | rfl | rfl | rfl | rfl <;> rfl) (by omega) (Nat.le_trans HB2.out (by show _ ≤ (wr.heap.push _).size; rw [Array.size_push]; omega)) ?_; intro v1 w1 ys1 own1 gr1 hwh)
      go_roundw
      case rel =>
        refine ⟨j + 1, ys1, by omega, by go_num, own1, ?_, ?_⟩
        · refine grown_trans (grown_trans GR2.out (World.grownBy_alloc wr _ none) (fun _ _ q => q)) gr1 ?_
          intro q hq hqq
          exact (HQ.out q hq hqq.symm).symm
        · intro q hq hqq
          rcases hwh with hwh | hwh
          · exact HQ.out q hq (by rw [← hwh]; exact hqq)
          · exfalso
            rw [hwh] at hqq
            have h1 := GR2.out.size
            have h2 : (wr.alloc (.cells #[.int .u8 78, .string ⟨#[]⟩, .int .u64 0, .int .i64 0, .int .i64 0] 39)).heap.size = wr.heap.size + 1 := Array.size_push _
            rw [h2] at hqq
            cases hqq
            omega
      case measure => simp [intOf]; omega
    · have hj8 : j = 8 := by omega
      subst hj8
      go_wp2
      go_end0
      exact ⟨rfl, GR2.out⟩
theorem spoil_as (w : World) (B n : Nat) (v : Value) (xs : List Value) (own : w.ownsRow B 39 5 v n xs) (hB : B ≤ w.heap.size) (hn : n ≤ 32768) :
    Calls Tryd.prog 18 #[v] w fun e w' => e = .returned (.tuple #[]) ∧ w.grownBy w' v.ownBlock := by
  have own' := own
  rcases own.2 with ⟨rfl, rfl⟩ | ⟨g, cap, cur, rfl, _⟩
  · exact spoil_none w
  · exact spoil_some w B g n cap xs own' hB hn
end Go.Proofs.YteeoakbafbnkhaaDoor
