/-
  CONTRACTS of the law's 'tells', 'plays'.
-/
import Derived.Test.YtnnajgbkpilaaaaSpoil
import Derived.Test.YtnnajgbkpilaaaaCopy
import Derived.Test.YtnnajgbkpilaaaaRun
namespace Go.Proofs.Ytnnajgbkpilaaaa
open Go.RowKit
set_option linter.unusedVariables false
set_option linter.unusedSimpArgs false
theorem ScAt.bd {w : World} {p : Nat} {m : M} {F : Nat → Prop} (h : ScAt w p m F) : ∀ b, F b → b < w.heap.size := by obtain ⟨v0, v1, v2, v3, vm, _, _, h3⟩ := h; exact h3
/-- The document's types. -/
theorem RfAt.types {w : World} {q : Nat} {m : M} {G : Nat → Prop} (h : RfAt w q m G) : ∃ ao cap, w.cell? ⟨q, 2, none⟩ = some (.slice ao m.types.length cap) ∧ Rw w 3 1 (.slice ao m.types.length cap) m.types.length m.rowI := by
  obtain ⟨v1, v2, v3, H, _, _⟩ := h
  obtain ⟨ao, cap, e, _⟩ := H.r2.shape
  have c := H.own.cell 2
  rw [e] at c
  exact ⟨ao, cap, c, by rw [← e]; exact H.r2⟩
/-- Slots and the document's types, held against one another. -/
theorem same_of (w : World) (ao bo : Option Addr) (m : M) (c d : Nat) (h1 : Rw w 3 1 (.slice ao m.types.length c) m.types.length m.rowI) (h2 : Rw w 3 1 (.slice bo m.types.length d) m.types.length m.rowI) (hn : m.types.length ≤ 256) :
    Calls Try.prog 25 #[.slice ao m.types.length c, .slice bo m.types.length d] w fun e w' => e = .returned (.bool true) ∧ Below w.heap.size w w' := by
  have h := sameI w ao bo m.types m.types c d (ints_of h1).1 (ints_of h2).1 (by omega) (by omega)
  refine h.mono ?_
  rintro e w' ⟨rfl, hb⟩
  exact ⟨by simp, hb⟩
set_option maxRecDepth 100000 in
set_option maxHeartbeats 2000000 in
theorem tellsP {w : World} {p q : Nat} {m : M} {F G : Nat → Prop} (hS : ScAt w p m F) (hR : RfAt w q m G) : Calls Try.prog 14 #[.pointer (some ⟨p, 0, none⟩), .pointer (some ⟨q, 0, none⟩)] w fun e w' => e = .returned (.bool true) ∧ Below w.heap.size w w' := by
  have hfew := hS.inv.few
  have hsl := slotsS hS
  have HS : Hid (ScAt w p m F) := hS
  have HR : Hid (RfAt w q m G) := hR
  clear hS hR
  obtain ⟨n, hn⟩ : ∃ n, Hid (m.types.length = n) := ⟨_, rfl⟩
  rw [hn.out] at hsl hfew
  go_enter Try.func14, Try.ntmps14
  go_upto_region 5 with (first
    | (go_at_call 23; refine hsl.mono ?_; rintro e w1 ⟨v, rfl, k1, j1, b1⟩; obtain ⟨ao, cap, rfl, hcp, hc63⟩ := k1.shape; obtain ⟨bo, dp, x2, r2⟩ := (HR.out.below b1).types; rw [hn.out] at x2 r2; have hsm := same_of w1 ao bo m cap dp (by rw [hn.out]; exact k1) (by rw [hn.out]; exact r2) (by rw [hn.out]; exact hfew); rw [hn.out] at hsm)
    | (go_at_call 25; refine hsm.mono ?_; rintro e w2 ⟨rfl, b2⟩; have k2 := k1.fr (F := fun _ => False) (Fr.of b2) fun _ _ q => q; have hsp := spoilI w2 ao n cap _ k2 (by omega))
    | (go_at_call 39; refine hsp.mono ?_; rintro e w3 ⟨rfl, f3⟩))
  have b3 : Below w.heap.size w w3 := Fr.below ((Fr.of (F := fun _ => False) (b1.trans (b2.mono b1.size))).then f3 fun i hi q => absurd (j1 i q) (by omega))
  have hS3 := (HS.out.below b3).below ((Below.refl _ _).drew)
  obtain ⟨bo3, dp3, y3, r3⟩ := (HR.out.below b3).types
  have hsl3 := slotsS hS3
  rw [hn.out] at y3 r3 hsl3
  have r3d := r3.drew
  have hs3 := b3.size
  have y3d : w3.drew.cell? ⟨q, 2, none⟩ = some (.slice bo3 n dp3) := y3
  have hq3 : q < w3.heap.size := Nat.lt_of_lt_of_le (by obtain ⟨v1, v2, v3, H, _, _⟩ := HR.out; exact H.own.lt) hs3
  clear hsl hsm hsp k1 k2 f3 r2 x2 hS3 j1
  go_region_held3 (fun w' => w'.cell? ⟨q, 2, none⟩ = some (.slice bo3 n dp3)) (go_keep) (first
    | (go_at_call 23; refine hsl3.mono ?_; rintro e w4 ⟨v4, rfl, k4, j4, b4⟩; obtain ⟨ao4, cap4, rfl, hcp4, hc4⟩ := k4.shape; have y4 := (b4.cell (p := ⟨q, 2, none⟩) hq3).trans y3d; have r4 := r3d.fr (F := fun _ => False) (Fr.of b4) fun _ _ q => q; have hs4 := b4.size; have hsm := same_of w4 ao4 bo3 m cap4 dp3 (by rw [hn.out]; exact k4) (by rw [hn.out]; exact r4) (by rw [hn.out]; exact hfew); rw [hn.out] at hsm)
    | (go_at_call 25; refine hsm.mono ?_; rintro e w5 ⟨rfl, b5⟩; have y5 := (b5.cell (p := ⟨q, 2, none⟩) (Nat.lt_of_lt_of_le hq3 hs4)).trans y4))
  all_goals
    go_wp2_with fail
    go_ret
    exact ⟨rfl, (b3.trans (((Below.refl _ _).drew.trans b4).mono hs3)).trans (b5.mono (Nat.le_trans hs3 hs4))⟩
end Go.Proofs.Ytnnajgbkpilaaaa
