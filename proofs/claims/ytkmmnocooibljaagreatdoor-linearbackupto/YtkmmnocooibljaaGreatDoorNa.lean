/-
  Instructions and arms held against each other, of any two.
-/
import Derived.Test.YtkmmnocooibljaaGreatDoorLz
namespace Go.Proofs.YtkmmnocooibljaaGreatDoor
open Go.RowKit
set_option linter.unusedVariables false

set_option maxHeartbeats 4000000 in
set_option maxRecDepth 100000 in
theorem eqArms_as {w : World} {ar ar' : List (Int × Int)} {a a' : Option Addr} {n n' c c' : Nat} (hn : n = ar.length) (hn' : n' = ar'.length) (hx : ArmLies w a ar) (hy : ArmLies w a' ar') (hm : n ≤ 140737488355328) (b : Bool) (hb : b = true ↔ ar = ar') :
    Calls Tryz.prog 85 #[.slice a n c, .slice a' n' c'] w fun e w' => e = .returned (.bool b) ∧ Below w.heap.size w w' := by
  have HN : Hid (n = ar.length) := hn
  have HN' : Hid (n' = ar'.length) := hn'
  have H1 : Hid (ArmLies w a ar) := hx
  have H2 : Hid (ArmLies w a' ar') := hy
  have HB2 : Hid (b = true ↔ ar = ar') := hb
  clear hn hn' hx hy hb
  by_cases h4 : n = n'
  · subst h4
    go_enter Tryz.func85, Tryz.ntmps85
    go_wp2_with fail
    go_loopw [13] (fun i wr => ∃ k q : Nat, k ≤ n ∧ i = .int .i64 (k : Int) ∧ wr = w.drewN q ∧ ∀ j, j < k → ar.getD j (0, 0) = ar'.getD j (0, 0)) (fun i _ => n - (intOf i).toNat)
    case atStart => exact ⟨0, 0, Nat.zero_le _, rfl, rfl, fun j hj => by omega⟩
    case round =>
      obtain ⟨k, q, hk, rfl, rfl, hpre⟩ := hrel
      have HPR : Hid (∀ j, j < k → ar.getD j (0, 0) = ar'.getD j (0, 0)) := hpre
      clear hpre
      by_cases hlt : k < n
      · have hkx : k < ar.length := by rw [← HN.out]; exact hlt
        have hky : k < ar'.length := by rw [← HN'.out]; exact hlt
        rcases H1.out.lies with h0 | ⟨b1, off, rfl, hbl, hc⟩
        · rw [h0] at hkx; cases hkx
        rcases H2.out.lies with h0 | ⟨b2, off', rfl, hbl', hc'⟩
        · rw [h0] at hky; cases hky
        obtain ⟨d1, d2⟩ := hc k hkx
        obtain ⟨d3, d4⟩ := hc' k hky
        have HV : Hid (ar.getD k (0, 0) = ar'.getD k (0, 0) → ∀ j, j < k + 1 → ar.getD j (0, 0) = ar'.getD j (0, 0)) := fun he j hj => by
          by_cases q : j = k
          · subst q; exact he
          · exact HPR.out j (by omega)
        have HF : Hid (¬ ar.getD k (0, 0) = ar'.getD k (0, 0) → b = false) := fun he => iff_false HB2.out (fun q => he (by rw [q]))
        generalize ar.getD k (0, 0) = V at *
        generalize ar'.getD k (0, 0) = U at *
        obtain ⟨V1, V2⟩ := V
        obtain ⟨U1, U2⟩ := U
        simp only at d1 d2 d3 d4
        clear hc hc' HPR H1 H2 HB2
        have hlt2 : (k : Int) < (n : Int) := by omega
        have hk0 : (0 : Int) ≤ (k : Int) := by omega
        by_cases e1 : V1 = U1
        · by_cases e2 : V2 = U2
          · subst e1 e2
            have HV2 := HV.out rfl
            have HV3 : Hid (∀ j, j < k + 1 → ar.getD j (0, 0) = ar'.getD j (0, 0)) := HV2
            clear HV HV2 HF
            go_wp2_with fail
            go_quiet (fail)
            go_wp2
            go_roundw
            case rel => exact ⟨k + 1, _, hlt, by go_num, rfl, HV3.out⟩
            case measure => simp [intOf]; omega
          · obtain rfl : b = false := HF.out (fun q => e2 (by cases q; rfl))
            have hq : (V2 == U2) = false := by rw [beq_eq_false_iff_ne]; exact e2
            subst e1
            clear HV HF e2
            go_wp2_with fail
            go_quiet (fail)
            go_wp2
            go_ret
            exact ⟨rfl, below_drawn (below_drawn (Below.refl _ w) q) _⟩
        · obtain rfl : b = false := HF.out (fun q => e1 (by cases q; rfl))
          have hq : (V1 == U1) = false := by rw [beq_eq_false_iff_ne]; exact e1
          clear HV HF e1
          go_wp2_with fail
          go_quiet (fail)
          go_wp2
          go_ret
          exact ⟨rfl, below_drawn (below_drawn (Below.refl _ w) q) _⟩
      · obtain rfl : k = n := by omega
        obtain rfl : b = true := HB2.out.2 (list_eq (0, 0) (by rw [← HN.out, ← HN'.out]) (fun j hj => HPR.out j (by rw [HN.out]; exact hj)))
        go_wp2
        go_ret
        exact ⟨rfl, below_drawn (Below.refl _ w) q⟩
  · obtain rfl : b = false := iff_false HB2.out (fun q => h4 (by rw [HN.out, HN'.out, q]))
    have hq : ((n : Int) == (n' : Int)) = false := by rw [beq_eq_false_iff_ne]; omega
    have hq2 : ¬ (n : Int) = (n' : Int) := by omega
    clear HB2 H1 H2
    go_enter Tryz.func85, Tryz.ntmps85
    go_wp2
    go_ret
    exact ⟨rfl, Below.refl _ _⟩
end Go.Proofs.YtkmmnocooibljaaGreatDoor
