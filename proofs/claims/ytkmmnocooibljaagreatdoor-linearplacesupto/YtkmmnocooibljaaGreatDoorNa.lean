/-
  Instructions and arms held against each other, of any two.
-/
import Derived.Test.YtkmmnocooibljaaGreatDoorLz
namespace Go.Proofs.YtkmmnocooibljaaGreatDoor
open Go.RowKit
set_option linter.unusedVariables false

set_option maxHeartbeats 4000000 in
set_option maxRecDepth 100000 in
theorem sameIns_as {w : World} {x y : In} {a a' : Option Addr} {n n' c c' : Nat} (hn : n = x.arms.length) (hn' : n' = y.arms.length) (hx : InLies w x a) (hy : InLies w y a') (hm : n ≤ 140737488355328) (b : Bool) (hb : b = true ↔ x = y) :
    Calls Tryz.prog 32 #[insV x (.slice a n c), insV y (.slice a' n' c')] w fun e w' => e = .returned (.bool b) ∧ Below w.heap.size w w' := by
  obtain ⟨op, XA, XB, ar⟩ := x
  obtain ⟨op', YA, YB, ar'⟩ := y
  simp only [In.mk.injEq] at hb
  have hx4 := hx.arms
  have hy4 := hy.arms
  simp only at hn hn' hx4 hy4
  unfold insV
  simp only
  have o1 := (Own.new w #[.int .u8 (op : Int), .int .i64 XA, .int .i64 XB, .slice a n c] 43).alloc (.cells #[.int .u8 (op' : Int), .int .i64 YA, .int .i64 YB, .slice a' n' c'] 43)
  have o2 := Own.new (w.alloc (.cells #[.int .u8 (op : Int), .int .i64 XA, .int .i64 XB, .slice a n c] 43)) #[.int .u8 (op' : Int), .int .i64 YA, .int .i64 YB, .slice a' n' c'] 43
  rw [World.size_alloc] at o2
  have hb0 : Below w.heap.size w ((w.alloc (.cells #[.int .u8 (op : Int), .int .i64 XA, .int .i64 XB, .slice a n c] 43)).alloc (.cells #[.int .u8 (op' : Int), .int .i64 YA, .int .i64 YB, .slice a' n' c'] 43)) := (new_below _ _).alloc (by simp) _
  have H1 : Hid (ArmLies ((w.alloc (.cells #[.int .u8 (op : Int), .int .i64 XA, .int .i64 XB, .slice a n c] 43)).alloc (.cells #[.int .u8 (op' : Int), .int .i64 YA, .int .i64 YB, .slice a' n' c'] 43)) a ar) := hx4.below hb0
  have H2 : Hid (ArmLies ((w.alloc (.cells #[.int .u8 (op : Int), .int .i64 XA, .int .i64 XB, .slice a n c] 43)).alloc (.cells #[.int .u8 (op' : Int), .int .i64 YA, .int .i64 YB, .slice a' n' c'] 43)) a' ar') := hy4.below hb0
  have HN : Hid (n = ar.length) := hn
  have HN' : Hid (n' = ar'.length) := hn'
  have HB : Hid (b = true ↔ op = op' ∧ XA = YA ∧ XB = YB ∧ ar = ar') := hb
  clear hx hy hx4 hy4 hn hn' hb
  have HOP : Hid (op = op' ↔ (op : Int) = (op' : Int)) := by unfold Hid; omega
  obtain ⟨N, hN⟩ : ∃ N : Int, (op : Int) = N := ⟨_, rfl⟩
  obtain ⟨N', hN'⟩ : ∃ N : Int, (op' : Int) = N := ⟨_, rfl⟩
  rw [hN] at o1 o2 hb0 H1 H2 HOP ⊢
  rw [hN'] at o1 o2 hb0 H1 H2 HOP ⊢
  clear hN hN'
  go_enter Tryz.func32, Tryz.ntmps32
  go_upto_region 1 with fail
  generalize (w.alloc (.cells #[.int .u8 N, .int .i64 XA, .int .i64 XB, .slice a n c] 43)).alloc (.cells #[.int .u8 N', .int .i64 YA, .int .i64 YB, .slice a' n' c'] 43) = w2 at *
  obtain ⟨x0, x1, x2, x3, xf⟩ := own4 o1
  obtain ⟨y0, y1, y2, y3, yf⟩ := own4 o2
  by_cases h1 : N = N'
  · subst h1
    by_cases h2 : XA = YA
    · subst h2
      by_cases h3 : XB = YB
      · subst h3
        by_cases h4 : n = n'
        · subst h4
          have HB2 : Hid (b = true ↔ ar = ar') := by
            have hop := HOP.out.2 rfl
            exact HB.out.trans ⟨fun q => q.2.2.2, fun q => ⟨hop, rfl, rfl, q⟩⟩
          clear HB HOP
          go_wp2_with fail
          go_loopw [5] (fun i wr => ∃ k q : Nat, k ≤ n ∧ i = .int .i64 (k : Int) ∧ wr = w2.drewN q ∧ ∀ j, j < k → ar.getD j (0, 0) = ar'.getD j (0, 0)) (fun i _ => n - (intOf i).toNat)
          case atStart => exact ⟨0, 0, Nat.zero_le _, rfl, rfl, fun j hj => by omega⟩
          case round =>
            obtain ⟨k, q, hk, rfl, rfl, hpre⟩ := hrel
            have HPR : Hid (∀ j, j < k → ar.getD j (0, 0) = ar'.getD j (0, 0)) := hpre
            clear hpre
            by_cases hlt : k < n
            · have hkx : k < ar.length := by rw [← HN.out]; exact hlt
              have hky : k < ar'.length := by rw [← HN'.out]; exact hlt
              rcases H1.out.lies with h0 | ⟨b1, off, rfl, hbl, hc⟩
              · rw [h0] at hkx; cases hkx
              rcases H2.out.lies with h0 | ⟨b2, off', rfl, hbl', hc'⟩
              · rw [h0] at hky; cases hky
              obtain ⟨d1, d2⟩ := hc k hkx
              obtain ⟨d3, d4⟩ := hc' k hky
              have HV : Hid (ar.getD k (0, 0) = ar'.getD k (0, 0) → ∀ j, j < k + 1 → ar.getD j (0, 0) = ar'.getD j (0, 0)) := fun he j hj => by
                by_cases q : j = k
                · subst q; exact he
                · exact HPR.out j (by omega)
              have HF : Hid (¬ ar.getD k (0, 0) = ar'.getD k (0, 0) → b = false) := fun he => iff_false HB2.out (fun q => he (by rw [q]))
              generalize ar.getD k (0, 0) = V at *
              generalize ar'.getD k (0, 0) = U at *
              obtain ⟨V1, V2⟩ := V
              obtain ⟨U1, U2⟩ := U
              simp only at d1 d2 d3 d4
              clear hc hc' HPR H1 H2 HB2
              have hlt2 : (k : Int) < (n : Int) := by omega
              have hk0 : (0 : Int) ≤ (k : Int) := by omega
              by_cases e1 : V1 = U1
              · by_cases e2 : V2 = U2
                · subst e1 e2
                  have HV2 := HV.out rfl
                  have HV3 : Hid (∀ j, j < k + 1 → ar.getD j (0, 0) = ar'.getD j (0, 0)) := HV2
                  clear HV HV2 HF
                  go_wp2_with fail
                  go_quiet (fail)
                  go_wp2
                  go_roundw
                  case rel => exact ⟨k + 1, _, hlt, by go_num, rfl, HV3.out⟩
                  case measure => simp [intOf]; omega
                · obtain rfl : b = false := HF.out (fun q => e2 (by cases q; rfl))
                  have hq : (V2 == U2) = false := by rw [beq_eq_false_iff_ne]; exact e2
                  subst e1
                  clear HV HF e2
                  go_wp2_with fail
                  go_quiet (fail)
                  go_wp2
                  go_ret
                  exact ⟨rfl, below_drawn (below_drawn hb0 q) _⟩
              · obtain rfl : b = false := HF.out (fun q => e1 (by cases q; rfl))
                have hq : (V1 == U1) = false := by rw [beq_eq_false_iff_ne]; exact e1
                clear HV HF e1
                go_wp2_with fail
                go_quiet (fail)
                go_wp2
                go_ret
                exact ⟨rfl, below_drawn (below_drawn hb0 q) _⟩
            · obtain rfl : k = n := by omega
              obtain rfl : b = true := HB2.out.2 (list_eq (0, 0) (by rw [← HN.out, ← HN'.out]) (fun j hj => HPR.out j (by rw [HN.out]; exact hj)))
              go_wp2
              go_ret
              exact ⟨rfl, below_drawn hb0 q⟩
        · obtain rfl : b = false := iff_false HB.out (fun q => h4 (by rw [HN.out, HN'.out, q.2.2.2]))
          have hq : ((n : Int) == (n' : Int)) = false := by rw [beq_eq_false_iff_ne]; omega
          have hq2 : ¬ (n : Int) = (n' : Int) := by omega
          clear HB HOP H1 H2
          go_wp2
          go_ret
          exact ⟨rfl, hb0⟩
      · obtain rfl : b = false := iff_false HB.out (fun q => h3 q.2.2.1)
        have hq : (XB == YB) = false := by rw [beq_eq_false_iff_ne]; exact h3
        clear HB HOP H1 H2
        go_wp2
        go_ret
        exact ⟨rfl, hb0⟩
    · obtain rfl : b = false := iff_false HB.out (fun q => h2 q.2.1)
      have hq : (XA == YA) = false := by rw [beq_eq_false_iff_ne]; exact h2
      clear HB HOP H1 H2
      go_wp2
      go_ret
      exact ⟨rfl, hb0⟩
  · obtain rfl : b = false := iff_false HB.out (fun q => h1 (HOP.out.1 q.1))
    have hq : (N == N') = false := by rw [beq_eq_false_iff_ne]; exact h1
    clear HB HOP H1 H2
    go_wp2
    go_ret
    exact ⟨rfl, hb0⟩
set_option maxHeartbeats 4000000 in
set_option maxRecDepth 100000 in
theorem eqArms_as {w : World} {ar ar' : List (Int × Int)} {a a' : Option Addr} {n n' c c' : Nat} (hn : n = ar.length) (hn' : n' = ar'.length) (hx : ArmLies w a ar) (hy : ArmLies w a' ar') (hm : n ≤ 140737488355328) (b : Bool) (hb : b = true ↔ ar = ar') :
    Calls Tryz.prog 85 #[.slice a n c, .slice a' n' c'] w fun e w' => e = .returned (.bool b) ∧ Below w.heap.size w w' := by
  have HN : Hid (n = ar.length) := hn
  have HN' : Hid (n' = ar'.length) := hn'
  have H1 : Hid (ArmLies w a ar) := hx
  have H2 : Hid (ArmLies w a' ar') := hy
  have HB2 : Hid (b = true ↔ ar = ar') := hb
  clear hn hn' hx hy hb
  by_cases h4 : n = n'
  · subst h4
    go_enter Tryz.func85, Tryz.ntmps85
    go_wp2_with fail
    go_loopw [13] (fun i wr => ∃ k q : Nat, k ≤ n ∧ i = .int .i64 (k : Int) ∧ wr = w.drewN q ∧ ∀ j, j < k → ar.getD j (0, 0) = ar'.getD j (0, 0)) (fun i _ => n - (intOf i).toNat)
    case atStart => exact ⟨0, 0, Nat.zero_le _, rfl, rfl, fun j hj => by omega⟩
    case round =>
      obtain ⟨k, q, hk, rfl, rfl, hpre⟩ := hrel
      have HPR : Hid (∀ j, j < k → ar.getD j (0, 0) = ar'.getD j (0, 0)) := hpre
      clear hpre
      by_cases hlt : k < n
      · have hkx : k < ar.length := by rw [← HN.out]; exact hlt
        have hky : k < ar'.length := by rw [← HN'.out]; exact hlt
        rcases H1.out.lies with h0 | ⟨b1, off, rfl, hbl, hc⟩
        · rw [h0] at hkx; cases hkx
        rcases H2.out.lies with h0 | ⟨b2, off', rfl, hbl', hc'⟩
        · rw [h0] at hky; cases hky
        obtain ⟨d1, d2⟩ := hc k hkx
        obtain ⟨d3, d4⟩ := hc' k hky
        have HV : Hid (ar.getD k (0, 0) = ar'.getD k (0, 0) → ∀ j, j < k + 1 → ar.getD j (0, 0) = ar'.getD j (0, 0)) := fun he j hj => by
          by_cases q : j = k
          · subst q; exact he
          · exact HPR.out j (by omega)
        have HF : Hid (¬ ar.getD k (0, 0) = ar'.getD k (0, 0) → b = false) := fun he => iff_false HB2.out (fun q => he (by rw [q]))
        generalize ar.getD k (0, 0) = V at *
        generalize ar'.getD k (0, 0) = U at *
        obtain ⟨V1, V2⟩ := V
        obtain ⟨U1, U2⟩ := U
        simp only at d1 d2 d3 d4
        clear hc hc' HPR H1 H2 HB2
        have hlt2 : (k : Int) < (n : Int) := by omega
        have hk0 : (0 : Int) ≤ (k : Int) := by omega
        by_cases e1 : V1 = U1
        · by_cases e2 : V2 = U2
          · subst e1 e2
            have HV2 := HV.out rfl
            have HV3 : Hid (∀ j, j < k + 1 → ar.getD j (0, 0) = ar'.getD j (0, 0)) := HV2
            clear HV HV2 HF
            go_wp2_with fail
            go_quiet (fail)
            go_wp2
            go_roundw
            case rel => exact ⟨k + 1, _, hlt, by go_num, rfl, HV3.out⟩
            case measure => simp [intOf]; omega
          · obtain rfl : b = false := HF.out (fun q => e2 (by cases q; rfl))
            have hq : (V2 == U2) = false := by rw [beq_eq_false_iff_ne]; exact e2
            subst e1
            clear HV HF e2
            go_wp2_with fail
            go_quiet (fail)
            go_wp2
            go_ret
            exact ⟨rfl, below_drawn (below_drawn (Below.refl _ w) q) _⟩
        · obtain rfl : b = false := HF.out (fun q => e1 (by cases q; rfl))
          have hq : (V1 == U1) = false := by rw [beq_eq_false_iff_ne]; exact e1
          clear HV HF e1
          go_wp2_with fail
          go_quiet (fail)
          go_wp2
          go_ret
          exact ⟨rfl, below_drawn (below_drawn (Below.refl _ w) q) _⟩
      · obtain rfl : k = n := by omega
        obtain rfl : b = true := HB2.out.2 (list_eq (0, 0) (by rw [← HN.out, ← HN'.out]) (fun j hj => HPR.out j (by rw [HN.out]; exact hj)))
        go_wp2
        go_ret
        exact ⟨rfl, below_drawn (Below.refl _ w) q⟩
  · obtain rfl : b = false := iff_false HB2.out (fun q => h4 (by rw [HN.out, HN'.out, q]))
    have hq : ((n : Int) == (n' : Int)) = false := by rw [beq_eq_false_iff_ne]; omega
    have hq2 : ¬ (n : Int) = (n' : Int) := by omega
    clear HB2 H1 H2
    go_enter Tryz.func85, Tryz.ntmps85
    go_wp2
    go_ret
    exact ⟨rfl, Below.refl _ _⟩
end Go.Proofs.YtkmmnocooibljaaGreatDoor
