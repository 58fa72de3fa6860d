/-
  CONTRACT of the law's 'run' beside blocks that are kept.
-/
import Derived.Test.YtnnajgbkpilaaaaRun
import Derived.Test.YtnnajgbkpilaaaaSk
namespace Go.Proofs.Ytnnajgbkpilaaaa
open Go.RowKit
set_option linter.unusedVariables false

def RunRelK (K : Nat → Prop) (A : World) (p : Nat) (m : M) (ss : List St) (bv tv iv : Value) (wr : World) : Prop :=
  ∃ k : Nat, k ≤ ss.length ∧ iv = .int .i64 k ∧ bv = .int .i64 (runR m 1 0 (ss.take k)).2.1 ∧ tv = .int .i64 (runR m 1 0 (ss.take k)).2.2 ∧ Sk K A wr p (runR m 1 0 (ss.take k)).1
set_option maxRecDepth 100000 in
set_option maxHeartbeats 4000000 in
theorem runK {K : Nat → Prop} {A W : World} {p : Nat} {m : M} (h : Sk K A W p m) {ao : Option Addr} {ss : List St} (hs : StK A K ao ss) {N : Nat} (hb : Bd m N) (hN : N + ss.length ≤ 10000) (cap : Nat) (hcap : ss.length ≤ cap) :
    Calls Try.prog 24 #[.pointer (some ⟨p, 0, none⟩), .slice ao ss.length cap] W fun e w' => e = .returned (.tuple #[.int .i64 (runR m 1 0 ss).2.1, .int .i64 (runR m 1 0 ss).2.2]) ∧ Sk K A w' p (runR m 1 0 ss).1 := by
  obtain ⟨n, hn⟩ : ∃ n, Hid (ss.length = n) := ⟨_, rfl⟩
  rw [hn.out] at hN hcap ⊢
  have HS : Hid (Sk K A W p m) := h
  clear h
  go_enter Try.func24, Try.ntmps24
  go_wp2_with fail
  go_loopw [6, 7, 8] (fun bv tv iv wr => RunRelK K A p m ss bv tv iv wr) (fun _ _ i _ => n - (intOf i).toNat)
  case atStart => exact ⟨0, Nat.zero_le _, rfl, rfl, rfl, HS.out⟩
  case round =>
    obtain ⟨k, hk, rfl, rfl, rfl, hsl⟩ := hrel
    rw [hn.out] at hk
    have hbd := Bd.run (ss.take k) 1 0 hb
    have hbn := runR_bound (ss.take k) m 1 0
    have hlk : (ss.take k).length = k := by rw [List.length_take, hn.out]; omega
    rw [hlk] at hbd hbn
    obtain ⟨R, hR⟩ : ∃ R, Hid (runR m 1 0 (ss.take k) = R) := ⟨_, rfl⟩
    rw [hR.out] at hsl hbd hbn ⊢
    obtain ⟨mk, bk, tk⟩ := R
    simp only at hsl hbd hbn ⊢
    clear hlk
    by_cases hlt : k < n
    · obtain ⟨s, hsd⟩ : ∃ s, Hid (ss.getD k dS = s) := ⟨_, rfl⟩
      have htk : Hid (runR m 1 0 (ss.take (k + 1)) = (mk.step s, bk + dB mk s, tk + dT mk s)) := by
        unfold Hid
        rw [take_succ' ss (by rw [hn.out]; exact hlt), runR_snoc, hR.out, hsd.out]
      have hmem : s ∈ ss := by
        rw [← hsd.out, List.getD_eq_getElem?_getD, List.getElem?_eq_getElem (by rw [hn.out]; exact hlt)]
        exact List.getElem_mem _
      have hsz := hs.1 s hmem
      rcases hs.2 with q | ⟨b, o, rfl, hbB, hst⟩
      · rw [q] at hmem; cases hmem
      have hstk := (hst k (by rw [hn.out]; exact hlt)).same (hsl.ks hbB)
      rw [hsd.out] at hstk
      obtain ⟨a0, a1, a2, a3⟩ := hstk
      obtain ⟨kd, nm, ty, tu⟩ := s
      simp only at a0 a1 a2 a3 hsz
      have hx := Own.new wr #[.int .i64 kd, .string nm, .int .i64 ty, .bool tu] 29
      have x0 := hx.cell 0
      have x1 := hx.cell 1
      have x2 := hx.cell 2
      have x3 := hx.cell 3
      simp only [List.getElem?_toArray, List.getElem?_cons_zero, List.getElem?_cons_succ] at x0 x1 x2 x3
      have hsl2 := hsl.below ((Below.refl wr.heap.size wr).alloc (Nat.le_refl _) (.cells #[.int .i64 kd, .string nm, .int .i64 ty, .bool tu] 29))
      have hpick := pick6 kd (wr.alloc (.cells #[.int .i64 kd, .string nm, .int .i64 ty, .bool tu] 29))
      have hj := pk_lt kd (show 0 < 6 by omega)
      obtain ⟨j, hjj⟩ : ∃ j, Hid (pk kd 6 = j) := ⟨_, rfl⟩
      rw [hjj.out] at hpick hj
      have HSL : Hid (Sk K A (wr.alloc (.cells #[.int .i64 kd, .string nm, .int .i64 ty, .bool tu] 29)) p mk) := hsl2
      clear hsl hsl2 hst
      have hcases : j = 0 ∨ j = 1 ∨ j = 2 ∨ j = 3 ∨ j = 4 ∨ j = 5 := by omega
      rcases hcases with rfl | rfl | rfl | rfl | rfl | rfl
      · have hc := skOpen HSL.out (by have := hbd.1; omega)
        have hst : Hid (mk.step ⟨kd, nm, ty, tu⟩ = mk.opened ∧ dB mk ⟨kd, nm, ty, tu⟩ = 1 ∧ dT mk ⟨kd, nm, ty, tu⟩ = 0) := by unfold Hid M.step dB dT; rw [hjj.out]; exact ⟨rfl, rfl, rfl⟩
        go_wp2_with (first | (go_at_call 10; refine hpick.mono ?_; rintro e w1 ⟨rfl, rfl⟩) | (go_at_call 20; refine hc.mono ?_; rintro e w2 ⟨rfl, h2⟩; have H2 : Hid _ := h2; clear h2))
        go_roundw
        case rel => exact ⟨k + 1, by rw [hn.out]; omega, by simp, by rw [htk.out, hst.out.2.1], by rw [htk.out, hst.out.2.2, Int.add_zero], by rw [htk.out, hst.out.1]; exact H2.out⟩
        case measure => simp [intOf]; omega
      · have hc := skClose HSL.out (by have := hbd.1; omega)
        cases hcl : mk.closes
        · rw [hcl] at hc
          have hst : Hid (mk.step ⟨kd, nm, ty, tu⟩ = mk.closed ∧ dB mk ⟨kd, nm, ty, tu⟩ = 0 ∧ dT mk ⟨kd, nm, ty, tu⟩ = 0) := by unfold Hid M.step dB dT; rw [hjj.out]; exact ⟨rfl, by simp [hcl], rfl⟩
          go_wp2_with (first | (go_at_call 10; refine hpick.mono ?_; rintro e w1 ⟨rfl, rfl⟩) | (go_at_call 21; refine hc.mono ?_; rintro e w2 ⟨rfl, h2⟩; have H2 : Hid _ := h2; clear h2))
          go_roundw
          case rel => exact ⟨k + 1, by rw [hn.out]; omega, by simp, by rw [htk.out, hst.out.2.1, Int.add_zero], by rw [htk.out, hst.out.2.2, Int.add_zero], by rw [htk.out, hst.out.1]; exact H2.out⟩
          case measure => simp [intOf]; omega
        · rw [hcl] at hc
          have hst : Hid (mk.step ⟨kd, nm, ty, tu⟩ = mk.closed ∧ dB mk ⟨kd, nm, ty, tu⟩ = -1 ∧ dT mk ⟨kd, nm, ty, tu⟩ = 0) := by unfold Hid M.step dB dT; rw [hjj.out]; exact ⟨rfl, by simp [hcl], rfl⟩
          go_wp2_with (first | (go_at_call 10; refine hpick.mono ?_; rintro e w1 ⟨rfl, rfl⟩) | (go_at_call 21; refine hc.mono ?_; rintro e w2 ⟨rfl, h2⟩; have H2 : Hid _ := h2; clear h2))
          go_roundw
          case rel => exact ⟨k + 1, by rw [hn.out]; omega, by simp, by rw [htk.out, hst.out.2.1]; rfl, by rw [htk.out, hst.out.2.2, Int.add_zero], by rw [htk.out, hst.out.1]; exact H2.out⟩
          case measure => simp [intOf]; omega
      · have hc := skDecl HSL.out (by have := hbd.1; omega) nm ty
        have hst : Hid (mk.step ⟨kd, nm, ty, tu⟩ = mk.declared nm ty ∧ dB mk ⟨kd, nm, ty, tu⟩ = 0 ∧ dT mk ⟨kd, nm, ty, tu⟩ = 0) := by unfold Hid M.step dB dT; rw [hjj.out]; exact ⟨rfl, rfl, rfl⟩
        go_wp2_with (first | (go_at_call 10; refine hpick.mono ?_; rintro e w1 ⟨rfl, rfl⟩) | (go_at_call 16; refine hc.mono ?_; rintro e w2 ⟨rfl, h2⟩; have H2 : Hid _ := h2; clear h2))
        go_roundw
        case rel => exact ⟨k + 1, by rw [hn.out]; omega, by simp, by rw [htk.out, hst.out.2.1, Int.add_zero], by rw [htk.out, hst.out.2.2, Int.add_zero], by rw [htk.out, hst.out.1]; exact H2.out⟩
        case measure => simp [intOf]; omega
      · have H2 := HSL
        have hst : Hid (mk.step ⟨kd, nm, ty, tu⟩ = mk ∧ dB mk ⟨kd, nm, ty, tu⟩ = 0 ∧ dT mk ⟨kd, nm, ty, tu⟩ = 0) := by unfold Hid M.step dB dT; rw [hjj.out]; exact ⟨rfl, rfl, rfl⟩
        go_wp2_with (go_at_call 10; refine hpick.mono ?_; rintro e w1 ⟨rfl, rfl⟩)
        go_roundw
        case rel => exact ⟨k + 1, by rw [hn.out]; omega, by simp, by rw [htk.out, hst.out.2.1, Int.add_zero], by rw [htk.out, hst.out.2.2, Int.add_zero], by rw [htk.out, hst.out.1]; exact H2.out⟩
        case measure => simp [intOf]; omega
      · have hc := skEnter HSL.out (by have := hbd.2.1; omega) (by have := hbd.2.2; omega) nm hsz tu
        rcases entE_cases mk nm with ⟨hE, _⟩ | ⟨hE, _⟩
        · rw [hE] at hc
          have HE : Hid (mk.entE nm = 70) := hE
          clear hE
          have hst : Hid (mk.step ⟨kd, nm, ty, tu⟩ = mk.entered nm tu ∧ dB mk ⟨kd, nm, ty, tu⟩ = 0 ∧ dT mk ⟨kd, nm, ty, tu⟩ = 0) := by unfold Hid M.step dB dT; rw [hjj.out]; exact ⟨rfl, rfl, by simp [HE.out]⟩
          go_wp2_with (first | (go_at_call 10; refine hpick.mono ?_; rintro e w1 ⟨rfl, rfl⟩) | (go_at_call 17; refine hc.mono ?_; rintro e w2 ⟨rfl, h2⟩; have H2 : Hid _ := h2; clear h2))
          go_roundw
          case rel => exact ⟨k + 1, by rw [hn.out]; omega, by simp, by rw [htk.out, hst.out.2.1, Int.add_zero], by rw [htk.out, hst.out.2.2, Int.add_zero], by rw [htk.out, hst.out.1]; exact H2.out⟩
          case measure => simp [intOf]; omega
        · rw [hE] at hc
          have HE : Hid (mk.entE nm = 0) := hE
          clear hE
          have hst : Hid (mk.step ⟨kd, nm, ty, tu⟩ = mk.entered nm tu ∧ dB mk ⟨kd, nm, ty, tu⟩ = 0 ∧ dT mk ⟨kd, nm, ty, tu⟩ = 1) := by unfold Hid M.step dB dT; rw [hjj.out]; exact ⟨rfl, rfl, by simp [HE.out]⟩
          go_wp2_with (first | (go_at_call 10; refine hpick.mono ?_; rintro e w1 ⟨rfl, rfl⟩) | (go_at_call 17; refine hc.mono ?_; rintro e w2 ⟨rfl, h2⟩; have H2 : Hid _ := h2; clear h2))
          go_roundw
          case rel => exact ⟨k + 1, by rw [hn.out]; omega, by simp, by rw [htk.out, hst.out.2.1, Int.add_zero], by rw [htk.out, hst.out.2.2], by rw [htk.out, hst.out.1]; exact H2.out⟩
          case measure => simp [intOf]; omega
      · have hc := skLeave HSL.out (by have := hbd.2.1; omega)
        cases hcl : mk.leaves
        · rw [hcl] at hc
          have hst : Hid (mk.step ⟨kd, nm, ty, tu⟩ = mk.left ∧ dB mk ⟨kd, nm, ty, tu⟩ = 0 ∧ dT mk ⟨kd, nm, ty, tu⟩ = 0) := by unfold Hid M.step dB dT; rw [hjj.out]; exact ⟨rfl, rfl, by simp [hcl]⟩
          go_wp2_with (first | (go_at_call 10; refine hpick.mono ?_; rintro e w1 ⟨rfl, rfl⟩) | (go_at_call 22; refine hc.mono ?_; rintro e w2 ⟨rfl, h2⟩; have H2 : Hid _ := h2; clear h2))
          go_roundw
          case rel => exact ⟨k + 1, by rw [hn.out]; omega, by simp, by rw [htk.out, hst.out.2.1, Int.add_zero], by rw [htk.out, hst.out.2.2, Int.add_zero], by rw [htk.out, hst.out.1]; exact H2.out⟩
          case measure => simp [intOf]; omega
        · rw [hcl] at hc
          have hst : Hid (mk.step ⟨kd, nm, ty, tu⟩ = mk.left ∧ dB mk ⟨kd, nm, ty, tu⟩ = 0 ∧ dT mk ⟨kd, nm, ty, tu⟩ = -1) := by unfold Hid M.step dB dT; rw [hjj.out]; exact ⟨rfl, rfl, by simp [hcl]⟩
          go_wp2_with (first | (go_at_call 10; refine hpick.mono ?_; rintro e w1 ⟨rfl, rfl⟩) | (go_at_call 22; refine hc.mono ?_; rintro e w2 ⟨rfl, h2⟩; have H2 : Hid _ := h2; clear h2))
          go_roundw
          case rel => exact ⟨k + 1, by rw [hn.out]; omega, by simp, by rw [htk.out, hst.out.2.1, Int.add_zero], by rw [htk.out, hst.out.2.2]; rfl, by rw [htk.out, hst.out.1]; exact H2.out⟩
          case measure => simp [intOf]; omega
    · have hkl : k = n := by omega
      subst hkl
      have hall : ss.take k = ss := by rw [← hn.out, List.take_length]
      rw [hall] at hR
      have HSL : Hid (Sk K A wr p mk) := hsl
      clear hsl
      go_wp2
      go_ret2
      rw [hR.out]
      exact ⟨rfl, HSL.out⟩
end Go.Proofs.Ytnnajgbkpilaaaa
