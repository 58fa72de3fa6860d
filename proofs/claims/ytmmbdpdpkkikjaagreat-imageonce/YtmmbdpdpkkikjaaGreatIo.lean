/-
  ImageOnce, walked.
-/
import Derived.Test.YtmmbdpdpkkikjaaGreatJbo
namespace Go.Proofs.YtmmbdpdpkkikjaaGreat
open Go.RowKit
set_option linter.unusedVariables false

set_option maxHeartbeats 8000000 in
set_option maxRecDepth 100000 in
theorem once_walk (W : World) (a : Option Addr) (c : Nat) (xs : List Nat) (hl : Lies W a xs) (hcl : xs.length ≤ c) (hcm : c ≤ 9223372036854775807) :
    Calls Tryz.prog 4 #[.slice a xs.length c] W fun e w' => e = .returned (.bool true) ∧ Below W.heap.size W w' := by
  have HWK : Hid (∀ w, Calls Tryz.prog 10 #[] w fun e w' => e = .returned (.bool true) ∧ Below w.heap.size w w') := iworks_any
  have HBY : Hid (∀ c ∈ xs, c < 256) := hl.1
  have HLI : Hid (∀ w, Below W.heap.size W w → Lies w a xs) := fun w q => hl.below q
  have hcv : ∀ w, Below W.heap.size W w → (convert 29 9 (.slice a xs.length c)).run Tryz.prog w = .ok (.string (strN xs)) w := fun w q => conv_any (hl.below q) rfl
  have HCV : Hid _ := hcv
  clear hcv
  cases hr : ldR xs with
  | inl x =>
    obtain ⟨x, y⟩ := x
    have hin := ld_in hl.1 hr
    have hC := load_bad hr hl hcl hcm
    simp only at hin
    have hx0 : (0 : Int) ≤ (x : Int) := by omega
    have hx1 : (x : Int) ≤ (xs.length : Int) := by omega
    have hy0 : ¬ (y : Int) = 0 := by omega
    have hyb : ((y : Int) == 0) = false := by simp; omega
    have hyn : ((y : Int) != 0) = true := by simp; omega
    have hlm : xs.length ≤ 9223372036854775807 := hl.2.1
    clear hl hr hin HBY HLI HCV hcl hcm
    obtain ⟨n, hn⟩ : ∃ n, xs.length = n := ⟨_, rfl⟩
    rw [hn] at hC hx1 hlm
    rw [hn]
    clear hn
    go_enter Tryz.func4, Tryz.ntmps4
    by_cases h1 : (131072 : Int) < (n : Int)
    · go_wp2_with fail
      refine Calls.mono (HWK.out W) ?_
      rintro e w4 ⟨rfl, b4⟩
      go_wp2
      go_ret
      exact ⟨rfl, b4⟩
    · have h1' : (n : Int) ≤ 131072 := by omega
      go_wp2_with fail
      refine Calls.mono hC ?_
      clear hC
      rintro e w4 ⟨rfl, b4⟩
      replace b4 := b4.alloc b4.size (.cells zMd 26)
      have o1 := Own.new w4 zMd 26
      go_upto_region 4 with fail
      generalize w4.alloc (.cells zMd 26) = w5 at *
      obtain ⟨x0, x1, x2, xf⟩ := own3 o1
      clear o1
      go_wp2_with fail
      refine Calls.mono (HWK.out w5) ?_
      rintro e w6 ⟨rfl, b6⟩
      replace b4 := b4.trans (b6.mono b4.size)
      go_wp2
      go_ret
      exact ⟨rfl, b4⟩
  | inr m =>
    have hin := ld_once hl.1 hr
    have hC := load_good hr hl hcl hcm
    have HEA : Hid (∀ (A : MoP) (w : World), MoIn w A → A.mo = m → Calls Tryz.prog 11 #[.agg A.cs] w (EncR w A)) := fun A w hA e => encode_as hA (small_fit (by rw [e]; exact hin.2.2.1))
    have HK : Hid (∀ A : MoP, A.mo = m → chkE A = 0 ∧ imgB (moB A.mo) = xs) := fun A e => ⟨by rw [← chkM_mo, e]; exact hin.2.1, by rw [e]; exact hin.1.symm⟩
    have hlm : xs.length ≤ 9223372036854775807 := hl.2.1
    clear hl hr hin hcl hcm
    obtain ⟨n, hn⟩ : ∃ n, xs.length = n := ⟨_, rfl⟩
    have HN : Hid (xs.length = n) := hn
    rw [hn] at hC hlm HCV
    rw [hn]
    clear hn
    go_enter Tryz.func4, Tryz.ntmps4
    by_cases h1 : (131072 : Int) < (n : Int)
    · go_wp2_with fail
      refine Calls.mono (HWK.out W) ?_
      rintro e w4 ⟨rfl, b4⟩
      go_wp2
      go_ret
      exact ⟨rfl, b4⟩
    · have h1' : (n : Int) ≤ 131072 := by omega
      have HN2 : Hid (n ≤ 131072) := by have : (n : Int) ≤ 131072 := h1'; rw [Hid]; omega
      go_wp2_with fail
      refine Calls.mono hC ?_
      clear hC
      rintro e w4 ⟨⟨B, hBm, he, hBi⟩, b4⟩
      have hE := HEA.out B (w4.alloc (.cells B.cs 26)) (hBi.below (new_below _ _)) hBm
      have HKB : Hid _ := HK.out B hBm
      unfold MoP.cs at he hE
      generalize B.tys.length = m1 at *
      generalize B.txs.length = m2 at *
      generalize B.fns.length = m3 at *
      subst he
      clear hBi hBm HEA HK
      replace b4 := b4.alloc b4.size (.cells #[.slice B.ta m1 B.tc, .slice B.sa m2 B.sc, .slice B.fa m3 B.fc] 26)
      have o1 := Own.new w4 #[.slice B.ta m1 B.tc, .slice B.sa m2 B.sc, .slice B.fa m3 B.fc] 26
      go_upto_region 6 with fail
      generalize w4.alloc (.cells #[.slice B.ta m1 B.tc, .slice B.sa m2 B.sc, .slice B.fa m3 B.fc] 26) = w5 at *
      obtain ⟨x0, x1, x2, xf⟩ := own3 o1
      go_wp2_with fail
      refine Calls.mono hE ?_
      clear hE
      rintro e w6 ⟨⟨a2, L2, c2, rfl, p1, p2⟩, b6⟩
      replace b4 := b4.trans (b6.mono b4.size)
      obtain ⟨e1, r1, -⟩ := p1 HKB.out.1
      rw [HKB.out.2] at e1 r1
      rw [HKB.out.1]
      clear p1 p2 x0 x1 x2 xf o1 b6
      have hc1 : (convert 29 9 (.slice a2 L2 c2)).run Tryz.prog w6 = .ok (.string (strN xs)) w6 := by
        rw [e1] at r1 ⊢
        obtain ⟨a', c', e', hl⟩ := row_lies r1 HBY.out (by have := HN.out; omega)
        cases e'
        exact conv_any hl rfl
      have hc2 := HCV.out w6 b4
      clear e1 r1 HKB
      generalize strN xs = S at *
      have hss : (S.toList == S.toList) = true := by simp
      clear HBY HCV HLI HN
      go_upto_region 7 with fail
      go_wp2_with fail
      refine Calls.mono (HWK.out w6) ?_
      rintro e w7 ⟨rfl, b7⟩
      replace b4 := b4.trans (b7.mono b4.size)
      go_wp2
      go_ret
      exact ⟨rfl, b4⟩
end Go.Proofs.YtmmbdpdpkkikjaaGreat
