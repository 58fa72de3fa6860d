/-
  ImageBack, walked.
-/
import Derived.Test.YtmmbdpdpkkikjaaGreatJbo
namespace Go.Proofs.YtmmbdpdpkkikjaaGreat
open Go.RowKit
set_option linter.unusedVariables false

set_option maxHeartbeats 8000000 in
set_option maxRecDepth 100000 in
theorem back_walk (W : World) (A : MoP) (hA : MoIn W A) :
    Calls Tryz.prog 3 #[.agg A.cs] W fun e w' => e = .returned (.bool true) ∧ Below W.heap.size W w' := by
  have o1 := Own.new W A.cs 26
  have hb0 : Below W.heap.size W (W.alloc (.cells A.cs 26)) := new_below _ _
  have HBK : Hid (∀ w, Below W.heap.size W w → Calls Tryz.prog 9 #[.agg A.cs, .int .i64 100000] w (BulkRet A.mo 100000 w)) := fun w q => kBulk_as (hA.below q) 100000 (by omega) (by omega)
  have HEA : Hid ((A.mo.bulk : Int) ≤ 100000 → ∀ w, Below W.heap.size W w → Calls Tryz.prog 11 #[.agg A.cs] w (EncR w A)) := fun k w q => encode_as (hA.below q) (small_of (by omega))
  have HCK : Hid ((A.mo.bulk : Int) ≤ 100000 → ∀ w, Below W.heap.size W w → Calls Tryz.prog 12 #[.agg A.cs] w fun e w' => e = .returned (.int .i64 (chkE A : Nat)) ∧ Below w.heap.size w w') := fun k w q => check_as (hA.below q) (small_of (by omega))
  have HSM : Hid (∀ B w, Below W.heap.size W w → MoIn w B → B.mo = A.mo → Calls Tryz.prog 14 #[.agg A.cs, .agg B.cs] w fun e w' => e = .returned (.bool true) ∧ Below w.heap.size w w') := fun B w q hB e => kSameModule_as (hA.below q) hB true (by simp [e])
  have HCB : Hid (chkE A = 0 → ∀ B w, MoIn w B → B.mo = A.mo → Calls Tryz.prog 12 #[.agg B.cs] w fun e w' => e = .returned (.int .i64 0) ∧ Below w.heap.size w w') := fun h0 B w hB e => by
    have := check_as hB (small_fit (by rw [e]; exact fit_of (parts_of h0)))
    rw [chkE_mo e, h0] at this
    exact this
  have HWK : Hid (∀ w, Calls Tryz.prog 10 #[] w fun e w' => e = .returned (.bool true) ∧ Below w.heap.size w w') := iworks_any
  have HBA : Hid (∀ c ∈ imgB (moB A.mo), c < 256) := imgB_byte (moB_byte hA)
  have HLD : Hid (chkE A = 0 → ldR (imgB (moB A.mo)) = .inr A.mo) := ld_back
  have HLA : Hid (chkE A = 0 → (imgB (moB A.mo)).length ≤ 2097152) := img_le
  clear hA
  generalize hAM : A.mo.bulk = KA at *
  unfold MoP.cs at *
  generalize A.tys.length = n1 at *
  generalize A.txs.length = n2 at *
  generalize A.fns.length = n3 at *
  go_enter Tryz.func3, Tryz.ntmps3
  go_upto_region 1 with fail
  generalize W.alloc (.cells #[.slice A.ta n1 A.tc, .slice A.sa n2 A.sc, .slice A.fa n3 A.fc] 26) = w2 at *
  obtain ⟨x0, x1, x2, xf⟩ := own3 o1
  go_wp2_with fail
  refine Calls.mono (HBK.out w2 hb0) ?_
  rintro e w3 ⟨r1, rfl, hr1, b3⟩
  replace hb0 := hb0.trans (b3.mono hb0.size)
  replace o1 := o1.below b3
  clear x0 x1 x2 xf b3
  obtain ⟨x0, x1, x2, xf⟩ := own3 o1
  by_cases hq1 : (100000 : Int) < r1
  · clear hr1
    go_wp2_with fail
    refine Calls.mono (HWK.out w3) ?_
    rintro e w4 ⟨rfl, b4⟩
    replace hb0 := hb0.trans (b4.mono hb0.size)
    go_wp2
    go_ret
    exact ⟨rfl, hb0⟩
  · have hle1 : r1 ≤ 100000 := by omega
    have HK : Hid ((KA : Int) ≤ 100000) := by have := hr1 hle1; rw [hAM] at this; exact this
    clear hr1 hAM
    have hC := HEA.out HK.out w3 hb0
    go_wp2_with fail
    refine Calls.mono hC ?_
    rintro e w5 ⟨⟨a1, L1, c1, rfl, p1, p2⟩, b5⟩
    replace hb0 := hb0.trans (b5.mono hb0.size)
    replace o1 := o1.below b5
    clear x0 x1 x2 xf b5 hC
    by_cases hEA : chkE A = 0
    · obtain ⟨e1, r1, -⟩ := p1 hEA
      have HQ0 : Hid (chkE A = 0) := hEA
      rw [hEA]
      clear p1 p2 hEA
      subst e1
      have hcap := r1.caps
      obtain ⟨a', c', e', hl⟩ := row_lies r1 HBA.out (by have := HLA.out HQ0.out; omega)
      cases e'
      have hC := load_good (HLD.out HQ0.out) hl hcap.1 (by have := hcap.2; unfold maxLen at this; omega)
      have HLL : Hid ((imgB (moB A.mo)).length ≤ 2097152) := HLA.out HQ0.out
      generalize (imgB (moB A.mo)).length = L1 at *
      clear r1 hcap hl HLD HLA HBA
      obtain ⟨x0, x1, x2, xf⟩ := own3 o1
      go_wp2_with fail
      refine Calls.mono hC ?_
      clear hC
      rintro e w6 ⟨⟨B, hBm, he, hBi⟩, b6⟩
      unfold MoP.cs at he
      have HB0 : Hid (Below W.heap.size W w6) := hb0.trans (b6.mono hb0.size)
      replace o1 := o1.below b6
      clear x0 x1 x2 xf b6 hb0
      have q1 : Hid (∀ w, Below w6.heap.size w6 w → Calls Tryz.prog 14 #[.agg #[.slice A.ta n1 A.tc, .slice A.sa n2 A.sc, .slice A.fa n3 A.fc], .agg #[.slice B.ta B.tys.length B.tc, .slice B.sa B.txs.length B.sc, .slice B.fa B.fns.length B.fc]] w fun e w' => e = .returned (.bool true) ∧ Below w.heap.size w w') := fun w q => HSM.out B w (HB0.out.trans (q.mono HB0.out.size)) (hBi.below q) hBm
      have q2 : Hid (∀ w, Below w6.heap.size w6 w → Calls Tryz.prog 12 #[.agg #[.slice B.ta B.tys.length B.tc, .slice B.sa B.txs.length B.sc, .slice B.fa B.fns.length B.fc]] w fun e w' => e = .returned (.int .i64 0) ∧ Below w.heap.size w w') := fun w q => HCB.out HQ0.out B w (hBi.below q) hBm
      clear hBi hBm HSM HCB HQ0 HK HEA HCK HBK
      generalize B.tys.length = m1 at *
      generalize B.txs.length = m2 at *
      generalize B.fns.length = m3 at *
      subst he
      have o2 := Own.new w6 #[.slice B.ta m1 B.tc, .slice B.sa m2 B.sc, .slice B.fa m3 B.fc] 26
      have b7 := new_below w6 (.cells #[.slice B.ta m1 B.tc, .slice B.sa m2 B.sc, .slice B.fa m3 B.fc] 26)
      replace o1 := o1.alloc (.cells #[.slice B.ta m1 B.tc, .slice B.sa m2 B.sc, .slice B.fa m3 B.fc] 26)
      have hLi : (L1 : Int) ≤ 2097152 := by have := HLL.out; omega
      clear HLL
      go_upto_region 7 with fail
      generalize w6.alloc (.cells #[.slice B.ta m1 B.tc, .slice B.sa m2 B.sc, .slice B.fa m3 B.fc] 26) = w7 at *
      obtain ⟨x0, x1, x2, xf⟩ := own3 o1
      obtain ⟨y0, y1, y2, yf⟩ := own3 o2
      go_wp2_with fail
      refine Calls.mono (q1.out w7 b7) ?_
      rintro e w8 ⟨rfl, b8⟩
      replace b7 := b7.trans (b8.mono b7.size)
      replace o1 := o1.below b8
      replace o2 := o2.below b8
      clear x0 x1 x2 xf y0 y1 y2 yf b8 q1
      obtain ⟨x0, x1, x2, xf⟩ := own3 o1
      obtain ⟨y0, y1, y2, yf⟩ := own3 o2
      go_wp2_with fail
      refine Calls.mono (q2.out w8 b7) ?_
      rintro e w9 ⟨rfl, b9⟩
      replace b7 := b7.trans (b9.mono b7.size)
      clear x0 x1 x2 xf y0 y1 y2 yf b9 q2 o1 o2
      go_wp2_with fail
      refine Calls.mono (HWK.out w9) ?_
      rintro e w10 ⟨rfl, b10⟩
      replace b7 := b7.trans (b10.mono b7.size)
      have bf := HB0.out.trans (b7.mono HB0.out.size)
      clear b10 b7
      go_wp2
      go_ret
      exact ⟨rfl, bf⟩
    · have hd : (((chkE A : Nat) : Int) == 0) = false := by simp; omega
      have hi : ¬ ((chkE A : Nat) : Int) = 0 := by omega
      have hn : (((chkE A : Nat) : Int) != 0) = true := by simp; omega
      have hz := p2 hEA
      have hC2 : Hid _ := HCK.out HK.out
      cases hz
      obtain ⟨E, hE⟩ : ∃ E, chkE A = E := ⟨_, rfl⟩
      rw [hE] at hd hi hn hC2
      rw [hE]
      clear p1 p2 HBK HEA HCK HSM HCB HBA HLD HLA HK hEA hE
      obtain ⟨x0, x1, x2, xf⟩ := own3 o1
      go_wp2_with fail
      refine Calls.mono (hC2.out w5 hb0) ?_
      rintro e w6 ⟨rfl, b6⟩
      replace hb0 := hb0.trans (b6.mono hb0.size)
      clear x0 x1 x2 xf b6 hC2 o1
      go_wp2_with fail
      refine Calls.mono (HWK.out w6) ?_
      rintro e w7 ⟨rfl, b7⟩
      replace hb0 := hb0.trans (b7.mono hb0.size)
      go_wp2
      go_ret
      exact ⟨rfl, hb0⟩
end Go.Proofs.YtmmbdpdpkkikjaaGreat
