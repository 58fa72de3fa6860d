/-
  THE LANDED LAYOUT OF LINES: an instruction more, a line more.
-/
import Derived.Test.YtkmmnocooibljaaGreatDoorNs
import Derived.Test.YtkmmnocooibljaaGreatDoorEnq
namespace Go.Proofs.YtkmmnocooibljaaGreatDoor
open Go.RowKit Go.Maps
set_option linter.unusedVariables false

theorem LyR.after {w w1 : World} {gL b : Nat} {st : List (Int × Int) × Int} {r : Nat ⊕ (List (Int × Int) × Int)} {e : Ending} {w' : World} (hb : Below w.heap.size w w1) (h : LyR w1 gL b st r e w') : LyR w gL b st r e w' := ⟨h.1, (Fr.of hb).trans h.2⟩
theorem size_small (x : In) : x.size ≤ 1000000 := by rw [← enc_length]; exact enc_small x
set_option maxHeartbeats 4000000 in
set_option maxRecDepth 100000 in
theorem lninstr_as {w : World} {gL b : Nat} {st : List (Int × Int) × Int} (h : LyAt w gL b st) (hs : 0 ≤ st.2 ∧ st.2 ≤ 1000000000000) {Y : LnP} (hy : LnIn w Y) (hm : Y.x.arms.length ≤ 1000000) :
    Calls Tryz.prog 97 #[.pointer (some ⟨gL, 0, none⟩), .agg Y.cs] w (LyR w gL b st (if Y.x.size = 0 ∨ Y.lab ≠ 0 then .inl 120 else .inr (st.1, st.2 + (Y.x.size : Int)))) := by
  obtain ⟨L, ⟨op, XA, XB, ar⟩, ao, cp⟩ := Y
  obtain ⟨ps, sz⟩ := st
  have HLY : Hid (∀ W, Below w.heap.size w W → LyAt W gL b (ps, sz)) := fun W q => h.below q
  have HSZ : Hid (∀ W, Below w.heap.size w W → Calls Tryz.prog 37 #[insV ⟨op, XA, XB, ar⟩ (.slice ao ar.length cp)] W fun e w' => e = .returned (.int .i64 ((⟨op, XA, XB, ar⟩ : In).size : Int)) ∧ Below W.heap.size W w') := fun W q => size_as (cp := cp) (hy.ins.below q) ar.length rfl hm
  have hsm := size_small ⟨op, XA, XB, ar⟩
  have oX := Own.new w #[.int .i64 L, .int .u8 (op : Int), .int .i64 XA, .int .i64 XB, .slice ao ar.length cp] 56
  have hb1 := new_below w (.cells #[.int .i64 L, .int .u8 (op : Int), .int .i64 XA, .int .i64 XB, .slice ao ar.length cp] 56)
  have hglt : gL < w.heap.size := h.own.lt
  have HNE : Hid (b ≠ gL) := h.pl.ne h.own
  have HLAB : Hid (∀ x ∈ ps, N64 x.1) := h.lab
  show Calls Tryz.prog 97 #[.pointer (some ⟨gL, 0, none⟩), .agg #[.int .i64 L, .int .u8 (op : Int), .int .i64 XA, .int .i64 XB, .slice ao ar.length cp]] w _
  unfold insV at HSZ
  simp only at HSZ hs hsm ⊢
  generalize (⟨op, XA, XB, ar⟩ : In).size = S at *
  generalize ar.length = n at *
  obtain ⟨N, hN⟩ : ∃ N : Int, (op : Int) = N := ⟨_, rfl⟩
  rw [hN] at oX hb1 HSZ ⊢
  clear h hy hm hN
  obtain ⟨R, HR⟩ : ∃ R, Hid ((if S = 0 ∨ L ≠ 0 then .inl 120 else .inr (ps, sz + (S : Int)) : Nat ⊕ (List (Int × Int) × Int)) = R) := ⟨_, rfl⟩
  rw [HR.out]
  go_enter Tryz.func97, Tryz.ntmps97
  go_upto_region 1 with fail
  generalize w.alloc (.cells #[.int .i64 L, .int .u8 N, .int .i64 XA, .int .i64 XB, .slice ao n cp] 56) = w1 at *
  obtain ⟨x0, x1, x2, x3, x4, xf⟩ := lown5 oX
  go_wp2_with fail
  refine Calls.mono (HSZ.out w1 hb1) ?_
  rintro e w2 ⟨rfl, b2⟩
  replace oX := oX.below b2
  replace hb1 := hb1.trans (b2.mono hb1.size)
  clear x0 x1 x2 x3 x4 xf b2 HSZ
  obtain ⟨x0, x1, x2, x3, x4, xf⟩ := lown5 oX
  have hly := HLY.out w2 hb1
  have o0 : Own w2 gL #[.map (some b), .int .i64 sz] 65 := hly.own
  by_cases h0 : S = 0
  · subst h0
    obtain rfl : Sum.inl 120 = R := by rw [← HR.out, if_pos (.inl rfl)]
    have RES : Hid (LyR w gL b (ps, sz) (.inl 120) (.returned (.int .i64 120)) w2) := ⟨⟨rfl, hly⟩, Fr.of hb1⟩
    clear HR HLY hly o0 HNE HLAB
    go_wp2
    go_ret
    exact RES.out
  · have hq0 : ((S : Int) == 0) = false := by rw [beq_eq_false_iff_ne]; omega
    have hq0' : ¬ (S : Int) = 0 := by omega
    by_cases h1 : L = 0
    · subst h1
      obtain rfl : Sum.inr (ps, sz + (S : Int)) = R := by rw [← HR.out, if_neg (by omega)]
      have p0 := o0.set 1 (.int .i64 (sz + (S : Int)))
      have RES : Hid (LyR w gL b (ps, sz) (.inr (ps, sz + (S : Int))) (.returned (.int .i64 0)) (w2.setCell ⟨gL, 1, none⟩ (.int .i64 (sz + (S : Int))))) :=
        ⟨⟨rfl, by simpa using p0, hly.pl.on (Below.heap_setCell w2 ⟨gL, 1, none⟩ _ b HNE.out), HLAB.out⟩, (Fr.of hb1).set (.inr (.inl rfl)) 1 _⟩
      have m0 := o0.cell 0
      have m1 := o0.cell 1
      have mf := o0.froz
      simp only [List.getElem?_toArray, List.getElem?_cons_zero, List.getElem?_cons_succ] at m0 m1
      have hs1 := hs.1
      have hs2 := hs.2
      clear HR HLY hly o0 HNE HLAB p0 hs
      go_wp2
      go_ret
      exact RES.out
    · obtain rfl : Sum.inl 120 = R := by rw [← HR.out, if_pos (.inr h1)]
      have hq1 : (L == 0) = false := by rw [beq_eq_false_iff_ne]; exact h1
      have RES : Hid (LyR w gL b (ps, sz) (.inl 120) (.returned (.int .i64 120)) w2) := ⟨⟨rfl, hly⟩, Fr.of hb1⟩
      clear HR HLY hly o0 HNE HLAB
      go_wp2
      go_ret
      exact RES.out
set_option maxHeartbeats 4000000 in
set_option maxRecDepth 100000 in
theorem lnadd_as {w : World} {gL b : Nat} {st : List (Int × Int) × Int} (h : LyAt w gL b st) (hl : st.1.length < 1000000000) (hs : 0 ≤ st.2 ∧ st.2 ≤ 1000000000000) {Y : LnP} (hy : LnIn w Y) (hm : Y.x.arms.length ≤ 1000000) :
    Calls Tryz.prog 65 #[.pointer (some ⟨gL, 0, none⟩), .agg Y.cs] w (LyR w gL b st (addL st Y.l)) := by
  have HI : Hid (∀ W, Below w.heap.size w W → Calls Tryz.prog 97 #[.pointer (some ⟨gL, 0, none⟩), .agg Y.cs] W (LyR W gL b st (if Y.x.size = 0 ∨ Y.lab ≠ 0 then .inl 120 else .inr (st.1, st.2 + (Y.x.size : Int))))) := fun W q => lninstr_as (h.below q) hs (hy.below q) hm
  have HL : Hid (∀ W, Below w.heap.size w W → Calls Tryz.prog 98 #[.pointer (some ⟨gL, 0, none⟩), .int .i64 Y.lab] W (LyR W gL b st (if plF st.1 Y.lab ≠ none ∨ Y.lab < 0 ∨ 2147483647 < Y.lab then .inl 150 else .inr (st.1 ++ [(Y.lab, st.2)], st.2)))) := fun W q => lnlabel_as (h.below q) hl Y.lab hy.lab
  have HLY : Hid (∀ W, Below w.heap.size w W → LyAt W gL b st) := fun W q => h.below q
  obtain ⟨R, HR⟩ : ∃ R, Hid (addL st Y.l = R) := ⟨_, rfl⟩
  rw [HR.out]
  have HR2 : Hid (R = if Y.x.op ≠ 0 then (if Y.x.size = 0 ∨ Y.lab ≠ 0 then .inl 120 else .inr (st.1, st.2 + (Y.x.size : Int))) else if Y.x.a ≠ 0 ∨ Y.x.b ≠ 0 ∨ Y.x.arms ≠ [] then .inl 120 else if plF st.1 Y.lab ≠ none ∨ Y.lab < 0 ∨ 2147483647 < Y.lab then .inl 150 else .inr (st.1 ++ [(Y.lab, st.2)], st.2)) := by rw [Hid, ← HR.out]; rfl
  obtain ⟨R1, h1⟩ : ∃ R1, (if Y.x.size = 0 ∨ Y.lab ≠ 0 then (.inl 120 : Nat ⊕ (List (Int × Int) × Int)) else .inr (st.1, st.2 + (Y.x.size : Int))) = R1 := ⟨_, rfl⟩
  obtain ⟨R2, h2⟩ : ∃ R2, (if plF st.1 Y.lab ≠ none ∨ Y.lab < 0 ∨ 2147483647 < Y.lab then (.inl 150 : Nat ⊕ (List (Int × Int) × Int)) else .inr (st.1 ++ [(Y.lab, st.2)], st.2)) = R2 := ⟨_, rfl⟩
  rw [h1] at HI HR2
  rw [h2] at HL HR2
  obtain ⟨L, ⟨op, XA, XB, ar⟩, ao, cp⟩ := Y
  have oX := Own.new w #[.int .i64 L, .int .u8 (op : Int), .int .i64 XA, .int .i64 XB, .slice ao ar.length cp] 56
  have hb1 := new_below w (.cells #[.int .i64 L, .int .u8 (op : Int), .int .i64 XA, .int .i64 XB, .slice ao ar.length cp] 56)
  have HAR : Hid (ar = [] ↔ ar.length = 0) := List.length_eq_zero_iff.symm
  show Calls Tryz.prog 65 #[.pointer (some ⟨gL, 0, none⟩), .agg #[.int .i64 L, .int .u8 (op : Int), .int .i64 XA, .int .i64 XB, .slice ao ar.length cp]] w _
  replace HI : Hid (∀ W, Below w.heap.size w W → Calls Tryz.prog 97 #[.pointer (some ⟨gL, 0, none⟩), .agg #[.int .i64 L, .int .u8 (op : Int), .int .i64 XA, .int .i64 XB, .slice ao ar.length cp]] W (LyR W gL b st R1)) := HI
  simp only at HR2 HL
  clear h hl hs hy hm HR h1 h2
  have HR3 : Hid (R = if op ≠ 0 then R1 else if XA ≠ 0 ∨ XB ≠ 0 ∨ ar.length ≠ 0 then .inl 120 else R2) := by
    unfold Hid
    rw [HR2.out]
    simp only [ne_eq, HAR.out]
  clear HR2 HAR
  generalize ar.length = n at *
  have HOP : Hid (op = 0 ↔ (op : Int) = 0) := by unfold Hid; omega
  obtain ⟨N, hN⟩ : ∃ N : Int, (op : Int) = N := ⟨_, rfl⟩
  rw [hN] at oX hb1 HI HOP ⊢
  clear hN
  go_enter Tryz.func65, Tryz.ntmps65
  go_upto_region 1 with fail
  generalize w.alloc (.cells #[.int .i64 L, .int .u8 N, .int .i64 XA, .int .i64 XB, .slice ao n cp] 56) = w1 at *
  obtain ⟨x0, x1, x2, x3, x4, xf⟩ := lown5 oX
  by_cases h0 : N = 0
  · subst h0
    have h00 := HOP.out.2 rfl
    have HR4 : Hid (R = if XA ≠ 0 ∨ XB ≠ 0 ∨ n ≠ 0 then .inl 120 else R2) := by rw [Hid, HR3.out, if_neg (by omega)]
    clear HR3 HOP h00 HI
    by_cases hA : XA = 0
    · by_cases hB : XB = 0
      · by_cases hn : n = 0
        · obtain rfl : R = R2 := by rw [HR4.out, if_neg (by omega)]
          subst hA hB hn
          clear HR4
          go_wp2_with fail
          refine Calls.mono (HL.out w1 hb1) ?_
          intro e w2 hr
          have hr2 := LyR.after hb1 hr
          obtain ⟨v, rfl⟩ : ∃ v, e = .returned v := by
            obtain ⟨q, -⟩ := hr2
            cases R with
            | inl er => exact ⟨_, q.1⟩
            | inr st2 => exact ⟨_, q.1⟩
          have RES : Hid (LyR w gL b st R (.returned v) w2) := hr2
          clear hr hr2
          go_wp2
          go_ret
          exact RES.out
        · obtain rfl : R = .inl 120 := by rw [HR4.out, if_pos (.inr (.inr hn))]
          have hn2 : (0 : Int) < (n : Int) := by omega
          subst hA hB
          have RES : Hid (LyR w gL b st (.inl 120) (.returned (.int .i64 120)) w1) := ⟨⟨rfl, HLY.out w1 hb1⟩, Fr.of hb1⟩
          clear HR4 HL HLY
          go_wp2
          go_ret
          exact RES.out
      · obtain rfl : R = .inl 120 := by rw [HR4.out, if_pos (.inr (.inl hB))]
        have hq : (XB == 0) = false := by rw [beq_eq_false_iff_ne]; exact hB
        subst hA
        have RES : Hid (LyR w gL b st (.inl 120) (.returned (.int .i64 120)) w1) := ⟨⟨rfl, HLY.out w1 hb1⟩, Fr.of hb1⟩
        clear HR4 HL HLY
        go_wp2
        go_ret
        exact RES.out
    · obtain rfl : R = .inl 120 := by rw [HR4.out, if_pos (.inl hA)]
      have hq : (XA == 0) = false := by rw [beq_eq_false_iff_ne]; exact hA
      have RES : Hid (LyR w gL b st (.inl 120) (.returned (.int .i64 120)) w1) := ⟨⟨rfl, HLY.out w1 hb1⟩, Fr.of hb1⟩
      clear HR4 HL HLY
      go_wp2
      go_ret
      exact RES.out
  · have hop : op ≠ 0 := fun q => h0 (HOP.out.1 q)
    obtain rfl : R = R1 := by rw [HR3.out, if_pos hop]
    have hq : (N == 0) = false := by rw [beq_eq_false_iff_ne]; exact h0
    clear HR3 HOP HL HLY hop
    go_wp2_with fail
    refine Calls.mono (HI.out w1 hb1) ?_
    intro e w2 hr
    have hr2 := LyR.after hb1 hr
    obtain ⟨v, rfl⟩ : ∃ v, e = .returned v := by
      obtain ⟨q, -⟩ := hr2
      cases R with
      | inl er => exact ⟨_, q.1⟩
      | inr st2 => exact ⟨_, q.1⟩
    have RES : Hid (LyR w gL b st R (.returned v) w2) := hr2
    clear hr hr2
    go_wp2
    go_ret
    exact RES.out
end Go.Proofs.YtkmmnocooibljaaGreatDoor
