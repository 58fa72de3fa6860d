/-
  CONTRACTS of the landed Declare, Find.
-/
import Derived.Test.YtnnajgbkpilaaaaFace1
namespace Go.Proofs.Ytnnajgbkpilaaaa
open Go.RowKit
set_option linter.unusedVariables false

theorem find_has (nm : ByteArray) (ls : List L) : (lastN nm ls).isSome = hasN nm ls := by
  unfold lastN hasN
  rw [Bool.eq_iff_iff]
  simp [List.find?_isSome]
theorem lastV_has (nm : ByteArray) (ls : List L) : ∃ x : Int, LastV nm ls = .tuple #[.int .i64 x, .bool (hasN nm ls)] := by
  have h := find_has nm ls
  unfold LastV
  split
  · rename_i x e
    rw [e] at h
    exact ⟨_, by rw [← h]; rfl⟩
  · rename_i e
    rw [e] at h
    exact ⟨0, by rw [← h]; rfl⟩
theorem flat_length2 : ∀ (a : List L), (a.flatMap cL).length = a.length * 2
  | [] => rfl
  | x :: r => by
    rw [List.flatMap_cons, List.length_append, flat_length2 r, List.length_cons]
    show 2 + _ = _
    omega
/-- Locals of a row, from one place on. -/
theorem lsIn_of {w : World} {g n cap : Nat} {a b : List L} (hr : Rw w 71 2 (.slice (some ⟨g, 0, none⟩) n cap) n ((a ++ b).flatMap cL)) : LsIn w w.heap.size (some ⟨g, a.length * 2, none⟩) b := by
  refine .inr ⟨g, a.length * 2, rfl, hr.lt rfl, fun i hi => ?_⟩
  have e := flat_length2 a
  have hb := flat_length2 b
  obtain ⟨u, hu⟩ : ∃ u, (b.flatMap cL)[i]? = some u := ⟨_, List.getElem?_eq_getElem (by omega)⟩
  rw [hu]
  refine hr.cells _ _ ?_
  rw [List.flatMap_append, List.getElem?_append_right (by omega), e, Nat.add_sub_cancel_left]
  exact hu
set_option maxRecDepth 100000 in
set_option maxHeartbeats 2000000 in
theorem declS {w : World} {p : Nat} {m : M} {F : Nat → Prop} (h : ScAt w p m F) (hn : m.out.length ≤ 100000) (nm : ByteArray) (ty : Int) : Calls Try.prog 16 #[.pointer (some ⟨p, 0, none⟩), .string nm, .int .i64 ty] w fun e w' => e = .returned (.tuple #[.int .i64 (m.decV nm : Int), .int .i64 (m.decE nm : Int)]) ∧ ScRet w p (m.declared nm ty) F w' := by
  have hsc := h
  obtain ⟨v0, v1, v2, v3, vm, H, hF, hl⟩ := h
  have hlow := H.inv.lows
  have hfew := H.inv.few
  have ho := H.own
  have hx : m.rowB[m.out.length]? = some (.int .i64 (m.out.flatten.length : Int)) := by simp only [M.rowB, List.getElem?_map, M.fst_last]; rfl
  have hI := innerB w p _ _ _ _ _ _ m.out.length _ _ ho H.r0 (by omega) hx
  obtain ⟨L1, hL1⟩ : ∃ L, Hid (m.flat.length = L) := ⟨_, rfl⟩
  obtain ⟨L0, hL0⟩ : ∃ L, Hid (m.out.flatten.length = L) := ⟨_, rfl⟩
  have hle : L0 ≤ L1 := by rw [← hL0.out, ← hL1.out]; simp [M.flat]
  have hcur : Hid (m.cur.length = L1 - L0) := by unfold Hid; rw [← hL0.out, ← hL1.out]; simp [M.flat]
  obtain ⟨ao2, cap2, e2, hc2, hc3⟩ := H.r2.shape
  rw [hL1.out] at e2 hc2
  have H2 : Rw w 71 2 v2 L1 m.rowL := by have := H.r2; rw [hL1.out] at this; exact this
  have hs1 : L1 ≤ 256 := by rw [← hL1.out]; omega
  obtain ⟨xx, hLV⟩ := lastV_has nm m.cur
  rw [hL0.out] at hI
  have hfx : FnIs 41 := fun a w => by kernel_rfl
  unfold maxLen at hc3
  clear hx
  go_enter Try.func16, Try.ntmps16
  go_upto_region 4 with (go_at_call 40; refine hI.mono ?_; rintro e w1 ⟨rfl, hB1⟩)
  have hBa : Below w.heap.size w (w1.alloc (.cells #[.int .i64 (L0 : Int)] 60)) := hB1.alloc hB1.size _
  obtain ⟨W, hW⟩ : ∃ W, Hid (w1.alloc (.cells #[.int .i64 (L0 : Int)] 60) = W) := ⟨_, rfl⟩
  have x2 := (Own.new w1 #[.int .i64 (L0 : Int)] 60)
  rw [hW.out] at x2 hBa
  have hWs := hBa.size
  rw [hW.out]
  go_cut [11] (fun b wx => b = .bool (hasN nm m.cur) ∧ Below W.heap.size W wx)
  case first =>
    have o2 := (ho.below hBa).drew
    have R2 := (H2.fr (F := fun _ => False) (Fr.of hBa) fun _ _ q => q).drew
    have c2 := o2.cell 2
    have xc := x2.drew.cell 0
    simp only [List.getElem?_toArray, List.getElem?_cons_zero, List.getElem?_cons_succ] at c2 xc
    subst e2
    by_cases hemp : cap2 = L0
    · have h10 : L1 = L0 := by omega
      rw [hemp, h10] at c2
      have hc0 : m.cur.length = 0 := by rw [hcur.out]; omega
      have hcn : m.cur = [] := List.eq_nil_of_length_eq_zero hc0
      have hla := last_as nm m.cur (by omega) ao2 0 W.drew (.inl hcn)
      rw [hc0, hLV] at hla
      clear hcn hc0 hemp h10 hle hc2 R2 H2
      go_region_law (refine step_call (by rfl) 41 [.tmp 29, .tmp 30] #[54, 9] (by rfl) hfx [.slice ao2 0 0, .string nm] (by rfl) hla ?_; rintro en w2 ⟨rfl, hb2⟩; refine ⟨_, rfl, ?_⟩)
      all_goals (go_wp2_with fail; go_meet; exact ⟨rfl, ((Below.refl _ _).drew).trans hb2⟩)
    · rcases R2.2 with ⟨e, h0⟩ | ⟨g, cap', cur, e, _, _⟩
      · cases e
        omega
      cases e
      have hla := last_as nm m.cur (by rw [hcur.out]; omega) (some ⟨g, L0 * 2, none⟩) (cap2 - L0) W.drew (by
        have := lsIn_of (a := m.out.flatten) (b := m.cur) (show Rw W.drew 71 2 (.slice (some ⟨g, 0, none⟩) L1 cap2) L1 ((m.out.flatten ++ m.cur).flatMap cL) from R2)
        rw [hL0.out] at this
        exact this)
      rw [hcur.out, hLV] at hla
      clear R2 H2
      go_region_law (refine step_call (by rfl) 41 [.tmp 29, .tmp 30] #[54, 9] (by rfl) hfx [.slice (some ⟨g, L0 * 2, none⟩) (L1 - L0) (cap2 - L0), .string nm] (by rfl) hla ?_; rintro en w2 ⟨rfl, hb2⟩; refine ⟨_, rfl, ?_⟩)
      all_goals (go_wp2_with fail; go_meet; exact ⟨rfl, ((Below.refl _ _).drew).trans hb2⟩)
  case rest =>
    obtain ⟨rfl, hBc⟩ := hcut
    clear hI hLV
    have hBw : Below w.heap.size w wc := hBa.trans (hBc.mono hWs)
    have hsw := hBw.size
    cases hh : hasN nm m.cur
    · by_cases h256 : 256 ≤ m.types.length
      · obtain ⟨ao3, cap3, e3, -⟩ := H.r3.shape
        have c3 := (ho.below hBw).cell 3
        rw [e3] at c3
        simp only [List.getElem?_toArray, List.getElem?_cons_zero, List.getElem?_cons_succ] at c3
        have e256 : m.types.length = 256 := by omega
        have hE : Hid (m.decE nm = 73) := by unfold Hid M.decE; rw [hh, if_neg (by simp), if_pos h256]
        rw [e256] at c3
        go_wp2
        go_ret2
        have hD : m.declared nm ty = m := by unfold M.declared; rw [hE.out]; simp
        have hV : m.decV nm = 0 := by unfold M.decV; rw [hE.out]; simp
        rw [hD, hV, hE.out]
        exact ⟨rfl, ScRet.same hsc hBw⟩
      · obtain ⟨n, hnn⟩ : ∃ n, Hid (m.types.length = n) := ⟨_, rfl⟩
        have hn2 : n < 256 := by rw [← hnn.out]; omega
        obtain ⟨ao3, cap3, e3, -⟩ := H.r3.shape
        rw [hnn.out] at e3
        have hE : Hid (m.decE nm = 0) := by unfold Hid M.decE; rw [hh, if_neg (by simp), if_neg h256]
        have oc := ho.below hBw
        have RA := H2.fr (F := fun _ => False) (Fr.of hBw) fun _ _ q => q
        have RB := H.r3.fr (F := fun _ => False) (Fr.of hBw) fun _ _ q => q
        rw [hnn.out] at RB
        have c3 := oc.cell 3
        rw [e3] at c3
        simp only [List.getElem?_toArray, List.getElem?_cons_zero, List.getElem?_cons_succ] at c3
        have c2 := oc.cell 2
        rw [e2] at c2
        simp only [List.getElem?_toArray, List.getElem?_cons_zero, List.getElem?_cons_succ] at c2
        have oA := oc.alloc (.cells #[.string nm, .int .i64 (n : Int)] 71)
        have cA := oA.cell 2
        rw [e2] at cA
        simp only [List.getElem?_toArray, List.getElem?_cons_zero, List.getElem?_cons_succ] at cA
        have bA := Own.new wc #[.string nm, .int .i64 (n : Int)] 71
        have RA2 := RA.alloc (.cells #[.string nm, .int .i64 (n : Int)] 71)
        rw [e2] at RA2
        have q2 : (Value.slice ao2 L1 cap2).ownBlock ≠ some p := RA2.ne oA (by decide)
        have hone1 : ∀ u ∈ [Value.string nm, .int .i64 (n : Int)], u.oneCell' = true := by simp [Value.oneCell']
        have hone2 : ∀ u ∈ [Value.int .i64 ty], u.oneCell' = true := by simp [Value.oneCell']
        have m32 := (RB.alloc (.cells #[.string nm, .int .i64 (n : Int)] 71)).ne2 RA2 (by decide)
        have q3 := (RB.alloc (.cells #[.string nm, .int .i64 (n : Int)] 71)).ne oA (by decide)
        go_upto_region 11 with (refine wpList_app1 okL (by rfl) (.tmp 46) (.tmp 50) (by rfl) _ L1 m.rowL (by rfl) RA2 wc.heap.size [.string nm, .int .i64 (n : Int)] (by rfl) bA rfl hone1 (by omega) ?_; intro ao5 cap5 w5 k1 k2 k3; have o5 := oA.grown k2 (fun e => q2 e.symm); have c5 := o5.cell 2; have f5 := o5.froz 2; rw [e2] at c5; simp only [List.getElem?_toArray, List.getElem?_cons_zero, List.getElem?_cons_succ] at c5)
        have hF2 : F p := hF p (.inl rfl)
        have m02 := (H.r0.fr (F := fun _ => False) (Fr.of hBw) fun _ _ q => q).alloc (.cells #[.string nm, .int .i64 (n : Int)] 71)
        have m12 := (H.r1.fr (F := fun _ => False) (Fr.of hBw) fun _ _ q => q).alloc (.cells #[.string nm, .int .i64 (n : Int)] 71)
        have lbA : LabAt (wc.alloc (.cells #[.string nm, .int .i64 (n : Int)] 71)) vm m := lab_on H.lab fun b e => by
          have hb := lab_lt H.lab e
          rw [Below.heap_alloc _ _ _ (by omega)]; exact hBw.block b hb
        have FrA : Fr F w (wc.alloc (.cells #[.string nm, .int .i64 (n : Int)] 71)) := (Fr.of hBw).alloc _
        have Fr6 : Fr F w (w5.setCell ⟨p, 2, none⟩ (.slice ao5 (L1 + 1) cap5)) := (FrA.grown k2 fun k _ e => hF k (.inr (.inr (.inr (.inl (by rw [e2]; exact e)))))).set (.inr hF2) 2 _
        have o6 : Own (w5.setCell ⟨p, 2, none⟩ (.slice ao5 (L1 + 1) cap5)) p #[v0, v1, .slice ao5 (L1 + 1) cap5, v3, .int .i64 (m.next : Int), vm] 57 := by simpa using o5.set 2 (.slice ao5 (L1 + 1) cap5)
        have p5 := k1.ne o5 (by decide)
        have r26 := k1.set p5 2 (.slice ao5 (L1 + 1) cap5)
        have r36 := ((RB.alloc (.cells #[.string nm, .int .i64 (n : Int)] 71)).grown k2 fun k e q => m32 k e q.symm).set q3 2 (.slice ao5 (L1 + 1) cap5)
        have x02 := m02.ne2 RA2 (by decide)
        have x12 := m12.ne2 RA2 (by decide)
        have r06 := (m02.grown k2 fun k e q => x02 k e q.symm).set (m02.ne oA (by decide)) 2 (.slice ao5 (L1 + 1) cap5)
        have r16 := (m12.grown k2 fun k e q => x12 k e q.symm).set (m12.ne oA (by decide)) 2 (.slice ao5 (L1 + 1) cap5)
        have lb6 : LabAt (w5.setCell ⟨p, 2, none⟩ (.slice ao5 (L1 + 1) cap5)) vm m := lab_on lbA fun b e => by
          rw [Below.heap_setCell w5 ⟨p, 2, none⟩ _ b (lab_ne lbA e oA)]
          exact k2.block b (lab_lt lbA e) (fun q => lab_neR lbA e RA2 q.symm)
        have s6 : wc.heap.size ≤ (w5.setCell ⟨p, 2, none⟩ (.slice ao5 (L1 + 1) cap5)).heap.size := by
          have := k2.size
          rw [World.size_alloc] at this
          rw [World.size_setCell]; omega
        have N5 : ∀ b, (Value.slice ao5 (L1 + 1) cap5).ownBlock = some b → v2.ownBlock = some b ∨ w.heap.size ≤ b := fun b hb => by
          rcases k3 with q | q
          · left; rw [e2, ← q]; exact hb
          · right
            rw [q] at hb
            have := Option.some.inj hb
            rw [World.size_alloc] at this
            omega
        generalize w5.setCell ⟨p, 2, none⟩ (.slice ao5 (L1 + 1) cap5) = W6 at *
        clear k1 k2 k3 o5 c5 f5 oA cA bA RA2 RA m02 m12 lbA FrA x02 x12 m32 q3 c2 c3 oc
        have d3 := o6.cell 3
        rw [e3] at d3 r36
        simp only [List.getElem?_toArray, List.getElem?_cons_zero, List.getElem?_cons_succ] at d3
        have oB := o6.alloc (.cells #[.int .i64 ty] 3)
        have bB := Own.new W6 #[.int .i64 ty] 3
        have RB2 := r36.alloc (.cells #[.int .i64 ty] 3)
        have q3 := RB2.ne oB (by decide)
        go_wp2_with (refine wpList_app1 okI (by rfl) (.tmp 58) (.tmp 60) (by rfl) _ n m.rowI (by rfl) RB2 W6.heap.size [.int .i64 ty] (by rfl) bB rfl hone2 (by omega) ?_; intro ao7 cap7 w7 j1 j2 j3; have o7 := oB.grown j2 (fun e => q3 e.symm); have c7 := o7.cell 3; have f7 := o7.froz 3; rw [e3] at c7; simp only [List.getElem?_toArray, List.getElem?_cons_zero, List.getElem?_cons_succ] at c7)
        go_ret2
        have hD : m.declared nm ty = { m with cur := m.cur ++ [⟨nm, n, ty⟩], types := m.types ++ [ty] } := by unfold M.declared; rw [hE.out, hnn.out]; simp
        have hV : m.decV nm = n := by unfold M.decV; rw [hE.out]; simp [hnn.out]
        have hin := H.inv.declared nm ty
        rw [hV, hE.out]
        refine ⟨rfl, ?_⟩
        rw [hD] at hin ⊢
        have o8 : Own (w7.setCell ⟨p, 3, none⟩ (.slice ao7 (n + 1) cap7)) p #[v0, v1, .slice ao5 (L1 + 1) cap5, .slice ao7 (n + 1) cap7, .int .i64 (m.next : Int), vm] 57 := by simpa using o7.set 3 (.slice ao7 (n + 1) cap7)
        have y0 := (r06.alloc (.cells #[.int .i64 ty] 3)).ne2 RB2 (by decide)
        have y1 := (r16.alloc (.cells #[.int .i64 ty] 3)).ne2 RB2 (by decide)
        have y2 := (r26.alloc (.cells #[.int .i64 ty] 3)).ne2 RB2 (by decide)
        have r08 := ((r06.alloc (.cells #[.int .i64 ty] 3)).grown j2 fun k e q => y0 k e q.symm).set ((r06.alloc (.cells #[.int .i64 ty] 3)).ne oB (by decide)) 3 (.slice ao7 (n + 1) cap7)
        have r18 := ((r16.alloc (.cells #[.int .i64 ty] 3)).grown j2 fun k e q => y1 k e q.symm).set ((r16.alloc (.cells #[.int .i64 ty] 3)).ne oB (by decide)) 3 (.slice ao7 (n + 1) cap7)
        have r28 := ((r26.alloc (.cells #[.int .i64 ty] 3)).grown j2 fun k e q => y2 k e q.symm).set ((r26.alloc (.cells #[.int .i64 ty] 3)).ne oB (by decide)) 3 (.slice ao7 (n + 1) cap7)
        have r38 := j1.set (j1.ne o7 (by decide)) 3 (.slice ao7 (n + 1) cap7)
        have lbB : LabAt (W6.alloc (.cells #[.int .i64 ty] 3)) vm m := lab_on lb6 fun b e => Below.heap_alloc _ _ _ (lab_lt lb6 e)
        have lb8 : LabAt (w7.setCell ⟨p, 3, none⟩ (.slice ao7 (n + 1) cap7)) vm m := lab_on lbB fun b e => by
          rw [Below.heap_setCell w7 ⟨p, 3, none⟩ _ b (lab_ne lbB e oB)]
          exact j2.block b (lab_lt lbB e) (fun q => lab_neR lbB e RB2 q.symm)
        refine ScRet.mk' hF hl (u0 := v0) (u1 := v1) (u2 := .slice ao5 (L1 + 1) cap5) (u3 := .slice ao7 (n + 1) cap7) (um := vm) ⟨o8, r08, r18, ?_, ?_, lb8, hin⟩ ?_ ?_
        · have e : (M.flat { m with cur := m.cur ++ [⟨nm, n, ty⟩], types := m.types ++ [ty] }).length = L1 + 1 := by rw [← hL1.out]; simp [M.flat]; omega
          rw [e]
          have e9 : M.rowL { m with cur := m.cur ++ [⟨nm, n, ty⟩], types := m.types ++ [ty] } = m.rowL ++ [.string nm, .int .i64 (n : Int)] := by simp [M.rowL, M.flat, cL]
          rw [e9]; exact r28
        · have e : (m.types ++ [ty]).length = n + 1 := by rw [← hnn.out]; simp
          rw [e]
          have e9 : M.rowI { m with cur := m.cur ++ [⟨nm, n, ty⟩], types := m.types ++ [ty] } = m.rowI ++ [.int .i64 ty] := by simp [M.rowI]
          rw [e9]; exact r38
        · rintro b (q | q | q | q | q | q)
          · exact .inl (.inl q)
          · exact .inl (.inr (.inl q))
          · exact .inl (.inr (.inr (.inl q)))
          · rcases N5 b q with q | q
            · exact .inl (.inr (.inr (.inr (.inl q))))
            · exact .inr q
          · rcases j3 with j3 | j3
            · exact .inl (.inr (.inr (.inr (.inr (.inl (by rw [e3, ← j3]; exact q))))))
            · right
              rw [j3] at q
              have := Option.some.inj q
              rw [World.size_alloc] at this
              omega
          · exact .inl (.inr (.inr (.inr (.inr (.inr q)))))
        · exact ((Fr6.alloc _).grown j2 fun k _ e => hF k (.inr (.inr (.inr (.inr (.inl (by rw [e3]; exact e))))))).set (.inr hF2) 3 _
    · have hE : Hid (m.decE nm = 70) := by unfold Hid M.decE; rw [hh]; rfl
      go_wp2
      go_ret2
      have hD : m.declared nm ty = m := by unfold M.declared; rw [hE.out]; simp
      have hV : m.decV nm = 0 := by unfold M.decV; rw [hE.out]; simp
      rw [hD, hV, hE.out]
      exact ⟨rfl, ScRet.same hsc hBw⟩
end Go.Proofs.Ytnnajgbkpilaaaa
