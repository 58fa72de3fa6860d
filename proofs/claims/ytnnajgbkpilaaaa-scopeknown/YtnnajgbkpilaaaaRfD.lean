/-
  CONTRACT of the document's own Declare.
-/
import Derived.Test.YtnnajgbkpilaaaaRfC
namespace Go.Proofs.Ytnnajgbkpilaaaa
open Go.RowKit
set_option linter.unusedVariables false
set_option linter.unusedSimpArgs false

theorem hasN_rls (m : M) (nm : ByteArray) : hasN nm m.cur = m.rls.any fun x => decide (x.2 = m.out.length + 1) && decide (x.1.name = nm) := by
  unfold M.rls hasN
  rw [List.any_append]
  have e : ((tg 1 m.out).any fun x => decide (x.2 = m.out.length + 1) && decide (x.1.name = nm)) = false := by
    rw [List.any_eq_false]
    intro x hx
    have := (tg_bound m.out 1 x hx).2
    have h2 : ¬ x.2 = m.out.length + 1 := by omega
    simp [h2]
  rw [e, Bool.false_or, List.any_map]
  simp [Function.comp_def]
def RdRel (m : M) (nm : ByteArray) (w : World) (n : Nat) (iv : Value) (wr : World) : Prop :=
  ∃ k : Nat, k ≤ n ∧ iv = .int .i64 (k : Int) ∧ (∀ i (hi : i < m.rls.length), i < k → m.rls[i].2 = m.out.length + 1 → ¬ m.rls[i].1.name = nm) ∧ Below w.heap.size w wr
set_option maxRecDepth 100000 in
set_option maxHeartbeats 4000000 in
theorem rDecl {w : World} {p : Nat} {m : M} {F : Nat → Prop} (h : RfAt w p m F) (hn : m.out.length ≤ 100000) (hfl : m.flat.length ≤ 256) (hty : m.types.length ≤ 256) (nm : ByteArray) (ty : Int) : Calls Try.prog 34 #[.pointer (some ⟨p, 0, none⟩), .string nm, .int .i64 ty] w fun e w' => e = .returned (.tuple #[.int .i64 (m.decV nm : Int), .int .i64 (m.decE nm : Int)]) ∧ RfRet w p (m.declared nm ty) F w' := by
  have hsc := h
  obtain ⟨v1, v2, v3, H, hF, hl⟩ := h
  have ho := H.own
  obtain ⟨n, hnn⟩ : ∃ N, Hid (m.flat.length = N) := ⟨_, rfl⟩
  have hrl : Hid (m.rls.length = n) := by unfold Hid; rw [m.rls_length, hnn.out]
  have R1 := H.r1
  rw [hnn.out] at R1 hfl
  obtain ⟨ao, cap, e1, hcap, hc2⟩ := R1.shape
  rw [e1] at R1
  unfold maxLen at hc2
  obtain ⟨B, hB⟩ : ∃ v : Nat, Hid (m.out.length = v) := ⟨_, rfl⟩
  rw [e1, hB.out] at ho
  rw [hB.out] at hn
  obtain ⟨c0, c1, -, -, -, -⟩ := own5 ho
  have HSC : Hid (RfAt w p m F) := hsc
  clear hsc
  obtain ⟨ev, hev⟩ : ∃ v : Int, Hid ((m.decV nm : Int) = v) := ⟨_, rfl⟩
  obtain ⟨ee, hee⟩ : ∃ v : Int, Hid ((m.decE nm : Int) = v) := ⟨_, rfl⟩
  rw [hev.out, hee.out]
  go_enter Try.func34, Try.ntmps34
  go_wp2_with fail
  clear c0 c1
  go_loopw [8] (fun iv wr => RdRel m nm w n iv wr) (fun i _ => n - (intOf i).toNat)
  case atStart => exact ⟨0, Nat.zero_le _, rfl, fun i hi q => by omega, Below.refl _ _⟩
  case round =>
    obtain ⟨k, hk, rfl, hall, hbw⟩ := hrel
    have HB : Hid (Below w.heap.size w wr) := hbw
    have HA : Hid (∀ i (hi : i < m.rls.length), i < k → m.rls[i].2 = m.out.length + 1 → ¬ m.rls[i].1.name = nm) := hall
    have hsz := hbw.size
    have o0 := ho.below hbw
    obtain ⟨c0, c1, -, -, -, -⟩ := own5 o0
    have R := (R1.fr (F := fun _ => False) (Fr.of hbw) fun _ _ q => q)
    clear hall
    by_cases hlt : k < n
    · have hq : k < m.rls.length := by rw [hrl.out]; omega
      rcases R1.2 with ⟨e, h0⟩ | ⟨g, cap', cur, e, _⟩
      · omega
      cases e
      obtain ⟨x, hx0⟩ : ∃ x, m.rls[k]? = some x := ⟨_, List.getElem?_eq_getElem hq⟩
      obtain ⟨d0, d1, -, -⟩ := rl_cells' R hx0
      have hx : Hid (∀ (h : k < m.rls.length), m.rls[k] = x) := fun h => by
        rw [List.getElem?_eq_getElem h] at hx0
        exact Option.some.inj hx0
      clear hx0 hq
      obtain ⟨⟨xn, xs, xt⟩, xb⟩ := x
      simp only at d0 d1
      have hbl := ba_eq xn nm
      have hfound : Hid (xb = B + 1 → xn = nm → ev = 0 ∧ ee = 70 ∧ m.declared nm ty = m) := by
        intro q1 q2
        have hh : hasN nm m.cur = true := by
          rw [hasN_rls]
          exact List.any_eq_true.2 ⟨m.rls[k]'(by rw [hrl.out]; exact hlt), List.getElem_mem _, by rw [hx.out (by rw [hrl.out]; exact hlt), hB.out]; simp [q1, q2]⟩
        have hE : m.decE nm = 70 := by unfold M.decE; rw [hh]; rfl
        rw [← hev.out, ← hee.out]
        unfold M.decV M.declared
        rw [hE]
        exact ⟨rfl, rfl, rfl⟩
      have hstay : Hid ((¬ xb = B + 1 ∨ ¬ xn = nm) → ∀ nq, RdRel m nm w n (.int .i64 ((k : Int) + 1)) (wr.drewN nq)) := by
        intro hc nq
        refine ⟨k + 1, by omega, by simp, fun i hi hik hbk => ?_, HB.out.trans ⟨rfl, rfl, rfl, Nat.le_refl _, fun _ _ => rfl⟩⟩
        rcases Nat.lt_or_ge i k with h1 | h1
        · exact HA.out i hi h1 hbk
        · obtain rfl : i = k := by omega
          rw [hx.out hi] at hbk ⊢
          rw [hB.out] at hbk
          rcases hc with hc | hc
          · exact absurd hbk hc
          · exact hc
      clear hx HA R hbw
      by_cases hxb : xb = B + 1
      · by_cases hxn : xn = nm
        · have hfd : Hid (ev = 0 ∧ ee = 70 ∧ m.declared nm ty = m) := hfound.out hxb hxn
          clear hfound hstay
          subst hxb hxn
          have d1' : wr.cell? ⟨g, k * 4 + 1, none⟩ = some (.int .i64 ((B : Int) + 1)) := by rw [d1]; simp
          clear d1
          go_wp2_with fail
          go_quiet (fail)
          go_wp2_with fail
          go_ret2
          rw [hfd.out.2.2]
          exact ⟨by rw [hfd.out.1, hfd.out.2.1]; rfl, RfRet.same HSC.out (HB.out.trans ⟨rfl, rfl, rfl, Nat.le_refl _, fun _ _ => rfl⟩)⟩
        · have hst : Hid (∀ nq, RdRel m nm w n (.int .i64 ((k : Int) + 1)) (wr.drewN nq)) := hstay.out (.inr hxn)
          have hq2 : (xn.toList == nm.toList) = false := by rw [ba_eq]; simpa using hxn
          clear hfound hstay hbl hxn
          subst hxb
          have d1' : wr.cell? ⟨g, k * 4 + 1, none⟩ = some (.int .i64 ((B : Int) + 1)) := by rw [d1]; simp
          clear d1
          go_wp2_with fail
          go_quiet (fail)
          go_wp2_with fail
          exact ⟨hst.out _, by simp [intOf]; omega⟩
      · have hst : Hid (∀ nq, RdRel m nm w n (.int .i64 ((k : Int) + 1)) (wr.drewN nq)) := hstay.out (.inl hxb)
        have hxi : ¬ (xb : Int) = (B : Int) + 1 := by omega
        clear hfound hstay hbl hxb
        go_wp2_with fail
        go_quiet (fail)
        go_wp2_with fail
        exact ⟨hst.out _, by simp [intOf]; omega⟩
    · have hkl : k = n := by omega
      subst hkl
      have hh : hasN nm m.cur = false := by
        rw [hasN_rls, List.any_eq_false]
        intro x hx
        obtain ⟨i, hi, rfl⟩ := List.mem_iff_getElem.1 hx
        have := HA.out i hi (by rw [hrl.out] at hi; exact hi)
        simp only [Bool.and_eq_true, decide_eq_true_eq, not_and]
        exact this
      obtain ⟨N2, hN2⟩ : ∃ N, Hid (m.types.length = N) := ⟨_, rfl⟩
      have S2 := (H.r2.fr (F := fun _ => False) (Fr.of hbw) fun _ _ q => q)
      have S3 := (H.r3.fr (F := fun _ => False) (Fr.of hbw) fun _ _ q => q)
      rw [hN2.out] at S2 hty
      obtain ⟨ao2, cap2, e2, hcp2, hcq2⟩ := S2.shape
      unfold maxLen at hcq2
      rw [e2] at S2 o0
      obtain ⟨-, -, c2, -, -, -⟩ := own5 o0
      by_cases h256 : N2 = 256
      · have hD : Hid (ev = 0 ∧ ee = 73 ∧ m.declared nm ty = m) := by
          have hE : m.decE nm = 73 := by unfold M.decE; rw [hh, hN2.out, h256]; rfl
          unfold Hid
          rw [← hev.out, ← hee.out]
          unfold M.decV M.declared
          rw [hE]
          exact ⟨rfl, rfl, rfl⟩
        clear hh HA hN2
        subst h256
        go_wp2_with fail
        go_ret2
        rw [hD.out.2.2]
        exact ⟨by rw [hD.out.1, hD.out.2.1]; rfl, RfRet.same HSC.out HB.out⟩
      · have hlt2 : N2 < 256 := by omega
        have hD : Hid (ev = (N2 : Int) ∧ ee = 0 ∧ m.declared nm ty = { m with cur := m.cur ++ [⟨nm, m.types.length, ty⟩], types := m.types ++ [ty] }) := by
          have hE : m.decE nm = 0 := by unfold M.decE; rw [hh, hN2.out, if_neg (by simp), if_neg (by omega)]
          unfold Hid
          rw [← hev.out, ← hee.out]
          unfold M.decV M.declared
          rw [hE, hN2.out]
          exact ⟨rfl, rfl, rfl⟩
        clear hh HA h256
        have oA := o0.alloc (.cells #[.int .i64 ty] 3)
        have bA := Own.new wr #[.int .i64 ty] 3
        have RA := S2.alloc (.cells #[.int .i64 ty] 3)
        have RA1 := R.alloc (.cells #[.int .i64 ty] 3)
        have RA3 := S3.alloc (.cells #[.int .i64 ty] 3)
        have q2 := RA.ne oA (by decide)
        have hone : ∀ u ∈ [Value.int .i64 ty], u.oneCell' = true := by simp [Value.oneCell']
        go_upto_region 10 with (refine wpList_app1 okI (by rfl) (.tmp 55) (.tmp 57) (by rfl) _ N2 m.rowI (by rfl) RA wr.heap.size [.int .i64 ty] (by rfl) bA rfl hone (by omega) ?_; intro ao5 cap5 w5 j1 j2 j3; have o5 := oA.grown j2 (fun e => q2 e.symm); have c5 := o5.cell 2; have f5 := o5.froz 2; simp only [List.getElem?_toArray, List.getElem?_cons_zero, List.getElem?_cons_succ] at c5)
        have o6 : Own (w5.setCell ⟨p, 2, none⟩ (.slice ao5 (N2 + 1) cap5)) p #[.int .i64 ((B : Int) + 1), .slice ao k cap, .slice ao5 (N2 + 1) cap5, v3, .int .i64 (m.next : Int)] 64 := by simpa using o5.set 2 (.slice ao5 (N2 + 1) cap5)
        have n1 := RA1.ne2 RA (by decide)
        have n3 := RA3.ne2 RA (by decide)
        have z1 := RA1.grown j2 fun k e q => n1 k e q.symm
        have z3 := RA3.grown j2 fun k e q => n3 k e q.symm
        have s1 := z1.set (z1.ne o5 (by decide)) 2 (.slice ao5 (N2 + 1) cap5)
        have s2 := j1.set (j1.ne o5 (by decide)) 2 (.slice ao5 (N2 + 1) cap5)
        have s3 := z3.set (z3.ne o5 (by decide)) 2 (.slice ao5 (N2 + 1) cap5)
        have hF2 : F p := hF p (.inl rfl)
        have Fr6 : Fr F w (w5.setCell ⟨p, 2, none⟩ (.slice ao5 (N2 + 1) cap5)) := (((Fr.of hbw).alloc _).grown j2 fun k _ e => hF k (.inr (.inr (.inl (by rw [e2]; exact e))))).set (.inr hF2) 2 _
        have N6 : ∀ b, (Value.slice ao5 (N2 + 1) cap5).ownBlock = some b → v2.ownBlock = some b ∨ w.heap.size ≤ b := by
          intro b0 q
          rcases j3 with j | j
          · exact .inl (by rw [e2, ← j]; exact q)
          · right
            rw [j] at q
            have := Option.some.inj q
            rw [World.size_alloc] at this
            omega
        have HN6 : Hid (∀ b, (Value.slice ao5 (N2 + 1) cap5).ownBlock = some b → v2.ownBlock = some b ∨ w.heap.size ≤ b) := N6
        have HF6 : Hid (Fr F w (w5.setCell ⟨p, 2, none⟩ (.slice ao5 (N2 + 1) cap5))) := Fr6
        clear n1 n3 z1 z3 c5 f5 o5 j1 j2 j3 oA bA RA RA1 RA3 q2 hone R S2 S3 o0 c0 c1 c2 N6 Fr6 hbw hsz
        obtain ⟨W6, hW6⟩ : ∃ W, Hid (w5.setCell ⟨p, 2, none⟩ (.slice ao5 (N2 + 1) cap5) = W) := ⟨_, rfl⟩
        rw [hW6.out] at o6 s1 s2 s3 HF6 ⊢
        have oA := (o6.alloc (.cells #[.string nm, .int .i64 ((B : Int) + 1), .int .i64 (N2 : Int), .int .i64 ty] 89)).drew
        have oD := o6.drew
        have bA := (Own.new W6 #[.string nm, .int .i64 ((B : Int) + 1), .int .i64 (N2 : Int), .int .i64 ty] 89).drew
        have RA := (s1.alloc (.cells #[.string nm, .int .i64 ((B : Int) + 1), .int .i64 (N2 : Int), .int .i64 ty] 89)).drew
        obtain ⟨f0, f1, -, -, -, ff⟩ := own5 oD
        obtain ⟨g0, g1, -, -, -, gf⟩ := own5 oA
        have q1 : (Value.slice ao k cap).ownBlock ≠ some p := RA.ne oA (by decide)
        have hone : ∀ u ∈ [Value.string nm, .int .i64 ((B : Int) + 1), .int .i64 (N2 : Int), .int .i64 ty], u.oneCell' = true := by simp [Value.oneCell']
        go_wp2_with fail
        go_region_law (refine step_app1 okRL (by rfl) (.tmp 65) (.tmp 74) (by rfl) _ k m.rowRL (by rfl) RA W6.heap.size [.string nm, .int .i64 ((B : Int) + 1), .int .i64 (N2 : Int), .int .i64 ty] (by rfl) bA rfl hone (by omega) ?_; intro ao7 cap7 wz hrz gz hnz; have oz := oA.grown gz (fun e => q1 e.symm); have cz := oz.cell 1; have fz := oz.froz 1; simp only [List.getElem?_toArray, List.getElem?_cons_zero, List.getElem?_cons_succ] at cz)
        all_goals
          have o8 : Own (wz.setCell ⟨p, 1, none⟩ (.slice ao7 (k + 1) cap7)) p #[.int .i64 ((B : Int) + 1), .slice ao7 (k + 1) cap7, .slice ao5 (N2 + 1) cap5, v3, .int .i64 (m.next : Int)] 64 := by simpa using oz.set 1 (.slice ao7 (k + 1) cap7)
          go_wp2_with fail
          go_ret2
          refine ⟨by rw [hD.out.1, hD.out.2.1]; rfl, ?_⟩
          rw [hD.out.2.2]
          have RA2 := (s2.alloc (.cells #[.string nm, .int .i64 ((B : Int) + 1), .int .i64 (N2 : Int), .int .i64 ty] 89)).drew
          have RA3 := (s3.alloc (.cells #[.string nm, .int .i64 ((B : Int) + 1), .int .i64 (N2 : Int), .int .i64 ty] 89)).drew
          have n2 := RA2.ne2 RA (by decide)
          have n3 := RA3.ne2 RA (by decide)
          have z2 := RA2.grown gz fun k e q => n2 k e q.symm
          have z3 := RA3.grown gz fun k e q => n3 k e q.symm
          have t1 := hrz.set (hrz.ne oz (by decide)) 1 (.slice ao7 (k + 1) cap7)
          have t2 := z2.set (z2.ne oz (by decide)) 1 (.slice ao7 (k + 1) cap7)
          have t3 := z3.set (z3.ne oz (by decide)) 1 (.slice ao7 (k + 1) cap7)
          refine RfRet.mk' hF (u1 := .slice ao7 (k + 1) cap7) (u2 := .slice ao5 (N2 + 1) cap5) (u3 := v3) ⟨?_, ?_, ?_, t3⟩ ?_ ?_
          · show Own _ p #[.int .i64 ((m.out.length : Int) + 1), .slice ao7 (k + 1) cap7, .slice ao5 (N2 + 1) cap5, v3, .int .i64 (m.next : Int)] 64
            rw [hB.out]; exact o8
          · have e8 : (M.flat { m with cur := m.cur ++ [⟨nm, m.types.length, ty⟩], types := m.types ++ [ty] }).length = k + 1 := by rw [← hnn.out]; simp [M.flat]; omega
            have e9 : M.rowRL { m with cur := m.cur ++ [⟨nm, m.types.length, ty⟩], types := m.types ++ [ty] } = m.rowRL ++ [.string nm, .int .i64 ((B : Int) + 1), .int .i64 (N2 : Int), .int .i64 ty] := by rw [← hB.out, ← hN2.out]; simp [M.rowRL, M.rls, cR]
            rw [e8, e9]; exact t1
          · have e8 : (m.types ++ [ty]).length = N2 + 1 := by rw [← hN2.out]; simp
            have e9 : M.rowI { m with cur := m.cur ++ [⟨nm, m.types.length, ty⟩], types := m.types ++ [ty] } = m.rowI ++ [.int .i64 ty] := by simp [M.rowI]
            rw [e9]
            show Rw _ 3 1 _ (m.types ++ [ty]).length _
            rw [e8]; exact t2
          · rintro b0 (q | q | q | q)
            · exact .inl (.inl q)
            · rcases hnz with j | j
              · exact .inl (.inr (.inl (by rw [e1, ← j]; exact q)))
              · right
                rw [j] at q
                have := Option.some.inj q
                have h9 : (W6.alloc (.cells #[.string nm, .int .i64 ((B : Int) + 1), .int .i64 (N2 : Int), .int .i64 ty] 89)).drew.heap.size = W6.heap.size + 1 := World.size_alloc _ _
                rw [h9] at this
                have := HF6.out.size
                omega
            · rcases HN6.out b0 q with q | q
              · exact .inl (.inr (.inr (.inl q)))
              · exact .inr q
            · exact .inl (.inr (.inr (.inr q)))
          · exact (((HF6.out.alloc _).drew).grown gz fun k _ e => hF k (.inr (.inl (by rw [e1]; exact e)))).set (.inr hF2) 1 _
end Go.Proofs.Ytnnajgbkpilaaaa
