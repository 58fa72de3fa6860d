/-
  CONTRACT of the document's own heap: Push.
-/
import Derived.Test.YtcohgbelcbniaaaRfF
namespace Go.Proofs.Ytcohgbelcbniaaa
open Go.RowKit
set_option linter.unusedVariables false

theorem boxBq {w w1 : World} (o : Obj) (nq : Nat) (h : Below w.heap.size w w1) : Below w.heap.size w ((w1.alloc o).drewN nq) := (boxB o h).trans ((below_drewN _ nq).mono (boxB o h).size)
set_option maxRecDepth 200000 in
set_option maxHeartbeats 4000000 in
theorem pushR {w : World} {q : Nat} {m : M} {F : Nat → Prop} (h : RAt w q m F) (hi : Inv m) (hn : m.ths.length ≤ 1000000) (ref x : Int) (h0 : 0 ≤ ref) (h1 : ref < 18446744073709551616) :
    Calls Try.prog 37 #[ptr q, .int .u64 ref, .int .u64 x] w fun e w' => e = .returned (.int .i64 (m.pushT ref)) ∧ RRet w q (m.pushed ref x) F w' := by
  have hsc := h
  obtain ⟨vt, vs, H0, hF, hl0⟩ := h
  obtain ⟨ao, cap, hav, v1, v2, hc⟩ := atR H0 hi hn ref h0 h1
  have hkl := kind_le hi ref
  have HS : Hid (∀ w1 o, Below w.heap.size w w1 → RRet w q m F (w1.alloc o)) := fun w1 o hB => RRet.same hsc (boxB o hB)
  have HSq : Hid (∀ w1 o nq, Below w.heap.size w w1 → RRet w q m F ((w1.alloc o).drewN nq)) := fun w1 o nq hB => RRet.same hsc (boxBq o nq hB)
  rcases push_cases m ref with ⟨q1, e1⟩ | ⟨q1, q2, e1⟩ | ⟨q1, q2, q3, e1⟩ | ⟨q1, q2, q3, e1⟩
  · have ep : m.pushed ref x = m := by unfold M.pushed; rw [e1]; rfl
    rw [e1, ep]
    generalize (m.at ref).kind = kd at *
    generalize (m.at ref).typ = ty at *
    generalize (m.at ref).text = tx at *
    generalize (m.at ref).words.length = wl at *
    have q1i : ¬ (kd : Int) = 4 := by omega
    clear H0 hF hl0 hsc hi hav ep e1
    go_enter Try.func37, Try.ntmps37
    go_wp2_with (go_at_call 54; refine hc.mono ?_; rintro e w1 ⟨rfl, hB⟩; have HB : Hid _ := hB; clear hB)
    go_ret
    exact ⟨rfl, HS.out _ _ HB.out⟩
  all_goals
    have hk0 : (m.at ref).kind ≠ 0 := by omega
    obtain ⟨a1, a2, a3, a4, a5⟩ := H0.ref hk0
    have hgl := hi.grow _ a5 q1
    have hav' := hav hk0
    have hck : ((m.at ref).kind : Int) = 4 := by omega
    rw [hck] at hc
    have hu1 := hi.used
    have hu2 := hi.limit
    have hoq := H0.own
  · have ep : m.pushed ref x = m := by unfold M.pushed; rw [e1]; rfl
    rw [e1, ep]
    rw [q2] at hc
    generalize (m.at ref).typ = ty at *
    generalize (m.at ref).text = tx at *
    clear H0 hF hl0 hsc hi hav ep e1 hav' a1 a2 a3 a4 a5 hgl hck hk0 q1 q2 v1 hkl hu1 hu2 hoq
    go_enter Try.func37, Try.ntmps37
    go_wp2_with (go_at_call 54; refine hc.mono ?_; rintro e w1 ⟨rfl, hB⟩; have HB : Hid _ := hB; clear hB)
    go_ret
    exact ⟨rfl, HS.out _ _ HB.out⟩
  · have ep : m.pushed ref x = m := by unfold M.pushed; rw [e1]; rfl
    rw [e1, ep]
    obtain ⟨U, hU⟩ : ∃ U, Hid (m.used = U) := ⟨_, rfl⟩
    obtain ⟨L, hL⟩ : ∃ L, Hid (m.limit = L) := ⟨_, rfl⟩
    rw [hU.out, hL.out] at hoq hu1 q3
    rw [hL.out] at hu2
    obtain ⟨l, hll⟩ : ∃ l, Hid ((m.at ref).words.length = l) := ⟨_, rfl⟩
    rw [hll.out] at hc hgl q2
    have hlt : decide ((65536 : Int) ≤ (l : Int)) = false := by simp; omega
    have hge : decide (L ≤ U) = true := by simp; omega
    obtain ⟨ao0, cap0, e9, -⟩ := H0.row.shape
    subst e9
    have HC : Hid (∀ w1 o, Below w.heap.size w w1 → Own (w1.alloc o) q #[.slice ao0 m.ths.length cap0, .int .i64 (U : Int), .int .i64 (L : Int)] 36) := fun w1 o hB => hoq.below (boxB o hB)
    generalize (m.at ref).typ = ty at *
    generalize (m.at ref).text = tx at *
    clear H0 hF hl0 hsc hi hav ep e1 hav' a1 a2 a3 a4 a5 hgl hck hk0 q1 q2 q3 v1 hkl hoq hU hL hll
    go_enter Try.func37, Try.ntmps37
    go_wp2_with (go_at_call 54; refine hc.mono ?_; rintro e w1 ⟨rfl, hB⟩; have HB : Hid _ := hB; clear hB; obtain ⟨c0, c1, c2, hf⟩ := own3 (HC.out w1 (.cells #[.int .i64 4, .int .i64 ty, .string tx, .slice ao l cap] 88) HB.out))
    all_goals first
      | (exfalso; have hbad := of_decide_eq_false hlt; omega)
      | skip
    all_goals (
      go_quiet (fail)
      go_wp2_with fail
      go_ret
      exact ⟨rfl, HSq.out _ _ _ HB.out⟩)
  · have ep : m.pushed ref x = ⟨m.ths.set (m.idx ref) ((m.at ref).with ((m.at ref).words ++ [x])), m.used + 1, m.limit⟩ := by
      unfold M.pushed
      rw [if_pos e1]
      have e5 : m.paid 1 = ⟨m.ths, m.used + 1, m.limit⟩ := by unfold M.paid; rw [if_pos q3]
      rw [e5]; rfl
    rw [e1, ep]
    have hrow := H0.row
    obtain ⟨G, CAP, CUR, evt, HG, K1, K2, K3, K4⟩ := hrow.block (by omega)
    subst evt
    obtain ⟨U, hU⟩ : ∃ U, Hid (m.used = U) := ⟨_, rfl⟩
    obtain ⟨L, hL⟩ : ∃ U, Hid (m.limit = U) := ⟨_, rfl⟩
    obtain ⟨l, hll⟩ : ∃ l, Hid ((m.at ref).words.length = l) := ⟨_, rfl⟩
    obtain ⟨n, hnn⟩ : ∃ n, Hid (m.ths.length = n) := ⟨_, rfl⟩
    have hqG : q ≠ G := fun e => hrow.ne H0.own (by decide) (by rw [e]; rfl)
    have hvG : (Value.slice ao (m.at ref).words.length cap).ownBlock ≠ some G := by
      intro e
      rw [← hav'] at e
      exact (H0.apart a1).2 G e rfl
    have hvq : (Value.slice ao (m.at ref).words.length cap).ownBlock ≠ some q := by rw [← hav']; exact (H0.apart a1).1
    rw [hll.out] at hvG hvq
    have HW : Hid (∀ w1 o nq, Below w.heap.size w w1 → ∃ W, ((w1.alloc o).drewN nq).setCell ⟨q, 1, none⟩ (.int .i64 ((U : Int) + 1)) = W ∧ Own W q #[.slice (some ⟨G, 0, none⟩) n CAP, .int .i64 ((U : Int) + 1), .int .i64 (L : Int)] 36 ∧ Rw W 88 4 (.slice (some ⟨G, 0, none⟩) n CAP) n (rcells vs m.ths) ∧ Rw W 24 1 (.slice ao l cap) l (wordV (m.at ref).words) ∧ (∃ cu, Own W G cu 88) ∧ (∀ b, b < w.heap.size → b ≠ q → W.heap[b]? = w.heap[b]?) ∧ Fr F w W ∧ w.heap.size < W.heap.size) := by
      intro w1 o nq hB
      have hB2 := boxBq o nq hB
      have ho2 := H0.own.below hB2
      rw [hU.out, hL.out, hnn.out] at ho2
      refine ⟨_, rfl, ?_, ?_, ?_, ⟨_, (HG.below hB2).other (Ne.symm hqG) _⟩, ?_, ?_, ?_⟩
      · simpa using ho2.set 1 (.int .i64 ((U : Int) + 1))
      · have r := hrow.fr (F := fun _ => False) (Fr.of hB2) fun _ _ z => z
        rw [hnn.out] at r
        exact r.set (fun e => hqG (Option.some.inj e).symm) 1 _
      · have r := a4.fr (F := fun _ => False) (Fr.of hB2) fun _ _ z => z
        rw [hav', hll.out] at r
        exact r.set hvq 1 _
      · intro b hb hbq
        rw [Below.heap_setCell _ ⟨q, 1, none⟩ _ b hbq]
        exact hB2.block b hb
      · exact (Fr.of hB2).set (.inr (hF q (.inl rfl))) 1 _
      · have := hB.size; simp [World.setCell, World.drewN]; omega
    have HX : Hid (∀ W, Own W q #[.slice (some ⟨G, 0, none⟩) n CAP, .int .i64 ((U : Int) + 1), .int .i64 (L : Int)] 36 → Rw W 88 4 (.slice (some ⟨G, 0, none⟩) n CAP) n (rcells vs m.ths) → (∃ cu, Own W G cu 88) → (∀ b, b < w.heap.size → b ≠ q → W.heap[b]? = w.heap[b]?) → Fr F w W → ∀ o ao2 cap2 wz, Rw wz 24 1 (.slice ao2 (l + 1) cap2) (l + 1) (wordV (m.at ref).words ++ [.int .u64 x]) → ((W.alloc o).drew).grownBy wz (Value.slice ao l cap).ownBlock → ((Value.slice ao2 (l + 1) cap2).ownBlock = (Value.slice ao l cap).ownBlock ∨ (Value.slice ao2 (l + 1) cap2).ownBlock = some ((W.alloc o).drew).heap.size) → (wz.cell? ⟨q, 0, none⟩ = some (.slice (some ⟨G, 0, none⟩) n CAP) ∧ (∃ z, wz.cell? ⟨G, m.idx ref * 4 + 3, none⟩ = some z) ∧ wz.frozen? ⟨G, m.idx ref * 4 + 3, none⟩ = false) ∧ RRet w q ⟨m.ths.set (m.idx ref) ((m.at ref).with ((m.at ref).words ++ [x])), m.used + 1, m.limit⟩ F (wz.setCell ⟨G, m.idx ref * 4 + 3, none⟩ (.slice ao2 (l + 1) cap2))) := by
      intro W hW rW gW hWb hWf o ao2 cap2 wz z1 z2 z3
      obtain ⟨cu, gW⟩ := gW
      have hsz : ((W.alloc o).drew).heap.size = W.heap.size + 1 := World.size_alloc W o
      have hws := hWf.size
      rw [hsz] at z3
      have oz := ((hW.alloc o).drew).grown z2 (fun e => hvq e.symm)
      have gz := ((gW.alloc o).drew).grown z2 (fun e => hvG e.symm)
      have rz := ((rW.alloc o).drew).grown z2 (fun k hk e => by rw [← e] at hvG; cases hk; exact hvG rfl)
      have d3 := rz.cells (m.idx ref * 4 + 3) _ (by rw [rcells_get vs m.ths _ 3 _ a3 (by omega)]; rfl)
      refine ⟨⟨(own3 oz).1, ⟨_, d3⟩, gz.froz _⟩, ?_⟩
      have hvb : (vs (m.idx ref)).ownBlock = (Value.slice ao l cap).ownBlock := by rw [hav', hll.out]
      refine rret_write (w' := wz.setCell ⟨G, m.idx ref * 4 + 3, none⟩ (.slice ao2 (l + 1) cap2)) H0 hF ref _ (m.used + 1) (.slice ao2 (l + 1) cap2) hk0 ?_ ?_ ?_ (fun b hb e1 e2 e3 => ?_) (fun g hg => ?_) ?_
      · have e9 : ((m.used + 1 : Nat) : Int) = (U : Int) + 1 := by rw [hU.out]; omega
        rw [e9, hL.out, hnn.out]
        exact oz.other hqG _
      · rw [hnn.out]
        exact rz.setc (by rw [hnn.out] at a1; omega) _
      · rw [wordV_snoc, List.length_append, hll.out]
        exact z1.set (z1.ne gz (by decide)) _ _
      · rw [hvb] at e3
        have e2' : b ≠ G := by rintro rfl; exact e2 rfl
        rw [Below.heap_setCell wz ⟨G, _, none⟩ _ b e2', z2.block b (by rw [hsz]; omega) (fun e => e3 e.symm)]
        exact (Below.heap_alloc W o b (by omega)).trans (hWb b hb e1)
      · rw [hvb]
        rcases z3 with y | y
        · exact .inl (by rw [← y]; exact hg)
        · rw [y] at hg; cases hg; exact .inr (by omega)
      · exact (((hWf.alloc o).drew).grown z2 fun k _ e => hF k (.inr (.inr ⟨_, a1, by rw [hvb]; exact e⟩))).set (.inr (hF G (.inr (.inl rfl)))) _ _
    have HC : Hid (∀ w1 o, Below w.heap.size w w1 → Own (w1.alloc o) q #[.slice (some ⟨G, 0, none⟩) n CAP, .int .i64 (U : Int), .int .i64 (L : Int)] 36) := fun w1 o hB => by
      have := hoq.below (boxB o hB)
      rwa [hU.out, hL.out, hnn.out] at this
    have HD : Hid (∀ W, Rw W 88 4 (.slice (some ⟨G, 0, none⟩) n CAP) n (rcells vs m.ths) → W.cell? ⟨G, m.idx ref * 4 + 3, none⟩ = some (.slice ao l cap)) := fun W r => by
      have d := r.cells (m.idx ref * 4 + 3) _ (by rw [rcells_get vs m.ths _ 3 _ a3 (by omega)]; rfl)
      rwa [hav', hll.out] at d
    generalize (⟨m.ths.set (m.idx ref) ((m.at ref).with ((m.at ref).words ++ [x])), m.used + 1, m.limit⟩ : M) = M' at *
    rw [hll.out] at hc hgl q2 v1
    rw [hU.out, hL.out] at hu1 q3
    rw [hL.out] at hu2
    rw [hnn.out] at a1 hn
    generalize rcells vs m.ths = rs at *
    generalize wordV (m.at ref).words = ws at *
    generalize (m.at ref).typ = ty at *
    generalize (m.at ref).text = tx at *
    generalize m.idx ref = k at *
    subst a2
    have hlt : decide ((65536 : Int) ≤ (l : Int)) = false := by simp; omega
    have hge : decide (L ≤ U) = false := by simp; omega
    have hU1 : U ≤ 1048576 := by omega
    clear hu1 hu2
    have hl1m : Hid (l ≤ 10000000) := by unfold Hid; omega
    clear H0 hF hl0 hsc hi hav ep e1 hav' a3 a4 a5 hgl hck hk0 q1 q2 q3 v1 hkl hoq hU hL hll hnn hrow HG K1 K2 K3 K4 hvG hvq HS HSq
    go_enter Try.func37, Try.ntmps37
    go_wp2_with (go_at_call 54; refine hc.mono ?_; rintro e w1 ⟨rfl, hB⟩; have HB : Hid _ := hB; clear hB; obtain ⟨c0, c1, c2, hf⟩ := own3 (HC.out w1 (.cells #[.int .i64 4, .int .i64 ty, .string tx, .slice ao l cap] 88) HB.out))
    all_goals first
      | (exfalso; have hbad := of_decide_eq_false hlt; omega)
      | skip
    go_quiet (fail)
    go_upto_region 9 with fail
    obtain ⟨W, hW, oW, rW, vW, gW, fW, frW, sW⟩ := HW.out w1 (.cells #[.int .i64 4, .int .i64 ty, .string tx, .slice ao l cap] 88) nq HB.out
    rw [hW]
    have HZ : Hid _ := HX.out W oW rW gW fW frW
    have d3 := HD.out W rW
    obtain ⟨d0, d1, d2, df⟩ := own3 oW
    have x3 := HD.out _ (rW.alloc (.cells #[.int .u64 x] 24)).drew
    obtain ⟨x0, -, -, xf⟩ := own3 (oW.alloc (.cells #[.int .u64 x] 24)).drew
    have hr2 := (vW.alloc (.cells #[.int .u64 x] 24)).drew
    have hb2 := (Own.new W #[.int .u64 x] 24).drew
    clear c0 c1 c2 hf HW hW HX HC HD oW rW vW gW fW frW hc
    have i3x : (0 : Int) ≤ (k : Int) := by omega
    have i4x : (k : Int) < (n : Int) := by omega
    have w3x : IntKind.u64.wrap ((k : Int) + 1 - 1) = (k : Int) := by show ((k : Int) + 1 - 1) % 18446744073709551616 = _; omega
    have w4x : IntKind.u64.wrap (k : Int) = (k : Int) := by show (k : Int) % 18446744073709551616 = _; omega
    go_region_law (refine step_app1 okU (by rfl) (.tmp 48) (.tmp 50) (by rfl) _ l ws (by rfl) hr2 W.heap.size [.int .u64 x] (by rfl) hb2 rfl (by simp [Value.oneCell']) hl1m.out ?_; intro ao2 cap2 wz z1 z2 z3; have HQ : Hid _ := HZ.out _ ao2 cap2 wz z1 z2 z3; obtain ⟨y0, ⟨yz, y1⟩, yf⟩ := HQ.out.1; clear z1 z2 z3)
    all_goals (
      go_wp2_with fail
      go_ret
      exact ⟨rfl, HQ.out.2⟩)
end Go.Proofs.Ytcohgbelcbniaaa
