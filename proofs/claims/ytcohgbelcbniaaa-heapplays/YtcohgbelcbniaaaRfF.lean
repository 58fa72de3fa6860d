/-
  CONTRACTS of the document's own heap: Drop.
-/
import Derived.Test.YtcohgbelcbniaaaRfE
import Derived.Deep.RegionHeld3
namespace Go.Proofs.Ytcohgbelcbniaaa
open Go.RowKit
set_option linter.unusedVariables false

theorem boxB {w w1 : World} (o : Obj) (h : Below w.heap.size w w1) : Below w.heap.size w (w1.alloc o) := h.trans (((Below.refl _ w1).alloc (Nat.le_refl _) o).mono h.size)
set_option maxRecDepth 100000 in
set_option maxHeartbeats 2000000 in
theorem dropR {w : World} {q : Nat} {m : M} {F : Nat → Prop} (h : RAt w q m F) (hi : Inv m) (hn : m.ths.length ≤ 1000000) (ref : Int) (h0 : 0 ≤ ref) (h1 : ref < 18446744073709551616) :
    Calls Try.prog 38 #[ptr q, .int .u64 ref] w fun e w' => e = .returned (.tuple #[.int .u64 (m.dropV ref), .int .i64 (m.dropT ref)]) ∧ RRet w q (m.dropped ref) F w' := by
  have hsc := h
  obtain ⟨vt, vs, H0, hF, hl0⟩ := h
  obtain ⟨ao, cap, hav, v1, v2, hc⟩ := atR H0 hi hn ref h0 h1
  have hkl := kind_le hi ref
  have HS : Hid (∀ w1 o, Below w.heap.size w w1 → RRet w q m F (w1.alloc o)) := fun w1 o hB => RRet.same hsc (boxB o hB)
  have hwl : (m.at ref).words.length ≤ 1048576 := by
    by_cases hk : (m.at ref).kind = 0
    · rw [th_cases hi ref hk]; exact Nat.zero_le _
    · have := hi.words _ (H0.ref hk).2.2.2.2; have := hi.used; have := hi.limit; omega
  rcases drop_cases m ref with ⟨q1, e1⟩ | ⟨q1, q2, e1⟩ | ⟨q1, ⟨l, y, q2⟩, e1⟩
  · have ep : m.dropped ref = m := by unfold M.dropped; rw [e1]; rfl
    have ev : m.dropV ref = 0 := by unfold M.dropV; rw [e1]; rfl
    rw [e1, ep, ev]
    generalize (m.at ref).kind = kd at *
    generalize (m.at ref).typ = ty at *
    generalize (m.at ref).text = tx at *
    generalize (m.at ref).words.length = wl at *
    have q1i : ¬ (kd : Int) = 4 := by omega
    clear H0 hF hl0 hsc hi hav ep ev e1
    go_enter Try.func38, Try.ntmps38
    go_wp2_with (go_at_call 54; refine hc.mono ?_; rintro e w1 ⟨rfl, hB⟩; have HB : Hid _ := hB; clear hB)
    go_ret2
    exact ⟨rfl, HS.out _ _ HB.out⟩
  · have ep : m.dropped ref = m := by unfold M.dropped; rw [e1]; rfl
    have ev : m.dropV ref = 0 := by unfold M.dropV; rw [e1]; rfl
    rw [e1, ep, ev]
    rw [q1, q2] at hc
    simp only [List.length_nil] at hc
    generalize (m.at ref).typ = ty at *
    generalize (m.at ref).text = tx at *
    clear H0 hF hl0 hsc hi hav ep ev e1 q1 q2 hkl hwl v1
    go_enter Try.func38, Try.ntmps38
    go_wp2_with (go_at_call 54; refine hc.mono ?_; rintro e w1 ⟨rfl, hB⟩; have HB : Hid _ := hB; clear hB)
    go_ret2
    exact ⟨rfl, HS.out _ _ HB.out⟩
  · have ep : m.dropped ref = m.upd ref ((m.at ref).with l) := by unfold M.dropped; rw [if_pos e1, q2]; simp
    have ev2 : m.dropV ref = y := by unfold M.dropV; rw [if_pos e1, q2]; simp
    rw [e1, ep, ev2]
    have hk0 : (m.at ref).kind ≠ 0 := by omega
    obtain ⟨a1, a2, a3, a4, a5⟩ := H0.ref hk0
    have hlen : (m.at ref).words.length = l.length + 1 := by rw [q2]; simp
    have hav' := hav hk0
    rw [hlen] at a4 hc hav' hwl
    obtain ⟨g, cap', cur, ev, hg, k1, k2, k3, k4⟩ := a4.block (by omega)
    rw [hav'] at ev
    cases ev
    obtain ⟨G, CAP, CUR, evt, HG, K1, K2, K3, K4⟩ := H0.row.block (by omega)
    subst evt
    have hob : (vs (m.idx ref)).ownBlock = some g := by rw [hav']; rfl
    have HR : Hid (∀ W, Below w.heap.size w W → (W.cell? ⟨q, 0, none⟩ = some (.slice (some ⟨G, 0, none⟩) m.ths.length CAP) ∧ (∃ z, W.cell? ⟨G, m.idx ref * 4 + 3, none⟩ = some z) ∧ W.frozen? ⟨G, m.idx ref * 4 + 3, none⟩ = false ∧ W.cell? ⟨g, l.length, none⟩ = some (.int .u64 y)) ∧ RRet w q (m.upd ref ((m.at ref).with l)) F (W.setCell ⟨G, m.idx ref * 4 + 3, none⟩ (.slice (some ⟨g, 0, none⟩) l.length cap)).drew) := by
      intro W hB
      have H := H0.on (w' := W) fun b hbk => hB.block b (hl0 b (hF b hbk))
      have b4 := H.rows _ _ a3
      rw [hav', hlen, q2] at b4
      have hcell := b4.cells l.length (.int .u64 y) (by rw [wordV_snoc, ← wordV_length l]; simp)
      have d3 := H.row.cells (m.idx ref * 4 + 3) _ (by rw [rcells_get vs m.ths _ 3 _ a3 (by omega)]; rfl)
      have hgW := hg.below hB
      have hGW := HG.below hB
      have ap := H.apart a1
      refine ⟨⟨(own3 H.own).1, ⟨_, d3⟩, hGW.froz _, hcell⟩, ?_⟩
      have hcut : Rw W 24 1 (.slice (some ⟨g, 0, none⟩) l.length cap) l.length (wordV l) := by
        have := Rw.cut (k := l.length) hgW k3 (Nat.le_succ _) k1 k2 k4 k3 (fun _ _ => rfl)
        rwa [q2, wordV_take] at this
      refine RRet.base (w := W) ?_ hB
      have hGg : G ≠ g := fun e => ap.2 g hob (by rw [← e]; rfl)
      have hGq : q ≠ G := fun e => H.row.ne H.own (by decide) (by rw [e]; rfl)
      have RR : RRet W q ⟨m.ths.set (m.idx ref) ((m.at ref).with l), m.used, m.limit⟩ F (W.setCell ⟨G, m.idx ref * 4 + 3, none⟩ (.slice (some ⟨g, 0, none⟩) l.length cap)) := by
        refine rret_write H hF ref l m.used (.slice (some ⟨g, 0, none⟩) l.length cap) hk0 (H.own.other hGq _) (H.row.setc (by omega) _) (hcut.set (by intro e; exact hGg (Option.some.inj e).symm) _ _) (fun b hb e1 e2 e3 => Below.heap_setCell W ⟨G, _, none⟩ _ b (by rintro rfl; exact e2 rfl)) (fun g' hg' => .inl (by rw [hob]; exact hg')) ((Fr.refl F W).set (.inr (hF G (.inr (.inl rfl)))) _ _)
      obtain ⟨F', r1, r2, r3⟩ := RR
      exact ⟨F', r1.below ⟨rfl, rfl, rfl, Nat.le_refl _, fun _ _ => rfl⟩, r2, r3.drew⟩
    have hqG : q ≠ G := fun e => H0.row.ne H0.own (by decide) (by rw [e]; rfl)
    have hgG : g ≠ G := fun e => (H0.apart a1).2 g hob (by rw [e]; rfl)
    have hgl := hg.lt
    have hGl := HG.lt
    have hql := H0.own.lt
    generalize m.upd ref ((m.at ref).with l) = M' at *
    generalize (m.at ref).typ = ty at *
    generalize (m.at ref).text = tx at *
    have hck : ((m.at ref).kind : Int) = 4 := by omega
    rw [hck] at hc
    obtain ⟨n, hnn⟩ : ∃ n, Hid (m.ths.length = n) := ⟨_, rfl⟩
    obtain ⟨L, hLL⟩ : ∃ n, Hid (l.length = n) := ⟨_, rfl⟩
    rw [hnn.out] at HR a1 hn
    rw [hLL.out] at HR hc hwl k1
    generalize m.idx ref = k at *
    subst a2
    unfold maxLen at v2 k2
    have hLc : L ≤ cap := by omega
    have q0 : ¬ ((L : Int) + 1 = 0) := by omega
    have q0b : ((L : Int) + 1 == 0) = false := by simp; omega
    clear H0 hF hl0 hsc hi hav hav' hlen ep ev2 e1 q1 q2 hkl a4 a5 a3 hg k4 k3 HG K4 K3 K2 K1 hob hk0 v1 hnn hLL hck HS
    go_enter Try.func38, Try.ntmps38
    go_upto_region 7 with (go_at_call 54; refine hc.mono ?_; rintro e w1 ⟨rfl, hB⟩; have HB : Hid _ := hB; clear hB)
    have hs1 := HB.out.size
    have bx := Own.new w1 #[.int .i64 4, .int .i64 ty, .string tx, .slice (some ⟨g, 0, none⟩) (L + 1) cap] 88
    obtain ⟨⟨x0, ⟨z, x1⟩, x2, x3⟩, RR⟩ := HR.out _ (boxB (.cells #[.int .i64 4, .int .i64 ty, .string tx, .slice (some ⟨g, 0, none⟩) (L + 1) cap] 88) HB.out)
    obtain ⟨B, hBB⟩ : ∃ B, Hid (w1.heap.size = B) := ⟨_, rfl⟩
    rw [hBB.out] at bx hs1 ⊢
    obtain ⟨W, hW⟩ : ∃ W, Hid (w1.alloc (.cells #[.int .i64 4, .int .i64 ty, .string tx, .slice (some ⟨g, 0, none⟩) (L + 1) cap] 88) = W) := ⟨_, rfl⟩
    rw [hW.out] at bx x0 x1 x2 x3 RR ⊢
    obtain ⟨b0, b1, b2, b3, -⟩ := own4 bx
    have HRR : Hid _ := RR
    have hGB : G ≠ B := by omega
    have hGg2 : True := trivial
    have y3 : ∀ u, (W.setCell ⟨G, k * 4 + 3, none⟩ u).cell? ⟨B, 3, none⟩ = some (.slice (some ⟨g, 0, none⟩) (L + 1) cap) := fun u => (own4 (bx.other (i := k * 4 + 3) (Ne.symm hGB) u)).2.2.2.1
    have y0 : ∀ u, (W.setCell ⟨G, k * 4 + 3, none⟩ u).cell? ⟨q, 0, none⟩ = some (.slice (some ⟨G, 0, none⟩) n CAP) := fun u => (World.cell?_of_block (a := ⟨q, 0, none⟩) (Below.heap_setCell W ⟨G, k * 4 + 3, none⟩ u q hqG)).trans x0
    have y4 : ∀ u, (W.setCell ⟨G, k * 4 + 3, none⟩ u).cell? ⟨g, L, none⟩ = some (.int .u64 y) := fun u => (World.cell?_of_block (a := ⟨g, L, none⟩) (Below.heap_setCell W ⟨G, k * 4 + 3, none⟩ u g hgG)).trans x3
    have w1x : IntKind.i64.wrap ((L : Int) + 1 - 1) = (L : Int) := by rw [IntWalk.i64_left, IntWalk.wrap64_in _ (by omega)]; omega
    have w2x : IntKind.i64.wrap (L : Int) = (L : Int) := by rw [IntWalk.i64_left, IntWalk.wrap64_in _ (by omega)]
    have w3x : IntKind.u64.wrap ((k : Int) + 1 - 1) = (k : Int) := by show ((k : Int) + 1 - 1) % 18446744073709551616 = _; omega
    have w4x : IntKind.u64.wrap (k : Int) = (k : Int) := by show (k : Int) % 18446744073709551616 = _; omega
    have i1x : (0 : Int) ≤ (L : Int) := by omega
    have i2x : (L : Int) ≤ (cap : Int) := by omega
    have i3x : (0 : Int) ≤ (k : Int) := by omega
    have i4x : (k : Int) < (n : Int) := by omega
    clear HR HB RR bx hc hW hBB hs1 b0 b1 b2 hGg2 hwl k1 hgl hGl hql q0 q0b
    go_region_held3 (fun w' => w'.cell? ⟨q, 0, none⟩ = some (.slice (some ⟨G, 0, none⟩) n CAP) ∧ w'.cell? ⟨B, 3, none⟩ = some (.slice (some ⟨g, 0, none⟩) (L + 1) cap)) (go_keep) (fail)
    all_goals (
      go_wp2_with fail
      go_ret2
      exact ⟨rfl, HRR.out⟩)
end Go.Proofs.Ytcohgbelcbniaaa
