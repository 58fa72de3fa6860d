/-
  CONTRACTS of the document's own heap: has, Get, Set, Len, Type, Bytes.
-/
import Derived.Test.YtcohgbelcbniaaaRfA
namespace Go.Proofs.Ytcohgbelcbniaaa
open Go.RowKit
set_option linter.unusedVariables false

set_option maxRecDepth 100000 in
set_option maxHeartbeats 1000000 in
theorem hasR {w : World} {q : Nat} {m : M} {vt : Value} {vs : Nat → Value} (H : ROwn w q m vt vs) (hi : Inv m) (hn : m.ths.length ≤ 1000000) (ref i : Int) (h0 : 0 ≤ ref) (h1 : ref < 18446744073709551616) (hi1 : -9223372036854775808 ≤ i) (hi2 : i < 9223372036854775808) :
    Calls Try.prog 53 #[ptr q, .int .u64 ref, .int .i64 i] w fun e w' => e = .returned (.bool (m.has ref i)) ∧ Below w.heap.size w w' := by
  obtain ⟨ao, cap, -, v1, v2, hc⟩ := atR H hi hn ref h0 h1
  have hkl := kind_le hi ref
  have hb : m.has ref i = decide ((m.at ref).kind ≠ 1 ∧ 0 ≤ i ∧ i < (m.at ref).words.length) := rfl
  rw [hb]
  clear hb
  generalize (m.at ref).kind = kd at *
  generalize (m.at ref).typ = ty at *
  generalize (m.at ref).text = tx at *
  generalize (m.at ref).words.length = wl at *
  unfold maxLen at v2
  have HB : Hid (∀ w1 o, Below w.heap.size w w1 → Below w.heap.size w (w1.alloc o)) := fun w1 o h => h.trans (((Below.refl _ w1).alloc (Nat.le_refl _) o).mono h.size)
  clear H hi
  by_cases k1 : kd = 1
  · subst k1
    have e : decide ((1 : Nat) ≠ 1 ∧ 0 ≤ i ∧ i < (wl : Int)) = false := by simp
    rw [e]
    go_enter Try.func53, Try.ntmps53
    go_wp2_with (go_at_call 54; refine hc.mono ?_; rintro e w1 ⟨rfl, hB⟩)
    go_ret
    exact ⟨by first | rfl | simp [k1b] | simp [k1b, g2b], HB.out _ _ hB⟩
  have k1i : ¬ (kd : Int) = 1 := by omega
  have k1b : ((kd : Int) != 1) = true := by simp; omega
  by_cases g1 : 0 ≤ i
  · by_cases g2 : i < wl
    · have e : decide (kd ≠ 1 ∧ 0 ≤ i ∧ i < (wl : Int)) = true := by simp; exact ⟨k1, g1, g2⟩
      rw [e]
      go_enter Try.func53, Try.ntmps53
      go_wp2_with (go_at_call 54; refine hc.mono ?_; rintro e w1 ⟨rfl, hB⟩)
      go_ret
      exact ⟨by first | rfl | simp [k1b] | simp [k1b, g2b], HB.out _ _ hB⟩
    · have e : decide (kd ≠ 1 ∧ 0 ≤ i ∧ i < (wl : Int)) = false := by simp; omega
      have g2b : decide (i < (wl : Int)) = false := by simpa using g2
      rw [e]
      go_enter Try.func53, Try.ntmps53
      go_wp2_with (go_at_call 54; refine hc.mono ?_; rintro e w1 ⟨rfl, hB⟩)
      go_ret
      exact ⟨by first | rfl | simp [k1b] | simp [k1b, g2b], HB.out _ _ hB⟩
  · have e : decide (kd ≠ 1 ∧ 0 ≤ i ∧ i < (wl : Int)) = false := by simp; omega
    rw [e]
    go_enter Try.func53, Try.ntmps53
    go_wp2_with (go_at_call 54; refine hc.mono ?_; rintro e w1 ⟨rfl, hB⟩)
    go_ret
    exact ⟨by first | rfl | simp [k1b] | simp [k1b, g2b], HB.out _ _ hB⟩
/-- The thing of a reference, in memory. -/
theorem ROwn.ref {w : World} {q : Nat} {m : M} {vt : Value} {vs : Nat → Value} (H : ROwn w q m vt vs) {ref : Int} (hk : (m.at ref).kind ≠ 0) : m.idx ref < m.ths.length ∧ ref = (m.idx ref : Int) + 1 ∧ m.ths[m.idx ref]? = some (m.at ref) ∧ Rw w 24 1 (vs (m.idx ref)) (m.at ref).words.length (wordV (m.at ref).words) ∧ m.at ref ∈ m.ths := by
  obtain ⟨a1, a2⟩ := at_mem hk
  obtain ⟨k, h1, h2, h3⟩ := at_some a1 a2
  have e : m.idx ref = k := by unfold M.idx; omega
  rw [e]
  exact ⟨h1, h2, h3, H.rows k _ h3, List.mem_of_getElem? h3⟩
set_option maxRecDepth 100000 in
set_option maxHeartbeats 1000000 in
theorem getR {w : World} {q : Nat} {m : M} {F : Nat → Prop} (h : RAt w q m F) (hi : Inv m) (hn : m.ths.length ≤ 1000000) (ref i : Int) (h0 : 0 ≤ ref) (h1 : ref < 18446744073709551616) (hi1 : -9223372036854775808 ≤ i) (hi2 : i < 9223372036854775808) :
    Calls Try.prog 35 #[ptr q, .int .u64 ref, .int .i64 i] w fun e w' => e = .returned (.tuple #[.int .u64 (m.getV ref i), .int .i64 (m.getT ref i)]) ∧ Below w.heap.size w w' := by
  obtain ⟨vt, vs, H, -, -⟩ := h
  have hh := hasR H hi hn ref i h0 h1 hi1 hi2
  rcases has_cases m ref i with ⟨hb, e1, e2⟩ | ⟨hb, e1, e2⟩
  · rw [hb] at hh
    rw [e1, e2]
    obtain ⟨q1, q2, q3⟩ := has_iff.1 hb
    obtain ⟨a1, a2, a3, a4, a5⟩ := H.ref (has_kind hi hb)
    obtain ⟨g, cap, cur, ev, hg, k1, k2, k3, k4⟩ := a4.block (by omega)
    have hrow := H.row
    obtain ⟨G, CAP, CUR, evt, HG, K1, K2, K3, K4⟩ := hrow.block (by omega)
    rw [ev] at a4
    have hcell := a4.cells i.toNat _ (wordV_at _ _ (by omega))
    subst evt
    have d3 := hrow.cells (m.idx ref * 4 + 3) _ (by rw [rcells_get vs m.ths _ 3 _ a3 (by omega)]; rfl)
    rw [ev] at d3
    have hwl := hi.words _ a5
    have hul := hi.used
    have hll := hi.limit
    obtain ⟨c0, -, -, -⟩ := own3 H.own
    have HC : Hid (∀ w1, Below w.heap.size w w1 → w1.cell? ⟨q, 0, none⟩ = w.cell? ⟨q, 0, none⟩ ∧ w1.cell? ⟨G, m.idx ref * 4 + 3, none⟩ = w.cell? ⟨G, m.idx ref * 4 + 3, none⟩ ∧ w1.cell? ⟨g, i.toNat, none⟩ = w.cell? ⟨g, i.toNat, none⟩) := fun w1 hB => ⟨hB.cell (p := ⟨q, 0, none⟩) H.own.lt, hB.cell (p := ⟨G, _, none⟩) HG.lt, hB.cell (p := ⟨g, _, none⟩) hg.lt⟩
    rw [c0, d3, hcell] at HC
    generalize m.idx ref = k at *
    obtain ⟨n, hnn⟩ : ∃ n, Hid (m.ths.length = n) := ⟨_, rfl⟩
    obtain ⟨l, hll2⟩ : ∃ n, Hid ((m.at ref).words.length = n) := ⟨_, rfl⟩
    rw [hnn.out, hll2.out] at HC
    rw [hnn.out] at a1 hn
    rw [hll2.out] at q3 hwl
    obtain ⟨j, rfl⟩ : ∃ j : Nat, i = (j : Int) := ⟨i.toNat, by omega⟩
    have hjt : ((j : Int)).toNat = j := by omega
    rw [hjt] at HC ⊢
    have hjl : j < l := by omega
    have hl2 : l ≤ 1048576 := by omega
    generalize (m.at ref).words.getD j 0 = x at *
    subst a2
    clear H hrow a4 a5 hg k4 HG K4 hb hnn hll2 c0 d3 hcell hwl hul hll q2 q3 a3 ev hjt K1 K2 K3 k1 k2 k3
    go_enter Try.func35, Try.ntmps35
    go_wp2_with (go_at_call 53; refine hh.mono ?_; rintro e w1 ⟨rfl, hB⟩; obtain ⟨x0, x1, x2⟩ := HC.out w1 hB; have HB : Hid _ := hB; clear hB)
    go_ret2
    exact ⟨rfl, HB.out⟩
  · rw [hb] at hh
    rw [e1, e2]
    clear H
    go_enter Try.func35, Try.ntmps35
    go_wp2_with (go_at_call 53; refine hh.mono ?_; rintro e w1 ⟨rfl, hB⟩; have HB : Hid _ := hB; clear hB)
    go_ret2
    exact ⟨rfl, HB.out⟩
/-- What a change of one thing leaves. -/
theorem rret_write {w w' : World} {q : Nat} {m : M} {F : Nat → Prop} {vt : Value} {vs : Nat → Value} (H : ROwn w q m vt vs) (hF : ∀ b, RBlk q m.ths.length vt vs b → F b) (ref : Int) (ws : List Int) (u : Nat) (v : Value) (hk : (m.at ref).kind ≠ 0)
    (ho : Own w' q #[vt, .int .i64 (u : Int), .int .i64 (m.limit : Int)] 36) (hr : Rw w' 88 4 vt m.ths.length ((rcells vs m.ths).set (m.idx ref * 4 + 3) v)) (ht : Rw w' 24 1 v ws.length (wordV ws))
    (hb : ∀ b, b < w.heap.size → b ≠ q → vt.ownBlock ≠ some b → (vs (m.idx ref)).ownBlock ≠ some b → w'.heap[b]? = w.heap[b]?)
    (hv : ∀ g, v.ownBlock = some g → (vs (m.idx ref)).ownBlock = some g ∨ w.heap.size ≤ g) (hf : Fr F w w') : RRet w q ⟨m.ths.set (m.idx ref) ((m.at ref).with ws), u, m.limit⟩ F w' := by
  obtain ⟨a1, a2, a3, a4, a5⟩ := H.ref hk
  have HW : ROwn w' q ⟨m.ths.set (m.idx ref) ((m.at ref).with ws), u, m.limit⟩ vt (fun i => if i = m.idx ref then v else vs i) := by
    refine ⟨ho, ?_, ?_, ?_⟩
    · show Rw w' 88 4 vt (m.ths.set (m.idx ref) ((m.at ref).with ws)).length (rcells _ (m.ths.set (m.idx ref) ((m.at ref).with ws)))
      rw [rcells_set vs m.ths (m.idx ref) (m.at ref) ((m.at ref).with ws) v a3 rfl rfl rfl, List.length_set]
      exact hr
    · intro i t hti
      have hti2 : (m.ths.set (m.idx ref) ((m.at ref).with ws))[i]? = some t := hti
      by_cases hik : i = m.idx ref
      · rw [hik, List.getElem?_set_self a1] at hti2
        cases hti2
        simp only [if_pos hik]
        exact ht
      · rw [List.getElem?_set_ne (Ne.symm hik)] at hti2
        have hl := (List.getElem?_eq_some_iff.1 hti2).1
        simp only [if_neg hik]
        exact (H.rows i t hti2).on fun g hg => hb g ((H.rows i t hti2).lt hg) (by rintro rfl; exact (H.apart hl).1 hg) ((H.apart hl).2 g hg) fun e => hik (H.injV i _ g hl a1 hg e)
    · intro i j g hi hj hig hjg
      simp only [List.length_set] at hi hj
      by_cases x1 : i = m.idx ref
      · by_cases x2 : j = m.idx ref
        · rw [x1, x2]
        · simp only [if_pos x1] at hig
          simp only [if_neg x2] at hjg
          rcases hv g hig with z | z
          · exact absurd (H.injV j _ g hj a1 hjg z) x2
          · have := (H.rows j _ (List.getElem?_eq_getElem hj)).lt hjg; omega
      · by_cases x2 : j = m.idx ref
        · simp only [if_neg x1] at hig
          simp only [if_pos x2] at hjg
          rcases hv g hjg with z | z
          · exact absurd (H.injV i _ g hi a1 hig z) x1
          · have := (H.rows i _ (List.getElem?_eq_getElem hi)).lt hig; omega
        · simp only [if_neg x1] at hig
          simp only [if_neg x2] at hjg
          exact H.injV i j g hi hj hig hjg
  refine RRet.mk' (n := m.ths.length) (vt := vt) (vs := vs) hF HW (fun b hbk => ?_) hf
  have e : (M.mk (m.ths.set (m.idx ref) ((m.at ref).with ws)) u m.limit).ths.length = m.ths.length := List.length_set
  rw [e] at hbk
  rcases hbk with z | z | ⟨i, hi, z⟩
  · exact .inl (.inl z)
  · exact .inl (.inr (.inl z))
  · by_cases hik : i = m.idx ref
    · simp only [if_pos hik] at z
      rcases hv b z with z | z
      · exact .inl (.inr (.inr ⟨_, a1, z⟩))
      · exact .inr z
    · simp only [if_neg hik] at z
      exact .inl (.inr (.inr ⟨i, hi, z⟩))
set_option maxRecDepth 100000 in
set_option maxHeartbeats 1000000 in
theorem setR {w : World} {q : Nat} {m : M} {F : Nat → Prop} (h : RAt w q m F) (hi : Inv m) (hn : m.ths.length ≤ 1000000) (ref i x : Int) (h0 : 0 ≤ ref) (h1 : ref < 18446744073709551616) (hi1 : -9223372036854775808 ≤ i) (hi2 : i < 9223372036854775808) :
    Calls Try.prog 36 #[ptr q, .int .u64 ref, .int .i64 i, .int .u64 x] w fun e w' => e = .returned (.int .i64 (m.getT ref i)) ∧ RRet w q (m.put ref i x) F w' := by
  have hsc := h
  obtain ⟨vt, vs, H0, hF, hl0⟩ := h
  have hh := hasR H0 hi hn ref i h0 h1 hi1 hi2
  rcases has_cases m ref i with ⟨hb, e1, e2⟩ | ⟨hb, e1, e2⟩
  · rw [hb] at hh
    rw [e1]
    obtain ⟨q1, q2, q3⟩ := has_iff.1 hb
    have hk0 := has_kind hi hb
    obtain ⟨a1, a2, a3, a4, a5⟩ := H0.ref hk0
    obtain ⟨g, cap, cur, ev, hg, k1, k2, k3, k4⟩ := a4.block (by omega)
    obtain ⟨G, CAP, CUR, evt, HG, K1, K2, K3, K4⟩ := H0.row.block (by omega)
    subst evt
    have HR : Hid (∀ w1, Below w.heap.size w w1 → (w1.cell? ⟨q, 0, none⟩ = some (.slice (some ⟨G, 0, none⟩) m.ths.length CAP) ∧ w1.cell? ⟨G, m.idx ref * 4 + 3, none⟩ = some (.slice (some ⟨g, 0, none⟩) (m.at ref).words.length cap) ∧ (∃ y, w1.cell? ⟨g, i.toNat, none⟩ = some y) ∧ w1.frozen? ⟨g, i.toNat, none⟩ = false) ∧ RRet w q (m.put ref i x) F (w1.setCell ⟨g, i.toNat, none⟩ (.int .u64 x))) := by
      intro w1 hB
      have H := H0.on (w' := w1) fun b hbk => hB.block b (hl0 b (hF b hbk))
      have b4 := H.rows _ _ a3
      rw [ev] at b4
      have hcell := b4.cells i.toNat _ (wordV_at _ _ (by omega))
      have d3 := H.row.cells (m.idx ref * 4 + 3) _ (by rw [rcells_get vs m.ths _ 3 _ a3 (by omega)]; rfl)
      rw [ev] at d3
      have hgo := hg.below hB
      refine ⟨⟨(own3 H.own).1, d3, ⟨_, hcell⟩, hgo.froz _⟩, ?_⟩
      have hob : (vs (m.idx ref)).ownBlock = some g := by rw [ev]; rfl
      have ap := H.apart a1
      have ep : m.put ref i x = ⟨m.ths.set (m.idx ref) ((m.at ref).with ((m.at ref).words.set i.toNat x)), m.used, m.limit⟩ := by unfold M.put; rw [if_pos hb]; rfl
      rw [ep]
      refine RRet.base (w := w1) ?_ hB
      refine rret_write H hF ref _ m.used (vs (m.idx ref)) hk0 (H.own.other (by rintro rfl; exact ap.1 hob) _) ?_ ?_ (fun b hb1 e1 e2 e3 => Below.heap_setCell w1 ⟨g, i.toNat, none⟩ _ b (by rintro rfl; exact e3 hob)) (fun g' hg' => .inl hg') ((Fr.refl F w1).set (.inr (hF g (.inr (.inr ⟨_, a1, hob⟩)))) _ _)
      · have hx : (rcells vs m.ths).set (m.idx ref * 4 + 3) (vs (m.idx ref)) = rcells vs m.ths := by
          apply List.ext_getElem?
          intro z
          rw [List.getElem?_set]
          split
          · rename_i hz
            subst hz
            rw [rcells_get vs m.ths _ 3 _ a3 (by omega), if_pos (by rw [rcells_length]; omega)]; rfl
          · rfl
        rw [hx]
        exact H.row.set (ap.2 g hob) _ _
      · rw [List.length_set, ev]
        exact b4.setw (by omega) x
    generalize m.put ref i x = M' at *
    generalize m.idx ref = k at *
    have hwl := hi.words _ a5
    have hul := hi.used
    have hll := hi.limit
    obtain ⟨n, hnn⟩ : ∃ n, Hid (m.ths.length = n) := ⟨_, rfl⟩
    obtain ⟨l, hll2⟩ : ∃ n, Hid ((m.at ref).words.length = n) := ⟨_, rfl⟩
    rw [hnn.out, hll2.out] at HR
    rw [hnn.out] at a1 hn
    rw [hll2.out] at q3 hwl
    obtain ⟨j, rfl⟩ : ∃ j : Nat, i = (j : Int) := ⟨i.toNat, by omega⟩
    have hjt : ((j : Int)).toNat = j := by omega
    rw [hjt] at HR
    have hjl : j < l := by omega
    have hl2 : l ≤ 1048576 := by omega
    subst a2
    clear H0 a4 a5 hg k4 HG K4 hb hnn hll2 hwl hul hll q2 q3 a3 ev hjt K1 K2 K3 k1 k2 k3 hF hl0 hsc hi
    go_enter Try.func36, Try.ntmps36
    go_wp2_with (go_at_call 53; refine hh.mono ?_; rintro e w1 ⟨rfl, hB⟩; have HQ : Hid _ := HR.out w1 hB; obtain ⟨x0, x1, ⟨y, x2⟩, x3⟩ := HQ.out.1; clear hB)
    go_ret
    exact ⟨rfl, HQ.out.2⟩
  · have ep : m.put ref i x = m := by unfold M.put; rw [if_neg (by rw [hb]; simp)]
    rw [hb] at hh
    rw [e1, ep]
    have HR : Hid (∀ w1, Below w.heap.size w w1 → RRet w q m F w1) := fun w1 hB => RRet.same hsc hB
    clear H0 hF hl0 hsc
    go_enter Try.func36, Try.ntmps36
    go_wp2_with (go_at_call 53; refine hh.mono ?_; rintro e w1 ⟨rfl, hB⟩; have HQ : Hid _ := HR.out w1 hB; clear hB)
    go_ret
    exact ⟨rfl, HQ.out⟩
end Go.Proofs.Ytcohgbelcbniaaa
