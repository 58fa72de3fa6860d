/-
  CONTRACTS of the landed heap's calls on a thing: Get, Set, Len, Type, Bytes.
-/
import Derived.Test.YtchamkiffkngjaaWord
namespace Go.Proofs.Ytchamkiffkngjaa
open Go.RowKit
set_option linter.unusedVariables false

theorem has_cases (m : M) (ref i : Int) : m.has ref i = true ∧ m.getT ref i = 0 ∧ m.getV ref i = (m.at ref).words.getD i.toNat 0 ∨ m.has ref i = false ∧ m.getT ref i = 2 ∧ m.getV ref i = 0 := by
  unfold M.getT M.getV
  cases h : m.has ref i
  · exact .inr ⟨rfl, by simp, by simp⟩
  · exact .inl ⟨rfl, by simp, by simp⟩
theorem wordV_at (xs : List Int) (i : Nat) (h : i < xs.length) : (wordV xs)[i]? = some (.int .u64 (xs.getD i 0)) := by
  unfold wordV
  rw [List.getElem?_map, List.getElem?_eq_getElem h, List.getD_eq_getElem?_getD, List.getElem?_eq_getElem h]; rfl
set_option maxRecDepth 100000 in
set_option maxHeartbeats 1000000 in
theorem getS {w : World} {p : Nat} {m : M} {F : Nat → Prop} (h : HAt w p m F) (hn : m.ths.length ≤ 1000000) (ref i : Int) (h0 : 0 ≤ ref) (h1 : ref < 18446744073709551616) (hi1 : -9223372036854775808 ≤ i) (hi2 : i < 9223372036854775808) :
    Calls Try.prog 9 #[ptr p, .int .u64 ref, .int .i64 i] w fun e w' => e = .returned (.tuple #[.int .u64 (m.getV ref i), .int .i64 (m.getT ref i)]) ∧ w = w' := by
  obtain ⟨vt, bs, vs, H, -, -⟩ := h
  rcases has_cases m ref i with ⟨hh, e1, e2⟩ | ⟨hh, e1, e2⟩
  · obtain ⟨g, cap, ev, hc⟩ := word_yes H hn ref i h0 h1 hh
    obtain ⟨q1, q2, q3⟩ := has_iff.1 hh
    obtain ⟨-, -, -, ht, hm⟩ := H.ref (has_kind H.inv hh)
    have hr := ht.row
    rw [ev] at hr
    have hcell := hr.cells i.toNat _ (wordV_at _ _ (by omega))
    rw [e1, e2]
    generalize (m.at ref).words.getD i.toNat 0 = x at *
    generalize i.toNat = j at *
    clear H ht hm hr ev hh
    go_enter Try.func9, Try.ntmps9
    go_wp2_with (go_at_call 23; refine hc.mono ?_; rintro e w1 ⟨rfl, rfl⟩)
    go_ret2
    exact ⟨rfl, rfl⟩
  · have hc := word_no H hn ref i h0 h1 hi1 hi2 hh
    rw [e1, e2]
    clear H hh
    go_enter Try.func9, Try.ntmps9
    go_wp2_with (go_at_call 23; refine hc.mono ?_; rintro e w1 ⟨rfl, rfl⟩)
    go_ret2
    exact ⟨rfl, rfl⟩
theorem wordV_set (xs : List Int) (j : Nat) (x : Int) : wordV (xs.set j x) = (wordV xs).set j (.int .u64 x) := by unfold wordV; rw [List.map_set]
theorem Rw.setw {w : World} {g n cap : Nat} {xs : List Int} (h : Rw w 24 1 (.slice (some ⟨g, 0, none⟩) n cap) n (wordV xs)) {j : Nat} (hj : j < n) (x : Int) : Rw (w.setCell ⟨g, j, none⟩ (.int .u64 x)) 24 1 (.slice (some ⟨g, 0, none⟩) n cap) n (wordV (xs.set j x)) := by
  have hl := h.1
  rcases h.2 with ⟨e, _⟩ | ⟨g', cap', cur, e, _, hg, h3, h4, h5, h6⟩
  · cases e
  · cases e
    refine ⟨by rw [wordV_set, List.length_set]; exact hl, .inr ⟨g, cap, cur.setIfInBounds j (.int .u64 x), rfl, Nat.zero_le _, heap_set w g j cur 24 (0, 0) _ hg, h3, h4, by simpa using h5, ?_⟩⟩
    rw [wordV_set, ← h6, Array.toList_setIfInBounds, List.take_set]
/-- What a change of one thing leaves. -/
theorem ret_write {w w' : World} {p : Nat} {m : M} {F : Nat → Prop} {vt : Value} {bs : Nat → Nat} {vs : Nat → Value} (H : HOwn w p m vt bs vs) (hF : ∀ b, Blk p m.ths.length vt bs vs b → F b) (ref : Int) (t : Th) (u : Nat) (v : Value) (hk : (m.at ref).kind ≠ 0) (hkd : t.kind = (m.at ref).kind)
    (ho : Own w' p #[.bool true, .int .i64 (m.limit : Int), .int .i64 (u : Int), vt] 45) (ht : ThIn w' (bs (m.idx ref)) v t)
    (hb : ∀ b, b < w.heap.size → b ≠ p → b ≠ bs (m.idx ref) → (vs (m.idx ref)).ownBlock ≠ some b → w'.heap[b]? = w.heap[b]?)
    (hv : ∀ g, v.ownBlock = some g → (vs (m.idx ref)).ownBlock = some g ∨ w.heap.size ≤ g) (hf : Fr F w w') (hi : Inv ⟨m.ths.set (m.idx ref) t, u, m.limit⟩) : HRet w p ⟨m.ths.set (m.idx ref) t, u, m.limit⟩ F w' := by
  obtain ⟨a1, a2, a3, a4, a5⟩ := H.ref hk
  have HW := H.write (w' := w') (m.idx ref) (m.at ref) t u v a3 hkd ho (fun g hg => ?_) ht (fun i hi hne => ?_) (fun i hi hne g hg e => ?_) hi
  refine HRet.mk' (n := m.ths.length) (vt := vt) (bs := bs) (vs := vs) hF HW (fun b hb => ?_) hf
  · have e : (M.mk (m.ths.set (m.idx ref) t) u m.limit).ths.length = m.ths.length := List.length_set
    rw [e] at hb
    rcases hb with q | q | q | ⟨i, hi, q⟩
    · exact .inl (.inl q)
    · exact .inl (.inr (.inl q))
    · exact .inl (.inr (.inr (.inl q)))
    · by_cases hik : i = m.idx ref
      · simp only [if_pos hik] at q
        rcases hv b q with q | q
        · exact .inl (.inr (.inr (.inr ⟨_, a1, q⟩)))
        · exact .inr q
      · simp only [if_neg hik] at q
        exact .inl (.inr (.inr (.inr ⟨i, hi, q⟩)))
  · have ap := H.apart a1
    refine hb g (H.row.lt hg) ?_ ?_ ?_
    · rintro rfl; exact H.row.ne H.own (by decide) hg
    · rintro rfl; exact ap.2.1 hg
    · exact fun e => ap.2.2.2.1 g e hg
  · have ap := H.apart hi
    have ak := H.apart a1
    have ti := H.thing i _ (List.getElem?_eq_getElem hi)
    refine ⟨hb _ ti.own.lt ap.1 (fun e => hne (H.injB i _ hi a1 e)) (fun e => ap.2.2.2.2 _ a1 e), fun g hg => hb g (ti.row.lt hg) ?_ ?_ ?_⟩
    · rintro rfl; exact ap.2.2.1 hg
    · rintro rfl; exact ak.2.2.2.2 i hi hg
    · exact fun e => hne (H.injV i _ g hi a1 hg e)
  · rcases hv g e with q | q
    · exact hne (H.injV i _ g hi a1 hg q)
    · have := (H.thing i _ (List.getElem?_eq_getElem hi)).row.lt hg
      omega
set_option maxRecDepth 100000 in
set_option maxHeartbeats 1000000 in
theorem setS {w : World} {p : Nat} {m : M} {F : Nat → Prop} (h : HAt w p m F) (hn : m.ths.length ≤ 1000000) (ref i x : Int) (h0 : 0 ≤ ref) (h1 : ref < 18446744073709551616) (hi1 : -9223372036854775808 ≤ i) (hi2 : i < 9223372036854775808) (hx : 0 ≤ x ∧ x < 18446744073709551616) :
    Calls Try.prog 10 #[ptr p, .int .u64 ref, .int .i64 i, .int .u64 x] w fun e w' => e = .returned (.int .i64 (m.getT ref i)) ∧ HRet w p (m.put ref i x) F w' := by
  have hsc := h
  obtain ⟨vt, bs, vs, H, hF, -⟩ := h
  rcases has_cases m ref i with ⟨hh, e1, -⟩ | ⟨hh, e1, -⟩
  · obtain ⟨g, cap, ev, hc⟩ := word_yes H hn ref i h0 h1 hh
    obtain ⟨q1, q2, q3⟩ := has_iff.1 hh
    have hk := has_kind H.inv hh
    obtain ⟨a1, a2, a3, ht, hm⟩ := H.ref hk
    have hr := ht.row
    rw [ev] at hr
    have hcell := hr.cells i.toNat _ (wordV_at _ _ (by omega))
    have hgo : ∃ cur, Own w g cur 24 := by
      rcases hr.2 with ⟨e, _⟩ | ⟨g', cap', cur, e, _, hg, _⟩
      · cases e
      · cases e; exact ⟨cur, hg⟩
    obtain ⟨cur, hgo⟩ := hgo
    have hfz := hgo.froz i.toNat
    have HR : Hid (HRet w p (m.put ref i x) F (w.setCell ⟨g, i.toNat, none⟩ (.int .u64 x))) := by
      have hi := H.inv.put ref i x hx
      have ep : m.put ref i x = ⟨m.ths.set (m.idx ref) ((m.at ref).with ((m.at ref).words.set i.toNat x)), m.used, m.limit⟩ := by unfold M.put; rw [if_pos hh]; rfl
      unfold Hid
      rw [ep] at hi ⊢
      have hob : (vs (m.idx ref)).ownBlock = some g := by rw [ev]; rfl
      have ap := H.apart a1
      have hgp : p ≠ g := by rintro rfl; exact ap.2.2.1 hob
      have hgb : bs (m.idx ref) ≠ g := by intro e; exact ap.2.2.2.2 _ a1 (by rw [hob, e])
      refine ret_write H hF ref _ m.used (vs (m.idx ref)) hk rfl (H.own.other hgp _) ?_ (fun b hb e1 e2 e3 => Below.heap_setCell w ⟨g, i.toNat, none⟩ _ b (by rintro rfl; exact e3 hob)) (fun g hg => .inl hg) ((Fr.refl F w).set (.inr (hF g (.inr (.inr (.inr ⟨_, a1, hob⟩))))) _ _) hi
      refine ⟨?_, ?_⟩
      · have := (ht.row2 q1).other hgb (i := i.toNat) (.int .u64 x)
        show Own _ _ (ThCells ((m.at ref).with _) _) _
        unfold ThCells
        rw [if_neg (by exact q1)]
        exact this
      · show Rw _ 24 1 _ ((m.at ref).words.set i.toNat x).length (wordV ((m.at ref).words.set i.toNat x))
        rw [List.length_set, ev]
        exact hr.setw (by omega) x
    rw [e1]
    generalize i.toNat = j at *
    clear H ht hm hr ev hh hF hsc hgo q2 q3 a1 a2 a3 hi1 hi2 hx
    go_enter Try.func10, Try.ntmps10
    go_wp2_with (go_at_call 23; refine hc.mono ?_; rintro e w1 ⟨rfl, rfl⟩)
    go_ret
    exact ⟨rfl, HR.out⟩
  · have hc := word_no H hn ref i h0 h1 hi1 hi2 hh
    have ep : m.put ref i x = m := by unfold M.put; rw [if_neg (by rw [hh]; simp)]
    have HR : Hid (HRet w p m F w) := HRet.same hsc (Below.refl _ _)
    rw [e1, ep]
    clear H hh hF hsc
    go_enter Try.func10, Try.ntmps10
    go_wp2_with (go_at_call 23; refine hc.mono ?_; rintro e w1 ⟨rfl, rfl⟩)
    go_ret
    exact ⟨rfl, HR.out⟩
end Go.Proofs.Ytchamkiffkngjaa
