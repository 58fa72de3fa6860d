/-
  CONTRACTS of the landed heap's Drop, Len, Type, Bytes.
-/
import Derived.Test.YtchamkiffkngjaaPush
namespace Go.Proofs.Ytchamkiffkngjaa
open Go.RowKit
set_option linter.unusedVariables false

theorem drop_cases (m : M) (ref : Int) : (m.at ref).kind ≠ 4 ∧ m.dropT ref = 2 ∨ (m.at ref).kind = 4 ∧ (m.at ref).words = [] ∧ m.dropT ref = 7 ∨ (m.at ref).kind = 4 ∧ (∃ l y, (m.at ref).words = l ++ [y]) ∧ m.dropT ref = 0 := by
  unfold M.dropT
  by_cases h1 : (m.at ref).kind = 4
  · rcases List.eq_nil_or_concat (m.at ref).words with h2 | ⟨l, y, h2⟩
    · exact .inr (.inl ⟨h1, h2, by simp [h1, h2]⟩)
    · rw [List.concat_eq_append] at h2
      exact .inr (.inr ⟨h1, ⟨l, y, h2⟩, by simp [h1, h2]⟩)
  · exact .inl ⟨h1, by simp [h1]⟩
theorem wordV_take (l : List Int) (y : Int) : (wordV (l ++ [y])).take (l.length * 1) = wordV l := by
  rw [wordV_snoc, Nat.mul_one, ← wordV_length l, List.take_left]
set_option maxRecDepth 100000 in
set_option maxHeartbeats 1000000 in
theorem dropS {w : World} {p : Nat} {m : M} {F : Nat → Prop} (h : HAt w p m F) (hn : m.ths.length ≤ 1000000) (ref : Int) (h0 : 0 ≤ ref) (h1 : ref < 18446744073709551616) :
    Calls Try.prog 13 #[ptr p, .int .u64 ref] w fun e w' => e = .returned (.tuple #[.int .u64 (m.dropV ref), .int .i64 (m.dropT ref)]) ∧ HRet w p (m.dropped ref) F w' := by
  have hsc := h
  obtain ⟨vt, bs, vs, H, hF, -⟩ := h
  have hf := findS H hn ref h0 h1
  have hr := rowOfS w (m.at ref).kind (bs (m.idx ref)) (kind_le H.inv ref)
  have HS : Hid (HRet w p m F w) := HRet.same hsc (Below.refl _ _)
  rcases drop_cases m ref with ⟨q1, e1⟩ | ⟨q1, q2, e1⟩ | ⟨q1, ⟨l, y, q2⟩, e1⟩
  · have ep : m.dropped ref = m := by unfold M.dropped; rw [e1]; rfl
    have ev : m.dropV ref = 0 := by unfold M.dropV; rw [e1]; rfl
    have hd : decide ((m.at ref).kind = 4) = false := by simpa using q1
    rw [hd] at hr
    rw [e1, ep, ev]
    clear hsc hF H hd ep e1
    generalize rowV (m.at ref).kind (bs (m.idx ref)) = R at *
    generalize (m.at ref).kind = K at *
    generalize bs (m.idx ref) = B at *
    clear q1
    go_enter Try.func13, Try.ntmps13
    go_wp2_with (first | (go_at_call 25; refine hf.mono ?_; rintro e w1 ⟨rfl, rfl⟩) | (go_at_call 24; refine hr.mono ?_; rintro e w1 ⟨rfl, rfl⟩))
    go_ret2
    exact ⟨rfl, HS.out⟩
  all_goals
    have hk0 : (m.at ref).kind ≠ 0 := by omega
    have hk1 : (m.at ref).kind ≠ 1 := by omega
    have hd : decide ((m.at ref).kind = 4) = true := by simpa using q1
    rw [hd, rowV_row hk0 hk1] at hr
    obtain ⟨a1, a2, a3, ht, hm⟩ := H.ref hk0
    have ow := ht.row2 hk1
    have rw0 := ht.row
    have hgl := H.inv.grow _ hm q1
  · have ep : m.dropped ref = m := by unfold M.dropped; rw [e1]; rfl
    have ev2 : m.dropV ref = 0 := by unfold M.dropV; rw [e1]; rfl
    rw [e1, ep, ev2]
    rw [q2] at rw0
    obtain ⟨ao, cap, ev, k1, k2⟩ := rw0.shape
    obtain ⟨-, c1, cf⟩ := own2 ow
    rw [ev] at c1
    simp only [List.length_nil] at c1
    clear hsc hF H hd ep e1 ht hm ev k1 k2 hgl ow rw0
    generalize (m.at ref).kind = K at *
    generalize bs (m.idx ref) = B at *
    clear q1 hk0 hk1 a1 a2 a3 q2
    go_enter Try.func13, Try.ntmps13
    go_wp2_with (first | (go_at_call 25; refine hf.mono ?_; rintro e w1 ⟨rfl, rfl⟩) | (go_at_call 24; refine hr.mono ?_; rintro e w1 ⟨rfl, rfl⟩))
    go_ret2
    exact ⟨rfl, HS.out⟩
  · have ep : m.dropped ref = m.upd ref ((m.at ref).with l) := by unfold M.dropped; rw [if_pos e1, q2]; simp
    have hinv := H.inv.dropped ref
    have ev2 : m.dropV ref = y := by unfold M.dropV; rw [if_pos e1, q2]; simp
    rw [ep] at hinv
    rw [e1, ep, ev2]
    rw [q2, List.length_append, List.length_singleton] at rw0
    rw [q2, List.length_append, List.length_singleton] at hgl
    obtain ⟨g, cap, cur, ev, hg, k1, k2, k3, k4⟩ := rw0.block (by omega)
    rw [ev] at rw0 ow
    have hcell := rw0.cells l.length (.int .u64 y) (by rw [wordV_snoc, ← wordV_length l]; simp)
    obtain ⟨-, c1, cf⟩ := own2 ow
    have hcut := Rw.cut (k := l.length) hg k3 (Nat.le_succ _) k1 k2 k4 k3 (fun _ _ => rfl)
    rw [wordV_take] at hcut
    have hob : (vs (m.idx ref)).ownBlock = some g := by rw [ev]; rfl
    have ap := H.apart a1
    have hgb : g ≠ bs (m.idx ref) := fun e => ap.2.2.2.2 _ a1 (by rw [hob, e])
    have HR : Hid (HRet w p (m.upd ref ((m.at ref).with l)) F (w.setCell ⟨bs (m.idx ref), 1, none⟩ (.slice (some ⟨g, 0, none⟩) l.length cap))) := by
      refine ret_write H hF ref ((m.at ref).with l) m.used (.slice (some ⟨g, 0, none⟩) l.length cap) hk0 rfl (H.own.other (g' := bs (m.idx ref)) (fun e => ap.1 e.symm) _) ⟨?_, ?_⟩ (fun b hb e1 e2 e3 => Below.heap_setCell w ⟨bs (m.idx ref), 1, none⟩ _ b e2) (fun g' hg' => .inl (by rw [hob]; exact hg')) ((Fr.refl F w).set (.inr (hF _ (.inr (.inr (.inl ⟨_, a1, rfl⟩))))) 1 _) hinv
      · show Own _ _ (ThCells ((m.at ref).with _) _) (kB (m.at ref).kind)
        unfold ThCells
        rw [if_neg (by exact hk1)]
        have o9 : Own (w.setCell ⟨bs (m.idx ref), 1, none⟩ (.slice (some ⟨g, 0, none⟩) l.length cap)) (bs (m.idx ref)) #[.int .i64 (m.at ref).typ, .slice (some ⟨g, 0, none⟩) l.length cap] (kB (m.at ref).kind) := by simpa using ow.set 1 (.slice (some ⟨g, 0, none⟩) l.length cap)
        exact o9
      · exact hcut.set (by intro e; exact hgb (Option.some.inj e)) 1 _
    obtain ⟨n, hnn⟩ : ∃ n, Hid (l.length = n) := ⟨_, rfl⟩
    rw [hnn.out] at c1 HR hgl hcell k1
    have hnc : n ≤ cap := by omega
    unfold maxLen at k2
    clear hsc hF H hd ep e1 ht hm ev k3 k4 hnn hinv ow rw0 hcut hob ap hg
    generalize m.upd ref ((m.at ref).with l) = M' at *
    generalize (m.at ref).kind = K at *
    generalize bs (m.idx ref) = B at *
    clear q1 hk0 hk1 a1 a2 a3 q2 ev2
    go_enter Try.func13, Try.ntmps13
    go_wp2_with (first | (go_at_call 25; refine hf.mono ?_; rintro e w1 ⟨rfl, rfl⟩) | (go_at_call 24; refine hr.mono ?_; rintro e w1 ⟨rfl, rfl⟩))
    go_ret2
    exact ⟨rfl, HR.out⟩
theorem len_at (m : M) (ref : Int) (hi : Inv m) : (m.at ref).kind = 0 → (m.at ref).len = 0 ∧ (m.at ref).typ = 0 := by
  intro hk
  by_cases q : ref < 1 ∨ (m.ths.length : Int) < ref
  · rw [at_none q]; exact ⟨rfl, rfl⟩
  · have := (at_kind hi (ref := ref) (by omega) (by omega)).1; omega
set_option maxRecDepth 100000 in
set_option maxHeartbeats 1000000 in
theorem lenS {w : World} {p : Nat} {m : M} {F : Nat → Prop} (h : HAt w p m F) (hn : m.ths.length ≤ 1000000) (ref : Int) (h0 : 0 ≤ ref) (h1 : ref < 18446744073709551616) :
    Calls Try.prog 17 #[ptr p, .int .u64 ref] w fun e w' => e = .returned (.tuple #[.int .i64 ((m.at ref).len : Int), .bool (decide ((m.at ref).kind ≠ 0))]) ∧ w = w' := by
  obtain ⟨vt, bs, vs, H, -, -⟩ := h
  have hf := findS H hn ref h0 h1
  by_cases hk0 : (m.at ref).kind = 0
  · rw [(len_at m ref H.inv hk0).1]
    rw [hk0] at hf ⊢
    simp only [thV] at hf
    clear H
    go_enter Try.func17, Try.ntmps17
    go_wp2_with (first | (go_at_call 25; refine hf.mono ?_; rintro e w1 ⟨rfl, rfl⟩))
    go_ret2
    exact ⟨rfl, rfl⟩
  obtain ⟨a1, a2, a3, ht, hm⟩ := H.ref hk0
  have hkl := kind_le H.inv ref
  have hwl := H.inv.words _ hm
  have hul := H.inv.used
  have hll := H.inv.limit
  have hd : decide ((m.at ref).kind ≠ 0) = true := by simpa using hk0
  rw [hd]
  by_cases hk1 : (m.at ref).kind = 1
  · have e1 : (m.at ref).len = (m.at ref).text.size := by unfold Th.len; rw [if_pos hk1]
    have hts := H.inv.text _ hm
    unfold maxLen at hts
    obtain ⟨-, c1, cf⟩ := own2 (ht.txt hk1)
    rw [hk1] at hf
    rw [e1]
    generalize (m.at ref).text = s at *
    simp only [thV, refV, kP] at hf
    generalize bs (m.idx ref) = B at *
    clear H ht hm a1 a2 a3 hkl hwl hul hll hd e1 hk1 hk0
    go_enter Try.func17, Try.ntmps17
    go_wp2_with (first | (go_at_call 25; refine hf.mono ?_; rintro e w1 ⟨rfl, rfl⟩) | go_in)
    go_ret2
    exact ⟨rfl, rfl⟩
  · have e1 : (m.at ref).len = (m.at ref).words.length := by unfold Th.len; rw [if_neg hk1]
    rw [e1]
    obtain ⟨-, c1, cf⟩ := own2 (ht.row2 hk1)
    obtain ⟨ao, cap, ev, k1, k2⟩ := ht.row.shape
    rw [ev] at c1
    obtain ⟨n, hnn⟩ : ∃ n, Hid ((m.at ref).words.length = n) := ⟨_, rfl⟩
    rw [hnn.out] at c1 hwl ⊢
    have hn2 : n ≤ 1048576 := by omega
    have hk4 : kP (m.at ref).kind = 50 ∨ kP (m.at ref).kind = 60 := by unfold kP; rw [if_neg hk1]; split; exact .inr rfl; exact .inl rfl
    unfold thV refV at hf
    rw [if_neg hk0] at hf
    generalize kP (m.at ref).kind = T at *
    generalize bs (m.idx ref) = B at *
    clear H ht hm a1 a2 a3 hkl hwl hul hll hd e1 hk1 hk0 ev hnn k1 k2
    rcases hk4 with rfl | rfl
    all_goals
      go_enter Try.func17, Try.ntmps17
      go_wp2_with (first | (go_at_call 25; refine hf.mono ?_; rintro e w1 ⟨rfl, rfl⟩) | go_in)
      go_ret2
      exact ⟨rfl, rfl⟩
end Go.Proofs.Ytchamkiffkngjaa
