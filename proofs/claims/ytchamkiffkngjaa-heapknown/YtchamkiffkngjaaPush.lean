/-
  CONTRACTS of the landed heap's Push and Drop.
-/
import Derived.Test.YtchamkiffkngjaaGet
namespace Go.Proofs.Ytchamkiffkngjaa
open Go.RowKit
set_option linter.unusedVariables false

theorem HRet.baseF {w w1 w' : World} {p : Nat} {m' : M} {F : Nat → Prop} (h : HRet w1 p m' F w') (hf : Fr F w w1) : HRet w p m' F w' := by
  obtain ⟨F', h1, h2, h3⟩ := h
  have hs := hf.size
  refine ⟨F', h1, fun b hb => ?_, hf.trans h3⟩
  rcases h2 b hb with q | q
  · exact .inl q
  · exact .inr (by omega)
theorem wordV_snoc (xs : List Int) (x : Int) : wordV (xs ++ [x]) = wordV xs ++ [.int .u64 x] := by simp [wordV]
theorem push_cases (m : M) (ref : Int) : (m.at ref).kind ≠ 4 ∧ m.pushT ref = 2 ∨ (m.at ref).kind = 4 ∧ (m.at ref).words.length = 65536 ∧ m.pushT ref = 3 ∨ (m.at ref).kind = 4 ∧ (m.at ref).words.length ≠ 65536 ∧ ¬ m.used + 1 ≤ m.limit ∧ m.pushT ref = 4 ∨ (m.at ref).kind = 4 ∧ (m.at ref).words.length ≠ 65536 ∧ m.used + 1 ≤ m.limit ∧ m.pushT ref = 0 := by
  unfold M.pushT M.madeT
  by_cases h1 : (m.at ref).kind = 4
  · by_cases h2 : (m.at ref).words.length = 65536
    · exact .inr (.inl ⟨h1, h2, by simp [h1, h2]⟩)
    · by_cases h3 : m.used + 1 ≤ m.limit
      · exact .inr (.inr (.inr ⟨h1, h2, h3, by simp [h1, h2, h3]⟩))
      · exact .inr (.inr (.inl ⟨h1, h2, h3, by simp [h1, h2, h3]⟩))
  · exact .inl ⟨h1, by simp [h1]⟩
theorem kB4 {k : Nat} (h : k = 4) : kB k = 61 := by subst h; rfl
set_option maxRecDepth 100000 in
set_option maxHeartbeats 1000000 in
theorem pushS {w : World} {p : Nat} {m : M} {F : Nat → Prop} (h : HAt w p m F) (hn : m.ths.length ≤ 1000000) (ref x : Int) (h0 : 0 ≤ ref) (h1 : ref < 18446744073709551616) (hx : 0 ≤ x ∧ x < 18446744073709551616) :
    Calls Try.prog 12 #[ptr p, .int .u64 ref, .int .u64 x] w fun e w' => e = .returned (.int .i64 (m.pushT ref)) ∧ HRet w p (m.pushed ref x) F w' := by
  have hsc := h
  obtain ⟨vt, bs, vs, H, hF, -⟩ := h
  have hf := findS H hn ref h0 h1
  have hr := rowOfS w (m.at ref).kind (bs (m.idx ref)) (kind_le H.inv ref)
  have hpo := payO H 1 (by omega)
  have HS : Hid (HRet w p m F w) := HRet.same hsc (Below.refl _ _)
  rcases push_cases m ref with ⟨q1, e1⟩ | ⟨q1, q2, e1⟩ | ⟨q1, q2, q3, e1⟩ | ⟨q1, q2, q3, e1⟩
  · have ep : m.pushed ref x = m := by unfold M.pushed; rw [e1]; rfl
    have hd : decide ((m.at ref).kind = 4) = false := by simpa using q1
    rw [hd] at hr
    rw [e1, ep]
    clear hpo hsc hF H hd ep e1
    generalize rowV (m.at ref).kind (bs (m.idx ref)) = R at *
    generalize (m.at ref).kind = K at *
    generalize bs (m.idx ref) = B at *
    clear q1
    go_enter Try.func12, Try.ntmps12
    go_wp2_with (first | (go_at_call 25; refine hf.mono ?_; rintro e w1 ⟨rfl, rfl⟩) | (go_at_call 24; refine hr.mono ?_; rintro e w1 ⟨rfl, rfl⟩))
    go_ret
    exact ⟨rfl, HS.out⟩
  all_goals
    have hk0 : (m.at ref).kind ≠ 0 := by omega
    have hk1 : (m.at ref).kind ≠ 1 := by omega
    have hd : decide ((m.at ref).kind = 4) = true := by simpa using q1
    rw [hd, rowV_row hk0 hk1] at hr
    obtain ⟨a1, a2, a3, ht, hm⟩ := H.ref hk0
    obtain ⟨-, c1, cf⟩ := own2 (ht.row2 hk1)
    obtain ⟨ao, cap, ev, k1, k2⟩ := ht.row.shape
    have hgl := H.inv.grow _ hm q1
    rw [ev] at c1
  · have ep : m.pushed ref x = m := by unfold M.pushed; rw [e1]; rfl
    rw [e1, ep]
    rw [q2] at c1
    clear hpo hsc hF H hd ep e1 ht hm ev k1 k2 hgl
    generalize (m.at ref).kind = K at *
    generalize bs (m.idx ref) = B at *
    clear q1 hk0 hk1 a1 a2 a3 q2
    go_enter Try.func12, Try.ntmps12
    go_wp2_with (first | (go_at_call 25; refine hf.mono ?_; rintro e w1 ⟨rfl, rfl⟩) | (go_at_call 24; refine hr.mono ?_; rintro e w1 ⟨rfl, rfl⟩))
    go_ret
    exact ⟨rfl, HS.out⟩
  · have ep : m.pushed ref x = m := by unfold M.pushed; rw [e1]; rfl
    obtain ⟨-, -, -, e4, e5⟩ := made_not dT q3
    rw [e4, e5] at hpo
    rw [e1, ep]
    have HQ : Hid (∀ w', HOwn w' p m vt bs vs ∧ Fr (fun b => b = p) w w' ∧ w'.heap.size = w.heap.size → HRet w p m F w') := by
      rintro w' ⟨g1, g2, g3⟩
      exact HRet.mk' (n := m.ths.length) hF g1 (fun b hb => .inl hb) (g2.mono fun k _ e => by rw [e]; exact hF p (.inl rfl))
    obtain ⟨n, hnn⟩ : ∃ n, Hid ((m.at ref).words.length = n) := ⟨_, rfl⟩
    rw [hnn.out] at c1 q2 hgl
    have q2i : ¬ (n : Int) = 65536 := by omega
    clear hsc hF H hd ep e1 ht hm ev k1 k2 e4 e5 hnn
    generalize (m.at ref).kind = K at *
    generalize bs (m.idx ref) = B at *
    clear q1 hk0 hk1 a1 a2 a3 q3
    go_enter Try.func12, Try.ntmps12
    go_wp2_with (first | (go_at_call 25; refine hf.mono ?_; rintro e w1 ⟨rfl, rfl⟩) | (go_at_call 24; refine hr.mono ?_; rintro e w1 ⟨rfl, rfl⟩) | (go_at_call 21; refine hpo.mono ?_; rintro e w1 ⟨rfl, hq⟩; have HR : Hid _ := HQ.out w1 hq; clear hq))
    go_ret
    exact ⟨rfl, HR.out⟩
  · have ep : m.pushed ref x = (m.paid 1).upd ref ((m.at ref).with ((m.at ref).words ++ [x])) := by unfold M.pushed; rw [if_pos e1]
    have hinv := H.inv.pushed ref x hx
    obtain ⟨-, -, -, e4⟩ := made_paid dT q3
    rw [e4] at hpo
    rw [ep] at hinv
    rw [e1, ep]
    obtain ⟨n, hnn⟩ : ∃ n, Hid ((m.at ref).words.length = n) := ⟨_, rfl⟩
    have hpath := paid_ths m 1
    have eat : (m.paid 1).at ref = m.at ref := by unfold M.at; rw [hpath.1]
    have eidx : (m.paid 1).idx ref = m.idx ref := rfl
    have HQ : Hid (∀ w1, HOwn w1 p (m.paid 1) vt bs vs ∧ Fr (fun b => b = p) w w1 ∧ w1.heap.size = w.heap.size → (Own w1 (bs (m.idx ref)) #[.int .i64 (m.at ref).typ, .slice ao n cap] 61 ∧ Rw w1 24 1 (.slice ao n cap) n (wordV (m.at ref).words)) ∧ ∀ ao2 cap2 wz, Rw wz 24 1 (.slice ao2 (n + 1) cap2) (n + 1) (wordV (m.at ref).words ++ [.int .u64 x]) → (w1.alloc (.cells #[.int .u64 x] 24)).grownBy wz (Value.slice ao n cap).ownBlock → ((Value.slice ao2 (n + 1) cap2).ownBlock = (Value.slice ao n cap).ownBlock ∨ (Value.slice ao2 (n + 1) cap2).ownBlock = some (w1.heap.size + 1)) → Own wz (bs (m.idx ref)) #[.int .i64 (m.at ref).typ, .slice ao n cap] 61 ∧ HRet w p ((m.paid 1).upd ref ((m.at ref).with ((m.at ref).words ++ [x]))) F (wz.setCell ⟨bs (m.idx ref), 1, none⟩ (.slice ao2 (n + 1) cap2))) := by
      rintro w1 ⟨g1, g2, g3⟩
      have hk0' : ((m.paid 1).at ref).kind ≠ 0 := by rw [eat]; exact hk0
      obtain ⟨b1, b2, b3, bt, bm⟩ := g1.ref hk0'
      rw [eat, eidx] at b3 bt
      rw [eidx] at b1
      have o1 := bt.row2 hk1
      rw [kB4 q1, ev, hnn.out] at o1
      have r1 := bt.row
      rw [ev, hnn.out] at r1
      refine ⟨⟨o1, r1⟩, ?_⟩
      intro ao2 cap2 wz z1 z2 z3
      have ap := g1.apart b1
      have hob : (vs (m.idx ref)).ownBlock = (Value.slice ao n cap).ownBlock := by rw [ev, hnn.out]
      have hBn : (Value.slice ao n cap).ownBlock ≠ some (bs (m.idx ref)) := by rw [← hob]; exact ap.2.2.2.2 _ b1
      have oz : Own wz (bs (m.idx ref)) #[.int .i64 (m.at ref).typ, .slice ao n cap] 61 := (o1.alloc (.cells #[.int .u64 x] 24)).grown z2 (fun e => hBn e.symm)
      refine ⟨oz, ?_⟩
      have hFw1 : Fr F w w1 := g2.mono fun k _ e => by rw [e]; exact hF p (.inl rfl)
      have hs1 := World.size_alloc w1 (.cells #[.int .u64 x] 24)
      have hp1 : Own wz p #[.bool true, .int .i64 ((m.paid 1).limit : Int), .int .i64 ((m.paid 1).used : Int), vt] 45 := (g1.own.alloc (.cells #[.int .u64 x] 24)).grown z2 (fun e => ap.2.2.1 (by rw [hob]; exact e.symm))
      refine HRet.baseF (w1 := w1) ?_ hFw1
      have hF1 : ∀ b, Blk p (m.paid 1).ths.length vt bs vs b → F b := by rw [hpath.1]; exact hF
      refine ret_write g1 hF1 ref ((m.at ref).with ((m.at ref).words ++ [x])) (m.paid 1).used (.slice ao2 (n + 1) cap2) hk0' (by rw [eat]; rfl) (hp1.other (g' := bs (m.idx ref)) (fun e => ap.1 e.symm) _) ?_ (fun b hb e1 e2 e3 => ?_) (fun g hg => ?_) ?_ hinv
      · refine ⟨?_, ?_⟩
        · show Own _ _ (ThCells ((m.at ref).with _) _) (kB (m.at ref).kind)
          unfold ThCells
          rw [if_neg (by exact hk1), kB4 q1]
          have o9 : Own (wz.setCell ⟨bs (m.idx ref), 1, none⟩ (.slice ao2 (n + 1) cap2)) (bs (m.idx ref)) #[.int .i64 (m.at ref).typ, .slice ao2 (n + 1) cap2] 61 := by simpa using oz.set 1 (.slice ao2 (n + 1) cap2)
          exact o9
        · show Rw _ 24 1 _ ((m.at ref).words ++ [x]).length (wordV ((m.at ref).words ++ [x]))
          rw [wordV_snoc, List.length_append, hnn.out]
          exact z1.set (z1.ne oz (by decide)) 1 _
      · rw [eidx] at e2 e3
        rw [hob] at e3
        rw [Below.heap_setCell wz ⟨bs (m.idx ref), 1, none⟩ _ b e2, z2.block b (by rw [hs1]; omega) (fun e => e3 e.symm)]
        exact Below.heap_alloc w1 _ b hb
      · rw [eidx, hob]
        rcases z3 with q | q
        · exact .inl (by rw [← q]; exact hg)
        · rw [q] at hg; cases hg; exact .inr (Nat.le_succ _)
      · refine ((((Fr.refl F w1).alloc _).grown z2 fun k _ e => ?_)).set (.inr ?_) 1 _
        · exact hF k (.inr (.inr (.inr ⟨_, a1, by rw [hob]; exact e⟩)))
        · exact hF _ (.inr (.inr (.inl ⟨_, a1, rfl⟩)))
    rw [hnn.out] at c1 q2 hgl
    have q2i : ¬ (n : Int) = 65536 := by omega
    have hsA : ∀ w1 : World, (w1.alloc (.cells #[.int .u64 x] 24)).heap.size = w1.heap.size + 1 := fun w1 => World.size_alloc w1 _
    clear hsc hF H hd ep e1 ht hm ev k1 k2 e4 hnn hinv eat eidx hpath
    generalize (m.paid 1).upd ref ((m.at ref).with ((m.at ref).words ++ [x])) = M' at *
    generalize wordV (m.at ref).words = ws at *
    generalize (m.at ref).typ = ty at *
    generalize (m.at ref).kind = K at *
    generalize bs (m.idx ref) = B at *
    clear q1 hk0 hk1 a1 a2 a3 q3
    go_enter Try.func12, Try.ntmps12
    go_wp2_with (first | (go_at_call 25; refine hf.mono ?_; rintro e w1 ⟨rfl, rfl⟩) | (go_at_call 24; refine hr.mono ?_; rintro e w1 ⟨rfl, rfl⟩) | (go_at_call 21; refine hpo.mono ?_; rintro e w1 ⟨rfl, hq⟩; have HR : Hid _ := HQ.out w1 hq; clear hq; obtain ⟨-, d1, df⟩ := own2 HR.out.1.1; have hb2 := Own.new w1 #[.int .u64 x] 24; have hr2 := HR.out.1.2.alloc (.cells #[.int .u64 x] 24)) | (refine wpList_app1 okU (by rfl) (.tmp 34) (.tmp 36) (by rfl) _ n ws (by rfl) hr2 w1.heap.size [.int .u64 x] (by rfl) hb2 rfl (by simp [Value.oneCell']) (by omega) ?_; intro ao2 cap2 wz z1 z2 z3; rw [hsA] at z3; have HZ : Hid _ := HR.out.2 ao2 cap2 wz z1 z2 z3; obtain ⟨-, f1, ff⟩ := own2 HZ.out.1; clear z1 z2 z3))
    go_ret
    exact ⟨rfl, HZ.out.2⟩
end Go.Proofs.Ytchamkiffkngjaa
