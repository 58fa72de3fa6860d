/-
  ImageSame, walked.
-/
import Derived.Test.YtghkanagiobggaaMs4
import Derived.Test.YtghkanagiobggaaMi
import Derived.Test.YtghkanagiobggaaMp
import Derived.Test.YtghkanagiobggaaWh
namespace Go.Proofs.Ytghkanagiobggaa
open Go.RowKit
set_option linter.unusedVariables false

theorem tkL {l : List Oper} {Q : Exit → Act → World → Prop} {md : Region.Mode} {S : World → Prop} {i : Nat} {oi : Oper} {v : Value} {fuel : Nat} {listed : Array Bool} {a : Act} {w : World} (hi : l[i]? = some oi)
    (hs : Region.noSelect l.toArray = true) (hf : Region.free md l.toArray listed i = true) (hr : (Region.ready md l.toArray listed).contains i = true)
    (hQ : ∀ c a w, Q (.panic c) (a.put oi.dst v) w → Q (.panic c) a w) (hy : YieldsIf Try.prog l.toArray S oi v a) (hS : S w)
    (h : wpAnyH Try.prog md l.toArray Q S fuel (listed.setIfInBounds i true) (a.put oi.dst v) w) : wpAnyH Try.prog md l.toArray Q S (fuel + 1) listed a w :=
  wpAnyH_take (by simpa using hi) hs hf hr hQ hy hS h
theorem rdL {l : List Oper} {Q : Exit → Act → World → Prop} {md : Region.Mode} {S : World → Prop} {fuel : Nat} {listed : Array Bool} {a : Act} {w : World} {i : Nat} {o : Oper} (ho : l[i]? = some o)
    (h : ∀ K' : Act → World → Prop, Shut (∀ a w, S w → (S w → wpAnyH Try.prog md l.toArray Q S fuel (listed.setIfInBounds i true) a w) → K' a w) → if Region.wanted o (yielded l.toArray a.tmps) = true then Oper.wp Try.prog o a w K' Q else K' (a.put o.dst undef) w) :
    AllReadyH Try.prog md l.toArray Q S fuel listed a w [i] :=
  AllReadyH.cons (by simpa using ho) h AllReadyH.nil
set_option maxHeartbeats 8000000 in
set_option maxRecDepth 100000 in
theorem same_walk (W : World) (A B : MoP) (hA : MoIn W A) (hB : MoIn W B) :
    Calls Try.prog 3 #[.agg A.cs, .agg B.cs] W fun e w' => e = .returned (.bool true) ∧ Below W.heap.size W w' := by
  have o1 := (Own.new W A.cs 26).alloc (.cells B.cs 26)
  have o2 := Own.new (W.alloc (.cells A.cs 26)) B.cs 26
  rw [World.size_alloc] at o2
  have hb0 : Below W.heap.size W ((W.alloc (.cells A.cs 26)).alloc (.cells B.cs 26)) := (new_below _ _).alloc (by simp) _
  have HBK : Hid (∀ w, Below W.heap.size W w → Calls Try.prog 4 #[.agg A.cs, .int .i64 100000] w (BulkRet A.mo 100000 w)) := fun w q => kBulk_as (hA.below q) 100000 (by omega) (by omega)
  have HBL : Hid (∀ w, Below W.heap.size W w → Calls Try.prog 4 #[.agg B.cs, .int .i64 100000] w (BulkRet B.mo 100000 w)) := fun w q => kBulk_as (hB.below q) 100000 (by omega) (by omega)
  obtain ⟨b, hb⟩ := some_bool (A.mo = B.mo)
  have HS1 : Hid (∀ w, Below W.heap.size W w → Calls Try.prog 6 #[.agg A.cs, .agg B.cs] w fun e w' => e = .returned (.bool b) ∧ Below w.heap.size w w') := fun w q => iSame_as (hA.below q) (hB.below q) b hb
  have HS2 : Hid (∀ w, Below W.heap.size W w → Calls Try.prog 7 #[.agg A.cs, .agg B.cs] w fun e w' => e = .returned (.bool b) ∧ Below w.heap.size w w') := fun w q => kSameModule_as (hA.below q) (hB.below q) b hb
  have HLM : Hid (A.mo.bulk ≤ 100000 → ∀ w, Below W.heap.size W w → Calls Try.prog 8 #[.agg A.cs] w fun e w' => ∃ A' : MoP, e = .returned (.agg A'.cs) ∧ (∀ w'', Below w'.heap.size w' w'' → Below W.heap.size W w'' → Calls Try.prog 6 #[.agg A'.cs, .agg A.cs] w'' fun e w3 => e = .returned (.bool true) ∧ Below w''.heap.size w'' w3) ∧ Below w.heap.size w w') := fun hk w q => by
    refine (klentM_as (hA.below q) hk).mono ?_
    rintro e w' ⟨A', rfl, e1, e2, e3, e4⟩
    refine ⟨A', rfl, fun w'' q2 q3 => ?_, e4⟩
    have hin := lentM_in e2 e3 (by rw [e1]; exact hA.ok) (small_ext (small_of hk) e1)
    exact iSame_as (hin.below q2) (hA.below q3) true (by simp [e1])
  have HWK : Hid (∀ w, Calls Try.prog 5 #[] w fun e w' => e = .returned (.bool true) ∧ Below w.heap.size w w') := iworks_any
  clear hA hB hb
  generalize hAM : A.mo.bulk = KA at *
  unfold MoP.cs at *
  generalize A.tys.length = n1 at *
  generalize A.txs.length = n2 at *
  generalize A.fns.length = n3 at *
  generalize B.tys.length = m1 at *
  generalize B.txs.length = m2 at *
  generalize B.fns.length = m3 at *
  generalize A.ta = at1 at *
  generalize A.sa = as1 at *
  generalize A.fa = af1 at *
  generalize B.ta = bt1 at *
  generalize B.sa = bs1 at *
  generalize B.fa = bf1 at *
  generalize A.tc = ac1 at *
  generalize A.sc = ac2 at *
  generalize A.fc = ac3 at *
  generalize B.tc = bc1 at *
  generalize B.sc = bc2 at *
  generalize B.fc = bc3 at *
  go_enter Try.func3, Try.ntmps3
  go_upto_region 1 with fail
  generalize (W.alloc (.cells #[.slice at1 n1 ac1, .slice as1 n2 ac2, .slice af1 n3 ac3] 26)).alloc (.cells #[.slice bt1 m1 bc1, .slice bs1 m2 bc2, .slice bf1 m3 bc3] 26) = w2 at *
  obtain ⟨x0, x1, x2, xf⟩ := own3 o1
  obtain ⟨y0, y1, y2, yf⟩ := own3 o2
  go_wp2_with fail
  refine Calls.mono (HBK.out w2 hb0) ?_
  rintro e w3 ⟨r1, rfl, hr1, b3⟩
  replace hb0 := hb0.trans (b3.mono hb0.size)
  replace o1 := o1.below b3
  replace o2 := o2.below b3
  clear x0 x1 x2 xf y0 y1 y2 yf b3
  obtain ⟨x0, x1, x2, xf⟩ := own3 o1
  obtain ⟨y0, y1, y2, yf⟩ := own3 o2
  by_cases hq1 : (100000 : Int) < r1
  · clear hr1
    go_wp2_with fail
    refine Calls.mono (HWK.out w3) ?_
    rintro e w4 ⟨rfl, b4⟩
    replace hb0 := hb0.trans (b4.mono hb0.size)
    go_wp2
    go_ret
    exact ⟨rfl, hb0⟩
  · have hle1 : r1 ≤ 100000 := by omega
    have HK : Hid (KA ≤ 100000) := by have := hr1 hle1; rw [hAM] at this; unfold Hid; omega
    clear hr1 hAM
    go_wp2_with fail
    refine Calls.mono (HBL.out w3 hb0) ?_
    rintro e w4 ⟨r2, rfl, -, b4⟩
    replace hb0 := hb0.trans (b4.mono hb0.size)
    replace o1 := o1.below b4
    replace o2 := o2.below b4
    clear x0 x1 x2 xf y0 y1 y2 yf b4
    by_cases hq2 : (100000 : Int) < r2
    · go_wp2_with fail
      refine Calls.mono (HWK.out w4) ?_
      rintro e w5 ⟨rfl, b5⟩
      replace hb0 := hb0.trans (b5.mono hb0.size)
      go_wp2
      go_ret
      exact ⟨rfl, hb0⟩
    · have hle2 : r2 ≤ 100000 := by omega
      have HO1 : Hid (∀ w', Below w4.heap.size w4 w' → w'.cell? ⟨W.heap.size, 0, none⟩ = some (.slice at1 n1 ac1) ∧ w'.cell? ⟨W.heap.size, 1, none⟩ = some (.slice as1 n2 ac2) ∧ w'.cell? ⟨W.heap.size, 2, none⟩ = some (.slice af1 n3 ac3)) := fun w' q => own3b (o1.below q)
      have HO2 : Hid (∀ w', Below w4.heap.size w4 w' → w'.cell? ⟨W.heap.size + 1, 0, none⟩ = some (.slice bt1 m1 bc1) ∧ w'.cell? ⟨W.heap.size + 1, 1, none⟩ = some (.slice bs1 m2 bc2) ∧ w'.cell? ⟨W.heap.size + 1, 2, none⟩ = some (.slice bf1 m3 bc3)) := fun w' q => own3b (o2.below q)
      have HW4 : Hid (∀ w', Below w4.heap.size w4 w' → Below W.heap.size W w') := fun w' q => hb0.trans (q.mono hb0.size)
      clear hb0 o1 o2
      go_upto_region 3 with fail
      cases b
      all_goals (
        refine wp_region_noPanic ?_
        refine wp_region_held_drew (S := fun w' => Below w4.heap.size w4 w') (by kernel_rfl) (Below.refl _ _).drew (fun hS0 => ?_)
        refine tkL (i := 0) (v := ?_) rfl (by kernel_rfl) (by kernel_rfl) (by kernel_rfl) (fun _ _ _ h => h) (Or.inl ⟨by rfl, ?_⟩) hS0 ?_
        rotate_left 1
        · (intro w' hSw; obtain ⟨s0, s1, s2⟩ := HO1.out w' hSw; go_simp <;> with_reducible rfl)
        try simp only [Act.put, List.setIfInBounds_toArray, List.set_cons_zero, List.set_cons_succ]
        refine tkL (i := 1) (v := ?_) rfl (by kernel_rfl) (by kernel_rfl) (by kernel_rfl) (fun _ _ _ h => h) (Or.inl ⟨by rfl, ?_⟩) hS0 ?_
        rotate_left 1
        · (intro w' hSw; obtain ⟨s0, s1, s2⟩ := HO2.out w' hSw; go_simp <;> with_reducible rfl)
        try simp only [Act.put, List.setIfInBounds_toArray, List.set_cons_zero, List.set_cons_succ]
        refine tkL (i := 3) (v := ?_) rfl (by kernel_rfl) (by kernel_rfl) (by kernel_rfl) (fun _ _ _ h => h) (Or.inl ⟨by rfl, ?_⟩) hS0 ?_
        rotate_left 1
        · (intro w' hSw; obtain ⟨s0, s1, s2⟩ := HO1.out w' hSw; go_simp <;> with_reducible rfl)
        try simp only [Act.put, List.setIfInBounds_toArray, List.set_cons_zero, List.set_cons_succ]
        refine tkL (i := 4) (v := ?_) rfl (by kernel_rfl) (by kernel_rfl) (by kernel_rfl) (fun _ _ _ h => h) (Or.inl ⟨by rfl, ?_⟩) hS0 ?_
        rotate_left 1
        · (intro w' hSw; obtain ⟨s0, s1, s2⟩ := HO2.out w' hSw; go_simp <;> with_reducible rfl)
        try simp only [Act.put, List.setIfInBounds_toArray, List.set_cons_zero, List.set_cons_succ]
        refine wpAnyH_ready (rs := [2]) (by kernel_rfl) (by simp) ?_
        refine rdL rfl (fun K hK => ?_)
        go_simp
        refine Calls.mono (HS1.out w4.drew (HW4.out _ hS0)) ?_
        rintro en Y1 ⟨rfl, hy1⟩
        have hS1 : Below w4.heap.size w4 Y1 := hS0.trans (hy1.mono hS0.size)
        go_wp2_with fail
        refine hK.out _ _ hS1 (fun hHeld => ?_)
        clear hK K hHeld
        try simp only [Act.put, List.setIfInBounds_toArray, List.set_cons_zero, List.set_cons_succ]
        refine wpAnyH_ready (rs := [5]) (by kernel_rfl) (by simp) ?_
        refine rdL rfl (fun K hK => ?_)
        go_simp
        refine Calls.mono (HS2.out Y1 (HW4.out _ hS1)) ?_
        rintro en Y2 ⟨rfl, hy2⟩
        have hS2 : Below w4.heap.size w4 Y2 := hS1.trans (hy2.mono hS1.size)
        go_wp2_with fail
        refine hK.out _ _ hS2 (fun hHeld => ?_)
        clear hK K hHeld
        try simp only [Act.put, List.setIfInBounds_toArray, List.set_cons_zero, List.set_cons_succ]
        refine tkL (i := 6) (v := ?_) rfl (by kernel_rfl) (by kernel_rfl) (by kernel_rfl) (fun _ _ _ h => h) (Or.inl ⟨by rfl, ?_⟩) hS2 ?_
        rotate_left 1
        · (intro w' hSw; go_simp <;> with_reducible rfl)
        try simp only [Act.put, List.setIfInBounds_toArray, List.set_cons_zero, List.set_cons_succ]
        refine tkL (i := 7) (v := ?_) rfl (by kernel_rfl) (by kernel_rfl) (by kernel_rfl) (fun _ _ _ h => h) (Or.inl ⟨by rfl, ?_⟩) hS2 ?_
        rotate_left 1
        · (intro w' hSw; go_simp <;> with_reducible rfl)
        try simp only [Act.put, List.setIfInBounds_toArray, List.set_cons_zero, List.set_cons_succ]
        refine tkL (i := 8) (v := ?_) rfl (by kernel_rfl) (by kernel_rfl) (by kernel_rfl) (fun _ _ _ h => h) (Or.inl ⟨by rfl, ?_⟩) hS2 ?_
        rotate_left 1
        · (intro w' hSw; obtain ⟨s0, s1, s2⟩ := HO1.out w' hSw; go_simp <;> with_reducible rfl)
        try simp only [Act.put, List.setIfInBounds_toArray, List.set_cons_zero, List.set_cons_succ]
        refine tkL (i := 10) (v := ?_) rfl (by kernel_rfl) (by kernel_rfl) (by kernel_rfl) (fun _ _ _ h => h) (Or.inl ⟨by rfl, ?_⟩) hS2 ?_
        rotate_left 1
        · (intro w' hSw; obtain ⟨s0, s1, s2⟩ := HO1.out w' hSw; go_simp <;> with_reducible rfl)
        try simp only [Act.put, List.setIfInBounds_toArray, List.set_cons_zero, List.set_cons_succ]
        refine wpAnyH_ready (rs := [9]) (by kernel_rfl) (by simp) ?_
        refine rdL rfl (fun K hK => ?_)
        go_simp
        refine Calls.mono (HLM.out HK.out Y2 (HW4.out _ hS2)) ?_
        rintro en Y3 ⟨A', rfl, hsame, hy3⟩
        have hS3 : Below w4.heap.size w4 Y3 := hS2.trans (hy3.mono hS2.size)
        have hsm := hsame Y3 (Below.refl _ _) (HW4.out _ hS3)
        generalize A'.tys.length = p1 at *
        generalize A'.txs.length = p2 at *
        generalize A'.fns.length = p3 at *
        generalize A'.ta = pa1 at *
        generalize A'.sa = pa2 at *
        generalize A'.fa = pa3 at *
        generalize A'.tc = pc1 at *
        generalize A'.sc = pc2 at *
        generalize A'.fc = pc3 at *
        clear hsame
        go_wp2_with fail
        refine hK.out _ _ hS3 (fun hHeld => ?_)
        clear hK K hHeld
        try simp only [Act.put, List.setIfInBounds_toArray, List.set_cons_zero, List.set_cons_succ]
        refine wpAnyH_ready (rs := [11]) (by kernel_rfl) (by simp) ?_
        refine rdL rfl (fun K hK => ?_)
        go_simp
        refine Calls.mono hsm ?_
        rintro en Y4 ⟨rfl, hy4⟩
        have hS4 : Below w4.heap.size w4 Y4 := hS3.trans (hy4.mono hS3.size)
        go_wp2_with fail
        refine hK.out _ _ hS4 (fun hHeld => ?_)
        clear hK K hHeld
        try simp only [Act.put, List.setIfInBounds_toArray, List.set_cons_zero, List.set_cons_succ]
        refine tkL (i := 12) (v := ?_) rfl (by kernel_rfl) (by kernel_rfl) (by kernel_rfl) (fun _ _ _ h => h) (Or.inl ⟨by rfl, ?_⟩) hS4 ?_
        rotate_left 1
        · (intro w' hSw; go_simp <;> with_reducible rfl)
        try simp only [Act.put, List.setIfInBounds_toArray, List.set_cons_zero, List.set_cons_succ]
        refine tkL (i := 13) (v := ?_) rfl (by kernel_rfl) (by kernel_rfl) (by kernel_rfl) (fun _ _ _ h => h) (Or.inl ⟨by rfl, ?_⟩) hS4 ?_
        rotate_left 1
        · (intro w' hSw; go_simp <;> with_reducible rfl)
        try simp only [Act.put, List.setIfInBounds_toArray, List.set_cons_zero, List.set_cons_succ]
        refine wpAnyH_ready (rs := [14]) (by kernel_rfl) (by simp) ?_
        refine rdL rfl (fun K hK => ?_)
        go_simp
        refine Calls.mono (HWK.out Y4) ?_
        rintro en Y5 ⟨rfl, hy5⟩
        have hS5 : Below w4.heap.size w4 Y5 := hS4.trans (hy5.mono hS4.size)
        go_wp2_with fail
        refine hK.out _ _ hS5 (fun hHeld => ?_)
        clear hK K hHeld
        try simp only [Act.put, List.setIfInBounds_toArray, List.set_cons_zero, List.set_cons_succ]
        refine tkL (i := 15) (v := ?_) rfl (by kernel_rfl) (by kernel_rfl) (by kernel_rfl) (fun _ _ _ h => h) (Or.inl ⟨by rfl, ?_⟩) hS5 ?_
        rotate_left 1
        · (intro w' hSw; go_simp <;> with_reducible rfl)
        try simp only [Act.put, List.setIfInBounds_toArray, List.set_cons_zero, List.set_cons_succ]
        refine tkL (i := 16) (v := ?_) rfl (by kernel_rfl) (by kernel_rfl) (by kernel_rfl) (fun _ _ _ h => h) (Or.inl ⟨by rfl, ?_⟩) hS5 ?_
        rotate_left 1
        · (intro w' hSw; go_simp <;> with_reducible rfl)
        try simp only [Act.put, List.setIfInBounds_toArray, List.set_cons_zero, List.set_cons_succ]
        refine wpAnyH_done (by kernel_rfl) ?_ _
        refine NoPanic.normal ?_
        go_wp2
        go_ret
        exact ⟨rfl, HW4.out _ hS5⟩)
end Go.Proofs.Ytghkanagiobggaa
