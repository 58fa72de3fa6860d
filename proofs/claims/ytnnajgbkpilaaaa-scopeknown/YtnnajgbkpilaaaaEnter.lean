/-
  CONTRACT of the landed Enter.
-/
import Derived.Test.YtnnajgbkpilaaaaKeep
namespace Go.Proofs.Ytnnajgbkpilaaaa
open Go.RowKit Go.Maps
set_option linter.unusedVariables false

theorem tl_any (n : ByteArray) : ∀ (ts : List T) (a : Int), (tl a ts).any (fun x => decide (x.1.label = n)) = hasT n ts
  | [], _ => rfl
  | t :: r, a => by
    unfold tl hasT
    rw [List.any_cons, List.any_cons, tl_any n r]
    rfl
theorem labF_has {ts : List T} {n : ByteArray} (hn : n ≠ empt) : (labF ts n).isSome = hasT n ts := by
  unfold labF
  rw [if_neg hn, ← tl_any n ts (-1), Bool.eq_iff_iff]
  simp [List.find?_isSome]
set_option maxRecDepth 100000 in
set_option maxHeartbeats 2000000 in
theorem enterS {w : World} {p : Nat} {m : M} {F : Nat → Prop} (h : ScAt w p m F) (hn : m.turns.length ≤ 100000) (hN : m.next ≤ 100000) (nm : ByteArray) (hsz : nm.size ≤ maxLen) (b : Bool) : Calls Try.prog 17 #[.pointer (some ⟨p, 0, none⟩), .string nm, .bool b] w fun e w' => e = .returned (.tuple #[.int .i64 (m.entV nm : Int), .int .i64 (m.entE nm : Int)]) ∧ ScRet w p (m.entered nm b) F w' := by
  have hsc := h
  obtain ⟨v0, v1, v2, v3, vm, H, hF, hl⟩ := h
  have ho := H.own
  have hlk := lab_look H.lab hsz
  have c5 := ho.cell 5
  simp only [List.getElem?_toArray, List.getElem?_cons_zero, List.getElem?_cons_succ] at c5
  have hpl := ho.lt
  cases hx : labF m.turns nm with
  | some x =>
    have hne : nm ≠ empt := by rintro rfl; simp [labF] at hx
    have hE : Hid (m.entE nm = 70) := by
      unfold Hid M.entE
      rw [if_pos ⟨hne, by rw [← labF_has hne, hx]; rfl⟩]
    rw [hx] at hlk
    obtain ⟨⟨lb, lo, no⟩, z⟩ := x
    simp only [lookV, tV] at hlk
    go_enter Try.func17, Try.ntmps17
    go_wp2
    go_ret2
    have hD : m.entered nm b = m := by unfold M.entered; rw [hE.out]; simp
    have hV : m.entV nm = 0 := by unfold M.entV; rw [hE.out]; simp
    rw [hD, hV, hE.out]
    exact ⟨rfl, ScRet.same hsc ((Below.refl _ _).alloc (Nat.le_refl _) _)⟩
  | none =>
    have hfr : nm ≠ empt → ∀ x ∈ m.turns, x.label ≠ nm := fun hne => hasT_false (by rw [← labF_has hne, hx]; rfl)
    have hE : Hid (m.entE nm = 0) := by
      unfold Hid M.entE
      rw [if_neg]
      rintro ⟨hne, q⟩
      rw [← labF_has hne, hx] at q
      cases q
    rw [hx] at hlk
    simp only [lookV] at hlk
    obtain ⟨N, hNN⟩ : ∃ N, Hid (m.next = N) := ⟨_, rfl⟩
    have ho' := ho
    rw [hNN.out] at ho'
    have o1 := (ho'.alloc (.cells #[.string ⟨#[]⟩, .int .i64 0, .int .i64 0] 68))
    have c4 := o1.cell 4
    have c4d := o1.drew.cell 4
    simp only [List.getElem?_toArray, List.getElem?_cons_zero, List.getElem?_cons_succ] at c4 c4d
    go_enter Try.func17, Try.ntmps17
    go_wp2_with fail
    go_region
    obtain ⟨W1, hW1⟩ : ∃ W1, Hid (((w.alloc (.cells #[.string ⟨#[]⟩, .int .i64 0, .int .i64 0] 68)).alloc (.cells #[.string nm, .int .i64 (N : Int), .int .i64 (N : Int)] 68)).drew = W1) := ⟨_, rfl⟩
    have hB1 : Below w.heap.size w W1 := by rw [← hW1.out]; exact (((Below.refl _ w).alloc (Nat.le_refl _) _).alloc (by simp) _).drew
    have t1 : Own W1 (w.heap.size + 1) #[.string nm, .int .i64 (N : Int), .int .i64 (N : Int)] 68 := by
      have := (Own.new (w.alloc (.cells #[.string ⟨#[]⟩, .int .i64 0, .int .i64 0] 68)) #[.string nm, .int .i64 (N : Int), .int .i64 (N : Int)] 68).drew
      rw [World.size_alloc] at this
      rw [← hW1.out]; exact this
    rw [hW1.out]
    clear c4 c4d c5 o1 hlk
    have hil := iloopS (ts := m.turns) (ho'.below hB1) (H.r1.fr (F := fun _ => False) (Fr.of hB1) fun _ _ q => q) hn
    obtain ⟨z0, hz0⟩ : ∃ z, Hid (lpF (-1) m.turns = z) := ⟨_, rfl⟩
    rw [hz0.out] at hil
    cases b
    case' false =>
      go_upto_region 9 with (go_at_call 42; refine hil.mono ?_; rintro e w2 ⟨rfl, hB2⟩; have t2 := t1.below hB2; have d2 := t2.cell 2; have f2 := t2.froz 2; simp only [List.getElem?_toArray, List.getElem?_cons_zero, List.getElem?_cons_succ] at d2)
      have hz : Hid (lpF (-1) (m.turns ++ [⟨nm, false, m.next⟩]) = z0) := by unfold Hid; rw [lpF_snoc, hz0.out]; rfl
      have hD : Hid (m.entered nm false = { m with turns := m.turns ++ [⟨nm, false, m.next⟩], next := m.next + 1 }) := by unfold Hid M.entered; rw [hE.out]; simp
      have hin := H.inv.entered nm false hsz
      rw [hD.out] at hin
      obtain ⟨t, ht⟩ : ∃ t : T, Hid (t = ⟨nm, false, m.next⟩) := ⟨_, rfl⟩
      rw [← ht.out] at hz hD hin
      have htl : Hid (t.label = nm ∧ t.no = m.next) := by rw [ht.out]; exact ⟨rfl, rfl⟩
      clear ht
      have hBW : Below w.heap.size w (w2.setCell ⟨w.heap.size + 1, 2, none⟩ (.int .i64 z0)) := (hB1.trans (hB2.mono hB1.size)).setCell (p := ⟨w.heap.size + 1, 2, none⟩) (Nat.le_succ _) _
      have oT : Own (w2.setCell ⟨w.heap.size + 1, 2, none⟩ (.int .i64 z0)) (w.heap.size + 1) #[.string nm, .int .i64 (N : Int), .int .i64 z0] 68 := by simpa using t2.set 2 (.int .i64 z0)
      generalize w2.setCell ⟨w.heap.size + 1, 2, none⟩ (.int .i64 z0) = W at *
      clear t2 d2 f2 hB2 t1 hB1 hz0 hil
    case' true =>
      go_upto_region 9 with fail
      have hz : Hid (lpF (-1) (m.turns ++ [⟨nm, true, m.next⟩]) = (N : Int)) := by unfold Hid; rw [lpF_snoc, hNN.out]; rfl
      have hD : Hid (m.entered nm true = { m with turns := m.turns ++ [⟨nm, true, m.next⟩], next := m.next + 1 }) := by unfold Hid M.entered; rw [hE.out]; simp
      have hin := H.inv.entered nm true hsz
      rw [hD.out] at hin
      obtain ⟨t, ht⟩ : ∃ t : T, Hid (t = ⟨nm, true, m.next⟩) := ⟨_, rfl⟩
      rw [← ht.out] at hz hD hin
      have htl : Hid (t.label = nm ∧ t.no = m.next) := by rw [ht.out]; exact ⟨rfl, rfl⟩
      clear ht
      have hBW := hB1
      have oT := t1
      clear t1 hB1 hz0 hil z0
      obtain ⟨z0, hz0⟩ : ∃ z : Int, Hid ((N : Int) = z) := ⟨_, rfl⟩
      have oT : Own W1 (w.heap.size + 1) #[.string nm, .int .i64 (N : Int), .int .i64 z0] 68 := by rw [← hz0.out]; assumption
      rw [hz0.out] at hz
      clear hz0
      clear hW1
      generalize W1 = W at *
    all_goals (
      have hsW := hBW.size
      have oW := ho'.below hBW
      have rW := H.r1.fr (F := fun _ => False) (Fr.of hBW) fun _ _ q => q
      have e0 := oT.drew.cell 0
      have e1 := oT.drew.cell 1
      have e2 := oT.drew.cell 2
      simp only [List.getElem?_toArray, List.getElem?_cons_zero, List.getElem?_cons_succ] at e0 e1 e2
      have hp := pushT W.drew p _ _ _ _ _ _ _ _ nm (N : Int) z0 oW.drew rW.drew (by omega)
      have hfx : FnIs 43 := fun a w => by kernel_rfl
      go_region_law (refine step_call (by rfl) 43 [.tmp 40, .tmp 41] #[53, 68] (by rfl) hfx [.pointer (some ⟨p, 1, none⟩), .agg #[.string nm, .int .i64 (N : Int), .int .i64 z0]] (by rfl) hp ?_; rintro en w3 ⟨rfl, u1, h1, h2, h3, h4⟩; refine ⟨_, rfl, ?_⟩)
      have n10 := H.r0.ne2 H.r1 (by decide)
      have n12 := H.r2.ne2 H.r1 (by decide)
      have n13 := H.r3.ne2 H.r1 (by decide)
      have q0 := H.r0.ne ho (by decide)
      have q2 := H.r2.ne ho (by decide)
      have q3 := H.r3.ne ho (by decide)
      have h4s : W.heap.size ≤ w3.heap.size := h4.size
      have hWd : ∀ b, b < w.heap.size → b ≠ p → v1.ownBlock ≠ some b → w3.heap[b]? = w.heap[b]? := fun b hb k1 k2 => (h4.block b (by show b < W.heap.size; omega) (by rintro (q | q); exact k1 q; exact k2 q)).trans (hBW.block b hb)
      have oT3 : Own w3 (w.heap.size + 1) #[.string nm, .int .i64 (N : Int), .int .i64 z0] 68 := oT.drew.fr h4 (by
        rintro (q | q)
        · omega
        · have := H.r1.lt q; omega)
      have lb3 : LabT w3 vm m.turns N := by
        have := lab_on H.lab (w' := w3) fun b e => hWd b (lab_lt H.lab e) (lab_ne H.lab e ho) (lab_neR H.lab e H.r1)
        rw [labT_iff, hNN.out] at this
        exact this
      have hk := keepS h2 lb3 (by rw [← hNN.out]; exact hN) t (by rw [htl.out.1]; exact hsz) (fun hne => by rw [htl.out.1] at hne ⊢; exact hfr hne)
      unfold tV at hk
      rw [hz.out] at hk
      simp only at hk
      rw [htl.out.1, htl.out.2, hNN.out] at hk
      have g0 := oT3.cell 0
      have g1 := oT3.cell 1
      have g2 := oT3.cell 2
      simp only [List.getElem?_toArray, List.getElem?_cons_zero, List.getElem?_cons_succ] at g0 g1 g2
      have hN2 : N ≤ 100000 := by rw [← hNN.out]; exact hN
      go_wp2_with (go_at_call 44; refine hk.mono ?_; rintro e w4 ⟨rfl, um, k1, k2, k3, k4⟩; have k3s := k3.size; have hW4 : Own w4 (w.heap.size + 1) #[.string nm, .int .i64 (N : Int), .int .i64 z0] 68 := oT3.fr k3 (by
          rintro (q | q)
          · omega
          · have := lab_lt H.lab q; omega); have d4 := k1.cell 4; have f4 := k1.froz 4; have d1 := (hW4.other (g' := p) (i := 4) (by omega) (.int .i64 ((N : Int) + 1))).cell 1; simp only [List.getElem?_toArray, List.getElem?_cons_zero, List.getElem?_cons_succ] at d4 d1)
      go_ret2
      have hV : m.entV nm = N := by unfold M.entV; rw [hE.out, hNN.out]; simp
      rw [hV, hE.out, hD.out]
      refine ⟨rfl, ?_⟩
      have hF2 : F p := hF p (.inl rfl)
      have hWe : ∀ b, b < w.heap.size → b ≠ p → v1.ownBlock ≠ some b → vm ≠ .map (some b) → (w4.setCell ⟨p, 4, none⟩ (.int .i64 ((N : Int) + 1))).heap[b]? = w.heap[b]? := fun b hb e1 e2 e3 => by
        rw [Below.heap_setCell w4 ⟨p, 4, none⟩ _ b e1, k3.block b (by omega) (by rintro (q | q); exact e1 q; exact e3 q)]
        exact hWd b hb e1 e2
      have o5 : Own (w4.setCell ⟨p, 4, none⟩ (.int .i64 ((N : Int) + 1))) p #[v0, u1, v2, v3, .int .i64 ((N : Int) + 1), um] 57 := by simpa using k1.set 4 (.int .i64 ((N : Int) + 1))
      have r1' : Rw (w4.setCell ⟨p, 4, none⟩ (.int .i64 ((N : Int) + 1))) 68 3 u1 (m.turns.length + 1) (m.rowT ++ [.string nm, .int .i64 (N : Int), .int .i64 z0]) := (h1.fr k3 (by
        rintro k e (q | q)
        · exact h1.ne h2 (by decide) (by rw [e, q])
        · exact lab_neR (labT_iff.2 lb3 : LabAt w3 vm ⟨[], [], [], m.turns, N⟩) q h1 e)).set (h1.ne h2 (by decide)) 4 _
      have lb5 : LabT (w4.setCell ⟨p, 4, none⟩ (.int .i64 ((N : Int) + 1))) um (m.turns ++ [t]) (N + 1) := lab_on k2 fun b e => Below.heap_setCell w4 ⟨p, 4, none⟩ _ b (lab_ne k2 e k1)
      refine ScRet.mk' hF hl (u0 := v0) (u1 := u1) (u2 := v2) (u3 := v3) (um := um) ⟨?_, ?_, ?_, ?_, ?_, ?_, hin⟩ ?_ ?_
      · show Own _ p #[v0, u1, v2, v3, .int .i64 ((m.next + 1 : Nat) : Int), um] 57
        rw [hNN.out]; exact o5
      · exact H.r0.on fun b e => hWe b (H.r0.lt e) (by rintro rfl; exact q0 e) (n10 b e) (fun q => lab_neR H.lab q H.r0 e)
      · show Rw _ 68 3 u1 (m.turns ++ [t]).length (rowTs (m.turns ++ [t]))
        rw [rowTs_snoc, hz.out, htl.out.1, htl.out.2, hNN.out, List.length_append]
        exact r1'
      · exact H.r2.on fun b e => hWe b (H.r2.lt e) (by rintro rfl; exact q2 e) (n12 b e) (fun q => lab_neR H.lab q H.r2 e)
      · exact H.r3.on fun b e => hWe b (H.r3.lt e) (by rintro rfl; exact q3 e) (n13 b e) (fun q => lab_neR H.lab q H.r3 e)
      · rw [labT_iff]
        show LabT _ um (m.turns ++ [t]) (m.next + 1)
        rw [hNN.out]; exact lb5
      · rintro b (q | q | q | q | q | q)
        · exact .inl (.inl q)
        · exact .inl (.inr (.inl q))
        · rcases h3 b q with q | q
          · exact .inl (.inr (.inr (.inl q)))
          · exact .inr (Nat.le_trans hsW q)
        · exact .inl (.inr (.inr (.inr (.inl q))))
        · exact .inl (.inr (.inr (.inr (.inr (.inl q)))))
        · rcases k4 b q with q | q
          · exact .inl (.inr (.inr (.inr (.inr (.inr q)))))
          · have : W.heap.size ≤ w3.heap.size := h4s
            exact .inr (by omega)
      · exact (((Fr.of hBW).drew.then h4 fun i _ q => hF i (by rcases q with q | q; exact .inl q; exact .inr (.inr (.inl q)))).then k3 fun i _ q => hF i (by rcases q with q | q; exact .inl q; exact .inr (.inr (.inr (.inr (.inr q)))))).set (.inr hF2) 4 _)
end Go.Proofs.Ytnnajgbkpilaaaa
