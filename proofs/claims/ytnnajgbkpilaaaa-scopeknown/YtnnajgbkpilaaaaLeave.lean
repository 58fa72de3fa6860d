/-
  CONTRACT of the landed Leave.
-/
import Derived.Test.YtnnajgbkpilaaaaKeep
namespace Go.Proofs.Ytnnajgbkpilaaaa
open Go.RowKit Go.Maps
set_option linter.unusedVariables false

theorem step_del {W : World} {ops : Array Oper} {o : Oper} {a : Act} {K : Act → World → Prop} {Q : Exit → Act → World → Prop} {E : Prop} (hgd : o.guard = none) (x y : Operand)
    (ho : o.op = .call { callee := .builtin .delete, args := #[x, y], argTypes := #[55, 9] }) (vm key : Value) (hx : a.eval x = vm) (hy : a.eval y = key) (w' : World) (hrun : (Builtin.delete_ #[55, 9] o.type #[vm, key]).run Try.prog W = .ok (.tuple #[]) w')
    (h : K (a.put o.dst (.tuple #[])) w') : if Region.wanted o (yielded ops a.tmps) = true then Oper.wp Try.prog o a W K Q else E := by
  have hw : Region.wanted o (yielded ops a.tmps) = true := by simp [Region.wanted, hgd]
  rw [if_pos hw]
  unfold Oper.wp execOp
  simp only [ho, resolve, invoke, builtin, Sem.run_bind, Sem.run_pure, Result.andThen_ok, List.map_toArray, List.map_cons, List.map_nil, hx, hy, hrun]
  exact h
theorem lab_del0 {D : DataW Unit} {ts : List T} (h : LabIs D ts) : LabIs (D.del (.string empt.data.toList)) ts := by
  refine ⟨?_, fun l => ?_⟩
  · obtain ⟨es, rfl⟩ := h.1
    exact ⟨_, rfl⟩
  · by_cases he : l = empt
    · subst he
      rw [atKey_del_same]
      unfold labD labF
      rw [if_pos rfl]
    · rw [atKey_del_other (fun e => he (ba_ext (by simpa using e))), h.2 l]
theorem lab_drop {w : World} {vm : Value} {ts ts' : List T} {N : Nat} (h : LabT w vm ts N) {l : ByteArray} (hsz : l.size ≤ maxLen) (hD : ∀ D, LabIs D ts → LabIs (D.del (.string l.data.toList)) ts') (hs : ∀ t ∈ ts', t ∈ ts) (ty : TypeId) :
    ∃ w', (Builtin.delete_ #[55, 9] ty #[vm, .string l]).run Try.prog w = .ok (.tuple #[]) w' ∧ LabT w' vm ts' N ∧ Fr (fun k => vm = .map (some k)) w w' := by
  rcases h with ⟨rfl, h2⟩ | ⟨b, n, D, rfl, h2, h3, h4⟩
  · exact ⟨w, Maps.drop_nil keyed9 Try.underlying55 (key9 hsz) ty, .inl ⟨rfl, fun t ht => h2 t (hs t ht)⟩, Fr.refl _ _⟩
  · obtain ⟨w', hrun, k1, k2⟩ := h2.drop keyed9 Try.underlying55 (key9 hsz) ty
    refine ⟨w', hrun, .inr ⟨b, n, _, rfl, k1, h3, hD D h4⟩, (Fr.refl _ w).grown k2.grown fun k _ e => by rw [e]⟩
set_option maxRecDepth 100000 in
set_option maxHeartbeats 2000000 in
theorem leaveS {w : World} {p : Nat} {m : M} {F : Nat → Prop} (h : ScAt w p m F) (hn : m.turns.length ≤ 100000) : Calls Try.prog 22 #[.pointer (some ⟨p, 0, none⟩)] w fun e w' => e = .returned (.bool m.leaves) ∧ ScRet w p m.left F w' := by
  obtain ⟨v0, v1, v2, v3, vm, H, hF, hl⟩ := h
  have ho := H.own
  have hpl := ho.lt
  rcases List.eq_nil_or_concat m.turns with ht | ⟨l, t, ht⟩
  · have r1 := H.r1
    rw [ht] at r1
    have hp := popT0 w p _ _ _ _ _ _ _ ho r1
    have e2 : Hid (m.leaves = false) := by unfold Hid M.leaves; simp [ht]
    have e3 : Hid (m.left = m) := by unfold Hid M.left; rw [ht]; cases m; simp at ht; subst ht; rfl
    go_enter Try.func22, Try.ntmps22
    go_upto_region 4 with (go_at_call 48; refine hp.mono ?_; rintro e w1 ⟨rfl, hB1⟩)
    have hBW : Below w.heap.size w (w1.alloc (.cells #[.string ⟨#[]⟩, .int .i64 0, .int .i64 0] 68)) := hB1.alloc hB1.size _
    have oW := (ho.below hBW).drew
    have c5 := oW.cell 5
    have x2 := (Own.new w1 #[.string ⟨#[]⟩, .int .i64 0, .int .i64 0] 68).drew
    have y0 := x2.cell 0
    simp only [List.getElem?_toArray, List.getElem?_cons_zero, List.getElem?_cons_succ] at c5 y0
    have lW : LabT (w1.alloc (.cells #[.string ⟨#[]⟩, .int .i64 0, .int .i64 0] 68)).drew vm m.turns m.next := lab_on (labT_iff.1 H.lab) fun b e => hBW.block b (lab_lt H.lab e)
    obtain ⟨w3, hrun, k1, k2⟩ := lab_drop (ts' := m.turns) lW (l := ⟨#[]⟩) (by unfold maxLen; decide) (fun D hD => lab_del0 hD) (fun t ht => ht) 0
    go_region_law (refine step_del (by rfl) (.tmp 17) (.tmp 19) (by rfl) vm (.string ⟨#[]⟩) (by rfl) (by rfl) w3 hrun ?_)
    all_goals (
      go_wp2_with fail
      go_ret
      rw [e2.out, e3.out]
      refine ⟨rfl, ?_⟩
      have hW3 : ∀ b, b < w.heap.size → vm ≠ .map (some b) → w3.heap[b]? = w.heap[b]? := fun b hb q => (k2.block b (by have := hBW.size; show b < (w1.alloc _).heap.size; omega) q).trans (hBW.block b hb)
      refine ScRet.mk' hF hl (u0 := v0) (u1 := v1) (u2 := v2) (u3 := v3) (um := vm) ⟨(hW3 p hpl fun q => lab_ne H.lab q ho rfl).trans ho, H.r0.on fun b e => hW3 b (H.r0.lt e) fun q => lab_neR H.lab q H.r0 e, H.r1.on fun b e => hW3 b (H.r1.lt e) fun q => lab_neR H.lab q H.r1 e, H.r2.on fun b e => hW3 b (H.r2.lt e) fun q => lab_neR H.lab q H.r2 e, H.r3.on fun b e => hW3 b (H.r3.lt e) fun q => lab_neR H.lab q H.r3 e, labT_iff.2 k1, H.inv⟩ (fun b hb => .inl hb) ?_
      exact (Fr.of hBW).drew.then k2 fun i _ q => hF i (.inr (.inr (.inr (.inr (.inr q))))))
  · rw [List.concat_eq_append] at ht
    have e2 : Hid (m.leaves = true) := by unfold Hid M.leaves; simp [ht]
    have e3 : Hid (m.left = { m with turns := l }) := by unfold Hid M.left; rw [ht]; simp
    obtain ⟨x0, x1, x2⟩ := rowTs_last l t
    have htk := rowTs_take l t
    rw [← ht] at x0 x1 x2 htk
    have r1 := H.r1
    rw [show m.turns.length = l.length + 1 by rw [ht]; simp] at r1 hn
    have hp := popT w p _ _ _ _ _ _ l.length _ _ _ _ ho r1 (by omega) x0 x1 x2
    rw [show m.rowT = rowTs m.turns from rfl, htk] at hp
    have hsz : t.label.size ≤ maxLen := H.inv.size t (by rw [ht]; simp)
    have hlabs := H.inv.labs
    rw [ht, List.pairwise_append] at hlabs
    obtain ⟨lb, hlb⟩ : ∃ s, t.label = s := ⟨_, rfl⟩
    obtain ⟨no, hno⟩ : ∃ s : Int, (t.no : Int) = s := ⟨_, rfl⟩
    obtain ⟨z, hz⟩ : ∃ s : Int, lpF (-1) m.turns = s := ⟨_, rfl⟩
    rw [hlb, hno, hz] at hp
    clear x0 x1 x2 htk hz hno r1
    go_enter Try.func22, Try.ntmps22
    go_upto_region 4 with (go_at_call 48; refine hp.mono ?_; rintro e w1 ⟨rfl, u1, h1, h2, h3, h4⟩)
    have hs4 := h4.size
    have oW := (h2.alloc (.cells #[.string lb, .int .i64 no, .int .i64 z] 68)).drew
    have c5 := oW.cell 5
    have x2 := (Own.new w1 #[.string lb, .int .i64 no, .int .i64 z] 68).drew
    have y0 := x2.cell 0
    simp only [List.getElem?_toArray, List.getElem?_cons_zero, List.getElem?_cons_succ] at c5 y0
    have hW2 : ∀ b, b < w.heap.size → b ≠ p → v1.ownBlock ≠ some b → (w1.alloc (.cells #[.string lb, .int .i64 no, .int .i64 z] 68)).drew.heap[b]? = w.heap[b]? := fun b hb q1 q2 => by
      show (w1.alloc _).heap[b]? = _
      rw [Below.heap_alloc _ _ _ (by omega)]
      exact h4.block b hb (by rintro (q | q); exact q1 q; exact q2 q)
    have lW : LabT (w1.alloc (.cells #[.string lb, .int .i64 no, .int .i64 z] 68)).drew vm m.turns m.next := lab_on (labT_iff.1 H.lab) fun b e => hW2 b (lab_lt H.lab e) (lab_ne H.lab e ho) (lab_neR H.lab e H.r1)
    obtain ⟨w3, hrun, k1, k2⟩ := lab_drop (ts' := l) lW (l := lb) (by rw [← hlb]; exact hsz) (fun D hD => by rw [← hlb]; rw [ht] at hD; exact lab_del hD fun x hx e => hlabs.2.2 x hx t (by simp) e) (fun t' ht' => by rw [ht]; simp [ht']) 0
    go_region_law (refine step_del (by rfl) (.tmp 17) (.tmp 19) (by rfl) vm (.string lb) (by rfl) (by rfl) w3 hrun ?_)
    all_goals (
      go_wp2_with fail
      go_ret
      rw [e2.out]
      refine ⟨rfl, ?_⟩
      have n0 := H.r0.ne2 H.r1 (by decide)
      have n2 := H.r2.ne2 H.r1 (by decide)
      have n3 := H.r3.ne2 H.r1 (by decide)
      have q0 := H.r0.ne ho (by decide)
      have q2 := H.r2.ne ho (by decide)
      have q3 := H.r3.ne ho (by decide)
      have hW3 : ∀ b, b < w.heap.size → b ≠ p → v1.ownBlock ≠ some b → vm ≠ .map (some b) → w3.heap[b]? = w.heap[b]? := fun b hb e1 e2 q => (k2.block b (by show b < (w1.alloc _).heap.size; rw [World.size_alloc]; omega) q).trans (hW2 b hb e1 e2)
      have hin := H.inv.left
      rw [e3.out] at hin ⊢
      have hvp : vm ≠ .map (some p) := fun q => lab_ne H.lab q ho rfl
      have r1' : Rw w3 68 3 u1 l.length (rowTs l) := ((h1.alloc (.cells #[.string lb, .int .i64 no, .int .i64 z] 68)).drew).fr k2 fun k e q => lab_neR H.lab q H.r1 (by rw [← h3]; exact e)
      refine ScRet.mk' hF hl (u0 := v0) (u1 := u1) (u2 := v2) (u3 := v3) (um := vm) ⟨oW.fr k2 hvp, H.r0.on fun b e => hW3 b (H.r0.lt e) (by rintro rfl; exact q0 e) (n0 b e) fun q => lab_neR H.lab q H.r0 e, r1', H.r2.on fun b e => hW3 b (H.r2.lt e) (by rintro rfl; exact q2 e) (n2 b e) fun q => lab_neR H.lab q H.r2 e, H.r3.on fun b e => hW3 b (H.r3.lt e) (by rintro rfl; exact q3 e) (n3 b e) fun q => lab_neR H.lab q H.r3 e, labT_iff.2 k1, hin⟩ ?_ ?_
      · rintro b (q | q | q | q | q | q)
        · exact .inl (.inl q)
        · exact .inl (.inr (.inl q))
        · exact .inl (.inr (.inr (.inl (by rw [← h3]; exact q))))
        · exact .inl (.inr (.inr (.inr (.inl q))))
        · exact .inl (.inr (.inr (.inr (.inr (.inl q)))))
        · exact .inl (.inr (.inr (.inr (.inr (.inr q)))))
      · exact ((h4.mono fun i _ q => hF i (by rcases q with q | q; exact .inl q; exact .inr (.inr (.inl q)))).alloc _).drew.then k2 fun i _ q => hF i (.inr (.inr (.inr (.inr (.inr q))))))
end Go.Proofs.Ytnnajgbkpilaaaa
