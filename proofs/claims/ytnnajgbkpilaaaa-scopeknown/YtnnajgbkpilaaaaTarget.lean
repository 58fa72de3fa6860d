/-
  CONTRACT of the landed Target.
-/
import Derived.Test.YtnnajgbkpilaaaaEnter
namespace Go.Proofs.Ytnnajgbkpilaaaa
open Go.RowKit Go.Maps
set_option linter.unusedVariables false
set_option linter.unusedSimpArgs false

theorem lpF_find : ∀ (ts : List T) (a : Int), lpF a ts = match ts.reverse.find? (fun t => t.loop) with | some t => (t.no : Int) | none => a
  | [], a => rfl
  | t :: r, a => by
    rw [List.reverse_cons, List.find?_append]
    show lpF (if t.loop then (t.no : Int) else a) r = _
    rw [lpF_find r]
    cases hf : r.reverse.find? (fun t => t.loop) with
    | some x => rfl
    | none =>
      cases hl : t.loop <;> simp [hl]
theorem tl_lt : ∀ (ts : List T) (a : Int), ts.Pairwise (fun a b => a.no < b.no) → (∀ t ∈ ts, a < (t.no : Int)) → ∀ x ∈ tl a ts, (x.1.loop = true → x.2 = (x.1.no : Int)) ∧ (x.1.loop = false → x.2 < (x.1.no : Int))
  | [], a, _, _, x, hx => by simp [tl] at hx
  | t :: r, a, hp, ha, x, hx => by
    obtain ⟨h1, h2⟩ := List.pairwise_cons.1 hp
    simp only [tl, List.mem_cons] at hx
    have ht := ha t (by simp)
    rcases hx with rfl | hx
    · refine ⟨fun h => ?_, fun h => ?_⟩
      · have h' : t.loop = true := h
        show (if t.loop then (t.no : Int) else a) = _
        rw [if_pos h']
      · have h' : t.loop = false := h
        show (if t.loop then (t.no : Int) else a) < _
        rw [if_neg (by rw [h']; simp)]
        exact ht
    · refine tl_lt r _ h2 (fun t' ht' => ?_) x hx
      have q1 := h1 t' ht'
      have q2 := ha t' (by simp [ht'])
      split <;> omega
theorem lab_uniq : ∀ {ts : List T}, ts.Pairwise (fun a b => a.label = b.label → a.label = empt) → ∀ {t t' : T}, t ∈ ts → t' ∈ ts → t.label = t'.label → t.label ≠ empt → t = t'
  | x :: r, hp, t, t', ht, ht', he, hne => by
    obtain ⟨h1, h2⟩ := List.pairwise_cons.1 hp
    rcases List.mem_cons.1 ht with e1 | ht
    · rcases List.mem_cons.1 ht' with e2 | ht'
      · rw [e1, e2]
      · rw [e1] at he hne
        exact absurd (h1 t' ht' he) hne
    · rcases List.mem_cons.1 ht' with e2 | ht'
      · rw [e2] at he
        exact absurd (h1 t ht he.symm) (by rw [← he]; exact hne)
      · exact lab_uniq h2 ht ht' he hne
theorem tgt_empt (m : M) (b : Bool) : m.tgt empt b = m.turns.reverse.find? fun t => t.loop || !b := by unfold M.tgt; simp
theorem tgt_lab {m : M} (h : Inv m) {nm : ByteArray} (hne : nm ≠ empt) (b : Bool) : m.tgt nm b = match labF m.turns nm with | some x => if (x.1.loop || !b) = true then some x.1 else none | none => none := by
  cases hx : labF m.turns nm with
  | none =>
    have hf : ∀ t ∈ m.turns, t.label ≠ nm := hasT_false (by rw [← labF_has hne, hx]; rfl)
    unfold M.tgt
    rw [List.find?_eq_none]
    intro t ht
    have := hf t (by simpa using ht)
    simp [hne, this]
  | some x =>
    have hx2 := hx
    unfold labF at hx2
    rw [if_neg hne] at hx2
    have h1 := tl_mem (List.mem_of_find?_eq_some hx2)
    have h2 := List.find?_some hx2
    simp only [decide_eq_true_eq] at h2
    unfold M.tgt
    simp only
    cases hf : m.turns.reverse.find? (fun t => (decide (nm = empt) || decide (t.label = nm)) && (t.loop || !b)) with
    | some t =>
      have h3 := List.find?_some hf
      have h4 := List.mem_of_find?_eq_some hf
      simp only [hne, decide_false, Bool.false_or, Bool.and_eq_true, decide_eq_true_eq] at h3
      have e : t = x.1 := lab_uniq h.labs (by simpa using h4) h1 (by rw [h3.1, h2]) (by rw [h3.1]; exact hne)
      rw [← e, if_pos h3.2]
    | none =>
      rw [List.find?_eq_none] at hf
      have := hf x.1 (by simpa using h1)
      rw [if_neg]
      intro q
      exact this (by simp [h2, q])
def toV (b : Bool) (no z : Int) : Int := if b then z else no
def okE (b has : Bool) (no z : Int) : Bool := has && !decide (toV b no z = -1)
set_option maxRecDepth 100000 in
set_option maxHeartbeats 2000000 in
theorem target0 {w : World} {p : Nat} {m : M} {F : Nat → Prop} (h : ScAt w p m F) (b has : Bool) (lb : ByteArray) (no z : Int) (hlab : labF m.turns empt = none)
    (hI : ∀ W, Below w.heap.size w W → Calls Try.prog 45 #[.pointer (some ⟨p, 1, none⟩)] W fun e w' => e = .returned (.tuple #[.agg #[.string lb, .int .i64 no, .int .i64 z], .bool has]) ∧ Below W.heap.size W w') (rv re : Int) (hr : Hid ((if okE b has no z = true then toV b no z else 0) = rv ∧ (if okE b has no z = true then (0 : Int) else 72) = re)) :
    Calls Try.prog 18 #[.pointer (some ⟨p, 0, none⟩), .string ⟨#[]⟩, .bool b] w fun e w' => e = .returned (.tuple #[.int .i64 rv, .int .i64 re]) ∧ Below w.heap.size w w' := by
  obtain ⟨v0, v1, v2, v3, vm, H, hF, hl⟩ := h
  have ho := H.own
  have hlk := lab_look H.lab (l := ⟨#[]⟩) (by unfold maxLen; decide)
  rw [show labF m.turns ⟨#[]⟩ = none from hlab] at hlk
  simp only [lookV] at hlk
  have c5 := ho.cell 5
  simp only [List.getElem?_toArray, List.getElem?_cons_zero, List.getElem?_cons_succ] at c5
  have hBA : Below w.heap.size w (w.alloc (.cells #[.string ⟨#[]⟩, .int .i64 0, .int .i64 0] 68)) := (Below.refl _ _).alloc (Nat.le_refl _) _
  have hIA := hI _ hBA
  have tA := Own.new w #[.string ⟨#[]⟩, .int .i64 0, .int .i64 0] 68
  clear hI
  go_enter Try.func18, Try.ntmps18
  go_upto_region 6 with (go_at_call 45; refine hIA.mono ?_; rintro e w1 ⟨rfl, hB1⟩; have t1 := tA.below hB1; have d0 := t1.cell 0; have d1 := t1.cell 1; have d2 := t1.cell 2; have df := t1.froz; simp only [List.getElem?_toArray, List.getElem?_cons_zero, List.getElem?_cons_succ] at d0 d1 d2)
  have hBW : Below w.heap.size w (((w1.setCell ⟨w.heap.size, 0, none⟩ (.string lb)).setCell ⟨w.heap.size, 1, none⟩ (.int .i64 no)).setCell ⟨w.heap.size, 2, none⟩ (.int .i64 z)) := (((hBA.trans (hB1.mono hBA.size)).setCell (p := ⟨w.heap.size, 0, none⟩) (Nat.le_refl _) _).setCell (p := ⟨w.heap.size, 1, none⟩) (Nat.le_refl _) _).setCell (p := ⟨w.heap.size, 2, none⟩) (Nat.le_refl _) _
  have tW : Own (((w1.setCell ⟨w.heap.size, 0, none⟩ (.string lb)).setCell ⟨w.heap.size, 1, none⟩ (.int .i64 no)).setCell ⟨w.heap.size, 2, none⟩ (.int .i64 z)) w.heap.size #[.string lb, .int .i64 no, .int .i64 z] 68 := by simpa using ((t1.set 0 (.string lb)).set 1 (.int .i64 no)).set 2 (.int .i64 z)
  generalize ((w1.setCell ⟨w.heap.size, 0, none⟩ (.string lb)).setCell ⟨w.heap.size, 1, none⟩ (.int .i64 no)).setCell ⟨w.heap.size, 2, none⟩ (.int .i64 z) = W at *
  clear t1 d0 d1 d2 df hB1 hIA tA hlk c5
  have e1 := tW.cell 1
  have e2 := tW.cell 2
  simp only [List.getElem?_toArray, List.getElem?_cons_zero, List.getElem?_cons_succ] at e1 e2
  have key : ∀ y : Int, (y = -1 ∨ ((y == -1) = false)) := fun y => by
    by_cases q : y = -1
    · exact .inl q
    · exact .inr (by simpa using q)
  cases b
  · rcases key no with q | q
    · subst q
      cases has <;> (go_wp2; go_ret2; exact ⟨by rw [← hr.out.1, ← hr.out.2]; simp [okE, toV], hBW⟩)
    · have q' : Hid (¬ no = -1) := by unfold Hid; simpa using q
      cases has <;> (go_wp2; go_ret2; exact ⟨by rw [← hr.out.1, ← hr.out.2]; simp [okE, toV, q'.out], hBW⟩)
  · rcases key z with q | q
    · subst q
      cases has <;> (go_wp2; go_ret2; exact ⟨by rw [← hr.out.1, ← hr.out.2]; simp [okE, toV], hBW⟩)
    · have q' : Hid (¬ z = -1) := by unfold Hid; simpa using q
      cases has <;> (go_wp2; go_ret2; exact ⟨by rw [← hr.out.1, ← hr.out.2]; simp [okE, toV, q'.out], hBW⟩)
def okL2 (b has : Bool) (no z : Int) : Bool := has && !decide (toV b no z = -1) && decide (toV b no z = no)
set_option maxRecDepth 100000 in
set_option maxHeartbeats 2000000 in
theorem target1 {w : World} {p : Nat} {m : M} {F : Nat → Prop} (h : ScAt w p m F) (b has : Bool) (nm lb : ByteArray) (no z : Int) (hsz : nm.size ≤ maxLen) (hne : nm ≠ empt) (hlk : ∀ vm, LabAt w vm m → (Instr.lookup 55 vm (.string nm) true).run Try.prog w = .ok (.tuple #[.agg #[.string lb, .int .i64 no, .int .i64 z], .bool has]) w) (rv re : Int) (hr : Hid ((if okL2 b has no z = true then toV b no z else 0) = rv ∧ (if okL2 b has no z = true then (0 : Int) else 72) = re)) :
    Calls Try.prog 18 #[.pointer (some ⟨p, 0, none⟩), .string nm, .bool b] w fun e w' => e = .returned (.tuple #[.int .i64 rv, .int .i64 re]) ∧ Below w.heap.size w w' := by
  obtain ⟨v0, v1, v2, v3, vm, H, hF, hl⟩ := h
  have ho := H.own
  replace hlk := hlk vm H.lab
  have c5 := ho.cell 5
  simp only [List.getElem?_toArray, List.getElem?_cons_zero, List.getElem?_cons_succ] at c5
  have hBA : Below w.heap.size w (w.alloc (.cells #[.string lb, .int .i64 no, .int .i64 z] 68)) := (Below.refl _ _).alloc (Nat.le_refl _) _
  have tW := Own.new w #[.string lb, .int .i64 no, .int .i64 z] 68
  have e1 := tW.cell 1
  have e2 := tW.cell 2
  simp only [List.getElem?_toArray, List.getElem?_cons_zero, List.getElem?_cons_succ] at e1 e2
  have hq : (nm.toList == ([] : List UInt8)) = false := by
    have h := ba_eq nm empt
    have e : empt.toList = [] := by rw [ByteArray.toList_eq]; rfl
    rw [e] at h
    rw [h]; simpa using hne
  have key : ∀ y : Int, (y = -1 ∨ ((y == -1) = false)) := fun y => by
    by_cases q : y = -1
    · exact .inl q
    · exact .inr (by simpa using q)
  have key2 : (z = no ∨ ((z == no) = false)) := by
    by_cases q : z = no
    · exact .inl q
    · exact .inr (by simpa using q)
  go_enter Try.func18, Try.ntmps18
  go_upto_region 6 with fail
  cases b
  · rcases key no with q | q
    · subst q
      cases has <;> (go_wp2; go_ret2; exact ⟨by rw [← hr.out.1, ← hr.out.2]; simp [okL2, toV], hBA⟩)
    · have q' : Hid (¬ no = -1) := by unfold Hid; simpa using q
      cases has <;> (go_wp2; go_ret2; exact ⟨by rw [← hr.out.1, ← hr.out.2]; simp [okL2, toV, q'.out], hBA⟩)
  · rcases key z with q | q
    · subst q
      cases has <;> (go_wp2; go_ret2; exact ⟨by rw [← hr.out.1, ← hr.out.2]; simp [okL2, toV], hBA⟩)
    · have q' : Hid (¬ z = -1) := by unfold Hid; simpa using q
      rcases key2 with k | k
      · subst k
        cases has <;> (go_wp2; go_ret2; exact ⟨by rw [← hr.out.1, ← hr.out.2]; simp [okL2, toV, q'.out], hBA⟩)
      · have k' : Hid (¬ z = no) := by unfold Hid; simpa using k
        cases has <;> (go_wp2; go_ret2; exact ⟨by rw [← hr.out.1, ← hr.out.2]; simp [okL2, toV, q'.out, k'.out], hBA⟩)
theorem labF_empt (ts : List T) : labF ts empt = none := by unfold labF; rw [if_pos rfl]
theorem targetS {w : World} {p : Nat} {m : M} {F : Nat → Prop} (h : ScAt w p m F) (hn : m.turns.length ≤ 100000) (nm : ByteArray) (hsz : nm.size ≤ maxLen) (b : Bool) : Calls Try.prog 18 #[.pointer (some ⟨p, 0, none⟩), .string nm, .bool b] w fun e w' => e = .returned (.tuple #[.int .i64 (m.tgtV nm b : Int), .int .i64 (m.tgtE nm b : Int)]) ∧ Below w.heap.size w w' := by
  have hinv := h.inv
  by_cases he : nm = empt
  · subst he
    have hsc := h
    obtain ⟨v0, v1, v2, v3, vm, H, hF, hl⟩ := h
    rcases List.eq_nil_or_concat m.turns with ht | ⟨l, t, ht⟩
    · have hr := H.r1
      rw [ht] at hr
      refine (target0 hsc b false ⟨#[]⟩ 0 0 (labF_empt _) (fun W hB => ?_) _ _ ⟨rfl, rfl⟩).mono ?_
      · exact innerT0 W p _ _ _ _ _ _ _ (H.own.below hB) (hr.fr (F := fun _ => False) (Fr.of hB) fun _ _ q => q)
      · rintro e w' ⟨rfl, hB⟩
        refine ⟨?_, hB⟩
        unfold M.tgtV M.tgtE
        rw [tgt_empt, ht]
        rfl
    · rw [List.concat_eq_append] at ht
      obtain ⟨x0, x1, x2⟩ := rowTs_last l t
      rw [← ht] at x0 x1 x2
      have hr := H.r1
      rw [show m.turns.length = l.length + 1 by rw [ht]; simp] at hr hn
      refine (target0 hsc b true t.label (t.no : Int) (lpF (-1) m.turns) (labF_empt _) (fun W hB => ?_) _ _ ⟨rfl, rfl⟩).mono ?_
      · exact innerT W p _ _ _ _ _ _ l.length _ _ _ _ (H.own.below hB) (hr.fr (F := fun _ => False) (Fr.of hB) fun _ _ q => q) (by omega) x0 x1 x2
      · rintro e w' ⟨rfl, hB⟩
        refine ⟨?_, hB⟩
        unfold M.tgtV M.tgtE
        rw [tgt_empt]
        cases b
        · have e : m.turns.reverse.find? (fun t => t.loop || !false) = some t := by rw [ht]; simp
          rw [e]
          have q : ¬ ((t.no : Int) = -1) := by omega
          simp [okE, toV, q]
        · simp only [Bool.not_true, Bool.or_false]
          rw [lpF_find]
          cases hf : m.turns.reverse.find? (fun t => t.loop) with
          | none => simp [okE, toV]
          | some t' =>
            have q : ¬ ((t'.no : Int) = -1) := by omega
            simp [okE, toV, q]
  · cases hx : labF m.turns nm with
    | none =>
      refine (target1 h b false nm ⟨#[]⟩ 0 0 hsz he (fun vm hv => by rw [lab_look hv hsz, hx]; rfl) _ _ ⟨rfl, rfl⟩).mono ?_
      rintro e w' ⟨rfl, hB⟩
      refine ⟨?_, hB⟩
      unfold M.tgtV M.tgtE
      rw [tgt_lab hinv he, hx]
      rfl
    | some x =>
      refine (target1 h b true nm x.1.label (x.1.no : Int) x.2 hsz he (fun vm hv => by rw [lab_look hv hsz, hx]; rfl) _ _ ⟨rfl, rfl⟩).mono ?_
      rintro e w' ⟨rfl, hB⟩
      refine ⟨?_, hB⟩
      have hx2 := hx
      unfold labF at hx2
      rw [if_neg he] at hx2
      obtain ⟨q1, q2⟩ := tl_lt m.turns (-1) hinv.nums (fun t _ => by omega) x (List.mem_of_find?_eq_some hx2)
      unfold M.tgtV M.tgtE
      rw [tgt_lab hinv he, hx]
      have q : ¬ ((x.1.no : Int) = -1) := by omega
      cases b
      · simp [okL2, toV, q]
      · cases hl : x.1.loop
        · have k := q2 hl
          have k2 : ¬ (x.2 = (x.1.no : Int)) := by omega
          simp [okL2, toV, k2, hl]
        · have k := q1 hl
          simp [okL2, toV, k, q, hl]
end Go.Proofs.Ytnnajgbkpilaaaa
