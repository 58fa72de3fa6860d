/-
  CONTRACTS of the landed New, Open, Close.
-/
import Derived.Test.YtnnajgbkpilaaaaSc
namespace Go.Proofs.Ytnnajgbkpilaaaa
open Go.RowKit
set_option linter.unusedVariables false

theorem own_len (ao : Option Addr) (a b c d : Nat) : (Value.slice ao a c).ownBlock = (Value.slice ao b d).ownBlock := by cases ao <;> rfl
theorem rowB_new : M.new.rowB = [.int .i64 0] := rfl
theorem rowB_opened (m : M) : m.opened.rowB = m.rowB ++ [.int .i64 (m.flat.length : Int)] := by simp [M.rowB, M.fst_opened]
theorem flat_opened (m : M) : m.opened.flat = m.flat := by simp [M.opened, M.flat]
theorem rowL_opened (m : M) : m.opened.rowL = m.rowL := by unfold M.rowL; rw [flat_opened]
set_option maxHeartbeats 1000000 in
theorem newS (w : World) : Calls Try.prog 8 #[] w fun e w' => e = .returned (.pointer (some ⟨w.heap.size, 0, none⟩)) ∧ ∃ F, ScAt w' w.heap.size M.new F ∧ (∀ b, F b → w.heap.size ≤ b) ∧ Below w.heap.size w w' := by
  have ho := Own.new w #[.slice none 0 0, .slice none 0 0, .slice none 0 0, .slice none 0 0, .int .i64 0, .map none] 57
  have hp := pushB _ _ _ _ _ _ _ _ 0 [] 0 ho (World.ownsRow_nil _ 0 60 1) (by omega)
  go_enter Try.func8, Try.ntmps8
  go_wp2_with (go_at_call 26; refine hp.mono ?_; rintro e w1 ⟨rfl, v', h1, h2, h3, h4⟩)
  go_ret
  have hs := h4.size
  simp only [World.size_alloc] at hs
  have hB : Below w.heap.size w w1 := Fr.below (((Fr.refl (fun _ => False) w).alloc _).then h4 fun i hi q => by
    rcases q with q | q
    · omega
    · simp [Value.ownBlock] at q)
  refine ⟨rfl, Blk w.heap.size v' (.slice none 0 0) (.slice none 0 0) (.slice none 0 0) (.map none), ⟨v', .slice none 0 0, .slice none 0 0, .slice none 0 0, .map none, ⟨h2, by rw [rowB_new]; exact h1, World.ownsRow_nil _ 0 68 3, World.ownsRow_nil _ 0 71 2, World.ownsRow_nil _ 0 3 1, .inl ⟨rfl, by simp [M.new]⟩, Inv.new⟩, fun b hb => hb, ?_⟩, ?_, hB⟩
  · rintro b (rfl | hb | hb | hb | hb | hb)
    · omega
    · exact h1.lt hb
    · simp [Value.ownBlock] at hb
    · simp [Value.ownBlock] at hb
    · simp [Value.ownBlock] at hb
    · cases hb
  · rintro b (rfl | hb | hb | hb | hb | hb)
    · omega
    · rcases h3 b hb with q | q
      · simp [Value.ownBlock] at q
      · rw [World.size_alloc] at q; omega
    · simp [Value.ownBlock] at hb
    · simp [Value.ownBlock] at hb
    · simp [Value.ownBlock] at hb
    · cases hb
set_option maxHeartbeats 1000000 in
theorem openS {w : World} {p : Nat} {m : M} {F : Nat → Prop} (h : ScAt w p m F) (hn : m.out.length ≤ 100000) : Calls Try.prog 20 #[.pointer (some ⟨p, 0, none⟩)] w fun e w' => e = .returned (.int .i64 (m.out.length + 2 : Int)) ∧ ScRet w p m.opened F w' := by
  obtain ⟨v0, v1, v2, v3, vm, H, hF, hl⟩ := h
  have ho := H.own
  have hlow := H.inv.lows
  have hfew := H.inv.few
  obtain ⟨ao2, cap2, e2, -⟩ := H.r2.shape
  obtain ⟨-, -, c2, -, -, -, hf⟩ := own6 ho.drew
  rw [e2] at c2
  have hp := pushB w.drew p _ _ _ _ _ _ _ _ (m.flat.length : Int) ho.drew H.r0.drew (by omega)
  have hfx : FnIs 26 := fun a w => by kernel_rfl
  obtain ⟨L, hL⟩ : ∃ L, Hid (m.flat.length = L) := ⟨_, rfl⟩
  rw [hL.out] at c2 hp
  go_enter Try.func20, Try.ntmps20
  go_wp2_with fail
  go_region_law (refine step_call (by rfl) 26 [.tmp 7, .tmp 13] #[50, 60] (by rfl) hfx [.pointer (some ⟨p, 0, none⟩), .agg #[.int .i64 (L : Int)]] (by rfl) hp ?_; rintro en w1 ⟨rfl, v', h1, h2, h3, h4⟩; refine ⟨_, rfl, ?_⟩)
  have c0 := h2.cell 0
  obtain ⟨ao, cap, rfl, -⟩ := h1.shape
  simp only [List.getElem?_toArray, List.getElem?_cons_zero] at c0
  go_wp2
  go_ret
  refine ⟨rfl, ?_⟩
  have n0 := H.r1.ne2 H.r0 (by decide)
  have n2 := H.r2.ne2 H.r0 (by decide)
  have n3 := H.r3.ne2 H.r0 (by decide)
  have q1 := H.r1.ne ho (by decide)
  have q2 := H.r2.ne ho (by decide)
  have q3 := H.r3.ne ho (by decide)
  have r1 := H.r1.drew.fr h4 fun k e q => by rcases q with rfl | q; exact q1 e; exact n0 k e q
  have r2 := H.r2.drew.fr h4 fun k e q => by rcases q with rfl | q; exact q2 e; exact n2 k e q
  have r3 := H.r3.drew.fr h4 fun k e q => by rcases q with rfl | q; exact q3 e; exact n3 k e q
  have lb : LabAt w1 vm m := lab_on H.lab fun b e => h4.block b (lab_lt H.lab e) fun q => by
    rcases q with rfl | q
    · exact lab_ne H.lab e ho rfl
    · exact lab_neR H.lab e H.r0 q
  refine ScRet.mk' hF hl (u0 := .slice ao (m.out.length + 1 + 1) cap) (u1 := v1) (u2 := v2) (u3 := v3) (um := vm) ⟨h2, ?_, r1, ?_, r3, lb, H.inv.opened⟩ ?_ ?_
  · rw [rowB_opened, hL.out]
    have e : m.opened.out.length + 1 = m.out.length + 1 + 1 := by simp [M.opened]
    rw [e]; exact h1
  · rw [rowL_opened, flat_opened]; exact r2
  · rintro b (q | q | q | q | q | q)
    · exact .inl (.inl q)
    · rcases h3 b q with q | q
      · exact .inl (.inr (.inl q))
      · exact .inr q
    · exact .inl (.inr (.inr (.inl q)))
    · exact .inl (.inr (.inr (.inr (.inl q))))
    · exact .inl (.inr (.inr (.inr (.inr (.inl q)))))
    · exact .inl (.inr (.inr (.inr (.inr (.inr q)))))
  · exact (Fr.refl F w).drew.then h4 fun i _ q => hF i (by rcases q with q | q; exact .inl q; exact .inr (.inl q))
theorem rowB_closed {m : M} {o : List (List L)} {c : List L} (h : m.out = o ++ [c]) : m.rowB = m.closed.rowB ++ [.int .i64 (m.out.flatten.length : Int)] := by simp [M.rowB, M.fst_closed h]
set_option maxHeartbeats 1000000 in
theorem closeS0 {w : World} {p : Nat} {m : M} {F : Nat → Prop} (h : ScAt w p m F) (hm : m.out = []) : Calls Try.prog 21 #[.pointer (some ⟨p, 0, none⟩)] w fun e w' => e = .returned (.bool false) ∧ w = w' := by
  obtain ⟨v0, v1, v2, v3, vm, H, hF, hl⟩ := h
  obtain ⟨ao, cap, rfl, -⟩ := H.r0.shape
  obtain ⟨c0, -, -, -, -, -, hf⟩ := own6 H.own
  rw [hm] at c0
  go_enter Try.func21, Try.ntmps21
  go_wp2
  go_ret
  exact ⟨rfl, rfl⟩
set_option maxHeartbeats 2000000 in
theorem closeS1 {w : World} {p : Nat} {m : M} {F : Nat → Prop} (h : ScAt w p m F) (hn : m.out.length ≤ 100000) {o : List (List L)} {c : List L} (hm : m.out = o ++ [c]) : Calls Try.prog 21 #[.pointer (some ⟨p, 0, none⟩)] w fun e w' => e = .returned (.bool true) ∧ ScRet w p m.closed F w' := by
  obtain ⟨v0, v1, v2, v3, vm, H, hF, hl⟩ := h
  have hlow := H.inv.lows
  have hfew := H.inv.few
  have hout : m.out.length = o.length + 1 := by rw [hm]; simp
  have ho := H.own
  have hrB := rowB_closed hm
  have hcl : m.closed.out.length + 1 = m.out.length := by rw [closed_parts hm, hout]
  have hlen : m.closed.rowB.length = m.out.length := by simp [M.rowB, M.fst_length, hcl]
  have hx : m.rowB[m.out.length]? = some (.int .i64 (m.out.flatten.length : Int)) := by rw [hrB, List.getElem?_append_right (by omega), hlen]; simp
  have hp := popB w p _ _ _ _ _ _ m.out.length _ _ ho H.r0 (by omega) hx
  have ht : m.rowB.take m.out.length = m.closed.rowB := by rw [hrB, ← hlen, List.take_left]
  rw [ht] at hp
  obtain ⟨ao, cap, e0, -⟩ := H.r0.shape
  have c0 := ho.cell 0
  rw [e0] at c0
  obtain ⟨n0, hn0⟩ : ∃ n, Hid (m.out.length = n + 1) := ⟨o.length, hout⟩
  obtain ⟨L1, hL1⟩ : ∃ L, Hid (m.flat.length = L) := ⟨_, rfl⟩
  obtain ⟨L0, hL0⟩ : ∃ L, Hid (m.out.flatten.length = L) := ⟨_, rfl⟩
  have hle : L0 ≤ L1 := by rw [← hL0.out, ← hL1.out]; simp [M.flat]
  obtain ⟨ao2, cap2, e2, hc2, hc3⟩ := H.r2.shape
  have e2' : Hid (v2 = .slice ao2 L1 cap2) := by rw [hL1.out] at e2; exact e2
  have H2 : Rw w 71 2 (.slice ao2 L1 cap2) L1 m.rowL := by have := H.r2; rw [e2, hL1.out] at this; exact this
  simp only [List.getElem?_toArray, List.getElem?_cons_zero] at c0
  rw [hn0.out] at c0
  rw [hL0.out] at hp
  rw [hL1.out] at hc2
  have q2 : (Value.slice ao2 L1 cap2).ownBlock ≠ some p := H2.ne ho (by decide)
  have n2 := H2.ne2 H.r0 (by decide)
  have hfx : FnIs 47 := fun a w => by kernel_rfl
  have hs1 : L1 ≤ 1000000 := by rw [← hL1.out]; omega
  clear hlow hfew hout hrB hcl hlen hx ht e2
  go_enter Try.func21, Try.ntmps21
  go_upto_region 4 with (go_at_call 46; refine hp.mono ?_; rintro e w1 ⟨rfl, v', h1, h2, h3, h4⟩)
  have H2' := H2.fr h4 fun k e q => by rcases q with rfl | q; exact q2 e; exact n2 k e q
  rw [e2'.out] at h2
  have o2 := (h2.alloc (.cells #[.int .i64 (L0 : Int)] 60)).drew
  have R2 := (H2'.alloc (.cells #[.int .i64 (L0 : Int)] 60)).drew
  have x2 := (Own.new w1 #[.int .i64 (L0 : Int)] 60).drew
  have c2 := o2.cell 2
  have c2f := o2.froz 2
  have xc := x2.cell 0
  simp only [List.getElem?_toArray, List.getElem?_cons_zero, List.getElem?_cons_succ] at c2 xc
  have hd : Calls Try.prog 47 #[.slice ao2 L1 cap2, .int .i64 (L0 : Int), .int .i64 (L1 : Int)] (w1.alloc (.cells #[.int .i64 (L0 : Int)] 60)).drew fun e w' => e = .returned (.slice ao2 L0 cap2) ∧ Rw w' 71 2 (.slice ao2 L0 cap2) L0 (m.rowL.take (L0 * 2)) ∧ (w1.alloc (.cells #[.int .i64 (L0 : Int)] 60)).drew.grownBy w' (Value.slice ao2 L1 cap2).ownBlock := del_as _ ao2 L0 L1 cap2 _ R2 hle hs1
  go_region_law (refine step_call (by rfl) 47 [.tmp 27, .tmp 29, .tmp 34] #[54, 3, 3] (by rfl) hfx [.slice ao2 L1 cap2, .int .i64 (L0 : Int), .int .i64 (L1 : Int)] (by rfl) hd ?_; rintro en w2 ⟨rfl, k1, k2⟩; have o3 := o2.grown k2 (fun e => q2 e.symm); have c3 := o3.cell 2; have c3f := o3.froz 2; simp only [List.getElem?_toArray, List.getElem?_cons_zero, List.getElem?_cons_succ] at c3; refine ⟨_, rfl, ?_⟩)
  all_goals (
    go_wp2
    go_ret
    refine ⟨rfl, ?_⟩
    have s4 := h4.size
    have n1 := H.r1.ne2 H.r0 (by decide)
    have n3 := H.r3.ne2 H.r0 (by decide)
    have m0 := H.r0.ne2 H2 (by decide)
    have m1 := H.r1.ne2 H2 (by decide)
    have m3 := H.r3.ne2 H2 (by decide)
    have q0 := H.r0.ne ho (by decide)
    have q1 := H.r1.ne ho (by decide)
    have q3 := H.r3.ne ho (by decide)
    have r0 := (((h1.alloc (.cells #[.int .i64 (L0 : Int)] 60)).drew.grown k2 fun k e q => by rw [h3] at e; exact m0 k e q.symm)).set (by rw [h3]; exact q0) 2 (.slice ao2 L0 cap2)
    have r1 := ((((H.r1.fr h4 fun k e q => by rcases q with rfl | q; exact q1 e; exact n1 k e q).alloc (.cells #[.int .i64 (L0 : Int)] 60)).drew.grown k2 fun k e q => m1 k e q.symm)).set q1 2 (.slice ao2 L0 cap2)
    have r3 := ((((H.r3.fr h4 fun k e q => by rcases q with rfl | q; exact q3 e; exact n3 k e q).alloc (.cells #[.int .i64 (L0 : Int)] 60)).drew.grown k2 fun k e q => m3 k e q.symm)).set q3 2 (.slice ao2 L0 cap2)
    have q2b : (Value.slice ao2 L0 cap2).ownBlock ≠ some p := fun e => q2 (by rw [own_len ao2 L1 L0 cap2 cap2]; exact e)
    have r2 := k1.set q2b 2 (.slice ao2 L0 cap2)
    have hbl : ∀ b, b < w.heap.size → b ≠ p → v0.ownBlock ≠ some b → (Value.slice ao2 L1 cap2).ownBlock ≠ some b → (w2.setCell ⟨p, 2, none⟩ (.slice ao2 L0 cap2)).heap[b]? = w.heap[b]? := by
      intro b hb h5 h6 h7
      rw [Below.heap_setCell w2 ⟨p, 2, none⟩ _ b h5, k2.block b (by rw [World.size_drew, World.size_alloc]; omega) (fun e => h7 e.symm)]
      show (w1.alloc _).heap[b]? = _
      rw [Below.heap_alloc _ _ _ (by omega), h4.block b hb (by rintro (q | q); exact h5 q; exact h6 q)]
    have lb : LabAt (w2.setCell ⟨p, 2, none⟩ (.slice ao2 L0 cap2)) vm m := lab_on H.lab fun b e => hbl b (lab_lt H.lab e) (lab_ne H.lab e ho) (lab_neR H.lab e H.r0) (lab_neR H.lab e H2)
    have hoo : Own (w2.setCell ⟨p, 2, none⟩ (.slice ao2 L0 cap2)) p #[v', v1, .slice ao2 L0 cap2, v3, .int .i64 (m.next : Int), vm] 57 := by simpa using o3.set 2 (.slice ao2 L0 cap2)
    have hrl : m.rowL.take (L0 * 2) = m.closed.rowL := by
      unfold M.rowL
      rw [flat_closed hm, ← hL0.out]
      exact take_flat cL 2 (fun _ => rfl) m.out.flatten m.cur
    have hin := H.inv.closed
    have hF2 : F p := hF p (.inl rfl)
    refine ScRet.mk' hF hl (u0 := v') (u1 := v1) (u2 := .slice ao2 L0 cap2) (u3 := v3) (um := vm) ⟨?_, ?_, ?_, ?_, ?_, ?_, hin⟩ ?_ ?_
    · rw [closed_parts hm]; exact hoo
    · have e : m.closed.out.length + 1 = m.out.length := by rw [closed_parts hm, hm]; simp
      rw [e]; exact r0
    · rw [show m.closed.turns = m.turns by rw [closed_parts hm], show m.closed.rowT = m.rowT by unfold M.rowT; rw [closed_parts hm]]; exact r1
    · rw [← hrl, flat_closed hm, hL0.out]; exact r2
    · rw [show m.closed.types = m.types by rw [closed_parts hm], show m.closed.rowI = m.rowI by unfold M.rowI; rw [closed_parts hm]]; exact r3
    · rw [closed_parts hm]; exact lb
    · rintro b (q | q | q | q | q | q)
      · exact .inl (.inl q)
      · exact .inl (.inr (.inl (by rw [← h3]; exact q)))
      · exact .inl (.inr (.inr (.inl q)))
      · exact .inl (.inr (.inr (.inr (.inl (by rw [e2'.out, own_len ao2 L1 L0 cap2 cap2]; exact q)))))
      · exact .inl (.inr (.inr (.inr (.inr (.inl q)))))
      · exact .inl (.inr (.inr (.inr (.inr (.inr q)))))
    · exact (((((h4.mono fun i _ q => hF i (by rcases q with q | q; exact .inl q; exact .inr (.inl q))).alloc _).drew.grown k2 fun k _ e => hF k (.inr (.inr (.inr (.inl (by rw [e2'.out]; exact e))))))).set (.inr hF2) 2 _))
theorem closeS {w : World} {p : Nat} {m : M} {F : Nat → Prop} (h : ScAt w p m F) (hn : m.out.length ≤ 100000) : Calls Try.prog 21 #[.pointer (some ⟨p, 0, none⟩)] w fun e w' => e = .returned (.bool m.closes) ∧ ScRet w p m.closed F w' := by
  rcases List.eq_nil_or_concat m.out with ho | ⟨o, c, ho⟩
  · have e : m.closed = m := by simp [M.closed, ho]
    have e2 : m.closes = false := by simp [M.closes, ho]
    rw [e, e2]
    refine (closeS0 h ho).mono ?_
    rintro e w' ⟨rfl, rfl⟩
    exact ⟨rfl, ScRet.same h (Below.refl _ _)⟩
  · rw [List.concat_eq_append] at ho
    have e2 : m.closes = true := by simp [M.closes, ho]
    rw [e2]
    exact closeS1 h hn ho
end Go.Proofs.Ytnnajgbkpilaaaa
