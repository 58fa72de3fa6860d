/-
  CONTRACTS of the document's own Leave and Close.
-/
import Derived.Test.YtnnajgbkpilaaaaRf
namespace Go.Proofs.Ytnnajgbkpilaaaa
open Go.RowKit
set_option linter.unusedVariables false

set_option maxHeartbeats 1000000 in
theorem rLeave {w : World} {p : Nat} {m : M} {F : Nat → Prop} (h : RfAt w p m F) (hn : m.turns.length ≤ 100000) : Calls Try.prog 37 #[.pointer (some ⟨p, 0, none⟩)] w fun e w' => e = .returned (.bool m.leaves) ∧ RfRet w p m.left F w' := by
  have hsc := h
  obtain ⟨v1, v2, v3, H, hF, hl⟩ := h
  have ho := H.own
  rcases List.eq_nil_or_concat m.turns with ht | ⟨l, t, ht⟩
  · have r3 := H.r3
    rw [ht] at r3
    obtain ⟨ao, cap, rfl, -⟩ := r3.shape
    obtain ⟨-, -, -, c3, -, hf⟩ := own5 ho
    have e2 : m.leaves = false := by unfold M.leaves; simp [ht]
    have e3 : m.left = m := by unfold M.left; rw [ht]; cases m; simp at ht; subst ht; rfl
    rw [e2, e3]
    go_enter Try.func37, Try.ntmps37
    go_wp2
    go_ret
    exact ⟨rfl, RfRet.same hsc (Below.refl _ _)⟩
  · rw [List.concat_eq_append] at ht
    have e2 : m.leaves = true := by unfold M.leaves; simp [ht]
    have e3 : m.left = { m with turns := l } := by unfold M.left; rw [ht]; simp
    have r3 := H.r3
    rw [show m.turns.length = l.length + 1 by rw [ht]; simp] at r3 hn
    obtain ⟨g, cap, cur, rfl, hg, k1, k2, k3, k4⟩ := r3.block (by omega)
    have hcut := Rw.cut (k := l.length) hg k3 (Nat.le_succ _) k1 k2 k4 k3 (fun _ _ => rfl)
    have ht2 : m.rowRT.take (l.length * 3) = l.flatMap cRT := by unfold M.rowRT; rw [ht]; exact take_flat cRT 3 (fun _ => rfl) l [t]
    rw [ht2] at hcut
    obtain ⟨-, -, -, c3, -, hf⟩ := own5 ho
    have q1 := H.r1.ne ho (by decide)
    have q2 := H.r2.ne ho (by decide)
    have q3 := hcut.ne ho (by decide)
    have ho2 : Own (w.setCell ⟨p, 3, none⟩ (.slice (some ⟨g, 0, none⟩) l.length cap)) p #[.int .i64 (m.out.length + 1 : Int), v1, v2, .slice (some ⟨g, 0, none⟩) l.length cap, .int .i64 (m.next : Int)] 64 := by simpa using ho.set 3 (.slice (some ⟨g, 0, none⟩) l.length cap)
    unfold maxLen at k2
    have hlc : l.length ≤ cap := by omega
    rw [e2, e3]
    go_enter Try.func37, Try.ntmps37
    go_wp2
    go_ret
    refine ⟨rfl, ?_⟩
    exact RfRet.mk' hF (u1 := v1) (u2 := v2) (u3 := .slice (some ⟨g, 0, none⟩) l.length cap) ⟨ho2, H.r1.set q1 3 _, H.r2.set q2 3 _, hcut.set q3 3 _⟩ (fun b hb => .inl hb) ((Fr.refl F w).set (.inr (hF p (.inl rfl))) 3 _)
theorem Own.drewN {w : World} {g : Nat} {cs : Array Value} {t : TypeId} (h : Own w g cs t) (q : Nat) : Own (w.drewN q) g cs t := h
theorem Fr.drewN {F : Nat → Prop} {a w : World} (h : Fr F a w) (q : Nat) : Fr F a (w.drewN q) := ⟨h.os, h.tape, h.output, h.size, h.block⟩
theorem Rw.drewN {w : World} {e : TypeId} {size : Nat} {v : Value} {n : Nat} {xs : List Value} (h : Rw w e size v n xs) (q : Nat) : Rw (w.drewN q) e size v n xs := h
theorem rls_blk {m : M} {k : Nat} {x : L × Nat} (h : m.rls[k]? = some x) : ((tg 1 m.out).length ≤ k → x.2 = m.out.length + 1) ∧ (k < (tg 1 m.out).length → x.2 ≤ m.out.length) := by
  unfold M.rls at h
  refine ⟨fun q => ?_, fun q => ?_⟩
  · rw [List.getElem?_append_right q, List.getElem?_map] at h
    cases hc : m.cur[k - (tg 1 m.out).length]? with
    | none => rw [hc] at h; cases h
    | some y => rw [hc] at h; cases h; rfl
  · rw [List.getElem?_append_left q] at h
    have := (tg_bound m.out 1 _ (List.mem_of_getElem? h)).2
    omega
theorem rl_cells' {w : World} {g n cap : Nat} {m : M} (h : Rw w 89 4 (.slice (some ⟨g, 0, none⟩) n cap) n m.rowRL) {k : Nat} {x : L × Nat} (hx : m.rls[k]? = some x) :
    w.cell? ⟨g, k * 4, none⟩ = some (.string x.1.name) ∧ w.cell? ⟨g, k * 4 + 1, none⟩ = some (.int .i64 (x.2 : Int)) ∧ w.cell? ⟨g, k * 4 + 2, none⟩ = some (.int .i64 (x.1.slot : Int)) ∧ w.cell? ⟨g, k * 4 + 3, none⟩ = some (.int .i64 x.1.typ) := by
  obtain ⟨hk, rfl⟩ := List.getElem?_eq_some_iff.1 hx
  exact rl_cells h hk
def RcRel (w : World) (p g cap T0 N : Nat) (v2 v3 : Value) (bl nx : Int) (wr : World) : Prop :=
  ∃ k, T0 ≤ k ∧ k ≤ N ∧ Own wr p #[.int .i64 bl, .slice (some ⟨g, 0, none⟩) k cap, v2, v3, .int .i64 nx] 64 ∧ Fr (fun b => b = p) w wr
/-- How many parts a row in a cell has. -/
def lenAt (wr : World) (p : Nat) : Nat := match wr.cell? ⟨p, 1, none⟩ with | some (.slice _ n _) => n | _ => 0
set_option maxRecDepth 100000 in
set_option maxHeartbeats 4000000 in
theorem rClose {w : World} {p : Nat} {m : M} {F : Nat → Prop} (h : RfAt w p m F) (hn : m.out.length ≤ 100000) (hfl : m.flat.length ≤ 256) : Calls Try.prog 33 #[.pointer (some ⟨p, 0, none⟩)] w fun e w' => e = .returned (.bool m.closes) ∧ RfRet w p m.closed F w' := by
  have hsc := h
  obtain ⟨v1, v2, v3, H, hF, hl⟩ := h
  have ho := H.own
  rcases List.eq_nil_or_concat m.out with hm | ⟨o, c, hm⟩
  · have e : m.closed = m := by simp [M.closed, hm]
    have e2 : m.closes = false := by simp [M.closes, hm]
    rw [e, e2]
    obtain ⟨c0, -, -, -, -, hf⟩ := own5 ho
    rw [hm] at c0
    go_enter Try.func33, Try.ntmps33
    go_wp2
    go_ret
    exact ⟨rfl, RfRet.same hsc (Below.refl _ _)⟩
  · rw [List.concat_eq_append] at hm
    have e2 : m.closes = true := by simp [M.closes, hm]
    rw [e2]
    obtain ⟨N, hN⟩ : ∃ N, Hid (m.flat.length = N) := ⟨_, rfl⟩
    obtain ⟨T0, hT0⟩ : ∃ N, Hid ((tg 1 m.out).length = N) := ⟨_, rfl⟩
    have hT0f : T0 = m.out.flatten.length := by rw [← hT0.out, ← tg_map m.out 1, List.length_map]
    have hTN : T0 ≤ N := by rw [hT0f, ← hN.out]; simp [M.flat]
    obtain ⟨B, hB⟩ : ∃ B : Nat, Hid (m.out.length = B) := ⟨_, rfl⟩
    have hBpos : 1 ≤ B := by rw [← hB.out, hm]; simp
    rw [hB.out] at hn
    have ho' := ho
    rw [hB.out] at ho'
    have hrl : Hid (m.rls.length = N) := by unfold Hid; rw [m.rls_length, hN.out]
    have q1 := H.r1.ne ho (by decide)
    have q2 := H.r2.ne ho (by decide)
    have q3 := H.r3.ne ho (by decide)
    have hF2 : F p := hF p (.inl rfl)
    have hclf : m.closed.flat.length = T0 := by rw [flat_closed hm, hT0f]
    have hclr : m.closed.rowRL = m.rowRL.take (T0 * 4) := by
      unfold M.rowRL
      rw [M.rls_closed hm, ← hT0.out]
      unfold M.rls
      exact (take_flat cR 4 (fun _ => rfl) (tg 1 m.out) _).symm
    have hcp := closed_parts hm
    have hcl1 : ((m.closed.out.length : Int) + 1) = (B : Int) := by rw [hcp, ← hB.out, hm]; simp
    have HCL : Hid (m.closed.types = m.types ∧ m.closed.turns = m.turns ∧ m.closed.next = m.next) := by rw [hcp]; exact ⟨rfl, rfl, rfl⟩
    -- what the end leaves
    have fin : Hid (∀ (u1 : Value) (W : World), Own W p #[.int .i64 ((B : Int) + 1), u1, v2, v3, .int .i64 (m.next : Int)] 64 → Fr (fun b => b = p) w W → Rw (W.setCell ⟨p, 0, none⟩ (.int .i64 (B : Int))) 89 4 u1 T0 (m.rowRL.take (T0 * 4)) → (∀ b, u1.ownBlock = some b → v1.ownBlock = some b) → RfRet w p m.closed F (W.setCell ⟨p, 0, none⟩ (.int .i64 (B : Int)))) := by
      intro u1 W hW hFr hrow hub
      have hW2 : Own (W.setCell ⟨p, 0, none⟩ (.int .i64 (B : Int))) p #[.int .i64 (B : Int), u1, v2, v3, .int .i64 (m.next : Int)] 64 := by simpa using hW.set 0 (.int .i64 (B : Int))
      refine RfRet.mk' hF (u1 := u1) (u2 := v2) (u3 := v3) ⟨?_, ?_, ?_, ?_⟩ ?_ ?_
      · rw [hcl1, HCL.out.2.2]; exact hW2
      · rw [hclf, hclr]; exact hrow
      · rw [HCL.out.1, show m.closed.rowI = m.rowI by unfold M.rowI; rw [HCL.out.1]]
        exact (H.r2.fr hFr fun k e q => q2 (by rw [e, q])).set q2 0 _
      · rw [HCL.out.2.1, show m.closed.rowRT = m.rowRT by unfold M.rowRT; rw [HCL.out.2.1]]
        exact (H.r3.fr hFr fun k e q => q3 (by rw [e, q])).set q3 0 _
      · rintro b (q | q | q | q)
        · exact .inl (.inl q)
        · exact .inl (.inr (.inl (hub b q)))
        · exact .inl (.inr (.inr (.inl q)))
        · exact .inl (.inr (.inr (.inr q)))
      · exact (hFr.mono fun k _ e => by rw [e]; exact hF2).set (.inr hF2) 0 _
    clear hclf hclr hcp hcl1 HCL e2 hT0f hm
    have hb1 : ¬ ((B : Int) + 1 = 1) := by omega
    have hb2 : ((B : Int) + 1 == 1) = false := by simp; omega
    rcases H.r1.2 with ⟨e1, h0⟩ | ⟨g, cap, cur, e1, _, hg, k1, k2, k3, k4⟩
    · have hN0 : N = 0 := by rw [← hN.out]; exact h0
      have hT00 : T0 = 0 := by omega
      have r1 := H.r1
      subst e1
      obtain ⟨c0, c1, -, -, -, hf⟩ := own5 ho'
      have hE := fun nq => fin.out (.slice none 0 0) (w.drewN nq) (ho'.drewN nq) ((Fr.refl _ w).drewN nq) (by rw [hT00]; simp; exact World.ownsRow_nil _ 0 89 4) (fun b q => q)
      have HE : Hid _ := hE
      clear hE fin r1
      go_enter Try.func33, Try.ntmps33
      go_wp2_with fail
      go_loopw [] (fun wr => wr = w) (fun _ => 0)
      case atStart => rfl
      case round =>
        subst hrel
        go_wp2_with fail
        go_quiet (fail)
        go_wp2_with fail
        go_ret
        exact ⟨rfl, HE.out _⟩
    · have r1 := H.r1
      subst e1
      rw [hN.out] at k1 ho' r1
      unfold maxLen at k2
      have hgp : g ≠ p := (show Own w g cur 89 from hg).ne ho (by decide)
      have hgl := (show Own w g cur 89 from hg).lt
      go_enter Try.func33, Try.ntmps33
      obtain ⟨c0, c1, -, -, -, hf⟩ := own5 ho'
      go_wp2_with fail
      clear c0 c1 hf
      go_loopw [] (fun wr => RcRel w p g cap T0 N v2 v3 ((B : Int) + 1) (m.next : Int) wr) (fun wr => lenAt wr p)
      case atStart => exact ⟨N, hTN, Nat.le_refl _, ho', Fr.refl _ _⟩
      case round =>
        obtain ⟨k, hk1, hk2, hown, hFr⟩ := hrel
        have hkc : k ≤ cap := by omega
        have R := r1.fr hFr (fun b e q => hgp (by simp [Value.ownBlock] at e; rw [e, q]))
        have hla : lenAt wr p = k := by unfold lenAt; rw [hown.cell 1]; rfl
        obtain ⟨c0, c1, -, -, -, hf⟩ := own5 hown
        rcases Nat.lt_or_ge T0 k with hlt | hge
        · obtain ⟨q, rfl⟩ : ∃ q, k = q + 1 := ⟨k - 1, by omega⟩
          obtain ⟨x, hx⟩ : ∃ x, m.rls[q]? = some x := ⟨_, List.getElem?_eq_getElem (by rw [hrl.out]; omega)⟩
          have hxb := (rls_blk hx).1 (by rw [hT0.out]; omega)
          rw [hB.out] at hxb
          have d1 := (rl_cells' R hx).2.1
          rw [hxb] at d1
          have HO : Hid (Own wr p #[.int .i64 ((B : Int) + 1), .slice (some ⟨g, 0, none⟩) (q + 1) cap, v2, v3, .int .i64 (m.next : Int)] 64 ∧ Fr (fun b => b = p) w wr) := ⟨hown, hFr⟩
          have HLA : Hid (lenAt wr p = q + 1) := hla
          clear hown hFr R hla hx hxb
          have hqn : q < q + 1 := by omega
          go_wp2_with fail
          go_quiet (fail)
          have hO2 := HO.out.1.drewN nq
          have hF3 := HO.out.2.drewN nq
          have hla2 : lenAt (wr.drewN nq) p = q + 1 := HLA.out
          generalize wr.drewN nq = W at *
          obtain ⟨e0, e1, -, -, -, ef⟩ := own5 hO2.drew
          have HO2 : Hid (Own W p #[.int .i64 ((B : Int) + 1), .slice (some ⟨g, 0, none⟩) (q + 1) cap, v2, v3, .int .i64 (m.next : Int)] 64 ∧ Fr (fun b => b = p) w W) := ⟨hO2, hF3⟩
          clear hO2 hF3 c0 c1 hf d1 hla2
          go_wp2_with fail
          have hqc : q ≤ cap := by omega
          go_region
          have hO3 : Own (W.setCell ⟨p, 1, none⟩ (.slice (some ⟨g, 0, none⟩) q cap)).drew p #[.int .i64 ((B : Int) + 1), .slice (some ⟨g, 0, none⟩) q cap, v2, v3, .int .i64 (m.next : Int)] 64 := by simpa using (HO2.out.1.set 1 (.slice (some ⟨g, 0, none⟩) q cap)).drew
          have hF4 : Fr (fun b => b = p) w (W.setCell ⟨p, 1, none⟩ (.slice (some ⟨g, 0, none⟩) q cap)).drew := (HO2.out.2.set (.inr rfl) 1 _).drew
          have HL3 : Hid (lenAt (W.setCell ⟨p, 1, none⟩ (.slice (some ⟨g, 0, none⟩) q cap)).drew p = q) := by unfold Hid lenAt; rw [hO3.cell 1]; rfl
          have HO3 : Hid (RcRel w p g cap T0 N v2 v3 ((B : Int) + 1) (m.next : Int) (W.setCell ⟨p, 1, none⟩ (.slice (some ⟨g, 0, none⟩) q cap)).drew) := ⟨q, by omega, by omega, hO3, hF4⟩
          clear hO3 hF4
          all_goals (
            go_wp2_with fail
            exact ⟨HO3.out, by rw [HL3.out, HLA.out]; omega⟩)
        · have hkt : k = T0 := by omega
          subst hkt
          have hcut : Rw wr 89 4 (.slice (some ⟨g, 0, none⟩) k cap) k (m.rowRL.take (k * 4)) := Rw.cut (n := N) ((show Own w g cur 89 from hg).fr hFr hgp) k3 (by omega) (by omega) (by unfold maxLen; omega) (by rw [hN.out] at k4; exact k4) k3 (fun _ _ => rfl)
          have HE : Hid (∀ nq, RfRet w p m.closed F ((wr.drewN nq).setCell ⟨p, 0, none⟩ (.int .i64 (B : Int)))) := fun nq => fin.out (.slice (some ⟨g, 0, none⟩) k cap) (wr.drewN nq) (hown.drewN nq) (hFr.drewN nq) ((hcut.drewN nq).set (fun e => hgp (by simpa [Value.ownBlock] using e)) 0 _) (fun b q => by rw [own_len (some ⟨g, 0, none⟩) m.flat.length k cap cap]; exact q)
          clear fin hcut
          rcases Nat.eq_zero_or_pos k with h0 | hpos
          · subst h0
            clear hown hFr R
            go_wp2_with fail
            go_quiet (fail)
            go_wp2_with fail
            go_ret
            exact ⟨rfl, HE.out _⟩
          · obtain ⟨q, rfl⟩ : ∃ q, k = q + 1 := ⟨k - 1, by omega⟩
            obtain ⟨x, hx⟩ : ∃ x, m.rls[q]? = some x := ⟨_, List.getElem?_eq_getElem (by rw [hrl.out]; omega)⟩
            have hxb := (rls_blk hx).2 (by rw [hT0.out]; omega)
            rw [hB.out] at hxb
            have d1 := (rl_cells' R hx).2.1
            obtain ⟨bb, hbb⟩ : ∃ b : Nat, x.2 = b := ⟨_, rfl⟩
            rw [hbb] at d1 hxb
            have hne : ((bb : Int) == (B : Int) + 1) = false := by simp; omega
            clear hown hFr R hx hbb
            have hqn : q < q + 1 := by omega
            go_wp2_with fail
            go_quiet (fail)
            go_wp2_with fail
            go_ret
            exact ⟨rfl, HE.out _⟩
end Go.Proofs.Ytnnajgbkpilaaaa
