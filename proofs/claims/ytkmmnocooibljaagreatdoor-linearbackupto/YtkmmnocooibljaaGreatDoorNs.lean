/-
  THE LANDED LAYOUT OF LINES: a label, an instruction, a line more.
-/
import Derived.Test.YtkmmnocooibljaaGreatDoorNp
namespace Go.Proofs.YtkmmnocooibljaaGreatDoor
open Go.RowKit Go.Maps
set_option linter.unusedVariables false

/-- What a line more makes of labels' places and the sum of sizes; or what is wrong. -/
def addL (st : List (Int × Int) × Int) (y : Int × In) : Nat ⊕ (List (Int × Int) × Int) :=
  if y.2.op ≠ 0 then (if y.2.size = 0 ∨ y.1 ≠ 0 then .inl 120 else .inr (st.1, st.2 + (y.2.size : Int)))
  else if y.2.a ≠ 0 ∨ y.2.b ≠ 0 ∨ y.2.arms ≠ [] then .inl 120
  else if plF st.1 y.1 ≠ none ∨ y.1 < 0 ∨ 2147483647 < y.1 then .inl 150 else .inr (st.1 ++ [(y.1, st.2)], st.2)
/-- Where the layout stands. -/
structure LyAt (w : World) (gL b : Nat) (st : List (Int × Int) × Int) : Prop where
  own : Own w gL #[.map (some b), .int .i64 st.2] 65
  pl : PlAt w b st.1
  lab : ∀ x ∈ st.1, N64 x.1
theorem LyAt.on {w w' : World} {gL b : Nat} {st : List (Int × Int) × Int} (h : LyAt w gL b st) (h1 : w'.heap[gL]? = w.heap[gL]?) (h2 : w'.heap[b]? = w.heap[b]?) : LyAt w' gL b st := ⟨h1.trans h.own, h.pl.on h2, h.lab⟩
theorem LyAt.below {w w' : World} {gL b : Nat} {st : List (Int × Int) × Int} (h : LyAt w gL b st) (hb : Below w.heap.size w w') : LyAt w' gL b st := h.on (hb.block gL h.own.lt) (hb.block b h.pl.lt)
def LyR (w : World) (gL b : Nat) (st : List (Int × Int) × Int) (r : Nat ⊕ (List (Int × Int) × Int)) (e : Ending) (w' : World) : Prop :=
  (match r with
  | .inl er => e = .returned (.int .i64 (er : Int)) ∧ LyAt w' gL b st
  | .inr st' => e = .returned (.int .i64 0) ∧ LyAt w' gL b st') ∧ Fr (fun k => k = gL ∨ k = b) w w'
set_option maxHeartbeats 4000000 in
set_option maxRecDepth 100000 in
theorem lnlabel_as {w : World} {gL b : Nat} {st : List (Int × Int) × Int} (h : LyAt w gL b st) (hn : st.1.length < 1000000000) (k : Int) (hk : N64 k) :
    Calls Tryz.prog 98 #[.pointer (some ⟨gL, 0, none⟩), .int .i64 k] w (LyR w gL b st (if plF st.1 k ≠ none ∨ k < 0 ∨ 2147483647 < k then .inl 150 else .inr (st.1 ++ [(k, st.2)], st.2))) := by
  obtain ⟨ps, sz⟩ := st
  have HO : Hid (LyAt w gL b (ps, sz)) := h
  have o0 : Own w gL #[.map (some b), .int .i64 sz] 65 := h.own
  have m0 := o0.cell 0
  have m1 := o0.cell 1
  have mf := o0.froz
  simp only [List.getElem?_toArray, List.getElem?_cons_zero, List.getElem?_cons_succ] at m0 m1
  have hlk := pl_look h.pl hk
  simp only at hlk
  obtain ⟨R, HR⟩ : ∃ R, Hid ((if plF ps k ≠ none ∨ k < 0 ∨ 2147483647 < k then .inl 150 else .inr (ps ++ [(k, sz)], sz) : Nat ⊕ (List (Int × Int) × Int)) = R) := ⟨_, rfl⟩
  rw [show (if plF (ps, sz).1 k ≠ none ∨ k < 0 ∨ 2147483647 < k then (.inl 150 : Nat ⊕ (List (Int × Int) × Int)) else .inr ((ps, sz).1 ++ [(k, (ps, sz).2)], (ps, sz).2)) = R from HR.out]
  cases hf : plF ps k with
  | some q =>
    obtain rfl : Sum.inl 150 = R := by rw [← HR.out, if_pos (.inl (by rw [hf]; simp))]
    rw [hf] at hlk
    unfold lkV at hlk
    clear HR hf
    go_enter Tryz.func98, Tryz.ntmps98
    go_wp2
    go_ret
    exact ⟨⟨rfl, HO.out⟩, Fr.refl _ _⟩
  | none =>
    rw [hf] at hlk
    unfold lkV at hlk
    by_cases h0 : k < 0
    · obtain rfl : Sum.inl 150 = R := by rw [← HR.out, if_pos (.inr (.inl h0))]
      clear HR hf
      go_enter Tryz.func98, Tryz.ntmps98
      go_wp2
      go_ret
      exact ⟨⟨rfl, HO.out⟩, Fr.refl _ _⟩
    · by_cases h1 : 2147483647 < k
      · obtain rfl : Sum.inl 150 = R := by rw [← HR.out, if_pos (.inr (.inr h1))]
        clear HR hf
        go_enter Tryz.func98, Tryz.ntmps98
        go_wp2
        go_ret
        exact ⟨⟨rfl, HO.out⟩, Fr.refl _ _⟩
      · obtain rfl : Sum.inr (ps ++ [(k, sz)], sz) = R := by rw [← HR.out, if_neg (by rw [hf]; simp; omega)]
        have hh0 : (0 : Int) ≤ k := by omega
        have hh1 : k ≤ 2147483647 := by omega
        obtain ⟨w2, hrun, g1, g2⟩ := pl_put (p := sz) h.pl.drew hn hk hf
        have RES : Hid (LyAt w2 gL b (ps ++ [(k, sz)], sz) ∧ Fr (fun j => j = gL ∨ j = b) w w2) :=
          ⟨⟨o0.drew.grown g2 (fun e => h.pl.ne o0 (Option.some.inj e).symm), g1, fun x hx => by
            rcases List.mem_append.1 hx with hx | hx
            · exact h.lab x hx
            · rw [List.mem_singleton.1 hx]; exact hk⟩, (Fr.refl _ w).drew.grown g2 (fun j _ e => .inr (Option.some.inj e).symm)⟩
        clear HR hf HO g1 g2 h0 h1
        go_enter Tryz.func98, Tryz.ntmps98
        go_wp2_with fail
        go_region
        go_wp2
        go_ret
        exact ⟨⟨rfl, RES.out.1⟩, RES.out.2⟩
end Go.Proofs.YtkmmnocooibljaaGreatDoor
