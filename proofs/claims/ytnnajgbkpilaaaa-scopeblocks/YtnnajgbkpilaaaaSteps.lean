/-
  ROWS OF CALLS: steps that came in, Pick, Slots.
-/
import Derived.Test.YtnnajgbkpilaaaaSl
import Derived.Test.YtnnajgbkpilaaaaClone
import Derived.Test.YtnnajgbkpilaaaaPick
namespace Go.Proofs.Ytnnajgbkpilaaaa
open Go.RowKit
set_option linter.unusedVariables false

structure St where
  kind : Int
  name : ByteArray
  typ : Int
  turns : Bool
def dS : St := ⟨0, empt, 0, false⟩
/-- A step's cells. -/
def StAt (w : World) (b o : Nat) (s : St) : Prop := w.cell? ⟨b, o, none⟩ = some (.int .i64 s.kind) ∧ w.cell? ⟨b, o + 1, none⟩ = some (.string s.name) ∧ w.cell? ⟨b, o + 2, none⟩ = some (.int .i64 s.typ) ∧ w.cell? ⟨b, o + 3, none⟩ = some (.bool s.turns)
/-- Steps lie where a slice leads, in blocks below B. -/
def StIn (w : World) (B : Nat) (ao : Option Addr) (ss : List St) : Prop := (∀ s ∈ ss, s.name.size ≤ maxLen) ∧ (ss = [] ∨ ∃ b o, ao = some ⟨b, o, none⟩ ∧ b < B ∧ ∀ i, i < ss.length → StAt w b (o + i * 4) (ss.getD i dS))
theorem StAt.below {w w' : World} {B b o : Nat} {s : St} (h : StAt w b o s) (hb : Below B w w') (hlt : b < B) : StAt w' b o s :=
  ⟨(hb.cell (p := ⟨b, o, none⟩) hlt).trans h.1, (hb.cell (p := ⟨b, o + 1, none⟩) hlt).trans h.2.1, (hb.cell (p := ⟨b, o + 2, none⟩) hlt).trans h.2.2.1, (hb.cell (p := ⟨b, o + 3, none⟩) hlt).trans h.2.2.2⟩
theorem StIn.below {w w' : World} {B : Nat} {ao : Option Addr} {ss : List St} (h : StIn w B ao ss) (hb : Below B w w') : StIn w' B ao ss := by
  refine ⟨h.1, ?_⟩
  rcases h.2 with q | ⟨b, o, h1, h2, h3⟩
  · exact .inl q
  · exact .inr ⟨b, o, h1, h2, fun i hi => (h3 i hi).below hb h2⟩
/-- One of them. -/
theorem StIn.one {w : World} {B b o : Nat} {ss : List St} (h : StIn w B (some ⟨b, o, none⟩) ss) {i : Nat} (hi : i < ss.length) : StIn w B (some ⟨b, o + i * 4, none⟩) [ss.getD i dS] := by
  have e1 : ss.getD i dS = ss[i] := by rw [List.getD_eq_getElem?_getD, List.getElem?_eq_getElem hi]; rfl
  refine ⟨fun s hs => ?_, .inr ⟨b, o + i * 4, rfl, ?_, fun k hk => ?_⟩⟩
  · rw [List.mem_singleton.1 hs, e1]
    exact h.1 _ (List.getElem_mem hi)
  · rcases h.2 with q | ⟨b', o', e, h2, _⟩
    · rw [q] at hi; simp at hi
    · cases e; exact h2
  · have : k = 0 := by simpa using hk
    subst this
    rcases h.2 with q | ⟨b', o', e, _, h3⟩
    · rw [q] at hi; simp at hi
    · cases e
      simpa using h3 i hi
set_option maxHeartbeats 1000000 in
theorem slotsS {w : World} {p : Nat} {m : M} {F : Nat → Prop} (h : ScAt w p m F) : Calls Try.prog 23 #[.pointer (some ⟨p, 0, none⟩)] w fun e w' => ∃ v, e = .returned v ∧ Rw w' 3 1 v m.types.length m.rowI ∧ (∀ b, v.ownBlock = some b → w.heap.size ≤ b) ∧ Below w.heap.size w w' := by
  obtain ⟨v0, v1, v2, v3, vm, H, hF, hl⟩ := h
  have hfew := H.inv.few
  have hc := cloneI w v3 _ _ H.r3 (by omega) (fun u hu => by
    obtain ⟨x, _, rfl⟩ := List.mem_map.1 hu
    rfl)
  have c3 := H.own.cell 3
  simp only [List.getElem?_toArray, List.getElem?_cons_zero, List.getElem?_cons_succ] at c3
  obtain ⟨ao, cap, e3, -⟩ := H.r3.shape
  rw [e3] at c3 hc
  go_enter Try.func23, Try.ntmps23
  go_wp2_with (go_at_call 30; refine hc.mono ?_; rintro e w1 ⟨v', rfl, k1, k2, k3⟩)
  go_ret
  exact ⟨_, rfl, k1, k2, k3⟩
theorem slSlots {B : Nat} {A W : World} {p : Nat} {m : M} (h : Sl B A W p m) : Calls Try.prog 23 #[.pointer (some ⟨p, 0, none⟩)] W fun e w' => ∃ ao cap, e = .returned (.slice ao m.types.length cap) ∧ Rw w' 3 1 (.slice ao m.types.length cap) m.types.length m.rowI ∧ (∀ b, (Value.slice ao m.types.length cap).ownBlock = some b → W.heap.size ≤ b) ∧ Sl B A w' p m ∧ Below W.heap.size W w' := by
  have hs := h
  obtain ⟨F, h1, h2, h3, h4⟩ := h
  refine (slotsS h1).mono ?_
  rintro e w' ⟨v, rfl, k1, k2, k3⟩
  obtain ⟨ao, cap, rfl, -⟩ := k1.shape
  exact ⟨ao, cap, rfl, k1, k2, hs.below k3, k3⟩
end Go.Proofs.Ytnnajgbkpilaaaa
