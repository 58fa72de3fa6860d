/-
  A SCOPE BESIDE BLOCKS THAT ARE KEPT: each call on it, as one step.
-/
import Derived.Test.YtnnajgbkpilaaaaSteps
namespace Go.Proofs.Ytnnajgbkpilaaaa
open Go.RowKit
set_option linter.unusedVariables false

/-- None of its blocks is one of K; those of K are as they were in A. -/
def Sk (K : Nat → Prop) (A W : World) (p : Nat) (m : M) : Prop := ∃ F, ScAt W p m F ∧ (∀ b, F b → ¬ K b) ∧ Fr (fun b => ¬ K b) A W ∧ (∀ b, K b → b < A.heap.size)
theorem Sk.next {K : Nat → Prop} {A W W' : World} {p : Nat} {m m' : M} {F : Nat → Prop} (hF : ∀ b, F b → ¬ K b) (hB : Fr (fun b => ¬ K b) A W) (hA : ∀ b, K b → b < A.heap.size) (h : ScRet W p m' F W') : Sk K A W' p m' := by
  obtain ⟨F', h1, h2, h3⟩ := h
  have hs := hB.size
  refine ⟨F', h1, fun b hb hk => ?_, hB.then h3 fun i _ q => hF i q, hA⟩
  rcases h2 b hb with q | q
  · exact hF b q hk
  · have := hA b hk
    omega
theorem Sk.below {K : Nat → Prop} {A W W' : World} {p : Nat} {m : M} (h : Sk K A W p m) (hb : Below W.heap.size W W') : Sk K A W' p m := by
  obtain ⟨F, h1, h2, h3, h4⟩ := h
  exact ⟨F, h1.below hb, h2, h3.trans (Fr.of hb), h4⟩
theorem Sk.inv {K : Nat → Prop} {A W : World} {p : Nat} {m : M} (h : Sk K A W p m) : Inv m := by obtain ⟨F, h1, _⟩ := h; exact h1.inv
theorem Sk.bel {K : Nat → Prop} {A W : World} {p : Nat} {m : M} (h : Sk K A W p m) : Fr (fun b => ¬ K b) A W := by obtain ⟨F, h1, _, h3, _⟩ := h; exact h3
theorem Sk.ks {K : Nat → Prop} {A W : World} {p : Nat} {m : M} (h : Sk K A W p m) {b : Nat} (hk : K b) : W.heap[b]? = A.heap[b]? := by
  obtain ⟨F, _, _, h3, h4⟩ := h
  exact h3.block b (h4 b hk) fun q => q hk
def StK (w : World) (K : Nat → Prop) (ao : Option Addr) (ss : List St) : Prop := (∀ s ∈ ss, s.name.size ≤ maxLen) ∧ (ss = [] ∨ ∃ b o, ao = some ⟨b, o, none⟩ ∧ K b ∧ ∀ i, i < ss.length → StAt w b (o + i * 4) (ss.getD i dS))
theorem StAt.same {w w' : World} {b o : Nat} {s : St} (h : StAt w b o s) (hb : w'.heap[b]? = w.heap[b]?) : StAt w' b o s := by
  have key : ∀ j, w'.cell? ⟨b, j, none⟩ = w.cell? ⟨b, j, none⟩ := fun j => World.cell?_of_block (a := ⟨b, j, none⟩) hb
  exact ⟨(key _).trans h.1, (key _).trans h.2.1, (key _).trans h.2.2.1, (key _).trans h.2.2.2⟩
theorem StK.one {w : World} {K : Nat → Prop} {b o : Nat} {ss : List St} (h : StK w K (some ⟨b, o, none⟩) ss) {i : Nat} (hi : i < ss.length) : StK w K (some ⟨b, o + i * 4, none⟩) [ss.getD i dS] := by
  have e1 : ss.getD i dS = ss[i] := by rw [List.getD_eq_getElem?_getD, List.getElem?_eq_getElem hi]; rfl
  refine ⟨fun s hs => ?_, .inr ⟨b, o + i * 4, rfl, ?_, fun k hk => ?_⟩⟩
  · rw [List.mem_singleton.1 hs, e1]
    exact h.1 _ (List.getElem_mem hi)
  · rcases h.2 with q | ⟨b', o', e, h2, _⟩
    · rw [q] at hi; simp at hi
    · cases e; exact h2
  · have : k = 0 := by simpa using hk
    subst this
    rcases h.2 with q | ⟨b', o', e, _, h3⟩
    · rw [q] at hi; simp at hi
    · cases e
      simpa using h3 i hi
theorem skOpen {K : Nat → Prop} {A W : World} {p : Nat} {m : M} (h : Sk K A W p m) (hn : m.out.length ≤ 100000) : Calls Try.prog 20 #[.pointer (some ⟨p, 0, none⟩)] W fun e w' => e = .returned (.int .i64 (m.out.length + 2 : Int)) ∧ Sk K A w' p m.opened := by
  obtain ⟨F, h1, h2, h3, h4⟩ := h
  refine (openS h1 hn).mono ?_
  rintro e w' ⟨rfl, hr⟩
  exact ⟨rfl, Sk.next (m := m) h2 h3 h4 hr⟩
theorem skClose {K : Nat → Prop} {A W : World} {p : Nat} {m : M} (h : Sk K A W p m) (hn : m.out.length ≤ 100000) : Calls Try.prog 21 #[.pointer (some ⟨p, 0, none⟩)] W fun e w' => e = .returned (.bool m.closes) ∧ Sk K A w' p m.closed := by
  obtain ⟨F, h1, h2, h3, h4⟩ := h
  refine (closeS h1 hn).mono ?_
  rintro e w' ⟨rfl, hr⟩
  exact ⟨rfl, Sk.next (m := m) h2 h3 h4 hr⟩
theorem skDecl {K : Nat → Prop} {A W : World} {p : Nat} {m : M} (h : Sk K A W p m) (hn : m.out.length ≤ 100000) (nm : ByteArray) (ty : Int) : Calls Try.prog 16 #[.pointer (some ⟨p, 0, none⟩), .string nm, .int .i64 ty] W fun e w' => e = .returned (.tuple #[.int .i64 (m.decV nm : Int), .int .i64 (m.decE nm : Int)]) ∧ Sk K A w' p (m.declared nm ty) := by
  obtain ⟨F, h1, h2, h3, h4⟩ := h
  refine (declS h1 hn nm ty).mono ?_
  rintro e w' ⟨rfl, hr⟩
  exact ⟨rfl, Sk.next (m := m) h2 h3 h4 hr⟩
theorem skFind {K : Nat → Prop} {A W : World} {p : Nat} {m : M} (h : Sk K A W p m) (nm : ByteArray) : Calls Try.prog 19 #[.pointer (some ⟨p, 0, none⟩), .string nm] W fun e w' => e = .returned (m.findV nm) ∧ Sk K A w' p m := by
  have hs := h
  obtain ⟨F, h1, h2, h3, h4⟩ := h
  refine (findS h1 nm).mono ?_
  rintro e w' ⟨rfl, hr⟩
  exact ⟨rfl, hs.below hr⟩
theorem skEnter {K : Nat → Prop} {A W : World} {p : Nat} {m : M} (h : Sk K A W p m) (hn : m.turns.length ≤ 100000) (hN : m.next ≤ 100000) (nm : ByteArray) (hsz : nm.size ≤ maxLen) (b : Bool) : Calls Try.prog 17 #[.pointer (some ⟨p, 0, none⟩), .string nm, .bool b] W fun e w' => e = .returned (.tuple #[.int .i64 (m.entV nm : Int), .int .i64 (m.entE nm : Int)]) ∧ Sk K A w' p (m.entered nm b) := by
  obtain ⟨F, h1, h2, h3, h4⟩ := h
  refine (enterS h1 hn hN nm hsz b).mono ?_
  rintro e w' ⟨rfl, hr⟩
  exact ⟨rfl, Sk.next (m := m) h2 h3 h4 hr⟩
theorem skLeave {K : Nat → Prop} {A W : World} {p : Nat} {m : M} (h : Sk K A W p m) (hn : m.turns.length ≤ 100000) : Calls Try.prog 22 #[.pointer (some ⟨p, 0, none⟩)] W fun e w' => e = .returned (.bool m.leaves) ∧ Sk K A w' p m.left := by
  obtain ⟨F, h1, h2, h3, h4⟩ := h
  refine (leaveS h1 hn).mono ?_
  rintro e w' ⟨rfl, hr⟩
  exact ⟨rfl, Sk.next (m := m) h2 h3 h4 hr⟩
theorem skTarget {K : Nat → Prop} {A W : World} {p : Nat} {m : M} (h : Sk K A W p m) (hn : m.turns.length ≤ 100000) (nm : ByteArray) (hsz : nm.size ≤ maxLen) (b : Bool) : Calls Try.prog 18 #[.pointer (some ⟨p, 0, none⟩), .string nm, .bool b] W fun e w' => e = .returned (.tuple #[.int .i64 (m.tgtV nm b : Int), .int .i64 (m.tgtE nm b : Int)]) ∧ Sk K A w' p m := by
  have hs := h
  obtain ⟨F, h1, h2, h3, h4⟩ := h
  refine (targetS h1 hn nm hsz b).mono ?_
  rintro e w' ⟨rfl, hr⟩
  exact ⟨rfl, hs.below hr⟩
theorem skSlots {K : Nat → Prop} {A W : World} {p : Nat} {m : M} (h : Sk K A W p m) : Calls Try.prog 23 #[.pointer (some ⟨p, 0, none⟩)] W fun e w' => ∃ ao cap, e = .returned (.slice ao m.types.length cap) ∧ Rw w' 3 1 (.slice ao m.types.length cap) m.types.length m.rowI ∧ Sk K A w' p m ∧ m.types.length ≤ cap ∧ cap ≤ maxLen := by
  have hs := h
  obtain ⟨F, h1, h2, h3, h4⟩ := h
  refine (slotsS h1).mono ?_
  rintro e w' ⟨v, rfl, k1, k2, k3⟩
  obtain ⟨ao, cap, rfl, c1, c2⟩ := k1.shape
  exact ⟨ao, cap, rfl, k1, hs.below k3, c1, c2⟩
end Go.Proofs.Ytnnajgbkpilaaaa
