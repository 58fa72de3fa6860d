/-
  THE LANDED SCOPE IN MEMORY, and calls inside regions that draw their order.
-/
import Derived.Test.YtnnajgbkpilaaaaLab
import Derived.Test.YtnnajgbkpilaaaaDel
import Derived.Test.YtnnajgbkpilaaaaLast
namespace Go.Proofs.Ytnnajgbkpilaaaa
open Go.RowKit
set_option linter.unusedVariables false

def FnIs (F : Nat) : Prop := ∀ (b : Array Value) (w : World), (callFunc F b).run Try.prog w = .ok (.enter F b) w
theorem step_call {W : World} {ops : Array Oper} {o : Oper} {a : Act} {K : Act → World → Prop} {Q : Exit → Act → World → Prop} {X : Prop} (hgd : o.guard = none) (F : Nat) (xs : List Operand) (tys : Array TypeId)
    (ho : o.op = .call { callee := .value (.func F), args := xs.toArray, argTypes := tys }) (hfn : FnIs F) (vs : List Value) (hx : xs.map a.eval = vs) {R : Ending → World → Prop} (hc : Calls Try.prog F vs.toArray W R)
    (h : ∀ en w', R en w' → ∃ u, en = .returned u ∧ K (a.put o.dst u) w') : if Region.wanted o (yielded ops a.tmps) = true then Oper.wp Try.prog o a W K Q else X := by
  have hw : Region.wanted o (yielded ops a.tmps) = true := by simp [Region.wanted, hgd]
  rw [if_pos hw]
  have hf : ∀ (b : Array Value) (w : World), (callFunc F b).run Try.prog w = .ok (.enter F b) w := hfn
  have hfv : a.eval (.func F) = .func (.func F) #[] #[] := rfl
  unfold Oper.wp execOp
  simp only [ho]
  simp [resolve, invoke, hx, hfv, Deferred.ofValue]
  rw [hf, Oper.upon_enter]
  refine hc.mono ?_
  intro en w' hr
  obtain ⟨u, rfl, hk⟩ := h en w' hr
  exact hk

structure ScOwn (w : World) (p : Nat) (v0 v1 v2 v3 vm : Value) (m : M) : Prop where
  own : Own w p #[v0, v1, v2, v3, .int .i64 (m.next : Int), vm] 57
  r0 : Rw w 60 1 v0 (m.out.length + 1) m.rowB
  r1 : Rw w 68 3 v1 m.turns.length m.rowT
  r2 : Rw w 71 2 v2 m.flat.length m.rowL
  r3 : Rw w 3 1 v3 m.types.length m.rowI
  lab : LabAt w vm m
  inv : Inv m
def Blk (p : Nat) (v0 v1 v2 v3 vm : Value) (b : Nat) : Prop := b = p ∨ v0.ownBlock = some b ∨ v1.ownBlock = some b ∨ v2.ownBlock = some b ∨ v3.ownBlock = some b ∨ vm = .map (some b)
def ScAt (w : World) (p : Nat) (m : M) (F : Nat → Prop) : Prop := ∃ v0 v1 v2 v3 vm, ScOwn w p v0 v1 v2 v3 vm m ∧ (∀ b, Blk p v0 v1 v2 v3 vm b → F b) ∧ (∀ b, F b → b < w.heap.size)
theorem ScOwn.on {w w' : World} {p : Nat} {v0 v1 v2 v3 vm : Value} {m : M} (h : ScOwn w p v0 v1 v2 v3 vm m) (hb : ∀ b, Blk p v0 v1 v2 v3 vm b → w'.heap[b]? = w.heap[b]?) : ScOwn w' p v0 v1 v2 v3 vm m :=
  ⟨(hb p (.inl rfl)).trans h.own, h.r0.on fun k e => hb k (.inr (.inl e)), h.r1.on fun k e => hb k (.inr (.inr (.inl e))), h.r2.on fun k e => hb k (.inr (.inr (.inr (.inl e)))), h.r3.on fun k e => hb k (.inr (.inr (.inr (.inr (.inl e))))), lab_on h.lab fun k e => hb k (.inr (.inr (.inr (.inr (.inr e))))), h.inv⟩
theorem ScAt.fr {w w' : World} {p : Nat} {m : M} {F G : Nat → Prop} (h : ScAt w p m F) (hf : Fr G w w') (hd : ∀ b, F b → G b → False) : ScAt w' p m F := by
  obtain ⟨v0, v1, v2, v3, vm, h1, h2, h3⟩ := h
  exact ⟨v0, v1, v2, v3, vm, h1.on fun b hb => hf.block b (h3 b (h2 b hb)) fun q => hd b (h2 b hb) q, h2, fun b hb => Nat.lt_of_lt_of_le (h3 b hb) hf.size⟩
theorem ScAt.below {w w' : World} {p : Nat} {m : M} {F : Nat → Prop} (h : ScAt w p m F) (hf : Below w.heap.size w w') : ScAt w' p m F := h.fr (G := fun _ => False) (Fr.of hf) fun _ _ q => q
theorem ScAt.inv {w : World} {p : Nat} {m : M} {F : Nat → Prop} (h : ScAt w p m F) : Inv m := by obtain ⟨v0, v1, v2, v3, vm, h1, _⟩ := h; exact h1.inv
theorem ScAt.lt {w : World} {p : Nat} {m : M} {F : Nat → Prop} (h : ScAt w p m F) : p < w.heap.size := by obtain ⟨v0, v1, v2, v3, vm, h1, _⟩ := h; exact h1.own.lt
theorem ScAt.mem {w : World} {p : Nat} {m : M} {F : Nat → Prop} (h : ScAt w p m F) : F p := by obtain ⟨v0, v1, v2, v3, vm, _, h2, _⟩ := h; exact h2 p (.inl rfl)
/-- What a call on a scope leaves. -/
def ScRet (w : World) (p : Nat) (m' : M) (F : Nat → Prop) (w' : World) : Prop := ∃ F', ScAt w' p m' F' ∧ (∀ b, F' b → F b ∨ w.heap.size ≤ b) ∧ Fr F w w'
theorem ScRet.same {w w' : World} {p : Nat} {m : M} {F : Nat → Prop} (h : ScAt w p m F) (hb : Below w.heap.size w w') : ScRet w p m F w' := ⟨F, h.below hb, fun b hb => .inl hb, Fr.of hb⟩
/-- Out of what the parts are behind a call. -/
theorem ScRet.mk' {w w' : World} {p : Nat} {m' : M} {F : Nat → Prop} {v0 v1 v2 v3 vm u0 u1 u2 u3 um : Value} (hF : ∀ b, Blk p v0 v1 v2 v3 vm b → F b) (hl : ∀ b, F b → b < w.heap.size) (h : ScOwn w' p u0 u1 u2 u3 um m') (hn : ∀ b, Blk p u0 u1 u2 u3 um b → Blk p v0 v1 v2 v3 vm b ∨ w.heap.size ≤ b) (hf : Fr F w w') : ScRet w p m' F w' := by
  refine ⟨Blk p u0 u1 u2 u3 um, ⟨u0, u1, u2, u3, um, h, fun b hb => hb, fun b hb => ?_⟩, fun b hb => ?_, hf⟩
  · rcases hb with rfl | hb | hb | hb | hb | hb
    · exact h.own.lt
    · exact h.r0.lt hb
    · exact h.r1.lt hb
    · exact h.r2.lt hb
    · exact h.r3.lt hb
    · exact lab_lt h.lab hb
  · rcases hn b hb with q | q
    · exact .inl (hF b q)
    · exact .inr q
theorem getElem_flat3 {α : Type} (f : α → List Value) (hf : ∀ x, (f x).length = 3) : ∀ (l : List α) (k j : Nat) (hk : k < l.length) (hj : j < 3), (l.flatMap f)[k * 3 + j]? = (f l[k])[j]?
  | t :: r, 0, j, hk, hj => by rw [List.flatMap_cons, Nat.zero_mul, Nat.zero_add, List.getElem?_append_left (by rw [hf]; omega)]; rfl
  | t :: r, k + 1, j, hk, hj => by
    rw [List.flatMap_cons, List.getElem?_append_right (by rw [hf]; omega), hf, show (k + 1) * 3 + j - 3 = k * 3 + j by omega, getElem_flat3 f hf r k j (by simpa using hk) hj]; rfl
theorem take_flat {α : Type} (f : α → List Value) (s : Nat) (hf : ∀ x, (f x).length = s) (a b : List α) : ((a ++ b).flatMap f).take (a.length * s) = a.flatMap f := by
  have e : (a.flatMap f).length = a.length * s := by
    induction a with
    | nil => simp
    | cons x r ih => rw [List.flatMap_cons, List.length_append, hf, ih, List.length_cons, Nat.add_mul]; omega
  rw [List.flatMap_append, ← e, List.take_left]
end Go.Proofs.Ytnnajgbkpilaaaa
