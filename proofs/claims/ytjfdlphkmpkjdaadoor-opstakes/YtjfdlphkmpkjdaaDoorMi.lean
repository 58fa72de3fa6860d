/-
  A MODULE THAT IS LENT lies in memory as a module.
-/
import Derived.Test.YtjfdlphkmpkjdaaDoorMl3
namespace Go.Proofs.YtjfdlphkmpkjdaaDoor
open Go.RowKit
set_option linter.unusedVariables false

/-- Numbers and texts of a module are in bounds. -/
structure MoOk (m : Mo) : Prop where
  ty : ∀ t ∈ m.types, t.kind < 256 ∧ t.name.size ≤ big ∧ N64 t.elem ∧ N64 t.len ∧ ∀ y ∈ t.fields, y.name.size ≤ big ∧ N64 y.typ
  tx : ∀ s ∈ m.texts, s.size ≤ big
  fn : ∀ r ∈ m.funcs, r.name.size ≤ big ∧ N64 r.locals ∧ N64 r.stack ∧ (∀ y ∈ r.params, N64 y) ∧ (∀ y ∈ r.results, N64 y) ∧ (∀ c ∈ r.code, c < 256)
theorem MoIn.ok {w : World} {A : MoP} (h : MoIn w A) : MoOk A.mo := by
  refine ⟨fun t ht => ?_, h.tx, fun r hr => ?_⟩
  · obtain ⟨x, hx, rfl⟩ := List.mem_map.1 ht
    have := h.ty x hx
    exact ⟨this.kind, this.name, this.elem, this.len, this.each⟩
  · obtain ⟨x, hx, rfl⟩ := List.mem_map.1 hr
    have := h.fn x hx
    exact ⟨this.name, this.locals, this.stack, this.eachp, this.eachr, this.code.1⟩
theorem small_ext {A B : MoP} {M : Nat} (h : Small A M) (e : B.mo = A.mo) : Small B M := by
  have h1 : B.tys.map TyP.t = A.tys.map TyP.t := congrArg Mo.types e
  have h2 : B.txs = A.txs := congrArg Mo.texts e
  have h3 : B.fns.map RoP.r = A.fns.map RoP.r := congrArg Mo.funcs e
  have l1 : B.tys.length = A.tys.length := by simpa using congrArg List.length h1
  have l3 : B.fns.length = A.fns.length := by simpa using congrArg List.length h3
  refine ⟨by rw [l1]; exact h.ty, by rw [h2]; exact h.tx, by rw [l3]; exact h.fn, fun x hx => ?_, fun x hx => ?_⟩
  · have hm : x.t ∈ A.tys.map TyP.t := by rw [← h1]; exact List.mem_map.2 ⟨x, hx, rfl⟩
    obtain ⟨y, hy, e⟩ := List.mem_map.1 hm
    rw [← e]; exact h.fl y hy
  · have hm : x.r ∈ A.fns.map RoP.r := by rw [← h3]; exact List.mem_map.2 ⟨x, hx, rfl⟩
    obtain ⟨y, hy, e⟩ := List.mem_map.1 hm
    rw [← e]; exact h.ro y hy
theorem lentM_in {B : Nat} {W : World} {m : MoP} (h : LentM B W m) (hc : m.tys.length + 1 ≤ m.tc ∧ m.txs.length + 1 ≤ m.sc ∧ m.fns.length + 1 ≤ m.fc) (hok : MoOk m.mo) (hs : Small m 100000) : MoIn W m := by
  have big_le : ∀ n : Nat, n ≤ 100000 → n ≤ big := fun n q => by unfold big; omega
  have cap_of : ∀ {e : TypeId} {sz : Nat} {a : Option Addr} {k c : Nat} {cs : List Value}, Rw W e sz (.slice a k c) k cs → c ≤ maxLen ∧ k ≤ c := fun {e sz a k c cs} q => by
    obtain ⟨ao, cp, e', h1, h2⟩ := q.shape
    cases e'; exact ⟨h2, h1⟩
  have none_of : ∀ {e : TypeId} {sz : Nat} {a : Option Addr} {k c : Nat} {cs : List Value}, Rw W e sz (.slice a (k + 1) c) (k + 1) cs → a = none → c = 0 := fun {e sz a k c cs} q ha => by
    obtain ⟨g, cap, cur, e', -⟩ := q.block (by omega)
    cases e'; cases ha
  have pre : ∀ {α : Type} {l : List α} {y z : α} {i : Nat}, i < l.length → (l ++ [y]).getD i z = l.getD i z := fun {α l y z i} hi => by simp [List.getD, List.getElem?_append, hi]
  refine ⟨?_, ?_, ?_, ?_, hok.tx, ?_, none_of h.trow, by omega, big_le _ hs.ty, (cap_of h.trow).1, none_of h.xrow, by omega, big_le _ hs.tx, (cap_of h.xrow).1, none_of h.frow, by omega, big_le _ hs.fn, (cap_of h.frow).1⟩
  · refine rw_rowAt h.trow (by omega) (fun i hi d hd => ?_)
    rw [tyC_get _ i (by simp; omega) d hd]
    unfold tyF
    rw [pre hi]
  · refine rw_rowAt h.xrow (by omega) (fun i hi d hd => ?_)
    rw [txC_get _ i (by simp; omega) d hd]
    unfold txF
    rw [pre hi]
  · refine rw_rowAt h.frow (by omega) (fun i hi d hd => ?_)
    rw [roC_get _ i (by simp; omega) d hd]
    unfold roF
    rw [pre hi]
  · intro x hx
    have hf := h.teach x hx
    have ho := hok.ty x.t (List.mem_map.2 ⟨x, hx, rfl⟩)
    refine ⟨?_, ho.1, ho.2.1, ho.2.2.1, ho.2.2.2.1, ho.2.2.2.2, none_of hf.row, by have := (cap_of hf.row).2; omega, big_le _ (hs.fl x hx), (cap_of hf.row).1⟩
    refine rw_rowAt hf.row (by omega) (fun i hi d hd => ?_)
    rw [flC_get _ i (by simp; omega) d hd]
    unfold flF
    rw [pre hi]
  · intro x hx
    have hf := h.feach x hx
    have ho := hok.fn x.r (List.mem_map.2 ⟨x, hx, rfl⟩)
    obtain ⟨g1, p1, p2, p3⟩ := hf.p
    obtain ⟨g2, r1, r2, r3⟩ := hf.r
    obtain ⟨g3, c1, c2, c3⟩ := hf.c
    have q1 := cap_of p3
    have q2 := cap_of r3
    have q3 := cap_of c3
    have z := hs.ro x hx
    refine ⟨by rw [p2]; exact p3.row rfl, by rw [r2]; exact r3.row rfl, by rw [c2]; exact c3.lies rfl ho.2.2.2.2.2 (by have := z.2.2; omega), ho.1, ho.2.1, ho.2.2.1, ho.2.2.2.1, ho.2.2.2.2.1, fun e => by (rw [p2] at e; cases e), by omega, big_le _ z.1, q1.1, fun e => by (rw [r2] at e; cases e), by omega, big_le _ z.2.1, q2.1, fun e => by (rw [c2] at e; cases e), by omega, big_le _ z.2.2, q3.1⟩
end Go.Proofs.YtjfdlphkmpkjdaaDoor
