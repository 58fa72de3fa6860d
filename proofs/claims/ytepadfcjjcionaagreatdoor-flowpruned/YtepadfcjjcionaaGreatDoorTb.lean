/-
  TERMS IN MEMORY THAT ARE ONLY READ: where their parts lie; blocks of memory, and what a call keeps.
-/
import Derived.Test.YtepadfcjjcionaaGreatDoorChecked
import Derived.WalkKit
import Derived.WalkLawsBesides
import Derived.WalkSpells
import Derived.Handy
import Derived.Outline
import Derived.Below
import Derived.Lib.SmallJoins
import Derived.Lib.Hide
import Derived.Maps.Own
import Derived.Maps.OwnSet
import Derived.Maps.Views
import Derived.Deep.LoopGhost
namespace Go.Proofs.YtepadfcjjcionaaGreatDoor
open Go.RowKit
set_option linter.unusedVariables false

/-! ### A block of cells -/
theorem heap_set (w : World) (g i : Nat) (cs : Array Value) (t : TypeId) (fr : Nat × Nat) (b : Value) (h : w.heap[g]? = some (.cells cs t fr)) :
    (w.setCell ⟨g, i, none⟩ b).heap[g]? = some (.cells (cs.setIfInBounds i b) t fr) := by
  simp [World.setCell, Array.getElem?_modify, h]
def Own (w : World) (g : Nat) (cs : Array Value) (t : TypeId) : Prop := w.heap[g]? = some (Obj.cells cs t (0, 0))
theorem Own.lt {w : World} {g : Nat} {cs : Array Value} {t : TypeId} (h : Own w g cs t) : g < w.heap.size := (Array.getElem?_eq_some_iff.1 h).1
theorem Own.new (w : World) (cs : Array Value) (t : TypeId) : Own (w.alloc (.cells cs t)) w.heap.size cs t := heap_alloc_new w _
theorem Own.alloc {w : World} {g : Nat} {cs : Array Value} {t : TypeId} (h : Own w g cs t) (o : Obj) : Own (w.alloc o) g cs t := (Below.heap_alloc w o g h.lt).trans h
theorem Own.other {w : World} {g g' i : Nat} {cs : Array Value} {t : TypeId} (h : Own w g cs t) (hne : g ≠ g') (u : Value) : Own (w.setCell ⟨g', i, none⟩ u) g cs t := (Below.heap_setCell w ⟨g', i, none⟩ u g hne).trans h
theorem Own.ne {w : World} {g g' : Nat} {cs cs' : Array Value} {t t' : TypeId} (h : Own w g cs t) (h' : Own w g' cs' t') (ht : t ≠ t') : g ≠ g' := by
  rintro rfl
  unfold Own at h h'
  rw [h] at h'
  cases h'
  exact ht rfl
theorem Own.set {w : World} {g : Nat} {cs : Array Value} {t : TypeId} (h : Own w g cs t) (i : Nat) (u : Value) : Own (w.setCell ⟨g, i, none⟩ u) g (cs.setIfInBounds i u) t := heap_set w g i _ t (0, 0) u h
theorem Own.cell {w : World} {g : Nat} {cs : Array Value} {t : TypeId} (h : Own w g cs t) (i : Nat) : w.cell? ⟨g, i, none⟩ = cs[i]? := cell_of_row _ g i _ _ _ h
theorem Own.froz {w : World} {g : Nat} {cs : Array Value} {t : TypeId} (h : Own w g cs t) (j : Nat) : w.frozen? ⟨g, j, none⟩ = false := by unfold Own at h; simp [World.frozen?, h]
theorem Own.five {w : World} {g : Nat} {a0 a1 a2 a3 a4 : Value} {t : TypeId} (h : Own w g #[a0, a1, a2, a3, a4] t) : w.cell? ⟨g, 0, none⟩ = some a0 ∧ w.cell? ⟨g, 1, none⟩ = some a1 ∧ w.cell? ⟨g, 2, none⟩ = some a2 ∧ w.cell? ⟨g, 3, none⟩ = some a3 ∧ w.cell? ⟨g, 4, none⟩ = some a4 ∧ ∀ j, w.frozen? ⟨g, j, none⟩ = false :=
  ⟨h.cell 0, h.cell 1, h.cell 2, h.cell 3, h.cell 4, h.froz⟩
theorem Own.below {w w' : World} {g : Nat} {cs : Array Value} {t : TypeId} (h : Own w g cs t) (hk : Below w.heap.size w w') : Own w' g cs t := (hk.block g h.lt).trans h

/-! ### Terms -/
structure Tm where
  op : Int
  ty : Int
  n : Int
  tx : ByteArray
  ks : List Tm
theorem tmRec {M : List Tm → Prop} (h0 : M []) (h1 : ∀ op ty n tx ks ts, M ks → M ts → M (⟨op, ty, n, tx, ks⟩ :: ts)) (ts : List Tm) : M ts :=
  Tm.rec_1 (motive_1 := fun t => ∀ ts, M ts → M (t :: ts)) (motive_2 := M) (fun op ty n tx ks ih ts hts => h1 op ty n tx ks ts ih hts) h0 (fun t ts ih1 ih2 => ih1 ts ih2) ts
def cnt : Tm → Nat
  | ⟨_, _, _, _, ks⟩ => 1 + cntL ks
  where cntL : List Tm → Nat
  | [] => 0
  | t :: ts => cnt t + cntL ts
theorem cnt_parts (t : Tm) : cnt t = 1 + cnt.cntL t.ks := by obtain ⟨o, a, n, x, ks⟩ := t; rw [cnt]
theorem cnt_get : ∀ {ts : List Tm} {j : Nat} {u : Tm}, ts[j]? = some u → cnt u ≤ cnt.cntL ts := by
  intro ts
  induction ts with
  | nil => intro j u h; simp at h
  | cons t ts ih =>
    intro j u h
    rw [cnt.cntL]
    cases j with
    | zero => cases h; omega
    | succ j => have := ih (j := j) (u := u) (by simpa using h); omega
def inr (n : Int) : Prop := -9223372036854775808 ≤ n ∧ n ≤ 9223372036854775807

/-- The terms whose cells begin at o. -/
def CellsR (w : World) : List Tm → Array Value → Nat → Prop
  | [], _, _ => True
  | ⟨op, ty, n, tx, ks⟩ :: ts, cs, o => (∃ ao cap, cs[o]? = some (.int .u8 op) ∧ cs[o + 1]? = some (.int .i64 ty) ∧ cs[o + 2]? = some (.int .i64 n) ∧ cs[o + 3]? = some (.string tx) ∧ cs[o + 4]? = some (.slice ao ks.length cap) ∧ ks.length ≤ cap ∧ cap ≤ 9223372036854775807 ∧ inr n ∧
      (ks = [] ∨ ∃ g o' cs' T fr, ao = some ⟨g, o', none⟩ ∧ w.heap[g]? = some (.cells cs' T fr) ∧ CellsR w ks cs' o')) ∧ CellsR w ts cs (o + 5)
theorem cellsR_cons {w : World} {op ty n : Int} {tx : ByteArray} {ks ts : List Tm} {cs : Array Value} {o : Nat} : CellsR w (⟨op, ty, n, tx, ks⟩ :: ts) cs o ↔ (∃ ao cap, cs[o]? = some (.int .u8 op) ∧ cs[o + 1]? = some (.int .i64 ty) ∧ cs[o + 2]? = some (.int .i64 n) ∧ cs[o + 3]? = some (.string tx) ∧ cs[o + 4]? = some (.slice ao ks.length cap) ∧ ks.length ≤ cap ∧ cap ≤ 9223372036854775807 ∧ inr n ∧
      (ks = [] ∨ ∃ g o' cs' T fr, ao = some ⟨g, o', none⟩ ∧ w.heap[g]? = some (.cells cs' T fr) ∧ CellsR w ks cs' o')) ∧ CellsR w ts cs (o + 5) := by rw [CellsR]
/-- The terms that a slice leads to. -/
def KidsR (w : World) (v : Value) (ts : List Tm) : Prop := ∃ ao cap, v = .slice ao ts.length cap ∧ ts.length ≤ cap ∧ cap ≤ 9223372036854775807 ∧ (ts = [] ∨ ∃ g o cs T fr, ao = some ⟨g, o, none⟩ ∧ w.heap[g]? = some (.cells cs T fr) ∧ CellsR w ts cs o)
theorem CellsR.on {w w' : World} (hk : ∀ (g : Nat), g < w.heap.size → w'.heap[g]? = w.heap[g]?) : ∀ (ts : List Tm) (cs : Array Value) (o : Nat), CellsR w ts cs o → CellsR w' ts cs o := by
  intro ts
  induction ts using tmRec with
  | h0 => intro cs o h; simp [CellsR]
  | h1 op ty n tx ks ts ih1 ih2 =>
    intro cs o h
    rw [cellsR_cons] at h ⊢
    obtain ⟨⟨ao, cap, c0, c1, c2, c3, c4, h1, h2, hr, h3⟩, h4⟩ := h
    refine ⟨⟨ao, cap, c0, c1, c2, c3, c4, h1, h2, hr, ?_⟩, ih2 cs _ h4⟩
    rcases h3 with h3 | ⟨g, o', cs', T, fr, rfl, hg, hc⟩
    · exact .inl h3
    · exact .inr ⟨g, o', cs', T, fr, rfl, (hk g (Array.getElem?_eq_some_iff.1 hg).1).trans hg, ih1 cs' o' hc⟩
theorem KidsR.on {w w' : World} {v : Value} {ts : List Tm} (h : KidsR w v ts) (hk : ∀ (g : Nat), g < w.heap.size → w'.heap[g]? = w.heap[g]?) : KidsR w' v ts := by
  obtain ⟨ao, cap, rfl, h1, h2, h3⟩ := h
  refine ⟨ao, cap, rfl, h1, h2, ?_⟩
  rcases h3 with h3 | ⟨g, o, cs, T, fr, rfl, hg, hc⟩
  · exact .inl h3
  · exact .inr ⟨g, o, cs, T, fr, rfl, (hk g (Array.getElem?_eq_some_iff.1 hg).1).trans hg, CellsR.on hk _ _ _ hc⟩
theorem KidsR.below {w w' : World} {v : Value} {ts : List Tm} (h : KidsR w v ts) (hb : Below w.heap.size w w') : KidsR w' v ts := h.on fun g hg => hb.block g hg
/-- The term of a number. -/
theorem cellsR_at {w : World} : ∀ (ts : List Tm) (cs : Array Value) (o : Nat), CellsR w ts cs o → ∀ (i : Nat) (t : Tm), ts[i]? = some t → ∃ ao cap, cs[o + i * 5]? = some (.int .u8 t.op) ∧ cs[o + i * 5 + 1]? = some (.int .i64 t.ty) ∧ cs[o + i * 5 + 2]? = some (.int .i64 t.n) ∧ cs[o + i * 5 + 3]? = some (.string t.tx) ∧ cs[o + i * 5 + 4]? = some (.slice ao t.ks.length cap) ∧ inr t.n ∧ KidsR w (.slice ao t.ks.length cap) t.ks := by
  intro ts
  induction ts with
  | nil => intro cs o h i t ht; simp at ht
  | cons t0 ts ih =>
    intro cs o h i t ht
    obtain ⟨op, ty, n, tx, ks⟩ := t0
    rw [cellsR_cons] at h
    obtain ⟨⟨ao, cap, c0, c1, c2, c3, c4, h1, h2, hr, h3⟩, h4⟩ := h
    cases i with
    | zero =>
      simp only [List.getElem?_cons_zero, Option.some.injEq] at ht
      subst ht
      exact ⟨ao, cap, by simpa using c0, by simpa using c1, by simpa using c2, by simpa using c3, by simpa using c4, hr, ao, cap, rfl, h1, h2, h3⟩
    | succ i =>
      rw [List.getElem?_cons_succ] at ht
      have := ih cs (o + 5) h4 i t ht
      rw [show o + 5 + i * 5 = o + (i + 1) * 5 by omega] at this
      exact this
/-- The cells of a part. -/
theorem kids_cells {w : World} {ts : List Tm} {ao : Option Addr} {m cap : Nat} (h : KidsR w (.slice ao m cap) ts) (j : Nat) (u : Tm) (hj : ts[j]? = some u) :
    ∃ g o aj cj, ao = some ⟨g, o, none⟩ ∧ g < w.heap.size ∧ inr u.n ∧ ∀ W, (∀ k, k < w.heap.size → W.heap[k]? = w.heap[k]?) → W.cell? ⟨g, o + j * 5, none⟩ = some (.int .u8 u.op) ∧ W.cell? ⟨g, o + j * 5 + 1, none⟩ = some (.int .i64 u.ty) ∧ W.cell? ⟨g, o + j * 5 + 2, none⟩ = some (.int .i64 u.n) ∧ W.cell? ⟨g, o + j * 5 + 3, none⟩ = some (.string u.tx) ∧ W.cell? ⟨g, o + j * 5 + 4, none⟩ = some (.slice aj u.ks.length cj) ∧ KidsR W (.slice aj u.ks.length cj) u.ks := by
  obtain ⟨aq, cq, e, h1, h2, h3⟩ := h
  cases e
  rcases h3 with h3 | ⟨g, o, cs, T, fr, rfl, hg, hc⟩
  · rw [h3] at hj; simp at hj
  · obtain ⟨aj, cj, c0, c1, c2, c3, c4, hr, hk⟩ := cellsR_at ts cs o hc j u hj
    have hlt := (Array.getElem?_eq_some_iff.1 hg).1
    refine ⟨g, o, aj, cj, rfl, hlt, hr, fun W hW => ?_⟩
    have hg' := (hW g hlt).trans hg
    have key : ∀ i, W.cell? ⟨g, i, none⟩ = cs[i]? := fun i => cell_of_row _ _ _ _ _ _ hg'
    exact ⟨(key _).trans c0, (key _).trans c1, (key _).trans c2, (key _).trans c3, (key _).trans c4, hk.on hW⟩
end Go.Proofs.YtepadfcjjcionaaGreatDoor
