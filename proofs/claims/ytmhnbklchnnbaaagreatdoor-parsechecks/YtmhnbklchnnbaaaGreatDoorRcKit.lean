import Derived.Test.YtmhnbklchnnbaaaGreatDoorRcSmall
namespace Go.Proofs.YtmhnbklchnnbaaaGreatDoor
open Go.RowKit
set_option linter.unusedVariables false
def Fl (w : World) (t : Tree) (k a : Int) (b : ByteArray) (n : Int) (ao : Option Addr) (m cap : Nat) : Prop := NodeR w t k a b n (.slice ao m cap) ∧ t.kids.length = m ∧ wideTr t ∧ m ≤ cap ∧ cap ≤ 9223372036854775807
theorem Fl.of {w : World} {t : Tree} {k a : Int} {b : ByteArray} {n : Int} {v : Value} (h : NodeR w t k a b n v) (hw : wideTr t) : ∃ ao m cap, v = .slice ao m cap ∧ Fl w t k a b n ao m cap := by
  obtain ⟨ao, cap, rfl, hc1, hc2, _⟩ := id h.2.2.2.2
  exact ⟨ao, _, cap, rfl, h, rfl, hw, hc1, hc2⟩
theorem Fl.txt {w : World} {t : Tree} {k a : Int} {b : ByteArray} {n : Int} {ao : Option Addr} {m cap : Nat} (h : Fl w t k a b n ao m cap) : TxtIs b t.text := ⟨h.1.2.2.1, ((wide_parts t).1 h.2.2.1).1.1, ((wide_parts t).1 h.2.2.1).1.2⟩
theorem Fl.kids {w : World} {t : Tree} {k a : Int} {b : ByteArray} {n : Int} {ao : Option Addr} {m cap : Nat} (h : Fl w t k a b n ao m cap) : KidsR w (.slice ao t.kids.length cap) t.kids := by
  have := h.1.2.2.2.2; rw [← h.2.1] at this; exact this
theorem Fl.kind {w : World} {t : Tree} {k a : Int} {b : ByteArray} {n : Int} {ao : Option Addr} {m cap : Nat} (h : Fl w t k a b n ao m cap) : k = (t.kind : Int) := h.1.1
theorem Fl.num {w : World} {t : Tree} {k a : Int} {b : ByteArray} {n : Int} {ao : Option Addr} {m cap : Nat} (h : Fl w t k a b n ao m cap) : n = (t.n : Int) := h.1.2.2.2.1
theorem Fl.len {w : World} {t : Tree} {k a : Int} {b : ByteArray} {n : Int} {ao : Option Addr} {m cap : Nat} (h : Fl w t k a b n ao m cap) : t.kids.length = m := h.2.1
theorem Fl.kid {w wr : World} {t : Tree} {k a : Int} {b : ByteArray} {n : Int} {ao : Option Addr} {m cap : Nat} (h : Fl w t k a b n ao m cap) (hb : Below w.heap.size w wr) (j : Nat) (u : Tree) (hj : t.kids[j]? = some u) :
    ∃ g o, ao = some ⟨g, o, none⟩ ∧ g < wr.heap.size ∧ ∃ aj cj, wr.cell? ⟨g, o + j * 5, none⟩ = some (.int .u8 (u.kind : Int)) ∧ wr.cell? ⟨g, o + j * 5 + 1, none⟩ = some (.int .i64 u.at_) ∧ wr.cell? ⟨g, o + j * 5 + 2, none⟩ = some (.string (strN u.text)) ∧ wr.cell? ⟨g, o + j * 5 + 3, none⟩ = some (.int .u64 (u.n : Int)) ∧ wr.cell? ⟨g, o + j * 5 + 4, none⟩ = some (.slice aj u.kids.length cj) ∧
      ∀ W, Below w.heap.size w W → Fl W u (u.kind : Int) u.at_ (strN u.text) (u.n : Int) aj u.kids.length cj := by
  obtain ⟨g, o, aj, cj, rfl, hg, f0, f1, f2, f3, f4, hk⟩ := kids_cells h.kids hb j u hj
  refine ⟨g, o, rfl, Nat.lt_of_lt_of_le hg hb.size, aj, cj, f0, f1, f2, f3, f4, fun W hW => ⟨⟨rfl, rfl, rfl, rfl, hk.below hW⟩, rfl, wideTL_get _ ((wide_parts t).1 h.2.2.1).2.2 j u hj, ?_⟩⟩
  obtain ⟨aq, cq, e, h1, h2, _⟩ := hk
  cases e
  exact ⟨h1, h2⟩
theorem Fl.below {w w' : World} {t : Tree} {k a : Int} {b : ByteArray} {n : Int} {ao : Option Addr} {m cap : Nat} (h : Fl w t k a b n ao m cap) (hb : Below w.heap.size w w') : Fl w' t k a b n ao m cap := ⟨h.1.below hb, h.2⟩
def Cel (W : World) (g o j : Nat) (u : Tree) (aj : Option Addr) (cj : Nat) : Prop := W.cell? ⟨g, o + j * 5, none⟩ = some (.int .u8 (u.kind : Int)) ∧ W.cell? ⟨g, o + j * 5 + 1, none⟩ = some (.int .i64 u.at_) ∧ W.cell? ⟨g, o + j * 5 + 2, none⟩ = some (.string (strN u.text)) ∧ W.cell? ⟨g, o + j * 5 + 3, none⟩ = some (.int .u64 (u.n : Int)) ∧ W.cell? ⟨g, o + j * 5 + 4, none⟩ = some (.slice aj u.kids.length cj) ∧ g < W.heap.size
theorem Fl.kid2 {w : World} {t : Tree} {k a : Int} {b : ByteArray} {n : Int} {ao : Option Addr} {m cap : Nat} (h : Fl w t k a b n ao m cap) (j : Nat) (u : Tree) (hj : t.kids[j]? = some u) :
    ∃ g o aj cj, ao = some ⟨g, o, none⟩ ∧ g < w.heap.size ∧ ∀ W, Below w.heap.size w W → Cel W g o j u aj cj ∧ Fl W u (u.kind : Int) u.at_ (strN u.text) (u.n : Int) aj u.kids.length cj := by
  obtain ⟨g, o, aj, cj, rfl, hg, f0, f1, f2, f3, f4, hk⟩ := kids_cells h.kids (Below.refl _ _) j u hj
  refine ⟨g, o, aj, cj, rfl, hg, fun W hW => ⟨⟨(hW.cell hg).trans f0, (hW.cell hg).trans f1, (hW.cell hg).trans f2, (hW.cell hg).trans f3, (hW.cell hg).trans f4, Nat.lt_of_lt_of_le hg hW.size⟩, ⟨rfl, rfl, rfl, rfl, hk.below hW⟩, rfl, wideTL_get _ ((wide_parts t).1 h.2.2.1).2.2 j u hj, ?_⟩⟩
  obtain ⟨aq, cq, e, h1, h2, _⟩ := hk
  cases e
  exact ⟨h1, h2⟩
theorem list0 {l : List Tree} (h : l.length = 0) : l = [] := List.eq_nil_of_length_eq_zero h
theorem list1 {l : List Tree} (h : l.length = 1) : ∃ t0, l = [t0] := by
  match l, h with
  | [t0], _ => exact ⟨t0, rfl⟩
theorem list2 {l : List Tree} (h : l.length = 2) : ∃ t0 t1, l = [t0, t1] := by
  match l, h with
  | [t0, t1], _ => exact ⟨t0, t1, rfl⟩
theorem list3 {l : List Tree} (h : l.length = 3) : ∃ t0 t1 t2, l = [t0, t1, t2] := by
  match l, h with
  | [t0, t1, t2], _ => exact ⟨t0, t1, t2, rfl⟩
theorem list4 {l : List Tree} (h : l.length = 4) : ∃ t0 t1 t2 t3, l = [t0, t1, t2, t3] := by
  match l, h with
  | [t0, t1, t2, t3], _ => exact ⟨t0, t1, t2, t3, rfl⟩
theorem core_no (r : Int) (t : Tree) (h1 : (kidsI t.kind).1 = (kidsI t.kind).2) (h2 : ¬ (t.kids.length : Int) = (kidsI t.kind).2) : (takesI r t.kind && coreT r t) = false := by
  have : (decide ((kidsI t.kind).1 ≤ (t.kids.length : Int)) && decide ((t.kids.length : Int) ≤ (kidsI t.kind).2)) = false := by
    rw [h1, Bool.and_eq_false_iff, decide_eq_false_iff_not, decide_eq_false_iff_not]; omega
  rw [coreT, this]; simp
def KidsAs (t : Tree) : Prop := ∀ (what : Int), 1 ≤ what → what ≤ 21 → ∀ u ∈ t.kids, IsAs what u
theorem kidsR_take {w : World} {ts : List Tree} {ao : Option Addr} {cap : Nat} (h : KidsR w (.slice ao ts.length cap) ts) (j : Nat) (hj : j ≤ ts.length) : KidsR w (.slice ao j cap) (ts.take j) := by
  obtain ⟨aq, cq, e, h1, h2, h3⟩ := h
  cases e
  refine ⟨ao, cap, by rw [List.length_take, Nat.min_eq_left hj], by rw [List.length_take, Nat.min_eq_left hj]; omega, h2, ?_⟩
  rcases h3 with h3 | ⟨g, o, cs, T, fr, rfl, hg, hc⟩
  · left; rw [h3]; simp
  · refine .inr ⟨g, o, cs, T, fr, rfl, hg, cellsR_of _ _ _ fun i t hi => ?_⟩
    obtain ⟨ai, ci, d⟩ := cellsR_at _ _ _ hc i t (by rw [List.getElem?_take] at hi; split at hi <;> simp_all)
    exact ⟨_, d.1, d.2.1, d.2.2.1, d.2.2.2.1, d.2.2.2.2.1, d.2.2.2.2.2⟩
theorem kidsR_tail {w : World} {t0 : Tree} {ts : List Tree} {g o cap : Nat} (h : KidsR w (.slice (some ⟨g, o, none⟩) (ts.length + 1) cap) (t0 :: ts)) : KidsR w (.slice (some ⟨g, o + 5, none⟩) ts.length (cap - 1)) ts := by
  obtain ⟨aq, cq, e, h1, h2, h3⟩ := h
  cases e
  simp only [List.length_cons] at h1
  refine ⟨_, _, rfl, by omega, by omega, ?_⟩
  rcases h3 with h3 | ⟨g, o, cs, T, fr, e, hg, hc⟩
  · cases h3
  · cases e
    refine .inr ⟨g, o + 5, cs, T, fr, rfl, hg, ?_⟩
    obtain ⟨k, a, tx, n, ks⟩ := t0
    rw [cellsR_cons] at hc
    exact hc.2
end Go.Proofs.YtmhnbklchnnbaaaGreatDoor
