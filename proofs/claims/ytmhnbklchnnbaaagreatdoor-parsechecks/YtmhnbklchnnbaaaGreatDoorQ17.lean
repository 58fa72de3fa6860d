import Derived.Test.YtmhnbklchnnbaaaGreatDoorJCkRead
import Derived.Deep.Slices
import Derived.ProofKit
import Derived.OpenShut
import Derived.Carry
import Derived.Test.YtmhnbklchnnbaaaGreatDoorQ6
import Derived.Deep.RegionHeld3
set_option maxRecDepth 100000
namespace Go.Proofs.YtmhnbklchnnbaaaGreatDoor
open Go.RowKit
set_option linter.unusedVariables false
open Go.ChangeShapes Go.WideShapes Go.ChangeAt Go.RowKit Go.Deep
theorem laidOutT : laidOutB Tryz.prog = true := by kernel_rfl
theorem cellsTnode : Tryz.prog.cellsOf 25 = 5 := by kernel_rfl
theorem cellsTu8 : Tryz.prog.cellsOf 5 = 1 := by kernel_rfl
theorem cellsTint : Tryz.prog.cellsOf 3 = 1 := by kernel_rfl
theorem cellsTstr : Tryz.prog.cellsOf 9 = 1 := by kernel_rfl
theorem cellsTu64 : Tryz.prog.cellsOf 22 = 1 := by kernel_rfl
theorem cellsTnodes : Tryz.prog.cellsOf 23 = 1 := by kernel_rfl
def wideTr : Tree → Prop
  | ⟨k, a, x, n, ks⟩ => ((∀ c ∈ x, c < 256) ∧ x.length ≤ 9223372036854775807) ∧ n ≤ 18446744073709551615 ∧ wideTL ks
  where wideTL : List Tree → Prop
  | [] => True
  | t :: ts => wideTr t ∧ wideTL ts
theorem wide_parts (t : Tree) : wideTr t ↔ ((∀ c ∈ t.text, c < 256) ∧ t.text.length ≤ 9223372036854775807) ∧ t.n ≤ 18446744073709551615 ∧ wideTr.wideTL t.kids := by obtain ⟨k, a, x, n, ks⟩ := t; rw [wideTr]
theorem wideTL_get : ∀ (ts : List Tree), wideTr.wideTL ts → ∀ (i : Nat) (t : Tree), ts[i]? = some t → wideTr t := by
  intro ts
  induction ts with
  | nil => intro _ i t h; simp at h
  | cons t0 ts ih =>
    intro h i t hi
    rw [wideTr.wideTL] at h
    cases i with
    | zero => cases hi; exact h.1
    | succ i => exact ih h.2 i t hi
theorem wideTL_of : ∀ (ts : List Tree), (∀ t ∈ ts, wideTr t) → wideTr.wideTL ts := by
  intro ts
  induction ts with
  | nil => intro _; rw [wideTr.wideTL]; trivial
  | cons t0 ts ih => intro h; rw [wideTr.wideTL]; exact ⟨h t0 (by simp), ih fun t ht => h t (by simp [ht])⟩
theorem strN_of (x : ByteArray) : strN (bytesN x) = x := bytesN_inj (bytesN_strN _ (bytesN_lt x))
theorem cell_block {w : World} {b o : Nat} {v : Value} (h : w.cell? ⟨b, o, none⟩ = some v) : ∃ cs T fr, w.heap[b]? = some (.cells cs T fr) := by
  unfold World.cell? at h
  split at h
  · rename_i c T fr hq; exact ⟨c, T, fr, hq⟩
  · cases h
theorem cellsR_of {w : World} : ∀ (ts : List Tree) (cs : Array Value) (o : Nat), (∀ (i : Nat) (t : Tree), ts[i]? = some t → ∃ sv, cs[o + i * 5]? = some (.int .u8 (t.kind : Int)) ∧ cs[o + i * 5 + 1]? = some (.int .i64 t.at_) ∧ cs[o + i * 5 + 2]? = some (.string (strN t.text)) ∧ cs[o + i * 5 + 3]? = some (.int .u64 (t.n : Int)) ∧ cs[o + i * 5 + 4]? = some sv ∧ KidsR w sv t.kids) → CellsR w ts cs o := by
  intro ts
  induction ts with
  | nil => intro cs o h; simp [CellsR]
  | cons t0 ts ih =>
    intro cs o h
    obtain ⟨k, a, tx, n, ks⟩ := t0
    rw [cellsR_cons]
    obtain ⟨sv, c0, c1, c2, c3, c4, ao, cap, rfl, h1, h2, h3⟩ := h 0 _ rfl
    refine ⟨⟨ao, cap, by simpa using c0, by simpa using c1, by simpa using c2, by simpa using c3, by simpa using c4, h1, h2, h3⟩, ih cs (o + 5) fun i t hi => ?_⟩
    have := h (i + 1) t (by simpa using hi)
    rw [show o + (i + 1) * 5 = o + 5 + i * 5 by omega] at this
    exact this
theorem open_tree {H : Type} {enc : TypeId × Value → H} {W : World} : ∀ (fuel : Nat) (cs : List Value) (x : DataW H × List MemPlace), DataW.trod enc Tryz.prog W 0 (fun _ => true) true fuel 25 cs = some x →
    ∃ (t : Tree) (sv : Value), cs = [.int .u8 (t.kind : Int), .int .i64 t.at_, .string (strN t.text), .int .u64 (t.n : Int), sv] ∧ KidsR W sv t.kids ∧ wideTr t := by
  intro fuel
  induction fuel using Nat.strongRecOn with
  | _ fuel ih =>
    intro cs x h
    obtain ⟨xs, m, hm, _, hcl, hxl, hf⟩ := DataW.trod_struct Tryz.underlying25 h
    rw [cellsTnode] at hcl
    match xs, hxl, cs, hcl with
    | [y0, y1, y2, y3, y4], _, [u0, u1, u2, u3, u4], _ =>
      have g0 := hf 0 _ rfl
      have g1 := hf 1 _ rfl
      have g2 := hf 2 _ rfl
      have g3 := hf 3 _ rfl
      have g4 := hf 4 _ rfl
      simp [cellsTu8, cellsTint, cellsTstr, cellsTu64, cellsTnodes] at g0 g1 g2 g3 g4
      obtain ⟨x0, q0, _, w0⟩ := DataW.trod_int Tryz.underlying5 g0
      obtain ⟨x1, q1, _, _⟩ := DataW.trod_int Tryz.underlying3 g1
      obtain ⟨x2, q2, _, hsz⟩ := DataW.trod_string Tryz.underlying9 g2
      obtain ⟨x3, q3, _, w3⟩ := DataW.trod_int Tryz.underlying22 g3
      simp at q0 q1 q2 q3
      subst q0 q1 q2 q3
      have r0 : 0 ≤ x0 := by rw [Lit.wf, Bool.and_eq_true, decide_eq_true_eq, decide_eq_true_eq] at w0; exact w0.1
      have r3 : 0 ≤ x3 ∧ x3 ≤ 18446744073709551615 := by rw [Lit.wf, Bool.and_eq_true, decide_eq_true_eq, decide_eq_true_eq] at w3; exact w3
      have kids : ∃ ts : List Tree, KidsR W u4 ts ∧ wideTr.wideTL ts := by
        rcases DataW.trod_slice Tryz.underlying23 g4 with ⟨e, _⟩ | ⟨a, len, cap, elems, rest, n, hn, e, _, hb, hl, hmx, hlen, hel, _⟩
        · simp at e
          subst e
          exact ⟨[], ⟨none, 0, rfl, Nat.le_refl _, by omega, .inl rfl⟩, by rw [wideTr.wideTL]; trivial⟩
        · simp at e
          subst e
          have each : ∀ i, i < len → ∃ t : Tree, wideTr t ∧ ∃ sv, W.cell? (a.add (i * 5)) = some (.int .u8 (t.kind : Int)) ∧ W.cell? (a.add (i * 5 + 1)) = some (.int .i64 t.at_) ∧ W.cell? (a.add (i * 5 + 2)) = some (.string (strN t.text)) ∧ W.cell? (a.add (i * 5 + 3)) = some (.int .u64 (t.n : Int)) ∧ W.cell? (a.add (i * 5 + 4)) = some sv ∧ KidsR W sv t.kids := by
            intro i hi
            have h1 := hel i hi
            rw [List.getElem?_eq_getElem (by omega), cellsTnode] at h1
            cases hc : W.cells? 0 (a.add (i * 5)) 5 with
            | none => rw [hc] at h1; cases h1
            | some cs' =>
              rw [hc] at h1
              obtain ⟨t, sv, rfl, hk, hw⟩ := ih n (by omega) cs' _ h1
              obtain ⟨_, _, hcell⟩ := World.cells?_some hc
              have e0 := hcell 0 (by omega)
              have e1 := hcell 1 (by omega)
              have e2 := hcell 2 (by omega)
              have e3 := hcell 3 (by omega)
              have e4 := hcell 4 (by omega)
              rw [add_add] at e0 e1 e2 e3 e4
              exact ⟨t, hw, sv, by simpa using e0, by simpa using e1, by simpa using e2, by simpa using e3, by simpa using e4, hk⟩
          letI : Inhabited Tree := ⟨⟨0, 0, [], 0, []⟩⟩
          obtain ⟨f, hf⟩ := choose_lt each
          have hlen2 : ((List.range len).map f).length = len := by simp
          refine ⟨(List.range len).map f, ?_, wideTL_of _ fun t ht => ?_⟩
          · refine ⟨some a, cap, by rw [hlen2], by rw [hlen2]; exact hl, by unfold maxLen at hmx; omega, ?_⟩
            by_cases h0 : len = 0
            · left; rw [h0]; rfl
            · right
              obtain ⟨b, o, spot⟩ := a
              obtain ⟨_, sv0, c0, _⟩ := hf 0 (by omega)
              have hs : spot = none := by simpa [Addr.add] using World.cell?_spot c0
              subst hs
              have hadd : ∀ j, (⟨b, o, none⟩ : Addr).add j = ⟨b, o + j, none⟩ := fun j => by unfold Addr.add; split <;> simp_all
              rw [hadd] at c0
              obtain ⟨cs, T, fr, hblk⟩ := cell_block c0
              refine ⟨b, o, cs, T, fr, rfl, hblk, cellsR_of _ _ _ fun i t hi => ?_⟩
              have hil : i < len := by
                refine Classical.byContradiction fun z => ?_
                rw [List.getElem?_eq_none (by rw [hlen2]; omega)] at hi; cases hi
              have ht : f i = t := by simpa [hil] using hi
              subst ht
              obtain ⟨_, sv, k0, k1, k2, k3, k4, hk⟩ := hf i hil
              rw [hadd] at k0 k1 k2 k3 k4
              simp only [← Nat.add_assoc] at k0 k1 k2 k3 k4
              rw [cell_of_row _ b _ _ _ _ hblk] at k0 k1 k2 k3 k4
              exact ⟨sv, k0, k1, k2, k3, k4, hk⟩
          · obtain ⟨i, hi, rfl⟩ := List.mem_map.1 ht
            exact (hf i (List.mem_range.1 hi)).1
      obtain ⟨ts, hk, hw⟩ := kids
      refine ⟨⟨x0.toNat, x1, bytesN x2, x3.toNat, ts⟩, u4, ?_, hk, ?_⟩
      · rw [strN_of, Int.toNat_of_nonneg r0, Int.toNat_of_nonneg r3.1]
      · rw [wideTr]
        exact ⟨⟨bytesN_lt x2, by rw [bytesN_length]; unfold maxLen at hsz; omega⟩, by omega, hw⟩
theorem open_node {H : Type} {enc : TypeId × Value → H} {W : World} {base : Nat} {v : Value} {d : DataW H} {ps : List MemPlace} {r : Reach} (hv : Value.okWide Tryz.prog W r base 25 v) (h : DataW.Trod enc Tryz.prog W 0 (fun _ => true) true 25 v d ps) :
    ∃ (t : Tree) (k a : Int) (b : ByteArray) (n : Int) (sv : Value), v = .agg #[.int .u8 k, .int .i64 a, .string b, .int .u64 n, sv] ∧ NodeR W t k a b n sv ∧ wideTr t := by
  obtain ⟨cs, rfl, hsz⟩ := okWide_struct Tryz.underlying25 hv
  obtain ⟨fuel, h⟩ := h
  obtain ⟨t, sv, hc, hk, hw⟩ := open_tree fuel _ _ h
  refine ⟨t, _, _, _, _, sv, ?_, ⟨rfl, rfl, rfl, rfl, hk⟩, hw⟩
  simp only [Value.cells] at hc
  exact congrArg Value.agg (by cases cs; simpa using hc)
def pf (p : Bool) : Int → Int := if p then id else fun _ => 0
theorem kids_cells {w wr : World} {ts : List Tree} {ao : Option Addr} {cap : Nat} (h : KidsR w (.slice ao ts.length cap) ts) (hb : Below w.heap.size w wr) (j : Nat) (t : Tree) (hj : ts[j]? = some t) : ∃ g o aj cj, ao = some ⟨g, o, none⟩ ∧ g < w.heap.size ∧ wr.cell? ⟨g, o + j * 5, none⟩ = some (.int .u8 (t.kind : Int)) ∧ wr.cell? ⟨g, o + j * 5 + 1, none⟩ = some (.int .i64 t.at_) ∧ wr.cell? ⟨g, o + j * 5 + 2, none⟩ = some (.string (strN t.text)) ∧ wr.cell? ⟨g, o + j * 5 + 3, none⟩ = some (.int .u64 (t.n : Int)) ∧ wr.cell? ⟨g, o + j * 5 + 4, none⟩ = some (.slice aj t.kids.length cj) ∧ KidsR w (.slice aj t.kids.length cj) t.kids := by
  obtain ⟨aq, cq, eq, _, _, hk4⟩ := h
  cases eq
  rcases hk4 with hk4 | ⟨g2, o2, cs2, T2, fr2, rfl, hg2, hcr⟩
  · rw [hk4] at hj; simp at hj
  · obtain ⟨aj, cj, d0, d1, d2, d3, d4, hkk⟩ := cellsR_at _ _ _ hcr j _ hj
    have hg2b : g2 < w.heap.size := (Array.getElem?_eq_some_iff.1 hg2).1
    have hg2w : wr.heap[g2]? = some (.cells cs2 T2 fr2) := (hb.block g2 hg2b).trans hg2
    exact ⟨g2, o2, aj, cj, rfl, hg2b, (cell_of_row _ g2 (o2 + j * 5) _ _ _ hg2w).trans d0, (cell_of_row _ g2 (o2 + j * 5 + 1) _ _ _ hg2w).trans d1, (cell_of_row _ g2 (o2 + j * 5 + 2) _ _ _ hg2w).trans d2, (cell_of_row _ g2 (o2 + j * 5 + 3) _ _ _ hg2w).trans d3, (cell_of_row _ g2 (o2 + j * 5 + 4) _ _ _ hg2w).trans d4, hkk⟩
theorem cnt_get {ts : List Tree} {i : Nat} {t : Tree} (h : ts[i]? = some t) : cntT t ≤ cntT.cntL ts := by
  induction ts generalizing i with
  | nil => simp at h
  | cons t0 ts ih =>
    rw [cntT.cntL]
    cases i with
    | zero => cases h; omega
    | succ i => have := ih h; omega
end Go.Proofs.YtmhnbklchnnbaaaGreatDoor
