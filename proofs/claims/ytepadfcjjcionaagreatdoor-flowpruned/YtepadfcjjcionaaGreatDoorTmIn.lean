/-
  A TERM THAT CAME IN, as the term that lies there.
-/
import Derived.Test.YtepadfcjjcionaaGreatDoorTb
import Derived.Deep.Slices
import Derived.ProofKit
import Derived.OpenShut
import Derived.Carry
namespace Go.Proofs.YtepadfcjjcionaaGreatDoor
open Go.ChangeShapes Go.WideShapes Go.ChangeAt Go.RowKit Go.Deep
set_option linter.unusedVariables false

theorem laidOutT : laidOutB Tryz.prog = true := by kernel_rfl
theorem cells24 : Tryz.prog.cellsOf 24 = 5 := by kernel_rfl
theorem cells5 : Tryz.prog.cellsOf 5 = 1 := by kernel_rfl
theorem cells3 : Tryz.prog.cellsOf 3 = 1 := by kernel_rfl
theorem cells2 : Tryz.prog.cellsOf 2 = 1 := by kernel_rfl
theorem cells9 : Tryz.prog.cellsOf 9 = 1 := by kernel_rfl
theorem cells22 : Tryz.prog.cellsOf 22 = 1 := by kernel_rfl
theorem cell_block {w : World} {b o : Nat} {v : Value} (h : w.cell? ⟨b, o, none⟩ = some v) : ∃ cs T fr, w.heap[b]? = some (.cells cs T fr) := by
  unfold World.cell? at h
  split at h
  · rename_i c T fr hq; exact ⟨c, T, fr, hq⟩
  · cases h
theorem cellsR_of {w : World} : ∀ (ts : List Tm) (cs : Array Value) (o : Nat), (∀ (i : Nat) (t : Tm), ts[i]? = some t → ∃ sv, cs[o + i * 5]? = some (.int .u8 t.op) ∧ cs[o + i * 5 + 1]? = some (.int .i64 t.ty) ∧ cs[o + i * 5 + 2]? = some (.int .i64 t.n) ∧ cs[o + i * 5 + 3]? = some (.string t.tx) ∧ cs[o + i * 5 + 4]? = some sv ∧ inr t.n ∧ KidsR w sv t.ks) → CellsR w ts cs o := by
  intro ts
  induction ts with
  | nil => intro cs o h; simp [CellsR]
  | cons t0 ts ih =>
    intro cs o h
    obtain ⟨k, a, n, tx, ks⟩ := t0
    rw [cellsR_cons]
    obtain ⟨sv, c0, c1, c2, c3, c4, hr, ao, cap, rfl, h1, h2, h3⟩ := h 0 _ rfl
    refine ⟨⟨ao, cap, by simpa using c0, by simpa using c1, by simpa using c2, by simpa using c3, by simpa using c4, h1, h2, hr, h3⟩, ih cs (o + 5) fun i t hi => ?_⟩
    have := h (i + 1) t (by simpa using hi)
    rw [show o + (i + 1) * 5 = o + 5 + i * 5 by omega] at this
    exact this
set_option maxRecDepth 100000 in
theorem open_terms {H : Type} {enc : TypeId × Value → H} {W : World} : ∀ (fuel : Nat) (cs : List Value) (x : DataW H × List MemPlace), DataW.trod enc Tryz.prog W 0 (fun _ => true) true fuel 24 cs = some x →
    ∃ (t : Tm) (sv : Value), cs = [.int .u8 t.op, .int .i64 t.ty, .int .i64 t.n, .string t.tx, sv] ∧ inr t.n ∧ KidsR W sv t.ks := by
  intro fuel
  induction fuel using Nat.strongRecOn with
  | _ fuel ih =>
    intro cs x h
    obtain ⟨xs, m, hm, _, hcl, hxl, hf⟩ := DataW.trod_struct Tryz.underlying24 h
    rw [cells24] at hcl
    match xs, hxl, cs, hcl with
    | [y0, y1, y2, y3, y4], _, [u0, u1, u2, u3, u4], _ =>
      have g0 := hf 0 _ rfl
      have g1 := hf 1 _ rfl
      have g2 := hf 2 _ rfl
      have g3 := hf 3 _ rfl
      have g4 := hf 4 _ rfl
      simp [cells5, cells3, cells2, cells9, cells22] at g0 g1 g2 g3 g4
      obtain ⟨x0, q0, _, _⟩ := DataW.trod_int Tryz.underlying5 g0
      obtain ⟨x1, q1, _, _⟩ := DataW.trod_int Tryz.underlying3 g1
      obtain ⟨x2, q2, _, w2⟩ := DataW.trod_int Tryz.underlying2 g2
      obtain ⟨x3, q3, _, hsz⟩ := DataW.trod_string Tryz.underlying9 g3
      simp at q0 q1 q2 q3
      subst q0 q1 q2 q3
      have r2 : -9223372036854775808 ≤ x2 ∧ x2 ≤ 9223372036854775807 := by rw [Lit.wf, Bool.and_eq_true, decide_eq_true_eq, decide_eq_true_eq] at w2; exact w2
      have kids : ∃ ts : List Tm, KidsR W u4 ts := by
        rcases DataW.trod_slice Tryz.underlying22 g4 with ⟨e, _⟩ | ⟨a, len, cap, elems, rest, n, hn, e, _, hb, hl, hmx, hlen, hel, _⟩
        · simp at e
          subst e
          exact ⟨[], none, 0, rfl, Nat.le_refl _, by omega, .inl rfl⟩
        · simp at e
          subst e
          have each : ∀ i, i < len → ∃ t : Tm, inr t.n ∧ ∃ sv, W.cell? (a.add (i * 5)) = some (.int .u8 t.op) ∧ W.cell? (a.add (i * 5 + 1)) = some (.int .i64 t.ty) ∧ W.cell? (a.add (i * 5 + 2)) = some (.int .i64 t.n) ∧ W.cell? (a.add (i * 5 + 3)) = some (.string t.tx) ∧ W.cell? (a.add (i * 5 + 4)) = some sv ∧ KidsR W sv t.ks := by
            intro i hi
            have h1 := hel i hi
            rw [List.getElem?_eq_getElem (by omega), cells24] at h1
            cases hc : W.cells? 0 (a.add (i * 5)) 5 with
            | none => rw [hc] at h1; cases h1
            | some cs' =>
              rw [hc] at h1
              obtain ⟨t, sv, rfl, hw, hk⟩ := ih n (by omega) cs' _ h1
              obtain ⟨_, _, hcell⟩ := World.cells?_some hc
              have e0 := hcell 0 (by omega)
              have e1 := hcell 1 (by omega)
              have e2 := hcell 2 (by omega)
              have e3 := hcell 3 (by omega)
              have e4 := hcell 4 (by omega)
              rw [add_add] at e0 e1 e2 e3 e4
              exact ⟨t, hw, sv, by simpa using e0, by simpa using e1, by simpa using e2, by simpa using e3, by simpa using e4, hk⟩
          letI : Inhabited Tm := ⟨⟨0, 0, 0, ⟨#[]⟩, []⟩⟩
          obtain ⟨f, hf⟩ := choose_lt each
          have hlen2 : ((List.range len).map f).length = len := by simp
          refine ⟨(List.range len).map f, some a, cap, by rw [hlen2], by rw [hlen2]; exact hl, by unfold maxLen at hmx; omega, ?_⟩
          by_cases h0 : len = 0
          · left; rw [h0]; rfl
          · right
            obtain ⟨b, o, spot⟩ := a
            obtain ⟨_, sv0, c0, _⟩ := hf 0 (by omega)
            have hs : spot = none := by simpa [Addr.add] using World.cell?_spot c0
            subst hs
            have hadd : ∀ j, (⟨b, o, none⟩ : Addr).add j = ⟨b, o + j, none⟩ := fun j => by unfold Addr.add; split <;> simp_all
            rw [hadd] at c0
            obtain ⟨cs, T, fr, hblk⟩ := cell_block c0
            refine ⟨b, o, cs, T, fr, rfl, hblk, cellsR_of _ _ _ fun i t hi => ?_⟩
            have hil : i < len := by
              refine Classical.byContradiction fun z => ?_
              rw [List.getElem?_eq_none (by rw [hlen2]; omega)] at hi; cases hi
            have ht : f i = t := by simpa [hil] using hi
            subst ht
            obtain ⟨hr, sv, k0, k1, k2, k3, k4, hk⟩ := hf i hil
            rw [hadd] at k0 k1 k2 k3 k4
            simp only [← Nat.add_assoc] at k0 k1 k2 k3 k4
            rw [cell_of_row _ b _ _ _ _ hblk] at k0 k1 k2 k3 k4
            exact ⟨sv, k0, k1, k2, k3, k4, hr, hk⟩
      obtain ⟨ts, hk⟩ := kids
      exact ⟨⟨x0, x1, x2, x3, ts⟩, u4, rfl, r2, hk⟩
set_option maxRecDepth 100000 in
theorem open_term {H : Type} {enc : TypeId × Value → H} {W : World} {base : Nat} {v : Value} {d : DataW H} {ps : List MemPlace} {r : Reach} (hv : Value.okWide Tryz.prog W r base 24 v) (h : DataW.Trod enc Tryz.prog W 0 (fun _ => true) true 24 v d ps) :
    ∃ (t : Tm) (sv : Value), v = .agg #[.int .u8 t.op, .int .i64 t.ty, .int .i64 t.n, .string t.tx, sv] ∧ inr t.n ∧ KidsR W sv t.ks := by
  obtain ⟨cs, rfl, hsz⟩ := okWide_struct Tryz.underlying24 hv
  obtain ⟨fuel, h⟩ := h
  obtain ⟨t, sv, hc, hr, hk⟩ := open_terms fuel _ _ h
  refine ⟨t, sv, ?_, hr, hk⟩
  simp only [Value.cells] at hc
  cases cs
  simp_all
end Go.Proofs.YtepadfcjjcionaaGreatDoor
