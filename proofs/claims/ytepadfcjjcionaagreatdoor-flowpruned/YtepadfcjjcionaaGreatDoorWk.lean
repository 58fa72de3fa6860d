/-
  WHAT A TOUR THROUGH A TERM TELLS, as mathematics; and the tour in memory.
-/
import Derived.Test.YtepadfcjjcionaaGreatDoorTb
namespace Go.Proofs.YtepadfcjjcionaaGreatDoor
open Go.RowKit Go.Maps
set_option linter.unusedVariables false

abbrev Ways := Int → Bool × Bool
structure Out where
  e : Bool
  w : Ways
  y : Nat
  z : Nat
def noW : Ways := fun _ => (false, false)
def orW (a b : Ways) : Ways := fun k => ((a k).1 || (b k).1, (a k).2 || (b k).2)
def butW (a : Ways) (n : Int) : Ways := fun k => if k = n then (false, false) else a k
def oneW (n : Int) (x : Bool × Bool) : Ways := fun k => if k = n then x else (false, false)
def oneO (c : Bool) : Out := ⟨c, noW, if c then 1 else 0, if c then 0 else 1⟩
def seqO (a b : Out) : Out := ⟨b.e, orW a.w b.w, a.y + b.y, a.z + b.z⟩
def eb : Tm := ⟨1, 0, 0, ⟨#[]⟩, []⟩
def kidT (ks : List Tm) (i : Nat) : Tm := ks[i]?.getD eb
def lastT (ks : List Tm) : Tm := ks.getLast?.getD eb
def armsL (ks : List Tm) : List Tm := (ks.tail.filter fun k => decide (k.op = 11)).map (fun k => lastT k.ks) ++ [if 2 ≤ ks.length then lastT ks else eb]
def blkF (f : Tm → Bool → Out) : List Tm → Bool → Out
  | [], c => ⟨c, noW, 0, 0⟩
  | t :: ts, c => seqO (f t c) (blkF f ts (f t c).e)
def armF (f : Tm → Bool → Out) (n : Int) (c : Bool) : List Tm → Out
  | [] => ⟨false, noW, 0, 0⟩
  | t :: ts => ⟨((f t c).e || ((f t c).w n).1) || (armF f n c ts).e, orW (butW (f t c).w n) (armF f n c ts).w, (f t c).y + (armF f n c ts).y, (f t c).z + (armF f n c ts).z⟩
def ifF (f : Tm → Bool → Out) (ks : List Tm) (c : Bool) : Out :=
  ⟨(f (kidT ks 1) c).e || (f (kidT ks 2) c).e, orW (f (kidT ks 1) c).w (f (kidT ks 2) c).w, (f (kidT ks 1) c).y + (f (kidT ks 2) c).y, (f (kidT ks 1) c).z + (f (kidT ks 2) c).z⟩
def loopF (f : Tm → Bool → Out) (n : Int) (ks : List Tm) (c : Bool) : Out :=
  let a := f (kidT ks 1) c
  let b := f (kidT ks 2) (a.e || (a.w n).2)
  ⟨(a.w n).1 || (c && decide ((kidT ks 0).op ≠ 42)), orW (butW a.w n) (butW b.w n), a.y + b.y, a.z + b.z⟩
def bodyF (f : Tm → Bool → Out) (t : Tm) (c : Bool) : Out :=
  if t.op = 1 then blkF f t.ks c
  else if t.op = 8 then ifF f t.ks c
  else if t.op = 9 then loopF f t.n t.ks c
  else if t.op = 10 then armF f t.n c (armsL t.ks)
  else if t.op = 12 ∨ t.op = 13 then ⟨false, if c then oneW t.n (decide (t.op = 12), decide (t.op ≠ 12)) else noW, 0, 0⟩
  else if t.op = 14 ∨ t.op = 15 then ⟨false, noW, 0, 0⟩
  else ⟨c, noW, 0, 0⟩
def walkF : Nat → Tm → Bool → Out
  | 0, _, c => oneO c
  | N + 1, t, c => seqO (oneO c) (bodyF (walkF N) t c)
def Enough (N : Nat) (t : Tm) : Prop := cnt t < N ∨ (t = eb ∧ 1 ≤ N)

theorem orW_no (a : Ways) : orW a noW = a := by funext k; simp [orW, noW]
theorem no_orW (a : Ways) : orW noW a = a := by funext k; simp [orW, noW]
theorem orW_assoc (a b c : Ways) : orW (orW a b) c = orW a (orW b c) := by funext k; simp [orW, Bool.or_assoc]

/-! ### The map in memory -/
def wV (x : Bool × Bool) : Value := .agg #[.bool x.1, .bool x.2]
def wD (x : Bool × Bool) : DataW Unit := .agg [.lit (.bool x.1), .lit (.bool x.2)]
def wR (v : Value) : Option (DataW Unit × List MemPlace) := match v with
  | .agg cs => match cs.toList with
    | [.bool a, .bool b] => some (.agg [.lit (.bool a), .lit (.bool b)], [])
    | _ => none
  | _ => none
theorem wR_wV (x : Bool × Bool) : wR (wV x) = some (wD x, []) := rfl
theorem wR_inv {v : Value} {y : DataW Unit × List MemPlace} (h : wR v = some y) : ∃ x, v = wV x ∧ y.1 = wD x := by
  unfold wR at h
  split at h
  · rename_i cs
    split at h
    · rename_i a b hl
      refine ⟨(a, b), ?_, by rw [← Option.some.inj h]; rfl⟩
      unfold wV
      congr 1
      exact Array.toList_inj.mp hl
    · cases h
  · cases h
theorem wD_inj {x y : Bool × Bool} (h : wD x = wD y) : x = y := by
  simp only [wD, DataW.agg.injEq, List.cons.injEq, DataW.lit.injEq, Lit.bool.injEq, and_true] at h
  exact Prod.ext h.1 h.2
def putW (A : Ways) (i : Int) (x : Bool × Bool) : Ways := fun k => if k = i then x else A k
def MapIs (D : DataW Unit) (A : Ways) : Prop := IsMap D ∧ ∀ i : Int, inr i → D.atKey (.int .i64 i) (wD (false, false)) = wD (A i)
def MapAt (w : World) (M : Nat) (A : Ways) (k : Nat) : Prop := ∃ n D, w.ownsMap Tryz.prog 2 wR M n D ∧ n ≤ k ∧ MapIs D A
theorem keyed2 : Keyed Tryz.prog 2 := int_keyed Tryz.underlying2
theorem key2 {i : Int} (h : inr i) : keyOf Tryz.prog 2 (.int .i64 i) = some (.int .i64 i) := by
  have hw : (Lit.int .i64 i).wf = true := by
    rw [Lit.wf, Bool.and_eq_true, decide_eq_true_eq, decide_eq_true_eq]; exact h
  rw [keyOf_int Tryz.underlying2]
  simp [mapKey, Tryz.underlying2, hw]
theorem MapAt.lt {w : World} {M : Nat} {A : Ways} {k : Nat} (h : MapAt w M A k) : M < w.heap.size := by obtain ⟨n, D, h, _⟩ := h; exact h.lt
theorem MapAt.ne {w : World} {M : Nat} {A : Ways} {k g : Nat} {cs : Array Value} {t : TypeId} (h : MapAt w M A k) (ho : Own w g cs t) : M ≠ g := by
  obtain ⟨n, D, ⟨es, clock, g1, _⟩, _⟩ := h
  rintro rfl
  unfold Own at ho
  rw [g1] at ho
  cases ho
theorem MapAt.on {w w' : World} {M : Nat} {A : Ways} {k : Nat} (h : MapAt w M A k) (hb : w'.heap[M]? = w.heap[M]?) : MapAt w' M A k := by
  obtain ⟨n, D, ⟨es, clock, g1, g2⟩, h2⟩ := h
  exact ⟨n, D, ⟨es, clock, hb.trans g1, g2⟩, h2⟩
theorem MapAt.mono {w : World} {M : Nat} {A : Ways} {k k' : Nat} (h : MapAt w M A k) (hk : k ≤ k') : MapAt w M A k' := by
  obtain ⟨n, D, h1, h2, h3⟩ := h
  exact ⟨n, D, h1, Nat.le_trans h2 hk, h3⟩
theorem MapAt.look {w : World} {M : Nat} {A : Ways} {k : Nat} (h : MapAt w M A k) {i : Int} (hi : inr i) : (Instr.lookup 37 (.map (some M)) (.int .i64 i) false).run Tryz.prog w = .ok (.agg #[.bool (A i).1, .bool (A i).2]) w := by
  obtain ⟨n, D, h1, _, h2, h3⟩ := h
  obtain ⟨v, ps, hrun, hv⟩ := h1.lookup keyed2 Tryz.underlying37 (Tryz.zeroValue63 w) (wR_wV (false, false)) (key2 hi)
  obtain ⟨x, rfl, hx⟩ := wR_inv hv
  rw [h3 i hi] at hx
  rw [hrun, ← wD_inj hx]
  rfl
theorem MapAt.put {w : World} {M : Nat} {A : Ways} {k : Nat} (h : MapAt w M A k) (hk : k < maxLen) {i : Int} (hi : inr i) (a b : Bool) : ∃ w', (Instr.mapUpdate 37 (.map (some M)) (.int .i64 i) (.agg #[.bool a, .bool b])).run Tryz.prog w = .ok () w' ∧ MapAt w' M (putW A i (a, b)) (k + 1) ∧ w.grownBy w' (some M) := by
  obtain ⟨n, D, h1, hn, h2, h3⟩ := h
  obtain ⟨w', hrun, r1, r2⟩ := h1.update keyed2 Tryz.underlying37 (by omega) (key2 hi) (wR_wV (a, b))
  refine ⟨w', hrun, ⟨n + 1, _, r1, by omega, ?_, fun j hj => ?_⟩, r2⟩
  · obtain ⟨es, rfl⟩ := h2
    exact ⟨_, rfl⟩
  · by_cases he : j = i
    · subst he
      rw [atKey_put_same h2 (keyed2.key (key2 hi))]
      simp [putW]
    · rw [atKey_put_other (fun e => he (by simpa using e)), h3 j hj]
      simp [putW, he]
theorem mapAt_new (w : World) : MapAt (w.alloc (.map #[] 0)) w.heap.size noW 0 := by
  refine ⟨0, .map [], World.ownsMap_made w _ _ _, Nat.le_refl _, ⟨[], rfl⟩, fun i _ => ?_⟩
  rfl

/-! ### The tour in memory -/
def TourAt (w : World) (R M B : Nat) (A : Ways) (y z k : Nat) : Prop :=
  Own w R #[.int .i64 (y : Int), .int .i64 (z : Int), .map (some M), .func (.func 24) #[] #[.pointer (some ⟨B, 0, none⟩)]] 40 ∧ Own w B #[.map (some M)] 37 ∧ MapAt w M A k
/-- What a call of the tour keeps: all blocks but the tour's and the map's. -/
structure Kt (R M : Nat) (w w' : World) : Prop where
  os : w'.os = w.os
  tape : w'.tape = w.tape
  output : w'.output = w.output
  size : w.heap.size ≤ w'.heap.size
  block : ∀ g, g < w.heap.size → g ≠ R → g ≠ M → w'.heap[g]? = w.heap[g]?
theorem Kt.refl (R M : Nat) (w : World) : Kt R M w w := ⟨rfl, rfl, rfl, Nat.le_refl _, fun _ _ _ _ => rfl⟩
theorem Kt.trans {R M : Nat} {a b c : World} (h : Kt R M a b) (k : Kt R M b c) : Kt R M a c :=
  ⟨k.os.trans h.os, k.tape.trans h.tape, k.output.trans h.output, Nat.le_trans h.size k.size, fun g hg h1 h2 => (k.block g (Nat.lt_of_lt_of_le hg h.size) h1 h2).trans (h.block g hg h1 h2)⟩
theorem Kt.of {R M : Nat} {w w' : World} (h : Below w.heap.size w w') : Kt R M w w' := ⟨h.os, h.tape, h.output, h.size, fun g hg _ _ => h.block g hg⟩
theorem Kt.alloc {R M : Nat} {a w : World} (h : Kt R M a w) (o : Obj) : Kt R M a (w.alloc o) := h.trans (Kt.of ((Below.refl _ _).alloc (Nat.le_refl _) o))
theorem Kt.drew {R M : Nat} {a w : World} (h : Kt R M a w) : Kt R M a w.drew := ⟨h.os, h.tape, h.output, h.size, h.block⟩
theorem Kt.set {R M : Nat} {a w : World} (h : Kt R M a w) {g : Nat} (hg : a.heap.size ≤ g ∨ g = R) (i : Nat) (u : Value) : Kt R M a (w.setCell ⟨g, i, none⟩ u) :=
  ⟨h.os, h.tape, h.output, Nat.le_trans h.size (by simp [World.setCell]), fun k hk h1 h2 => (Below.heap_setCell w ⟨g, i, none⟩ u k (by rcases hg with hg | hg; (show k ≠ g); omega; (show k ≠ g); rw [hg]; exact h1)).trans (h.block k hk h1 h2)⟩
theorem Kt.grown {R M : Nat} {a w w' : World} (h : Kt R M a w) (hg : w.grownBy w' (some M)) : Kt R M a w' :=
  ⟨hg.os.trans h.os, hg.tape.trans h.tape, hg.output.trans h.output, Nat.le_trans h.size hg.size, fun k hk h1 h2 => (hg.block k (Nat.lt_of_lt_of_le hk h.size) (fun e => h2 (Option.some.inj e))).trans (h.block k hk h1 h2)⟩
theorem Own.kt {w w' : World} {g R M : Nat} {cs : Array Value} {t : TypeId} (h : Own w g cs t) (hk : Kt R M w w') (h1 : g ≠ R) (h2 : g ≠ M) : Own w' g cs t := (hk.block g h.lt h1 h2).trans h
theorem Own.grown {w w' : World} {g M : Nat} {cs : Array Value} {t : TypeId} (h : Own w g cs t) (hg : w.grownBy w' (some M)) (h2 : g ≠ M) : Own w' g cs t := (hg.block g h.lt (fun e => h2 (Option.some.inj e))).trans h
/-- Terms stay where they are: they lie in other blocks. -/
def Apart (w : World) (R M : Nat) (v : Value) (ts : List Tm) : Prop := ∀ w', Kt R M w w' → KidsR w' v ts
end Go.Proofs.YtepadfcjjcionaaGreatDoor
