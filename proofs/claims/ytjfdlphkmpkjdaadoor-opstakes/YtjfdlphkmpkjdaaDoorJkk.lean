/-
  CONTRACT of the kit's KeptInts.
  CONTRACT of the kit's KeptModule: what is asked for.
  CONTRACT of the kit's KeptModule, walked.
-/
import Derived.Test.YtjfdlphkmpkjdaaDoorJml
import Derived.Test.YtjfdlphkmpkjdaaDoorJms
import Derived.Test.YtjfdlphkmpkjdaaDoorMi
import Derived.Test.YtjfdlphkmpkjdaaDoorJtb
namespace Go.Proofs.YtjfdlphkmpkjdaaDoor
open Go.RowKit
set_option linter.unusedVariables false

theorem LentI.mark {w : World} {g n c : Nat} {xs : List Int} (h : LentI w g n c xs) (hn : n = xs.length) : w.cell? ⟨g, n, none⟩ = some (.int .i64 (-771)) ∧ w.cell? ⟨g, n + 1, none⟩ = some (.int .i64 (-772)) ∧ w.cell? ⟨g, n + 2, none⟩ = some (.int .i64 (-773)) := by
  have e : ∀ (k : Nat) (z : Int), mkI[k]? = some z → w.cell? ⟨g, n + k, none⟩ = some (.int .i64 z) := fun k z hz => by
    refine Rw.cells h (n + k) _ ?_
    unfold intV
    rw [List.getElem?_map, List.getElem?_append_right (by omega), show n + k - xs.length = k by omega, hz]
    rfl
  exact ⟨e 0 _ rfl, e 1 _ rfl, e 2 _ rfl⟩
set_option maxHeartbeats 2000000 in
set_option maxRecDepth 100000 in
theorem kkeptI_as {w : World} {g n c : Nat} {xs : List Int} {a : Option Addr} {c' : Nat} (h : LentI w g n c xs) (hl : RowAt w a 1 xs.length (inF xs)) (hn : n = xs.length) (hm : n ≤ 100000) :
    Calls Tryd.prog 29 #[.slice (some ⟨g, 0, none⟩) n c, .slice a n c'] w fun e w' => e = .returned (.bool true) ∧ Below w.heap.size w w' := by
  have hS := sameInts_as (c := c) (c' := c') hn hn (h.row hn) hl (by unfold big; omega) true (by simp)
  have hcap : n + 3 ≤ c := by
    obtain ⟨a', c', e, h1, h2⟩ := Rw.shape h
    cases e; exact h1
  have hci : (n : Int) + 3 ≤ (c : Int) := by omega
  have HM : Hid (∀ W, Below w.heap.size w W → W.cell? ⟨g, n, none⟩ = some (.int .i64 (-771)) ∧ W.cell? ⟨g, n + 1, none⟩ = some (.int .i64 (-772)) ∧ W.cell? ⟨g, n + 2, none⟩ = some (.int .i64 (-773))) := fun W hb => LentI.mark (Rw.belowR h hb) hn
  have hw3 : wrap64 ((n : Int) + 3) = (n : Int) + 3 := by unfold wrap64; omega
  have hmi : (n : Int) ≤ 100000 := by omega
  clear h hl hn hm hcap
  go_enter Tryd.func29, Tryd.ntmps29
  go_wp2_with fail
  refine hS.mono ?_
  rintro e w1 ⟨rfl, b1⟩
  clear hS
  have HB : Hid _ := b1
  clear b1
  go_wp2_with fail
  go_loopw [6] (fun i wr => ∃ k : Nat, k ≤ 3 ∧ i = .int .i64 (k : Int) ∧ Below w.heap.size w wr) (fun i _ => 3 - (intOf i).toNat)
  case atStart => exact ⟨0, by omega, rfl, HB.out⟩
  case round =>
    clear HB
    obtain ⟨k, hk, rfl, hb⟩ := hrel
    obtain ⟨c0, c1, c2⟩ := HM.out wr hb
    have hk4 : k = 0 ∨ k = 1 ∨ k = 2 ∨ k = 3 := by omega
    have e1 : wrap64 ((n : Int) + 1) = (n : Int) + 1 := by unfold wrap64; omega
    have e2 : wrap64 ((n : Int) + 2) = (n : Int) + 2 := by unfold wrap64; omega
    rcases hk4 with rfl | rfl | rfl | rfl
    · go_wp2_with fail
      go_roundw
      case rel => exact ⟨1, by omega, rfl, hb⟩
      case measure => simp [intOf]
    · go_wp2_with fail
      go_roundw
      case rel => exact ⟨2, by omega, rfl, hb⟩
      case measure => simp [intOf]
    · go_wp2_with fail
      go_roundw
      case rel => exact ⟨3, by omega, rfl, hb⟩
      case measure => simp [intOf]
    · go_wp2
      go_ret
      exact ⟨rfl, hb⟩
end Go.Proofs.YtjfdlphkmpkjdaaDoor
namespace Go.Proofs.YtjfdlphkmpkjdaaDoor
open Go.RowKit
set_option linter.unusedVariables false

theorem getD_pre {α : Type} {l : List α} {y z : α} {i : Nat} (hi : i < l.length) : (l ++ [y]).getD i z = l.getD i z := by simp [List.getD, List.getElem?_append, hi]
theorem getD_last {α : Type} (l : List α) (y z : α) : (l ++ [y]).getD l.length z = y := by simp [List.getD]
/-- The marks behind a lent module's lists. -/
structure MarksAt (b1 o1 n1 b2 o2 n2 b3 o3 n3 : Nat) (W : World) : Prop where
  t : W.cell? ⟨b1, o1 + n1 * 5 + 1, none⟩ = some (.string markS)
  x : W.cell? ⟨b2, o2 + n2, none⟩ = some (.string markS)
  f : W.cell? ⟨b3, o3 + n3 * 6, none⟩ = some (.string markS)
theorem marks_of {B : Nat} {w : World} {m : MoP} (h : LentM B w m) : ∃ b1 o1 b2 o2 b3 o3, m.ta = some ⟨b1, o1, none⟩ ∧ m.sa = some ⟨b2, o2, none⟩ ∧ m.fa = some ⟨b3, o3, none⟩ ∧ ∀ W, Below w.heap.size w W → MarksAt b1 o1 m.tys.length b2 o2 m.txs.length b3 o3 m.fns.length W := by
  obtain ⟨g1, cap1, cur1, e1, -⟩ := h.trow.block (by omega)
  obtain ⟨g2, cap2, cur2, e2, -⟩ := h.xrow.block (by omega)
  obtain ⟨g3, cap3, cur3, e3, -⟩ := h.frow.block (by omega)
  have f1 : m.ta = some ⟨g1, 0, none⟩ := by injection e1
  have f2 : m.sa = some ⟨g2, 0, none⟩ := by injection e2
  have f3 : m.fa = some ⟨g3, 0, none⟩ := by injection e3
  refine ⟨g1, 0, g2, 0, g3, 0, f1, f2, f3, fun W hb => ?_⟩
  have hW := h.below hb
  have r1 := hW.trow
  have r2 := hW.xrow
  have r3 := hW.frow
  rw [f1] at r1
  rw [f2] at r2
  rw [f3] at r3
  refine ⟨?_, ?_, ?_⟩
  · have := Rw.cells r1 _ _ (tyC_get (m.tys ++ [mkT]) m.tys.length (by simp) 1 (by omega))
    rw [Nat.zero_add]
    rw [this]
    unfold tyF
    rw [getD_last]
    rfl
  · have := Rw.cells r2 _ _ (txC_get (m.txs ++ [markS]) m.txs.length (by simp) 0 (by omega))
    rw [Nat.zero_add]
    rw [Nat.mul_one, Nat.add_zero] at this
    rw [this]
    unfold txF
    rw [getD_last]
  · have := Rw.cells r3 _ _ (roC_get (m.fns ++ [mkR]) m.fns.length (by simp) 0 (by omega))
    rw [Nat.zero_add]
    rw [Nat.add_zero] at this
    rw [this]
    unfold roF
    rw [getD_last]
    rfl
/-- A lent type's fields: where they lie in both modules, the mark behind. -/
structure FldAt (b o b' o' k f fc fc' gf : Nat) (fa' : Option Addr) (W : World) : Prop where
  a : W.cell? ⟨b, o + k * 5 + 2, none⟩ = some (.slice (some ⟨gf, 0, none⟩) f fc)
  l : W.cell? ⟨b', o' + k * 5 + 2, none⟩ = some (.slice fa' f fc')
  m : W.cell? ⟨gf, f * 2, none⟩ = some (.string markS)
theorem fld_of {B : Nat} {w : World} {A' A : MoP} (h : LentM B w A') (hi : MoIn w A') (hA : MoIn w A) (he : A'.mo = A.mo) (hs : Small A 100000) {b o : Nat} (hta : A'.ta = some ⟨b, o, none⟩) {k : Nat} (hk : k < A.tys.length) :
    ∃ b' o' f fc fc' gf fa', A.ta = some ⟨b', o', none⟩ ∧ f ≤ 100000 ∧ f + 1 ≤ fc ∧ ∀ W, Below w.heap.size w W → FldAt b o b' o' k f fc fc' gf fa' W := by
  have hl : A'.tys.length = A.tys.length := by have := congrArg (fun m => m.types.length) he; simpa [MoP.mo] using this
  have hk' : k < A'.tys.length := by omega
  obtain ⟨b1, o1, e1, c1⟩ := hi.tyr.at hk'
  rw [hta] at e1
  cases e1
  obtain ⟨b2, o2, e2, c2⟩ := hA.tyr.at hk
  have ht : (A'.tys.getD k zTP).t = (A.tys.getD k zTP).t := by
    have := congrArg (fun m => m.types.getD k zTy) he
    simp only [MoP.mo] at this
    rw [show zTy = TyP.t zTP from rfl] at this
    have q1 : ∀ l : List TyP, (l.map TyP.t).getD k (TyP.t zTP) = (l.getD k zTP).t := fun l => by
      simp only [List.getD_eq_getElem?_getD, List.getElem?_map]
      cases l[k]? <;> rfl
    rw [q1, q1] at this
    exact this
  obtain ⟨x, hx⟩ : ∃ x, A'.tys.getD k zTP = x := ⟨_, rfl⟩
  obtain ⟨y, hy⟩ : ∃ y, A.tys.getD k zTP = y := ⟨_, rfl⟩
  have hxm : x ∈ A'.tys := by rw [← hx]; exact getD_in hk'
  have hym : y ∈ A.tys := by rw [← hy]; exact getD_in hk
  rw [hx, hy] at ht
  have hf := h.teach x hxm
  obtain ⟨gf, -, hgf⟩ := hf.ex
  have hcap : x.t.fields.length + 1 ≤ x.fc := by
    obtain ⟨ao, cp, e', h1, -⟩ := hf.row.shape
    injection e' with _ _ e3
    omega
  have hsz := hs.fl y hym
  refine ⟨b2, o2, y.t.fields.length, x.fc, y.fc, gf, y.fa, e2, hsz, by rw [← ht]; exact hcap, fun W hb => ?_⟩
  have c1W := ((hi.below hb).tyr.at hk')
  have c2W := ((hA.below hb).tyr.at hk)
  rw [hta] at c1W
  rw [e2] at c2W
  obtain ⟨_, _, q1, q2⟩ := c1W
  cases q1
  obtain ⟨_, _, q3, q4⟩ := c2W
  cases q3
  refine ⟨?_, ?_, ?_⟩
  · rw [q2 2 (by omega)]
    show some (Value.slice (A'.tys.getD k zTP).fa (A'.tys.getD k zTP).t.fields.length (A'.tys.getD k zTP).fc) = _
    rw [hx, hgf, ht]
  · rw [q4 2 (by omega)]
    show some (Value.slice (A.tys.getD k zTP).fa (A.tys.getD k zTP).t.fields.length (A.tys.getD k zTP).fc) = _
    rw [hy]
  · have hr := (hf.below hb).row
    rw [hgf] at hr
    have := Rw.cells hr _ _ (flC_get (x.t.fields ++ [mkF]) x.t.fields.length (by simp) 0 (by omega))
    rw [Nat.add_zero, ht] at this
    rw [this]
    unfold flF
    rw [← ht, getD_last]
    rfl
/-- Two functions in memory, the lent one and the other. -/
structure FnAt (b o b' o' k : Nat) (nm : ByteArray) (p r c p' r' c' : Value) (lo st : Int) (W : World) : Prop where
  a0 : W.cell? ⟨b, o + k * 6, none⟩ = some (.string nm)
  a1 : W.cell? ⟨b, o + k * 6 + 1, none⟩ = some p
  a2 : W.cell? ⟨b, o + k * 6 + 2, none⟩ = some r
  a3 : W.cell? ⟨b, o + k * 6 + 3, none⟩ = some (.int .i64 lo)
  a4 : W.cell? ⟨b, o + k * 6 + 4, none⟩ = some (.int .i64 st)
  a5 : W.cell? ⟨b, o + k * 6 + 5, none⟩ = some c
  l0 : W.cell? ⟨b', o' + k * 6, none⟩ = some (.string nm)
  l1 : W.cell? ⟨b', o' + k * 6 + 1, none⟩ = some p'
  l2 : W.cell? ⟨b', o' + k * 6 + 2, none⟩ = some r'
  l3 : W.cell? ⟨b', o' + k * 6 + 3, none⟩ = some (.int .i64 lo)
  l4 : W.cell? ⟨b', o' + k * 6 + 4, none⟩ = some (.int .i64 st)
  l5 : W.cell? ⟨b', o' + k * 6 + 5, none⟩ = some c'
theorem fn_of {B : Nat} {w : World} {A' A : MoP} (h : LentM B w A') (hi : MoIn w A') (hA : MoIn w A) (he : A'.mo = A.mo) (hs : Small A 100000) {b o : Nat} (hta : A'.fa = some ⟨b, o, none⟩) {k : Nat} (hk : k < A.fns.length) :
    ∃ (b' o' : Nat) (nm : ByteArray) (lo st : Int) (gp pl pc gr rl rc gc cl cc : Nat) (pa ra ca : Option Addr) (pc' rc' cc' : Nat), A.fa = some ⟨b', o', none⟩ ∧ b < w.heap.size ∧ b' < w.heap.size ∧
      (∀ W, Below w.heap.size w W → FnAt b o b' o' k nm (.slice (some ⟨gp, 0, none⟩) pl pc) (.slice (some ⟨gr, 0, none⟩) rl rc) (.slice (some ⟨gc, 0, none⟩) cl cc) (.slice pa pl pc') (.slice ra rl rc') (.slice ca cl cc') lo st W) ∧
      (∀ W, Below w.heap.size w W → Calls Tryd.prog 29 #[.slice (some ⟨gp, 0, none⟩) pl pc, .slice pa pl pc'] W fun e w' => e = .returned (.bool true) ∧ Below W.heap.size W w') ∧
      (∀ W, Below w.heap.size w W → Calls Tryd.prog 29 #[.slice (some ⟨gr, 0, none⟩) rl rc, .slice ra rl rc'] W fun e w' => e = .returned (.bool true) ∧ Below W.heap.size W w') ∧
      (∀ W, Below w.heap.size w W → Calls Tryd.prog 30 #[.slice (some ⟨gc, 0, none⟩) cl cc, .slice ca cl cc'] W fun e w' => e = .returned (.bool true) ∧ Below W.heap.size W w') := by
  have hl : A'.fns.length = A.fns.length := by have := congrArg (fun m => m.funcs.length) he; simpa [MoP.mo] using this
  have hk' : k < A'.fns.length := by omega
  obtain ⟨b1, o1, e1, c1⟩ := hi.fnr.at hk'
  rw [hta] at e1
  cases e1
  obtain ⟨b2, o2, e2, c2⟩ := hA.fnr.at hk
  have ht : (A'.fns.getD k zRP).r = (A.fns.getD k zRP).r := by
    have := congrArg (fun m => m.funcs.getD k (RoP.r zRP)) he
    simp only [MoP.mo] at this
    have q1 : ∀ l : List RoP, (l.map RoP.r).getD k (RoP.r zRP) = (l.getD k zRP).r := fun l => by
      simp only [List.getD_eq_getElem?_getD, List.getElem?_map]
      cases l[k]? <;> rfl
    rw [q1, q1] at this
    exact this
  obtain ⟨x, hx⟩ : ∃ x, A'.fns.getD k zRP = x := ⟨_, rfl⟩
  obtain ⟨y, hy⟩ : ∃ y, A.fns.getD k zRP = y := ⟨_, rfl⟩
  have hxm : x ∈ A'.fns := by rw [← hx]; exact getD_in hk'
  have hym : y ∈ A.fns := by rw [← hy]; exact getD_in hk
  rw [hx, hy] at ht
  have hf := h.feach x hxm
  obtain ⟨gp, -, hgp, hp⟩ := hf.p
  obtain ⟨gr, -, hgr, hr⟩ := hf.r
  obtain ⟨gc, -, hgc, hc⟩ := hf.c
  have hsz := hs.ro y hym
  have hyi := hA.fn y hym
  rw [ht] at hp hr hc
  refine ⟨b2, o2, y.r.name, y.r.locals, y.r.stack, gp, y.r.params.length, x.pc, gr, y.r.results.length, x.rc, gc, y.r.code.length, x.cc, y.pa, y.ra, y.ca, y.pc, y.rc, y.cc, e2, ?_, ?_, fun W hb => ?_, fun W hb => ?_, fun W hb => ?_, fun W hb => ?_⟩
  · exact World.block_lt_of_cell? w _ (c1 0 (by omega))
  · exact World.block_lt_of_cell? w _ (c2 0 (by omega))
  · have c1W := ((hi.below hb).fnr.at hk')
    have c2W := ((hA.below hb).fnr.at hk)
    rw [hta] at c1W
    rw [e2] at c2W
    obtain ⟨_, _, q1, q2⟩ := c1W
    cases q1
    obtain ⟨_, _, q3, q4⟩ := c2W
    cases q3
    have z0 := q2 0 (by omega)
    have z1 := q2 1 (by omega)
    have z2 := q2 2 (by omega)
    have z3 := q2 3 (by omega)
    have z4 := q2 4 (by omega)
    have z5 := q2 5 (by omega)
    have v0 := q4 0 (by omega)
    have v1 := q4 1 (by omega)
    have v2 := q4 2 (by omega)
    have v3 := q4 3 (by omega)
    have v4 := q4 4 (by omega)
    have v5 := q4 5 (by omega)
    unfold roF at z0 z1 z2 z3 z4 z5 v0 v1 v2 v3 v4 v5
    simp only [hx, hy, Nat.add_zero, hgp, hgr, hgc, ht] at z0 z1 z2 z3 z4 z5 v0 v1 v2 v3 v4 v5
    exact ⟨z0, z1, z2, z3, z4, z5, v0, v1, v2, v3, v4, v5⟩
  · exact kkeptI_as (Rw.belowR hp hb) (hyi.below hb).params rfl hsz.1
  · exact kkeptI_as (Rw.belowR hr hb) (hyi.below hb).results rfl hsz.2.1
  · exact (kkeptB_as (Rw.belowR hc hb) (hyi.below hb).code rfl (by omega)).mono fun e w' q => ⟨q.1, by rw [← q.2]; exact Below.refl _ _⟩
end Go.Proofs.YtjfdlphkmpkjdaaDoor
namespace Go.Proofs.YtjfdlphkmpkjdaaDoor
open Go.RowKit
set_option linter.unusedVariables false

/-- What stands while the loops run. -/
structure KmS (w : World) (cs1 cs2 : Array Value) (W : World) : Prop where
  o1 : Own W w.heap.size cs1 29
  o2 : Own W (w.heap.size + 1) cs2 29
  be : Below w.heap.size w W
theorem KmS.below {w W W' : World} {cs1 cs2 : Array Value} (h : KmS w cs1 cs2 W) (hb : Below W.heap.size W W') : KmS w cs1 cs2 W' := ⟨h.o1.below hb, h.o2.below hb, h.be.trans (hb.mono h.be.size)⟩
theorem own6p {w : World} {g : Nat} {a0 a1 a2 a3 a4 a5 : Value} {t : TypeId} (h : Own w g #[a0, a1, a2, a3, a4, a5] t) : w.cell? ⟨g, 1, none⟩ = some a1 ∧ w.cell? ⟨g, 2, none⟩ = some a2 ∧ w.cell? ⟨g, 5, none⟩ = some a5 := ⟨h.cell 1, h.cell 2, h.cell 5⟩
set_option maxHeartbeats 8000000 in
set_option maxRecDepth 100000 in
theorem kkeptM_as {B : Nat} {w : World} {A' A : MoP} (hL : LentM B w A') (hi : MoIn w A') (hA : MoIn w A) (he : A'.mo = A.mo) (hs : Small A 100000) (hcap : A'.tys.length + 1 ≤ A'.tc ∧ A'.txs.length + 1 ≤ A'.sc ∧ A'.fns.length + 1 ≤ A'.fc) :
    Calls Tryd.prog 13 #[.agg A'.cs, .agg A.cs] w fun e w' => e = .returned (.bool true) ∧ Below w.heap.size w w' := by
  have l1 : A'.tys.length = A.tys.length := by have := congrArg (fun m => m.types.length) he; simpa [MoP.mo] using this
  have l2 : A'.txs.length = A.txs.length := by have := congrArg (fun m => m.texts.length) he; simpa [MoP.mo] using this
  have l3 : A'.fns.length = A.fns.length := by have := congrArg (fun m => m.funcs.length) he; simpa [MoP.mo] using this
  have HSM : Hid (∀ W, Below w.heap.size w W → Calls Tryd.prog 28 #[.agg A'.cs, .agg A.cs] W fun e w' => e = .returned (.bool true) ∧ Below W.heap.size W w') := fun W hb => kSameModule_as (hi.below hb) (hA.below hb) true (by simp [he])
  obtain ⟨b1, p1, b2, p2, b3, p3, e1, e2, e3, hmk⟩ := marks_of hL
  have HMK : Hid (∀ W, Below w.heap.size w W → MarksAt b1 p1 A.tys.length b2 p2 A.txs.length b3 p3 A.fns.length W) := fun W hb => by have := hmk W hb; rw [l1, l2, l3] at this; exact this
  have HFL : Hid (∀ k, k < A.tys.length → ∃ b' o' f fc fc' gf fa', A.ta = some ⟨b', o', none⟩ ∧ f ≤ 100000 ∧ f + 1 ≤ fc ∧ ∀ W, Below w.heap.size w W → FldAt b1 p1 b' o' k f fc fc' gf fa' W) := fun k hk => fld_of hL hi hA he hs e1 hk
  have HFN : Hid (∀ k, k < A.fns.length → ∃ (b' o' : Nat) (nm : ByteArray) (lo st : Int) (gp pl pc gr rl rc gc cl cc : Nat) (pa ra ca : Option Addr) (pc' rc' cc' : Nat), A.fa = some ⟨b', o', none⟩ ∧ b3 < w.heap.size ∧ b' < w.heap.size ∧
      (∀ W, Below w.heap.size w W → FnAt b3 p3 b' o' k nm (.slice (some ⟨gp, 0, none⟩) pl pc) (.slice (some ⟨gr, 0, none⟩) rl rc) (.slice (some ⟨gc, 0, none⟩) cl cc) (.slice pa pl pc') (.slice ra rl rc') (.slice ca cl cc') lo st W) ∧
      (∀ W, Below w.heap.size w W → Calls Tryd.prog 29 #[.slice (some ⟨gp, 0, none⟩) pl pc, .slice pa pl pc'] W fun e w' => e = .returned (.bool true) ∧ Below W.heap.size W w') ∧
      (∀ W, Below w.heap.size w W → Calls Tryd.prog 29 #[.slice (some ⟨gr, 0, none⟩) rl rc, .slice ra rl rc'] W fun e w' => e = .returned (.bool true) ∧ Below W.heap.size W w') ∧
      (∀ W, Below w.heap.size w W → Calls Tryd.prog 30 #[.slice (some ⟨gc, 0, none⟩) cl cc, .slice ca cl cc'] W fun e w' => e = .returned (.bool true) ∧ Below W.heap.size W w')) := fun k hk => fn_of hL hi hA he hs e3 hk
  have hst : KmS w A'.cs A.cs ((w.alloc (.cells A'.cs 29)).alloc (.cells A.cs 29)) := by
    have h2 := Own.new (w.alloc (.cells A'.cs 29)) A.cs 29
    rw [World.size_alloc] at h2
    exact ⟨(Own.new w A'.cs 29).alloc _, h2, (new_below _ _).alloc (by simp) _⟩
  have hc1 := hcap.1
  have hc2 := hcap.2.1
  have hc3 := hcap.2.2
  have hz1 := hs.ty
  have hz2 := hs.tx
  have hz3 := hs.fn
  clear hmk hL hi hA he hs hcap
  unfold MoP.cs at *
  rw [l1, l2, l3] at HSM hst
  rw [l1] at hc1
  rw [l2] at hc2
  rw [l3] at hc3
  rw [l1, l2, l3]
  clear l1 l2 l3
  rw [e1, e2, e3] at HSM hst
  rw [e1, e2, e3]
  clear e1 e2 e3
  obtain ⟨n1, hn1⟩ : ∃ n1, A.tys.length = n1 := ⟨_, rfl⟩
  obtain ⟨n2, hn2⟩ : ∃ n2, A.txs.length = n2 := ⟨_, rfl⟩
  obtain ⟨n3, hn3⟩ : ∃ n3, A.fns.length = n3 := ⟨_, rfl⟩
  rw [hn1, hn2, hn3] at HSM HMK hst
  rw [hn1] at HFL hc1 hz1
  rw [hn2] at hc2 hz2
  rw [hn3] at hc3 hz3 HFN
  rw [hn1, hn2, hn3]
  clear hn1 hn2 hn3
  have i1 : (n1 : Int) + 1 ≤ (A'.tc : Int) := by omega
  have i2 : (n2 : Int) + 1 ≤ (A'.sc : Int) := by omega
  have i3 : (n3 : Int) + 1 ≤ (A'.fc : Int) := by omega
  have w1e : wrap64 ((n1 : Int) + 1) = (n1 : Int) + 1 := by unfold wrap64; omega
  have w2e : wrap64 ((n2 : Int) + 1) = (n2 : Int) + 1 := by unfold wrap64; omega
  have w3e : wrap64 ((n3 : Int) + 1) = (n3 : Int) + 1 := by unfold wrap64; omega
  have HZ : Hid (n1 ≤ 100000 ∧ n2 ≤ 100000 ∧ n3 ≤ 100000) := ⟨hz1, hz2, hz3⟩
  clear hc1 hc2 hc3 hz1 hz2 hz3
  go_enter Tryd.func13, Tryd.ntmps13
  go_upto_region 1 with fail
  generalize (w.alloc (.cells #[.slice (some ⟨b1, p1, none⟩) n1 A'.tc, .slice (some ⟨b2, p2, none⟩) n2 A'.sc, .slice (some ⟨b3, p3, none⟩) n3 A'.fc] 29)).alloc (.cells #[.slice A.ta n1 A.tc, .slice A.sa n2 A.sc, .slice A.fa n3 A.fc] 29) = w1 at *
  obtain ⟨x0, x1, x2, xf⟩ := own3 hst.o1
  obtain ⟨y0, y1, y2, yf⟩ := own3 hst.o2
  have HST : Hid _ := hst
  clear hst
  go_quiet (fail)
  have hst : KmS w #[.slice (some ⟨b1, p1, none⟩) n1 A'.tc, .slice (some ⟨b2, p2, none⟩) n2 A'.sc, .slice (some ⟨b3, p3, none⟩) n3 A'.fc] #[.slice A.ta n1 A.tc, .slice A.sa n2 A.sc, .slice A.fa n3 A.fc] (w1.drewN nq) := ⟨HST.out.o1.drewN nq, HST.out.o2.drewN nq, below_drawn HST.out.be nq⟩
  clear HST x0 x1 x2 xf y0 y1 y2 yf
  generalize w1.drewN nq = W1 at *
  obtain ⟨x0, x1, x2, xf⟩ := own3 hst.o1
  obtain ⟨y0, y1, y2, yf⟩ := own3 hst.o2
  go_wp2_with fail
  refine (HSM.out W1 hst.be).mono ?_
  rintro e W2 ⟨rfl, k2⟩
  have hst3 := hst.below k2
  clear x0 x1 x2 xf y0 y1 y2 yf hst HSM k2
  obtain ⟨x0, x1, x2, xf⟩ := own3 hst3.o1
  obtain ⟨t0, t1, t2⟩ := HMK.out W2 hst3.be
  unfold markS at t0 t1 t2
  have HS3 : Hid _ := hst3
  clear hst3 HMK
  go_upto_region 4 with fail
  clear x0 x1 x2 xf t0 t1 t2
  go_wp2_with fail
  go_loopw [8] (fun i wr => ∃ k : Nat, k ≤ n1 ∧ i = .int .i64 (k : Int) ∧ KmS w #[.slice (some ⟨b1, p1, none⟩) n1 A'.tc, .slice (some ⟨b2, p2, none⟩) n2 A'.sc, .slice (some ⟨b3, p3, none⟩) n3 A'.fc] #[.slice A.ta n1 A.tc, .slice A.sa n2 A.sc, .slice A.fa n3 A.fc] wr) (fun i _ => n1 - (intOf i).toNat)
  case atStart => exact ⟨0, Nat.zero_le _, rfl, HS3.out⟩
  case round =>
    clear HS3
    obtain ⟨k, hk, rfl, hst⟩ := hrel
    obtain ⟨x0, x1, x2, xf⟩ := own3 hst.o1
    obtain ⟨y0, y1, y2, yf⟩ := own3 hst.o2
    clear w1e w2e w3e i1 i2 i3
    by_cases hlt : k < n1
    · obtain ⟨b', o', f, fc, fc', gf, fa', ea, hf1, hf2, hfa⟩ := HFL.out k hlt
      obtain ⟨c0, c1, c2⟩ := hfa wr hst.be
      rw [ea] at y0
      unfold markS at c2
      have hki : (k : Int) < (n1 : Int) := by omega
      have hfi : (f : Int) + 1 ≤ (fc : Int) := by omega
      have hfw : wrap64 ((f : Int) + 1) = (f : Int) + 1 := by unfold wrap64; omega
      have hkw : wrap64 ((k : Int) + 1) = (k : Int) + 1 := by have := HZ.out.1; clear hfw hfi hf1 hf2; unfold wrap64; omega
      have HST : Hid _ := hst
      clear hst hfa ea HFL hf1 hf2 x1 x2 y1 y2 hk
      go_wp2_with fail
      go_roundw
      case rel => exact ⟨k + 1, hlt, by rw [hkw]; rfl, HST.out⟩
      case measure => rw [hkw]; clear hfw hkw; simp [intOf]; omega
    · have hke : n1 = k := by omega
      subst hke
      have HST : Hid _ := hst
      clear HFL hst
      clear x0 x1 x2 xf y0 y1 y2 yf hk hlt
      go_wp2_with fail
      go_loopw [10] (fun i wr => ∃ k : Nat, k ≤ n3 ∧ i = .int .i64 (k : Int) ∧ KmS w #[.slice (some ⟨b1, p1, none⟩) n1 A'.tc, .slice (some ⟨b2, p2, none⟩) n2 A'.sc, .slice (some ⟨b3, p3, none⟩) n3 A'.fc] #[.slice A.ta n1 A.tc, .slice A.sa n2 A.sc, .slice A.fa n3 A.fc] wr) (fun i _ => n3 - (intOf i).toNat)
      case atStart => exact ⟨0, Nat.zero_le _, rfl, HST.out⟩
      case round =>
        clear HST
        obtain ⟨j, hj, rfl, hst⟩ := hrel
        obtain ⟨x0, x1, x2, xf⟩ := own3 hst.o1
        obtain ⟨y0, y1, y2, yf⟩ := own3 hst.o2
        by_cases hlt : j < n3
        · obtain ⟨b', o', nm, lo, st, gp, pl, pc, gr, rl, rc, gc, cl, cc, pa, ra, ca, pc', rc', cc', ea, hbb, hbb', hfa, hp, hr, hc⟩ := HFN.out j hlt
          have hki : (j : Int) < (n3 : Int) := by omega
          have hkw : wrap64 ((j : Int) + 1) = (j : Int) + 1 := by have := HZ.out.2.2; unfold wrap64; omega
          have hsz := hst.be.size
          have ne1 : ¬ b3 = wr.heap.size := by omega
          have ne2 : ¬ b' = wr.heap.size := by omega
          have ne3 : ¬ b3 = wr.heap.size + 1 := by omega
          have ne4 : ¬ b' = wr.heap.size + 1 := by omega
          have hl2 := hst.o2.lt
          have ne5 : ¬ w.heap.size = wr.heap.size := by omega
          have ne6 : ¬ w.heap.size + 1 = wr.heap.size := by omega
          have ne7 : ¬ w.heap.size = wr.heap.size + 1 := by omega
          have HLT : Hid (j < n3) := hlt
          have HKW : Hid _ := hkw
          have F0 := hfa wr hst.be
          have FA : ∀ q1, FnAt b3 p3 b' o' j nm (.slice (some ⟨gp, 0, none⟩) pl pc) (.slice (some ⟨gr, 0, none⟩) rl rc) (.slice (some ⟨gc, 0, none⟩) cl cc) (.slice pa pl pc') (.slice ra rl rc') (.slice ca cl cc') lo st (wr.alloc q1) := fun q1 => hfa _ (hst.be.alloc hst.be.size q1)
          have FB : ∀ q1 q2, FnAt b3 p3 b' o' j nm (.slice (some ⟨gp, 0, none⟩) pl pc) (.slice (some ⟨gr, 0, none⟩) rl rc) (.slice (some ⟨gc, 0, none⟩) cl cc) (.slice pa pl pc') (.slice ra rl rc') (.slice ca cl cc') lo st ((wr.alloc q1).alloc q2) := fun q1 q2 => hfa _ ((hst.be.alloc hst.be.size q1).alloc (hst.be.alloc hst.be.size q1).size q2)
          have ua0 := F0.a0
          have va0 := fun q1 => (FA q1).a0
          have za0 := fun q1 q2 => (FB q1 q2).a0
          have ua1 := F0.a1
          have va1 := fun q1 => (FA q1).a1
          have za1 := fun q1 q2 => (FB q1 q2).a1
          have ua2 := F0.a2
          have va2 := fun q1 => (FA q1).a2
          have za2 := fun q1 q2 => (FB q1 q2).a2
          have ua3 := F0.a3
          have va3 := fun q1 => (FA q1).a3
          have za3 := fun q1 q2 => (FB q1 q2).a3
          have ua4 := F0.a4
          have va4 := fun q1 => (FA q1).a4
          have za4 := fun q1 q2 => (FB q1 q2).a4
          have ua5 := F0.a5
          have va5 := fun q1 => (FA q1).a5
          have za5 := fun q1 q2 => (FB q1 q2).a5
          have ul0 := F0.l0
          have vl0 := fun q1 => (FA q1).l0
          have zl0 := fun q1 q2 => (FB q1 q2).l0
          have ul1 := F0.l1
          have vl1 := fun q1 => (FA q1).l1
          have zl1 := fun q1 q2 => (FB q1 q2).l1
          have ul2 := F0.l2
          have vl2 := fun q1 => (FA q1).l2
          have zl2 := fun q1 q2 => (FB q1 q2).l2
          have ul3 := F0.l3
          have vl3 := fun q1 => (FA q1).l3
          have zl3 := fun q1 q2 => (FB q1 q2).l3
          have ul4 := F0.l4
          have vl4 := fun q1 => (FA q1).l4
          have zl4 := fun q1 q2 => (FB q1 q2).l4
          have ul5 := F0.l5
          have vl5 := fun q1 => (FA q1).l5
          have zl5 := fun q1 q2 => (FB q1 q2).l5
          have x2a := fun q1 => (own3 (hst.o1.alloc q1)).2.2.1
          have x2b := fun q1 q2 => (own3 ((hst.o1.alloc q1).alloc q2)).2.2.1
          rw [ea] at y2
          have y2a : ∀ q1, (wr.alloc q1).cell? ⟨w.heap.size + 1, 2, none⟩ = some (.slice (some ⟨b', o', none⟩) n3 A.fc) := fun q1 => by rw [← ea]; exact (own3 (hst.o2.alloc q1)).2.2.1
          have y2b : ∀ q1 q2, ((wr.alloc q1).alloc q2).cell? ⟨w.heap.size + 1, 2, none⟩ = some (.slice (some ⟨b', o', none⟩) n3 A.fc) := fun q1 q2 => by rw [← ea]; exact (own3 ((hst.o2.alloc q1).alloc q2)).2.2.1
          have HST : Hid _ := hst
          have HFA : Hid _ := hfa
          have HP : Hid _ := hp
          have HRS : Hid _ := hr
          have HC : Hid _ := hc
          clear F0 FA FB hst hfa hp hr hc ea HFN x0 x1 y0 y1 hbb hbb' hsz hl2 hkw hlt hj
          go_upto_region 13 with fail
          go_cut [11, 12] from 87 to 123 (fun s11 s12 wx => ∃ gx gy, s11 = .pointer (some ⟨gx, 0, none⟩) ∧ s12 = .pointer (some ⟨gy, 0, none⟩) ∧ Own wx gx #[.string nm, .slice (some ⟨gp, 0, none⟩) pl pc, .slice (some ⟨gr, 0, none⟩) rl rc, .int .i64 lo, .int .i64 st, .slice (some ⟨gc, 0, none⟩) cl cc] 59 ∧ Own wx gy #[.string nm, .slice pa pl pc', .slice ra rl rc', .int .i64 lo, .int .i64 st, .slice ca cl cc'] 59 ∧ KmS w #[.slice (some ⟨b1, p1, none⟩) n1 A'.tc, .slice (some ⟨b2, p2, none⟩) n2 A'.sc, .slice (some ⟨b3, p3, none⟩) n3 A'.fc] #[.slice A.ta n1 A.tc, .slice A.sa n2 A.sc, .slice A.fa n3 A.fc] wx)
          case first =>
            clear HP HRS HC HFA HKW HLT
            go_region
            · go_wp2_with fail
              go_meet
              exact ⟨_, _, rfl, rfl, ((Own.new wr #[.string nm, .slice (some ⟨gp, 0, none⟩) pl pc, .slice (some ⟨gr, 0, none⟩) rl rc, .int .i64 lo, .int .i64 st, .slice (some ⟨gc, 0, none⟩) cl cc] 59).alloc (.cells #[.string nm, .slice pa pl pc', .slice ra rl rc', .int .i64 lo, .int .i64 st, .slice ca cl cc'] 59)).drew, (by have := Own.new (wr.alloc (.cells #[.string nm, .slice (some ⟨gp, 0, none⟩) pl pc, .slice (some ⟨gr, 0, none⟩) rl rc, .int .i64 lo, .int .i64 st, .slice (some ⟨gc, 0, none⟩) cl cc] 59)) #[.string nm, .slice pa pl pc', .slice ra rl rc', .int .i64 lo, .int .i64 st, .slice ca cl cc'] 59; rw [World.size_alloc] at this; exact Own.drew this), HST.out.below (below_drawn ((new_below wr _).alloc (new_below wr (.cells #[.string nm, .slice (some ⟨gp, 0, none⟩) pl pc, .slice (some ⟨gr, 0, none⟩) rl rc, .int .i64 lo, .int .i64 st, .slice (some ⟨gc, 0, none⟩) cl cc] 59)).size _) 1)⟩
            · go_wp2_with fail
              go_meet
              exact ⟨_, _, rfl, rfl, (by have := Own.new (wr.alloc (.cells #[.string nm, .slice pa pl pc', .slice ra rl rc', .int .i64 lo, .int .i64 st, .slice ca cl cc'] 59)) #[.string nm, .slice (some ⟨gp, 0, none⟩) pl pc, .slice (some ⟨gr, 0, none⟩) rl rc, .int .i64 lo, .int .i64 st, .slice (some ⟨gc, 0, none⟩) cl cc] 59; rw [World.size_alloc] at this; exact Own.drew this), ((Own.new wr #[.string nm, .slice pa pl pc', .slice ra rl rc', .int .i64 lo, .int .i64 st, .slice ca cl cc'] 59).alloc (.cells #[.string nm, .slice (some ⟨gp, 0, none⟩) pl pc, .slice (some ⟨gr, 0, none⟩) rl rc, .int .i64 lo, .int .i64 st, .slice (some ⟨gc, 0, none⟩) cl cc] 59)).drew, HST.out.below (below_drawn ((new_below wr _).alloc (new_below wr (.cells #[.string nm, .slice pa pl pc', .slice ra rl rc', .int .i64 lo, .int .i64 st, .slice ca cl cc'] 59)).size _) 1)⟩
          case rest =>
            obtain ⟨gx, gy, rfl, rfl, oX, oY, hs5⟩ := hcut
            have HS5 : Hid _ := hs5
            clear hs5 HST HFA x2 x2a x2b y2 y2a y2b xf yf ne1 ne2 ne3 ne4 ne5 ne6 ne7 ua0 va0 za0 ua1 va1 za1 ua2 va2 za2 ua3 va3 za3 ua4 va4 za4 ua5 va5 za5 ul0 vl0 zl0 ul1 vl1 zl1 ul2 vl2 zl2 ul3 vl3 zl3 ul4 vl4 zl4 ul5 vl5 zl5
            rename_i w5
            obtain ⟨c1, c2, c5⟩ := own6p oX
            obtain ⟨d1, d2, d5⟩ := own6p oY
            go_wp2_with fail
            refine (HP.out _ HS5.out.be).mono ?_
            rintro e w6 ⟨rfl, k6⟩
            have HS6 : Hid _ := HS5.out.below k6
            replace oX := oX.below k6
            replace oY := oY.below k6
            clear c1 c2 c5 d1 d2 d5 k6 HS5 HP
            obtain ⟨c1, c2, c5⟩ := own6p oX
            obtain ⟨d1, d2, d5⟩ := own6p oY
            go_wp2_with fail
            refine (HRS.out w6 HS6.out.be).mono ?_
            rintro e w7 ⟨rfl, k7⟩
            have HS7 : Hid _ := HS6.out.below k7
            replace oX := oX.below k7
            replace oY := oY.below k7
            clear c1 c2 c5 d1 d2 d5 k7 HS6 HRS
            obtain ⟨c1, c2, c5⟩ := own6p oX
            obtain ⟨d1, d2, d5⟩ := own6p oY
            go_wp2_with fail
            refine (HC.out w7 HS7.out.be).mono ?_
            rintro e w8 ⟨rfl, k8⟩
            have HS8 : Hid _ := HS7.out.below k8
            clear c1 c2 c5 d1 d2 d5 k8 HS7 HC oX oY
            go_wp2_with fail
            go_roundw
            case rel => exact ⟨j + 1, HLT.out, by rw [HKW.out]; rfl, HS8.out⟩
            case measure => rw [HKW.out]; have := HLT.out; simp [intOf]; omega
        · have hje : j = n3 := by omega
          subst hje
          have HBE : Hid (Below w.heap.size w wr) := hst.be
          clear x0 x1 x2 xf y0 y1 y2 yf hst hj hlt HFN
          go_wp2_with fail
          go_ret
          exact ⟨rfl, HBE.out⟩
end Go.Proofs.YtjfdlphkmpkjdaaDoor
