/-
  CONTRACT of what goes through a loop.
-/
import Derived.Test.YtepadfcjjcionaaGreatDoorBk
import Derived.Deep.RegionLaw
import Derived.Deep.DeepCutAuto
import Derived.Deep.RegionHeld3
namespace Go.Proofs.YtepadfcjjcionaaGreatDoor
open Go.RowKit
set_option linter.unusedVariables false
set_option linter.unusedSimpArgs false

@[go_sem] theorem tmF0 (a b c : Int) (x : ByteArray) (v : Value) (w : World) : (Instr.field 24 (.agg #[.int .u8 a, .int .i64 b, .int .i64 c, .string x, v]) 0).run Tryz.prog w = .ok (.int .u8 a) w := by kernel_rfl
def FnIs (F : Nat) : Prop := ∀ (b : Array Value) (w : World), (callFunc F b).run Tryz.prog w = .ok (.enter F b) w
theorem fn19 : FnIs 19 := fun b w => by kernel_rfl
theorem fn25 : FnIs 25 := fun b w => by kernel_rfl
theorem step_callN {W : World} {ops : Array Oper} {o : Oper} {a : Act} {K : Act → World → Prop} {Q : Exit → Act → World → Prop} {X : Prop} (hgd : o.guard = none) (F : Nat) (xs : Array Operand) (tys : Array TypeId)
    (ho : o.op = .call { callee := .value (.func F), args := xs, argTypes := tys }) (hfn : FnIs F) (vs : List Value) (hx0 : xs.toList.map a.eval = vs) {R : Ending → World → Prop} (hc : Calls Tryz.prog F ⟨vs⟩ W R)
    (h : ∀ en w', R en w' → ∃ u, en = .returned u ∧ K (a.put o.dst u) w') : if Region.wanted o (yielded ops a.tmps) = true then Oper.wp Tryz.prog o a W K Q else X := by
  have hx : xs.map a.eval = ⟨vs⟩ := by rw [← Array.toList_inj, Array.toList_map]; exact hx0
  have hw : Region.wanted o (yielded ops a.tmps) = true := by simp [Region.wanted, hgd]
  rw [if_pos hw]
  have hf : ∀ (b : Array Value) (w : World), (callFunc F b).run Tryz.prog w = .ok (.enter F b) w := hfn
  have hfv : a.eval (.func F) = .func (.func F) #[] #[] := rfl
  unfold Oper.wp execOp
  simp only [ho]
  simp [resolve, invoke, hx, hfv, Deferred.ofValue]
  rw [hf, Oper.upon_enter]
  refine hc.mono ?_
  intro en w' hr
  obtain ⟨u, rfl, hk⟩ := h en w' hr
  exact hk

/-- What holds while a turn's parts are gone through. -/
def Good (w0 w : World) (R M B : Nat) (A : Ways) (y z k : Nat) (b : Nat) (cells : Array Value) (X : World) : Prop := Below w0.heap.size w0 X ∧ TourAt X R M B A y z k ∧ Own X b cells 24 ∧ Kt R M w X
theorem Good.drew {w0 w : World} {R M B : Nat} {A : Ways} {y z k b : Nat} {cells : Array Value} {X : World} (h : Good w0 w R M B A y z k b cells X) : Good w0 w R M B A y z k b cells X.drew := ⟨h.1.drew, h.2.1, h.2.2.1, h.2.2.2.drew⟩
theorem Good.alloc {w0 w : World} {R M B : Nat} {A : Ways} {y z k b : Nat} {cells : Array Value} {X : World} (h : Good w0 w R M B A y z k b cells X) (o : Obj) : Good w0 w R M B A y z k b cells (X.alloc o) := ⟨h.1.alloc h.1.size _, h.2.1.alloc o, h.2.2.1.alloc o, h.2.2.2.alloc o⟩
theorem Good.below {w0 w : World} {R M B : Nat} {A : Ways} {y z k b : Nat} {cells : Array Value} {X Y : World} (h : Good w0 w R M B A y z k b cells X) (hb : Below X.heap.size X Y) : Good w0 w R M B A y z k b cells Y := ⟨h.1.trans (hb.mono h.1.size), h.2.1.below hb, h.2.2.1.below hb, h.2.2.2.trans (Kt.of hb)⟩
theorem Good.set {w0 w : World} {R M B : Nat} {A : Ways} {y z k b : Nat} {cells : Array Value} {X : World} (h : Good w0 w R M B A y z k b cells X) {g : Nat} (h0 : w0.heap.size ≤ w.heap.size) (h1 : R < w.heap.size) (h2 : M < w.heap.size) (h3 : B < w.heap.size) (h4 : b ≠ g) (hg : w.heap.size ≤ g) (i : Nat) (u : Value) : Good w0 w R M B A y z k b cells (X.setCell ⟨g, i, none⟩ u) :=
  ⟨h.1.setCell (by show w0.heap.size ≤ g; omega) u, h.2.1.other (by omega) (by omega) (by omega) i u, h.2.2.1.other h4 u, h.2.2.2.set (.inl hg) i u⟩
def kidOf (ks : List Tm) (i : Int) : Tm := if i < 0 then eb else kidT ks i.toNat
theorem kid_good {w0 w : World} {R M B : Nat} {A : Ways} {y z k b : Nat} {cells : Array Value} {op ty n : Int} {tx : ByteArray} {ks : List Tm} {kv : Value} (hk : KidsR w0 kv ks) (i : Int) (hi : -10 ≤ i) (hi2 : i ≤ 9223372036854775806) (X : World) (h : Good w0 w R M B A y z k b cells X) :
    Calls Tryz.prog 19 #[.agg #[.int .u8 op, .int .i64 ty, .int .i64 n, .string tx, kv], .int .i64 i] X fun en w' => ∃ v, en = .returned (.agg #[.int .u8 (kidOf ks i).op, .int .i64 (kidOf ks i).ty, .int .i64 (kidOf ks i).n, .string (kidOf ks i).tx, v]) ∧ KidsR w0 v (kidOf ks i).ks ∧ inr (kidOf ks i).n ∧ Good w0 w R M B A y z k b cells w' ∧ Below X.heap.size X w' := by
  refine (kid_as hk h.1 i hi hi2).mono ?_
  rintro en w' ⟨v, rfl, h1, h2, h3⟩
  exact ⟨v, rfl, h1, h2, h.below h3, h3⟩
theorem within_good {N : Nat} (HS : Hid (StmtOk N)) {w0 w : World} {R M B : Nat} {A : Ways} {y z k b : Nat} {cells : Array Value} {t : Tm} {kv : Value} {num : Int} {c : Bool} {o : Out} (ho : walkF N t c = o)
    (hE : Enough N t) (hn : inr t.n) (hnum : inr num) (hk : KidsR w0 kv t.ks) (hR : w0.heap.size ≤ R) (hM : w0.heap.size ≤ M) (hB : w0.heap.size ≤ B) (hbR : b ≠ R) (hbM : b ≠ M) (hs : y + z + k + 100 * wt t + 1000 * N + 2 ≤ 1000000000) (X : World) (h : Good w0 w R M B A y z k b cells X) :
    Calls Tryz.prog 25 #[.pointer (some ⟨R, 0, none⟩), .int .i64 num, .agg #[.int .u8 t.op, .int .i64 t.ty, .int .i64 t.n, .string t.tx, kv], .bool c] X fun en w' => en = .returned (.tuple #[.bool o.e, .agg #[.bool (o.w num).1, .bool (o.w num).2]]) ∧ Good w0 w R M B (orW A (butW o.w num)) (y + o.y) (z + o.z) (k + bud t + 2) b cells w' ∧ Kt R M X w' := by
  obtain ⟨op, ty, n, tx, ks⟩ := t
  refine (within_as HS ho hE hn hnum hk h.1 hR hM hB h.2.1 hs).mono ?_
  rintro en w' ⟨rfl, h1, h2⟩
  exact ⟨rfl, ⟨kt_below h.1 h2 hR hM, h1, h.2.2.1.kt h2 hbR hbM, h.2.2.2.trans h2⟩, h2⟩

set_option maxRecDepth 100000 in
set_option maxHeartbeats 4000000 in
theorem loop_as {N : Nat} (HS : Hid (StmtOk N)) (HL : Hid (OutLe N)) {w0 w : World} {R M B : Nat} {A : Ways} {y z k : Nat} {op ty n : Int} {tx : ByteArray} {ks : List Tm} {kv : Value} {c : Bool}
    (hE : ∀ i, Enough N (kidT ks i)) (hc12 : cnt (kidT ks 1) + cnt (kidT ks 2) ≤ cnt.cntL ks + 2) (hn : inr n) (hk : KidsR w0 kv ks) (hb : Below w0.heap.size w0 w) (hR : w0.heap.size ≤ R) (hM : w0.heap.size ≤ M) (hB : w0.heap.size ≤ B) (h : TourAt w R M B A y z k)
    (hs : y + z + k + 100 * cnt.cntL ks + 1000 * N + 900 ≤ 1000000000) :
    Calls Tryz.prog 20 #[.pointer (some ⟨R, 0, none⟩), .agg #[.int .u8 op, .int .i64 ty, .int .i64 n, .string tx, kv], .bool c] w fun en w' => en = .returned (.bool (loopF (walkF N) n ks c).e) ∧
      TourAt w' R M B (orW A (loopF (walkF N) n ks c).w) (y + (loopF (walkF N) n ks c).y) (z + (loopF (walkF N) n ks c).z) (k + bud (kidT ks 1) + bud (kidT ks 2) + 4) ∧ Kt R M w w' := by
  obtain ⟨ao, cap, rfl, hl1, hl2, _⟩ := id hk
  obtain ⟨m, hm⟩ : ∃ m, ks.length = m := ⟨_, rfl⟩
  have HK : Hid (KidsR w0 (.slice ao m cap) ks) := by rw [← hm]; exact hk
  rw [hm] at hl1 ⊢
  have hRl := h.1.lt
  have hMl := h.2.2.lt
  have hB0 := h.2.1.lt
  have h00 := hb.size
  have G0 : Good w0 w R M B A y z k w.heap.size #[.int .u8 op, .int .i64 ty, .int .i64 n, .string tx, .slice ao m cap] (w.alloc (.cells #[.int .u8 op, .int .i64 ty, .int .i64 n, .string tx, .slice ao m cap] 24)) := ⟨hb.alloc hb.size _, h.alloc _, Own.new w _ _, (Kt.refl R M w).alloc _⟩
  obtain ⟨d0, d1, d2, d3, d4, _⟩ := G0.2.2.1.five
  have HG : Hid (Good w0 w R M B A y z k w.heap.size #[.int .u8 op, .int .i64 ty, .int .i64 n, .string tx, .slice ao m cap] (w.alloc (.cells #[.int .u8 op, .int .i64 ty, .int .i64 n, .string tx, .slice ao m cap] 24))) := G0
  have hb1 := bud_le (kidT ks 1)
  have hw1 := wt_le (kidT ks 1)
  obtain ⟨a, ha⟩ : ∃ a, walkF N (kidT ks 1) c = a := ⟨_, rfl⟩
  have hoa := HL.out (kidT ks 1) c (hE 1)
  rw [ha] at hoa
  have KID := fun X => kid_good (op := op) (ty := ty) (n := n) (tx := tx) (w := w) (R := R) (M := M) (B := B) (A := A) (y := y) (z := z) (k := k) (b := w.heap.size) (cells := #[.int .u8 op, .int .i64 ty, .int .i64 n, .string tx, .slice ao m cap]) HK.out 1 (by omega) (by omega) X
  have WIT := fun v (hv : KidsR w0 v (kidT ks 1).ks) (hi : inr (kidT ks 1).n) X => within_good HS (w := w) (A := A) (y := y) (z := z) (k := k) (b := w.heap.size) (cells := #[.int .u8 op, .int .i64 ty, .int .i64 n, .string tx, .slice ao m cap]) ha (hE 1) hi hn hv hR hM hB (by omega) (by omega) (by omega) X
  have ek : kidOf ks 1 = kidT ks 1 := rfl
  simp only [ek] at KID
  generalize hu : kidT ks 1 = u at *
  obtain ⟨uo, ut, un, ux, us⟩ := u
  simp only at KID WIT
  clear hk G0 h
  go_enter Tryz.func20, Tryz.ntmps20
  go_wp2_with fail
  go_cut [7, 8] (fun s7 s8 wx => s7 = .bool a.e ∧ ∃ g, s8 = .pointer (some ⟨g, 0, none⟩) ∧ Good w0 w R M B (orW A (butW a.w n)) (y + a.y) (z + a.z) (k + bud ⟨uo, ut, un, ux, us⟩ + 2) w.heap.size #[.int .u8 op, .int .i64 ty, .int .i64 n, .string tx, .slice ao m cap] wx ∧ Own wx g #[.bool (a.w n).1, .bool (a.w n).2] 63 ∧ w.heap.size < g)
  case first =>
    go_region_law (first
      | (have hz := hGa; clear hz; refine step_callN (by rfl) 25 #[.tmp 10, .tmp 12, .tmp 14, .tmp 15] #[34, 2, 24, 4] (by rfl) fn25 _ (by rfl) (WIT v1 hv1 hi1 _ (by first | exact hGa | exact hGa.alloc _)) ?_; rintro en wb ⟨rfl, hGb, hKb⟩; (first | (have oz := Own.kt (Own.new wa #[.bool false, .bool false] 63) hKb (by omega) (by omega); have z0 := oz.cell 0; have z1 := oz.cell 1; have zf := oz.froz; have zl := oz.lt; simp only [List.getElem?_toArray, List.getElem?_cons_succ, List.getElem?_cons_zero] at z0 z1) | (have oz := Own.kt oy hKb (by omega) (by omega); have z0 := oz.cell 0; have z1 := oz.cell 1; have zf := oz.froz; have zl := oz.lt; simp only [List.getElem?_toArray, List.getElem?_cons_succ, List.getElem?_cons_zero] at z0 z1) | skip); refine ⟨_, rfl, ?_⟩)
      | (refine step_callN (by rfl) 19 #[.tmp 13, .const (.int .i64 1)] #[24, 3] (by rfl) fn19 _ (by rfl) (KID _ (by first | exact HG.out.drew | exact (HG.out.alloc _).drew)) ?_; rintro en wa ⟨v1, rfl, hv1, hi1, hGa, hBa⟩; have hsa := hGa.2.2.2.size; obtain ⟨e0, e1, e2, e3, e4, _⟩ := hGa.2.2.1.five; have el := hGa.2.2.1.lt; (first | (have oy : Own wa (w.heap.size + 1) #[.bool false, .bool false] 63 := (hBa.block _ (by show w.heap.size + 1 < ((w.alloc _).alloc _).heap.size; rw [World.size_alloc, World.size_alloc]; omega)).trans (alloc2_heap w _ _)) | skip); refine ⟨_, rfl, ?_⟩) | fail)
    all_goals (
      have hsb := hGb.2.2.2.size
      go_wp2_with fail
      go_meet
      first
        | exact ⟨rfl, _, rfl, hGb.alloc _, Own.new wb _ _, by have := hGb.2.2.1.lt; omega⟩
        | exact ⟨rfl, _, rfl, (hGb.set h00 hRl hMl hB0 (by omega) (by omega) 0 _).set h00 hRl hMl hB0 (by omega) (by omega) 1 _, (oz.set 0 _).set 1 _, by omega⟩
        | exact ⟨rfl, _, rfl, ((hGb.set h00 hRl hMl hB0 (by omega) (by omega) 0 _).set h00 hRl hMl hB0 (by omega) (by omega) 1 _).drew, (oz.set 0 _).set 1 _, by omega⟩
        | fail)
  case rest =>
    clear KID WIT d0 d1 d2 d3 d4 HG
    obtain ⟨rfl, g, rfl, hG, oG, hg⟩ := hcut
    obtain ⟨b, hbd⟩ : ∃ b, walkF N (kidT ks 2) (a.e || (a.w n).2) = b := ⟨_, rfl⟩
    have hb2 := bud_le (kidT ks 2)
    have hw2 := wt_le (kidT ks 2)
    have KID := fun X => kid_good (op := op) (ty := ty) (n := n) (tx := tx) (w := w) (R := R) (M := M) (B := B) (A := orW A (butW a.w n)) (y := y + a.y) (z := z + a.z) (k := k + bud ⟨uo, ut, un, ux, us⟩ + 2) (b := w.heap.size) (cells := #[.int .u8 op, .int .i64 ty, .int .i64 n, .string tx, .slice ao m cap]) HK.out 2 (by omega) (by omega) X
    have WIT := fun v (hv : KidsR w0 v (kidT ks 2).ks) (hi : inr (kidT ks 2).n) X => within_good HS (w := w) (A := orW A (butW a.w n)) (y := y + a.y) (z := z + a.z) (k := k + bud ⟨uo, ut, un, ux, us⟩ + 2) (b := w.heap.size) (cells := #[.int .u8 op, .int .i64 ty, .int .i64 n, .string tx, .slice ao m cap]) hbd (hE 2) hi hn hv hR hM hB (by omega) (by omega) (by omega) X
    have ek2 : kidOf ks 2 = kidT ks 2 := rfl
    simp only [ek2] at KID
    have HFIN : Hid ((loopF (walkF N) n ks c).e = ((a.w n).1 || (c && decide ((kidT ks 0).op ≠ 42))) ∧ (loopF (walkF N) n ks c).w = orW (butW a.w n) (butW b.w n) ∧ (loopF (walkF N) n ks c).y = a.y + b.y ∧ (loopF (walkF N) n ks c).z = a.z + b.z) := by
      unfold Hid
      simp only [loopF, hu, ha, hbd]
      exact ⟨trivial, trivial, trivial, trivial⟩
    generalize hu2 : kidT ks 2 = u2 at *
    obtain ⟨uo2, ut2, un2, ux2, us2⟩ := u2
    simp only at KID WIT
    obtain ⟨d0, d1, d2, d3, d4, _⟩ := hG.2.2.1.five
    have dl := hG.2.2.1.lt
    have g0 := oG.cell 0
    have g1 := oG.cell 1
    have gl := oG.lt
    simp only [List.getElem?_toArray, List.getElem?_cons_succ, List.getElem?_cons_zero] at g0 g1
    have HG : Hid (Good w0 w R M B (orW A (butW a.w n)) (y + a.y) (z + a.z) (k + bud ⟨uo, ut, un, ux, us⟩ + 2) w.heap.size #[.int .u8 op, .int .i64 ty, .int .i64 n, .string tx, .slice ao m cap] wc) := hG
    have HO : Hid (Own wc g #[.bool (a.w n).1, .bool (a.w n).2] 63) := oG
    clear hG oG
    go_wp2_with fail
    go_cut [7, 8] (fun s7 s8 wx => s7 = .bool a.e ∧ s8 = .pointer (some ⟨g, 0, none⟩) ∧ Good w0 w R M B (orW (orW A (butW a.w n)) (butW b.w n)) (y + a.y + b.y) (z + a.z + b.z) (k + bud ⟨uo, ut, un, ux, us⟩ + 2 + bud ⟨uo2, ut2, un2, ux2, us2⟩ + 2) w.heap.size #[.int .u8 op, .int .i64 ty, .int .i64 n, .string tx, .slice ao m cap] wx ∧ Own wx g #[.bool (a.w n).1, .bool (a.w n).2] 63)
    case first =>
      cases hae : a.e
      · rw [hae] at WIT
        simp only [Bool.false_or] at WIT
        go_region_law (first
          | (have hz := hGa; clear hz; refine step_callN (by rfl) 25 #[.tmp 19, .tmp 21, .tmp 23, .tmp 28] #[34, 2, 24, 4] (by rfl) fn25 _ (by rfl) (WIT v1 hv1 hi1 _ hGa) ?_; rintro en wb ⟨rfl, hGb, hKb⟩; have og := Own.kt oga hKb (by omega) (by omega); refine ⟨_, rfl, ?_⟩)
          | (refine step_callN (by rfl) 19 #[.tmp 22, .const (.int .i64 2)] #[24, 3] (by rfl) fn19 _ (by rfl) (KID _ HG.out.drew) ?_; rintro en wa ⟨v1, rfl, hv1, hi1, hGa, hBa⟩; have hsa := hGa.2.2.2.size; obtain ⟨e0, e1, e2, e3, e4, _⟩ := hGa.2.2.1.five; have el := hGa.2.2.1.lt; have oga := Own.below (show Own wc.drew g _ 63 from HO.out) hBa; have k0 := oga.cell 0; have k1 := oga.cell 1; have kl := oga.lt; simp only [List.getElem?_toArray, List.getElem?_cons_succ, List.getElem?_cons_zero] at k0 k1; refine ⟨_, rfl, ?_⟩) | fail)
        all_goals (
          go_wp2_with fail
          go_meet
          exact ⟨by rw [hae], rfl, hGb, og⟩)
      · rw [hae] at WIT
        simp only [Bool.true_or] at WIT
        refine wp_region_held_drew (S := (fun w' => w'.cell? ⟨w.heap.size, 0, none⟩ = some (.int .u8 op) ∧ w'.cell? ⟨w.heap.size, 1, none⟩ = some (.int .i64 ty) ∧ w'.cell? ⟨w.heap.size, 2, none⟩ = some (.int .i64 n) ∧ w'.cell? ⟨w.heap.size, 3, none⟩ = some (.string tx) ∧ w'.cell? ⟨w.heap.size, 4, none⟩ = some (.slice ao m cap))) (by kernel_rfl) (by exact ⟨d0, d1, d2, d3, d4⟩) (fun hHeld => ?_)
        refine wpAnyH_take (i := 0) (v := ?v0) rfl (by kernel_rfl) (by kernel_rfl) (by kernel_rfl) (fun _ _ _ h => h) (Or.inl ⟨by rfl, ?hy0⟩) (by assumption) ?rest0
        case hy0 => (intro wS hSw; (try dsimp only at hSw); go_simp; try with_reducible rfl)
        try simp only [Act.put, List.getElem_toArray, List.getElem_cons_zero, List.getElem_cons_succ, List.setIfInBounds_toArray, List.set_cons_zero, List.set_cons_succ]
        refine wpAnyH_take (i := 1) (v := ?v1) rfl (by kernel_rfl) (by kernel_rfl) (by kernel_rfl) (fun _ _ _ h => h) (Or.inl ⟨by rfl, ?hy1⟩) (by assumption) ?rest1
        case hy1 => (intro wS hSw; (try dsimp only at hSw); go_simp; try with_reducible rfl)
        try simp only [Act.put, List.getElem_toArray, List.getElem_cons_zero, List.getElem_cons_succ, List.setIfInBounds_toArray, List.set_cons_zero, List.set_cons_succ]
        refine wpAnyH_take (i := 2) (v := ?v2) rfl (by kernel_rfl) (by kernel_rfl) (by kernel_rfl) (fun _ _ _ h => h) (Or.inl ⟨by rfl, ?hy2⟩) (by assumption) ?rest2
        case hy2 => (intro wS hSw; (try dsimp only at hSw); go_simp; try with_reducible rfl)
        try simp only [Act.put, List.getElem_toArray, List.getElem_cons_zero, List.getElem_cons_succ, List.setIfInBounds_toArray, List.set_cons_zero, List.set_cons_succ]
        refine wpAnyH_take (i := 3) (v := ?v3) rfl (by kernel_rfl) (by kernel_rfl) (by kernel_rfl) (fun _ _ _ h => h) (Or.inl ⟨by rfl, ?hy3⟩) (by assumption) ?rest3
        case hy3 => (intro wS hSw; (try dsimp only at hSw); go_simp; try with_reducible rfl)
        try simp only [Act.put, List.getElem_toArray, List.getElem_cons_zero, List.getElem_cons_succ, List.setIfInBounds_toArray, List.set_cons_zero, List.set_cons_succ]
        refine wpAnyH_take (i := 5) (v := ?v5) rfl (by kernel_rfl) (by kernel_rfl) (by kernel_rfl) (fun _ _ _ h => h) (Or.inl ⟨by rfl, ?hy5⟩) (by assumption) ?rest5
        case hy5 => (intro wS hSw; (try dsimp only at hSw); go_simp; try with_reducible rfl)
        try simp only [Act.put, List.getElem_toArray, List.getElem_cons_zero, List.getElem_cons_succ, List.setIfInBounds_toArray, List.set_cons_zero, List.set_cons_succ]
        refine wpAnyH_ready (rs := [4]) (by kernel_rfl) (by simp) ?_
        refine AllReadyH.cons rfl (fun KK hKK => ?_) AllReadyH.nil
        go_simp
        go_at_call 19
        refine (KID _ HG.out.drew).mono ?_
        rintro en wa ⟨v1, rfl, hv1, hi1, hGa, hBa⟩
        have hsa := hGa.2.2.2.size
        obtain ⟨e0, e1, e2, e3, e4, _⟩ := hGa.2.2.1.five
        have el := hGa.2.2.1.lt
        have oga := Own.below (show Own wc.drew g _ 63 from HO.out) hBa
        try go_wp2_with fail
        refine hKK.out _ _ (by exact ⟨e0, e1, e2, e3, e4⟩) (fun hHeldA => ?_)
        clear hKK KK
        try simp only [Act.put, List.getElem_toArray, List.getElem_cons_zero, List.getElem_cons_succ, List.setIfInBounds_toArray, List.set_cons_zero, List.set_cons_succ]
        refine wpAnyH_take (i := 6) (v := ?v6) rfl (by kernel_rfl) (by kernel_rfl) (by kernel_rfl) (fun _ _ _ h => h) (Or.inl ⟨by rfl, ?hy6⟩) (by assumption) ?rest6
        case hy6 => (intro wS hSw; (try dsimp only at hSw); go_simp; try with_reducible rfl)
        try simp only [Act.put, List.getElem_toArray, List.getElem_cons_zero, List.getElem_cons_succ, List.setIfInBounds_toArray, List.set_cons_zero, List.set_cons_succ]
        refine wpAnyH_take (i := 7) (v := undef) rfl (by kernel_rfl) (by kernel_rfl) (by kernel_rfl) (fun _ _ _ h => h) (Or.inr ⟨by rfl, rfl⟩) (by assumption) ?rest7
        try simp only [Act.put, List.getElem_toArray, List.getElem_cons_zero, List.getElem_cons_succ, List.setIfInBounds_toArray, List.set_cons_zero, List.set_cons_succ]
        refine wpAnyH_take (i := 8) (v := undef) rfl (by kernel_rfl) (by kernel_rfl) (by kernel_rfl) (fun _ _ _ h => h) (Or.inr ⟨by rfl, rfl⟩) (by assumption) ?rest8
        try simp only [Act.put, List.getElem_toArray, List.getElem_cons_zero, List.getElem_cons_succ, List.setIfInBounds_toArray, List.set_cons_zero, List.set_cons_succ]
        refine wpAnyH_take (i := 9) (v := ?v9) rfl (by kernel_rfl) (by kernel_rfl) (by kernel_rfl) (fun _ _ _ h => h) (Or.inl ⟨by rfl, ?hy9⟩) (by assumption) ?rest9
        case hy9 => (intro wS hSw; (try dsimp only at hSw); go_simp; try with_reducible rfl)
        try simp only [Act.put, List.getElem_toArray, List.getElem_cons_zero, List.getElem_cons_succ, List.setIfInBounds_toArray, List.set_cons_zero, List.set_cons_succ]
        refine wpAnyH_ready (rs := [10]) (by kernel_rfl) (by simp) ?_
        refine AllReadyH.cons rfl (fun KK hKK => ?_) AllReadyH.nil
        go_simp
        go_at_call 25
        refine (WIT v1 hv1 hi1 _ hGa).mono ?_
        rintro en wb ⟨rfl, hGb, hKb⟩
        have og := Own.kt oga hKb (by omega) (by omega)
        obtain ⟨q0, q1, q2, q3, q4, _⟩ := hGb.2.2.1.five
        try go_wp2_with fail
        refine hKK.out _ _ (by exact ⟨q0, q1, q2, q3, q4⟩) (fun hHeldB => ?_)
        clear hKK KK
        try simp only [Act.put, List.getElem_toArray, List.getElem_cons_zero, List.getElem_cons_succ, List.setIfInBounds_toArray, List.set_cons_zero, List.set_cons_succ]
        refine wpAnyH_done (by kernel_rfl) ?_ _
        go_wp2_with fail
        go_meet
        exact ⟨by rw [hae], rfl, hGb, og⟩
    case rest =>
      clear KID WIT d0 d1 d2 d3 d4 HG HO g0 g1
      obtain ⟨rfl, rfl, hG, oG⟩ := hcut
      obtain ⟨d0, d1, d2, d3, d4, _⟩ := hG.2.2.1.five
      have dl := hG.2.2.1.lt
      have g0 := oG.cell 0
      have gl := oG.lt
      simp only [List.getElem?_toArray, List.getElem?_cons_zero] at g0
      have KID := kid_good (op := op) (ty := ty) (n := n) (tx := tx) HK.out 0 (by omega) (by omega) _ hG
      have ek0 : kidOf ks 0 = kidT ks 0 := rfl
      simp only [ek0] at KID
      have HT : Hid (TourAt wc R M B (orW A (loopF (walkF N) n ks c).w) (y + (loopF (walkF N) n ks c).y) (z + (loopF (walkF N) n ks c).z) (k + bud ⟨uo, ut, un, ux, us⟩ + bud ⟨uo2, ut2, un2, ux2, us2⟩ + 4) ∧ Kt R M w wc) := by
        refine ⟨?_, hG.2.2.2⟩
        obtain ⟨_, f2, f3, f4⟩ := HFIN.out
        rw [f2, f3, f4, ← orW_assoc, ← Nat.add_assoc, ← Nat.add_assoc]
        exact ⟨hG.2.1.1, hG.2.1.2.1, hG.2.1.2.2.mono (by omega)⟩
      have HF1 : Hid ((loopF (walkF N) n ks c).e = ((a.w n).1 || (c && decide ((kidT ks 0).op ≠ 42)))) := HFIN.out.1
      generalize (a.w n).1 = al at *
      generalize kidT ks 0 = u0 at *
      clear hG oG HFIN
      cases al
      · cases c
        · go_wp2_with fail
          go_ret
          exact ⟨by rw [HF1.out]; rfl, by rw [hu2]; exact HT.out.1, HT.out.2⟩
        · go_wp2_with fail
          refine KID.mono ?_
          rintro en w9 ⟨v9, rfl, _, _, hG9, hB9⟩
          clear KID
          by_cases h42 : u0.op = 42
          · have h42' : (u0.op == 42) = true := by simpa using h42
            go_wp2
            go_ret
            exact ⟨by rw [HF1.out]; simp [h42], by rw [hu2]; exact HT.out.1.below hB9, HT.out.2.trans (Kt.of hB9)⟩
          · have h42' : (u0.op == 42) = false := by simpa using h42
            go_wp2
            go_ret
            exact ⟨by rw [HF1.out]; simp [h42], by rw [hu2]; exact HT.out.1.below hB9, HT.out.2.trans (Kt.of hB9)⟩
      · go_wp2_with fail
        go_ret
        exact ⟨by rw [HF1.out]; rfl, by rw [hu2]; exact HT.out.1, HT.out.2⟩
end Go.Proofs.YtepadfcjjcionaaGreatDoor
