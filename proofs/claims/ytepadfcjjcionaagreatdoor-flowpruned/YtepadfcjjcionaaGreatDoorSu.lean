/-
  CONTRACT of the tour's own call: a choice of two, a break or next.
-/
import Derived.Test.YtepadfcjjcionaaGreatDoorSt
namespace Go.Proofs.YtepadfcjjcionaaGreatDoor
open Go.RowKit
set_option linter.unusedVariables false

theorem fn24 : FnIs 24 := fun b w => by kernel_rfl
theorem step_callV {W : World} {ops : Array Oper} {o : Oper} {a : Act} {K : Act → World → Prop} {Q : Exit → Act → World → Prop} {X : Prop} (hgd : o.guard = none) (F : Nat) (p : Operand) (lb : Value) (xs : Array Operand) (tys : Array TypeId)
    (ho : o.op = .call { callee := .value p, args := xs, argTypes := tys }) (hfn : FnIs F) (hfv : a.eval p = .func (.func F) #[] #[lb]) (v : Value) (hx0 : xs.toList.map a.eval = [v]) {R : Ending → World → Prop} (hc : Calls Tryz.prog F #[v, lb] W R)
    (h : ∀ en w', R en w' → ∃ u, en = .returned u ∧ K (a.put o.dst u) w') : if Region.wanted o (yielded ops a.tmps) = true then Oper.wp Tryz.prog o a W K Q else X := by
  have hx : xs.map a.eval = #[v] := by rw [← Array.toList_inj, Array.toList_map]; exact hx0
  have hw : Region.wanted o (yielded ops a.tmps) = true := by simp [Region.wanted, hgd]
  rw [if_pos hw]
  have hf : ∀ (b : Array Value) (w : World), (callFunc F b).run Tryz.prog w = .ok (.enter F b) w := hfn
  unfold Oper.wp execOp
  simp only [ho]
  simp [resolve, invoke, hx, hfv, Deferred.ofValue]
  rw [hf, Oper.upon_enter]
  refine hc.mono ?_
  intro en w' hr
  obtain ⟨u, rfl, hk⟩ := h en w' hr
  exact hk
theorem stmt_at {N : Nat} (HS : StmtOk N) (w0 w : World) (R M B : Nat) (A : Ways) (y z k : Nat) (t : Tm) (kv : Value) (c : Bool) (h1 : Enough N t) (h2 : inr t.n) (h3 : KidsR w0 kv t.ks) (h4 : Below w0.heap.size w0 w) (h5 : w0.heap.size ≤ R) (h6 : w0.heap.size ≤ M) (h7 : w0.heap.size ≤ B) (h8 : TourAt w R M B A y z k)
    (h9 : y + z + k + 100 * wt t + 1000 * N ≤ 1000000000) :
    Calls Tryz.prog 14 #[.pointer (some ⟨R, 0, none⟩), .agg #[.int .u8 t.op, .int .i64 t.ty, .int .i64 t.n, .string t.tx, kv], .bool c] w fun en w' => en = .returned (.bool (walkF N t c).e) ∧
      TourAt w' R M B (orW A (walkF N t c).w) (y + (walkF N t c).y) (z + (walkF N t c).z) (k + bud t) ∧ Kt R M w w' := by
  obtain ⟨op, ty, n, tx, ks⟩ := t
  exact HS w0 w R M B A y z k op ty n tx ks kv c h1 h2 h3 h4 h5 h6 h7 h8 h9
set_option maxRecDepth 100000 in
set_option maxHeartbeats 4000000 in
theorem st_if {N : Nat} (HS : Hid (StmtOk N)) {w0 w : World} {R M B : Nat} {A : Ways} {y z k : Nat} {ty n : Int} {tx : ByteArray} {ks : List Tm} {kv : Value} {c : Bool} 
    (hE : cnt.cntL ks < N) (hn : inr n) (hk : KidsR w0 kv ks) (hb : Below w0.heap.size w0 w) (hR : w0.heap.size ≤ R) (hM : w0.heap.size ≤ M) (hB : w0.heap.size ≤ B) (h : TourAt w R M B A y z k)
    (hs : y + z + k + 100 * cnt.cntL ks + 1000 * N + 1000 ≤ 1000000000) : StPost N w R M B A y z k 8 ty n tx ks kv c := by
  obtain ⟨ao, cap, rfl, hl1, hl2, _⟩ := id hk
  obtain ⟨m, hm⟩ : ∃ m, ks.length = m := ⟨_, rfl⟩
  have HK : Hid (KidsR w0 (.slice ao m cap) ks) := by rw [← hm]; exact hk
  unfold StPost
  rw [hm] at hl1 ⊢
  have hRl := h.1.lt
  have hMl := h.2.2.lt
  have oB := Own.new w #[.int .u8 8, .int .i64 ty, .int .i64 n, .string tx, .slice ao m cap] 24
  have CT := count_as c (h.alloc (.cells #[.int .u8 8, .int .i64 ty, .int .i64 n, .string tx, .slice ao m cap] 24)) (by omega)
  obtain ⟨y1, hy1⟩ : ∃ q, (if c then 1 else 0 : Nat) = q := ⟨_, rfl⟩
  obtain ⟨z1, hz1⟩ : ∃ q, (if c then 0 else 1 : Nat) = q := ⟨_, rfl⟩
  have hyz : y1 + z1 = 1 := by rw [← hy1, ← hz1]; cases c <;> rfl
  rw [hy1, hz1] at CT
  have e1 : (oneO c).y = y1 := hy1
  have e2 : (oneO c).z = z1 := hz1
  have hK0 : Hid (Kt R M w (w.alloc (.cells #[.int .u8 8, .int .i64 ty, .int .i64 n, .string tx, .slice ao m cap] 24))) := (Kt.refl R M w).alloc _
  rw [e1, e2]
  have HB : Hid (Below w0.heap.size w0 w) := hb
  clear hk h hb hm hy1 hz1 e1 e2
  go_enter Tryz.func14, Tryz.ntmps14
  go_wp2_with fail
  refine CT.mono ?_
  rintro en w1 ⟨⟨v, rfl⟩, hT1, hK1⟩
  have HT1 : Hid (TourAt w1 R M B A (y + y1) (z + z1) k) := hT1
  have o1 : Own w1 w.heap.size #[.int .u8 8, .int .i64 ty, .int .i64 n, .string tx, .slice ao m cap] 24 := oB.kt hK1 (by omega) (by omega)
  have HKW : Hid (Kt R M w w1) := hK0.out.trans hK1
  have hb1 : Below w0.heap.size w0 w1 := kt_below HB.out HKW.out hR hM
  have o1l := o1.lt
  obtain ⟨d0, d1, d2, d3, d4, _⟩ := o1.five
  have hc12 := cnt12 ks
  have hb12 := bud12 ks
  have hw1 := wt_le (kidT ks 1)
  have hw2 := wt_le (kidT ks 2)
  have hl1' := bud_le (kidT ks 1)
  obtain ⟨a, ha⟩ : ∃ a, walkF N (kidT ks 1) c = a := ⟨_, rfl⟩
  obtain ⟨b, hbb⟩ : ∃ b, walkF N (kidT ks 2) c = b := ⟨_, rfl⟩
  have hoa := out_le N (kidT ks 1) c
  rw [ha] at hoa
  have HEQ : Hid (bodyF (walkF N) ⟨8, ty, n, tx, ks⟩ c = ⟨a.e || b.e, orW a.w b.w, a.y + b.y, a.z + b.z⟩ ∧ bud (kidT ks 1) + bud (kidT ks 2) ≤ bud ⟨8, ty, n, tx, ks⟩) := by
    refine ⟨by simp [bodyF, ifF, ha, hbb], ?_⟩
    have := hb12
    simp [bud]; simp [bud] at this; omega
  have K1 := kid_as (op := 8) (ty := ty) (n := n) (tx := tx) HK.out hb1 1 (by omega) (by omega)
  rw [show (if (1 : Int) < 0 then eb else kidT ks (Int.toNat 1)) = kidT ks 1 from rfl] at K1
  have S1 : ∀ (X : World) (v : Value), Below w1.heap.size w1 X → KidsR w0 v (kidT ks 1).ks → inr (kidT ks 1).n → Calls Tryz.prog 14 #[.pointer (some ⟨R, 0, none⟩), .agg #[.int .u8 (kidT ks 1).op, .int .i64 (kidT ks 1).ty, .int .i64 (kidT ks 1).n, .string (kidT ks 1).tx, v], .bool c] X fun en w' => en = .returned (.bool a.e) ∧ TourAt w' R M B (orW A a.w) (y + y1 + a.y) (z + z1 + a.z) (k + bud (kidT ks 1)) ∧ Kt R M w1 w' := by
    intro X v hX hv hi
    have q := stmt_at HS.out w0 X R M B A (y + y1) (z + z1) k (kidT ks 1) v c (enough_kid hE 1) hi hv (hb1.trans ⟨hX.os, hX.tape, hX.output, hX.size, fun g hg => hX.block g (Nat.lt_of_lt_of_le hg hb1.size)⟩) hR hM hB (HT1.out.below hX) (by omega)
    rw [ha] at q
    refine q.mono ?_
    rintro en w' ⟨rfl, q1, q2⟩
    exact ⟨rfl, q1, (Kt.of hX).trans q2⟩
  have S2 : ∀ (W X : World) (v : Value), Kt R M w1 W → TourAt W R M B (orW A a.w) (y + y1 + a.y) (z + z1 + a.z) (k + bud (kidT ks 1)) → Below W.heap.size W X → KidsR w0 v (kidT ks 2).ks → inr (kidT ks 2).n → Calls Tryz.prog 14 #[.pointer (some ⟨R, 0, none⟩), .agg #[.int .u8 (kidT ks 2).op, .int .i64 (kidT ks 2).ty, .int .i64 (kidT ks 2).n, .string (kidT ks 2).tx, v], .bool c] X fun en w' => en = .returned (.bool b.e) ∧ TourAt w' R M B (orW (orW A a.w) b.w) (y + y1 + a.y + b.y) (z + z1 + a.z + b.z) (k + bud (kidT ks 1) + bud (kidT ks 2)) ∧ Kt R M W w' := by
    intro W X v hW hTW hX hv hi
    have hbW := kt_below hb1 hW hR hM
    have q := stmt_at HS.out w0 X R M B (orW A a.w) (y + y1 + a.y) (z + z1 + a.z) (k + bud (kidT ks 1)) (kidT ks 2) v c (enough_kid hE 2) hi hv (hbW.trans ⟨hX.os, hX.tape, hX.output, hX.size, fun g hg => hX.block g (Nat.lt_of_lt_of_le hg hbW.size)⟩) hR hM hB (hTW.below hX) (by omega)
    rw [hbb] at q
    refine q.mono ?_
    rintro en w' ⟨rfl, q1, q2⟩
    exact ⟨rfl, q1, (Kt.of hX).trans q2⟩
  have HS1 : Hid _ := S1
  have HS2 : Hid _ := S2
  have HB1 : Hid (Below w0.heap.size w0 w1) := hb1
  have HO1 : Hid (Own w1 w.heap.size #[.int .u8 8, .int .i64 ty, .int .i64 n, .string tx, .slice ao m cap] 24) := o1
  clear CT hT1 hK1 oB hb1 S1 S2 hc12 hb12 hw1 hw2 hl1' hoa ha hbb
  go_wp2_with fail
  refine K1.mono ?_
  rintro en w2 ⟨v2, rfl, hv2, hi2, hB2⟩
  clear K1
  have CL1 := HS1.out w2 v2 hB2 hv2 hi2
  generalize hu1 : kidT ks 1 = u1 at *
  go_wp2_with fail
  refine CL1.mono ?_
  rintro en w3 ⟨rfl, hT3, hK3⟩
  clear CL1
  have o3 : Own w3 w.heap.size #[.int .u8 8, .int .i64 ty, .int .i64 n, .string tx, .slice ao m cap] 24 := HO1.out.kt hK3 (by omega) (by omega)
  have o3l := o3.lt
  obtain ⟨f0, f1, f2, f3, f4, _⟩ := o3.five
  have hb3 := kt_below HB1.out hK3 hR hM
  have K2 := kid_as (op := 8) (ty := ty) (n := n) (tx := tx) HK.out hb3 2 (by omega) (by omega)
  rw [show (if (2 : Int) < 0 then eb else kidT ks (Int.toNat 2)) = kidT ks 2 from rfl] at K2
  have HT3 : Hid _ := hT3
  clear hT3 hb3
  go_wp2_with fail
  refine K2.mono ?_
  rintro en w4 ⟨v4, rfl, hv4, hi4, hB4⟩
  clear K2
  have CL2 := HS2.out w3 w4 v4 hK3 HT3.out hB4 hv4 hi4
  generalize hu2 : kidT ks 2 = u2 at *
  go_wp2_with fail
  refine CL2.mono ?_
  rintro en w5 ⟨rfl, hT5, hK5⟩
  clear CL2
  have FIN : TourAt w5 R M B (orW A (orW a.w b.w)) (y + y1 + (a.y + b.y)) (z + z1 + (a.z + b.z)) (k + bud ⟨8, ty, n, tx, ks⟩) := by
    rw [← orW_assoc, ← Nat.add_assoc, ← Nat.add_assoc]
    exact hT5.budg (by have := HEQ.out.2; omega)
  have HF : Hid _ := FIN
  have HKF : Hid (Kt R M w w5) := (HKW.out.trans hK3).trans hK5
  clear FIN hT5
  generalize a.e = ae at *
  cases ae
  all_goals (
    go_wp2
    go_ret
    rw [HEQ.out.1]
    exact ⟨rfl, HF.out, HKF.out⟩)

set_option maxRecDepth 100000 in
set_option maxHeartbeats 4000000 in
theorem st_leap {N : Nat} (HS : Hid (StmtOk N)) {w0 w : World} {R M B : Nat} {A : Ways} {y z k : Nat} {op ty n : Int} {tx : ByteArray} {ks : List Tm} {kv : Value} {c : Bool} (hop : op = 12 ∨ op = 13)
    (hE : cnt.cntL ks < N) (hn : inr n) (hk : KidsR w0 kv ks) (hb : Below w0.heap.size w0 w) (hR : w0.heap.size ≤ R) (hM : w0.heap.size ≤ M) (hB : w0.heap.size ≤ B) (h : TourAt w R M B A y z k)
    (hs : y + z + k + 100 * cnt.cntL ks + 1000 * N + 1000 ≤ 1000000000) : StPost N w R M B A y z k op ty n tx ks kv c := by
  obtain ⟨ao, cap, rfl, hl1, hl2, _⟩ := id hk
  obtain ⟨m, hm⟩ : ∃ m, ks.length = m := ⟨_, rfl⟩
  have HK : Hid (KidsR w0 (.slice ao m cap) ks) := by rw [← hm]; exact hk
  unfold StPost
  rw [hm] at hl1 ⊢
  have hRl := h.1.lt
  have hMl := h.2.2.lt
  have oB := Own.new w #[.int .u8 op, .int .i64 ty, .int .i64 n, .string tx, .slice ao m cap] 24
  have CT := count_as c (h.alloc (.cells #[.int .u8 op, .int .i64 ty, .int .i64 n, .string tx, .slice ao m cap] 24)) (by omega)
  obtain ⟨y1, hy1⟩ : ∃ q, (if c then 1 else 0 : Nat) = q := ⟨_, rfl⟩
  obtain ⟨z1, hz1⟩ : ∃ q, (if c then 0 else 1 : Nat) = q := ⟨_, rfl⟩
  have hyz : y1 + z1 = 1 := by rw [← hy1, ← hz1]; cases c <;> rfl
  rw [hy1, hz1] at CT
  have e1 : (oneO c).y = y1 := hy1
  have e2 : (oneO c).z = z1 := hz1
  have hK0 : Hid (Kt R M w (w.alloc (.cells #[.int .u8 op, .int .i64 ty, .int .i64 n, .string tx, .slice ao m cap] 24))) := (Kt.refl R M w).alloc _
  rw [e1, e2]
  have HB : Hid (Below w0.heap.size w0 w) := hb
  clear hk h hb hm hy1 hz1 e1 e2
  go_enter Tryz.func14, Tryz.ntmps14
  go_wp2_with fail
  refine CT.mono ?_
  rintro en w1 ⟨⟨v, rfl⟩, hT1, hK1⟩
  have HT1 : Hid (TourAt w1 R M B A (y + y1) (z + z1) k) := hT1
  have o1 : Own w1 w.heap.size #[.int .u8 op, .int .i64 ty, .int .i64 n, .string tx, .slice ao m cap] 24 := oB.kt hK1 (by omega) (by omega)
  have HKW : Hid (Kt R M w w1) := hK0.out.trans hK1
  have hb1 : Below w0.heap.size w0 w1 := kt_below HB.out HKW.out hR hM
  have o1l := o1.lt
  obtain ⟨d0, d1, d2, d3, d4, _⟩ := o1.five
  have HEQ : Hid (bodyF (walkF N) ⟨op, ty, n, tx, ks⟩ c = ⟨false, if c then oneW n (decide (op = 12), decide (op ≠ 12)) else noW, 0, 0⟩ ∧ 1 ≤ bud ⟨op, ty, n, tx, ks⟩) := by
    rcases hop with rfl | rfl
    · exact ⟨by simp [bodyF], by simp [bud]⟩
    · exact ⟨by simp [bodyF], by simp [bud]⟩
  have LP := fun X (h : TourAt X R M B A (y + y1) (z + z1) k) => leap_as (op := op) (ty := ty) (n := n) (tx := tx) (kv := .slice ao m cap) h hn (by omega)
  have cR := HT1.out.1.cell 3
  have rl := HT1.out.1.lt
  simp only [List.getElem?_toArray, List.getElem?_cons_succ, List.getElem?_cons_zero] at cR
  clear CT hT1 hK1 oB hb1
  cases c
  · rcases hop with rfl | rfl
    all_goals (
      clear LP
      go_wp2_with fail
      go_ret
      rw [HEQ.out.1]
      refine ⟨rfl, ?_, HKW.out⟩
      simp only [Bool.false_eq_true, if_false, orW_no]
      exact HT1.out.budg (by omega))
  · rcases hop with rfl | rfl
    all_goals (
      go_wp2_with fail
      go_region_law (first
        | (refine step_callV (by rfl) 24 (.tmp 55) (.pointer (some ⟨B, 0, none⟩)) #[.tmp 56] #[24] (by rfl) fn24 (by rfl) _ (by rfl) (LP _ HT1.out.drew) ?_; rintro en w2 ⟨⟨v2, rfl⟩, hT2, hK2⟩; refine ⟨_, rfl, ?_⟩)
        | fail)
      all_goals (
        go_wp2_with fail
        go_ret
        rw [HEQ.out.1]
        refine ⟨rfl, ?_, HKW.out.trans ((Kt.refl R M w1).drew.trans hK2)⟩
        simp only [if_true]
        exact hT2.budg (by have := HEQ.out.2; omega)))
end Go.Proofs.YtepadfcjjcionaaGreatDoor
