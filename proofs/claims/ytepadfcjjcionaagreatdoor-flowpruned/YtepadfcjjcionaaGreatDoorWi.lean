/-
  CONTRACT of what goes through a part of a turn.
-/
import Derived.Test.YtepadfcjjcionaaGreatDoorSm
namespace Go.Proofs.YtepadfcjjcionaaGreatDoor
open Go.RowKit
set_option linter.unusedVariables false

theorem bodyPost_tc {P : Program} {fn : Func} {R : Ending → World → Prop} {a : Act} {w : World} {p u : Tmp} {ty : TypeId} {g : Nat} {t : TypeId} {cs : Array Value} {fr : Nat × Nat} {d : TypeDesc} (h : fn.results = #[.tmp u, .cell p ty])
    (hp : a.tmps.getD p undef = .pointer (some ⟨g, 0, none⟩)) (hd : a.defers = []) (hg : w.heap[g]? = some (.cells cs t fr))
    (hu : P.underlying ty = some d) (hd2 : (match d with | .struct _ | .array _ _ => true | _ => false) = true) (hi : (P.info? ty).map (·.size) = some cs.size)
    (hR : R (.returned (.tuple #[a.tmps.getD u undef, .agg cs])) w) : bodyPost P fn R .ret a w := by
  refine bodyPost_ret ?_ hd hR
  have hp' : a.tmps[p]?.getD undef = .pointer (some ⟨g, 0, none⟩) := by simpa using hp
  simp [results, h, hp', asAddr, run_loadVar_row w g t ty cs fr d hg hu hd2 hi]

/-- How many entries a part may put into the map. -/
def bud (t : Tm) : Nat := if t.op = 1 then 8 * cnt.cntL t.ks else if t.op = 8 ∨ t.op = 9 ∨ t.op = 10 ∨ t.op = 12 ∨ t.op = 13 then 8 * cnt.cntL t.ks + 8 else 0
theorem bud_le (t : Tm) : bud t ≤ 8 * cnt t := by
  rw [cnt_parts]
  unfold bud
  split
  · omega
  · split <;> omega
/-- A part's weight: a case by itself is light. -/
def wt (t : Tm) : Nat := if t.op = 11 then 1 else cnt t
theorem wt_le (t : Tm) : wt t ≤ cnt t := by
  unfold wt
  split
  · rw [cnt_parts]; omega
  · exact Nat.le_refl _
theorem bud_wt (t : Tm) : bud t ≤ 8 * wt t := by
  have h := bud_le t
  unfold wt
  split
  · rename_i e
    simp [bud, e]
  · exact h
/-- What is asked of the tour's own call. -/
def StmtOk (N : Nat) : Prop := ∀ (w0 w : World) (R M B : Nat) (A : Ways) (y z k : Nat) (op ty n : Int) (tx : ByteArray) (ks : List Tm) (kv : Value) (c : Bool), Enough N ⟨op, ty, n, tx, ks⟩ → inr n → KidsR w0 kv ks → Below w0.heap.size w0 w → w0.heap.size ≤ R → w0.heap.size ≤ M → w0.heap.size ≤ B → TourAt w R M B A y z k →
  y + z + k + 100 * wt ⟨op, ty, n, tx, ks⟩ + 1000 * N ≤ 1000000000 →
  Calls Tryz.prog 14 #[.pointer (some ⟨R, 0, none⟩), .agg #[.int .u8 op, .int .i64 ty, .int .i64 n, .string tx, kv], .bool c] w fun en w' => en = .returned (.bool (walkF N ⟨op, ty, n, tx, ks⟩ c).e) ∧
    TourAt w' R M B (orW A (walkF N ⟨op, ty, n, tx, ks⟩ c).w) (y + (walkF N ⟨op, ty, n, tx, ks⟩ c).y) (z + (walkF N ⟨op, ty, n, tx, ks⟩ c).z) (k + bud ⟨op, ty, n, tx, ks⟩) ∧ Kt R M w w'
theorem kt_below {R M : Nat} {w0 w w' : World} (hb : Below w0.heap.size w0 w) (h : Kt R M w w') (hR : w0.heap.size ≤ R) (hM : w0.heap.size ≤ M) : Below w0.heap.size w0 w' :=
  hb.trans ⟨h.os, h.tape, h.output, h.size, fun g hg => h.block g (Nat.lt_of_lt_of_le hg hb.size) (by omega) (by omega)⟩
theorem TourAt.other {w : World} {R M B : Nat} {A : Ways} {y z k g : Nat} (h : TourAt w R M B A y z k) (h1 : g ≠ R) (h2 : g ≠ B) (h3 : g ≠ M) (i : Nat) (u : Value) : TourAt (w.setCell ⟨g, i, none⟩ u) R M B A y z k :=
  ⟨h.1.other (fun e => h1 e.symm) u, h.2.1.other (fun e => h2 e.symm) u, h.2.2.on (Below.heap_setCell w ⟨g, i, none⟩ u M (fun e => h3 e.symm))⟩
theorem TourAt.drew {w : World} {R M B : Nat} {A : Ways} {y z k : Nat} (h : TourAt w R M B A y z k) : TourAt w.drew R M B A y z k := h
theorem TourAt.alloc {w : World} {R M B : Nat} {A : Ways} {y z k : Nat} (h : TourAt w R M B A y z k) (o : Obj) : TourAt (w.alloc o) R M B A y z k := ⟨h.1.alloc o, h.2.1.alloc o, h.2.2.alloc o⟩
theorem TourAt.below {w w' : World} {R M B : Nat} {A : Ways} {y z k : Nat} (h : TourAt w R M B A y z k) (hb : Below w.heap.size w w') : TourAt w' R M B A y z k := ⟨h.1.below hb, h.2.1.below hb, h.2.2.on (hb.block M h.2.2.lt)⟩
theorem put_or_at (A W : Ways) (n : Int) : orW (putW A n (false, false)) W n = W n := by simp [orW, putW]
theorem put_back (A W : Ways) (n : Int) : putW (orW (putW A n (false, false)) W) n (A n) = orW A (butW W n) := by
  funext j
  by_cases h : j = n
  · subst h; simp [putW, orW, butW]
  · simp [putW, orW, butW, h]

set_option maxRecDepth 100000 in
theorem within_as {N : Nat} (HS : Hid (StmtOk N)) {w0 w : World} {R M B : Nat} {A : Ways} {y z k : Nat} {op ty n : Int} {tx : ByteArray} {ks : List Tm} {kv : Value} {num : Int} {c : Bool} {o : Out} (ho : walkF N ⟨op, ty, n, tx, ks⟩ c = o)
    (hE : Enough N ⟨op, ty, n, tx, ks⟩) (hn : inr n) (hnum : inr num) (hk : KidsR w0 kv ks) (hb : Below w0.heap.size w0 w) (hR : w0.heap.size ≤ R) (hM : w0.heap.size ≤ M) (hB : w0.heap.size ≤ B) (h : TourAt w R M B A y z k)
    (hs : y + z + k + 100 * wt ⟨op, ty, n, tx, ks⟩ + 1000 * N + 2 ≤ 1000000000) :
    Calls Tryz.prog 25 #[.pointer (some ⟨R, 0, none⟩), .int .i64 num, .agg #[.int .u8 op, .int .i64 ty, .int .i64 n, .string tx, kv], .bool c] w fun en w' => en = .returned (.tuple #[.bool o.e, .agg #[.bool (o.w num).1, .bool (o.w num).2]]) ∧
      TourAt w' R M B (orW A (butW o.w num)) (y + o.y) (z + o.z) (k + bud ⟨op, ty, n, tx, ks⟩ + 2) ∧ Kt R M w w' := by
  obtain ⟨h1, h2, h3⟩ := h
  have hbd := bud_wt ⟨op, ty, n, tx, ks⟩
  have cR : w.cell? ⟨R, 2, none⟩ = some (.map (some M)) := h1.cell 2
  have hRl := h1.lt
  have hRM : R ≠ M := fun e => h3.ne h1 e.symm
  have hBM : B ≠ M := fun e => h3.ne h2 e.symm
  have hl1 := ((h3.alloc (.cells #[.int .u8 op, .int .i64 ty, .int .i64 n, .string tx, kv] 24)).alloc (.cells #[.bool false, .bool false] 63)).look hnum
  obtain ⟨w3, hrun, hm3, hg3⟩ := (((h3.alloc (.cells #[.int .u8 op, .int .i64 ty, .int .i64 n, .string tx, kv] 24)).alloc (.cells #[.bool false, .bool false] 63)).alloc (.cells #[.bool (A num).1, .bool (A num).2] 63)).put (by unfold maxLen; omega) hnum false false
  have HT : Hid (TourAt w3 R M B (putW A num (false, false)) y z (k + 1)) := ⟨(((h1.alloc _).alloc _).alloc _).grown hg3 hRM, (((h2.alloc _).alloc _).alloc _).grown hg3 hBM, hm3⟩
  have HK3 : Hid (Kt R M w w3) := ((((Kt.refl R M w).alloc _).alloc _).alloc _).grown hg3
  have hMl := h3.lt
  have cR3 := (((h1.alloc (.cells #[.int .u8 op, .int .i64 ty, .int .i64 n, .string tx, kv] 24)).alloc (.cells #[.bool false, .bool false] 63)).alloc (.cells #[.bool (A num).1, .bool (A num).2] 63)).cell 2
  have cR2 := ((h1.alloc (.cells #[.int .u8 op, .int .i64 ty, .int .i64 n, .string tx, kv] 24)).alloc (.cells #[.bool false, .bool false] 63)).cell 2
  simp only [List.getElem?_toArray, List.getElem?_cons_succ, List.getElem?_cons_zero] at cR3 cR2
  have s1 : (w.alloc (.cells #[.int .u8 op, .int .i64 ty, .int .i64 n, .string tx, kv] 24)).heap.size = w.heap.size + 1 := Array.size_push ..
  have s2 : ((w.alloc (.cells #[.int .u8 op, .int .i64 ty, .int .i64 n, .string tx, kv] 24)).alloc (.cells #[.bool false, .bool false] 63)).heap.size = w.heap.size + 2 := by rw [show ((w.alloc (.cells #[.int .u8 op, .int .i64 ty, .int .i64 n, .string tx, kv] 24)).alloc (.cells #[.bool false, .bool false] 63)).heap.size = (w.alloc (.cells #[.int .u8 op, .int .i64 ty, .int .i64 n, .string tx, kv] 24)).heap.size + 1 from Array.size_push .., s1]
  have ob : Own w3 w.heap.size #[.int .u8 op, .int .i64 ty, .int .i64 n, .string tx, kv] 24 := (((Own.new w _ _).alloc _).alloc _).grown hg3 (by omega)
  have o9 : Own w3 (w.heap.size + 1) #[.bool false, .bool false] 63 := by
    have q := Own.new (w.alloc (.cells #[.int .u8 op, .int .i64 ty, .int .i64 n, .string tx, kv] 24)) #[.bool false, .bool false] 63
    rw [s1] at q
    exact (q.alloc _).grown hg3 (by omega)
  have o10 : Own w3 (w.heap.size + 2) #[.bool (A num).1, .bool (A num).2] 63 := by
    have q := Own.new ((w.alloc (.cells #[.int .u8 op, .int .i64 ty, .int .i64 n, .string tx, kv] 24)).alloc (.cells #[.bool false, .bool false] 63)) #[.bool (A num).1, .bool (A num).2] 63
    rw [s2] at q
    exact q.grown hg3 (by omega)
  have sz3 : w.heap.size + 3 ≤ w3.heap.size := o10.lt
  obtain ⟨d0, d1, d2, d3, d4, _⟩ := ob.five
  have CL := HS.out w0 w3 R M B (putW A num (false, false)) y z (k + 1) op ty n tx ks kv c hE hn hk (kt_below hb HK3.out hR hM) hR hM hB HT.out (by omega)
  rw [ho] at CL
  have HO : Hid (Own w3 (w.heap.size + 1) #[.bool false, .bool false] 63 ∧ Own w3 (w.heap.size + 2) #[.bool (A num).1, .bool (A num).2] 63) := ⟨o9, o10⟩
  have HSZ : Hid (w.heap.size + 3 ≤ w3.heap.size) := sz3
  have hb0 : w.heap.size < w3.heap.size := by omega
  clear h1 h2 h3 hm3 hg3 s1 s2 o9 o10 hk hE sz3
  generalize hA : A num = an at *
  obtain ⟨a1, a2⟩ := an
  go_enter Tryz.func25, Tryz.ntmps25
  go_wp2_with fail
  refine CL.mono ?_
  rintro en w4 ⟨rfl, hT4, hK4⟩
  obtain ⟨t1, t2, t3⟩ := hT4
  have cR4 := t1.cell 2
  simp only [List.getElem?_toArray, List.getElem?_cons_succ, List.getElem?_cons_zero] at cR4
  have hl4 := t3.look hnum
  rw [put_or_at] at hl4
  have hR4 := t1.lt
  have p9 : Own w4 (w.heap.size + 1) #[.bool false, .bool false] 63 := HO.out.1.kt hK4 (by omega) (by omega)
  have p10 : Own w4 (w.heap.size + 1 + 1) #[.bool a1, .bool a2] 63 := HO.out.2.kt hK4 (by omega) (by omega)
  have l9 := p9.lt
  have l10 := p10.lt
  clear CL hl1 hrun cR3 cR2 cR d0 d1 d2 d3 d4 ob HO HT hb0
  go_wp2
  have e10 := (p10.alloc (.cells #[.bool (o.w num).1, .bool (o.w num).2] 63)).cell 0
  have e11 := (p10.alloc (.cells #[.bool (o.w num).1, .bool (o.w num).2] 63)).cell 1
  have cR5 := (t1.alloc (.cells #[.bool (o.w num).1, .bool (o.w num).2] 63)).cell 2
  simp only [List.getElem?_toArray, List.getElem?_cons_succ, List.getElem?_cons_zero] at e10 e11 cR5
  have hM4 := t3.lt
  have t3d : MapAt (w4.alloc (.cells #[.bool (o.w num).1, .bool (o.w num).2] 63)).drew M (orW (putW A num (false, false)) o.w) (k + 1 + bud ⟨op, ty, n, tx, ks⟩) := t3.alloc _
  obtain ⟨w5, hrun5, hm5, hg5⟩ := t3d.put (by unfold maxLen; omega) hnum a1 a2
  have r1 : Own w5 R #[.int .i64 ((y + o.y : Nat) : Int), .int .i64 ((z + o.z : Nat) : Int), .map (some M), .func (.func 24) #[] #[.pointer (some ⟨B, 0, none⟩)]] 40 := Own.grown (show Own (w4.alloc (.cells #[.bool (o.w num).1, .bool (o.w num).2] 63)).drew R _ 40 from t1.alloc _) hg5 (by omega)
  have r2 : Own w5 B #[.map (some M)] 37 := Own.grown (show Own (w4.alloc (.cells #[.bool (o.w num).1, .bool (o.w num).2] 63)).drew B _ 37 from t2.alloc _) hg5 (by omega)
  have r9 : Own w5 (w.heap.size + 1) #[.bool false, .bool false] 63 := Own.grown (show Own (w4.alloc (.cells #[.bool (o.w num).1, .bool (o.w num).2] 63)).drew _ _ 63 from p9.alloc _) hg5 (by omega)
  have r12 : Own w5 w4.heap.size #[.bool (o.w num).1, .bool (o.w num).2] 63 := Own.grown (show Own (w4.alloc (.cells #[.bool (o.w num).1, .bool (o.w num).2] 63)).drew _ _ 63 from Own.new w4 _ _) hg5 (by omega)
  have g9 : (w.heap.size + 1) ≠ w4.heap.size := by omega
  have q0 := r12.cell 0
  have q1 := r12.cell 1
  have q2 := r9.cell 0
  have q3 := r9.cell 1
  have q4 := r9.froz
  simp only [List.getElem?_toArray, List.getElem?_cons_succ, List.getElem?_cons_zero] at q0 q1 q2 q3
  have l9' := r9.lt
  have l12' := r12.lt
  have HKE : Hid (Kt R M w w5) := (HK3.out.trans hK4).trans (((Kt.refl R M w4).alloc _).drew.grown hg5)
  have HF : Hid (TourAt w5 R M B (orW A (butW o.w num)) (y + o.y) (z + o.z) (k + bud ⟨op, ty, n, tx, ks⟩ + 2)) := by
    refine ⟨r1, r2, ?_⟩
    rw [← put_back, hA]
    exact hm5.mono (by omega)
  go_region
  clear e10 e11 cR5 hrun5 hm5 hg5 t3d p9 p10 t1 t2 t3 cR4 hl4
  go_wp2
  go_region
  go_wp2
  have hB5 := HF.out.2.1.lt
  have n1 : w.heap.size + 1 ≠ R := by omega
  have n2 : w.heap.size + 1 ≠ B := r9.ne r2 (by decide)
  have n3 : w.heap.size + 1 ≠ M := by omega
  refine bodyPost_tc (g := w.heap.size + 1) rfl rfl rfl (show Own _ _ _ 63 from ((r9.set 0 _).set 1 _)) Tryz.underlying63 rfl rfl ?_
  exact ⟨rfl, ((HF.out.other n1 n2 n3 0 _).other n1 n2 n3 1 _).drew, ((HKE.out.set (.inl (by omega)) 0 _).set (.inl (by omega)) 1 _).drew⟩
end Go.Proofs.YtepadfcjjcionaaGreatDoor
