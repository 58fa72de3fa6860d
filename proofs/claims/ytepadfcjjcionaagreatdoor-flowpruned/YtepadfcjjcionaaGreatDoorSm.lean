/-
  CONTRACTS of the tour's small functions: count, kid, what is told of a break or next.
-/
import Derived.Test.YtepadfcjjcionaaGreatDoorWk
import Derived.Deep.RegionLaw
import Derived.Deep.RegionHeld3
import Derived.BigQuiet
import Derived.Laws.Rows
namespace Go.Proofs.YtepadfcjjcionaaGreatDoor
open Go.RowKit
set_option linter.unusedVariables false

theorem bodyPost_cell1 {P : Program} {fn : Func} {R : Ending → World → Prop} {a : Act} {w : World} {p : Tmp} {ty : TypeId} {g : Nat} {t : TypeId} {cs : Array Value} {fr : Nat × Nat} {d : TypeDesc} (h : fn.results = #[.cell p ty])
    (hp : a.tmps.getD p undef = .pointer (some ⟨g, 0, none⟩)) (hd : a.defers = []) (hg : w.heap[g]? = some (.cells cs t fr))
    (hu : P.underlying ty = some d) (hd2 : (match d with | .struct _ | .array _ _ => true | _ => false) = true) (hi : (P.info? ty).map (·.size) = some cs.size)
    (hR : R (.returned (.agg cs)) w) : bodyPost P fn R .ret a w := by
  refine bodyPost_ret ?_ hd hR
  have hp' : a.tmps[p]?.getD undef = .pointer (some ⟨g, 0, none⟩) := by simpa using hp
  simp [results, h, hp', asAddr, run_loadVar_row w g t ty cs fr d hg hu hd2 hi]
set_option maxRecDepth 100000 in
theorem count_as {w : World} {R M B : Nat} {A : Ways} {y z k : Nat} (c : Bool) (h : TourAt w R M B A y z k) (hy : y + z ≤ 1000000000) :
    Calls Tryz.prog 17 #[.pointer (some ⟨R, 0, none⟩), .bool c] w fun en w' => (∃ v, en = .returned v) ∧ TourAt w' R M B A (y + if c then 1 else 0) (z + if c then 0 else 1) k ∧ Kt R M w w' := by
  obtain ⟨h1, h2, h3⟩ := h
  have c0 : w.cell? ⟨R, 0, none⟩ = some (.int .i64 (y : Int)) := h1.cell 0
  have c1 : w.cell? ⟨R, 1, none⟩ = some (.int .i64 (z : Int)) := h1.cell 1
  have fz := h1.froz
  have hlt := h1.lt
  have hBR : B ≠ R := h2.ne h1 (by decide)
  have hMR : M ≠ R := h3.ne h1
  have e0 : ∀ v : Value, TourAt (w.setCell ⟨R, 0, none⟩ (.int .i64 ((y + 1 : Nat) : Int))) R M B A (y + 1) z k := fun _ =>
    ⟨h1.set 0 _, h2.other hBR _, h3.on (Below.heap_setCell w ⟨R, 0, none⟩ _ M hMR)⟩
  have e1 : ∀ v : Value, TourAt (w.setCell ⟨R, 1, none⟩ (.int .i64 ((z + 1 : Nat) : Int))) R M B A y (z + 1) k := fun _ =>
    ⟨h1.set 1 _, h2.other hBR _, h3.on (Below.heap_setCell w ⟨R, 1, none⟩ _ M hMR)⟩
  have E0 : Hid (TourAt (w.setCell ⟨R, 0, none⟩ (.int .i64 ((y + 1 : Nat) : Int))) R M B A (y + 1) z k) := e0 undef
  have E1 : Hid (TourAt (w.setCell ⟨R, 1, none⟩ (.int .i64 ((z + 1 : Nat) : Int))) R M B A y (z + 1) k) := e1 undef
  have i0 : (y : Int) ≤ 1000000000 := by omega
  have i1 : (z : Int) ≤ 1000000000 := by omega
  have j0 : (0 : Int) ≤ (y : Int) := by omega
  have j1 : (0 : Int) ≤ (z : Int) := by omega
  clear h1 h2 h3 e0 e1 hBR hMR
  cases c
  · go_enter Tryz.func17, Tryz.ntmps17
    go_wp2
    refine bodyPost_end (results_none rfl _ _ _) rfl ?_
    exact ⟨⟨_, rfl⟩, E1.out, (Kt.refl R M w).set (.inr rfl) 1 _⟩
  · go_enter Tryz.func17, Tryz.ntmps17
    go_wp2
    refine bodyPost_end (results_none rfl _ _ _) rfl ?_
    exact ⟨⟨_, rfl⟩, E0.out, (Kt.refl R M w).set (.inr rfl) 0 _⟩

theorem alloc2_heap (w : World) (o1 o2 : Obj) : ((w.alloc o1).alloc o2).heap[w.heap.size + 1]? = some o2 := by
  have h := heap_alloc_new (w.alloc o1) o2
  have e : (w.alloc o1).heap.size = w.heap.size + 1 := Array.size_push ..
  rw [e] at h
  exact h
theorem alloc2_below (w : World) (o1 o2 : Obj) : Below w.heap.size w ((w.alloc o1).alloc o2) := ((Below.refl _ _).alloc (Nat.le_refl _) _).alloc (by rw [show (w.alloc o1).heap.size = w.heap.size + 1 from Array.size_push ..]; omega) _
theorem kidsR_nil (w : World) : KidsR w (.slice none 0 0) [] := ⟨none, 0, rfl, Nat.le_refl _, by omega, .inl rfl⟩
theorem inr_zero : inr 0 := ⟨by decide, by decide⟩
/-- A term's value. -/
def tmV (t : Tm) (v : Value) : Value := .agg #[.int .u8 t.op, .int .i64 t.ty, .int .i64 t.n, .string t.tx, v]
/-- The part of a number, as a value. -/
def KidIs (w0 : World) (ks : List Tm) (t : Tm) (v : Value) : Prop := KidsR w0 v t.ks ∧ inr t.n
set_option maxRecDepth 100000 in
theorem kid_as {w0 w : World} {op ty n : Int} {tx : ByteArray} {ks : List Tm} {kv : Value} (hk : KidsR w0 kv ks) (hb : Below w0.heap.size w0 w) (i : Int) (hi : -10 ≤ i) (hi2 : i ≤ 9223372036854775806) :
    Calls Tryz.prog 19 #[.agg #[.int .u8 op, .int .i64 ty, .int .i64 n, .string tx, kv], .int .i64 i] w fun en w' => ∃ v, en = .returned (.agg #[.int .u8 (if i < 0 then eb else kidT ks i.toNat).op, .int .i64 (if i < 0 then eb else kidT ks i.toNat).ty, .int .i64 (if i < 0 then eb else kidT ks i.toNat).n, .string (if i < 0 then eb else kidT ks i.toNat).tx, v]) ∧
      KidsR w0 v (if i < 0 then eb else kidT ks i.toNat).ks ∧ inr (if i < 0 then eb else kidT ks i.toNat).n ∧ Below w.heap.size w w' := by
  obtain ⟨ao, cap, rfl, hl1, hl2, _⟩ := id hk
  have HK : Hid (KidsR w0 (.slice ao ks.length cap) ks) := hk
  obtain ⟨m, hm⟩ : ∃ m, ks.length = m := ⟨_, rfl⟩
  have HM : Hid (ks.length = m) := hm
  rw [hm] at hl1 ⊢
  clear hk hm
  by_cases hneg : i < 0
  · simp only [hneg, if_true]
    go_enter Tryz.func19, Tryz.ntmps19
    go_wp2
    refine bodyPost_cell1 (g := w.heap.size + 1) rfl rfl rfl (alloc2_heap _ _ _) Tryz.underlying24 rfl rfl ?_
    exact ⟨_, rfl, kidsR_nil w0, inr_zero, alloc2_below _ _ _⟩
  · simp only [hneg, if_false]
    by_cases hlt : i < (m : Int)
    · obtain ⟨j, rfl⟩ : ∃ j : Nat, i = (j : Int) := ⟨i.toNat, by omega⟩
      have hj : j < ks.length := by rw [HM.out]; omega
      obtain ⟨u, hu⟩ : ∃ u, ks[j]? = some u := ⟨ks[j], List.getElem?_eq_getElem hj⟩
      have hkt : kidT ks (Int.toNat (j : Int)) = u := by simp [kidT, hu]
      have HK' : KidsR w0 (.slice ao m cap) ks := by rw [← HM.out]; exact HK.out
      obtain ⟨g, o, aj, cj, rfl, hg, hr, hW⟩ := kids_cells HK' j u hu
      obtain ⟨q0, q1, q2, q3, q4, qk⟩ := hW w0 (fun _ _ => rfl)
      obtain ⟨f0, f1, f2, f3, f4, _⟩ := hW w (fun k hk => hb.block k hk)
      rw [hkt]
      have hgw : g < w.heap.size := Nat.lt_of_lt_of_le hg hb.size
      have HQ : Hid (KidsR w0 (.slice aj u.ks.length cj) u.ks) := qk
      have HR : Hid (inr u.n) := hr
      generalize u.ks.length = um at *
      generalize u.op = uo at *
      generalize u.ty = ut at *
      generalize u.n = un at *
      generalize u.tx = ux at *
      clear hW q0 q1 q2 q3 q4 qk hr HK' hu hkt hj
      go_enter Tryz.func19, Tryz.ntmps19
      go_wp2
      refine bodyPost_cell1 (g := w.heap.size + 1) rfl rfl rfl (alloc2_heap _ _ _) Tryz.underlying24 rfl rfl ?_
      exact ⟨_, rfl, HQ.out, HR.out, alloc2_below _ _ _⟩
    · have hkt : kidT ks i.toNat = eb := by
        unfold kidT
        rw [List.getElem?_eq_none (by rw [HM.out]; omega)]
        rfl
      rw [hkt]
      have hge : (m : Int) ≤ i := by omega
      clear hkt
      go_enter Tryz.func19, Tryz.ntmps19
      go_wp2
      refine bodyPost_cell1 (g := w.heap.size + 1) rfl rfl rfl (alloc2_heap _ _ _) Tryz.underlying24 rfl rfl ?_
      exact ⟨_, rfl, kidsR_nil w0, inr_zero, alloc2_below _ _ _⟩

theorem MapAt.alloc {w : World} {M : Nat} {A : Ways} {k : Nat} (h : MapAt w M A k) (o : Obj) : MapAt (w.alloc o) M A k := h.on (Below.heap_alloc w o M h.lt)
theorem or_one (A : Ways) (n : Int) (x y : Bool) : putW A n ((A n).1 || x, (A n).2 || y) = orW A (oneW n (x, y)) := by
  funext j
  unfold putW orW oneW
  by_cases h : j = n
  · subst h; simp
  · simp [h]
set_option maxRecDepth 100000 in
theorem leap_as {w : World} {R M B : Nat} {A : Ways} {y z k : Nat} {op ty n : Int} {tx : ByteArray} {kv : Value} (h : TourAt w R M B A y z k) (hn : inr n) (hk : k ≤ 1000000000) :
    Calls Tryz.prog 24 #[.agg #[.int .u8 op, .int .i64 ty, .int .i64 n, .string tx, kv], .pointer (some ⟨B, 0, none⟩)] w fun en w' => (∃ v, en = .returned v) ∧ TourAt w' R M B (orW A (oneW n (decide (op = 12), decide (op ≠ 12)))) y z (k + 1) ∧ Kt R M w w' := by
  obtain ⟨h1, h2, h3⟩ := h
  have cB : w.cell? ⟨B, 0, none⟩ = some (.map (some M)) := h2.cell 0
  have hBl := h2.lt
  have hRM : R ≠ M := fun e => h3.ne h1 e.symm
  have hBM : B ≠ M := fun e => h3.ne h2 e.symm
  have hl1 := (h3.alloc (.cells #[.int .u8 op, .int .i64 ty, .int .i64 n, .string tx, kv] 24)).look hn
  by_cases hop : op = 12
  · subst hop
    simp only [decide_true, ne_eq, not_true_eq_false, decide_false]
    obtain ⟨w', hrun, hm', hg⟩ := ((h3.alloc (.cells #[.int .u8 12, .int .i64 ty, .int .i64 n, .string tx, kv] 24)).alloc (.cells #[.bool true, .bool (A n).2] 63)).put (by unfold maxLen; omega) hn true (A n).2
    have HE : Hid (TourAt w' R M B (orW A (oneW n (true, false))) y z (k + 1) ∧ Kt R M w w') := by
      refine ⟨⟨((h1.alloc _).alloc _).grown hg hRM, ((h2.alloc _).alloc _).grown hg hBM, ?_⟩, (((Kt.refl R M w).alloc _).alloc _).grown hg⟩
      have e := or_one A n true false
      simp only [Bool.or_true, Bool.or_false] at e
      rw [← e]
      exact hm'
    generalize (A n).1 = a1 at *
    generalize (A n).2 = a2 at *
    clear h1 h2 h3 hm' hg hRM hBM
    go_enter Tryz.func24, Tryz.ntmps24
    go_wp2
    refine bodyPost_end (results_none rfl _ _ _) rfl ?_
    exact ⟨⟨_, rfl⟩, HE.out.1, HE.out.2⟩
  · have hd : decide (op = 12) = false := by simpa using hop
    have hd2 : decide (op ≠ 12) = true := by simpa using hop
    rw [hd, hd2]
    have hd3 : (op == 12) = false := by simpa using hop
    clear hd hd2
    obtain ⟨w', hrun, hm', hg⟩ := ((h3.alloc (.cells #[.int .u8 op, .int .i64 ty, .int .i64 n, .string tx, kv] 24)).alloc (.cells #[.bool (A n).1, .bool true] 63)).put (by unfold maxLen; omega) hn (A n).1 true
    have HE : Hid (TourAt w' R M B (orW A (oneW n (false, true))) y z (k + 1) ∧ Kt R M w w') := by
      refine ⟨⟨((h1.alloc _).alloc _).grown hg hRM, ((h2.alloc _).alloc _).grown hg hBM, ?_⟩, (((Kt.refl R M w).alloc _).alloc _).grown hg⟩
      have e := or_one A n false true
      simp only [Bool.or_true, Bool.or_false] at e
      rw [← e]
      exact hm'
    generalize (A n).1 = a1 at *
    generalize (A n).2 = a2 at *
    clear h1 h2 h3 hm' hg hRM hBM
    go_enter Tryz.func24, Tryz.ntmps24
    go_wp2
    refine bodyPost_end (results_none rfl _ _ _) rfl ?_
    exact ⟨⟨_, rfl⟩, HE.out.1, HE.out.2⟩
end Go.Proofs.YtepadfcjjcionaaGreatDoor
