/-
  CONTRACTS of what tells a number behind an Op: nothing .. letter, whole, value; what a struct is that is written whole.
-/
import Derived.Test.YtffnlcamobekoaaDoorWd
import Derived.Laws.CopyRow
import Derived.Deep.MidRow
import Derived.Deep.Cut
import Derived.Deep.CutBlock
namespace Go.Proofs.YtffnlcamobekoaaDoor
open Go.RowKit
set_option linter.unusedVariables false

theorem bodyPost_cell1 {P : Program} {fn : Func} {R : Ending → World → Prop} {a : Act} {w : World} {p : Tmp} {ty : TypeId} {g : Nat} {t : TypeId} {cs : Array Value} {fr : Nat × Nat} {d : TypeDesc} (h : fn.results = #[.cell p ty])
    (hp : a.tmps.getD p undef = .pointer (some ⟨g, 0, none⟩)) (hd : a.defers = []) (hg : w.heap[g]? = some (.cells cs t fr))
    (hu : P.underlying ty = some d) (hd2 : (match d with | .struct _ | .array _ _ => true | _ => false) = true) (hi : (P.info? ty).map (·.size) = some cs.size)
    (hR : R (.returned (.agg cs)) w) : bodyPost P fn R .ret a w := by
  refine bodyPost_ret ?_ hd hR
  have hp' : a.tmps[p]?.getD undef = .pointer (some ⟨g, 0, none⟩) := by simpa using hp
  simp [results, h, hp', asAddr, run_loadVar_row w g t ty cs fr d hg hu hd2 hi]
theorem bodyPost_cell2 {P : Program} {fn : Func} {R : Ending → World → Prop} {a : Act} {w : World} {p u : Tmp} {ty : TypeId} {g : Nat} {t : TypeId} {cs : Array Value} {fr : Nat × Nat} {d : TypeDesc} (h : fn.results = #[.cell p ty, .tmp u])
    (hp : a.tmps.getD p undef = .pointer (some ⟨g, 0, none⟩)) (hd : a.defers = []) (hg : w.heap[g]? = some (.cells cs t fr))
    (hu : P.underlying ty = some d) (hd2 : (match d with | .struct _ | .array _ _ => true | _ => false) = true) (hi : (P.info? ty).map (·.size) = some cs.size)
    (hR : R (.returned (.tuple #[.agg cs, a.tmps.getD u undef])) w) : bodyPost P fn R .ret a w := by
  refine bodyPost_ret ?_ hd hR
  have hp' : a.tmps[p]?.getD undef = .pointer (some ⟨g, 0, none⟩) := by simpa using hp
  simp [results, h, hp', asAddr, run_loadVar_row w g t ty cs fr d hg hu hd2 hi]
theorem bodyPost_cell3 {P : Program} {fn : Func} {R : Ending → World → Prop} {a : Act} {w : World} {p u v : Tmp} {ty : TypeId} {g : Nat} {t : TypeId} {cs : Array Value} {fr : Nat × Nat} {d : TypeDesc} (h : fn.results = #[.cell p ty, .tmp u, .tmp v])
    (hp : a.tmps.getD p undef = .pointer (some ⟨g, 0, none⟩)) (hd : a.defers = []) (hg : w.heap[g]? = some (.cells cs t fr))
    (hu : P.underlying ty = some d) (hd2 : (match d with | .struct _ | .array _ _ => true | _ => false) = true) (hi : (P.info? ty).map (·.size) = some cs.size)
    (hR : R (.returned (.tuple #[.agg cs, a.tmps.getD u undef, a.tmps.getD v undef])) w) : bodyPost P fn R .ret a w := by
  refine bodyPost_ret ?_ hd hR
  have hp' : a.tmps[p]?.getD undef = .pointer (some ⟨g, 0, none⟩) := by simpa using hp
  simp [results, h, hp', asAddr, run_loadVar_row w g t ty cs fr d hg hu hd2 hi]
@[go_sem] theorem run_store_nofunc {P : Program} {w : World} {a : Addr} {m : Mode} : (store a .nilFunc m).run P w = stored P w a .nilFunc m := run_store P w a _ m rfl
@[go_sem] theorem run_store_func {P : Program} {w : World} {a : Addr} {m : Mode} (f : Fn) (x y : Array Value) : (store a (.func f x y) m).run P w = stored P w a (.func f x y) m := run_store P w a _ m rfl
/-- A number's struct: how many bytes, the width, what asks. -/
abbrev numV (sz wd : Int) (f : Nat) : Value := .agg #[.int .i64 sz, .int .u8 wd, .func (.func f) #[] #[]]
theorem new_below (w : World) (o : Obj) : Below w.heap.size w (w.alloc o) := (Below.refl _ _).alloc (Nat.le_refl _) o
theorem nothing_any (w : World) : Calls Tryd.prog 58 #[] w fun e w' => e = .returned (numV 0 0 82) ∧ Below w.heap.size w w' := by
  go_enter Tryd.func58, Tryd.ntmps58
  go_wp2
  refine bodyPost_cell1 (g := w.heap.size) (t := 70) rfl rfl rfl (heap_alloc_new w _) Tryd.underlying70 rfl (by kernel_rfl) ?_
  exact ⟨rfl, new_below _ _⟩
theorem letter_any (w : World) : Calls Tryd.prog 64 #[] w fun e w' => e = .returned (numV 1 0 91) ∧ Below w.heap.size w w' := by
  go_enter Tryd.func64, Tryd.ntmps64
  go_wp2
  refine bodyPost_cell1 (g := w.heap.size) (t := 70) rfl rfl rfl (heap_alloc_new w _) Tryd.underlying70 rfl (by kernel_rfl) ?_
  exact ⟨rfl, new_below _ _⟩
theorem short_any (w : World) : Calls Tryd.prog 60 #[] w fun e w' => e = .returned (numV 2 0 87) ∧ Below w.heap.size w w' := by
  go_enter Tryd.func60, Tryd.ntmps60
  go_wp2
  refine bodyPost_cell1 (g := w.heap.size) (t := 70) rfl rfl rfl (heap_alloc_new w _) Tryd.underlying70 rfl (by kernel_rfl) ?_
  exact ⟨rfl, new_below _ _⟩
theorem place_any (w : World) : Calls Tryd.prog 63 #[] w fun e w' => e = .returned (numV 4 0 90) ∧ Below w.heap.size w w' := by
  go_enter Tryd.func63, Tryd.ntmps63
  go_wp2
  refine bodyPost_cell1 (g := w.heap.size) (t := 70) rfl rfl rfl (heap_alloc_new w _) Tryd.underlying70 rfl (by kernel_rfl) ?_
  exact ⟨rfl, new_below _ _⟩
theorem width_any (w : World) : Calls Tryd.prog 61 #[] w fun e w' => e = .returned (numV 1 0 88) ∧ Below w.heap.size w w' := by
  go_enter Tryd.func61, Tryd.ntmps61
  go_wp2
  refine bodyPost_cell1 (g := w.heap.size) (t := 70) rfl rfl rfl (heap_alloc_new w _) Tryd.underlying70 rfl (by kernel_rfl) ?_
  exact ⟨rfl, new_below _ _⟩
theorem kind_any (w : World) : Calls Tryd.prog 62 #[] w fun e w' => e = .returned (numV 1 0 89) ∧ Below w.heap.size w w' := by
  go_enter Tryd.func62, Tryd.ntmps62
  go_wp2
  refine bodyPost_cell1 (g := w.heap.size) (t := 70) rfl rfl rfl (heap_alloc_new w _) Tryd.underlying70 rfl (by kernel_rfl) ?_
  exact ⟨rfl, new_below _ _⟩
/-- A struct that is written whole, or into a part of a block: as one step. -/
theorem wpList_put {W : World} {ops : Array Oper} {rest : List Oper} {o : Oper} {a : Act} {Q : Exit → Act → World → Prop} (hgd : o.guard = none) (ty : TypeId) (x y : Operand) (ho : o.op = .store ty x y) (hdst : o.dst = none) (g off : Nat) (hx : a.eval x = .pointer (some ⟨g, off, none⟩))
    {bs : Array Value} (hy : a.eval y = .agg bs) {cur : Array Value} {t : TypeId} (hown : Own W g cur t) (hi : (Tryd.prog.info? ty).map (·.size) = some bs.size) (h1 : bs.toList.all (·.oneCell') = true) (hsz : off + bs.size ≤ cur.size) {cur' : Array Value} (hc : (cur.toList.take off ++ bs.toList ++ cur.toList.drop (off + bs.size)).toArray = cur')
    (h : ∀ w', Own w' g cur' t → W.grownBy w' (some g) → wpList Tryd.prog ops Q rest a w') : wpList Tryd.prog ops Q (o :: rest) a W := by
  have hr := run_storeCells_at (P := Tryd.prog) g off t bs.toList 0 cur W hown (by simpa using hsz) (fun v hv => List.all_eq_true.1 h1 v hv)
  have hs : (storeVar ty ⟨g, off, none⟩ (.agg bs)).run Tryd.prog W = .ok () (W.setRow g cur') := by
    cases hq : Tryd.prog.info? ty with
    | none => simp [hq] at hi
    | some i =>
      have hsi : bs.size = i.size := by simp [hq] at hi; omega
      simp only [Nat.add_zero, Array.length_toList] at hr
      rw [hc] at hr
      simp [storeVar, sizeOf, typeInfo, hq, Value.cells, hsi, hr]
  have hown' : Own (W.setRow g cur') g cur' t := setRow_heap W g cur cur' t (0, 0) hown
  have hg : W.grownBy (W.setRow g cur') (some g) := ⟨rfl, rfl, rfl, by simp [World.setRow], fun k _ hk => setRow_other W g k cur' (fun e => hk (by rw [e]))⟩
  refine wpList_plain hgd fun K hK => ?_
  unfold Oper.wp execOp
  simp only [ho, hx, hy, Instr.storeAt, Instr.sureAddr, Sem.run_bind, Sem.run_pure, Result.andThen_ok, hs, Oper.upon]
  refine hK _ _ ?_
  rw [hdst]
  exact h _ hown' hg
theorem Own.put {w w' : World} {g g' : Nat} {cs : Array Value} {t : TypeId} (h : Own w g cs t) (hg : w.grownBy w' (some g')) (hne : g ≠ g') : Own w' g cs t := h.grown hg (fun e => hne (Option.some.inj e))
theorem below_put {w w' : World} {B g : Nat} (hg : w.grownBy w' (some g)) (hb : B ≤ w.heap.size) (h : B ≤ g) : Below B w w' := (Below.refl _ _).grown hg hb (fun k e => by cases e; exact h)
@[go_sem] theorem numF2 (a b : Int) (f : Nat) (w : World) : (Instr.field 70 (numV a b f) 2).run Tryd.prog w = .ok (.func (.func f) #[] #[]) w := by kernel_rfl
@[go_sem] theorem numF0 (a b : Int) (f : Nat) (w : World) : (Instr.field 70 (numV a b f) 0).run Tryd.prog w = .ok (.int .i64 a) w := by kernel_rfl
theorem infoN : (Tryd.prog.info? 70).map (·.size) = some 3 := by kernel_rfl
theorem infoL : (Tryd.prog.info? 72).map (·.size) = some 7 := by kernel_rfl
theorem infoX : (Tryd.prog.info? 24).map (·.size) = some 4 := by kernel_rfl
theorem infoA : (Tryd.prog.info? 46).map (·.size) = some 2 := by kernel_rfl
theorem own7 {w : World} {g : Nat} {a0 a1 a2 a3 a4 a5 a6 : Value} {t : TypeId} (h : Own w g #[a0, a1, a2, a3, a4, a5, a6] t) : w.cell? ⟨g, 0, none⟩ = some a0 ∧ w.cell? ⟨g, 1, none⟩ = some a1 ∧ w.cell? ⟨g, 2, none⟩ = some a2 ∧ w.cell? ⟨g, 3, none⟩ = some a3 ∧ w.cell? ⟨g, 4, none⟩ = some a4 ∧ w.cell? ⟨g, 5, none⟩ = some a5 ∧ w.cell? ⟨g, 6, none⟩ = some a6 ∧ ∀ j, w.frozen? ⟨g, j, none⟩ = false := ⟨h.cell 0, h.cell 1, h.cell 2, h.cell 3, h.cell 4, h.cell 5, h.cell 6, h.froz⟩
set_option maxHeartbeats 1000000 in
theorem whole1 (w : World) : Calls Tryd.prog 59 #[.int .u8 1] w fun e w' => e = .returned (numV 1 1 84) ∧ Below w.heap.size w w' := by
  go_enter Tryd.func59, Tryd.ntmps59
  go_wp2_with fail
  refine (bits1 _).mono ?_
  rintro e w1 ⟨rfl, rfl⟩
  go_wp2
  refine bodyPost_cell1 (g := w.heap.size) (t := 70) rfl rfl rfl ((Own.new w _ _).alloc _) Tryd.underlying70 rfl (by kernel_rfl) ?_
  exact ⟨rfl, (new_below _ _).alloc (by simp) _⟩
set_option maxHeartbeats 1000000 in
theorem whole2 (w : World) : Calls Tryd.prog 59 #[.int .u8 2] w fun e w' => e = .returned (numV 4 2 85) ∧ Below w.heap.size w w' := by
  go_enter Tryd.func59, Tryd.ntmps59
  go_wp2_with fail
  refine (bits2 _).mono ?_
  rintro e w1 ⟨rfl, rfl⟩
  go_wp2
  refine bodyPost_cell1 (g := w.heap.size) (t := 70) rfl rfl rfl ((Own.new w _ _).alloc _) Tryd.underlying70 rfl (by kernel_rfl) ?_
  exact ⟨rfl, (new_below _ _).alloc (by simp) _⟩
set_option maxHeartbeats 1000000 in
theorem whole3 (w : World) : Calls Tryd.prog 59 #[.int .u8 3] w fun e w' => e = .returned (numV 8 3 86) ∧ Below w.heap.size w w' := by
  go_enter Tryd.func59, Tryd.ntmps59
  go_wp2_with fail
  refine (bits3 _).mono ?_
  rintro e w1 ⟨rfl, rfl⟩
  go_wp2
  refine bodyPost_cell1 (g := w.heap.size) (t := 70) rfl rfl rfl ((Own.new w _ _).alloc _) Tryd.underlying70 rfl (by kernel_rfl) ?_
  exact ⟨rfl, (new_below _ _).alloc (by simp) _⟩
set_option maxHeartbeats 1000000 in
theorem whole0 (w : World) : Calls Tryd.prog 59 #[.int .u8 0] w fun e w' => e = .returned (numV 0 0 86) ∧ Below w.heap.size w w' := by
  go_enter Tryd.func59, Tryd.ntmps59
  go_wp2_with fail
  refine (bits0 _).mono ?_
  rintro e w1 ⟨rfl, rfl⟩
  go_wp2
  refine bodyPost_cell1 (g := w.heap.size) (t := 70) rfl rfl rfl ((Own.new w _ _).alloc _) Tryd.underlying70 rfl (by kernel_rfl) ?_
  exact ⟨rfl, (new_below _ _).alloc (by simp) _⟩
set_option maxHeartbeats 1000000 in
theorem value1 (w : World) : Calls Tryd.prog 66 #[.int .u8 1] w fun e w' => e = .returned (numV 8 3 84) ∧ Below w.heap.size w w' := by
  have o0 := Own.new w #[.int .i64 0, .int .u8 0, .nilFunc] 70
  go_enter Tryd.func66, Tryd.ntmps66
  go_wp2_with fail
  refine (whole3 _).mono ?_
  rintro e w1 ⟨rfl, b1⟩
  replace o0 := o0.below b1
  have hb : Below w.heap.size w w1 := (new_below w _).trans (b1.mono (by simp))
  have o1 := Own.new w1 #[.int .i64 8, .int .u8 3, .func (.func 86) #[] #[]] 70
  replace o0 := o0.alloc (.cells #[.int .i64 8, .int .u8 3, .func (.func 86) #[] #[]] 70)
  replace hb := hb.alloc hb.size (.cells #[.int .i64 8, .int .u8 3, .func (.func 86) #[] #[]] 70)
  have hl : w.heap.size < w1.heap.size := by have := b1.size; simp at this; omega
  clear b1
  go_wp2_with fail
  generalize w1.alloc (.cells #[.int .i64 8, .int .u8 3, .func (.func 86) #[] #[]] 70) = w2 at *
  refine (whole1 _).mono ?_
  rintro e w3 ⟨rfl, b3⟩
  replace o0 := o0.below b3
  replace o1 := o1.below b3
  replace hb := hb.trans (b3.mono hb.size)
  clear b3
  obtain ⟨c0, c1, c2, hf⟩ := own3 o1
  have o4 : Own (w3.setCell ⟨w1.heap.size, 2, none⟩ (.func (.func 84) #[] #[])) w.heap.size _ 70 := o0.other (i := 2) (by omega) (.func (.func 84) #[] #[])
  have h4 : Below w.heap.size w (w3.setCell ⟨w1.heap.size, 2, none⟩ (.func (.func 84) #[] #[])) := hb.setCell (by show w.heap.size ≤ w1.heap.size; omega) _
  have hl2 : ¬ w1.heap.size = w.heap.size := by omega
  clear o0 o1 hb
  go_wp2_with (refine wpList_put rfl 70 (.tmp 2) (.tmp 9) rfl rfl w.heap.size 0 rfl rfl o4 infoN rfl (by simp) rfl ?_; intro w5 o5 g5)
  refine bodyPost_cell1 (g := w.heap.size) (t := 70) rfl rfl rfl o5 Tryd.underlying70 rfl (by kernel_rfl) ?_
  exact ⟨rfl, h4.grown g5 h4.size (fun k e => by cases e; exact Nat.le_refl _)⟩
set_option maxHeartbeats 1000000 in
theorem value2 (w : World) : Calls Tryd.prog 66 #[.int .u8 2] w fun e w' => e = .returned (numV 8 3 85) ∧ Below w.heap.size w w' := by
  have o0 := Own.new w #[.int .i64 0, .int .u8 0, .nilFunc] 70
  go_enter Tryd.func66, Tryd.ntmps66
  go_wp2_with fail
  refine (whole3 _).mono ?_
  rintro e w1 ⟨rfl, b1⟩
  replace o0 := o0.below b1
  have hb : Below w.heap.size w w1 := (new_below w _).trans (b1.mono (by simp))
  have o1 := Own.new w1 #[.int .i64 8, .int .u8 3, .func (.func 86) #[] #[]] 70
  replace o0 := o0.alloc (.cells #[.int .i64 8, .int .u8 3, .func (.func 86) #[] #[]] 70)
  replace hb := hb.alloc hb.size (.cells #[.int .i64 8, .int .u8 3, .func (.func 86) #[] #[]] 70)
  have hl : w.heap.size < w1.heap.size := by have := b1.size; simp at this; omega
  clear b1
  go_wp2_with fail
  generalize w1.alloc (.cells #[.int .i64 8, .int .u8 3, .func (.func 86) #[] #[]] 70) = w2 at *
  refine (whole2 _).mono ?_
  rintro e w3 ⟨rfl, b3⟩
  replace o0 := o0.below b3
  replace o1 := o1.below b3
  replace hb := hb.trans (b3.mono hb.size)
  clear b3
  obtain ⟨c0, c1, c2, hf⟩ := own3 o1
  have o4 : Own (w3.setCell ⟨w1.heap.size, 2, none⟩ (.func (.func 85) #[] #[])) w.heap.size _ 70 := o0.other (i := 2) (by omega) (.func (.func 85) #[] #[])
  have h4 : Below w.heap.size w (w3.setCell ⟨w1.heap.size, 2, none⟩ (.func (.func 85) #[] #[])) := hb.setCell (by show w.heap.size ≤ w1.heap.size; omega) _
  have hl2 : ¬ w1.heap.size = w.heap.size := by omega
  clear o0 o1 hb
  go_wp2_with (refine wpList_put rfl 70 (.tmp 2) (.tmp 9) rfl rfl w.heap.size 0 rfl rfl o4 infoN rfl (by simp) rfl ?_; intro w5 o5 g5)
  refine bodyPost_cell1 (g := w.heap.size) (t := 70) rfl rfl rfl o5 Tryd.underlying70 rfl (by kernel_rfl) ?_
  exact ⟨rfl, h4.grown g5 h4.size (fun k e => by cases e; exact Nat.le_refl _)⟩
set_option maxHeartbeats 1000000 in
theorem value3 (w : World) : Calls Tryd.prog 66 #[.int .u8 3] w fun e w' => e = .returned (numV 8 3 86) ∧ Below w.heap.size w w' := by
  have o0 := Own.new w #[.int .i64 0, .int .u8 0, .nilFunc] 70
  go_enter Tryd.func66, Tryd.ntmps66
  go_wp2_with fail
  refine (whole3 _).mono ?_
  rintro e w1 ⟨rfl, b1⟩
  replace o0 := o0.below b1
  have hb : Below w.heap.size w w1 := (new_below w _).trans (b1.mono (by simp))
  have o1 := Own.new w1 #[.int .i64 8, .int .u8 3, .func (.func 86) #[] #[]] 70
  replace o0 := o0.alloc (.cells #[.int .i64 8, .int .u8 3, .func (.func 86) #[] #[]] 70)
  replace hb := hb.alloc hb.size (.cells #[.int .i64 8, .int .u8 3, .func (.func 86) #[] #[]] 70)
  have hl : w.heap.size < w1.heap.size := by have := b1.size; simp at this; omega
  clear b1
  go_wp2_with fail
  generalize w1.alloc (.cells #[.int .i64 8, .int .u8 3, .func (.func 86) #[] #[]] 70) = w2 at *
  refine (whole3 _).mono ?_
  rintro e w3 ⟨rfl, b3⟩
  replace o0 := o0.below b3
  replace o1 := o1.below b3
  replace hb := hb.trans (b3.mono hb.size)
  clear b3
  obtain ⟨c0, c1, c2, hf⟩ := own3 o1
  have o4 : Own (w3.setCell ⟨w1.heap.size, 2, none⟩ (.func (.func 86) #[] #[])) w.heap.size _ 70 := o0.other (i := 2) (by omega) (.func (.func 86) #[] #[])
  have h4 : Below w.heap.size w (w3.setCell ⟨w1.heap.size, 2, none⟩ (.func (.func 86) #[] #[])) := hb.setCell (by show w.heap.size ≤ w1.heap.size; omega) _
  have hl2 : ¬ w1.heap.size = w.heap.size := by omega
  clear o0 o1 hb
  go_wp2_with (refine wpList_put rfl 70 (.tmp 2) (.tmp 9) rfl rfl w.heap.size 0 rfl rfl o4 infoN rfl (by simp) rfl ?_; intro w5 o5 g5)
  refine bodyPost_cell1 (g := w.heap.size) (t := 70) rfl rfl rfl o5 Tryd.underlying70 rfl (by kernel_rfl) ?_
  exact ⟨rfl, h4.grown g5 h4.size (fun k e => by cases e; exact Nat.le_refl _)⟩
set_option maxHeartbeats 1000000 in
theorem value0 (w : World) : Calls Tryd.prog 66 #[.int .u8 0] w fun e w' => e = .returned (numV 8 3 86) ∧ Below w.heap.size w w' := by
  have o0 := Own.new w #[.int .i64 0, .int .u8 0, .nilFunc] 70
  go_enter Tryd.func66, Tryd.ntmps66
  go_wp2_with fail
  refine (whole3 _).mono ?_
  rintro e w1 ⟨rfl, b1⟩
  replace o0 := o0.below b1
  have hb : Below w.heap.size w w1 := (new_below w _).trans (b1.mono (by simp))
  have o1 := Own.new w1 #[.int .i64 8, .int .u8 3, .func (.func 86) #[] #[]] 70
  replace o0 := o0.alloc (.cells #[.int .i64 8, .int .u8 3, .func (.func 86) #[] #[]] 70)
  replace hb := hb.alloc hb.size (.cells #[.int .i64 8, .int .u8 3, .func (.func 86) #[] #[]] 70)
  have hl : w.heap.size < w1.heap.size := by have := b1.size; simp at this; omega
  clear b1
  go_wp2_with fail
  generalize w1.alloc (.cells #[.int .i64 8, .int .u8 3, .func (.func 86) #[] #[]] 70) = w2 at *
  refine (whole0 _).mono ?_
  rintro e w3 ⟨rfl, b3⟩
  replace o0 := o0.below b3
  replace o1 := o1.below b3
  replace hb := hb.trans (b3.mono hb.size)
  clear b3
  obtain ⟨c0, c1, c2, hf⟩ := own3 o1
  have o4 : Own (w3.setCell ⟨w1.heap.size, 2, none⟩ (.func (.func 86) #[] #[])) w.heap.size _ 70 := o0.other (i := 2) (by omega) (.func (.func 86) #[] #[])
  have h4 : Below w.heap.size w (w3.setCell ⟨w1.heap.size, 2, none⟩ (.func (.func 86) #[] #[])) := hb.setCell (by show w.heap.size ≤ w1.heap.size; omega) _
  have hl2 : ¬ w1.heap.size = w.heap.size := by omega
  clear o0 o1 hb
  go_wp2_with (refine wpList_put rfl 70 (.tmp 2) (.tmp 9) rfl rfl w.heap.size 0 rfl rfl o4 infoN rfl (by simp) rfl ?_; intro w5 o5 g5)
  refine bodyPost_cell1 (g := w.heap.size) (t := 70) rfl rfl rfl o5 Tryd.underlying70 rfl (by kernel_rfl) ?_
  exact ⟨rfl, h4.grown g5 h4.size (fun k e => by cases e; exact Nat.le_refl _)⟩
end Go.Proofs.YtffnlcamobekoaaDoor
