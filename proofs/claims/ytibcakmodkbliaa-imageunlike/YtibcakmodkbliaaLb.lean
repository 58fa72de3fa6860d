/-
  WHAT ALL TEXTS SHARE: bytes and numbers that lie in memory, structs that are written whole, append of bytes, lent bytes, regions that draw and only make memory.
-/
import Derived.Test.YtibcakmodkbliaaBs
import Derived.Laws.CopyRow
import Derived.Deep.MidRow
import Derived.Deep.Cut
import Derived.Deep.CutBlock
import Derived.Deep.Onto
import Derived.Deep.RegionHeld3
import Derived.Deep.LoopGhost
import Derived.Laws.BytesArg
import Derived.Deep.QuietTactic
import Derived.BigQuiet
namespace Go.Proofs.Ytibcakmodkbliaa
open Go.RowKit
set_option linter.unusedVariables false

theorem bodyPost_cell1 {P : Program} {fn : Func} {R : Ending → World → Prop} {a : Act} {w : World} {p : Tmp} {ty : TypeId} {g : Nat} {t : TypeId} {cs : Array Value} {fr : Nat × Nat} {d : TypeDesc} (h : fn.results = #[.cell p ty])
    (hp : a.tmps.getD p undef = .pointer (some ⟨g, 0, none⟩)) (hd : a.defers = []) (hg : w.heap[g]? = some (.cells cs t fr))
    (hu : P.underlying ty = some d) (hd2 : (match d with | .struct _ | .array _ _ => true | _ => false) = true) (hi : (P.info? ty).map (·.size) = some cs.size)
    (hR : R (.returned (.agg cs)) w) : bodyPost P fn R .ret a w := by
  refine bodyPost_ret ?_ hd hR
  have hp' : a.tmps[p]?.getD undef = .pointer (some ⟨g, 0, none⟩) := by simpa using hp
  simp [results, h, hp', asAddr, run_loadVar_row w g t ty cs fr d hg hu hd2 hi]
theorem bodyPost_cell2 {P : Program} {fn : Func} {R : Ending → World → Prop} {a : Act} {w : World} {p u : Tmp} {ty : TypeId} {g : Nat} {t : TypeId} {cs : Array Value} {fr : Nat × Nat} {d : TypeDesc} (h : fn.results = #[.cell p ty, .tmp u])
    (hp : a.tmps.getD p undef = .pointer (some ⟨g, 0, none⟩)) (hd : a.defers = []) (hg : w.heap[g]? = some (.cells cs t fr))
    (hu : P.underlying ty = some d) (hd2 : (match d with | .struct _ | .array _ _ => true | _ => false) = true) (hi : (P.info? ty).map (·.size) = some cs.size)
    (hR : R (.returned (.tuple #[.agg cs, a.tmps.getD u undef])) w) : bodyPost P fn R .ret a w := by
  refine bodyPost_ret ?_ hd hR
  have hp' : a.tmps[p]?.getD undef = .pointer (some ⟨g, 0, none⟩) := by simpa using hp
  simp [results, h, hp', asAddr, run_loadVar_row w g t ty cs fr d hg hu hd2 hi]
theorem bodyPost_cell3 {P : Program} {fn : Func} {R : Ending → World → Prop} {a : Act} {w : World} {p u v : Tmp} {ty : TypeId} {g : Nat} {t : TypeId} {cs : Array Value} {fr : Nat × Nat} {d : TypeDesc} (h : fn.results = #[.cell p ty, .tmp u, .tmp v])
    (hp : a.tmps.getD p undef = .pointer (some ⟨g, 0, none⟩)) (hd : a.defers = []) (hg : w.heap[g]? = some (.cells cs t fr))
    (hu : P.underlying ty = some d) (hd2 : (match d with | .struct _ | .array _ _ => true | _ => false) = true) (hi : (P.info? ty).map (·.size) = some cs.size)
    (hR : R (.returned (.tuple #[.agg cs, a.tmps.getD u undef, a.tmps.getD v undef])) w) : bodyPost P fn R .ret a w := by
  refine bodyPost_ret ?_ hd hR
  have hp' : a.tmps[p]?.getD undef = .pointer (some ⟨g, 0, none⟩) := by simpa using hp
  simp [results, h, hp', asAddr, run_loadVar_row w g t ty cs fr d hg hu hd2 hi]
@[go_sem] theorem run_store_nofunc {P : Program} {w : World} {a : Addr} {m : Mode} : (store a .nilFunc m).run P w = stored P w a .nilFunc m := run_store P w a _ m rfl
@[go_sem] theorem run_store_func {P : Program} {w : World} {a : Addr} {m : Mode} (f : Fn) (x y : Array Value) : (store a (.func f x y) m).run P w = stored P w a (.func f x y) m := run_store P w a _ m rfl
theorem new_below (w : World) (o : Obj) : Below w.heap.size w (w.alloc o) := (Below.refl _ _).alloc (Nat.le_refl _) o
/-- A struct that is written whole, or into a part of a block: as one step. -/
theorem wpList_put {W : World} {ops : Array Oper} {rest : List Oper} {o : Oper} {a : Act} {Q : Exit → Act → World → Prop} (hgd : o.guard = none) (ty : TypeId) (x y : Operand) (ho : o.op = .store ty x y) (hdst : o.dst = none) (g off : Nat) (hx : a.eval x = .pointer (some ⟨g, off, none⟩))
    {bs : Array Value} (hy : a.eval y = .agg bs) {cur : Array Value} {t : TypeId} (hown : Own W g cur t) (hi : (Try.prog.info? ty).map (·.size) = some bs.size) (h1 : bs.toList.all (·.oneCell') = true) (hsz : off + bs.size ≤ cur.size) {cur' : Array Value} (hc : (cur.toList.take off ++ bs.toList ++ cur.toList.drop (off + bs.size)).toArray = cur')
    (h : ∀ w', Own w' g cur' t → W.grownBy w' (some g) → wpList Try.prog ops Q rest a w') : wpList Try.prog ops Q (o :: rest) a W := by
  have hr := run_storeCells_at (P := Try.prog) g off t bs.toList 0 cur W hown (by simpa using hsz) (fun v hv => List.all_eq_true.1 h1 v hv)
  have hs : (storeVar ty ⟨g, off, none⟩ (.agg bs)).run Try.prog W = .ok () (W.setRow g cur') := by
    cases hq : Try.prog.info? ty with
    | none => simp [hq] at hi
    | some i =>
      have hsi : bs.size = i.size := by simp [hq] at hi; omega
      simp only [Nat.add_zero, Array.length_toList] at hr
      rw [hc] at hr
      simp [storeVar, sizeOf, typeInfo, hq, Value.cells, hsi, hr]
  have hown' : Own (W.setRow g cur') g cur' t := setRow_heap W g cur cur' t (0, 0) hown
  have hg : W.grownBy (W.setRow g cur') (some g) := ⟨rfl, rfl, rfl, by simp [World.setRow], fun k _ hk => setRow_other W g k cur' (fun e => hk (by rw [e]))⟩
  refine wpList_plain hgd fun K hK => ?_
  unfold Oper.wp execOp
  simp only [ho, hx, hy, Instr.storeAt, Instr.sureAddr, Sem.run_bind, Sem.run_pure, Result.andThen_ok, hs, Oper.upon]
  refine hK _ _ ?_
  rw [hdst]
  exact h _ hown' hg
theorem Own.put {w w' : World} {g g' : Nat} {cs : Array Value} {t : TypeId} (h : Own w g cs t) (hg : w.grownBy w' (some g')) (hne : g ≠ g') : Own w' g cs t := h.grown hg (fun e => hne (Option.some.inj e))
theorem below_put {w w' : World} {B g : Nat} (hg : w.grownBy w' (some g)) (hb : B ≤ w.heap.size) (h : B ≤ g) : Below B w w' := (Below.refl _ _).grown hg hb (fun k e => by cases e; exact h)
theorem info8 : (Try.prog.info? 5).map (fun i => (i.zero, i.size, i.bytes)) = some (some (.int .u8 0), 1, 1) := by kernel_rfl
def nums (xs : List Nat) : List Value := xs.map fun (c : Nat) => Value.int .u8 (c : Int)
theorem nums_length (xs : List Nat) : (nums xs).length = xs.length := by simp [nums]
def Lies (w : World) (a : Option Addr) (xs : List Nat) : Prop :=
  (∀ c ∈ xs, c < 256) ∧ xs.length ≤ 9223372036854775807 ∧ (xs = [] ∨ ∃ b off, a = some ⟨b, off, none⟩ ∧ ∀ i, i < xs.length → w.cell? ⟨b, off + i, none⟩ = some (.int .u8 ((xs.getD i 0 : Nat) : Int)))
theorem Lies.fr {w w' : World} {a : Option Addr} {xs : List Nat} {F : Nat → Prop} (h : Lies w a xs) (hf : Fr F w w') (ha : ∀ b off, a = some ⟨b, off, none⟩ → ¬ F b) : Lies w' a xs := by
  refine ⟨h.1, h.2.1, ?_⟩
  rcases h.2.2 with h0 | ⟨b, off, rfl, hc⟩
  · exact .inl h0
  · refine .inr ⟨b, off, rfl, fun i hi => ?_⟩
    have h1 := hc i hi
    have hlt := World.block_lt_of_cell? w _ h1
    have hb := hf.block b hlt (ha b off rfl)
    rw [← h1]
    unfold World.cell?
    simp only [hb]
theorem Lies.below {w w' : World} {a : Option Addr} {xs : List Nat} (h : Lies w a xs) (hb : Below w.heap.size w w') : Lies w' a xs := h.fr (F := fun _ => False) (Fr.of hb) (fun _ _ _ q => q)
theorem Lies.alloc {w : World} {a : Option Addr} {xs : List Nat} (h : Lies w a xs) (o : Obj) : Lies (w.alloc o) a xs := h.below (new_below w o)
theorem below_drawn {B : Nat} {w w1 : World} (h : Below B w w1) (n : Nat) : Below B w (w1.drewN n) := ⟨h.os, h.tape, h.output, h.size, h.block⟩
theorem below_fr {w X Y : World} {F : Nat → Prop} (h : Below w.heap.size w X) (k : Fr F X Y) (hF : ∀ g, F g → w.heap.size ≤ g) : Below w.heap.size w Y :=
  ⟨k.os.trans h.os, k.tape.trans h.tape, k.output.trans h.output, Nat.le_trans h.size k.size, fun g hg => (k.block g (Nat.lt_of_lt_of_le hg h.size) (fun q => by have := hF g q; omega)).trans (h.block g hg)⟩
theorem own_put4 {w : World} {g : Nat} {t : TypeId} {a0 a1 a2 a3 : Value} (h : Own w g #[a0, a1, a2, a3] t) (b0 b1 b2 b3 : Value) : Own ((((w.setCell ⟨g, 0, none⟩ b0).setCell ⟨g, 1, none⟩ b1).setCell ⟨g, 2, none⟩ b2).setCell ⟨g, 3, none⟩ b3).drew g #[b0, b1, b2, b3] t := by
  have := ((((h.set 0 b0).set 1 b1).set 2 b2).set 3 b3).drew
  simpa using this
theorem fr_put4 (w : World) (g : Nat) (b0 b1 b2 b3 : Value) : Fr (fun k => k = g) w ((((w.setCell ⟨g, 0, none⟩ b0).setCell ⟨g, 1, none⟩ b1).setCell ⟨g, 2, none⟩ b2).setCell ⟨g, 3, none⟩ b3).drew :=
  (((((Fr.refl (fun k => k = g) w).set (g := g) (.inr rfl) 0 _).set (g := g) (.inr rfl) 1 _).set (g := g) (.inr rfl) 2 _).set (g := g) (.inr rfl) 3 _).drew
theorem nums_append (xs ys : List Nat) : nums (xs ++ ys) = nums xs ++ nums ys := by simp [nums]
theorem nums_get (xs : List Nat) (i : Nat) (h : i < xs.length) : (nums xs)[i]? = some (.int .u8 ((xs.getD i 0 : Nat) : Int)) := by simp [nums, List.getD, h]
theorem nums_one (xs : List Nat) : ∀ u ∈ nums xs, u.oneCell' = true := by
  intro u hu
  simp only [nums, List.mem_map] at hu
  obtain ⟨c, _, rfl⟩ := hu
  rfl
/-- append of bytes that lie anywhere (or of none). -/
theorem run_appL (W : World) (ty : TypeId) (v : Value) (xs : List Nat) (hown : Rw W 5 1 v xs.length (nums xs)) (ao : Option Addr) (m c : Nat) (ys : List Nat) (hl : Lies W ao ys) (hm : m = ys.length) (hno : ao = none → c = 0) (hn : xs.length + m ≤ 100000000000) :
    ∃ ao' n' c' w', (Builtin.append_ #[29, 29] ty #[v, .slice ao m c]).run Try.prog W = .ok (.slice ao' n' c') w' ∧ n' = (xs ++ ys).length ∧ Rw w' 5 1 (.slice ao' n' c') (xs ++ ys).length (nums (xs ++ ys)) ∧ W.grownBy w' v.ownBlock ∧ ((Value.slice ao' n' c').ownBlock = v.ownBlock ∨ (Value.slice ao' n' c').ownBlock = some W.heap.size) := by
  cases ao with
  | none =>
    have hm0 : m = 0 := by
      rcases hl.2.2 with h0 | ⟨b, off, h0, _⟩
      · rw [hm, h0]; rfl
      · exact (Option.some_ne_none _ h0.symm).elim
    have hc0 := hno rfl
    subst hm0; subst hc0
    have hy : ys = [] := List.eq_nil_of_length_eq_zero hm.symm
    subst hy
    obtain ⟨ao, cp, rfl, h1, h2⟩ := hown.shape
    have hr : (Builtin.append_ #[29, 29] ty #[.slice ao xs.length cp, .slice none 0 0]).run Try.prog W = .ok (.slice ao xs.length cp) W := by
      obtain ⟨i8, hi, hz0, hz1, hz2⟩ := info_parts info8
      exact run_append_owned_none (P := Try.prog) (w := W) 0 29 ty 5 i8 1 Try.underlying29 hi _ _ _ hown
    refine ⟨ao, xs.length, cp, W, hr, by simp, ?_, World.grownBy.refl _ _, .inl rfl⟩
    simpa using hown
  | some ad =>
    have hcell : ∀ j u, (nums ys)[j]? = some u → W.cell? (ad.add j) = some u := by
      intro j u hu
      rcases hl.2.2 with h0 | ⟨b, off, h0, hc⟩
      · rw [h0] at hu; simp [nums] at hu
      · cases h0
        have hj : j < ys.length := by
          by_cases hj : j < ys.length
          · exact hj
          · rw [List.getElem?_eq_none (by rw [nums_length]; omega)] at hu; cases hu
        rw [nums_get ys j hj] at hu
        rw [← hu, ← hc j hj]
        congr 1
        unfold Addr.add; split <;> simp_all
    obtain ⟨v', w', hr, g1, g2, g3⟩ := run_appA okB W ty v xs.length (nums xs) hown ad m c (nums ys) (by rw [nums_length]; omega) hcell (nums_one ys) hn
    rw [← nums_append] at g1
    obtain ⟨ao', c', rfl, -⟩ := g1.shape
    have e : (xs ++ ys).length = xs.length + m := by rw [List.length_append, hm]
    exact ⟨ao', _, c', w', hr, e.symm, by rw [e]; exact g1, g2, g3⟩
theorem wpList_appL {W : World} {ops : Array Oper} {rest : List Oper} {o : Oper} {a : Act} {Q : Exit → Act → World → Prop} (hgd : o.guard = none) (s x : Operand)
    (ho : o.op = .call { callee := .builtin .append, args := #[s, x], argTypes := #[29, 29] }) (v : Value) (xs : List Nat) (hs : a.eval s = v) (hown : Rw W 5 1 v xs.length (nums xs)) (ao : Option Addr) (m c : Nat) (ys : List Nat) (hx : a.eval x = .slice ao m c) (hl : Lies W ao ys) (hm : m = ys.length) (hno : ao = none → c = 0) (hn : xs.length + m ≤ 100000000000)
    (h : ∀ ao' n' c' w', n' = (xs ++ ys).length → Rw w' 5 1 (.slice ao' n' c') (xs ++ ys).length (nums (xs ++ ys)) → W.grownBy w' v.ownBlock → ((Value.slice ao' n' c').ownBlock = v.ownBlock ∨ (Value.slice ao' n' c').ownBlock = some W.heap.size) → wpList Try.prog ops Q rest (a.put o.dst (.slice ao' n' c')) w') :
    wpList Try.prog ops Q (o :: rest) a W := by
  obtain ⟨ao', n', c', w', hrun, g0, g1, g2, g4⟩ := run_appL W o.type v xs hown ao m c ys hl hm hno hn
  refine wpList_plain hgd fun K hK => ?_
  unfold Oper.wp execOp
  simp only [ho, resolve, invoke, builtin, Sem.run_bind, Sem.run_pure, Result.andThen_ok, List.map_toArray, List.map_cons, List.map_nil, hs, hx, hrun]
  exact hK _ _ (h ao' n' c' w' g0 g1 g2 g4)
theorem lies_row {w : World} {B g n cap : Nat} {xs : List Nat} (hn : n = xs.length) (h : w.ownsRow B 5 1 (.slice (some ⟨g, 0, none⟩) n cap) n (nums xs)) (hb : ∀ c ∈ xs, c < 256) (hm : xs.length ≤ 9223372036854775807) : Lies w (some ⟨g, 0, none⟩) xs := by
  subst hn
  refine ⟨hb, hm, .inr ⟨g, 0, rfl, fun i hi => ?_⟩⟩
  rw [Nat.zero_add, h.cellAt i (by omega), nums_get xs i hi]
def strN (xs : List Nat) : ByteArray := strOfNums (xs.map fun (c : Nat) => (c : Int))
theorem conv_any {w : World} {a : Option Addr} {L cap : Nat} {xs : List Nat} (hl : Lies w a xs) (hL : L = xs.length) :
    (convert 29 9 (.slice a L cap)).run Try.prog w = .ok (.string (strN xs)) w := by
  obtain ⟨_, _, h3⟩ := hl
  subst hL
  rcases h3 with rfl | ⟨b, off, rfl, hc⟩
  · cases a with
    | none => exact run_convert_bytes_nil w 29 5 Try.underlying29 Try.underlying5 0 cap 9 Try.underlying9
    | some x =>
      show (convert 29 9 (.slice (some x) 0 cap)).run Try.prog w = _
      rw [run_convert_bytes_string w 29 9 5 (some x) 0 cap Try.underlying29 Try.underlying5 Try.underlying9]
      exact run_bytesToString w x 0 cap [] (by simp [loadCells, loadCellsFrom])
  · exact run_convert_bytes_arg w 29 5 Try.underlying29 Try.underlying5 b off _ cap (xs.map fun (c : Nat) => (c : Int)) (by simp) (fun i hi => by rw [hc i hi]; simp [List.getD, hi]) 9 Try.underlying9
def After (w2 : World) : Type := { w' : World // Below w2.heap.size w2 w' }
theorem after_of {w2 w' : World} (h : Below w2.heap.size w2 w') : ∃ t : After w2, w' = t.1 := ⟨⟨w', h⟩, rfl⟩
theorem quiet_new {w2 : World} {f : FuncId} {args : Array Value} {v : Value} (t : After w2) (h : Calls Try.prog f args t.1 fun e w' => e = .returned v ∧ Below t.1.heap.size t.1 w') :
    Calls Try.prog f args t.1 fun e w'' => e = .returned v ∧ ∃ t' : After w2, w'' = t'.1 :=
  h.mono fun _ w' ⟨he, hb⟩ => ⟨he, ⟨w', t.2.trans (hb.mono t.2.size)⟩, rfl⟩
theorem wp_region_after {id : Nat} {Q : Exit → Act → World → Prop} {a : Act} {w : World} {l : List Oper} (hm : Try.prog.follows .mixedOrders = true) (hB : Region.lexB .any l.toArray = true)
    (h : wpQuiet Try.prog l.toArray (fun w' => ∃ t : After w, w' = t.1) (fun a' => ∀ w', (∃ t : After w, w' = t.1) → Q .normal a' w') l a) : (Code.region id l.toArray true).wp Try.prog Q a w :=
  wp_region_quiet (C := fun w' => ∃ t : After w, w' = t.1) hm hB (after_of ⟨rfl, rfl, rfl, Nat.le_refl _, fun _ _ => rfl⟩) (by simpa using h)
theorem Lies.part {w : World} {b off : Nat} {xs : List Nat} (h : Lies w (some ⟨b, off, none⟩) xs) (p n : Nat) (hp : p + n ≤ xs.length) : Lies w (some ⟨b, off + p, none⟩) ((xs.drop p).take n) := by
  have hlen : ((xs.drop p).take n).length = n := by rw [List.length_take, List.length_drop]; omega
  refine ⟨fun c hc => h.1 c (List.mem_of_mem_drop (List.mem_of_mem_take hc)), by have := h.2.1; omega, ?_⟩
  rcases h.2.2 with h0 | ⟨b', off', e, hc⟩
  · subst h0; exact .inl (by simp)
  · cases e
    refine .inr ⟨b, off + p, rfl, fun i hi => ?_⟩
    rw [hlen] at hi
    have := hc (p + i) (by omega)
    rw [show off + p + i = off + (p + i) by omega, this]
    congr 3
    simp only [List.getD, List.getElem?_take, List.getElem?_drop, if_pos hi]
theorem row_lies {w : World} {v : Value} {xs : List Nat} (h : Rw w 5 1 v xs.length (nums xs)) (hb : ∀ c ∈ xs, c < 256) (hm : xs.length ≤ 9223372036854775807) : ∃ ao cp, v = .slice ao xs.length cp ∧ Lies w ao xs := by
  obtain ⟨ao, cp, rfl, -⟩ := h.shape
  refine ⟨ao, cp, rfl, hb, hm, ?_⟩
  by_cases h0 : xs = []
  · exact .inl h0
  · obtain ⟨g, cap, cur, e, ho, -⟩ := h.block (List.length_pos_iff.2 h0)
    cases e
    refine .inr ⟨g, 0, rfl, fun i hi => ?_⟩
    rw [Nat.zero_add]
    exact h.cells i _ (nums_get xs i hi)
theorem strN_eq {a b : List Nat} (h : a = b) : strN a = strN b := by rw [h]
theorem cells4 {w : World} {g : Nat} {a0 a1 a2 a3 : Value} {t : TypeId} (h : Own w g #[a0, a1, a2, a3] t) : (∀ t : After w, t.1.cell? ⟨g, 0, none⟩ = some a0) ∧ (∀ t : After w, t.1.cell? ⟨g, 1, none⟩ = some a1) ∧ (∀ t : After w, t.1.cell? ⟨g, 2, none⟩ = some a2) ∧ (∀ t : After w, t.1.cell? ⟨g, 3, none⟩ = some a3) :=
  ⟨fun t => (h.below t.2).cell 0, fun t => (h.below t.2).cell 1, fun t => (h.below t.2).cell 2, fun t => (h.below t.2).cell 3⟩
theorem cells8 {w : World} {g : Nat} {a0 a1 a2 a3 a4 a5 a6 a7 : Value} {t : TypeId} (h : Own w g #[a0, a1, a2, a3, a4, a5, a6, a7] t) : (∀ t : After w, t.1.cell? ⟨g, 0, none⟩ = some a0) ∧ (∀ t : After w, t.1.cell? ⟨g, 1, none⟩ = some a1) ∧ (∀ t : After w, t.1.cell? ⟨g, 2, none⟩ = some a2) ∧ (∀ t : After w, t.1.cell? ⟨g, 3, none⟩ = some a3) ∧ (∀ t : After w, t.1.cell? ⟨g, 4, none⟩ = some a4) ∧ (∀ t : After w, t.1.cell? ⟨g, 5, none⟩ = some a5) ∧ (∀ t : After w, t.1.cell? ⟨g, 6, none⟩ = some a6) ∧ (∀ t : After w, t.1.cell? ⟨g, 7, none⟩ = some a7) :=
  ⟨fun t => (h.below t.2).cell 0, fun t => (h.below t.2).cell 1, fun t => (h.below t.2).cell 2, fun t => (h.below t.2).cell 3, fun t => (h.below t.2).cell 4, fun t => (h.below t.2).cell 5, fun t => (h.below t.2).cell 6, fun t => (h.below t.2).cell 7⟩
theorem Rw.belowR {w w' : World} {e : TypeId} {size : Nat} {v : Value} {n : Nat} {xs : List Value} (h : Rw w e size v n xs) (hb : Below w.heap.size w w') : Rw w' e size v n xs := h.on fun k q => hb.block k (h.lt q)
theorem grown_tr {w w1 w2 : World} {r : Option Nat} (h1 : w.grownBy w1 r) (h2 : w1.grownBy w2 r) : w.grownBy w2 r :=
  ⟨h2.os.trans h1.os, h2.tape.trans h1.tape, h2.output.trans h1.output, Nat.le_trans h1.size h2.size, fun k hk hr => (h2.block k (Nat.lt_of_lt_of_le hk h1.size) hr).trans (h1.block k hk hr)⟩
/-- A row, whatever is written into a cell. -/
theorem Rw.anyset {w : World} {e : TypeId} {size : Nat} {v : Value} {n : Nat} {zs : List Value} (h : Rw w e size v n zs) (g j : Nat) (u : Value) : ∃ zs', Rw (w.setCell ⟨g, j, none⟩ u) e size v n zs' := by
  by_cases hv : v.ownBlock = some g
  · obtain ⟨ao, cp, rfl, -⟩ := h.shape
    cases ao with
    | none => simp [Value.ownBlock] at hv
    | some ad =>
      have h2 := h
      rcases h2.2 with ⟨h', _⟩ | ⟨g', cap', cur, h', -⟩
      · cases h'
      · cases h'
        have : g' = g := by simpa [Value.ownBlock] using hv
        subst this
        exact ⟨_, (World.ownsRow.stored h j u).1⟩
  · exact ⟨_, h.set hv j u⟩
/-- Numbers that lie where a slice begins. -/
def IntLies (w : World) (a : Option Addr) (xs : List Int) : Prop := xs = [] ∨ ∃ b off, a = some ⟨b, off, none⟩ ∧ ∀ i, i < xs.length → w.cell? ⟨b, off + i, none⟩ = some (.int .i64 (xs.getD i 0))
theorem rw_intLies {w : World} {v : Value} {n : Nat} {xs : List Int} (hn : n = xs.length) (h : Rw w 3 1 v n (xs.map fun x => Value.int .i64 x)) : ∃ ao cp, v = .slice ao n cp ∧ IntLies w ao xs := by
  subst hn
  obtain ⟨ao, cp, rfl, -⟩ := h.shape
  refine ⟨ao, cp, rfl, ?_⟩
  by_cases h0 : xs = []
  · exact .inl h0
  · obtain ⟨g, cap, cur, e, ho, -⟩ := h.block (List.length_pos_iff.2 h0)
    cases e
    refine .inr ⟨g, 0, rfl, fun i hi => ?_⟩
    rw [Nat.zero_add]
    exact h.cells i _ (by simp [List.getD, hi])
set_option maxHeartbeats 1000000 in
set_option maxRecDepth 100000 in
theorem sameInts_eq {w : World} {a a' : Option Addr} {n c c' : Nat} {xs : List Int} (hn : n = xs.length) (h : IntLies w a xs) (h' : IntLies w a' xs) (hm : n ≤ 9223372036854775807) :
    Calls Try.prog 20 #[.slice a n c, .slice a' n c'] w fun e w' => e = .returned (.bool true) ∧ ∃ q, w' = w.drewN q := by
  have HN : Hid (n = xs.length) := hn
  have H1 : Hid (IntLies w a xs) := h
  have H2 : Hid (IntLies w a' xs) := h'
  clear hn h h'
  go_enter Try.func20, Try.ntmps20
  go_wp2_with fail
  go_loopw [5] (fun i wr => ∃ k q : Nat, k ≤ n ∧ i = .int .i64 (k : Int) ∧ wr = w.drewN q) (fun i _ => n - (intOf i).toNat)
  case atStart => exact ⟨0, 0, Nat.zero_le _, rfl, rfl⟩
  case round =>
    obtain ⟨k, q, hk, rfl, rfl⟩ := hrel
    by_cases hlt : k < n
    · have hkx : k < xs.length := by rw [← HN.out]; exact hlt
      rcases H1.out with h0 | ⟨b, off, rfl, hc⟩
      · rw [h0] at hkx; cases hkx
      rcases H2.out with h0 | ⟨b', off', rfl, hc'⟩
      · rw [h0] at hkx; cases hkx
      have d1 := hc k hkx
      have d2 := hc' k hkx
      generalize xs.getD k 0 = V at *
      clear hc hc'
      have hlt2 : (k : Int) < (n : Int) := by omega
      have hk0 : (0 : Int) ≤ (k : Int) := by omega
      go_wp2_with fail
      go_quiet (fail)
      go_wp2
      go_roundw
      case rel => exact ⟨k + 1, _, hlt, by go_num, rfl⟩
      case measure => simp [intOf]; omega
    · go_wp2
      go_ret
      exact ⟨rfl, q, rfl⟩
theorem intLies_below {w w' : World} {a : Option Addr} {xs : List Int} (h : IntLies w a xs) (hb : Below w.heap.size w w') : IntLies w' a xs := by
  rcases h with h0 | ⟨b, off, rfl, hc⟩
  · exact .inl h0
  · refine .inr ⟨b, off, rfl, fun i hi => ?_⟩
    have h1 := hc i hi
    exact (hb.cell (p := ⟨b, _, none⟩) (World.block_lt_of_cell? w _ h1)).trans h1
/-- Bytes that are lent: a row that holds them, and the mark 77 behind. -/
def LentB (w : World) (g n c : Nat) (xs : List Nat) : Prop := Rw w 5 1 (.slice (some ⟨g, 0, none⟩) (n + 1) c) (n + 1) (nums (xs ++ [77]))
theorem LentB.below {w w' : World} {g n c : Nat} {xs : List Nat} (h : LentB w g n c xs) (hb : Below w.heap.size w w') : LentB w' g n c xs := Rw.on h fun k e => hb.block k (Rw.lt h e)
theorem LentB.lies {w : World} {g n c : Nat} {xs : List Nat} (h : LentB w g n c xs) (hn : n = xs.length) (hb : ∀ c ∈ xs, c < 256) (hm : xs.length ≤ 9223372036854775807) : Lies w (some ⟨g, 0, none⟩) xs := by
  refine ⟨hb, hm, .inr ⟨g, 0, rfl, fun i hi => ?_⟩⟩
  have q := nums_get (xs ++ [77]) i (by simp; omega)
  have e : (xs ++ [77]).getD i 0 = xs.getD i 0 := by simp [List.getD, List.getElem?_append, hi]
  rw [e] at q
  rw [Nat.zero_add]; exact Rw.cells h _ _ q
theorem LentB.mark {w : World} {g n c : Nat} {xs : List Nat} (h : LentB w g n c xs) (hn : n = xs.length) : w.cell? ⟨g, n, none⟩ = some (.int .u8 77) := by
  have q := nums_get (xs ++ [77]) n (by simp; omega)
  have e : (xs ++ [77]).getD n 0 = 77 := by rw [hn]; simp [List.getD]
  rw [e] at q
  exact Rw.cells h _ _ q
end Go.Proofs.Ytibcakmodkbliaa
