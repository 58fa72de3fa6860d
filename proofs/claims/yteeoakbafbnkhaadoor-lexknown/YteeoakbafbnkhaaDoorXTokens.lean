/-
  CONTRACT of the landed lex's Tokens.
-/
import Derived.Test.YteeoakbafbnkhaaDoorXScan
import Derived.RangeFuncBox
import Derived.Maps.AppendAt
import Derived.BigRegion
namespace Go.Proofs.YteeoakbafbnkhaaDoor
open Go.RowKit Go.Shelf
set_option linter.unusedVariables false
attribute [local go_sem] Oper.semAt_some

def HoldsT (W : World) (g : Nat) (pre : List Fnd) : Prop := ∃ v, Boxed W (g + 3) 28 v ∧ W.ownsRow g 39 5 v pre.length (rowT (pre.map tokF)) ∧ True
def FndAt (W : World) (B : Nat) (x : Fnd) : Prop := ∃ (a0 : Int) (a1 : ByteArray) (a2 a3 a4 a5 a6 : Int), foundV x.1.1 x.1.2 = .agg #[.int .u8 a0, .string a1, .int .u64 a2, .int .i64 a3, .int .i64 a4, .int .i64 a5, .int .i64 a6] ∧
  W.heap[B]? = some (.cells #[.int .u8 a0, .string a1, .int .u64 a2, .int .i64 a3, .int .i64 a4, .int .i64 a5, .int .i64 a6] 46 (0, 0))
def IT (w : World) (g : Nat) (pre : List Fnd) (W : World) : Prop :=
  (∃ v, Boxed W (g + 3) 28 v ∧ W.ownsRow g 39 5 v pre.length (rowT (pre.map tokF)) ∧ True) ∧ (Boxed W g 28 (.slice none 0 0) ∧ Boxed W (g + 1) 3 (.int .i64 0) ∧ Boxed W (g + 2) 29 (.int .i64 0)) ∧ (Below g w W ∧ g + 5 ≤ W.heap.size) ∧ ((∀ x ∈ pre, okF x = true) ∧ pre.length ≤ 32768)
def IXT (w : World) (g : Nat) (c : Code) (pre : List Fnd) (W : World) : Prop :=
  ∃ (P K : Nat), (Boxed W g 28 (.slice none 0 0) ∧ Boxed W (g + 1) 3 (.int .i64 (P : Int)) ∧ Boxed W (g + 2) 29 (.int .i64 (K : Int))) ∧ Below g w W ∧ c = .ret ∧
    ∃ (pre' : List Fnd) (x : Fnd), pre = pre' ++ [x] ∧ (∀ x ∈ pre', okF x = true) ∧ ((pre'.length = 32768 ∧ P = x.1.1 ∧ K = 3) ∨ (pre'.length < 32768 ∧ ∃ q, x.1.2 = .error (q, K) ∧ P = x.1.1 + q))
theorem it_own (w : World) (g B : Nat) (hg : g ≤ w.heap.size) (hB : g ≤ B) : OwnFrom B (IT w g) :=
  OwnFrom.and (Own.from (holdsRow_own g (g + 3) 28 39 5 (fun (pre : List Fnd) => pre.length) (fun (pre : List Fnd) => rowT (pre.map tokF)) (fun _ _ => True)) _)
    (OwnFrom.and (OwnFrom.and (Own.from (boxed_own _ _ (fun _ => Value.slice none 0 0)) _) (OwnFrom.and (Own.from (boxed_own _ _ (fun _ => Value.int .i64 0)) _) (Own.from (boxed_own _ _ (fun _ => Value.int .i64 0)) _)))
      (OwnFrom.and (OwnFrom.and (ownFrom_below hg hB) (fun _ _ _ _ hs hgr _ => Nat.le_trans hs hgr.size)) (ownFrom_pure _ _)))
theorem ixt_own (w : World) (g B : Nat) (hg : g ≤ w.heap.size) (hB : g ≤ B) (c : Code) : OwnFrom B (IXT w g c) := by
  rintro s X Y row ⟨P, K, ⟨b1, b2, b3⟩, hb, hrest⟩ hgr hr
  exact ⟨P, K, ⟨boxed_own _ _ (fun (_ : Unit) => Value.slice none 0 0) () X Y row b1 hgr (fun r e => (hr r e).2), boxed_own _ _ (fun (_ : Unit) => Value.int .i64 (P : Int)) () X Y row b2 hgr (fun r e => (hr r e).2), boxed_own _ _ (fun (_ : Unit) => Value.int .i64 (K : Int)) () X Y row b3 hgr (fun r e => (hr r e).2)⟩,
    ownFrom_below (β := Unit) hg hB () X Y row hb hgr hr, hrest⟩
theorem fnd_own (Bx B : Nat) (x : Fnd) : OwnFrom B (fun (_ : Unit) W => FndAt W Bx x) := by
  rintro _ X Y row ⟨a0, a1, a2, a3, a4, a5, a6, hsh, hb⟩ hg hr
  refine ⟨a0, a1, a2, a3, a4, a5, a6, hsh, ?_⟩
  rw [hg.block Bx (Array.getElem?_eq_some_iff.1 hb).1 (fun e => by obtain ⟨_, o, ho, hc⟩ := hr Bx e.symm; rw [hb] at ho; cases ho; cases hc)]
  exact hb

theorem KF.alloc {g : Nat} {A W : World} (h : KF g A W) (hg : g ≤ W.heap.size) (o : Obj) : KF g A (W.alloc o) :=
  ⟨h.1.alloc hg o, fun b cs t fr ht hb => by
    have h2 := h.2 b cs t fr ht hb
    rw [Below.heap_alloc W o b (Array.getElem?_eq_some_iff.1 h2).1]; exact h2⟩
theorem shape_at {x : Fnd} {a0 : Int} {a1 : ByteArray} {a2 a3 a4 a5 a6 : Int} (h : foundV x.1.1 x.1.2 = .agg #[.int .u8 a0, .string a1, .int .u64 a2, .int .i64 a3, .int .i64 a4, .int .i64 a5, .int .i64 a6]) : a3 = (x.1.1 : Int) := by
  obtain ⟨⟨p, o⟩, hx⟩ := x
  match o with
  | .ok (kd, tx, n, len) =>
    simp only [foundV, foundOk, Value.agg.injEq, Array.mk.injEq, List.cons.injEq, Value.int.injEq, true_and, and_true] at h
    exact h.2.2.2.1.symm
  | .error (q, e) =>
    simp only [foundV, foundNo, Value.agg.injEq, Array.mk.injEq, List.cons.injEq, Value.int.injEq, true_and, and_true] at h
    exact h.2.2.2.1.symm
theorem shape_err {x : Fnd} {a0 : Int} {a1 : ByteArray} {a2 a3 a4 a5 a6 : Int} (h : foundV x.1.1 x.1.2 = .agg #[.int .u8 a0, .string a1, .int .u64 a2, .int .i64 a3, .int .i64 a4, .int .i64 a5, .int .i64 a6]) (hok : okF x = false) : ∃ q e : Nat, x.1.2 = .error (q, e) ∧ a5 = (e : Int) ∧ a6 = ((x.1.1 + q : Nat) : Int) := by
  obtain ⟨⟨p, o⟩, hx⟩ := x
  match o with
  | .ok (kd, tx, n, len) => simp [okF, okX] at hok
  | .error (q, e) =>
    simp only [foundV, foundNo, Value.agg.injEq, Array.mk.injEq, List.cons.injEq, Value.int.injEq, true_and, and_true] at h
    exact ⟨q, e, rfl, h.2.2.2.2.2.1.symm, h.2.2.2.2.2.2.symm⟩
theorem shape_tok {x : Fnd} {a0 : Int} {a1 : ByteArray} {a2 a3 a4 a5 a6 : Int} (h : foundV x.1.1 x.1.2 = .agg #[.int .u8 a0, .string a1, .int .u64 a2, .int .i64 a3, .int .i64 a4, .int .i64 a5, .int .i64 a6]) (hok : okF x = true) : [Value.int .u8 a0, .string a1, .int .u64 a2, .int .i64 a3, .int .i64 a4] = cellsT (tokF x) := by
  obtain ⟨⟨p, o⟩, hx⟩ := x
  match o with
  | .ok (kd, tx, n, len) =>
    simp only [foundV, foundOk, Value.agg.injEq, Array.mk.injEq, List.cons.injEq, Value.int.injEq, true_and, and_true] at h
    obtain ⟨h0, h1, h2, h3, h4, _⟩ := h
    subst h0; subst h2; subst h3; subst h4
    obtain h1 := Value.string.inj h1
    subst h1
    rfl
  | .error (q, e) => simp [okF, okX] at hok
/-- 'l = append(l, t)' in a round: one token, which lies in a block of its own. -/
theorem wpListIn_appT {F : Fence} {m : Nat} {W : World} {ops : Array Oper} {rest : List Oper} {o : Oper} {a : Act} {Q : Exit → Act → World → Prop} (hgd : o.guard = none) (s x : Operand)
    (ho : o.op = .call { callee := .builtin .append, args := #[s, x], argTypes := #[28, 28] })
    (base : Nat) (v : Value) (n : Nat) (xs : List (Nat × List Nat × Nat × Nat × Nat)) (hs : a.eval s = v) (hown : W.ownsRow base 39 5 v n (rowT xs)) (t : Nat × List Nat × Nat × Nat × Nat)
    (b : Nat) (hx : a.eval x = .slice (some ⟨b, 0, none⟩) 1 1) (cs : Array Value) (fr : Nat × Nat) (hb : W.heap[b]? = some (.cells cs 39 fr)) (hcs : cs.toList = cellsT t)
    (h63 : n + 1 ≤ 1048576) (hbase : base ≤ W.heap.size)
    (h : ∀ v' w', w'.ownsRow base 39 5 v' (n + 1) (rowT (xs ++ [t])) → W.grownBy w' v.ownBlock → wpListIn F m Tryd.prog ops Q rest (a.put o.dst v') w') :
    wpListIn F m Tryd.prog ops Q (o :: rest) a W := by
  obtain ⟨i8, hi, hz0, hz1, hz2⟩ := info_parts info35
  refine wpListIn_append_own _ hgd s x 28 ho base 39 i8 _ 5 48 Tryd.underlying28 hi hz0 hz1 hz2 rfl (by omega) v n (rowT xs) hs hown ⟨b, 0, none⟩ 1 1 (rowT [t]) hx (by rw [rowT_length]; rfl) ?_ ?_ (by unfold maxLen; omega) (by omega) hbase ?_
  · intro j u hu
    have e : rowT [t] = cs.toList := by rw [hcs]; simp [rowT]
    rw [e] at hu
    have hadd : (⟨b, 0, none⟩ : Addr).add j = ⟨b, j, none⟩ := by unfold Addr.add; split <;> simp_all
    rw [hadd, cell_of_row _ b j _ 39 _ hb]
    simpa using hu
  · intro u hu
    simp [rowT, cellsT] at hu
    rcases hu with rfl | rfl | rfl | rfl | rfl <;> rfl
  · intro v' w' h1 h2 _
    rw [← rowT_append] at h1
    exact h v' w' h1 h2
theorem row_block {W : World} {base e size k b : Nat} {v : Value} {xs : List Value} {cs : Array Value} {t : TypeId} {fr : Nat × Nat} (hrow : W.ownsRow base e size v k xs) (hb : W.heap[b]? = some (.cells cs t fr)) (hte : t ≠ e) : some b ≠ v.ownBlock := by
  rcases hrow.2 with ⟨rfl, _⟩ | ⟨g, cap, cur, rfl, _, hgb, _⟩
  · simp [Value.ownBlock]
  · intro e'
    obtain rfl : b = g := by simpa [Value.ownBlock] using e'
    rw [hgb] at hb
    cases hb
    exact hte rfl
theorem kf_appended {W w1 : World} {g k : Nat} {v v' : Value} {xs : List Value} {tmp : Obj} (hv : Boxed W (g + 3) 28 v) (hrow : W.ownsRow g 39 5 v k xs) (hgrow : (W.alloc tmp).grownBy w1 v.ownBlock) (hbel : Below g W (w1.setCell ⟨g + 3, 0, none⟩ v')) : KF g W (w1.setCell ⟨g + 3, 0, none⟩ v') := by
  refine ⟨hbel, fun b cs t fr ht hb => ?_⟩
  have hlt := (Array.getElem?_eq_some_iff.1 hb).1
  have hne : b ≠ g + 3 := by
    intro e; subst e
    rw [show W.heap[g + 3]? = _ from hv] at hb
    cases hb
    rcases ht with ht | ht <;> exact absurd ht (by decide)
  rw [Below.heap_setCell _ _ _ _ hne, hgrow.block b (by rw [World.size_alloc]; omega) (row_block hrow hb (by rcases ht with rfl | rfl <;> decide)), Below.heap_alloc W tmp b hlt]
  exact hb
theorem xtok_results {W : World} {g : Nat} {v : Value} {y z : Int} {tmps : Array Value} (h2 : tmps.getD 2 undef = .pointer (some ⟨g, 0, none⟩)) (h3 : tmps.getD 3 undef = .pointer (some ⟨g + 1, 0, none⟩)) (h4 : tmps.getD 4 undef = .pointer (some ⟨g + 2, 0, none⟩))
    (c0 : Boxed W g 28 v) (c1 : Boxed W (g + 1) 3 (.int .i64 y)) (c2 : Boxed W (g + 2) 29 (.int .i64 z)) : (results Tryd.f15 tmps).run Tryd.prog W = .ok (.tuple #[v, .int .i64 y, .int .i64 z]) W := by
  have d0 := c0.cell
  have d1 := c1.cell
  have d2 := c2.cell
  have h2' : tmps[2]?.getD undef = .pointer (some ⟨g, 0, none⟩) := by simpa using h2
  have h3' : tmps[3]?.getD undef = .pointer (some ⟨g + 1, 0, none⟩) := by simpa using h3
  have h4' : tmps[4]?.getD undef = .pointer (some ⟨g + 2, 0, none⟩) := by simpa using h4
  simp [results, Tryd.results15, h2', h3', h4', asAddr, loadVar, go_sem, d0, d1, d2]
theorem ixt_mk {w W : World} {g : Nat} {u0 u1 u2 : Value} {P K : Nat} {y z : Int} (hy : y = (P : Int)) (hz : z = (K : Int)) {pre' : List Fnd} {x : Fnd} (c0 : Boxed W g 28 u0) (c1 : Boxed W (g + 1) 3 u1) (c2 : Boxed W (g + 2) 29 u2) (hbel : Below g w W)
    (hok : ∀ x ∈ pre', okF x = true) (hd : (pre'.length = 32768 ∧ P = x.1.1 ∧ K = 3) ∨ (pre'.length < 32768 ∧ ∃ q, x.1.2 = .error (q, K) ∧ P = x.1.1 + q)) :
    IXT w g .ret (pre' ++ [x]) (((W.setCell ⟨g, 0, none⟩ (.slice none 0 0)).setCell ⟨g + 1, 0, none⟩ (.int .i64 y)).setCell ⟨g + 2, 0, none⟩ (.int .i64 z)).drew := by
  subst hy; subst hz
  refine ⟨P, K, ⟨?_, ?_, ?_⟩, ?_, rfl, pre', x, rfl, hok, hd⟩
  · exact ((c0.set _).other (by omega) _).other (by omega) _
  · exact ((c1.other (by omega) _).set _).other (by omega) _
  · exact ((c2.other (by omega) _).other (by omega) _).set _
  · exact (((hbel.setCell (p := ⟨g, 0, none⟩) (Nat.le_refl _) _).setCell (p := ⟨g + 1, 0, none⟩) (Nat.le_succ _) _).setCell (p := ⟨g + 2, 0, none⟩) (Nat.le_add_right _ _) _).drew
theorem keeps3 (B : Nat) (W : World) (p q r : Nat) (u v t : Value) : KeepsFrom B W (((W.setCell ⟨p, 0, none⟩ u).setCell ⟨q, 0, none⟩ v).setCell ⟨r, 0, none⟩ t).drew :=
  ((((KeepsOthers.setCell _ _ _).trans (KeepsOthers.setCell _ _ _)).trans (KeepsOthers.setCell _ _ _)).trans (KeepsOthers.drew _)).from B
theorem KF.refl (g : Nat) (W : World) : KF g W W := ⟨Below.refl _ _, fun _ _ _ _ _ hb => hb⟩

set_option maxRecDepth 100000 in
set_option maxHeartbeats 2000000 in
theorem xtokens_in (s : ByteArray) (h : s.size ≤ 65536) (TT : Except (Nat × Nat) (List (Nat × List Nat × Nat × Nat × Nat))) (HTT : Hid (tkF 0 (SC 0 (bytesN s)) = TT)) (w : World) (HL : Hid (Laid w)) :
    CallsIn Fence.wide 6 Tryd.prog 15 #[.string s] w fun e w' => TokGives w TT e w' := by
  obtain ⟨i0, hi, hz0, hz1, hz2⟩ := info_parts info35
  obtain ⟨g, hg⟩ : ∃ g, g = w.heap.size := ⟨_, rfl⟩
  have HG : Hid (g = w.heap.size) := hg
  refine callsIn_of_wp_marks Tryd.func15 rfl trivial ?_ rfl
  simp only [Tryd.ntmps15, List.size_toArray, List.length_cons, List.length_nil, Nat.reduceAdd, Nat.reduceSub, Array.replicate_succ, Array.replicate_zero, List.push_toArray, List.append_toArray, List.nil_append, List.cons_append]
  gi_wp2_with fail
  refine ⟨trivial, (xscan_in _ s _).mono ?_⟩
  rintro e w1 ⟨rfl, hw1⟩
  simp only [World.size_alloc, Nat.add_assoc, Nat.reduceAdd]
  rw [← hg]
  have b0 : Boxed w1 g 28 (.slice none 0 0) := by rw [hw1, hg]; exact ((((Boxed.new w 28 _).alloc _).alloc _).alloc _).alloc _
  have b1 : Boxed w1 (g + 1) 3 (.int .i64 0) := by
    have := ((((Boxed.new (w.alloc (.cells #[.slice none 0 0] 28)) 3 (.int .i64 0))).alloc (.cells #[.int .i64 0] 29)).alloc (.cells #[.slice none 0 0] 28)).alloc (.cells #[.string s] 9)
    rw [World.size_alloc] at this
    rw [hw1, hg]; exact this
  have b2 : Boxed w1 (g + 2) 29 (.int .i64 0) := by
    have := (((Boxed.new ((w.alloc (.cells #[.slice none 0 0] 28)).alloc (.cells #[.int .i64 0] 3)) 29 (.int .i64 0))).alloc (.cells #[.slice none 0 0] 28)).alloc (.cells #[.string s] 9)
    simp only [World.size_alloc] at this
    rw [hw1, hg]; exact this
  have b3 : Boxed w1 (g + 3) 28 (.slice none 0 0) := by
    have := (((Boxed.new (((w.alloc (.cells #[.slice none 0 0] 28)).alloc (.cells #[.int .i64 0] 3)).alloc (.cells #[.int .i64 0] 29)) 28 (.slice none 0 0)))).alloc (.cells #[.string s] 9)
    simp only [World.size_alloc] at this
    rw [hw1, hg]; exact this
  have b4 : w1.heap[g + 4]? = some (.cells #[.string s] 9 (0, 0)) := by
    have := Boxed.new ((((w.alloc (.cells #[.slice none 0 0] 28)).alloc (.cells #[.int .i64 0] 3)).alloc (.cells #[.int .i64 0] 29)).alloc (.cells #[.slice none 0 0] 28)) 9 (.string s)
    simp only [World.size_alloc] at this
    rw [hw1, hg]; exact this
  have hsz : w1.heap.size = g + 5 := by rw [hw1, hg]; simp only [World.size_alloc]
  have hB0 : Below g w w1 := by
    rw [hw1, hg]
    exact (((((Below.refl _ w).alloc (Nat.le_refl _) _).alloc (by simp) _).alloc (by simp; omega) _).alloc (by simp; omega) _).alloc (by simp; omega) _
  have hL1 : Laid w1 := HL.out.below hB0 (by rw [hg]; exact HL.out.1)
  have hGg : 2 < g := by rw [hg]; exact HL.out.1
  clear hw1 hg
  have hgw : g ≤ w.heap.size := by rw [HG.out]; exact Nat.le_refl _
  gi_wp2_with fail
  refine wpIn_rangeFunc_ownH (F := Fence.wide) rfl (by omega) (gf := 38) (lb := #[.pointer (some ⟨g + 4, 0, none⟩)]) rfl trivial (enters_of Tryd.func38 (by kernel_rfl) rfl)
    (scan_stops 5 (by omega) (g + 4) g s (by omega) w1 (by omega) hGg b4 hL1) KF.trans (KF.putObj (by omega)) (Below.refl _ _) (fun _ => rfl)
    (IT w g) (IXT w g) (it_own w g _ hgw (by omega)) (ixt_own w g _ hgw (by omega))
    ⟨⟨_, b3, World.ownsRow_nil _ _ _ _, trivial⟩, ⟨b0, b1, b2⟩, ⟨hB0, by omega⟩, by simp, by simp⟩
    (fun x a' W => ∃ Bx, g + 4 < Bx ∧ FndAt W Bx x ∧ a' = { tmps := #[.string s, undef, .pointer (some ⟨g, 0, none⟩), .pointer (some ⟨g + 1, 0, none⟩), .pointer (some ⟨g + 2, 0, none⟩), .pointer (some ⟨g + 3, 0, none⟩), .pointer (some ⟨Bx, 0, none⟩), .string s, .int .i64 (s.size : Int), .bool (decide (65536 < (s.size : Int))), .string s, .func (.func 38) #[] #[.pointer (some ⟨g + 4, 0, none⟩)], foundV x.1.1 x.1.2, undef, undef, undef, undef, undef, undef, undef, undef, undef, undef, undef, undef, undef, undef, undef, undef, undef, undef, undef, undef, undef], defers := [] })
    (fun x a' _ X Y row hs hg hr => by obtain ⟨Bx, h1, h2, h3⟩ := hs; exact ⟨Bx, h1, fnd_own Bx _ x () X Y row h2 hg hr, h3⟩)
    ?assign ?body ?done ?stop
  case assign =>
    rintro l pre x W K hI hK
    obtain ⟨a0, a1, a2, a3, a4, a5, a6, hsh⟩ := foundV_shape x.1.1 x.1.2
    have hgW : g ≤ W.heap.size := Nat.le_trans hgw hI.2.2.1.1.size
    have hB4 : g + 4 < W.heap.size := by have := hI.2.2.1.2; omega
    have HK : Hid _ := hK
    clear hK
    rw [hsh]
    gi_wp2
    rw [← hsh]
    exact HK.out _ _ ((KeepsOthers.alloc _ _).from _) ((KF.refl g W).alloc hgW _) ((it_own w g _ hgw (by omega)).alloc _ hI) ⟨W.heap.size, hB4, ⟨a0, a1, a2, a3, a4, a5, a6, hsh, heap_alloc_new W _⟩, rfl⟩
  case body =>
    rintro l pre x a' W hl ⟨r, hr⟩ ⟨⟨v, hv, hrow, _⟩, ⟨c0, c1, c2⟩, ⟨hbel, hgs⟩, hok, hlen⟩ ⟨Bx, hBx, ⟨a0, a1, a2, a3, a4, a5, a6, hsh, hfb⟩, rfl⟩ hlt
    obtain ⟨ao, cap, rfl⟩ := own_form hrow
    by_cases hfull : pre.length = 32768
    · have hv' := hv.cell
      have hx3 : W.cell? ⟨Bx, 3, none⟩ = some (.int .i64 a3) := cell_of_row _ _ 3 _ _ _ hfb
      have d0 := c0.cell
      have d1 := c1.cell
      have d2 := c2.cell
      have e0 := c0.frozen
      have e1 := c1.frozen
      have e2 := c2.frozen
      have h3 := shape_at hsh
      have HFL : Hid (pre.length = 32768) := hfull
      have H3 : Hid (a3 = (x.1.1 : Int)) := h3
      have HOK : Hid (∀ x ∈ pre, okF x = true) := hok
      rw [hfull] at hv'
      clear h3 hfull
      gi_wp2
      gi_region
      all_goals gi_wp2
      all_goals exact ⟨keeps3 _ _ _ _ _ _ _ _, ixt_mk (K := 3) H3.out rfl c0 c1 c2 hbel HOK.out (.inl ⟨HFL.out, rfl, rfl⟩)⟩
    · obtain ⟨n, hn⟩ : ∃ n, Hid (pre.length = n) := ⟨_, rfl⟩
      rw [hn.out] at hv hrow
      have hf0 : ((n : Int) == 32768) = false := by have := hn.out; simp; omega
      have hn2 : n < 32768 := by have := hn.out; omega
      have hv' := hv.cell
      by_cases hokx : okF x = true
      · have h5 := (shape_ok hsh hokx).1
        have hct := shape_tok hsh hokx
        have HCT : Hid ([Value.int .u8 a0, .string a1, .int .u64 a2, .int .i64 a3, .int .i64 a4] = cellsT (tokF x)) := hct
        have HOK : Hid (∀ y ∈ pre ++ [x], okF y = true) := by
          intro y hy
          rcases List.mem_append.1 hy with hy | hy
          · exact hok y hy
          · rw [List.mem_singleton.1 hy]; exact hokx
        have HV : Hid (Boxed W (g + 3) 28 (.slice ao n cap)) := hv
        have HRW : Hid (W.ownsRow g 39 5 (.slice ao n cap) n (rowT (pre.map tokF))) := hrow
        have hx0 : W.cell? ⟨Bx, 0, none⟩ = some (.int .u8 a0) := cell_of_row _ _ 0 _ _ _ hfb
        have hx1 : W.cell? ⟨Bx, 1, none⟩ = some (.string a1) := cell_of_row _ _ 1 _ _ _ hfb
        have hx2 : W.cell? ⟨Bx, 2, none⟩ = some (.int .u64 a2) := cell_of_row _ _ 2 _ _ _ hfb
        have hx3 : W.cell? ⟨Bx, 3, none⟩ = some (.int .i64 a3) := cell_of_row _ _ 3 _ _ _ hfb
        have hx4 : W.cell? ⟨Bx, 4, none⟩ = some (.int .i64 a4) := cell_of_row _ _ 4 _ _ _ hfb
        have hx5 : W.cell? ⟨Bx, 5, none⟩ = some (.int .i64 0) := by rw [← h5]; exact cell_of_row _ _ 5 _ _ _ hfb
        have hgW : g ≤ W.heap.size := by omega
        have HGW : Hid (g ≤ (W.alloc (.cells #[.int .u8 a0, .string a1, .int .u64 a2, .int .i64 a3, .int .i64 a4] 39)).heap.size) := by unfold Hid; rw [World.size_alloc]; omega
        clear hct h5 hokx hfull hsh hok hv hrow hfb
        gi_wp2_with (gi_at_builtin; refine wpListIn_appT rfl (.tmp 28) (.tmp 31) rfl g _ n (pre.map tokF) rfl (HRW.out.alloc _) (tokF x) W.heap.size rfl _ _ (heap_alloc_new W _) HCT.out (by omega) HGW.out ?_; intro v' w2 hown' hgrow; obtain ⟨g', cap', rfl⟩ := ownsRow_succ hown'; obtain ⟨hv1, hv2, hr2, hk2, hb2⟩ := HV.out.appended (by decide) HRW.out hgW (Nat.le_add_right _ _) hown' hgrow; have hc1 := hv1.cell; have hf1 := hv1.frozen; have HG4 : Hid _ := hgrow; have HK2 : Hid _ := hk2; have HV2 : Hid _ := hv2; have HR2 : Hid _ := hr2; have HB2 : Hid _ := hb2; clear hown' hgrow hv1 hv2 hr2 hk2 hb2)
        refine ⟨HK2.out.from _, kf_appended HV.out HRW.out HG4.out HB2.out, ⟨_, HV2.out, ?_, trivial⟩, ⟨?_, ?_, ?_⟩, ⟨hbel.trans HB2.out, Nat.le_trans hgs HB2.out.size⟩, HOK.out, by rw [List.length_append, hn.out]; simp; omega⟩
        · rw [List.length_append, hn.out, List.map_append]; exact HR2.out
        · exact ((c0.alloc _).kept HG4.out (c0.not_row (by decide) HRW.out)).other (by omega) _
        · exact ((c1.alloc _).kept HG4.out (c1.not_row (by decide) HRW.out)).other (by omega) _
        · exact ((c2.alloc _).kept HG4.out (c2.not_row (by decide) HRW.out)).other (by omega) _
      · have hok' : okF x = false := by simpa using hokx
        obtain ⟨q, e, hq, h5, h6⟩ := shape_err hsh hok'
        have h50 := shape_no hsh hok'
        have HD : Hid ((pre.length = 32768 ∧ x.1.1 + q = x.1.1 ∧ e = 3) ∨ (pre.length < 32768 ∧ ∃ q', x.1.2 = .error (q', e) ∧ x.1.1 + q = x.1.1 + q')) := .inr ⟨by have := hn.out; omega, q, hq, rfl⟩
        have H5 : Hid (a5 = (e : Int)) := h5
        have H6 : Hid (a6 = ((x.1.1 + q : Nat) : Int)) := h6
        have HOK : Hid (∀ x ∈ pre, okF x = true) := hok
        have hx5 : W.cell? ⟨Bx, 5, none⟩ = some (.int .i64 a5) := cell_of_row _ _ 5 _ _ _ hfb
        have hx6 : W.cell? ⟨Bx, 6, none⟩ = some (.int .i64 a6) := cell_of_row _ _ 6 _ _ _ hfb
        have d0 := c0.cell
        have d1 := c1.cell
        have d2 := c2.cell
        have e0 := c0.frozen
        have e1 := c1.frozen
        have e2 := c2.frozen
        clear hq h5 h6 hokx hok' hfull hsh hok
        gi_wp2
        gi_region
        all_goals gi_wp2
        all_goals exact ⟨keeps3 _ _ _ _ _ _ _ _, ixt_mk H6.out H5.out c0 c1 c2 hbel HOK.out HD.out⟩
  case done =>
    rintro D ys W hD rfl ⟨⟨v, hv, hrow, _⟩, ⟨c0, c1, c2⟩, ⟨hbel, hgs⟩, hok, hlen⟩ hK
    obtain ⟨ao, cap, rfl⟩ := own_form hrow
    have HX : Hid (TT = .ok ((SC 0 (bytesN s)).map tokF)) := by unfold Hid; rw [← HTT.out]; exact tk_all _ hok hlen
    have hv' := hv.cell
    have d0 := c0.cell
    have d1 := c1.cell
    have d2 := c2.cell
    have e0 := c0.frozen
    have e1 := c1.frozen
    have e2 := c2.frozen
    gi_wp2
    have k0 := ((c0.set (.slice ao (SC 0 (bytesN s)).length cap)).other (B' := g + 1) (by omega) (.int .i64 0)).other (B' := g + 2) (by omega) (.int .i64 0)
    have k1 := ((c1.other (B' := g) (by omega) (.slice ao (SC 0 (bytesN s)).length cap)).set (.int .i64 0)).other (B' := g + 2) (by omega) (.int .i64 0)
    have k2 := ((c2.other (B' := g) (by omega) (.slice ao (SC 0 (bytesN s)).length cap)).other (B' := g + 1) (by omega) (.int .i64 0)).set (.int .i64 0)
    have hbl : Below g w (((W.setCell ⟨g, 0, none⟩ (.slice ao (SC 0 (bytesN s)).length cap)).setCell ⟨g + 1, 0, none⟩ (.int .i64 0)).setCell ⟨g + 2, 0, none⟩ (.int .i64 0)) :=
      ((hbel.setCell (p := ⟨g, 0, none⟩) (Nat.le_refl _) _).setCell (p := ⟨g + 1, 0, none⟩) (Nat.le_succ _) _).setCell (p := ⟨g + 2, 0, none⟩) (Nat.le_add_right _ _) _
    have hrw : (((W.setCell ⟨g, 0, none⟩ (.slice ao (SC 0 (bytesN s)).length cap)).setCell ⟨g + 1, 0, none⟩ (.int .i64 0)).setCell ⟨g + 2, 0, none⟩ (.int .i64 0)).ownsRow g 39 5 (.slice ao (SC 0 (bytesN s)).length cap) (SC 0 (bytesN s)).length (rowT ((SC 0 (bytesN s)).map tokF)) := by
      have r0 := hrow.kept (grownBy_setCell' W g (.slice ao (SC 0 (bytesN s)).length cap)) (.inr (c0.not_row (by decide) hrow).symm)
      have r1 := r0.kept (grownBy_setCell' _ (g + 1) (.int .i64 0)) (.inr (c1.not_row (by decide) hrow).symm)
      exact r1.kept (grownBy_setCell' _ (g + 2) (.int .i64 0)) (.inr (c2.not_row (by decide) hrow).symm)
    have hKK := (((KeepsOthers.setCell W ⟨g, 0, none⟩ (.slice ao (SC 0 (bytesN s)).length cap)).trans (KeepsOthers.setCell _ ⟨g + 1, 0, none⟩ (.int .i64 0))).trans (KeepsOthers.setCell _ ⟨g + 2, 0, none⟩ (.int .i64 0))).same D _ hK rfl
    refine ⟨by simp, .inl ⟨_, _, rfl, run_takeDeferred hKK, ?_⟩⟩
    refine ⟨_, xtok_results (g := g) rfl rfl rfl (k0.kept (grownBy_putObj' _ D _) (by intro e; cases e; omega)) (k1.kept (grownBy_putObj' _ D _) (by intro e; cases e; omega)) (k2.kept (grownBy_putObj' _ D _) (by intro e; cases e; omega)), ?_⟩
    rw [HX.out]
    refine ⟨_, rfl, ?_, ?_⟩
    · rw [← HG.out, List.length_map]; exact ownsRow_putObj hrw _ hKK rfl
    · rw [← HG.out]; exact hbl.trans (belowK_b (w := w1) (by omega) _ D _ _ hD hKK rfl rfl)
  case stop =>
    rintro D c pre W hD ⟨rest, hpre⟩ ⟨P, K, ⟨c0, c1, c2⟩, hbel, rfl, pre', x, rfl, hok, hd⟩ hK
    have HX : Hid (TT = .error (P, K)) := by
      unfold Hid; rw [← HTT.out, ← hpre, List.append_assoc]
      rcases hd with ⟨h1, rfl, rfl⟩ | ⟨h1, q, h2, rfl⟩
      · exact tk_limit pre' x rest hok h1
      · exact tk_error pre' x rest q K hok h1 h2
    clear hd hpre
    gi_wp2
    refine ⟨by simp, .inl ⟨_, _, rfl, run_takeDeferred hK, ?_⟩⟩
    refine ⟨_, xtok_results (g := g) rfl rfl rfl (c0.kept (grownBy_putObj' _ D _) (by intro e; cases e; omega)) (c1.kept (grownBy_putObj' _ D _) (by intro e; cases e; omega)) (c2.kept (grownBy_putObj' _ D _) (by intro e; cases e; omega)), ?_⟩
    rw [HX.out]
    exact ⟨rfl, by rw [← HG.out]; exact hbel.trans (belowK_b (w := w1) (by omega) _ D _ _ hD hK rfl rfl)⟩
end Go.Proofs.YteeoakbafbnkhaaDoor
