/-
  POP of the two stacks, and clear on a row's end.
-/
import Derived.Test.YtnnajgbkpilaaaaStk
import Derived.Lib.SliceRun
namespace Go.Proofs.Ytnnajgbkpilaaaa
open Go.RowKit
set_option linter.unusedVariables false

theorem own_setCells {g : Nat} {e : TypeId} : ∀ (vs : List Value) (o : Nat) (w : World) (cur : Array Value), Own w g cur e → ∃ cur', Own (w.setCells g o vs) g cur' e ∧ cur'.size = cur.size ∧ (∀ j, j < o → cur'[j]? = cur[j]?) ∧ w.grownBy (w.setCells g o vs) (some g)
  | [], o, w, cur, h => ⟨cur, h, rfl, fun _ _ => rfl, ⟨rfl, rfl, rfl, Nat.le_refl _, fun _ _ _ => rfl⟩⟩
  | v :: r, o, w, cur, h => by
    obtain ⟨cur', h1, h2, h3, h4⟩ := own_setCells r (o + 1) (w.setCell ⟨g, o, none⟩ v) _ (h.set o v)
    refine ⟨cur', h1, by rw [h2]; simp, fun j hj => ?_, ?_⟩
    · rw [h3 j (by omega), Array.getElem?_setIfInBounds_ne (by omega)]
    · have hs : (w.setCell ⟨g, o, none⟩ v).heap.size = w.heap.size := by simp [World.setCell]
      have q : (w.setCell ⟨g, o, none⟩ v).grownBy (((w.setCell ⟨g, o, none⟩ v)).setCells g (o + 1) r) (some g) := h4
      refine ⟨q.os, q.tape, q.output, Nat.le_trans (by rw [hs]; exact Nat.le_refl _) q.size, fun k hk hn => ?_⟩
      have hb := q.block k (by rw [hs]; exact hk) hn
      exact hb.trans (Below.heap_setCell w ⟨g, o, none⟩ v k (by show k ≠ g; rintro rfl; exact hn rfl))
theorem run_clear {tS e : TypeId} {z : Value} {size bytes : Nat} (I : ElemOk tS e z size bytes) (hzv : ∀ w, (zeroValue e).run Try.prog w = .ok z w) (h1 : ∀ u ∈ z.cells.toList, u.oneCell' = true) (W : World) (ty : TypeId) (g off m c : Nat) (cur : Array Value) (hg : Own W g cur e) (hm : 0 < m) (hfit : off + m * size ≤ cur.size) :
    ∃ w' cur', (Builtin.clear_ #[tS] ty #[.slice (some ⟨g, off, none⟩) m c]).run Try.prog W = .ok (.tuple #[]) w' ∧ Own w' g cur' e ∧ cur'.size = cur.size ∧ (∀ j, j < off → cur'[j]? = cur[j]?) ∧ W.grownBy w' (some g) := by
  have hl : (Builtin.zeroCells z.cells m).toList.length = m * size := by simp [Builtin.zeroCells, I.zs]
  have hst := run_storeCells_cells (P := Try.prog) g off (Builtin.zeroCells z.cells m).toList 0 W (fun j hj => by
      rw [hl] at hj
      rw [hg.cell, Array.getElem?_eq_getElem (by omega)]; rfl) (fun j _ => hg.froz _) (fun v hv => by
      simp only [Builtin.zeroCells, Array.toList_map, List.mem_map] at hv
      obtain ⟨i, _, rfl⟩ := hv
      have hp := I.pos
      have hi : i % z.cells.size < z.cells.size := Nat.mod_lt _ (by rw [I.zs]; exact hp)
      rw [getElem!_pos z.cells _ hi]
      exact h1 _ (by simp))
  simp only [Nat.add_zero] at hst
  obtain ⟨cur', g1, g2, g3, g4⟩ := own_setCells (Builtin.zeroCells z.cells m).toList off W cur hg
  obtain ⟨m', rfl⟩ : ∃ m', m = m' + 1 := ⟨m - 1, by omega⟩
  exact ⟨_, cur', by simp [Builtin.clear_, run_underlying I.under, hzv, hst], g1, g2, g3, g4⟩
theorem wpList_clear {tS e : TypeId} {z : Value} {size bytes : Nat} (I : ElemOk tS e z size bytes) (hzv : ∀ w, (zeroValue e).run Try.prog w = .ok z w) (h1 : ∀ u ∈ z.cells.toList, u.oneCell' = true) {W : World} {ops : Array Oper} {rest : List Oper} {o : Oper} {a : Act} {Q : Exit → Act → World → Prop} (hgd : o.guard = none) (s : Operand)
    (ho : o.op = .call { callee := .builtin .clear, args := #[s], argTypes := #[tS] }) (g off m c : Nat) (hs : a.eval s = .slice (some ⟨g, off, none⟩) m c) (cur : Array Value) (hg : Own W g cur e) (hm : 0 < m) (hfit : off + m * size ≤ cur.size)
    (h : ∀ w' cur', Own w' g cur' e → cur'.size = cur.size → (∀ j, j < off → cur'[j]? = cur[j]?) → W.grownBy w' (some g) → wpList Try.prog ops Q rest (a.put o.dst (.tuple #[])) w') :
    wpList Try.prog ops Q (o :: rest) a W := by
  obtain ⟨w', cur', hr, g1, g2, g3, g4⟩ := run_clear I hzv h1 W o.type g off m c cur hg hm hfit
  refine wpList_plain hgd fun K hK => ?_
  unfold Oper.wp execOp
  simp only [ho, resolve, invoke, builtin, Sem.run_bind, Sem.run_pure, Result.andThen_ok, List.map_toArray, List.map_cons, List.map_nil, hs, hr]
  exact hK _ _ (h w' cur' g1 g2 g3 g4)
/-- A row cut short. -/
theorem Rw.cut {w : World} {e : TypeId} {size g cap n k : Nat} {cur cur' : Array Value} {xs : List Value} (hg : Own w g cur' e) (hs : cur'.size = cap * size) (hk : k ≤ n) (hn : n ≤ cap) (hcap : cap ≤ maxLen) (hc : cur.toList.take (n * size) = xs) (hcs : cur.size = cap * size) (ha : ∀ j, j < k * size → cur'[j]? = cur[j]?) : Rw w e size (.slice (some ⟨g, 0, none⟩) k cap) k (xs.take (k * size)) := by
  have hks : k * size ≤ n * size := Nat.mul_le_mul_right _ hk
  have hns : n * size ≤ cap * size := Nat.mul_le_mul_right _ hn
  refine ⟨?_, .inr ⟨g, cap, cur', rfl, Nat.zero_le _, hg, by omega, hcap, hs, ?_⟩⟩
  · rw [← hc, List.take_take, List.length_take, Array.length_toList]; omega
  · rw [← hc, List.take_take, Nat.min_eq_left hks]
    apply List.ext_getElem?
    intro j
    rw [List.getElem?_take, List.getElem?_take]
    split
    · rename_i hj
      simpa using ha j hj
    · rfl
set_option maxHeartbeats 1000000 in
theorem popB (w : World) (p : Nat) (v0 v1 v2 v3 v4 v5 : Value) (n : Nat) (xs : List Value) (f : Int) (ho : Own w p #[v0, v1, v2, v3, v4, v5] 57) (hr : Rw w 60 1 v0 (n + 1) xs) (hn : n ≤ 1000000) (hx : xs[n]? = some (.int .i64 f)) :
    Calls Try.prog 46 #[.pointer (some ⟨p, 0, none⟩)] w fun e w' => e = .returned (.tuple #[.agg #[.int .i64 f], .bool true]) ∧ ∃ v', Rw w' 60 1 v' n (xs.take n) ∧ Own w' p #[v', v1, v2, v3, v4, v5] 57 ∧ v'.ownBlock = v0.ownBlock ∧ Fr (fun k => k = p ∨ v0.ownBlock = some k) w w' := by
  obtain ⟨g, cap, cur, rfl, hg, h1, h2, h3, h4⟩ := hr.block (by omega)
  unfold maxLen at h2
  have hgp : g ≠ p := hg.ne ho (by decide)
  have hA : Below w.heap.size w (w.alloc (.cells #[.int .i64 0] 60)) := (Below.refl _ _).alloc (Nat.le_refl _) _
  have hI := innerB (w.alloc (.cells #[.int .i64 0] 60)) p _ v1 v2 v3 v4 v5 n xs f (ho.alloc _) (hr.alloc _) hn hx
  go_enter Try.func46, Try.ntmps46
  go_upto_region 4 with (go_at_call 40; refine hI.mono ?_; rintro e w1 ⟨rfl, hB1⟩; have hBa := hA.trans (hB1.mono hA.size); have o1 := ho.below hBa; have g1 := hg.below hBa; have r1 := (Own.new w #[.int .i64 0] 60).below hB1; have c1 := (o1.alloc (.cells #[.int .i64 f] 60)).cell 0; simp only [List.getElem?_toArray, List.getElem?_cons_zero] at c1)
  have hz1 : ∀ u ∈ (Value.agg #[.int .i64 0]).cells.toList, u.oneCell' = true := by simp [Value.cells, Value.oneCell']
  have hfit : n + 1 * 1 ≤ cur.size := by omega
  have g1a := g1.alloc (.cells #[.int .i64 f] 60)
  have o1a := o1.alloc (.cells #[.int .i64 f] 60)
  have r1a := r1.alloc (.cells #[.int .i64 f] 60)
  have x1a := Own.new w1 #[.int .i64 f] 60
  have s1 := hBa.size
  have s0 := hB1.size
  have p1 := ho.lt
  have p2 := hg.lt
  simp only [World.size_alloc] at s0
  have n1 : w1.heap.size ≠ g := by omega
  have n2 : w.heap.size ≠ g := by omega
  have n3 : w.heap.size ≠ p := by omega
  have n4 : w1.heap.size ≠ p := by omega
  go_wp2_with (refine wpList_clear okB Try.zeroValue60 hz1 (by rfl) (.tmp 24) (by rfl) g n 1 (cap - n) (by rfl) cur g1a (by omega) hfit ?_; intro w2 cur2 k1 k2 k3 k4; have o2 := o1a.grown k4 (fun e => hgp (Option.some.inj e).symm); have r2 := r1a.grown k4 (fun e => n2 (Option.some.inj e)); have x2 := x1a.grown k4 (fun e => n1 (Option.some.inj e)); have c2 := o2.cell 0; have f2 := o2.froz 0; have c3 := (x2.other (i := 0) n4 (.slice (some ⟨g, 0, none⟩) n cap)).cell 0; have c4 := (r2.other (i := 0) n3 (.slice (some ⟨g, 0, none⟩) n cap)).cell 0; have c4f := (r2.other (i := 0) n3 (.slice (some ⟨g, 0, none⟩) n cap)).froz 0; simp only [List.getElem?_toArray, List.getElem?_cons_zero] at c2 c3 c4)
  have hres : Own ((w2.setCell ⟨p, 0, none⟩ (.slice (some ⟨g, 0, none⟩) n cap)).setCell ⟨w.heap.size, 0, none⟩ (.int .i64 f)) w.heap.size #[.int .i64 f] 60 := by simpa using (r2.other (i := 0) n3 (.slice (some ⟨g, 0, none⟩) n cap)).set 0 (.int .i64 f)
  refine bodyPost_cell2 rfl rfl rfl hres Try.underlying60 rfl (by kernel_rfl) ?_
  have hcut := Rw.cut (size := 1) (k := n) ((k1.other (i := 0) hgp (.slice (some ⟨g, 0, none⟩) n cap)).other (i := 0) n2.symm (.int .i64 f)) (k2.trans h3) (Nat.le_succ n) h1 (by unfold maxLen; omega) h4 h3 (fun j hj => k3 j (by omega))
  rw [Nat.mul_one] at hcut
  refine ⟨rfl, _, hcut, by simpa using (o2.set 0 (.slice (some ⟨g, 0, none⟩) n cap)).other (i := 0) n3.symm (.int .i64 f), rfl, ?_⟩
  exact ((((Fr.of hBa).alloc _).grown k4 fun k _ e => .inr e).set (.inr (.inl rfl)) 0 _).set (.inl (Nat.le_refl _)) 0 _
set_option maxHeartbeats 1000000 in
theorem popT (w : World) (p : Nat) (v0 v1 v2 v3 v4 v5 : Value) (n : Nat) (xs : List Value) (lb : ByteArray) (f f2 : Int) (ho : Own w p #[v0, v1, v2, v3, v4, v5] 57) (hr : Rw w 68 3 v1 (n + 1) xs) (hn : n ≤ 1000000) (hx : xs[n * 3]? = some (.string lb)) (hx1 : xs[n * 3 + 1]? = some (.int .i64 f)) (hx2 : xs[n * 3 + 2]? = some (.int .i64 f2)) :
    Calls Try.prog 48 #[.pointer (some ⟨p, 1, none⟩)] w fun e w' => e = .returned (.tuple #[.agg #[.string lb, .int .i64 f, .int .i64 f2], .bool true]) ∧ ∃ v', Rw w' 68 3 v' n (xs.take (n * 3)) ∧ Own w' p #[v0, v', v2, v3, v4, v5] 57 ∧ v'.ownBlock = v1.ownBlock ∧ Fr (fun k => k = p ∨ v1.ownBlock = some k) w w' := by
  obtain ⟨g, cap, cur, rfl, hg, h1, h2, h3, h4⟩ := hr.block (by omega)
  unfold maxLen at h2
  have hgp : g ≠ p := hg.ne ho (by decide)
  have hA : Below w.heap.size w (w.alloc (.cells #[.string ⟨#[]⟩, .int .i64 0, .int .i64 0] 68)) := (Below.refl _ _).alloc (Nat.le_refl _) _
  have hI := innerT (w.alloc (.cells #[.string ⟨#[]⟩, .int .i64 0, .int .i64 0] 68)) p v0 _ v2 v3 v4 v5 n xs lb f f2 (ho.alloc _) (hr.alloc _) hn hx hx1 hx2
  go_enter Try.func48, Try.ntmps48
  go_upto_region 4 with (go_at_call 45; refine hI.mono ?_; rintro e w1 ⟨rfl, hB1⟩; have hBa := hA.trans (hB1.mono hA.size); have o1 := ho.below hBa; have g1 := hg.below hBa; have r1 := (Own.new w #[.string ⟨#[]⟩, .int .i64 0, .int .i64 0] 68).below hB1; have c1 := (o1.alloc (.cells #[.string lb, .int .i64 f, .int .i64 f2] 68)).cell 1; simp only [List.getElem?_toArray, List.getElem?_cons_zero, List.getElem?_cons_succ] at c1)
  have hz1 : ∀ u ∈ (Value.agg #[.string ⟨#[]⟩, .int .i64 0, .int .i64 0]).cells.toList, u.oneCell' = true := by simp [Value.cells, Value.oneCell']
  have hfit : n * 3 + 1 * 3 ≤ cur.size := by omega
  have g1a := g1.alloc (.cells #[.string lb, .int .i64 f, .int .i64 f2] 68)
  have o1a := o1.alloc (.cells #[.string lb, .int .i64 f, .int .i64 f2] 68)
  have r1a := r1.alloc (.cells #[.string lb, .int .i64 f, .int .i64 f2] 68)
  have x1a := Own.new w1 #[.string lb, .int .i64 f, .int .i64 f2] 68
  have s1 := hBa.size
  have s0 := hB1.size
  have p1 := ho.lt
  have p2 := hg.lt
  simp only [World.size_alloc] at s0
  have n1 : w1.heap.size ≠ g := by omega
  have n2 : w.heap.size ≠ g := by omega
  have n3 : w.heap.size ≠ p := by omega
  have n4 : w1.heap.size ≠ p := by omega
  go_wp2_with (refine wpList_clear okT Try.zeroValue68 hz1 (by rfl) (.tmp 24) (by rfl) g (n * 3) 1 (cap - n) (by rfl) cur g1a (by omega) hfit ?_; intro w2 cur2 k1 k2 k3 k4; have o2 := o1a.grown k4 (fun e => hgp (Option.some.inj e).symm); have r2 := r1a.grown k4 (fun e => n2 (Option.some.inj e)); have x2 := x1a.grown k4 (fun e => n1 (Option.some.inj e)); have c2 := o2.cell 1; have f9 := o2.froz 1; have c3 := (x2.other (i := 1) n4 (.slice (some ⟨g, 0, none⟩) n cap)).cell 0; have c3b := (x2.other (i := 1) n4 (.slice (some ⟨g, 0, none⟩) n cap)).cell 1; have c3c := (x2.other (i := 1) n4 (.slice (some ⟨g, 0, none⟩) n cap)).cell 2; have c4 := (r2.other (i := 1) n3 (.slice (some ⟨g, 0, none⟩) n cap)).cell 0; have c4b := (r2.other (i := 1) n3 (.slice (some ⟨g, 0, none⟩) n cap)).cell 1; have c4c := (r2.other (i := 1) n3 (.slice (some ⟨g, 0, none⟩) n cap)).cell 2; have c4f := (r2.other (i := 1) n3 (.slice (some ⟨g, 0, none⟩) n cap)).froz; simp only [List.getElem?_toArray, List.getElem?_cons_zero, List.getElem?_cons_succ] at c2 c3 c3b c3c c4 c4b c4c)
  have hres : Own ((((w2.setCell ⟨p, 1, none⟩ (.slice (some ⟨g, 0, none⟩) n cap)).setCell ⟨w.heap.size, 0, none⟩ (.string lb)).setCell ⟨w.heap.size, 1, none⟩ (.int .i64 f)).setCell ⟨w.heap.size, 2, none⟩ (.int .i64 f2)) w.heap.size #[.string lb, .int .i64 f, .int .i64 f2] 68 := by simpa using (((r2.other (i := 1) n3 (.slice (some ⟨g, 0, none⟩) n cap)).set 0 (.string lb)).set 1 (.int .i64 f)).set 2 (.int .i64 f2)
  refine bodyPost_cell2 rfl rfl rfl hres Try.underlying68 rfl (by kernel_rfl) ?_
  have hcut := Rw.cut (size := 3) (k := n) ((((k1.other (i := 1) hgp (.slice (some ⟨g, 0, none⟩) n cap)).other (i := 0) n2.symm (.string lb)).other (i := 1) n2.symm (.int .i64 f)).other (i := 2) n2.symm (.int .i64 f2)) (k2.trans h3) (Nat.le_succ n) h1 (by unfold maxLen; omega) h4 h3 (fun j hj => k3 j (by omega))
  refine ⟨rfl, _, hcut, by simpa using (((o2.set 1 (.slice (some ⟨g, 0, none⟩) n cap)).other (i := 0) n3.symm (.string lb)).other (i := 1) n3.symm (.int .i64 f)).other (i := 2) n3.symm (.int .i64 f2), rfl, ?_⟩
  exact ((((((Fr.of hBa).alloc _).grown k4 fun k _ e => .inr e).set (.inr (.inl rfl)) 1 _).set (.inl (Nat.le_refl _)) 0 _).set (.inl (Nat.le_refl _)) 1 _).set (.inl (Nat.le_refl _)) 2 _
set_option maxHeartbeats 1000000 in
theorem popT0 (w : World) (p : Nat) (v0 v1 v2 v3 v4 v5 : Value) (xs : List Value) (ho : Own w p #[v0, v1, v2, v3, v4, v5] 57) (hr : Rw w 68 3 v1 0 xs) :
    Calls Try.prog 48 #[.pointer (some ⟨p, 1, none⟩)] w fun e w' => e = .returned (.tuple #[.agg #[.string ⟨#[]⟩, .int .i64 0, .int .i64 0], .bool false]) ∧ Below w.heap.size w w' := by
  have hA : Below w.heap.size w (w.alloc (.cells #[.string ⟨#[]⟩, .int .i64 0, .int .i64 0] 68)) := (Below.refl _ _).alloc (Nat.le_refl _) _
  have hI := innerT0 (w.alloc (.cells #[.string ⟨#[]⟩, .int .i64 0, .int .i64 0] 68)) p v0 v1 v2 v3 v4 v5 xs (ho.alloc _) (hr.alloc _)
  go_enter Try.func48, Try.ntmps48
  go_wp2_with (go_at_call 45; refine hI.mono ?_; rintro e w1 ⟨rfl, hB1⟩; have hBa := hA.trans (hB1.mono hA.size); have r1 := ((Own.new w #[.string ⟨#[]⟩, .int .i64 0, .int .i64 0] 68).below hB1).alloc (.cells #[.string ⟨#[]⟩, .int .i64 0, .int .i64 0] 68); have c1 := r1.cell 0; have c2 := r1.cell 1; have c3 := r1.cell 2; have cf := r1.froz; simp only [List.getElem?_toArray, List.getElem?_cons_zero, List.getElem?_cons_succ] at c1 c2 c3)
  have hres := ((r1.set 0 (.string ⟨#[]⟩)).set 1 (.int .i64 0)).set 2 (.int .i64 0)
  refine bodyPost_cell2 rfl rfl rfl hres Try.underlying68 rfl (by kernel_rfl) ?_
  refine ⟨rfl, ?_⟩
  exact Fr.below (((((Fr.of hBa).alloc _).set (.inl (Nat.le_refl _)) 0 _).set (.inl (Nat.le_refl _)) 1 _).set (.inl (Nat.le_refl _)) 2 _)
end Go.Proofs.Ytnnajgbkpilaaaa
