/-
  THE TWO STACKS of the landed scope: push, innermost, pop; append to a row of the call's own.
-/
import Derived.Test.YtnnajgbkpilaaaaBase
import Derived.Deep.RegionLaw
import Derived.Deep.DeepCutAuto
import Derived.Laws.AppendOwnNone
namespace Go.Proofs.Ytnnajgbkpilaaaa
open Go.RowKit
set_option linter.unusedVariables false

structure ElemOk (tS e : TypeId) (z : Value) (size bytes : Nat) : Prop where
  under : Try.prog.underlying tS = some (.slice e)
  info : (Try.prog.info? e).map (fun i => (i.zero, i.size, i.bytes)) = some (some z, size, bytes)
  zs : z.cells.size = size
  pos : 0 < size
  small : bytes ≤ 100
theorem okB : ElemOk 48 60 (.agg #[.int .i64 0]) 1 8 := ⟨Try.underlying48, by kernel_rfl, rfl, by omega, by omega⟩
theorem okT : ElemOk 51 68 (.agg #[.string ⟨#[]⟩, .int .i64 0, .int .i64 0]) 3 32 := ⟨Try.underlying51, by kernel_rfl, rfl, by omega, by omega⟩
theorem okL : ElemOk 54 71 (.agg #[.string ⟨#[]⟩, .int .i64 0]) 2 24 := ⟨Try.underlying54, by kernel_rfl, rfl, by omega, by omega⟩
theorem okI : ElemOk 41 3 (.int .i64 0) 1 8 := ⟨Try.underlying41, by kernel_rfl, rfl, by omega, by omega⟩
theorem okRL : ElemOk 61 89 (.agg #[.string ⟨#[]⟩, .int .i64 0, .int .i64 0, .int .i64 0]) 4 40 := ⟨Try.underlying61, by kernel_rfl, rfl, by omega, by omega⟩
theorem okRT : ElemOk 62 91 (.agg #[.string ⟨#[]⟩, .bool false, .int .i64 0]) 3 32 := ⟨Try.underlying62, by kernel_rfl, rfl, by omega, by omega⟩

theorem addr_add (b j : Nat) : (⟨b, 0, none⟩ : Addr).add j = ⟨b, j, none⟩ := by unfold Addr.add; split <;> simp_all
/-- append of one part that lies in a block of its own. -/
theorem run_app1 {tS e : TypeId} {z : Value} {size bytes : Nat} (I : ElemOk tS e z size bytes) (W : World) (ty : TypeId) (v : Value) (n : Nat) (xs : List Value) (hown : Rw W e size v n xs) (b : Nat) (cs : List Value) (hb : Own W b cs.toArray e) (hl : cs.length = size) (h1 : ∀ u ∈ cs, u.oneCell' = true) (h63 : n ≤ 1000000) :
    ∃ ao cap w', (Builtin.append_ #[tS, tS] ty #[v, .slice (some ⟨b, 0, none⟩) 1 1]).run Try.prog W = .ok (.slice ao (n + 1) cap) w' ∧ Rw w' e size (.slice ao (n + 1) cap) (n + 1) (xs ++ cs) ∧ W.grownBy w' v.ownBlock ∧ ((Value.slice ao (n + 1) cap).ownBlock = v.ownBlock ∨ (Value.slice ao (n + 1) cap).ownBlock = some W.heap.size) := by
  obtain ⟨i8, hi, hz0, hz1, hz2⟩ := info_parts I.info
  have hsm := I.small
  have h8 : (n + 1) * bytes ≤ 140737488355328 := Nat.le_trans (Nat.mul_le_mul_left (n + 1) hsm) (by omega)
  obtain ⟨v', w', hr, g1, g2, _, g4⟩ := run_append_own_at (P := Try.prog) W 0 tS ty e i8 _ size bytes I.under hi hz0 hz1 hz2 I.zs I.pos v n xs hown ⟨b, 0, none⟩ 1 1 cs (by rw [hl, Nat.one_mul]) (fun j u hu => by
    rw [addr_add, hb.cell]; simpa using hu) h1 (by unfold maxLen; omega) h8 (Nat.zero_le _)
  obtain ⟨ao, cap, rfl, _⟩ := Rw.shape g1
  exact ⟨ao, cap, w', hr, g1, g2, g4⟩
theorem step_app1 {tS e : TypeId} {z : Value} {size bytes : Nat} (I : ElemOk tS e z size bytes) {W : World} {ops : Array Oper} {o : Oper} {a : Act} {K : Act → World → Prop} {Q : Exit → Act → World → Prop} {E : Prop} (hgd : o.guard = none) (s x : Operand)
    (ho : o.op = .call { callee := .builtin .append, args := #[s, x], argTypes := #[tS, tS] }) (v : Value) (n : Nat) (xs : List Value) (hs : a.eval s = v) (hown : Rw W e size v n xs) (b : Nat) (cs : List Value) (hx : a.eval x = .slice (some ⟨b, 0, none⟩) 1 1) (hb : Own W b cs.toArray e) (hl : cs.length = size) (h1 : ∀ u ∈ cs, u.oneCell' = true) (h63 : n ≤ 1000000)
    (h : ∀ ao cap w', Rw w' e size (.slice ao (n + 1) cap) (n + 1) (xs ++ cs) → W.grownBy w' v.ownBlock → ((Value.slice ao (n + 1) cap).ownBlock = v.ownBlock ∨ (Value.slice ao (n + 1) cap).ownBlock = some W.heap.size) → K (a.put o.dst (.slice ao (n + 1) cap)) w') :
    if Region.wanted o (yielded ops a.tmps) = true then Oper.wp Try.prog o a W K Q else E := by
  have hw : Region.wanted o (yielded ops a.tmps) = true := by simp [Region.wanted, hgd]
  rw [if_pos hw]
  obtain ⟨ao, cap, w', hr, g1, g2, g3⟩ := run_app1 I W o.type v n xs hown b cs hb hl h1 h63
  unfold Oper.wp execOp
  simp only [ho, resolve, invoke, builtin, Sem.run_bind, Sem.run_pure, Result.andThen_ok, List.map_toArray, List.map_cons, List.map_nil, hs, hx, hr]
  exact h ao cap w' g1 g2 g3
theorem wpList_app1 {tS e : TypeId} {z : Value} {size bytes : Nat} (I : ElemOk tS e z size bytes) {W : World} {ops : Array Oper} {rest : List Oper} {o : Oper} {a : Act} {Q : Exit → Act → World → Prop} (hgd : o.guard = none) (s x : Operand)
    (ho : o.op = .call { callee := .builtin .append, args := #[s, x], argTypes := #[tS, tS] }) (v : Value) (n : Nat) (xs : List Value) (hs : a.eval s = v) (hown : Rw W e size v n xs) (b : Nat) (cs : List Value) (hx : a.eval x = .slice (some ⟨b, 0, none⟩) 1 1) (hb : Own W b cs.toArray e) (hl : cs.length = size) (h1 : ∀ u ∈ cs, u.oneCell' = true) (h63 : n ≤ 1000000)
    (h : ∀ ao cap w', Rw w' e size (.slice ao (n + 1) cap) (n + 1) (xs ++ cs) → W.grownBy w' v.ownBlock → ((Value.slice ao (n + 1) cap).ownBlock = v.ownBlock ∨ (Value.slice ao (n + 1) cap).ownBlock = some W.heap.size) → wpList Try.prog ops Q rest (a.put o.dst (.slice ao (n + 1) cap)) w') :
    wpList Try.prog ops Q (o :: rest) a W := by
  obtain ⟨ao, cap, w', hr, g1, g2, g3⟩ := run_app1 I W o.type v n xs hown b cs hb hl h1 h63
  refine wpList_plain hgd fun K hK => ?_
  unfold Oper.wp execOp
  simp only [ho, resolve, invoke, builtin, Sem.run_bind, Sem.run_pure, Result.andThen_ok, List.map_toArray, List.map_cons, List.map_nil, hs, hx, hr]
  exact hK _ _ (h ao cap w' g1 g2 g3)
theorem own6 {w : World} {g : Nat} {a0 a1 a2 a3 a4 a5 : Value} {t : TypeId} (h : Own w g #[a0, a1, a2, a3, a4, a5] t) : w.cell? ⟨g, 0, none⟩ = some a0 ∧ w.cell? ⟨g, 1, none⟩ = some a1 ∧ w.cell? ⟨g, 2, none⟩ = some a2 ∧ w.cell? ⟨g, 3, none⟩ = some a3 ∧ w.cell? ⟨g, 4, none⟩ = some a4 ∧ w.cell? ⟨g, 5, none⟩ = some a5 ∧ ∀ j, w.frozen? ⟨g, j, none⟩ = false :=
  ⟨h.cell 0, h.cell 1, h.cell 2, h.cell 3, h.cell 4, h.cell 5, h.froz⟩

/-- What a row's growth leaves. -/
def Nxt (w w' : World) (v v' : Value) : Prop := ∀ b, v'.ownBlock = some b → v.ownBlock = some b ∨ w.heap.size ≤ b
set_option maxHeartbeats 1000000 in
theorem pushB (w : World) (p : Nat) (v0 v1 v2 v3 v4 v5 : Value) (n : Nat) (xs : List Value) (f : Int) (ho : Own w p #[v0, v1, v2, v3, v4, v5] 57) (hr : Rw w 60 1 v0 n xs) (hn : n ≤ 1000000) :
    Calls Try.prog 26 #[.pointer (some ⟨p, 0, none⟩), .agg #[.int .i64 f]] w fun e w' => e = .returned (.tuple #[]) ∧ ∃ v', Rw w' 60 1 v' (n + 1) (xs ++ [.int .i64 f]) ∧ Own w' p #[v', v1, v2, v3, v4, v5] 57 ∧ Nxt w w' v0 v' ∧ Fr (fun k => k = p ∨ v0.ownBlock = some k) w w' := by
  have hne := hr.ne ho (by decide)
  have hpl := ho.lt
  obtain ⟨c0, -, -, -, -, -, hf⟩ := own6 ((ho.alloc (.cells #[.int .i64 f] 60)).alloc (.cells #[.int .i64 f] 60)).drew
  obtain ⟨d0, -, -, -, -, -, df⟩ := own6 ((ho.alloc (.cells #[.int .i64 f] 60))).drew
  obtain ⟨ao, cap, rfl, -⟩ := hr.shape
  have hr2 := ((hr.alloc (.cells #[.int .i64 f] 60)).alloc (.cells #[.int .i64 f] 60)).drew
  have hb2 := (Own.new (w.alloc (.cells #[.int .i64 f] 60)) #[.int .i64 f] 60).drew
  have ho2 := ((ho.alloc (.cells #[.int .i64 f] 60)).alloc (.cells #[.int .i64 f] 60)).drew
  have hFr : Fr (fun k => k = p ∨ (Value.slice ao n cap).ownBlock = some k) w (((w.alloc (.cells #[.int .i64 f] 60)).alloc (.cells #[.int .i64 f] 60)).drew) := (((Fr.refl _ w).alloc _).alloc _).drew
  rw [World.size_alloc] at hb2
  go_enter Try.func26, Try.ntmps26
  go_wp2_with fail
  go_region_law (refine step_app1 okB (by rfl) (.tmp 8) (.tmp 10) (by rfl) _ n xs (by rfl) hr2 (w.heap.size + 1) [.int .i64 f] (by rfl) hb2 rfl (by simp [Value.oneCell']) hn ?_; intro ao2 cap2 wz hrz gz hnz; have oz := ho2.grown gz (fun e => hne e.symm); have cz := oz.cell 0; have fz := oz.froz 0)
  all_goals (
    refine bodyPost_end (results_none (fn := Try.f26) rfl _ _ _) rfl ?_
    refine ⟨rfl, _, hrz.set (hrz.ne oz (by decide)) 0 _, by simpa using oz.set 0 (.slice ao2 (n + 1) cap2), ?_, (hFr.grown gz fun k _ e => .inr e).set (.inr (.inl rfl)) 0 _⟩
    intro b hb
    rcases hnz with hnz | hnz
    · exact .inl (by rw [← hnz]; exact hb)
    · refine .inr ?_
      rw [hnz] at hb
      have := Option.some.inj hb
      simp at this
      omega)
set_option maxHeartbeats 1000000 in
theorem pushT (w : World) (p : Nat) (v0 v1 v2 v3 v4 v5 : Value) (n : Nat) (xs : List Value) (lb : ByteArray) (f g : Int) (ho : Own w p #[v0, v1, v2, v3, v4, v5] 57) (hr : Rw w 68 3 v1 n xs) (hn : n ≤ 1000000) :
    Calls Try.prog 43 #[.pointer (some ⟨p, 1, none⟩), .agg #[.string lb, .int .i64 f, .int .i64 g]] w fun e w' => e = .returned (.tuple #[]) ∧ ∃ v', Rw w' 68 3 v' (n + 1) (xs ++ [.string lb, .int .i64 f, .int .i64 g]) ∧ Own w' p #[v0, v', v2, v3, v4, v5] 57 ∧ Nxt w w' v1 v' ∧ Fr (fun k => k = p ∨ v1.ownBlock = some k) w w' := by
  have hne := hr.ne ho (by decide)
  have hpl := ho.lt
  obtain ⟨-, c0, -, -, -, -, hf⟩ := own6 ((ho.alloc (.cells #[.string lb, .int .i64 f, .int .i64 g] 68)).alloc (.cells #[.string lb, .int .i64 f, .int .i64 g] 68)).drew
  obtain ⟨-, d0, -, -, -, -, df⟩ := own6 ((ho.alloc (.cells #[.string lb, .int .i64 f, .int .i64 g] 68))).drew
  obtain ⟨ao, cap, rfl, -⟩ := hr.shape
  have hr2 := ((hr.alloc (.cells #[.string lb, .int .i64 f, .int .i64 g] 68)).alloc (.cells #[.string lb, .int .i64 f, .int .i64 g] 68)).drew
  have hb2 := (Own.new (w.alloc (.cells #[.string lb, .int .i64 f, .int .i64 g] 68)) #[.string lb, .int .i64 f, .int .i64 g] 68).drew
  have ho2 := ((ho.alloc (.cells #[.string lb, .int .i64 f, .int .i64 g] 68)).alloc (.cells #[.string lb, .int .i64 f, .int .i64 g] 68)).drew
  have hFr : Fr (fun k => k = p ∨ (Value.slice ao n cap).ownBlock = some k) w (((w.alloc (.cells #[.string lb, .int .i64 f, .int .i64 g] 68)).alloc (.cells #[.string lb, .int .i64 f, .int .i64 g] 68)).drew) := (((Fr.refl _ w).alloc _).alloc _).drew
  rw [World.size_alloc] at hb2
  go_enter Try.func43, Try.ntmps43
  go_wp2_with fail
  go_region_law (refine step_app1 okT (by rfl) (.tmp 8) (.tmp 10) (by rfl) _ n xs (by rfl) hr2 (w.heap.size + 1) [.string lb, .int .i64 f, .int .i64 g] (by rfl) hb2 rfl (by simp [Value.oneCell']) hn ?_; intro ao2 cap2 wz hrz gz hnz; have oz := ho2.grown gz (fun e => hne e.symm); have cz := oz.cell 1; have fz := oz.froz 1)
  all_goals (
    refine bodyPost_end (results_none (fn := Try.f43) rfl _ _ _) rfl ?_
    refine ⟨rfl, _, hrz.set (hrz.ne oz (by decide)) 1 _, by simpa using oz.set 1 (.slice ao2 (n + 1) cap2), ?_, (hFr.grown gz fun k _ e => .inr e).set (.inr (.inl rfl)) 1 _⟩
    intro b hb
    rcases hnz with hnz | hnz
    · exact .inl (by rw [← hnz]; exact hb)
    · refine .inr ?_
      rw [hnz] at hb
      have := Option.some.inj hb
      simp at this
      omega)

theorem ret_tup2 {a b a' b' : Value} (h1 : a = a') (h2 : b = b') : Ending.returned (.tuple #[a, b]) = Ending.returned (.tuple #[a', b']) := by rw [h1, h2]
theorem bodyPost_cell2 {P : Program} {fn : Func} {R : Ending → World → Prop} {a : Act} {w : World} {p u : Tmp} {ty : TypeId} {g : Nat} {t : TypeId} {cs : Array Value} {fr : Nat × Nat} {d : TypeDesc} (h : fn.results = #[.cell p ty, .tmp u])
    (hp : a.tmps.getD p undef = .pointer (some ⟨g, 0, none⟩)) (hd : a.defers = []) (hg : w.heap[g]? = some (.cells cs t fr))
    (hu : P.underlying ty = some d) (hd2 : (match d with | .struct _ | .array _ _ => true | _ => false) = true) (hi : (P.info? ty).map (·.size) = some cs.size)
    (hR : R (.returned (.tuple #[.agg cs, a.tmps.getD u undef])) w) : bodyPost P fn R .ret a w := by
  refine bodyPost_ret ?_ hd hR
  have hp' : a.tmps[p]?.getD undef = .pointer (some ⟨g, 0, none⟩) := by simpa using hp
  simp [results, h, hp', asAddr, run_loadVar_row w g t ty cs fr d hg hu hd2 hi]
set_option maxHeartbeats 1000000 in
theorem innerB (w : World) (p : Nat) (v0 v1 v2 v3 v4 v5 : Value) (n : Nat) (xs : List Value) (f : Int) (ho : Own w p #[v0, v1, v2, v3, v4, v5] 57) (hr : Rw w 60 1 v0 (n + 1) xs) (hn : n ≤ 1000000) (hx : xs[n]? = some (.int .i64 f)) :
    Calls Try.prog 40 #[.pointer (some ⟨p, 0, none⟩)] w fun e w' => e = .returned (.tuple #[.agg #[.int .i64 f], .bool true]) ∧ Below w.heap.size w w' := by
  obtain ⟨g, cap, cur, rfl, hg, h1, h2, h3, h4⟩ := hr.block (by omega)
  unfold maxLen at h2
  have hc := hr.cells n _ hx
  have o1 := ho.alloc (.cells #[.int .i64 0] 60)
  have c0 := o1.cell 0
  have c0d := o1.drew.cell 0
  have g1 := (hg.alloc (.cells #[.int .i64 0] 60))
  have c1 : (w.alloc (.cells #[.int .i64 0] 60)).cell? ⟨g, n, none⟩ = some (.int .i64 f) := by rw [g1.cell, ← hg.cell]; exact hc
  have c1d : (w.alloc (.cells #[.int .i64 0] 60)).drew.cell? ⟨g, n, none⟩ = some (.int .i64 f) := c1
  have b1 := (Own.new w #[.int .i64 0] 60)
  have b1c := b1.drew.cell 0
  have b1f := b1.drew.froz 0
  have hB : Below w.heap.size w (w.alloc (.cells #[.int .i64 0] 60)) := (Below.refl _ _).alloc (Nat.le_refl _) _
  simp only [List.getElem?_toArray, List.getElem?_cons_zero] at c0 c0d b1c
  go_enter Try.func40, Try.ntmps40
  go_wp2_with fail
  go_region
  go_wp2_with fail
  refine bodyPost_cell2 rfl rfl rfl ((Own.new w #[.int .i64 f] 60).drew) Try.underlying60 rfl (by kernel_rfl) ?_
  exact ⟨rfl, ((Below.refl _ _).alloc (Nat.le_refl _) _).drew⟩
set_option maxHeartbeats 1000000 in
theorem innerT (w : World) (p : Nat) (v0 v1 v2 v3 v4 v5 : Value) (n : Nat) (xs : List Value) (lb : ByteArray) (f f2 : Int) (ho : Own w p #[v0, v1, v2, v3, v4, v5] 57) (hr : Rw w 68 3 v1 (n + 1) xs) (hn : n ≤ 1000000) (hx : xs[n * 3]? = some (.string lb)) (hx1 : xs[n * 3 + 1]? = some (.int .i64 f)) (hx2 : xs[n * 3 + 2]? = some (.int .i64 f2)) :
    Calls Try.prog 45 #[.pointer (some ⟨p, 1, none⟩)] w fun e w' => e = .returned (.tuple #[.agg #[.string lb, .int .i64 f, .int .i64 f2], .bool true]) ∧ Below w.heap.size w w' := by
  obtain ⟨g, cap, cur, rfl, hg, h1, h2, h3, h4⟩ := hr.block (by omega)
  unfold maxLen at h2
  have o1 := ho.alloc (.cells #[.string ⟨#[]⟩, .int .i64 0, .int .i64 0] 68)
  have c0 := o1.cell 1
  have c0d := o1.drew.cell 1
  have g1 := (hr.alloc (.cells #[.string ⟨#[]⟩, .int .i64 0, .int .i64 0] 68))
  have c1 := g1.cells _ _ hx
  have c2 := g1.cells _ _ hx1
  have c3 := g1.cells _ _ hx2
  have c1d := g1.drew.cells _ _ hx
  have c2d := g1.drew.cells _ _ hx1
  have c3d := g1.drew.cells _ _ hx2
  have b1 := (Own.new w #[.string ⟨#[]⟩, .int .i64 0, .int .i64 0] 68)
  have b1c := b1.drew.cell 0
  have b2c := b1.drew.cell 1
  have b3c := b1.drew.cell 2
  have b1f := b1.drew.froz 0
  have b2f := b1.drew.froz 1
  have b3f := b1.drew.froz 2
  simp only [List.getElem?_toArray, List.getElem?_cons_zero, List.getElem?_cons_succ] at c0 c0d b1c b2c b3c
  go_enter Try.func45, Try.ntmps45
  go_wp2_with fail
  go_region
  go_wp2_with fail
  refine bodyPost_cell2 rfl rfl rfl ((Own.new w #[.string lb, .int .i64 f, .int .i64 f2] 68).drew) Try.underlying68 rfl (by kernel_rfl) ?_
  exact ⟨rfl, ((Below.refl _ _).alloc (Nat.le_refl _) _).drew⟩
set_option maxHeartbeats 1000000 in
theorem innerT0 (w : World) (p : Nat) (v0 v1 v2 v3 v4 v5 : Value) (xs : List Value) (ho : Own w p #[v0, v1, v2, v3, v4, v5] 57) (hr : Rw w 68 3 v1 0 xs) :
    Calls Try.prog 45 #[.pointer (some ⟨p, 1, none⟩)] w fun e w' => e = .returned (.tuple #[.agg #[.string ⟨#[]⟩, .int .i64 0, .int .i64 0], .bool false]) ∧ Below w.heap.size w w' := by
  obtain ⟨ao, cap, rfl, -⟩ := hr.shape
  have c0 := (ho.alloc (.cells #[.string ⟨#[]⟩, .int .i64 0, .int .i64 0] 68)).cell 1
  simp only [List.getElem?_toArray, List.getElem?_cons_zero, List.getElem?_cons_succ] at c0
  go_enter Try.func45, Try.ntmps45
  go_wp2_with fail
  refine bodyPost_cell2 rfl rfl rfl ((Own.new w #[.string ⟨#[]⟩, .int .i64 0, .int .i64 0] 68).alloc _) Try.underlying68 rfl (by kernel_rfl) ?_
  exact ⟨rfl, ((Below.refl _ _).alloc (Nat.le_refl _) _).alloc (by simp) _⟩
end Go.Proofs.Ytnnajgbkpilaaaa
