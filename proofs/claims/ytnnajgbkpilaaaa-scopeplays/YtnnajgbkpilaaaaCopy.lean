/-
  CONTRACT of the landed Copy.
-/
import Derived.Test.YtnnajgbkpilaaaaTarget
import Derived.Test.YtnnajgbkpilaaaaClone
import Derived.Test.YtnnajgbkpilaaaaSteps
import Derived.Shelf.Lay
import Derived.Shelf.SlMaps.Clone
import Derived.Deep.RegionHeld3
namespace Go.Proofs.Ytnnajgbkpilaaaa
open Go.RowKit Go.Maps Go.Shelf
set_option linter.unusedVariables false
set_option linter.unusedSimpArgs false
def layMC_ren : Go.Shelf.Ren := ⟨fun | 5 => 31 | 7 => 51 | n => n, fun | 23 => 55 | 25 => 9 | 3 => 68 | 4 => 4 | 20 => 20 | n => n, fun | n => n⟩
theorem layMC : Go.Proofs.SlLaysW.n5 Try.prog layMC_ren := {
  mixed := by kernel_rfl
  f5 := ⟨Try.f31.name, by decide, Try.func31.trans (congrArg some (by kernel_rfl))⟩
  f7 := Try.func51.trans (congrArg some (by kernel_rfl))
  t4 := Try.underlying4
  a4 := Try.isAgg4
  z4 := Try.sizeOf4
  v4 := Try.zeroValue4
  t20 := Try.underlying20
  a20 := Try.isAgg20
  z20 := Try.sizeOf20
  v20 := Try.zeroValue20
  t23 := Try.underlying55
  a23 := Try.isAgg55
  z23 := Try.sizeOf55
  v23 := Try.zeroValue55 }
theorem cloneM (w : World) (vm : Value) (m : M) (h : LabAt w vm m) :
    Calls Try.prog 31 #[vm] w fun e w' => ∃ ob, e = .returned (.map ob) ∧ LabAt w' (.map ob) m ∧ (∀ b, Value.map ob = .map (some b) → w.heap.size ≤ b) ∧ Below w.heap.size w w' := by
  rcases h with ⟨rfl, h1⟩ | ⟨b, n, D, rfl, h1, h2, h3⟩
  · have hc := AnyW.maps_Clone_nil layMC w
    change Calls Try.prog 31 _ _ _ at hc
    refine hc.mono ?_
    rintro e w' ⟨rfl, rfl⟩
    exact ⟨none, rfl, .inl ⟨rfl, h1⟩, fun b hb => absurd hb (by simp), Below.refl _ _⟩
  · have hc := AnyW.maps_Clone_owns layMC 9 tR b n D w h1
    change Calls Try.prog 31 _ _ _ at hc
    refine hc.mono ?_
    rintro e w' ⟨rfl, k1, -, k2⟩
    exact ⟨some w.heap.size, rfl, .inr ⟨_, n, D, rfl, k1, h2, h3⟩, fun b hb => by simp at hb; omega, k2⟩
theorem bodyPost_cell1 {P : Program} {fn : Func} {R : Ending → World → Prop} {a : Act} {w : World} {p : Tmp} {ty : TypeId} {g : Nat} {t : TypeId} {cs : Array Value} {fr : Nat × Nat} {d : TypeDesc} (h : fn.results = #[.cell p ty])
    (hp : a.tmps.getD p undef = .pointer (some ⟨g, 0, none⟩)) (hd : a.defers = []) (hg : w.heap[g]? = some (.cells cs t fr))
    (hu : P.underlying ty = some d) (hd2 : (match d with | .struct _ | .array _ _ => true | _ => false) = true) (hi : (P.info? ty).map (·.size) = some cs.size)
    (hR : R (.returned (.agg cs)) w) : bodyPost P fn R .ret a w := by
  refine bodyPost_ret ?_ hd hR
  have hp' : a.tmps[p]?.getD undef = .pointer (some ⟨g, 0, none⟩) := by simpa using hp
  simp [results, h, hp', asAddr, run_loadVar_row w g t ty cs fr d hg hu hd2 hi]
set_option maxHeartbeats 1000000 in
theorem copiedB (w : World) (p o : Nat) (v : Value) (n : Nat) (xs : List Value) (hc : w.cell? ⟨p, o, none⟩ = some v) (hlt : p < w.heap.size) (hr : Rw w 60 1 v n xs) (hn : n ≤ 1000000) (h1 : ∀ u ∈ xs, u.oneCell' = true) :
    Calls Try.prog 27 #[.pointer (some ⟨p, o, none⟩)] w fun e w' => ∃ ao cap, e = .returned (.agg #[.slice ao n cap]) ∧ Rw w' 60 1 (.slice ao n cap) n xs ∧ (∀ b, (Value.slice ao n cap).ownBlock = some b → w.heap.size ≤ b) ∧ Below w.heap.size w w' := by
  have hb0 : Below w.heap.size w (w.alloc (.cells #[.slice none 0 0] 50)) := (Below.refl _ _).alloc (Nat.le_refl _) _
  have ho := Own.new w #[.slice none 0 0] 50
  have hcl := cloneB (w.alloc (.cells #[.slice none 0 0] 50)) v n xs (hr.alloc _) hn h1
  obtain ⟨ao0, cap0, rfl, -⟩ := hr.shape
  go_enter Try.func27, Try.ntmps27
  go_wp2_with (go_at_call 49; refine hcl.mono ?_; rintro e w1 ⟨v', rfl, k1, k2, k3⟩; obtain ⟨ao, cap, rfl, -⟩ := k1.shape; have o1 := ho.below k3; have c1 := o1.cell 0; have f1 := o1.froz 0; simp only [List.getElem?_toArray, List.getElem?_cons_zero, List.getElem?_cons_succ] at c1)
  have o2 : Own (w1.setCell ⟨w.heap.size, 0, none⟩ (.slice ao n cap)) w.heap.size #[.slice ao n cap] 50 := by simpa using o1.set 0 (.slice ao n cap)
  refine bodyPost_cell1 rfl rfl rfl o2 Try.underlying50 rfl (by kernel_rfl) ?_
  rw [World.size_alloc] at k2
  refine ⟨ao, cap, rfl, k1.set (k1.ne o1 (by decide)) 0 _, fun b hb => by have := k2 b hb; omega, Fr.below ((Fr.of (hb0.trans (k3.mono (by rw [World.size_alloc]; omega)))).set (.inl (Nat.le_refl _)) 0 _)⟩
set_option maxHeartbeats 1000000 in
theorem copiedT (w : World) (p o : Nat) (v : Value) (n : Nat) (xs : List Value) (hc : w.cell? ⟨p, o, none⟩ = some v) (hlt : p < w.heap.size) (hr : Rw w 68 3 v n xs) (hn : n ≤ 1000000) (h1 : ∀ u ∈ xs, u.oneCell' = true) :
    Calls Try.prog 28 #[.pointer (some ⟨p, o, none⟩)] w fun e w' => ∃ ao cap, e = .returned (.agg #[.slice ao n cap]) ∧ Rw w' 68 3 (.slice ao n cap) n xs ∧ (∀ b, (Value.slice ao n cap).ownBlock = some b → w.heap.size ≤ b) ∧ Below w.heap.size w w' := by
  have hb0 : Below w.heap.size w (w.alloc (.cells #[.slice none 0 0] 53)) := (Below.refl _ _).alloc (Nat.le_refl _) _
  have ho := Own.new w #[.slice none 0 0] 53
  have hcl := cloneT (w.alloc (.cells #[.slice none 0 0] 53)) v n xs (hr.alloc _) hn h1
  obtain ⟨ao0, cap0, rfl, -⟩ := hr.shape
  go_enter Try.func28, Try.ntmps28
  go_wp2_with (go_at_call 50; refine hcl.mono ?_; rintro e w1 ⟨v', rfl, k1, k2, k3⟩; obtain ⟨ao, cap, rfl, -⟩ := k1.shape; have o1 := ho.below k3; have c1 := o1.cell 0; have f1 := o1.froz 0; simp only [List.getElem?_toArray, List.getElem?_cons_zero, List.getElem?_cons_succ] at c1)
  have o2 : Own (w1.setCell ⟨w.heap.size, 0, none⟩ (.slice ao n cap)) w.heap.size #[.slice ao n cap] 53 := by simpa using o1.set 0 (.slice ao n cap)
  refine bodyPost_cell1 rfl rfl rfl o2 Try.underlying53 rfl (by kernel_rfl) ?_
  rw [World.size_alloc] at k2
  refine ⟨ao, cap, rfl, k1.set (k1.ne o1 (by decide)) 0 _, fun b hb => by have := k2 b hb; omega, Fr.below ((Fr.of (hb0.trans (k3.mono (by rw [World.size_alloc]; omega)))).set (.inl (Nat.le_refl _)) 0 _)⟩
theorem one_B (m : M) : ∀ u ∈ m.rowB, u.oneCell' = true := by
  intro u hu
  obtain ⟨x, _, rfl⟩ := List.mem_map.1 hu
  rfl
theorem one_I' (m : M) : ∀ u ∈ m.rowI, u.oneCell' = true := by
  intro u hu
  obtain ⟨x, _, rfl⟩ := List.mem_map.1 hu
  rfl
theorem one_T (m : M) : ∀ u ∈ m.rowT, u.oneCell' = true := by
  intro u hu
  obtain ⟨x, _, hx⟩ := List.mem_flatMap.1 hu
  simp only [cT, List.mem_cons, List.not_mem_nil, or_false] at hx
  rcases hx with rfl | rfl | rfl <;> rfl
theorem one_L (m : M) : ∀ u ∈ m.rowL, u.oneCell' = true := by
  intro u hu
  obtain ⟨x, _, hx⟩ := List.mem_flatMap.1 hu
  simp only [cL, List.mem_cons, List.not_mem_nil, or_false] at hx
  rcases hx with rfl | rfl <;> rfl
set_option maxRecDepth 100000 in
set_option maxHeartbeats 4000000 in
theorem copyS {w : World} {p : Nat} {m : M} {F : Nat → Prop} (h : ScAt w p m F) (hou : m.out.length ≤ 100000) (htu : m.turns.length ≤ 100000) : Calls Try.prog 11 #[.pointer (some ⟨p, 0, none⟩)] w fun e w' => ∃ p' G, e = .returned (.pointer (some ⟨p', 0, none⟩)) ∧ ScAt w' p' m G ∧ (∀ b, G b → w.heap.size ≤ b) ∧ Below w.heap.size w w' := by
  obtain ⟨v0, v1, v2, v3, vm, H, hF, hl⟩ := h
  have hfew := H.inv.few
  have hlow := H.inv.lows
  have ho := H.own
  have hp := ho.lt
  obtain ⟨Nx, hNx⟩ : ∃ v : Int, Hid ((m.next : Int) = v) := ⟨_, rfl⟩
  obtain ⟨n0, hn0⟩ : ∃ N, Hid (m.out.length + 1 = N) := ⟨_, rfl⟩
  obtain ⟨n1, hn1⟩ : ∃ N, Hid (m.turns.length = N) := ⟨_, rfl⟩
  obtain ⟨n2, hn2⟩ : ∃ N, Hid (m.flat.length = N) := ⟨_, rfl⟩
  obtain ⟨n3, hn3⟩ : ∃ N, Hid (m.types.length = N) := ⟨_, rfl⟩
  have B0 : Below w.heap.size w w.drew := (Below.refl _ _).drew
  have R0 := H.r0
  have R1 := H.r1
  have R2 := H.r2
  have R3 := H.r3
  have L0 := H.lab
  rw [hn0.out] at R0
  rw [hn1.out] at R1 htu
  rw [hn2.out] at R2 hlow
  rw [hn3.out] at R3 hfew hlow
  have hn0' : n0 ≤ 1000000 := by have := hn0.out; omega
  obtain ⟨a0, d0, e0, -⟩ := R0.shape
  obtain ⟨a1, d1, e1, -⟩ := R1.shape
  obtain ⟨a2, d2, e2, -⟩ := R2.shape
  obtain ⟨a3, d3, e3, -⟩ := R3.shape
  rw [hNx.out, e0, e1, e2, e3] at ho
  rw [e0] at R0
  rw [e1] at R1
  rw [e2] at R2
  rw [e3] at R3
  have z0 := one_B m
  have z1 := one_T m
  have z2 := one_L m
  have z3 := one_I' m
  have HI : Hid (Inv m) := H.inv
  obtain ⟨x0, x1, x2, x3, x4, x5, -⟩ := own6 ho
  go_enter Try.func11, Try.ntmps11
  go_wp2_with fail
  go_region_held3 (fun w' => w'.cell? ⟨p, 2, none⟩ = some (.slice a2 n2 d2) ∧ w'.cell? ⟨p, 3, none⟩ = some (.slice a3 n3 d3) ∧ w'.cell? ⟨p, 4, none⟩ = some (.int .i64 Nx) ∧ w'.cell? ⟨p, 5, none⟩ = some vm) (go_keep)
    (first
      | (go_at_call 27; refine (copiedB w.drew p 0 _ n0 _ x0 hp R0.drew hn0' z0).mono ?_; rintro en w1 ⟨b0, c0, rfl, k0, j0, t0⟩; have s0 := t0.size; have B1 : Below w.heap.size w w1 := B0.trans t0; obtain ⟨-, y1, y2, y3, y4, y5, -⟩ := own6 (ho.below B1))
      | (go_at_call 28; refine (copiedT w1 p 1 _ n1 _ y1 (Nat.lt_of_lt_of_le hp B1.size) (R1.fr (F := fun _ => False) (Fr.of B1) fun _ _ q => q) (by omega) z1).mono ?_; rintro en w2 ⟨b1, c1, rfl, k1, j1, t1⟩; have s1 := t1.size; have B2 : Below w.heap.size w w2 := B1.trans (t1.mono B1.size); obtain ⟨-, -, u2, u3, u4, u5, -⟩ := own6 (ho.below B2))
      | (go_at_call 29; refine (cloneL w2 _ n2 _ (R2.fr (F := fun _ => False) (Fr.of B2) fun _ _ q => q) (by omega) z2).mono ?_; rintro en w3 ⟨v2', rfl, k2, j2, t2⟩; obtain ⟨b2, c2, rfl, -⟩ := k2.shape; have s2 := t2.size; have B3 : Below w.heap.size w w3 := B2.trans (t2.mono B2.size); obtain ⟨-, -, m2, m3, m4, m5, -⟩ := own6 (ho.below B3))
      | (go_at_call 30; refine (cloneI w3 _ n3 _ (R3.fr (F := fun _ => False) (Fr.of B3) fun _ _ q => q) (by omega) z3).mono ?_; rintro en w4 ⟨v3', rfl, k3, j3, t3⟩; obtain ⟨b3, c3, rfl, -⟩ := k3.shape; have s3 := t3.size; have B4 : Below w.heap.size w w4 := B3.trans (t3.mono B3.size); obtain ⟨-, -, q2, q3, q4, q5, -⟩ := own6 (ho.below B4))
      | (go_at_call 31; refine (cloneM w4 _ m (lab_on L0 fun b e => B4.block b (lab_lt L0 e))).mono ?_; rintro en w5 ⟨ob, rfl, k4, j4, t4⟩; have s4 := t4.size; have B5 : Below w.heap.size w w5 := B4.trans (t4.mono B4.size); obtain ⟨-, -, r2, r3, r4, r5, -⟩ := own6 (ho.below B5)))
  all_goals
    go_wp2_with fail
    go_ret
    have T3 : Below w3.heap.size w3 w5 := t3.trans (t4.mono s3)
    have T2 : Below w2.heap.size w2 w5 := t2.trans (T3.mono s2)
    have T1 : Below w1.heap.size w1 w5 := t1.trans (T2.mono s1)
    have s0' : w.heap.size ≤ w1.heap.size := s0
    have g0 := (k0.fr (F := fun _ => False) (Fr.of T1) fun _ _ q => q).alloc (.cells #[.slice b0 n0 c0, .slice b1 n1 c1, .slice b2 n2 c2, .slice b3 n3 c3, .int .i64 Nx, .map ob] 57)
    have g1 := (k1.fr (F := fun _ => False) (Fr.of T2) fun _ _ q => q).alloc (.cells #[.slice b0 n0 c0, .slice b1 n1 c1, .slice b2 n2 c2, .slice b3 n3 c3, .int .i64 Nx, .map ob] 57)
    have g2 := (k2.fr (F := fun _ => False) (Fr.of T3) fun _ _ q => q).alloc (.cells #[.slice b0 n0 c0, .slice b1 n1 c1, .slice b2 n2 c2, .slice b3 n3 c3, .int .i64 Nx, .map ob] 57)
    have g3 := (k3.fr (F := fun _ => False) (Fr.of t4) fun _ _ q => q).alloc (.cells #[.slice b0 n0 c0, .slice b1 n1 c1, .slice b2 n2 c2, .slice b3 n3 c3, .int .i64 Nx, .map ob] 57)
    have gl : LabAt (w5.alloc (.cells #[.slice b0 n0 c0, .slice b1 n1 c1, .slice b2 n2 c2, .slice b3 n3 c3, .int .i64 Nx, .map ob] 57)) (.map ob) m := lab_on k4 fun b e => Below.heap_alloc _ _ _ (lab_lt k4 e)
    have go := Own.new w5 #[.slice b0 n0 c0, .slice b1 n1 c1, .slice b2 n2 c2, .slice b3 n3 c3, .int .i64 Nx, .map ob] 57
    refine ⟨w5.heap.size, Blk w5.heap.size (.slice b0 n0 c0) (.slice b1 n1 c1) (.slice b2 n2 c2) (.slice b3 n3 c3) (.map ob), rfl, ⟨_, _, _, _, _, ⟨by rw [hNx.out]; exact go, by rw [hn0.out]; exact g0, by rw [hn1.out]; exact g1, by rw [hn2.out]; exact g2, by rw [hn3.out]; exact g3, gl, HI.out⟩, fun b hb => hb, ?_⟩, ?_, B5.alloc B5.size _⟩
    · rintro b (q | q | q | q | q | q)
      · rw [q]; exact go.lt
      · exact g0.lt q
      · exact g1.lt q
      · exact g2.lt q
      · exact g3.lt q
      · exact lab_lt gl q
    · rintro b (q | q | q | q | q | q)
      · have := B5.size; omega
      · exact j0 b q
      · have := j1 b q; omega
      · have := j2 b q; omega
      · have := j3 b q; omega
      · have := j4 b q; omega
end Go.Proofs.Ytnnajgbkpilaaaa
