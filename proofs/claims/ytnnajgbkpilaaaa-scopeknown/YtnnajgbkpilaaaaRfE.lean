/-
  CONTRACT of the document's own Copy.
-/
import Derived.Test.YtnnajgbkpilaaaaRfD
namespace Go.Proofs.Ytnnajgbkpilaaaa
open Go.RowKit
set_option linter.unusedVariables false
set_option linter.unusedSimpArgs false

/-- append of a row to none. -/
theorem step_appN {tS e : TypeId} {z : Value} {size bytes : Nat} (I : ElemOk tS e z size bytes) {W : World} {ops : Array Oper} {o : Oper} {a : Act} {K : Act → World → Prop} {Q : Exit → Act → World → Prop} {E : Prop} (hgd : o.guard = none) (s x : Operand)
    (ho : o.op = .call { callee := .builtin .append, args := #[s, x], argTypes := #[tS, tS] }) (v : Value) (n : Nat) (xs : List Value) (hs : a.eval s = .slice none 0 0) (hx : a.eval x = v) (hr : Rw W e size v n xs) (h1 : ∀ u ∈ xs, u.oneCell' = true) (h63 : n ≤ 1000000)
    (h : ∀ ao cap w', Rw w' e size (.slice ao n cap) n xs → Below W.heap.size W w' → (∀ b, (Value.slice ao n cap).ownBlock = some b → W.heap.size ≤ b) → K (a.put o.dst (.slice ao n cap)) w') :
    if Region.wanted o (yielded ops a.tmps) = true then Oper.wp Try.prog o a W K Q else E := by
  have hw : Region.wanted o (yielded ops a.tmps) = true := by simp [Region.wanted, hgd]
  rw [if_pos hw]
  obtain ⟨i8, hi, hz0, hz1, hz2⟩ := info_parts I.info
  have hsm := I.small
  have hnil : Rw W e size (.slice none 0 0) 0 [] := World.ownsRow_nil W 0 e size
  rcases hr.2 with ⟨rfl, h0⟩ | ⟨g, cap, cur, rfl, _⟩
  · have hrun := run_append_owned_none (P := Try.prog) (w := W) 0 tS o.type e i8 size I.under hi (.slice none 0 0) 0 [] hnil
    subst h0
    unfold Oper.wp execOp
    simp only [ho, resolve, invoke, builtin, Sem.run_bind, Sem.run_pure, Result.andThen_ok, List.map_toArray, List.map_cons, List.map_nil, hs, hx, hrun]
    exact h none 0 W hr (Below.refl _ _) fun b hb => by simp [Value.ownBlock] at hb
  · have h8 : (0 + n) * bytes ≤ 140737488355328 := Nat.le_trans (Nat.mul_le_mul_left (0 + n) hsm) (by omega)
    obtain ⟨v', w', hrun, g1, g2, _, g4⟩ := run_append_own_at (P := Try.prog) W 0 tS o.type e i8 _ size bytes I.under hi hz0 hz1 hz2 I.zs I.pos (.slice none 0 0) 0 [] hnil ⟨g, 0, none⟩ n cap xs hr.1 (fun j u hu => by rw [addr_add]; exact hr.cells j u hu) h1 (by unfold maxLen; omega) h8 (Nat.zero_le _)
    rw [Nat.zero_add, List.nil_append] at g1
    obtain ⟨ao, cap, rfl, _⟩ := Rw.shape g1
    unfold Oper.wp execOp
    simp only [ho, resolve, invoke, builtin, Sem.run_bind, Sem.run_pure, Result.andThen_ok, List.map_toArray, List.map_cons, List.map_nil, hs, hx, hrun]
    refine h ao cap w' g1 (Fr.below ((Fr.refl _ W).grown g2 fun k hk e => by simp [Value.ownBlock] at e)) fun b hb => ?_
    rcases g4 with q | q
    · rw [q] at hb
      simp [Value.ownBlock] at hb
    · rw [q] at hb
      have := Option.some.inj hb
      omega
theorem one_RL (m : M) : ∀ u ∈ m.rowRL, u.oneCell' = true := by
  intro u hu
  obtain ⟨x, _, hx⟩ := List.mem_flatMap.1 hu
  simp only [cR, List.mem_cons, List.not_mem_nil, or_false] at hx
  rcases hx with rfl | rfl | rfl | rfl <;> rfl
theorem one_RT (m : M) : ∀ u ∈ m.rowRT, u.oneCell' = true := by
  intro u hu
  obtain ⟨x, _, hx⟩ := List.mem_flatMap.1 hu
  simp only [cRT, List.mem_cons, List.not_mem_nil, or_false] at hx
  rcases hx with rfl | rfl | rfl <;> rfl
theorem one_I (m : M) : ∀ u ∈ m.rowI, u.oneCell' = true := by
  intro u hu
  obtain ⟨x, _, rfl⟩ := List.mem_map.1 hu
  rfl
/-- A row of the copy's own. -/
def Cr (w wx : World) (e : TypeId) (size : Nat) (u : Value) (n : Nat) (xs : List Value) : Prop := Rw wx e size u n xs ∧ ∀ b, u.ownBlock = some b → w.heap.size ≤ b
def Cp (w : World) (B Nx : Int) (u1 u2 u3 : Value) (wx : World) : Prop := Own wx w.heap.size #[.int .i64 B, u1, u2, u3, .int .i64 Nx] 64 ∧ Below w.heap.size w wx
theorem Cr.on {w wx wz : World} {e : TypeId} {size : Nat} {u : Value} {n : Nat} {xs : List Value} (h : Cr w wx e size u n xs) (hb : Below wx.heap.size wx wz) {q i : Nat} {x : Value} {cs : Array Value} {t : TypeId} (ho : Own wz q cs t) (hne : e ≠ t) : Cr w (wz.setCell ⟨q, i, none⟩ x) e size u n xs := by
  have h1 := h.1.fr (F := fun _ => False) (Fr.of hb) fun _ _ q => q
  exact ⟨h1.set (h1.ne ho hne) i x, h.2⟩
set_option maxRecDepth 100000 in
set_option maxHeartbeats 4000000 in
theorem rCopy {w : World} {p : Nat} {m : M} {F : Nat → Prop} (h : RfAt w p m F) (hfl : m.flat.length ≤ 256) (hty : m.types.length ≤ 256) (htu : m.turns.length ≤ 100000) : Calls Try.prog 12 #[.pointer (some ⟨p, 0, none⟩)] w fun e w' => ∃ p' G, e = .returned (.pointer (some ⟨p', 0, none⟩)) ∧ RfAt w' p' m G ∧ (∀ b, G b → w.heap.size ≤ b) ∧ Below w.heap.size w w' := by
  obtain ⟨v1, v2, v3, H, hF, hl⟩ := h
  have ho := H.own
  obtain ⟨B, hB⟩ : ∃ v : Int, Hid ((m.out.length : Int) + 1 = v) := ⟨_, rfl⟩
  obtain ⟨Nx, hNx⟩ : ∃ v : Int, Hid ((m.next : Int) = v) := ⟨_, rfl⟩
  obtain ⟨n1, hn1⟩ : ∃ N, Hid (m.flat.length = N) := ⟨_, rfl⟩
  obtain ⟨n2, hn2⟩ : ∃ N, Hid (m.types.length = N) := ⟨_, rfl⟩
  obtain ⟨n3, hn3⟩ : ∃ N, Hid (m.turns.length = N) := ⟨_, rfl⟩
  have R1 := H.r1
  have R2 := H.r2
  have R3 := H.r3
  rw [hn1.out] at R1 hfl
  rw [hn2.out] at R2 hty
  rw [hn3.out] at R3 htu
  obtain ⟨ao1, cap1, e1, -, -⟩ := R1.shape
  obtain ⟨ao2, cap2, e2, -, -⟩ := R2.shape
  obtain ⟨ao3, cap3, e3, -, -⟩ := R3.shape
  rw [e1] at R1 ho
  rw [e2] at R2 ho
  rw [e3] at R3 ho
  rw [hB.out, hNx.out] at ho
  have o1 := one_RL m
  have o2 := one_I m
  have o3 := one_RT m
  have hlt := ho.lt
  go_enter Try.func12, Try.ntmps12
  go_upto_region 1 with fail
  go_cut [3] (fun b wx => b = .pointer (some ⟨w.heap.size, 0, none⟩) ∧ Cp w B Nx (.slice none 0 0) (.slice none 0 0) (.slice none 0 0) wx)
  case first =>
    obtain ⟨c0, -, -, -, c4, -⟩ := own5 ho.drew
    go_wp2_with fail
    go_region_law (fail)
    all_goals (go_wp2_with fail; go_meet; exact ⟨rfl, (Own.new w #[.int .i64 B, .slice none 0 0, .slice none 0 0, .slice none 0 0, .int .i64 Nx] 64).drew, ((Below.refl _ _).alloc (Nat.le_refl _) _).drew⟩)
  case rest =>
    obtain ⟨rfl, hq, hb⟩ := hcut
    go_upto_region 2 with fail
    go_cut [3] (fun b wx => b = .pointer (some ⟨w.heap.size, 0, none⟩) ∧ ∃ a1 d1, Cp w B Nx (.slice a1 n1 d1) (.slice none 0 0) (.slice none 0 0) wx ∧ Cr w wx 89 4 (.slice a1 n1 d1) n1 m.rowRL)
    case first =>
      have oS := (ho.below hb).drew
      have oQ := hq.drew
      obtain ⟨-, s1, s2, s3, -, -⟩ := own5 oS
      obtain ⟨-, t1, t2, t3, -, tf⟩ := own5 oQ
      have RR := (R1.fr (F := fun _ => False) (Fr.of hb) fun _ _ q => q).drew
      have hsz := hb.size
      go_wp2_with fail
      go_region_law (refine step_appN okRL (by rfl) (.tmp 18) (.tmp 22) (by rfl) _ n1 m.rowRL (by rfl) (by rfl) RR o1 (by omega) ?_; intro ao7 cap7 wz hrz hbz hnz; have oz := oQ.below hbz; have cz := oz.cell 1; have fz := oz.froz 1; simp only [List.getElem?_toArray, List.getElem?_cons_zero, List.getElem?_cons_succ] at cz)
      all_goals
        go_wp2_with fail
        go_meet
        have o8 := oz.set 1 (.slice ao7 n1 cap7)
        have hbw : Below wc.heap.size wc wz := ((Below.refl _ _).drew).trans hbz
        refine ⟨rfl, ao7, cap7, ⟨by simpa using o8, Fr.below ((Fr.of (hb.trans (hbw.mono hsz))).set (.inl (Nat.le_refl _)) 1 _)⟩, ⟨hrz.set (hrz.ne oz (by decide)) 1 _, fun b hb => Nat.le_trans hsz (hnz b hb)⟩⟩
    case rest =>
      clear hq hb
      obtain ⟨rfl, a1, d1, ⟨hq, hb⟩, k1⟩ := hcut
      go_upto_region 3 with fail
      go_cut [3] (fun b wx => b = .pointer (some ⟨w.heap.size, 0, none⟩) ∧ ∃ a2 d2, Cp w B Nx (.slice a1 n1 d1) (.slice a2 n2 d2) (.slice none 0 0) wx ∧ Cr w wx 89 4 (.slice a1 n1 d1) n1 m.rowRL ∧ Cr w wx 3 1 (.slice a2 n2 d2) n2 m.rowI)
      case first =>
        have oS := (ho.below hb).drew
        have oQ := hq.drew
        obtain ⟨-, s1, s2, s3, -, -⟩ := own5 oS
        obtain ⟨-, t1, t2, t3, -, tf⟩ := own5 oQ
        have RR := (R2.fr (F := fun _ => False) (Fr.of hb) fun _ _ q => q).drew
        have hsz := hb.size
        go_wp2_with fail
        go_region_law (refine step_appN okI (by rfl) (.tmp 30) (.tmp 34) (by rfl) _ n2 m.rowI (by rfl) (by rfl) RR o2 (by omega) ?_; intro ao7 cap7 wz hrz hbz hnz; have oz := oQ.below hbz; have cz := oz.cell 2; have fz := oz.froz 2; simp only [List.getElem?_toArray, List.getElem?_cons_zero, List.getElem?_cons_succ] at cz)
        all_goals
          go_wp2_with fail
          go_meet
          have o8 := oz.set 2 (.slice ao7 n2 cap7)
          have hbw : Below wc.heap.size wc wz := ((Below.refl _ _).drew).trans hbz
          refine ⟨rfl, ao7, cap7, ⟨by simpa using o8, Fr.below ((Fr.of (hb.trans (hbw.mono hsz))).set (.inl (Nat.le_refl _)) 2 _)⟩, k1.on hbw oz (by decide), ⟨hrz.set (hrz.ne oz (by decide)) 2 _, fun b hb => Nat.le_trans hsz (hnz b hb)⟩⟩
      case rest =>
        clear hq hb k1
        obtain ⟨rfl, a2, d2, ⟨hq, hb⟩, k1, k2⟩ := hcut
        go_upto_region 4 with fail
        go_cut [3] (fun b wx => b = .pointer (some ⟨w.heap.size, 0, none⟩) ∧ ∃ a3 d3, Cp w B Nx (.slice a1 n1 d1) (.slice a2 n2 d2) (.slice a3 n3 d3) wx ∧ Cr w wx 89 4 (.slice a1 n1 d1) n1 m.rowRL ∧ Cr w wx 3 1 (.slice a2 n2 d2) n2 m.rowI ∧ Cr w wx 91 3 (.slice a3 n3 d3) n3 m.rowRT)
        case first =>
          have oS := (ho.below hb).drew
          have oQ := hq.drew
          obtain ⟨-, s1, s2, s3, -, -⟩ := own5 oS
          obtain ⟨-, t1, t2, t3, -, tf⟩ := own5 oQ
          have RR := (R3.fr (F := fun _ => False) (Fr.of hb) fun _ _ q => q).drew
          have hsz := hb.size
          go_wp2_with fail
          go_region_law (refine step_appN okRT (by rfl) (.tmp 42) (.tmp 46) (by rfl) _ n3 m.rowRT (by rfl) (by rfl) RR o3 (by omega) ?_; intro ao7 cap7 wz hrz hbz hnz; have oz := oQ.below hbz; have cz := oz.cell 3; have fz := oz.froz 3; simp only [List.getElem?_toArray, List.getElem?_cons_zero, List.getElem?_cons_succ] at cz)
          all_goals
            go_wp2_with fail
            go_meet
            have o8 := oz.set 3 (.slice ao7 n3 cap7)
            have hbw : Below wc.heap.size wc wz := ((Below.refl _ _).drew).trans hbz
            refine ⟨rfl, ao7, cap7, ⟨by simpa using o8, Fr.below ((Fr.of (hb.trans (hbw.mono hsz))).set (.inl (Nat.le_refl _)) 3 _)⟩, k1.on hbw oz (by decide), k2.on hbw oz (by decide), ⟨hrz.set (hrz.ne oz (by decide)) 3 _, fun b hb => Nat.le_trans hsz (hnz b hb)⟩⟩
        case rest =>
          clear hq hb k1 k2
          obtain ⟨rfl, a3, d3, ⟨hq, hb⟩, k1, k2, k3⟩ := hcut
          go_wp2_with fail
          go_ret
          refine ⟨w.heap.size, Blf w.heap.size (.slice a1 n1 d1) (.slice a2 n2 d2) (.slice a3 n3 d3), rfl, ⟨.slice a1 n1 d1, .slice a2 n2 d2, .slice a3 n3 d3, ⟨?_, ?_, ?_, ?_⟩, fun b hb => hb, ?_⟩, ?_, hb⟩
          · rw [hB.out, hNx.out]; exact hq
          · rw [hn1.out]; exact k1.1
          · rw [hn2.out]; exact k2.1
          · rw [hn3.out]; exact k3.1
          · rintro b (q | q | q | q)
            · rw [q]; exact hq.lt
            · exact k1.1.lt q
            · exact k2.1.lt q
            · exact k3.1.lt q
          · rintro b (q | q | q | q)
            · omega
            · exact k1.2 b q
            · exact k2.2 b q
            · exact k3.2 b q
end Go.Proofs.Ytnnajgbkpilaaaa
