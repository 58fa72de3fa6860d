/-
  append to a row of the call's own; the landed heap's keep.
-/
import Derived.Test.YtchamkiffkngjaaFind
import Derived.Lib.SliceRun
namespace Go.Proofs.Ytchamkiffkngjaa
open Go.RowKit
set_option linter.unusedVariables false

structure ElemOk (tS e : TypeId) (z : Value) (size bytes : Nat) : Prop where
  under : Try.prog.underlying tS = some (.slice e)
  info : (Try.prog.info? e).map (fun i => (i.zero, i.size, i.bytes)) = some (some z, size, bytes)
  zs : z.cells.size = size
  pos : 0 < size
  small : bytes ≤ 100
theorem okT : ElemOk 43 66 .nilIface 1 16 := ⟨Try.underlying43, by kernel_rfl, rfl, by omega, by omega⟩
theorem okU : ElemOk 30 24 (.int .u64 0) 1 8 := ⟨Try.underlying30, by kernel_rfl, rfl, by omega, by omega⟩
/-- append of one part that lies in a block of its own. -/
theorem run_app1 {tS e : TypeId} {z : Value} {size bytes : Nat} (I : ElemOk tS e z size bytes) (W : World) (ty : TypeId) (v : Value) (n : Nat) (xs : List Value) (hown : Rw W e size v n xs) (b : Nat) (cs : List Value) (hb : Own W b cs.toArray e) (hl : cs.length = size) (h1 : ∀ u ∈ cs, u.oneCell' = true) (h63 : n ≤ 10000000) :
    ∃ ao cap w', (Builtin.append_ #[tS, tS] ty #[v, .slice (some ⟨b, 0, none⟩) 1 1]).run Try.prog W = .ok (.slice ao (n + 1) cap) w' ∧ Rw w' e size (.slice ao (n + 1) cap) (n + 1) (xs ++ cs) ∧ W.grownBy w' v.ownBlock ∧ ((Value.slice ao (n + 1) cap).ownBlock = v.ownBlock ∨ (Value.slice ao (n + 1) cap).ownBlock = some W.heap.size) := by
  obtain ⟨i8, hi, hz0, hz1, hz2⟩ := info_parts I.info
  have hsm := I.small
  have h8 : (n + 1) * bytes ≤ 140737488355328 := Nat.le_trans (Nat.mul_le_mul_left (n + 1) hsm) (by omega)
  obtain ⟨v', w', hr, g1, g2, _, g4⟩ := run_append_own_at (P := Try.prog) W 0 tS ty e i8 _ size bytes I.under hi hz0 hz1 hz2 I.zs I.pos v n xs hown ⟨b, 0, none⟩ 1 1 cs (by rw [hl, Nat.one_mul]) (fun j u hu => by
    rw [addr_add, hb.cell]; simpa using hu) h1 (by unfold maxLen; omega) h8 (Nat.zero_le _)
  obtain ⟨ao, cap, rfl, _⟩ := Rw.shape g1
  exact ⟨ao, cap, w', hr, g1, g2, g4⟩
theorem step_app1 {tS e : TypeId} {z : Value} {size bytes : Nat} (I : ElemOk tS e z size bytes) {W : World} {ops : Array Oper} {o : Oper} {a : Act} {K : Act → World → Prop} {Q : Exit → Act → World → Prop} {E : Prop} (hgd : o.guard = none) (s x : Operand)
    (ho : o.op = .call { callee := .builtin .append, args := #[s, x], argTypes := #[tS, tS] }) (v : Value) (n : Nat) (xs : List Value) (hs : a.eval s = v) (hown : Rw W e size v n xs) (b : Nat) (cs : List Value) (hx : a.eval x = .slice (some ⟨b, 0, none⟩) 1 1) (hb : Own W b cs.toArray e) (hl : cs.length = size) (h1 : ∀ u ∈ cs, u.oneCell' = true) (h63 : n ≤ 10000000)
    (h : ∀ ao cap w', Rw w' e size (.slice ao (n + 1) cap) (n + 1) (xs ++ cs) → W.grownBy w' v.ownBlock → ((Value.slice ao (n + 1) cap).ownBlock = v.ownBlock ∨ (Value.slice ao (n + 1) cap).ownBlock = some W.heap.size) → K (a.put o.dst (.slice ao (n + 1) cap)) w') :
    if Region.wanted o (yielded ops a.tmps) = true then Oper.wp Try.prog o a W K Q else E := by
  have hw : Region.wanted o (yielded ops a.tmps) = true := by simp [Region.wanted, hgd]
  rw [if_pos hw]
  obtain ⟨ao, cap, w', hr, g1, g2, g3⟩ := run_app1 I W o.type v n xs hown b cs hb hl h1 h63
  unfold Oper.wp execOp
  simp only [ho, resolve, invoke, builtin, Sem.run_bind, Sem.run_pure, Result.andThen_ok, List.map_toArray, List.map_cons, List.map_nil, hs, hx, hr]
  exact h ao cap w' g1 g2 g3
theorem wpList_app1 {tS e : TypeId} {z : Value} {size bytes : Nat} (I : ElemOk tS e z size bytes) {W : World} {ops : Array Oper} {rest : List Oper} {o : Oper} {a : Act} {Q : Exit → Act → World → Prop} (hgd : o.guard = none) (s x : Operand)
    (ho : o.op = .call { callee := .builtin .append, args := #[s, x], argTypes := #[tS, tS] }) (v : Value) (n : Nat) (xs : List Value) (hs : a.eval s = v) (hown : Rw W e size v n xs) (b : Nat) (cs : List Value) (hx : a.eval x = .slice (some ⟨b, 0, none⟩) 1 1) (hb : Own W b cs.toArray e) (hl : cs.length = size) (h1 : ∀ u ∈ cs, u.oneCell' = true) (h63 : n ≤ 10000000)
    (h : ∀ ao cap w', Rw w' e size (.slice ao (n + 1) cap) (n + 1) (xs ++ cs) → W.grownBy w' v.ownBlock → ((Value.slice ao (n + 1) cap).ownBlock = v.ownBlock ∨ (Value.slice ao (n + 1) cap).ownBlock = some W.heap.size) → wpList Try.prog ops Q rest (a.put o.dst (.slice ao (n + 1) cap)) w') :
    wpList Try.prog ops Q (o :: rest) a W := by
  obtain ⟨ao, cap, w', hr, g1, g2, g3⟩ := run_app1 I W o.type v n xs hown b cs hb hl h1 h63
  refine wpList_plain hgd fun K hK => ?_
  unfold Oper.wp execOp
  simp only [ho, resolve, invoke, builtin, Sem.run_bind, Sem.run_pure, Result.andThen_ok, List.map_toArray, List.map_cons, List.map_nil, hs, hx, hr]
  exact hK _ _ (h ao cap w' g1 g2 g3)
/-- A row cut short. -/
theorem Rw.cut {w : World} {e : TypeId} {size g cap n k : Nat} {cur cur' : Array Value} {xs : List Value} (hg : Own w g cur' e) (hs : cur'.size = cap * size) (hk : k ≤ n) (hn : n ≤ cap) (hcap : cap ≤ maxLen) (hc : cur.toList.take (n * size) = xs) (hcs : cur.size = cap * size) (ha : ∀ j, j < k * size → cur'[j]? = cur[j]?) : Rw w e size (.slice (some ⟨g, 0, none⟩) k cap) k (xs.take (k * size)) := by
  have hks : k * size ≤ n * size := Nat.mul_le_mul_right _ hk
  have hns : n * size ≤ cap * size := Nat.mul_le_mul_right _ hn
  refine ⟨?_, .inr ⟨g, cap, cur', rfl, Nat.zero_le _, hg, by omega, hcap, hs, ?_⟩⟩
  · rw [← hc, List.take_take, List.length_take, Array.length_toList]; omega
  · rw [← hc, List.take_take, Nat.min_eq_left hks]
    apply List.ext_getElem?
    intro j
    rw [List.getElem?_take, List.getElem?_take]
    split
    · rename_i hj
      simpa using ha j hj
    · rfl

/-- append of a row that lies anywhere. -/
theorem run_appA {tS e : TypeId} {z : Value} {size bytes : Nat} (I : ElemOk tS e z size bytes) (W : World) (ty : TypeId) (v : Value) (k : Nat) (ys : List Value) (hown : Rw W e size v k ys) (ad : Addr) (n cap : Nat) (xs : List Value) (hl : xs.length = n * size) (hr : ∀ j u, xs[j]? = some u → W.cell? (ad.add j) = some u) (h1 : ∀ u ∈ xs, u.oneCell' = true) (hn : k + n ≤ 100000000000) :
    ∃ v' w', (Builtin.append_ #[tS, tS] ty #[v, .slice (some ad) n cap]).run Try.prog W = .ok v' w' ∧ Rw w' e size v' (k + n) (ys ++ xs) ∧ W.grownBy w' v.ownBlock ∧ (v'.ownBlock = v.ownBlock ∨ v'.ownBlock = some W.heap.size) := by
  obtain ⟨i8, hi, hz0, hz1, hz2⟩ := info_parts I.info
  have hsm := I.small
  have h8 : (k + n) * bytes ≤ 140737488355328 := Nat.le_trans (Nat.mul_le_mul_left (k + n) hsm) (by omega)
  obtain ⟨v', w', hrun, g1, g2, _, g4⟩ := run_append_own_at (P := Try.prog) W 0 tS ty e i8 _ size bytes I.under hi hz0 hz1 hz2 I.zs I.pos v k ys hown ad n cap xs hl hr h1 (by unfold maxLen; omega) h8 (Nat.zero_le _)
  exact ⟨v', w', hrun, g1, g2, g4⟩
theorem wpList_appA {tS e : TypeId} {z : Value} {size bytes : Nat} (I : ElemOk tS e z size bytes) {W : World} {ops : Array Oper} {rest : List Oper} {o : Oper} {a : Act} {Q : Exit → Act → World → Prop} (hgd : o.guard = none) (s x : Operand)
    (ho : o.op = .call { callee := .builtin .append, args := #[s, x], argTypes := #[tS, tS] }) (v : Value) (k : Nat) (ys : List Value) (hs : a.eval s = v) (hown : Rw W e size v k ys) (ad : Addr) (n cap : Nat) (xs : List Value) (hx : a.eval x = .slice (some ad) n cap) (hl : xs.length = n * size) (hr : ∀ j u, xs[j]? = some u → W.cell? (ad.add j) = some u) (h1 : ∀ u ∈ xs, u.oneCell' = true) (hn : k + n ≤ 100000000000)
    (h : ∀ v' w', Rw w' e size v' (k + n) (ys ++ xs) → W.grownBy w' v.ownBlock → (v'.ownBlock = v.ownBlock ∨ v'.ownBlock = some W.heap.size) → wpList Try.prog ops Q rest (a.put o.dst v') w') :
    wpList Try.prog ops Q (o :: rest) a W := by
  obtain ⟨v', w', hrun, g1, g2, g4⟩ := run_appA I W o.type v k ys hown ad n cap xs hl hr h1 hn
  refine wpList_plain hgd fun K hK => ?_
  unfold Oper.wp execOp
  simp only [ho, resolve, invoke, builtin, Sem.run_bind, Sem.run_pure, Result.andThen_ok, List.map_toArray, List.map_cons, List.map_nil, hs, hx, hrun]
  exact hK _ _ (h v' w' g1 g2 g4)
theorem made0 {m : M} (h : Inv m) (t : Th) : m.made t 0 = m.keep t := by
  have := h.used
  unfold M.made M.paid
  rw [if_pos (by omega), if_pos (by omega)]
  rfl
/-- What is asked of a thing that is kept. -/
structure TInv (t : Th) (u : Nat) : Prop where
  kind : 1 ≤ t.kind ∧ t.kind ≤ 4
  words : t.words.length ≤ u
  grow : t.kind = 4 → t.words.length ≤ 65536
  text : t.text.size ≤ maxLen
  plain : t.kind = 1 → t.words = []
  bits : ∀ x ∈ t.words, 0 ≤ x ∧ x < 18446744073709551616
theorem Inv.keep {m : M} (h : Inv m) {t : Th} (ht : TInv t m.used) : Inv (m.keep t) := by
  refine ⟨h.used, h.limit, ?_, ?_, ?_, ?_, ?_, ?_⟩
  all_goals (intro u hu; rcases List.mem_append.1 hu with hu | hu)
  · exact h.kind u hu
  · rw [List.mem_singleton.1 hu]; exact ht.kind
  · exact h.words u hu
  · rw [List.mem_singleton.1 hu]; exact ht.words
  · exact h.grow u hu
  · rw [List.mem_singleton.1 hu]; exact ht.grow
  · exact h.text u hu
  · rw [List.mem_singleton.1 hu]; exact ht.text
  · exact h.plain u hu
  · rw [List.mem_singleton.1 hu]; exact ht.plain
  · exact h.bits u hu
  · rw [List.mem_singleton.1 hu]; exact ht.bits
set_option maxHeartbeats 1000000 in
theorem keepS {w : World} {p : Nat} {m : M} {F : Nat → Prop} (h : HAt w p m F) (hn : m.ths.length ≤ 1000000) (t : Th) (b : Nat) (v : Value) (ht : ThIn w b v t) (hb : ¬ F b) (hv : ∀ g, v.ownBlock = some g → ¬ F g) (hti : TInv t m.used) :
    Calls Try.prog 19 #[ptr p, refV t.kind b] w fun e w' => e = .returned (.int .u64 ((m.ths.length : Int) + 1)) ∧ ∃ F', HAt w' p (m.keep t) F' ∧ (∀ x, F' x → F x ∨ w.heap.size ≤ x ∨ x = b ∨ v.ownBlock = some x) ∧ Fr F w w' := by
  obtain ⟨vt, bs, vs, H, hF, hl⟩ := h
  have ho := H.own
  have hinv := H.inv
  have hr := H.row
  have hne := hr.ne ho (by decide)
  have hpl := ho.lt
  obtain ⟨ao, cap, rfl, -⟩ := hr.shape
  obtain ⟨n, hnn⟩ : ∃ n, Hid (m.ths.length = n) := ⟨_, rfl⟩
  have hr2 := hr.alloc (.cells #[refV t.kind b] 66)
  have ho2 := ho.alloc (.cells #[refV t.kind b] 66)
  have hb2 := Own.new w #[refV t.kind b] 66
  obtain ⟨c0, c1, c2, c3, hf⟩ := own4 ho
  rw [hnn.out] at hr2 ho2 c3 hn
  have hFr : Fr F w (w.alloc (.cells #[refV t.kind b] 66)) := (Fr.refl _ w).alloc _
  have HX : Hid (∀ ao2 cap2 wz, Rw wz 66 1 (.slice ao2 (n + 1) cap2) (n + 1) (things bs m.ths ++ [refV t.kind b]) → (w.alloc (.cells #[refV t.kind b] 66)).grownBy wz (Value.slice ao n cap).ownBlock → ((Value.slice ao2 (n + 1) cap2).ownBlock = (Value.slice ao n cap).ownBlock ∨ (Value.slice ao2 (n + 1) cap2).ownBlock = some (w.heap.size + 1)) → Own (wz.setCell ⟨p, 3, none⟩ (.slice ao2 (n + 1) cap2)) p #[.bool true, .int .i64 (m.limit : Int), .int .i64 (m.used : Int), .slice ao2 (n + 1) cap2] 45 ∧ ∃ F', HAt (wz.setCell ⟨p, 3, none⟩ (.slice ao2 (n + 1) cap2)) p (m.keep t) F' ∧ (∀ x, F' x → F x ∨ w.heap.size ≤ x ∨ x = b ∨ v.ownBlock = some x) ∧ Fr F w (wz.setCell ⟨p, 3, none⟩ (.slice ao2 (n + 1) cap2))) := by
    intro ao2 cap2 wz q1 q2 q3
    rw [← hnn.out] at q1 q2 q3 ho2 ⊢
    have oz := ho2.grown q2 (fun e => hne (by rw [← e]))
    have o5 : Own (wz.setCell ⟨p, 3, none⟩ (.slice ao2 (m.ths.length + 1) cap2)) p #[.bool true, .int .i64 (m.limit : Int), .int .i64 (m.used : Int), .slice ao2 (m.ths.length + 1) cap2] 45 := by simpa using oz.set 3 (.slice ao2 (m.ths.length + 1) cap2)
    have hwz : ∀ k, k < w.heap.size → k ≠ p → (Value.slice ao m.ths.length cap).ownBlock ≠ some k → (wz.setCell ⟨p, 3, none⟩ (.slice ao2 (m.ths.length + 1) cap2)).heap[k]? = w.heap[k]? := by
      intro k hk h1 h2
      rw [Below.heap_setCell wz ⟨p, 3, none⟩ _ k h1, q2.block k (by rw [World.size_alloc]; omega) (fun e => h2 e.symm)]
      exact Below.heap_alloc w _ k hk
    have r5 := q1.set (q1.ne oz (by decide)) 3 (.slice ao2 (m.ths.length + 1) cap2)
    have hbp : b ≠ p := fun e => hb (by rw [e]; exact hF p (.inl rfl))
    have hbv : (Value.slice ao m.ths.length cap).ownBlock ≠ some b := fun e => hb (hF b (.inr (.inl e)))
    have t5 : ThIn (wz.setCell ⟨p, 3, none⟩ (.slice ao2 (m.ths.length + 1) cap2)) b v t := ht.on (hwz b ht.own.lt hbp hbv) fun g hg => hwz g (ht.row.lt hg) (fun e => hv g hg (by rw [e]; exact hF p (.inl rfl))) fun e => hv g hg (hF g (.inr (.inl e)))
    have HG := H.grow (w' := wz.setCell ⟨p, 3, none⟩ (.slice ao2 (m.ths.length + 1) cap2)) (vt' := .slice ao2 (m.ths.length + 1) cap2) t b v 0 (by have := hinv.used; omega) o5 r5 t5 (fun i hi => ?_) (fun i hi => ?_) (by rw [made0 hinv]; exact hinv.keep hti)
    rotate_left
    · have hap := H.apart hi
      have hti := H.thing i _ (List.getElem?_eq_getElem hi)
      exact ⟨hwz _ hti.own.lt hap.1 hap.2.1, fun g hg => hwz g (hti.row.lt hg) (by rintro rfl; exact hap.2.2.1 hg) (hap.2.2.2.1 g hg)⟩
    · exact ⟨fun e => hb (hF b (.inr (.inr (.inl ⟨i, hi, e.symm⟩)))), fun g hg e => hv g e (hF g (.inr (.inr (.inr ⟨i, hi, hg⟩))))⟩
    rw [made0 hinv] at HG
    refine ⟨o5, _, ⟨_, _, _, HG, fun b hb => hb, HG.bd⟩, ?_, (hFr.grown q2 fun k _ e => hF k (.inr (.inl e))).set (.inr (hF p (.inl rfl))) 3 _⟩
    have hkl : (m.keep t).ths.length = m.ths.length + 1 := by simp [M.keep]
    rw [hkl]
    rintro x (rfl | hx | ⟨i, hi, hx⟩ | ⟨i, hi, hx⟩)
    · exact .inl (hF _ (.inl rfl))
    · rcases q3 with q | q
      · exact .inl (hF x (.inr (.inl (by rw [← q]; exact hx))))
      · rw [q] at hx; cases hx; exact .inr (.inl (by omega))
    · by_cases hin : i = m.ths.length
      · simp only [if_pos hin] at hx; exact .inr (.inr (.inl hx))
      · simp only [if_neg hin] at hx; exact .inl (hF x (.inr (.inr (.inl ⟨i, by omega, hx⟩))))
    · by_cases hin : i = m.ths.length
      · simp only [if_pos hin] at hx; exact .inr (.inr (.inr hx))
      · simp only [if_neg hin] at hx; exact .inl (hF x (.inr (.inr (.inr ⟨i, by omega, hx⟩))))
  obtain ⟨X, hX⟩ : ∃ X, Hid (refV t.kind b = X) := ⟨_, rfl⟩
  have hX1 : X.oneCell' = true := by rw [← hX.out]; rfl
  obtain ⟨ti, bv, hXi⟩ : ∃ ti bv, X = .iface ti bv := ⟨_, _, hX.out.symm⟩
  rw [hX.out] at hr2 ho2 hb2 HX ⊢
  obtain ⟨ts, hts⟩ : ∃ ts, Hid (things bs m.ths = ts) := ⟨_, rfl⟩
  rw [hts.out] at hr2 HX
  rw [hnn.out] at hne ⊢
  have hp1 : ∀ wz : World, (w.alloc (.cells #[X] 66)).grownBy wz (Value.slice ao n cap).ownBlock → Own wz p #[.bool true, .int .i64 (m.limit : Int), .int .i64 (m.used : Int), .slice ao n cap] 45 := fun wz gz => ho2.grown gz (fun e => hne (by rw [← e]))
  have HP1 : Hid _ := hp1
  subst hXi
  have hsw := World.size_alloc w (.cells #[.iface ti bv] 66)
  clear H hF hl ho hinv hr ht hb hv hti hX hts hFr hnn hp1
  go_enter Try.func19, Try.ntmps19
  go_wp2_with (refine wpList_app1 okT (by rfl) (.tmp 9) (.tmp 11) (by rfl) _ n ts (by rfl) hr2 w.heap.size [.iface ti bv] (by rfl) hb2 rfl (by simpa using hX1) (by omega) ?_; intro ao2 cap2 wz q1 q2 q3; rw [hsw] at q3; have HO : Hid _ := HX.out ao2 cap2 wz q1 q2 q3; obtain ⟨-, -, -, d3, df⟩ := own4 (HP1.out wz q2); obtain ⟨-, -, -, e3, -⟩ := own4 HO.out.1; clear q1 q2 q3)
  go_ret
  exact ⟨rfl, HO.out.2⟩
end Go.Proofs.Ytchamkiffkngjaa
