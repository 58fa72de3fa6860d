/-
  Closed runs reckoned by the kernel, part 5: operations by their trees.
-/
import Derived.Test.YtkmmnocooibljaaGreatDoorE4
import Derived.Orders
import Derived.IntWalk
import Derived.Laws.Strings
set_option linter.all false

namespace Go.Eng
open Go.RowKit

variable {P : Program} {G N : Nat}

/-- What an operation must give. -/
def OpT (P : Program) (G N : Nat) (r : PM) (H : AH) (w : World) (n : Next) (H' : AH) (t : Sem Next) : Prop := ∃ s n' w', t.run P w = .ok n' w' ∧ NR s n n' ∧ Ex P G N r H w s H' w'

theorem OpT.here {r : PM} {H : AH} {w : World} (h : Rel P G N r H w) {n n' : Next} {t : Sem Next} (hrun : t.run P w = .ok n' w) (hn : NR r n n') : OpT P G N r H w n H t := ⟨r, n', w, hrun, hn, .refl h⟩

theorem OpT.val {r : PM} {H : AH} {w : World} (h : Rel P G N r H w) {v v' : Value} {t : Sem Value} (hrun : t.run P w = .ok v' w) (hv : VR r v v') : OpT P G N r H w (.value v) H (do pure (Next.value (← t))) :=
  .here h (run_val hrun) hv

theorem flat_list (r : PM) {xs : List Value} (h : flat.go xs = true) : VL r xs xs := by
  have := flat_refl r (.tuple ⟨xs⟩) (by simpa [flat] using h)
  simpa only [VR] using this

theorem flatNext_refl (r : PM) {n : Next} (h : flatNext n = true) : NR r n n := by
  cases n <;> simp only [flatNext, Bool.false_eq_true] at h
  · exact flat_refl r _ h
  · trivial
  · exact ⟨rfl, flat_list r h⟩

theorem allFlat_mem {e : Operand → Value} : ∀ {l : List Operand}, allFlat e l = true → ∀ x, x ∈ l → flat (e x) = true
  | [], _, _, h => by cases h
  | y :: l, h, x, hx => by
    unfold allFlat at h
    rw [ifb_and, Bool.and_eq_true] at h
    rcases List.mem_cons.1 hx with rfl | hx
    · exact h.1
    · exact allFlat_mem h.2 x hx

theorem notSel_ne {op : Op} (h : notSel op = true) : ∀ cs b, op ≠ .select cs b := by
  rintro cs b rfl
  simp [notSel] at h

theorem TR.makeFunc {r : PM} {g : FuncId} {a b a' b' : Array Value} (h1 : VL r a.toList a'.toList) (h2 : VL r b.toList b'.toList) : TR P VRR r (Instr.makeFunc (.func g) a b) (Instr.makeFunc (.func g) a' b') := by
  obtain ⟨a⟩ := a; obtain ⟨b⟩ := b; obtain ⟨a'⟩ := a'; obtain ⟨b'⟩ := b'
  show VR r _ _
  simp only [VR, FnR]
  exact ⟨trivial, h1, h2⟩

theorem TR.asInt {r : PM} {v v' : Value} (h : VR r v v') : TR P Id' r (Go.asInt v) (Go.asInt v') := by
  unfold Go.asInt
  exact TR.bind' (TR.asIntOf h) fun s a b _ e => by subst e; exact rfl

theorem TR.makeMap {r : PM} {t : TypeId} {a b : Option Value} (h : a.isSome = b.isSome) (h1 : ∀ v v', a = some v → b = some v' → VR r v v') : TR P VRR r (Instr.makeMap t a) (Instr.makeMap t b) := by
  unfold Instr.makeMap
  have fin : ∀ {u : PM}, TR P VRR u (do pure (Value.map (some (← Go.newObj (.map #[] 0))))) (do pure (Value.map (some (← Go.newObj (.map #[] 0))))) := fun {u} =>
    TR.bind' (TR.newObj (o := .map #[] 0) (o' := .map #[] 0) (by simp only [OR]; exact ⟨trivial, trivial⟩)) fun s i j _ hij => by
      show VR s _ _
      simp only [VR]
      exact ⟨0, 0, hij⟩
  cases a with
  | none =>
    cases b with
    | none => exact fin
    | some _ => cases h
  | some v =>
    cases b with
    | none => cases h
    | some v' =>
      simp only
      refine TR.bindI (TR.underlying t) fun s d hle => ?_
      split
      · exact TR.bind' (TR.asInt ((h1 v v' rfl rfl).mono hle)) fun s' x y _ _ => fin
      · exact TR.stuck

theorem VL.of_map {r : PM} {e e' : Operand → Value} : ∀ (l : List Operand), (∀ x, x ∈ l → VR r (e x) (e' x)) → VL r (l.map e) (l.map e')
  | [], _ => VL.nil r
  | x :: l, h => VL.cons (h x (by simp)) (VL.of_map l fun y hy => h y (by simp [hy]))

theorem TR.askRoom {r : PM} (n : Nat) : TR P Id' r (Go.askRoom n) (Go.askRoom n) := by
  unfold Go.askRoom
  split
  · show TR P Id' r (Sem.mark _ _) (Sem.mark _ _)
    simp only [TR]
  · exact rfl

theorem sr_makeSlice {r : PM} {t el : TypeId} {l c l' c' : Value} (hu : P.underlying t = some (.slice el)) (hz : zf P el = true) (hl : VR r l l') (hc : VR r c c') : SR P VRR r (Instr.makeSlice t l c) (Instr.makeSlice t l' c') := by
  unfold Instr.makeSlice
  have hund : TR P (fun _ a b => b = a ∧ a = TypeDesc.slice el) r (Go.underlying t) (Go.underlying t) := by
    unfold Go.underlying program
    show TR P _ r (Sem.program _) (Sem.program _)
    simp only [TR, Sem.bind, hu]
    exact ⟨rfl, rfl⟩
  refine SR.bind hund.sr ?_
  rintro s _ _ hle ⟨rfl, rfl⟩
  refine SR.bind (TR.asInt (hl.mono hle)).sr ?_
  rintro s1 _ n hle1 rfl
  refine SR.bind (TR.asInt ((hc.mono hle).mono hle1)).sr ?_
  rintro s2 _ m hle2 rfl
  refine SR.bindI (TR.typeInfo el) fun s3 inf hle3 => ?_
  dsimp only
  have fin : ∀ u : PM, SR P VRR u (do
      Go.askRoom ((IntKind.i64.wrap m).toNat * inf.bytes)
      let n' := (IntKind.i64.wrap m).toNat * (← Go.sizeOf el)
      let zero ← if n' = 0 then pure #[] else do pure (← Go.zeroValue el).cells
      let a ← Go.newRow el ((Array.range n').map (zero[· % zero.size]!))
      pure (Value.slice (some a) (IntKind.i64.wrap n).toNat (IntKind.i64.wrap m).toNat))
      (do
      Go.askRoom ((IntKind.i64.wrap m).toNat * inf.bytes)
      let n' := (IntKind.i64.wrap m).toNat * (← Go.sizeOf el)
      let zero ← if n' = 0 then pure #[] else do pure (← Go.zeroValue el).cells
      let a ← Go.newRow el ((Array.range n').map (zero[· % zero.size]!))
      pure (Value.slice (some a) (IntKind.i64.wrap n).toNat (IntKind.i64.wrap m).toNat)) := by
    intro u
    refine SR.bindI (TR.askRoom _) fun u1 _ _ => ?_
    refine SR.bindI (TR.sizeOf el) fun u2 sz _ => ?_
    have row : ∀ (u : PM) (z : Array Value), VL u ((Array.range ((IntKind.i64.wrap m).toNat * sz)).map (z[· % z.size]!)).toList ((Array.range ((IntKind.i64.wrap m).toNat * sz)).map (z[· % z.size]!)).toList → SR P VRR u
        (do pure (Value.slice (some (← Go.newRow el ((Array.range ((IntKind.i64.wrap m).toNat * sz)).map (z[· % z.size]!)))) (IntKind.i64.wrap n).toNat (IntKind.i64.wrap m).toNat))
        (do pure (Value.slice (some (← Go.newRow el ((Array.range ((IntKind.i64.wrap m).toNat * sz)).map (z[· % z.size]!)))) (IntKind.i64.wrap n).toNat (IntKind.i64.wrap m).toNat)) := fun u z hv =>
      SR.bind (TR.newRow hv).sr fun u3 a b _ hab => SR.pure (by
        show VR u3 _ _
        simp only [VR]
        exact ⟨trivial, .inr ⟨0, 0, hab.1, by rw [hab.2.1, hab.2.2.1], hab.2.2.2.1, hab.2.2.2.2, rfl⟩⟩)
    dsimp only
    split
    · rename_i h0
      exact row u2 #[] (by rw [h0]; simp [VR.go])
    · refine SR.bind (TR.zeroValue hz).sr ?_
      rintro u3 z _ _ ⟨rfl, hf⟩
      exact row u3 _ (rep_rel hf _)
  split
  · split
    · exact SR.dead fun H => by
        show ar P (Sem.bind (runtimePanic _) _) H = none
        rfl
    · split
      · exact SR.dead fun H => by
          show ar P (Sem.bind (runtimePanic _) _) H = none
          rfl
      · exact SR.dead fun H => by
          rfl
  · exact fin s3

/-- By the law for what asks no memory, or by the one for what does. -/
theorem gen_sound {e e' : Operand → Value} {o : Oper} {H H' : AH} {r : PM} {w : World} {n : Next} (hrel : Rel P G N r H w) (he : ∀ x, okOpd G x = true → VR r (e x) (e' x)) (h : genOk P G e o H = some (n, H')) : OpT P G N r H w n H' (execOp e' o) := by
  unfold genOk at h
  cases hc : ifb (notSel o.op) (allOk G o.op.operands.toList) false with
  | false => rw [hc, ifb_false] at h; cases h
  | true =>
    rw [hc, ifb_true] at h
    rw [ifb_and, Bool.and_eq_true] at hc
    have hx : ∀ x, x ∈ o.op.operands → VR r (e x) (e' x) := fun x hm => he x (allOk_mem hc.2 x (by simpa using hm))
    have tm : ifb (tame P o.op) (ar P (execOp e o) H) none = some (n, H') → OpT P G N r H w n H' (execOp e' o) := by
      intro h
      cases ht : tame P o.op with
      | false => rw [ht, ifb_false] at h; cases h
      | true =>
        rw [ht, ifb_true] at h
        have fin : ∀ {t t' : Sem Value}, SR P VRR r t t' → (execOp e o = do pure (Next.value (← t))) → (execOp e' o = do pure (Next.value (← t'))) → OpT P G N r H w n H' (execOp e' o) := by
          intro t t' hs e1 e2
          rw [e1] at h
          rw [e2]
          exact (SR.bind (R2 := NR) hs fun s a b _ hab => SR.pure (R := NR) (a := Next.value a) (b := Next.value b) hab) G N H w n H' hrel h
        unfold tame at ht
        split at ht
        · rename_i t x i hop
          exact fin (TR.field (t := t) (i := i) (hx x (by rw [hop]; simp [Op.operands]))).sr (by unfold execOp; simp only [hop]) (by unfold execOp; simp only [hop])
        · rename_i fn first cap hop
          split at ht
          · rename_i g
            refine fin (TR.makeFunc (g := g) (a := first.map e) (b := cap.map e) (a' := first.map e') (b' := cap.map e') ?_ ?_).sr (by unfold execOp; simp only [hop]) (by unfold execOp; simp only [hop])
            · rw [Array.toList_map, Array.toList_map]
              exact VL.of_map _ fun x hm => hx x (by rw [hop]; simp only [Op.operands]; simp; exact .inl (by simpa using hm))
            · rw [Array.toList_map, Array.toList_map]
              exact VL.of_map _ fun x hm => hx x (by rw [hop]; simp only [Op.operands]; simp; exact .inr (by simpa using hm))
          · cases ht
        · rename_i t ps hop
          refine fin (TR.build (t := t) (ps := ps.map fun (i, x) => (i, e x)) (qs := ps.map fun (i, x) => (i, e' x)) ht ?_).sr (by unfold execOp; simp only [hop]) (by unfold execOp; simp only [hop])
          rw [Array.toList_map, Array.toList_map]
          refine PL.of_map ps.toList fun p hp => hx p.2 ?_
          rw [hop]
          simp only [Op.operands]
          simp
          exact ⟨p.1, by simpa using hp⟩
        · rename_i t l c hop
          split at ht
          · rename_i el hu
            exact fin (sr_makeSlice hu ht (hx l (by rw [hop]; simp [Op.operands])) (hx c (by rw [hop]; simp [Op.operands]))) (by unfold execOp; simp only [hop]) (by unfold execOp; simp only [hop])
          · cases ht
        · rename_i t q hop
          refine fin (TR.makeMap (t := t) (a := q.map e) (b := q.map e') (by cases q <;> rfl) ?_).sr (by unfold execOp; simp only [hop]) (by unfold execOp; simp only [hop])
          intro v v' h1 h2
          cases q with
          | none => cases h1
          | some x =>
            simp only [Option.map_some, Option.some.injEq] at h1 h2
            subst h1 h2
            exact hx x (by rw [hop]; simp [Op.operands])
        · cases ht
    unfold genA at h
    cases hf : ifb (addrs o.op) false (allFlat e o.op.operands.toList) with
    | false => rw [hf, ifb_false] at h; exact tm h
    | true =>
      rw [hf, ifb_true] at h
      have hall : allFlat e o.op.operands.toList = true := by
        cases ha : addrs o.op with
        | true => rw [ha, ifb_true] at hf; cases hf
        | false => rw [ha, ifb_false] at hf; exact hf
      have heq : execOp e o = execOp e' o := execOp_congr o (notSel_ne hc.1) fun x hm => (flat_eq (allFlat_mem hall x (by simpa using hm)) (hx x hm)).symm
      split at h
      · rename_i m hp
        cases hn : flatNext m with
        | false => rw [hn, ifb_false] at h; cases h
        | true =>
          rw [hn, ifb_true] at h
          simp only [Option.some.injEq, Prod.mk.injEq] at h
          obtain ⟨rfl, rfl⟩ := h
          rw [heq] at hp
          exact .here hrel (pr_run _ _ w hp) (flatNext_refl r hn)
      · exact tm h

end Go.Eng

namespace Go.Eng
open Go.RowKit

variable {P : Program} {G N : Nat}

/-! ### Cells that are read and stored -/

theorem takeN_spec : ∀ (n : Nat) (l m : List Value), takeN n l = some m → n ≤ l.length ∧ m = l.take n
  | 0, l, m, h => by simp only [takeN, Option.some.injEq] at h; subst h; simp
  | n + 1, [], m, h => by simp [takeN] at h
  | n + 1, v :: l, m, h => by
    simp only [takeN] at h
    split at h
    · rename_i m' hm
      simp only [Option.some.injEq] at h
      subst h
      obtain ⟨h1, h2⟩ := takeN_spec n l m' hm
      exact ⟨by simp; omega, by simp [h2]⟩
    · cases h

theorem dropN_eq : ∀ (n : Nat) (l : List Value), dropN n l = l.drop n
  | 0, l => by simp [dropN]
  | n + 1, [] => by simp [dropN]
  | n + 1, _ :: l => by simp [dropN, dropN_eq n l]

theorem cellsFrom_inv {H : AH} {a : Addr} {n : Nat} {l : List Value} (hn : n ≠ 0) (h : cellsFrom H a n = some l) : a.spot = none ∧ ∃ c e fz, H.get a.block = some (.cells ⟨c⟩ e fz) ∧ a.off + n ≤ c.length ∧ l = (c.drop a.off).take n := by
  unfold cellsFrom at h
  split at h
  · exact absurd rfl hn
  · split at h
    · cases h
    · rename_i hs
      split at h
      · rename_i c e fz hg
        rw [dropN_eq] at h
        obtain ⟨h1, h2⟩ := takeN_spec _ _ _ h
        refine ⟨hs, c, e, fz, hg, ?_, h2⟩
        simp only [List.length_drop] at h1
        omega
      · cases h

theorem cellsFrom_len {H : AH} {a : Addr} {n : Nat} {l : List Value} (h : cellsFrom H a n = some l) : l.length = n := by
  by_cases hn : n = 0
  · subst hn
    simp only [cellsFrom, Option.some.injEq] at h
    subst h
    rfl
  · obtain ⟨_, c, _, _, _, h1, rfl⟩ := cellsFrom_inv hn h
    simp
    omega

theorem add_spot {a : Addr} (h : a.spot = none) (i : Nat) : a.add i = ⟨a.block, a.off + i, none⟩ := by
  unfold Addr.add
  obtain ⟨b, o, s⟩ := a
  simp only at h
  subst h
  by_cases hi : i = 0
  · subst hi; simp
  · simp [hi]

theorem cell_at {H : AH} {a : Addr} {c : List Value} {e : TypeId} {fz : Nat × Nat} (hs : a.spot = none) (hg : H.get a.block = some (.cells ⟨c⟩ e fz)) (i : Nat) : H.cell (a.add i) = c[a.off + i]? := by
  rw [add_spot hs]
  simp only [AH.cell, hg]
  simp

theorem ar_loadFrom {H : AH} {a : Addr} {c : List Value} {e : TypeId} {fz : Nat × Nat} (hs : a.spot = none) (hg : H.get a.block = some (.cells ⟨c⟩ e fz)) : ∀ (n i : Nat) (acc : Array Value), a.off + i + n ≤ c.length →
    ar P (loadCellsFrom a i n acc) H = some (⟨acc.toList ++ (c.drop (a.off + i)).take n⟩, H)
  | 0, i, acc, _ => by simp [loadCellsFrom, ar, pure]
  | n + 1, i, acc, h => by
    have hlt : a.off + i < c.length := by omega
    unfold loadCellsFrom
    show ar P (Sem.bind (Sem.load _ (a.add i) Sem.pure) _) H = _
    simp only [Sem.bind, ar, cell_at hs hg, List.getElem?_eq_getElem hlt]
    rw [ar_loadFrom hs hg n (i + 1) _ (by omega)]
    rw [List.drop_eq_getElem_cons hlt]
    simp [Nat.add_assoc]

theorem ar_loadCells {H : AH} {a : Addr} {n : Nat} {l : List Value} (h : cellsFrom H a n = some l) : ar P (loadCells a n) H = some (⟨l⟩, H) := by
  by_cases hn : n = 0
  · subst hn
    simp only [cellsFrom, Option.some.injEq] at h
    subst h
    rfl
  · obtain ⟨hs, c, e, fz, hg, h1, rfl⟩ := cellsFrom_inv hn h
    unfold loadCells
    rw [ar_loadFrom hs hg n 0 #[] (by omega)]
    simp

theorem HE.refl (H : AH) : HE H H := ⟨rfl, rfl, fun _ => rfl⟩
theorem HE.trans {H1 H2 H3 : AH} (h : HE H1 H2) (k : HE H2 H3) : HE H1 H3 := ⟨k.1.trans h.1, k.2.1.trans h.2.1, fun i => (k.2.2 i).trans (h.2.2 i)⟩

theorem ar_storeFrom {a : Addr} {e : TypeId} {fz : Nat × Nat} (hs : a.spot = none) : ∀ (vs : List Value) (i : Nat) (H : AH) (c : List Value), H.get a.block = some (.cells ⟨c⟩ e fz) → H.lo ≤ a.block → H.next ≤ most →
    (∀ v, v ∈ vs → one v = true) → a.off + i + vs.length ≤ c.length → (∀ k, i ≤ k → k < i + vs.length → inFrozen fz (a.off + k) = false) →
    ∃ H2, ar P (storeCells a vs i) H = some ((), H2) ∧ HE (H.set a.block (.cells ⟨c.take (a.off + i) ++ (vs ++ c.drop (a.off + i + vs.length))⟩ e fz)) H2
  | [], i, H, c, hg, _, hb, _, hl, _ => by
    refine ⟨H, rfl, rfl, rfl, fun k => ?_⟩
    rw [AH.get_set H hb (AH.get_lt hg)]
    by_cases hk : k = a.block
    · subst hk
      rw [if_pos rfl, hg]
      simp
    · rw [if_neg hk]
  | v :: vs, i, H, c, hg, hlo, hb, h1, hl, hf => by
    have hlt : a.off + i < c.length := by simp at hl; omega
    have hset : H.setCell (a.add i) v = some (H.set a.block (.cells ⟨c.set (a.off + i) v⟩ e fz)) := by
      rw [add_spot hs]
      simp only [AH.setCell, hg]
      rw [if_pos ⟨hlt, hlo⟩, hf i (Nat.le_refl _) (by simp)]
      simp
    have hgs := AH.get_set H hb (AH.get_lt hg) (.cells ⟨c.set (a.off + i) v⟩ e fz)
    obtain ⟨H2, g1, g2⟩ := ar_storeFrom hs vs (i + 1) (H.set a.block (.cells ⟨c.set (a.off + i) v⟩ e fz)) (c.set (a.off + i) v) (by rw [hgs, if_pos rfl]) hlo hb (fun u hu => h1 u (by simp [hu])) (by simp at hl ⊢; omega)
      (fun k hk1 hk2 => hf k (by omega) (by simp; omega))
    refine ⟨H2, ?_, HE.trans ?_ g2⟩
    · unfold storeCells
      show ar P (Sem.bind (Sem.store _ (a.add i) v (Sem.pure ())) _) H = _
      simp only [Sem.bind, ar, h1 v (by simp), hset]
      exact g1
    · refine ⟨rfl, rfl, fun k => ?_⟩
      rw [set_set H hb (AH.get_lt hg) (AH.get_lt hg), AH.get_set H hb (AH.get_lt hg)]
      by_cases hk : k = a.block
      · rw [if_pos hk, if_pos hk]
        have e1 : (c.set (a.off + i) v).take (a.off + (i + 1)) = c.take (a.off + i) ++ [v] := by
          rw [show a.off + (i + 1) = (a.off + i) + 1 from by omega, List.take_add_one]
          simp only [List.take_set, List.getElem?_set_self hlt]
          rw [List.set_eq_of_length_le (by simp; omega)]
          rfl
        have e2 : (c.set (a.off + i) v).drop (a.off + (i + 1) + vs.length) = c.drop (a.off + i + (v :: vs).length) := by
          rw [List.drop_set_of_lt (by omega)]
          congr 1
          simp
          omega
        rw [e1, e2]
        simp
      · rw [if_neg hk, if_neg hk, if_neg hk]

theorem noFrozen_spec {fz : Nat × Nat} {a n : Nat} (h : noFrozen fz a n = true) : ∀ k, k < n → inFrozen fz (a + k) = false := by
  intro k hk
  unfold noFrozen at h
  unfold inFrozen
  cases h1 : Nat.ble fz.2 fz.1 with
  | true => have := Nat.le_of_ble_eq_true h1; simp; omega
  | false =>
    rw [h1, ifb_false] at h
    cases h2 : Nat.ble (a + n) fz.1 with
    | true => have := Nat.le_of_ble_eq_true h2; simp; omega
    | false =>
      rw [h2, ifb_false] at h
      have := Nat.le_of_ble_eq_true h
      simp; omega

theorem ar_storeCells {H H1 : AH} {a : Addr} {vs : List Value} (hb : H.next ≤ most) (h : storeAll H a vs = some H1) : ∃ H2, ar P (storeCells a vs) H = some ((), H2) ∧ HE H1 H2 := by
  by_cases hv : vs = []
  · subst hv
    simp only [storeAll, Option.some.injEq] at h
    subst h
    exact ⟨H, rfl, .refl H⟩
  · obtain ⟨hs, c, e, fz, hg, hlo, hf, h1, h2, rfl⟩ := storeAll_inv hv h
    exact ar_storeFrom hs vs 0 H c hg hlo hb h1 (by omega) (fun k _ hk => noFrozen_spec hf k (by omega))

theorem ar_underlying {t : TypeId} {d : TypeDesc} (h : P.underlying t = some d) (H : AH) : ar P (underlying t) H = some (d, H) := by
  unfold underlying program
  simp only [bind, Sem.bind, ar, h, pure]
theorem ar_typeInfo {t : TypeId} {i : TypeInfo} (h : P.info? t = some i) (H : AH) : ar P (typeInfo t) H = some (i, H) := by
  unfold typeInfo program
  simp only [bind, Sem.bind, ar, h, pure]
theorem ar_bind' {α β : Type} {t : Sem α} {f : α → Sem β} {H H1 : AH} {a : α} (h : ar P t H = some (a, H1)) : ar P (t >>= f) H = ar P (f a) H1 := by
  show ar P (t.bind f) H = _
  rw [ar_bind, h]
theorem ar_sizeOf {t : TypeId} {i : TypeInfo} (h : P.info? t = some i) (H : AH) : ar P (sizeOf t) H = some (i.size, H) := by
  unfold Go.sizeOf
  rw [ar_bind' (ar_typeInfo h H)]
  rfl

/-- An operation that is reckoned by its tree. -/
theorem OpT.of_sr {r : PM} {H H' : AH} {w : World} {v : Value} {t t' : Sem Value} (hrel : Rel P G N r H w) (hs : SR P VRR r t t') (ha : ar P t H = some (v, H')) : OpT P G N r H w (.value v) H' (do pure (Next.value (← t'))) := by
  obtain ⟨s, b, w', g1, g2, g3⟩ := hs G N H w v H' hrel ha
  exact ⟨s, .value b, w', run_val g1, g2, g3⟩

theorem opLoad_sound {r : PM} {H H' : AH} {w : World} {n : Next} {t : TypeId} {v v' : Value} (hrel : Rel P G N r H w) (hv : VR r v v') (h : opLoad P t v H = some (n, H')) : OpT P G N r H w n H' (do pure (Next.value (← Instr.loadAt t v'))) := by
  unfold opLoad at h
  split at h
  · split at h
    · rename_i p
      split at h
      · rename_i u hu
        simp only [Option.some.injEq, Prod.mk.injEq] at h
        obtain ⟨rfl, rfl⟩ := h
        refine OpT.of_sr hrel (TR.loadAt hv).sr ?_
        show ar P (loadVar t p) H = _
        unfold loadVar isAgg
        unfold loadA at hu
        have fin1 : ∀ (n : Nat) (l : List Value) (i : TypeInfo), P.info? t = some i → i.size = n → cellsFrom H p n = some l → ar P (do pure (Value.agg (← loadCells p (← sizeOf t)))) H = some (.agg ⟨l⟩, H) := fun n l i hi hn hl => by
          subst hn
          rw [ar_bind' (ar_sizeOf hi H), ar_bind' (ar_loadCells hl)]
          rfl
        split at hu
        · rename_i n hag
          split at hu
          · rename_i l hl
            simp only [Option.some.injEq] at hu
            subst hu
            unfold aggOf at hag
            split at hag
            · rename_i fs hd
              simp only [Option.map_eq_some_iff] at hag
              obtain ⟨i, hi, hn⟩ := hag
              rw [ar_bind' (H1 := H) (a := true) (by rw [ar_bind' (ar_underlying hd H)]; rfl)]
              exact fin1 n l i hi (by simpa using hn) hl
            · rename_i k el hd
              simp only [Option.map_eq_some_iff] at hag
              obtain ⟨i, hi, hn⟩ := hag
              rw [ar_bind' (H1 := H) (a := true) (by rw [ar_bind' (ar_underlying hd H)]; rfl)]
              exact fin1 n l i hi (by simpa using hn) hl
            · cases hag
            · cases hag
          · cases hu
        · rename_i hag
          unfold aggOf at hag
          split at hag
          · simp at hag
          · simp at hag
          · rename_i d h1 h2 hd
            rw [ar_bind' (H1 := H) (a := false) (by
              rw [ar_bind' (ar_underlying hd H)]
              cases d <;> first | rfl | exact absurd rfl (h1 _) | exact absurd rfl (h2 _ _))]
            show ar P (Sem.load _ p Sem.pure) H = _
            simp only [ar, hu]
          · cases hag
        · cases hu
      · cases h
    · cases h
  · cases h

theorem opStore_sound {r : PM} {H H' : AH} {w : World} {n : Next} {t : TypeId} {v v' u u' : Value} (hrel : Rel P G N r H w) (hv : VR r v v') (hu : VR r u u') (h : opStore P t v u H = some (n, H')) :
    OpT P G N r H w n H' (do Instr.storeAt t v' u'; pure Next.skip) := by
  unfold opStore at h
  split at h
  · split at h
    · rename_i p
      cases hc : Nat.beq (sz1 P t) (u.cells.size + 1) with
      | false => rw [hc, ifb_false] at h; cases h
      | true =>
        rw [hc, ifb_true] at h
        replace hc := Nat.eq_of_beq_eq_true hc
        split at h
        · rename_i H1 hs
          simp only [Option.some.injEq, Prod.mk.injEq] at h
          obtain ⟨rfl, rfl⟩ := h
          obtain ⟨H2, g1, g2⟩ := ar_storeCells (P := P) hrel.bound hs
          have har : ar P (Instr.storeAt t (.pointer (some p)) u) H = some ((), H2) := by
            show ar P (storeVar t p u) H = _
            unfold storeVar
            unfold sz1 at hc
            split at hc
            · rename_i i hi
              rw [ar_bind' (ar_sizeOf hi H)]
              rw [if_neg (by omega)]
              exact g1
            · omega
          obtain ⟨s, b, w', j1, _, j3⟩ := (TR.storeAt hv hu).sr G N H w () H2 hrel har
          exact ⟨s, .skip, w', run_unit j1, trivial, g2.symm.ex j3⟩
        · cases h
    · cases h
  · cases h

end Go.Eng

namespace Go.Eng
open Go.RowKit

variable {P : Program} {G N : Nat}

theorem run_b {α β : Type} {t : Sem α} {f : α → Sem β} {w w1 : World} {a : α} (h : t.run P w = .ok a w1) : (t >>= f).run P w = (f a).run P w1 := by
  show (t.bind f).run P w = _
  rw [run_bind', h]

/-! ### Shapes -/

theorem VR.bool_inv {r : PM} {b : Bool} {v : Value} (h : VR r (.bool b) v) : v = .bool b := flat_eq (r := r) rfl h
theorem VR.int_inv {r : PM} {k : IntKind} {n : Int} {v : Value} (h : VR r (.int k n) v) : v = .int k n := flat_eq (r := r) rfl h
theorem VR.string_inv {r : PM} {s : ByteArray} {v : Value} (h : VR r (.string s) v) : v = .string s := flat_eq (r := r) rfl h
theorem VR.pointer_inv {r : PM} {a : Addr} {v : Value} (h : VR r (.pointer (some a)) v) : ∃ b, v = .pointer (some b) ∧ AR r a b := by
  cases v <;> try (simp only [VR] at h; done)
  rename_i b
  cases b <;> simp only [VR] at h
  exact ⟨_, rfl, h⟩
theorem VR.slice_inv {r : PM} {a : Option Addr} {l c : Nat} {v : Value} (h : VR r (.slice a l c) v) : ∃ b c', v = .slice b l c' ∧ a.isNone = b.isNone := by
  cases a with
  | none =>
    cases v <;> try (simp only [VR] at h; done)
    rename_i b l' c'
    cases b <;> simp only [VR] at h
    obtain ⟨rfl, rfl⟩ := h
    exact ⟨_, _, rfl, rfl⟩
  | some a =>
    cases v <;> try (simp only [VR] at h; done)
    rename_i b l' c'
    cases b <;> simp only [VR] at h
    obtain ⟨rfl, _⟩ := h
    exact ⟨_, _, rfl, rfl⟩
theorem VR.slice_some {r : PM} {a : Addr} {l c : Nat} {v : Value} (h : VR r (.slice (some a) l c) v) (hc : 0 < c) : ∃ b s x, v = .slice (some b) l (c + x) ∧ r a.block = some (b.block, s, x) ∧ b.off = a.off + s ∧ a.spot = none ∧ b.spot = none := by
  cases v <;> try (simp only [VR] at h; done)
  rename_i b l' c'
  cases b <;> simp only [VR] at h
  obtain ⟨rfl, h | ⟨s, x, h1, h2, h3, h4, rfl⟩⟩ := h
  · omega
  · exact ⟨_, s, x, rfl, h1, h2, h3, h4⟩
theorem VR.map_inv {r : PM} {a : Option Nat} {v : Value} (h : VR r (.map a) v) : ∃ b, v = .map b ∧ a.isNone = b.isNone := by
  cases a with
  | none =>
    cases v <;> try (simp only [VR] at h; done)
    rename_i b
    cases b <;> simp only [VR] at h
    exact ⟨_, rfl, rfl⟩
  | some a =>
    cases v <;> try (simp only [VR] at h; done)
    rename_i b
    cases b <;> simp only [VR] at h
    exact ⟨_, rfl, rfl⟩

/-! ### Single operations -/

theorem opPick_sound {r : PM} {H H' : AH} {w : World} {n : Next} {c a b c' a' b' : Value} (hrel : Rel P G N r H w) (hc : VR r c c') (ha : VR r a a') (hb : VR r b b') (h : opPick c a b H = some (n, H')) :
    OpT P G N r H w n H' (do pure (.value (if ← asBool c' then a' else b'))) := by
  unfold opPick at h
  split at h
  · rename_i t
    simp only [Option.some.injEq, Prod.mk.injEq] at h
    obtain ⟨rfl, rfl⟩ := h
    rw [hc.bool_inv]
    refine .here hrel rfl ?_
    cases t
    · exact hb
    · exact ha
  · cases h

theorem opExtract_sound {r : PM} {H H' : AH} {w : World} {n : Next} {v v' : Value} {i : Nat} (hrel : Rel P G N r H w) (hv : VR r v v') (h : opExtract v i H = some (n, H')) :
    OpT P G N r H w n H' (do pure (Next.value (← Instr.extract v' i))) := by
  unfold opExtract at h
  split at h
  · rename_i l
    split at h
    · rename_i u hu
      simp only [Option.some.injEq, Prod.mk.injEq] at h
      obtain ⟨rfl, rfl⟩ := h
      cases v' <;> try (simp only [VR] at hv; done)
      rename_i l'
      obtain ⟨l'⟩ := l'
      simp only [VR] at hv
      obtain ⟨u', e1, e2⟩ := VL.get hv hu
      refine .val hrel (v' := u') ?_ e2
      unfold Instr.extract
      simp only [List.getElem?_toArray, e1]
      rfl
    · cases h
  · cases h

theorem opNil_sound {e e' : Operand → Value} {o : Oper} {x : Operand} (ho : o.op = .nilCheck x) {r : PM} {H H' : AH} {w : World} {n : Next} (hrel : Rel P G N r H w) (he : ∀ x, okOpd G x = true → VR r (e x) (e' x)) (hx : okOpd G x = true)
    (h : opNil P G e o H (e x) = some (n, H')) : OpT P G N r H w n H' (execOp e' o) := by
  have hv := he x hx
  unfold opNil at h
  split at h
  · rename_i a hea
    rw [hea] at hv
    split at h
    · rename_i p
      simp only [Option.some.injEq, Prod.mk.injEq] at h
      obtain ⟨rfl, rfl⟩ := h
      obtain ⟨b, e1, e2⟩ := hv.pointer_inv
      refine .here hrel (n' := .value (.pointer (some b))) ?_ (by simp only [NR, VR]; exact e2)
      unfold execOp
      simp only [ho, e1]
      rfl
    · cases h
  · exact gen_sound hrel he h

theorem opField_sound {e e' : Operand → Value} {o : Oper} {s : TypeId} {x : Operand} {i : Nat} (ho : o.op = .fieldAddr s x i) {r : PM} {H H' : AH} {w : World} {n : Next} (hrel : Rel P G N r H w) (he : ∀ x, okOpd G x = true → VR r (e x) (e' x)) (hx : okOpd G x = true)
    (h : opField P G e o H s i (e x) = some (n, H')) : OpT P G N r H w n H' (execOp e' o) := by
  have hv := he x hx
  unfold opField at h
  split at h
  · rename_i a hea
    rw [hea] at hv
    split at h
    · rename_i p
      split at h
      · rename_i off hf
        simp only [Option.some.injEq, Prod.mk.injEq] at h
        obtain ⟨rfl, rfl⟩ := h
        obtain ⟨b, e1, e2⟩ := hv.pointer_inv
        unfold fieldOff at hf
        split at hf
        · rename_i fs hu
          split at hf
          · rename_i f hfi
            cases hz : Nat.beq (esz P f.type) 0 with
            | true => rw [hz, ifb_true] at hf; cases hf
            | false =>
              rw [hz, ifb_false] at hf
              simp only [Option.some.injEq] at hf
              subst hf
              have hz' : esz P f.type ≠ 0 := fun h0 => by rw [h0] at hz; simp at hz
              unfold esz at hz'
              cases hinf : P.info? f.type with
              | none => rw [hinf] at hz'; exact absurd rfl hz'
              | some inf =>
                rw [hinf] at hz'
                have hex : execOp e' o = (do pure (Next.value (← Instr.fieldAt s (e' x) i)) : Sem Next) := by unfold execOp; simp only [ho]
                rw [hex, e1]
                refine .val hrel (v' := .pointer (some (b.add f.offset))) ?_ (by simp only [VR]; exact e2.add _)
                unfold Instr.fieldAt
                rw [run_b (underlying_run hu w)]
                simp only [hfi]
                show ((fieldPlace b f) >>= _).run P w = _
                have hpl : (fieldPlace b f).run P w = .ok (b.add f.offset) w := by
                  unfold fieldPlace
                  rw [run_b (sizeOf_run hinf w), if_neg (by simpa using hz')]
                  rfl
                rw [run_b hpl]
                rfl
          · cases hf
        · cases hf
      · exact gen_sound hrel he h
    · cases h
  · cases h

theorem asIntOf_run (k : IntKind) (n : Int) (w : World) : (asIntOf (.int k n)).run P w = .ok (k, n) w := rfl

theorem opIndex_sound {e e' : Operand → Value} {o : Oper} {t : TypeId} {x ix : Operand} (ho : o.op = .indexAddr t x ix) {r : PM} {H H' : AH} {w : World} {n : Next} (hrel : Rel P G N r H w) (he : ∀ x, okOpd G x = true → VR r (e x) (e' x)) (hx : okOpd G x = true) (hi : okOpd G ix = true)
    (h : opIndex P G e o H t (e x) (e ix) = some (n, H')) : OpT P G N r H w n H' (execOp e' o) := by
  have hv := he x hx
  have hj := he ix hi
  unfold opIndex at h
  split at h
  · rename_i sz hsz
    split at h
    · rename_i a len cap k i hea hei
      rw [hea] at hv
      rw [hei] at hj
      cases hc : ifb (Nat.blt i len) (Nat.blt 0 cap) false with
      | false => rw [hc, ifb_false] at h; cases h
      | true =>
        rw [hc, ifb_true] at h
        rw [ifb_and, Bool.and_eq_true] at hc
        simp only [Option.some.injEq, Prod.mk.injEq] at h
        obtain ⟨rfl, rfl⟩ := h
        have hlt : i < len := by simpa [Nat.blt_eq] using hc.1
        have hcap : 0 < cap := by simpa [Nat.blt_eq] using hc.2
        obtain ⟨b, s, q, e1, e2, e3, e4, e5⟩ := hv.slice_some hcap
        have e6 := hj.int_inv
        unfold elemSize at hsz
        split at hsz
        · rename_i el hu
          simp only [Option.map_eq_some_iff] at hsz
          obtain ⟨inf, hinf, rfl⟩ := hsz
          have hex : execOp e' o = (do pure (Next.value (← Instr.indexAt t (e' x) (e' ix))) : Sem Next) := by unfold execOp; simp only [ho]
          rw [hex, e1, e6]
          refine .val hrel (v' := .pointer (some (b.add (i * inf.size)))) ?_ (by simp only [VR]; exact AR.add ⟨s, q, e2, e3, e4, e5⟩ _)
          unfold Instr.indexAt
          rw [run_b (asIntOf_run _ _ w)]
          simp only
          rw [run_b (underlying_run hu w)]
          simp only
          rw [run_b (a := (some b, len, el)) (w1 := w) rfl]
          simp only
          rw [run_b (underlying_run hu w)]
          simp only
          rw [if_pos ⟨Int.natCast_nonneg i, by simpa using hlt⟩, run_b (sizeOf_run hinf w)]
          rfl
        · cases hsz
    · cases h
  · split at h
    · rename_i n sz hsz
      split at h
      · rename_i a k i hea hei
        rw [hea] at hv
        rw [hei] at hj
        cases hc : Nat.blt i n with
        | false => rw [hc, ifb_false] at h; cases h
        | true =>
          rw [hc, ifb_true] at h
          simp only [Option.some.injEq, Prod.mk.injEq] at h
          obtain ⟨rfl, rfl⟩ := h
          have hlt : i < n := by simpa [Nat.blt_eq] using hc
          obtain ⟨b, e1, e2⟩ := hv.pointer_inv
          have e6 := hj.int_inv
          unfold arrElem at hsz
          split at hsz
          · rename_i len el hu
            simp only [Option.map_eq_some_iff, Prod.mk.injEq] at hsz
            obtain ⟨inf, hinf, rfl, rfl⟩ := hsz
            have hex : execOp e' o = (do pure (Next.value (← Instr.indexAt t (e' x) (e' ix))) : Sem Next) := by unfold execOp; simp only [ho]
            rw [hex, e1, e6]
            refine .val hrel (v' := .pointer (some (b.add (i * inf.size)))) ?_ (by simp only [VR]; exact e2.add _)
            unfold Instr.indexAt
            rw [run_b (asIntOf_run _ _ w)]
            simp only
            rw [run_b (underlying_run hu w)]
            simp only
            rw [run_b (a := b) (w1 := w) rfl]
            rw [run_b (a := (some b, len, el)) (w1 := w) rfl]
            simp only
            rw [run_b (underlying_run hu w)]
            simp only
            rw [if_pos ⟨Int.natCast_nonneg i, by simpa using hlt⟩, run_b (sizeOf_run hinf w)]
            rfl
          · cases hsz
      · cases h
    · exact gen_sound hrel he h

theorem opFresh_sound {e e' : Operand → Value} {o : Oper} {r : PM} {H H' : AH} {w : World} {n : Next} (hrel : Rel P G N r H w) (he : ∀ x, okOpd G x = true → VR r (e x) (e' x))
    (h : opFresh P G e o.op H = some (n, H')) : OpT P G N r H w n H' (execOp e' o) := by
  unfold opFresh at h
  split at h
  · rename_i ob mk hf
    cases hc : Nat.blt H.next most with
    | false => rw [hc, ifb_false] at h; cases h
    | true =>
      rw [hc, ifb_true] at h
      simp only [Option.some.injEq, Prod.mk.injEq] at h
      obtain ⟨rfl, rfl⟩ := h
      have hlt : H.next < most := by simpa [Nat.blt_eq] using hc
      obtain ⟨ob', mk', h1, h2, h3⟩ := freshS e e' o ob mk r hf fun x _ hx => he x hx
      have hex := Ex.fresh hrel (w' := { w with heap := w.heap.push ob' }) hlt (o := ob) (b := w.heap.size) (s := 0) (x := 0) (by simp) (by simp) (Nat.le_refl _)
        (fun k hk => by show (w.heap.push ob')[k]? = _; rw [Array.getElem?_push, if_neg (by omega)]) (by show ObjAt P r 0 0 ob (w.heap.push ob')[w.heap.size]?; rw [Array.getElem?_push_size]; exact h1.at) rfl rfl rfl
      exact ⟨_, _, _, h2 w, h3 _ _ _ (ins_same _ _ _), hex⟩
  · cases h

end Go.Eng

namespace Go.Eng
open Go.RowKit

variable {P : Program} {G N : Nat}

theorem exec_val {e : Operand → Value} {o : Oper} {f : Operand} {c : Call} (ho : o.op = .call c) (hc : c.callee = .value f) {fn : Fn} {first captured : Array Value} (hv : e f = .func fn first captured) :
    execOp e o = invoke (.fn fn captured) (first ++ c.args.map e) := by
  unfold execOp
  simp only [ho, resolve, hc, hv, Deferred.ofValue]
  rfl

theorem exec_builtin {e : Operand → Value} {o : Oper} {c : Call} {b : Builtin} (ho : o.op = .call c) (hc : c.callee = .builtin b) :
    execOp e o = builtin b c.argTypes o.type (c.args.map fun | .const _ => true | _ => false) (c.args.map e) := by
  unfold execOp
  simp only [ho, resolve, hc]
  rfl

theorem EL.size {r : PM} : ∀ {l m : Array MapEntry}, EL r l.toList m.toList → m.size = l.size := by
  have key : ∀ {l m : List MapEntry}, EL r l m → m.length = l.length := by
    intro l
    induction l with
    | nil => intro m h; cases m with
      | nil => rfl
      | cons a m => simp only [EL] at h
    | cons a l ih => intro m h; cases m with
      | nil => simp only [EL] at h
      | cons b m => simp only [EL] at h; simp only [List.length_cons]; rw [ih h.2]
  intro l m h
  simpa using key h
theorem opLen_sound {e e' : Operand → Value} {o : Oper} {c : Call} (ho : o.op = .call c) (hc : c.callee = .builtin .len) {x : Operand} {t : TypeId} (ha : c.args.toList = [x]) (ht : c.argTypes.toList = [t]) {r : PM} {H H' : AH} {w : World} {n : Next} (hrel : Rel P G N r H w)
    (he : ∀ x, okOpd G x = true → VR r (e x) (e' x)) (hx : okOpd G x = true) (h : opLen P G e o H t (e x) = some (n, H')) : OpT P G N r H w n H' (execOp e' o) := by
  have hv := he x hx
  have ha' : c.args.map e' = #[e' x] := by
    have : c.args = #[x] := by rw [← Array.toList_inj]; exact ha
    rw [this]; simp
  have ht' : c.argTypes = #[t] := by rw [← Array.toList_inj]; exact ht
  unfold opLen at h
  split at h
  · rename_i s hs
    rw [hs] at hv
    cases hk : Nat.beq (lenKind P t) 1 with
    | false => rw [hk, ifb_false] at h; cases h
    | true =>
      rw [hk, ifb_true] at h
      simp only [Option.some.injEq, Prod.mk.injEq] at h
      obtain ⟨rfl, rfl⟩ := h
      have hu : P.underlying t = some .string := by
        unfold lenKind at hk
        split at hk <;> first | assumption | (simp at hk)
      rw [exec_builtin ho hc, ha', ht', hv.string_inv]
      refine OpT.val hrel (t := Builtin.len_ #[t] o.type #[.string s]) (v' := .int .i64 (.ofNat s.size)) ?_ (flat_refl r _ rfl)
      unfold Builtin.len_
      simp only [List.getElem?_toArray, List.getElem?_cons_zero]
      rw [run_b (underlying_run hu w)]
      rfl
  · rename_i a l cp hs
    rw [hs] at hv
    cases hk : Nat.beq (lenKind P t) 2 with
    | false => rw [hk, ifb_false] at h; cases h
    | true =>
      rw [hk, ifb_true] at h
      simp only [Option.some.injEq, Prod.mk.injEq] at h
      obtain ⟨rfl, rfl⟩ := h
      have hu : ∃ el, P.underlying t = some (.slice el) := by
        unfold lenKind at hk
        split at hk <;> first | (exact ⟨_, by assumption⟩) | (simp at hk)
      obtain ⟨el, hu⟩ := hu
      obtain ⟨b, c', e1, _⟩ := hv.slice_inv
      rw [exec_builtin ho hc, ha', ht', e1]
      refine OpT.val hrel (t := Builtin.len_ #[t] o.type #[.slice b l c']) (v' := .int .i64 (.ofNat l)) ?_ (flat_refl r _ rfl)
      unfold Builtin.len_
      simp only [List.getElem?_toArray, List.getElem?_cons_zero]
      rw [run_b (underlying_run hu w)]
      rfl
  · rename_i i hs
    rw [hs] at hv
    split at h
    · rename_i es nn hg
      cases hk : Nat.beq (lenKind P t) 3 with
      | false => rw [hk, ifb_false] at h; cases h
      | true =>
        rw [hk, ifb_true] at h
        simp only [Option.some.injEq, Prod.mk.injEq] at h
        obtain ⟨rfl, rfl⟩ := h
        have hu : ∃ a b, P.underlying t = some (.map a b) := by
          unfold lenKind at hk
          split at hk <;> first | (exact ⟨_, _, by assumption⟩) | (simp at hk)
        obtain ⟨ka, kb, hu⟩ := hu
        cases hv' : e' x <;> rw [hv'] at hv <;> try (simp only [VR] at hv; done)
        rename_i b
        cases b with
        | none => simp only [VR] at hv
        | some b =>
          simp only [VR] at hv
          obtain ⟨s, z, hr⟩ := hv
          obtain ⟨b1, s1, x1, f1, _, q, g1, g2⟩ := hrel.obj _ _ hg rfl
          rw [hr] at f1
          simp only [Option.some.injEq, Prod.mk.injEq] at f1
          obtain ⟨rfl, rfl, rfl⟩ := f1
          cases q <;> simp only [OR] at g2
          rename_i es' n'
          obtain ⟨_, hel⟩ := g2
          have hsz : es'.size = es.size := EL.size hel
          have hgo : (getObj b).run P w = .ok (.map es' n') w := by
            show (Sem.getObj b Sem.pure).run P w = _
            simp only [Sem.run, g1]
          rw [exec_builtin ho hc, ha', ht', hv']
          refine OpT.val hrel (t := Builtin.len_ #[t] o.type #[.map (some b)]) (v' := .int .i64 (.ofNat es.size)) ?_ (flat_refl r _ rfl)
          unfold Builtin.len_
          simp only [List.getElem?_toArray, List.getElem?_cons_zero]
          rw [run_b (underlying_run hu w)]
          show (getObj b >>= _ : Sem Value).run P w = _
          rw [run_b hgo, ← hsz]
          rfl
    · cases h
  · exact gen_sound hrel he h

theorem zip_fold {r : PM} : ∀ (ps : List Tmp) (as bs : List Value) (xs ys : Array Value), VL r as bs → VL r xs.toList ys.toList →
    VL r ((ps.zip as).foldl (fun tmps p => tmps.setIfInBounds p.1 p.2) xs).toList ((ps.zip bs).foldl (fun tmps p => tmps.setIfInBounds p.1 p.2) ys).toList
  | [], _, _, _, _, _, h => by simpa using h
  | _ :: _, [], [], _, _, _, h => by simpa using h
  | p :: ps, a :: as, b :: bs, xs, ys, hv, h => by
    simp only [VL, VR.go] at hv
    simp only [List.zip_cons_cons, List.foldl_cons]
    exact zip_fold ps as bs _ _ hv.2 (VL.setIf h p hv.1)
  | _ :: _, [], _ :: _, _, _, hv, _ => by simp [VL, VR.go] at hv
  | _ :: _, _ :: _, [], _, _, hv, _ => by simp [VL, VR.go] at hv

theorem opYield_sound {l l' : Nat} {args args' : List Value} {r : PM} {H H' : AH} {w : World} {n : Next} (hrel : Rel P G N r H w) (hb : BR r l l') (ha : VL r args args') (h : opYield l args H = some (n, H')) : OpT P G N r H w n H' (Instr.yield l' ⟨args'⟩) := by
  unfold opYield at h
  split at h
  · rename_i lp hg
    cases hc : Nat.beq args.length lp.params.size with
    | false => rw [hc, ifb_false] at h; cases h
    | true =>
      rw [hc, ifb_true] at h
      replace hc := Nat.eq_of_beq_eq_true hc
      simp only [Option.some.injEq, Prod.mk.injEq] at h
      obtain ⟨rfl, rfl⟩ := h
      obtain ⟨q, hq, ho⟩ := obj_get hrel hg rfl rfl hb
      cases q <;> simp only [OR] at ho
      rename_i lp'
      obtain ⟨h1, h2, h3, h4, h5, h6, h7, h8⟩ := ho
      refine .here hrel (n' := .round l' lp'.fn ((lp'.params.zip ⟨args'⟩).foldl (fun tmps (t, a) => tmps.setIfInBounds t a) lp'.tmps) lp'.assign lp'.body) ?_ ⟨hb, h3, ?_, h6, h7⟩
      · unfold Instr.yield
        have hgl : (Instr.getLoop l').run P w = .ok lp' w := by
          unfold Instr.getLoop
          show (Sem.getObj l' _).run P w = _
          simp only [Sem.run, hq]
          rfl
        rw [run_b hgl, if_neg (by rw [h5, ← hc]; have := ha.length; simpa using this)]
        rfl
      · rw [h5]
        have e1 : ∀ (xs : List Value) (t : Array Value), ((lp.params.zip ⟨xs⟩).foldl (fun tmps (t, a) => tmps.setIfInBounds t a) t) = ((lp.params.toList.zip xs).foldl (fun tmps p => tmps.setIfInBounds p.1 p.2) t) := fun xs t => by
          rw [← Array.foldl_toList, Array.toList_zip]
        rw [e1, e1]
        exact zip_fold _ _ _ _ _ ha h4
  · cases h

theorem args_rel {e e' : Operand → Value} {r : PM} (he : ∀ x, okOpd G x = true → VR r (e x) (e' x)) {l : List Operand} (h : allOk G l = true) : VL r (l.map e) (l.map e') := VL.of_map l fun x hx => he x (allOk_mem h x hx)

theorem same_rows : Extern.allNextRows.lookup sameName = none ∧ Extern.allNextRows.lookup "" = none ∧ (Extern.allGenericRows.lookup sameName).isNone = true ∧ (Extern.allTypedRows.lookup sameName).isNone = true ∧ (Extern.allRows.lookup sameName) = some Extern.AbiNoEscape.same ∧ (sameName == "runtime.NumGoroutine") = false := by
  refine ⟨?_, ?_, ?_, ?_, ?_, ?_⟩ <;> rfl
theorem same_run {g : FuncId} (h : sameFn P g = true) (v : Value) (w : World) : (callFunc g #[v]).run P w = .ok (.value v) w := by
  obtain ⟨r1, r2, r3, r4, r5, r6⟩ := same_rows
  unfold sameFn at h
  split at h
  · rename_i fn hf
    rw [ifb_and, ifb_and, Bool.and_eq_true, Bool.and_eq_true, Bool.or_eq_true, beq_iff_eq, beq_iff_eq, beq_iff_eq] at h
    obtain ⟨hb, hn, hor⟩ := h
    have q3 := Option.isNone_iff_eq_none.1 r3
    have q4 := Option.isNone_iff_eq_none.1 r4
    have hnext : Extern.findNext fn = none := by
      unfold Extern.findNext
      rw [hn] at hor ⊢
      rcases hor with e | e <;> rw [e] <;> simp [r1, r2]
    have hfind : Extern.find fn = some Extern.AbiNoEscape.same := by
      unfold Extern.find
      simp only [hn, q3, q4, r5]
      rfl
    unfold callFunc program
    simp only [bind, Sem.bind, Sem.run, hf, hn, r6, hb, hnext, hfind, Bool.false_eq_true, if_false, if_true, pure]
    rfl
  · cases h
theorem opCallV_sound {e e' : Operand → Value} {o : Oper} {c : Call} {f : Operand} (ho : o.op = .call c) (hc : c.callee = .value f) {r : PM} {H H' : AH} {w : World} {n : Next} (hrel : Rel P G N r H w)
    (he : ∀ x, okOpd G x = true → VR r (e x) (e' x)) (h : opCallV P G e o H c f = some (n, H')) : OpT P G N r H w n H' (execOp e' o) := by
  unfold opCallV at h
  split at h
  · rename_i g first captured hef
    cases hk : ifb (callable P g) (ifb (okOpd G f) (allOk G c.args.toList) false) false with
    | false =>
      rw [hk, ifb_false] at h
      cases hs : ifb (sameFn P g) (ifb (okOpd G f) (allOk G c.args.toList) false) false with
      | false => rw [hs, ifb_false] at h; exact gen_sound hrel he h
      | true =>
        rw [hs, ifb_true] at h
        rw [ifb_and, ifb_and, Bool.and_eq_true, Bool.and_eq_true] at hs
        have hv := he f hs.2.1
        rw [hef] at hv
        obtain ⟨first', captured', e1, e2, e3⟩ := hv.func_inv
        rw [exec_val ho hc e1]
        have hl := VL.append (VL.append e2 (args_rel he hs.2.2)) e3
        unfold sameV1 at h
        split at h
        · rename_i v hlist
          simp only [Option.some.injEq, Prod.mk.injEq] at h
          obtain ⟨rfl, rfl⟩ := h
          rw [hlist] at hl
          have hlen := hl.length
          obtain ⟨v', hv1, hv2⟩ := hl.get (k := 0) (v := v) rfl
          have hex : (⟨first'⟩ ++ c.args.map e' ++ ⟨captured'⟩ : Array Value) = #[v'] := by
            rw [← Array.toList_inj]
            simp only [Array.toList_append, Array.toList_map]
            generalize first' ++ c.args.toList.map e' ++ captured' = q at hlen hv1
            cases q with
            | nil => simp at hlen
            | cons z q =>
              cases q with
              | nil => simp at hv1; rw [hv1]
              | cons y q => simp at hlen
          refine .here hrel (n' := .value v') ?_ hv2
          show (callFunc g (⟨first'⟩ ++ c.args.map e' ++ ⟨captured'⟩)).run P w = _
          rw [hex]
          exact same_run hs.1 v' w
        · cases h
    | true =>
      rw [hk, ifb_true] at h
      rw [ifb_and, ifb_and, Bool.and_eq_true, Bool.and_eq_true] at hk
      simp only [Option.some.injEq, Prod.mk.injEq] at h
      obtain ⟨rfl, rfl⟩ := h
      have hv := he f hk.2.1
      rw [hef] at hv
      obtain ⟨first', captured', e1, e2, e3⟩ := hv.func_inv
      rw [exec_val ho hc e1]
      refine .here hrel (callFunc_run hk.1 _ w) ⟨rfl, ?_⟩
      simp only [Array.toList_append, Array.toList_map]
      exact VL.append (VL.append e2 (args_rel he hk.2.2)) e3
  · rename_i l first cp hef
    cases hk : ifb (okOpd G f) (allOk G c.args.toList) false with
    | false => rw [hk, ifb_false] at h; cases h
    | true =>
      rw [hk, ifb_true] at h
      rw [ifb_and, Bool.and_eq_true] at hk
      have hv := he f hk.1
      rw [hef] at hv
      cases hf' : e' f <;> rw [hf'] at hv <;> try (simp only [VR] at hv; done)
      rename_i fn first' cp'
      obtain ⟨first'⟩ := first'
      obtain ⟨cp⟩ := cp
      obtain ⟨cp'⟩ := cp'
      simp only [VR] at hv
      cases fn <;> simp only [FnR, false_and] at hv
      rename_i l'
      rw [exec_val ho hc hf']
      have hy := opYield_sound (P := P) (args' := first' ++ c.args.toList.map e') hrel hv.1 (VL.append hv.2.1 (args_rel he hk.2)) h
      have e9 : (⟨first'⟩ ++ c.args.map e' : Array Value) = ⟨first' ++ c.args.toList.map e'⟩ := by rw [← Array.toList_inj]; simp
      rw [e9]
      exact hy
  · cases h

/-! ### Two values held against each other -/

theorem iEq_eq (x y : Int) : iEq x y = (x == y) := by
  cases x <;> cases y <;> simp only [iEq]
  · rename_i a b
    by_cases h : a = b
    · subst h; simp
    · rw [show Nat.beq a b = false from by rw [← Bool.not_eq_true, Nat.beq_eq]; exact h]
      symm; rw [beq_eq_false_iff_ne]; intro h0; exact h (Int.ofNat.inj h0)
  · rfl
  · rfl
  · rename_i a b
    by_cases h : a = b
    · subst h; simp
    · rw [show Nat.beq a b = false from by rw [← Bool.not_eq_true, Nat.beq_eq]; exact h]
      symm; simpa using h

theorem iLt_eq (x y : Int) : iLt x y = decide (x < y) := by
  cases x <;> cases y <;> simp only [iLt]
  · rename_i a b
    rw [Bool.eq_iff_iff, Nat.blt_eq, decide_eq_true_eq]
    simp
  · rename_i a b; symm; rw [decide_eq_false_iff_not]; have := Int.natCast_nonneg a; simp only [Int.ofNat_eq_natCast]; omega
  · rename_i a b; symm; rw [decide_eq_true_eq]; have := Int.natCast_nonneg b; simp only [Int.ofNat_eq_natCast]; omega
  · rename_i a b
    rw [Bool.eq_iff_iff, Nat.blt_eq, decide_eq_true_eq]
    omega

end Go.Eng

namespace Go.Eng
open Go.RowKit

variable {P : Program} {G N : Nat}

theorem fitK_eq (k : IntKind) (n : Int) : fitK k n = k.wrap n := by
  cases n with
  | negSucc m => rfl
  | ofNat m =>
    simp only [fitK]
    cases hb : Nat.blt m (lim k) with
    | false => rfl
    | true =>
      rw [ifb_true]
      have hlt : m < lim k := by simpa [Nat.blt_eq] using hb
      symm
      cases k <;> simp only [lim] at hlt
      · exact IntWalk.i8_in _ ⟨by simp only [Int.ofNat_eq_natCast]; omega, by simp only [Int.ofNat_eq_natCast]; omega⟩
      · exact IntWalk.i16_in _ ⟨by simp only [Int.ofNat_eq_natCast]; omega, by simp only [Int.ofNat_eq_natCast]; omega⟩
      · exact IntWalk.i32_in _ ⟨by simp only [Int.ofNat_eq_natCast]; omega, by simp only [Int.ofNat_eq_natCast]; omega⟩
      · exact IntWalk.i64_in _ ⟨by simp only [Int.ofNat_eq_natCast]; omega, by simp only [Int.ofNat_eq_natCast]; omega⟩
      · exact IntWalk.u8_in _ ⟨by simp only [Int.ofNat_eq_natCast]; omega, by simp only [Int.ofNat_eq_natCast]; omega⟩
      · exact IntWalk.u16_in _ ⟨by simp only [Int.ofNat_eq_natCast]; omega, by simp only [Int.ofNat_eq_natCast]; omega⟩
      · exact IntWalk.u32_in _ ⟨by simp only [Int.ofNat_eq_natCast]; omega, by simp only [Int.ofNat_eq_natCast]; omega⟩
      · exact IntWalk.u64_in _ ⟨by simp only [Int.ofNat_eq_natCast]; omega, by simp only [Int.ofNat_eq_natCast]; omega⟩

theorem binI_run {op : BinOp} {t : TypeId} {k : IntKind} {a b : Int} {v : Value} (h : binI op k a b = some v) (w : World) : (binOp op t (.int k a) (.int k b)).run P w = .ok v w := by
  have hk : ∀ (s u : Sem Value), (if k ≠ k then s else u) = u := fun s u => by simp
  unfold binI at h
  split at h <;> first | (cases h; done) | (simp only [Option.some.injEq] at h; subst h; unfold binOp; simp only [hk])
  · rw [fitK_eq]; rfl
  · rw [fitK_eq]; rfl
  · rw [iEq_eq]; rfl
  · rw [iEq_eq]; rfl
  · rw [iLt_eq]; rfl
  · rw [iLt_eq, show (!decide (b < a)) = decide (a ≤ b) from by rw [Bool.eq_iff_iff]; simp]; rfl
  · rw [iLt_eq]; rfl
  · rw [iLt_eq, show (!decide (a < b)) = decide (b ≤ a) from by rw [Bool.eq_iff_iff]; simp]; rfl

theorem bEq_eq : ∀ (l m : List UInt8), bEq l m = (l == m)
  | [], [] => rfl
  | [], _ :: _ => rfl
  | _ :: _, [] => rfl
  | x :: l, y :: m => by
    simp only [bEq, bEq_eq l m]
    by_cases h : x = y
    · subst h
      rw [show Nat.beq x.toNat x.toNat = true from Nat.beq_refl _, ifb_true]
      simp
    · have : Nat.beq x.toNat y.toNat = false := by
        rw [← Bool.not_eq_true, Nat.beq_eq]
        exact fun h0 => h (UInt8.toNat_inj.1 h0)
      rw [this, ifb_false]
      symm
      simp [h]

theorem toList_beq (a b : ByteArray) : (a.toList == b.toList) = (a.data.toList == b.data.toList) := by
  rw [ByteArray.toList_eq, ByteArray.toList_eq]

theorem binS_run {op : BinOp} {t : TypeId} {a b : ByteArray} {v : Value} (h : binS op a b = some v) (w : World) : (binOp op t (.string a) (.string b)).run P w = .ok v w := by
  unfold binS at h
  split at h <;> first | (cases h; done) | (simp only [Option.some.injEq] at h; subst h; rw [bEq_eq, ← toList_beq]; rfl)

theorem guard_run {op : BinOp} {t : TypeId} {x y : Operand} {a b : Value} (ha : valKind a ≠ 9 ∨ (∃ k n, a = .int k n) ∨ ∃ s, a = .string s) (w : World) : (eqGuard op t x y a b).run P w = .ok () w := by
  rcases ha with h | ⟨k, n, rfl⟩ | ⟨s, rfl⟩
  · cases a <;> first | (exact absurd rfl h) | (cases op <;> rfl)
  · cases op <;> rfl
  · cases op <;> rfl

theorem same_addr (c : Addr) (w : World) : (sameAddr c c).run P w = .ok true w := by
  unfold sameAddr
  simp only [beq_self_eq_true, if_true]
  rfl
theorem size_run {el : TypeId} {i : TypeInfo} (h : P.info? el = some i) (w : World) : (sizeOf el).run P w = .ok i.size w := by
  unfold sizeOf typeInfo program
  simp only [bind, Sem.bind, Sem.run, h, pure]
theorem nilKind_ptr {t : TypeId} {a : Option Addr} (h : nilKind P t = valKind (.pointer a)) : ∃ el i, P.underlying t = some (.pointer el) ∧ P.info? el = some i := by
  unfold nilKind at h
  split at h
  · rename_i el hu
    cases hi : P.info? el with
    | none => rw [hi] at h; simp [valKind] at h
    | some i => exact ⟨el, i, hu, hi⟩
  all_goals simp [valKind] at h
theorem nilEq_run {t : TypeId} {x y x' y' : Value} {r : PM} {q : Bool} (hk : nilKind P t = valKind x) (hx : VR r x x') (hy : VR r y y') (h : nilEq x y = some q) (w : World) : (Op.equal t x' y').run P w = .ok q w := by
  unfold nilEq at h
  unfold Op.equal Op.maxDepth
  split at h
  · split at h
    · simp only [Option.some.injEq] at h
      subst h
      have e1 := flat_eq (r := r) rfl hx
      subst e1
      have hd : ∃ e, P.underlying t = some (.pointer e) := by
        unfold nilKind at hk
        split at hk <;> first | (exact ⟨_, by assumption⟩) | (simp [valKind] at hk; done) | (split at hk <;> simp [valKind] at hk)
      obtain ⟨el, hd⟩ := hd
      unfold Op.equalIn
      rw [run_b (underlying_run hd w)]
      rename_i b
      cases b with
      | none => rw [flat_eq (r := r) rfl hy]; rfl
      | some b => obtain ⟨c, e2, _⟩ := hy.pointer_inv; rw [e2]; rfl
    · cases h
  · split at h
    · simp only [Option.some.injEq] at h
      subst h
      obtain ⟨c, e2, _⟩ := hx.pointer_inv
      have e1 := flat_eq (r := r) rfl hy
      subst e1 e2
      have hd : ∃ e, P.underlying t = some (.pointer e) := by
        unfold nilKind at hk
        split at hk <;> first | (exact ⟨_, by assumption⟩) | (simp [valKind] at hk; done) | (split at hk <;> simp [valKind] at hk)
      obtain ⟨el, hd⟩ := hd
      unfold Op.equalIn
      rw [run_b (underlying_run hd w)]
      rfl
    · rename_i a _ b
      cases hs : sameA a b with
      | false => rw [hs, ifb_false] at h; cases h
      | true =>
        rw [hs, ifb_true] at h
        simp only [Option.some.injEq] at h
        subst h
        obtain ⟨c1, e1, s1, x1, f1, f2, f3, f4⟩ := hx.pointer_inv
        obtain ⟨c2, e2, s2, x2, k1, k2, k3, k4⟩ := hy.pointer_inv
        subst e1 e2
        unfold sameA at hs
        rw [ifb_and, ifb_and, ifb_and, Bool.and_eq_true, Bool.and_eq_true] at hs
        have hb : a.block = b.block := Nat.eq_of_beq_eq_true hs.1
        have ho : a.off = b.off := Nat.eq_of_beq_eq_true hs.2.1
        rw [← hb, f1] at k1
        simp only [Option.some.injEq, Prod.mk.injEq] at k1
        obtain ⟨g1, g2, g3⟩ := k1
        have hc : c1 = c2 := by
          obtain ⟨b1, o1, p1⟩ := c1
          obtain ⟨b2, o2, p2⟩ := c2
          simp only at g1 f2 f4 k2 k4
          subst g1 f4 k4
          rw [f2, k2, ho, g2]
        subst hc
        obtain ⟨el, i, hd, hi⟩ := nilKind_ptr hk
        unfold Op.equalIn
        rw [run_b (underlying_run hd w)]
        show (sizeOf el >>= _ : Sem Bool).run P w = _
        rw [run_b (size_run hi w)]
        by_cases hz : i.size = 0
        · rw [if_neg (by simpa using hz), if_pos (by simp)]
          rfl
        · rw [if_pos hz]
          exact same_addr c1 w
    · cases h
  · split at h
    · simp only [Option.some.injEq] at h
      subst h
      have e1 := flat_eq (r := r) rfl hx
      subst e1
      have hd : ∃ e, P.underlying t = some (.slice e) := by
        unfold nilKind at hk
        split at hk <;> first | (exact ⟨_, by assumption⟩) | (simp [valKind] at hk; done) | (split at hk <;> simp [valKind] at hk)
      obtain ⟨el, hd⟩ := hd
      unfold Op.equalIn
      rw [run_b (underlying_run hd w)]
      obtain ⟨b', c', e2, e3⟩ := hy.slice_inv
      rw [e2, e3]
      rfl
    · cases h
  · split at h
    · simp only [Option.some.injEq] at h
      subst h
      obtain ⟨b', c', e2, e3⟩ := hx.slice_inv
      have e1 := flat_eq (r := r) rfl hy
      subst e1 e2
      have hd : ∃ e, P.underlying t = some (.slice e) := by
        unfold nilKind at hk
        split at hk <;> first | (exact ⟨_, by assumption⟩) | (simp [valKind] at hk; done) | (split at hk <;> simp [valKind] at hk)
      obtain ⟨el, hd⟩ := hd
      unfold Op.equalIn
      rw [run_b (underlying_run hd w)]
      cases b' with
      | none => cases e3
      | some b' => rfl
    · cases h
  · split at h
    · simp only [Option.some.injEq] at h
      subst h
      have e1 := flat_eq (r := r) rfl hx
      subst e1
      have hd : ∃ k e, P.underlying t = some (.map k e) := by
        unfold nilKind at hk
        split at hk <;> first | (exact ⟨_, _, by assumption⟩) | (simp [valKind] at hk; done) | (split at hk <;> simp [valKind] at hk)
      obtain ⟨kt, el, hd⟩ := hd
      unfold Op.equalIn
      rw [run_b (underlying_run hd w)]
      obtain ⟨b', e2, e3⟩ := hy.map_inv
      rw [e2, e3]
      rfl
    · cases h
  · split at h
    · simp only [Option.some.injEq] at h
      subst h
      obtain ⟨b', e2, e3⟩ := hx.map_inv
      have e1 := flat_eq (r := r) rfl hy
      subst e1 e2
      have hd : ∃ k e, P.underlying t = some (.map k e) := by
        unfold nilKind at hk
        split at hk <;> first | (exact ⟨_, _, by assumption⟩) | (simp [valKind] at hk; done) | (split at hk <;> simp [valKind] at hk)
      obtain ⟨kt, el, hd⟩ := hd
      unfold Op.equalIn
      rw [run_b (underlying_run hd w)]
      cases b' with
      | none => cases e3
      | some b' => rfl
    · cases h
  · cases h

theorem nilEq_kind {x y : Value} {q : Bool} (h : nilEq x y = some q) : valKind x ≠ 9 := by
  unfold nilEq at h
  split at h <;> first | (simp [valKind]; done) | cases h

theorem valKind_rel {r : PM} {x x' : Value} (h : VR r x x') (hk : valKind x ≠ 9) : valKind x' = valKind x := by
  cases x <;> first | (exact absurd rfl hk) | skip
  · rename_i a
    cases a with
    | none => rw [flat_eq (r := r) rfl h]
    | some a => obtain ⟨b, e, _⟩ := h.pointer_inv; rw [e]; rfl
  · obtain ⟨b, c, e, _⟩ := h.slice_inv; rw [e]; rfl
  · obtain ⟨b, e, _⟩ := h.map_inv; rw [e]; rfl

theorem opBin_sound {e e' : Operand → Value} {o : Oper} {op : BinOp} {t : TypeId} {x y : Operand} {z : TypeId} (ho : o.op = .binOp op t x y z) {r : PM} {H H' : AH} {w : World} {n : Next} (hrel : Rel P G N r H w)
    (he : ∀ x, okOpd G x = true → VR r (e x) (e' x)) (hx : okOpd G x = true) (hy : okOpd G y = true) (h : opBin P G e o H op t x y = some (n, H')) : OpT P G N r H w n H' (execOp e' o) := by
  have h1 := he x hx
  have h2 := he y hy
  have hex : execOp e' o = (do pure (Next.value (← (do eqGuard op t x y (e' x) (e' y); binOp op t (e' x) (e' y)))) : Sem Next) := by unfold execOp; simp only [ho]
  unfold opBin at h
  split at h
  · rename_i v hb
    simp only [Option.some.injEq, Prod.mk.injEq] at h
    obtain ⟨rfl, rfl⟩ := h
    rw [hex]
    unfold bin2 at hb
    split at hb
    · rename_i k a hxa
      rw [hxa] at h1
      split at hb
      · rename_i k' b hyb
        rw [hyb] at h2
        cases hk : kEq k k' with
        | false => rw [hk, ifb_false] at hb; cases hb
        | true =>
          rw [hk, ifb_true] at hb
          have : k = k' := by unfold kEq at hk; simpa using hk
          subst this
          rw [h1.int_inv, h2.int_inv]
          refine OpT.val hrel (v' := v) ?_ ?_
          · rw [run_b (guard_run (.inr (.inl ⟨_, _, rfl⟩)) w)]
            exact binI_run hb w
          · unfold binI at hb
            split at hb <;> first | (cases hb; done) | (simp only [Option.some.injEq] at hb; subst hb; exact flat_refl r _ rfl)
      · cases hb
    · rename_i a hxa
      rw [hxa] at h1
      split at hb
      · rename_i b hyb
        rw [hyb] at h2
        rw [h1.string_inv, h2.string_inv]
        refine OpT.val hrel (v' := v) ?_ ?_
        · rw [run_b (guard_run (.inr (.inr ⟨_, rfl⟩)) w)]
          exact binS_run hb w
        · unfold binS at hb
          split at hb <;> first | (cases hb; done) | (simp only [Option.some.injEq] at hb; subst hb; exact flat_refl r _ rfl)
      · cases hb
    · cases hb
  · cases hf : ifb (flat (e x)) (flat (e y)) false with
    | true => rw [hf, ifb_true] at h; exact gen_sound hrel he h
    | false =>
      rw [hf, ifb_false] at h
      cases hk : Nat.beq (nilKind P t) (valKind (e x)) with
      | false => rw [hk, ifb_false] at h; cases h
      | true =>
        rw [hk, ifb_true] at h
        replace hk := Nat.eq_of_beq_eq_true hk
        unfold opLook at h
        split at h
        · rename_i v hv
          simp only [Option.some.injEq, Prod.mk.injEq] at h
          obtain ⟨rfl, rfl⟩ := h
          unfold binN at hv
          split at hv
          · rename_i q hq
            have k9 := nilEq_kind hq
            have hrun := fun w => nilEq_run hk h1 h2 hq w
            have k9' : valKind (e' x) ≠ 9 := by rw [valKind_rel h1 k9]; exact k9
            rw [hex]
            split at hv <;> first | (cases hv; done) | skip
            · simp only [Option.some.injEq] at hv
              subst hv
              refine OpT.val hrel (v' := .bool q) ?_ (flat_refl r _ rfl)
              rw [run_b (guard_run (.inl k9') w)]
              have : binOp .eql t (e' x) (e' y) = (do pure (.bool (← Op.equal t (e' x) (e' y))) : Sem Value) := by
                cases hxx : e' x <;> first | rfl | (rw [hxx] at k9'; exact absurd rfl k9')
              rw [this, run_b (hrun w)]
              rfl
            · simp only [Option.some.injEq] at hv
              subst hv
              refine OpT.val hrel (v' := .bool (!q)) ?_ (flat_refl r _ rfl)
              rw [run_b (guard_run (.inl k9') w)]
              have : binOp .neq t (e' x) (e' y) = (do pure (.bool (!(← Op.equal t (e' x) (e' y)))) : Sem Value) := by
                cases hxx : e' x <;> first | rfl | (rw [hxx] at k9'; exact absurd rfl k9')
              rw [this, run_b (hrun w)]
              rfl
          · cases hv
        · cases h

end Go.Eng

namespace Go.Eng
open Go.RowKit

variable {P : Program} {G N : Nat}

theorem bytes_get (s : ByteArray) (n : Nat) : s[n]? = s.data.toList[n]? := by
  by_cases h : n < s.size
  · rw [getElem?_pos s n h]
    have h' : n < s.data.toList.length := by simpa using h
    rw [List.getElem?_eq_getElem h']
    rfl
  · rw [getElem?_neg s n h, List.getElem?_eq_none (by simpa using h)]

theorem opIx_sound {e e' : Operand → Value} {o : Oper} {t : TypeId} {x ix : Operand} (ho : o.op = .index t x ix) {r : PM} {H H' : AH} {w : World} {n : Next} (hrel : Rel P G N r H w) (he : ∀ x, okOpd G x = true → VR r (e x) (e' x)) (hx : okOpd G x = true) (hi : okOpd G ix = true)
    (h : opIx P G e o H t (e x) (e ix) = some (n, H')) : OpT P G N r H w n H' (execOp e' o) := by
  have hv := he x hx
  have hj := he ix hi
  unfold opIx at h
  split at h
  · rename_i s hs
    rw [hs] at hv
    split at h
    · rename_i k i hk
      rw [hk] at hj
      cases hc : isStr P t with
      | false => rw [hc, ifb_false] at h; cases h
      | true =>
        rw [hc, ifb_true] at h
        split at h
        · rename_i b hb
          simp only [Option.some.injEq, Prod.mk.injEq] at h
          obtain ⟨rfl, rfl⟩ := h
          have hu : P.underlying t = some .string := by
            unfold isStr at hc
            split at hc <;> first | assumption | cases hc
          have hex : execOp e' o = (do pure (Next.value (← Instr.index t (e' x) (e' ix))) : Sem Next) := by unfold execOp; simp only [ho]
          rw [hex, hv.string_inv, hj.int_inv]
          refine OpT.val hrel (v' := .int .u8 (.ofNat b.toNat)) ?_ (flat_refl r _ rfl)
          unfold Instr.index
          rw [run_b (asIntOf_run _ _ w)]
          simp only
          rw [run_b (underlying_run hu w)]
          simp only
          rw [if_pos (show (0:Int) ≤ Int.ofNat i from Int.natCast_nonneg i)]
          have : s[(Int.ofNat i).toNat]? = some b := by rw [bytes_get]; exact hb
          rw [this]
          rfl
        · cases h
    · cases h
  · exact gen_sound hrel he h

theorem bound_run {k : IntKind} {h y : Nat} {c : BoundsCode} (hy : h ≤ y) (w : World) : (Instr.sliceBound (.int k (.ofNat h)) y c).run P w = .ok h w := by
  unfold Instr.sliceBound
  rw [run_b (asIntOf_run _ _ w)]
  simp only
  rw [if_pos ⟨Int.natCast_nonneg h, by simpa using hy⟩]
  rfl

theorem bounds_run {b : Bool} {len cap h a : Nat} {lo hi : Option Value} (hh : (hi = none ∧ h = len) ∨ ∃ k, hi = some (.int k (.ofNat h)) ∧ h ≤ cap) (hl : (lo = none ∧ a = 0) ∨ ∃ k, lo = some (.int k (.ofNat a)) ∧ a ≤ h) (w : World) :
    (Instr.sliceBounds b len cap lo hi none).run P w = .ok (a, h, cap) w := by
  unfold Instr.sliceBounds
  rw [run_b (a := cap) (w1 := w) rfl]
  rcases hh with ⟨rfl, rfl⟩ | ⟨k, rfl, h1⟩
  · simp only
    rw [run_b (a := h) (w1 := w) rfl]
    rcases hl with ⟨rfl, rfl⟩ | ⟨k', rfl, h2⟩
    · rfl
    · simp only
      rw [run_b (bound_run h2 w)]
      rfl
  · simp only
    rw [run_b (bound_run h1 w)]
    rcases hl with ⟨rfl, rfl⟩ | ⟨k', rfl, h2⟩
    · rfl
    · simp only
      rw [run_b (bound_run h2 w)]
      rfl

theorem bounds3_run {b : Bool} {len cap m h a : Nat} {k1 k2 : IntKind} {lo : Option Value} (hm : m ≤ cap) (hh : h ≤ m) (hl : (lo = none ∧ a = 0) ∨ ∃ k, lo = some (.int k (.ofNat a)) ∧ a ≤ h) (w : World) :
    (Instr.sliceBounds b len cap lo (some (.int k1 (.ofNat h))) (some (.int k2 (.ofNat m)))).run P w = .ok (a, h, m) w := by
  unfold Instr.sliceBounds
  simp only
  rw [run_b (bound_run hm w), run_b (bound_run hh w)]
  rcases hl with ⟨rfl, rfl⟩ | ⟨k', rfl, h2⟩
  · rfl
  · simp only
    rw [run_b (bound_run h2 w)]
    rfl

theorem opt_rel {e e' : Operand → Value} {r : PM} {o : Option Operand} (h : ∀ x, o = some x → VR r (e x) (e' x)) : (o.map e = none → o.map e' = none) ∧ ∀ k n, o.map e = some (.int k n) → o.map e' = some (.int k n) := by
  cases o with
  | none => exact ⟨fun _ => rfl, fun k n h => (nomatch h)⟩
  | some x =>
    refine ⟨fun h => (nomatch h), fun k n hk => ?_⟩
    simp only [Option.map_some, Option.some.injEq] at hk ⊢
    have := h x rfl
    rw [hk] at this
    exact this.int_inv

theorem slice_str_run {t : TypeId} {s : ByteArray} {lo hi : Option Value} {a h : Nat} (hu : P.underlying t = some .string) (hh : (hi = none ∧ h = s.size) ∨ ∃ k, hi = some (.int k (.ofNat h)) ∧ h ≤ s.size) (hl : (lo = none ∧ a = 0) ∨ ∃ k, lo = some (.int k (.ofNat a)) ∧ a ≤ h) (w : World) :
    (Instr.sliceAt t (.string s) lo hi none).run P w = .ok (.string (s.extract a h)) w := by
  unfold Instr.sliceAt
  rw [run_b (underlying_run hu w)]
  simp only
  unfold Instr.slice
  rw [run_b (underlying_run hu w)]
  simp only [Option.isSome_none, Bool.false_eq_true, if_false]
  rw [run_b (bounds_run hh hl w)]
  rfl

theorem slice_row_run {t el : TypeId} {inf : TypeInfo} {b : Option Addr} {len cap : Nat} {lo hi mx : Option Value} {a h m : Nat} (hu : P.underlying t = some (.slice el)) (hinf : P.info? el = some inf) (w : World)
    (hb : (Instr.sliceBounds true len cap lo hi mx).run P w = .ok (a, h, m) w) :
    (Instr.sliceAt t (.slice b len cap) lo hi mx).run P w = .ok (.slice (if m = a then b else b.map (·.add (a * inf.size))) (h - a) (m - a)) w := by
  unfold Instr.sliceAt
  rw [run_b (underlying_run hu w)]
  simp only
  unfold Instr.slice
  rw [run_b (underlying_run hu w)]
  simp only
  rw [run_b hb]
  simp only
  rw [run_b (sizeOf_run hinf w)]
  rfl

theorem cut_eq (l : List UInt8) (a h : Nat) : (⟨⟨cutL l a h⟩⟩ : ByteArray) = (⟨⟨l⟩⟩ : ByteArray).extract a h := by
  apply ByteArray.ext
  rw [ByteArray.data_extract, ← Array.toList_inj, Array.toList_extract]
  simp only [cutL, List.extract_eq_take_drop]
  rw [List.drop_take]

theorem VR.inexact {r : PM} {a b : Addr} {l c' : Nat} (h : a.spot = some 1 ∨ a.spot = some 0 ∧ l = 0 ∧ c' = 0) : VR r (.slice (some a) l 0) (.slice (some b) l c') := by
  simp only [VR]; exact ⟨trivial, .inl ⟨trivial, h⟩⟩

theorem opSlice_sound {e e' : Operand → Value} {o : Oper} {t : TypeId} {x : Operand} {lo hi mx : Option Operand} (ho : o.op = .slice t x lo hi mx) {r : PM} {H H' : AH} {w : World} {n : Next} (hrel : Rel P G N r H w) (he : ∀ x, okOpd G x = true → VR r (e x) (e' x))
    (hok : allOk G (x :: (lo.toList ++ (hi.toList ++ mx.toList))) = true) (h : opSlice P G e o H t (e x) lo hi mx = some (n, H')) : OpT P G N r H w n H' (execOp e' o) := by
  have hv := he x (allOk_mem hok x (by simp))
  have hlo := opt_rel (e := e) (e' := e') (r := r) (o := lo) fun y hy => he y (allOk_mem hok y (by simp [hy]))
  have hhi := opt_rel (e := e) (e' := e') (r := r) (o := hi) fun y hy => he y (allOk_mem hok y (by simp [hy]))
  have hex : execOp e' o = (do pure (Next.value (← Instr.sliceAt t (e' x) (lo.map e') (hi.map e') (mx.map e'))) : Sem Next) := by unfold execOp; simp only [ho]
  unfold opSlice at h
  split at h
  · rename_i s hs
    rw [hs] at hv
    split at h
    · cases hc : isStr P t with
      | false => rw [hc, ifb_false] at h; cases h
      | true =>
        rw [hc, ifb_true] at h
        have hu : P.underlying t = some .string := by
          unfold isStr at hc
          split at hc <;> first | assumption | cases hc
        unfold opLook at h
        split at h
        · rename_i v hsv
          simp only [Option.some.injEq, Prod.mk.injEq] at h
          obtain ⟨rfl, rfl⟩ := h
          rw [hex, hv.string_inv]
          unfold sliceS at hsv
          split at hsv
          · rename_i l
            split at hsv
            · rename_i hb hhb
              split at hsv
              · rename_i a hab
                simp only [Option.some.injEq] at hsv
                subst hsv
                refine OpT.val hrel (v' := .string (ByteArray.extract ⟨⟨l⟩⟩ a hb)) (slice_str_run hu ?_ ?_ w) (by rw [cut_eq]; exact flat_refl r _ rfl)
                · split at hhb
                  · rename_i h0
                    simp only [Option.some.injEq] at hhb
                    exact .inl ⟨hhi.1 h0, by rw [← hhb]; rfl⟩
                  · rename_i k q h0
                    cases hq : Nat.ble q l.length with
                    | false => rw [hq, ifb_false] at hhb; cases hhb
                    | true =>
                      rw [hq, ifb_true] at hhb
                      simp only [Option.some.injEq] at hhb
                      subst hhb
                      exact .inr ⟨k, hhi.2 _ _ h0, Nat.le_of_ble_eq_true hq⟩
                  · cases hhb
                · split at hab
                  · rename_i h0
                    simp only [Option.some.injEq] at hab
                    exact .inl ⟨hlo.1 h0, hab.symm⟩
                  · rename_i k q h0
                    cases hq : Nat.ble q hb with
                    | false => rw [hq, ifb_false] at hab; cases hab
                    | true =>
                      rw [hq, ifb_true] at hab
                      simp only [Option.some.injEq] at hab
                      subst hab
                      exact .inr ⟨k, hlo.2 _ _ h0, Nat.le_of_ble_eq_true hq⟩
                  · cases hab
              · cases hsv
            · cases hsv
        · cases h
    · cases h
  · rename_i a len cap hs
    rw [hs] at hv
    split at h
    · rename_i m
      have hm := he m (allOk_mem hok m (by simp))
      split at h
      · rename_i sz hsz
        split at h
        · rename_i p
          unfold elemSize at hsz
          split at hsz
          · rename_i el hu
            simp only [Option.map_eq_some_iff] at hsz
            obtain ⟨inf, hinf, rfl⟩ := hsz
            unfold opLook at h
            split at h
            · rename_i v hsv
              simp only [Option.some.injEq, Prod.mk.injEq] at h
              obtain ⟨rfl, rfl⟩ := h
              rw [hex]
              unfold slice3 at hsv
              split at hsv
              · rename_i k hmk
                rw [hmk] at hm
                split at hsv
                · rename_i k' h1 h2
                  simp only [Option.some.injEq] at hsv
                  subst hsv
                  cases hx' : e' x <;> rw [hx'] at hv <;> try (simp only [VR] at hv; done)
                  rename_i b len' cap'
                  cases b <;> simp only [VR] at hv
                  rename_i b
                  obtain ⟨rfl, hv⟩ := hv
                  simp only [Option.map_some]
                  rw [hm.int_inv, hhi.2 _ _ h2, hlo.1 h1]
                  refine OpT.val hrel (slice_row_run (a := 0) (h := 0) (m := 0) hu hinf w (bounds3_run (Nat.zero_le _) (Nat.le_refl _) (.inl ⟨rfl, rfl⟩) w)) ?_
                  simp only [if_true, VR]
                  exact ⟨trivial, .inl ⟨trivial, .inr ⟨trivial, trivial, trivial⟩⟩⟩
                · cases hsv
              · rename_i k q hq0 hmk
                rw [hmk] at hm
                cases hq : Nat.ble q cap with
                | false => rw [hq, ifb_false] at hsv; cases hsv
                | true =>
                  rw [hq, ifb_true] at hsv
                  have hqc := Nat.le_of_ble_eq_true hq
                  have hqp : q ≠ 0 := fun h0 => by subst h0; exact hq0 rfl
                  obtain ⟨b, s1, x1, e1, e2, e3, e4, e5⟩ := hv.slice_some (by omega)
                  split at hsv
                  · rename_i k2 hb h2
                    cases hhq : Nat.ble hb q with
                    | false => rw [hhq, ifb_false] at hsv; cases hsv
                    | true =>
                      rw [hhq, ifb_true] at hsv
                      have hbq := Nat.le_of_ble_eq_true hhq
                      simp only [Option.map_some]
                      rw [e1, hm.int_inv, hhi.2 _ _ h2]
                      split at hsv
                      · rename_i h1
                        simp only [Option.some.injEq] at hsv
                        subst hsv
                        rw [hlo.1 h1]
                        refine OpT.val hrel (slice_row_run (a := 0) (h := hb) (m := q) hu hinf w (bounds3_run (by omega) hbq (.inl ⟨rfl, rfl⟩) w)) ?_
                        rw [if_neg hqp]
                        exact VR.inexact (.inl rfl)
                      · rename_i k3 l h1
                        cases hlq : Nat.ble l hb with
                        | false => rw [hlq, ifb_false] at hsv; cases hsv
                        | true =>
                          rw [hlq, ifb_true] at hsv
                          simp only [Option.some.injEq] at hsv
                          subst hsv
                          rw [hlo.2 _ _ h1]
                          refine OpT.val hrel (slice_row_run (a := l) (h := hb) (m := q) hu hinf w (bounds3_run (by omega) hbq (.inr ⟨_, rfl, Nat.le_of_ble_eq_true hlq⟩) w)) ?_
                          split <;> exact VR.inexact (.inl rfl)
                      · cases hsv
                  · cases hsv
              · cases hsv
            · cases h
          · cases hsz
        · exact gen_sound hrel he h
      · cases h
    · split at h
      · rename_i sz hsz
        split at h
        · rename_i p
          cases hlc : Nat.ble len cap with
          | false => rw [hlc, ifb_false] at h; cases h
          | true =>
            rw [hlc, ifb_true] at h
            replace hlc := Nat.le_of_ble_eq_true hlc
            unfold elemSize at hsz
            split at hsz
            · rename_i el hu
              simp only [Option.map_eq_some_iff] at hsz
              obtain ⟨inf, hinf, rfl⟩ := hsz
              unfold opLook at h
              split at h
              · rename_i v hsv
                simp only [Option.some.injEq, Prod.mk.injEq] at h
                obtain ⟨rfl, rfl⟩ := h
                rw [hex]
                unfold sliceV at hsv
                split at hsv
                · rename_i hb hhb
                  split at hsv
                  · rename_i l hab
                    simp only [Option.some.injEq] at hsv
                    subst hsv
                    cases hx' : e' x <;> rw [hx'] at hv <;> try (simp only [VR] at hv; done)
                    rename_i b len' cap'
                    cases b <;> simp only [VR] at hv
                    rename_i b
                    obtain ⟨rfl, hv⟩ := hv
                    have h1 : hb ≤ cap ∧ ∀ c2, cap ≤ c2 → ((hi.map e' = none ∧ hb = len') ∨ ∃ k, hi.map e' = some (.int k (.ofNat hb)) ∧ hb ≤ c2) := by
                      split at hhb
                      · rename_i h0
                        simp only [Option.some.injEq] at hhb
                        exact ⟨by omega, fun _ _ => .inl ⟨hhi.1 h0, hhb.symm⟩⟩
                      · rename_i k q h0
                        cases hq : Nat.ble q cap with
                        | false => rw [hq, ifb_false] at hhb; cases hhb
                        | true =>
                          rw [hq, ifb_true] at hhb
                          simp only [Option.some.injEq] at hhb
                          subst hhb
                          have := Nat.le_of_ble_eq_true hq
                          exact ⟨this, fun c2 hc2 => .inr ⟨k, hhi.2 _ _ h0, by omega⟩⟩
                      · cases hhb
                    have h2 : l ≤ hb ∧ ((lo.map e' = none ∧ l = 0) ∨ ∃ k, lo.map e' = some (.int k (.ofNat l)) ∧ l ≤ hb) := by
                      split at hab
                      · rename_i h0
                        simp only [Option.some.injEq] at hab
                        exact ⟨by omega, .inl ⟨hlo.1 h0, hab.symm⟩⟩
                      · rename_i k q h0
                        cases hq : Nat.ble q hb with
                        | false => rw [hq, ifb_false] at hab; cases hab
                        | true =>
                          rw [hq, ifb_true] at hab
                          simp only [Option.some.injEq] at hab
                          subst hab
                          have := Nat.le_of_ble_eq_true hq
                          exact ⟨this, .inr ⟨k, hlo.2 _ _ h0, this⟩⟩
                      · cases hab
                    have hcc : cap ≤ cap' := by
                      rcases hv with ⟨h0, _⟩ | ⟨_, _, _, _, _, _, rfl⟩ <;> omega
                    refine OpT.val hrel (slice_row_run (a := l) (h := hb) (m := cap') hu hinf w (bounds_run (h1.2 cap' hcc) h2.2 w)) ?_
                    cases hz : Nat.beq (Nat.sub cap l) 0 with
                    | true =>
                      have hz' : cap - l = 0 := Nat.eq_of_beq_eq_true hz
                      have key : inx p.spot = some 1 ∨ inx p.spot = some 0 ∧ Nat.sub hb l = 0 ∧ cap' - l = 0 := by
                        cases hps : p.spot with
                        | none => exact .inl rfl
                        | some q => cases q with
                          | succ q => exact .inl rfl
                          | zero =>
                            rcases hv with ⟨h0, h3 | h3⟩ | ⟨_, _, _, _, h3, _⟩
                            · rw [hps] at h3; simp at h3
                            · exact .inr ⟨rfl, by show hb - l = 0; omega, by omega⟩
                            · rw [hps] at h3; simp at h3
                      rw [ifb_true]
                      split <;> exact VR.inexact key
                    | false =>
                      have hz' : cap - l ≠ 0 := fun h0 => by rw [show Nat.sub cap l = 0 from h0] at hz; cases hz
                      rw [ifb_false]
                      rcases hv with ⟨rfl, _⟩ | ⟨s1, x1, g1, g2, g3, g4, rfl⟩
                      · omega
                      · have hsp : (p.add (Nat.mul l inf.size)).spot = none := by rw [add_spot g3]
                        rw [if_neg (by omega)]
                        simp only [VR, Option.map_some]
                        refine ⟨rfl, .inr ⟨s1, x1, ?_, ?_, hsp, ?_, by show cap + x1 - l = cap - l + x1; omega⟩⟩
                        · rw [add_spot g3, add_spot g4]; exact g1
                        · rw [add_spot g3, add_spot g4]; show b.off + l * inf.size = p.off + l * inf.size + s1; omega
                        · rw [add_spot g4]
                  · cases hsv
                · cases hsv
              · cases h
            · cases hsz
        · exact gen_sound hrel he h
      · cases h
  · cases h

end Go.Eng

namespace Go.Eng
open Go.RowKit

variable {P : Program} {G N : Nat}

/-! ### The true memory, read and stored -/

theorem run_loadFrom {b : Addr} {c : Array Value} {e : TypeId} {fz : Nat × Nat} (hs : b.spot = none) {w : World} (hw : w.heap[b.block]? = some (.cells c e fz)) : ∀ (n i : Nat) (acc : Array Value), b.off + i + n ≤ c.size →
    (loadCellsFrom b i n acc).run P w = .ok ⟨acc.toList ++ (c.toList.drop (b.off + i)).take n⟩ w
  | 0, i, acc, _ => by simp [loadCellsFrom, pure]
  | n + 1, i, acc, h => by
    have hlt : b.off + i < c.toList.length := by simp; omega
    unfold loadCellsFrom
    show (Sem.load _ (b.add i) _).run P w = _
    have hc : w.cell? (b.add i) = some (c.toList[b.off + i]) := by
      rw [add_spot hs, cell_eq w ⟨b.block, b.off + i, none⟩ rfl hw]
      simp
    simp only [Sem.run, hc]
    show (loadCellsFrom b (i + 1) n _).run P w = _
    rw [run_loadFrom hs hw n (i + 1) _ (by omega), List.drop_eq_getElem_cons hlt]
    simp [Nat.add_assoc]

/-- Cells that are known, read in the true memory. -/
theorem cells_run {r : PM} {H : AH} {w : World} (hrel : Rel P G N r H w) {a b : Addr} {n : Nat} {l : List Value} (h : cellsFrom H a n = some l) (ha : n ≠ 0 → AR r a b) :
    ∃ l' : List Value, (∀ d, (loadCells b n).run P { w with drawn := d } = .ok ⟨l'⟩ { w with drawn := d }) ∧ VL r l l' := by
  by_cases hn : n = 0
  · subst hn
    simp only [cellsFrom, Option.some.injEq] at h
    subst h
    exact ⟨[], fun d => rfl, VL.nil r⟩
  · obtain ⟨hs, c, e, fz, hg, h1, rfl⟩ := cellsFrom_inv hn h
    obtain ⟨s, x, e1, e2, _, e4⟩ := ha hn
    obtain ⟨b', s', x', f1, _, c', fz', g1, g2, g3, _⟩ := hrel.obj _ _ hg rfl
    rw [e1] at f1
    simp only [Option.some.injEq, Prod.mk.injEq] at f1
    obtain ⟨rfl, rfl, rfl⟩ := f1
    have hcs : (⟨c⟩ : Array Value).size = c.length := rfl
    rw [hcs] at g2
    refine ⟨(c'.toList.drop b.off).take n, fun d => ?_, ?_⟩
    · unfold loadCells
      rw [run_loadFrom e4 (w := { w with drawn := d }) g1 n 0 #[] (by rw [e2]; omega)]
      simp
    · refine VL.of_get (by simp; omega) fun k v hk => ?_
      have hkn : k < n := by
        rw [List.getElem?_take] at hk
        split at hk
        · assumption
        · cases hk
      rw [List.getElem?_take, if_pos hkn, List.getElem?_drop] at hk
      obtain ⟨v', j1, j2⟩ := g3 (a.off + k) v (by simpa using hk)
      refine ⟨v', ?_, j2⟩
      rw [List.getElem?_take, if_pos hkn, List.getElem?_drop, e2, ← j1]
      simp only [Array.getElem?_toList]
      congr 1
      omega

theorem run_storeFrom {a : Addr} {e : TypeId} {fz : Nat × Nat} (hs : a.spot = none) (hf : ∀ k, inFrozen fz k = false) : ∀ (vs : List Value) (i : Nat) (w : World) (c : Array Value), w.heap[a.block]? = some (.cells c e fz) → (∀ v, v ∈ vs → one v = true) → a.off + i + vs.length ≤ c.size →
    ∃ w2 c2, (storeCells a vs i).run P w = .ok () w2 ∧ w2.heap[a.block]? = some (.cells c2 e fz) ∧ c2.size = c.size ∧ (∀ k, c2[k]? = if a.off + i ≤ k ∧ k < a.off + i + vs.length then vs[k - (a.off + i)]? else c[k]?) ∧
      w2.heap.size = w.heap.size ∧ (∀ k, k ≠ a.block → w2.heap[k]? = w.heap[k]?) ∧ w2.os = w.os ∧ w2.tape = w.tape ∧ w2.output = w.output
  | [], i, w, c, hw, _, _ => ⟨w, c, rfl, hw, rfl, fun k => by rw [if_neg (by simp only [List.length_nil]; omega)], rfl, fun _ _ => rfl, rfl, rfl, rfl⟩
  | v :: vs, i, w, c, hw, h1, hl => by
    have hlt : a.off + i < c.size := by simp at hl; omega
    have hw1 : (w.setCell (a.add i) v).heap[a.block]? = some (.cells (c.setIfInBounds (a.off + i) v) e fz) := by
      rw [add_spot hs]
      simp only [World.setCell, Array.getElem?_modify, if_true, hw, Option.map_some]
      simp
    have hcell : w.cell? (a.add i) = some c[a.off + i] := by
      rw [add_spot hs, cell_eq w ⟨a.block, a.off + i, none⟩ rfl hw]
      simp [hlt]
    have hfr : w.frozen? (a.add i) = false := by
      rw [add_spot hs, frozen_eq w ⟨a.block, a.off + i, none⟩ hw]
      exact hf _
    obtain ⟨w2, c2, g1, g2, g3, g4, g5, g6, g7, g8, g9⟩ := run_storeFrom hs hf vs (i + 1) (w.setCell (a.add i) v) (c.setIfInBounds (a.off + i) v) hw1 (fun u hu => h1 u (by simp [hu])) (by simp at hl ⊢; omega)
    refine ⟨w2, c2, ?_, g2, by rw [g3]; simp, fun k => ?_, by rw [g5]; simp [World.setCell], fun k hk => ?_, g7, g8, g9⟩
    · unfold storeCells
      show (Sem.store _ (a.add i) v _).run P w = _
      have hone := h1 v (by simp)
      cases v <;> simp only [one, Bool.false_eq_true] at hone <;> (simp only [Sem.run, hcell, hfr]; exact g1)
    · rw [g4, Array.getElem?_setIfInBounds]
      by_cases h2 : k = a.off + i
      · subst h2
        rw [if_neg (by omega), if_pos rfl, if_pos hlt, if_pos (by simp)]
        simp
      · rw [if_neg (show ¬ a.off + i = k from fun h => h2 h.symm)]
        by_cases h3 : a.off + (i + 1) ≤ k ∧ k < a.off + (i + 1) + vs.length
        · rw [if_pos h3, if_pos (by simp; omega), show k - (a.off + i) = (k - (a.off + (i + 1))) + 1 from by omega]
          simp
        · rw [if_neg h3, if_neg (by simp; omega)]
    · rw [g6 k hk, add_spot hs]
      simp only [World.setCell, Array.getElem?_modify]
      rw [if_neg (fun h => hk h.symm)]

/-- A block that is known no more. -/
theorem Rel.lose {r : PM} {H : AH} {w : World} (h : Rel P G N r H w) {i : Nat} {o : Obj} (hg : H.get i = some o) : Rel P G N r (H.set i gone) w := by
  have hi := AH.get_lt hg
  have hgs := fun j => AH.get_set H h.bound hi gone j
  have live : ∀ j o1, (H.set i gone).get j = some o1 → lives o1 = true → j ≠ i ∧ H.get j = some o1 := fun j o1 hj hl => by
    rw [hgs] at hj
    by_cases hji : j = i
    · rw [if_pos hji] at hj
      simp only [Option.some.injEq] at hj
      subst hj
      exact absurd hl (by simp [gone, lives])
    · rw [if_neg hji] at hj
      exact ⟨hji, hj⟩
  exact ⟨h.top, h.dom, fun j o1 hj hl => h.obj j o1 (live j o1 hj hl).2 hl, fun j k o1 q1 b s x s' x' h1 h2 h3 h4 h5 h6 => h.inj j k o1 q1 b s x s' x' (live j o1 h1 h2).2 h2 (live k q1 h3 h4).2 h4 h5 h6, h.glob, h.base, h.lo, h.bound⟩

theorem Ex.lose {r : PM} {H : AH} {w : World} (h : Rel P G N r H w) {i : Nat} {o : Obj} (hg : H.get i = some o) : Ex P G N r H w r (H.set i gone) w :=
  ⟨.refl r, h.lose hg, fun k _ ⟨j, o1, s1, x1, l1, g1, v1, r1⟩ => by
    rw [AH.get_set H h.bound (AH.get_lt hg)] at g1
    by_cases hji : j = i
    · rw [if_pos hji] at g1
      simp only [Option.some.injEq] at g1
      subst g1
      exact absurd v1 (by simp [gone, lives])
    · rw [if_neg hji] at g1
      exact ⟨j, o1, s1, x1, l1, g1, v1, r1⟩, fun _ _ _ => rfl, Nat.le_refl _, rfl, rfl, rfl, fun i p hp _ => ⟨i, p, hp, rfl⟩⟩

/-- The old row, under another name: more of it is used. -/
theorem Ex.regrow {r : PM} {H : AH} {w w' : World} (h : Rel P G N r H w) (hlt : H.next < most) {i b s x s' x' : Nat} {o q : Obj} (hg : H.get i = some o) (hl : lives o = true) (hlo : H.lo ≤ i) (hr : r i = some (b, s, x))
    (hsz : w'.heap.size = w.heap.size) (hoth : ∀ k, k ≠ b → w'.heap[k]? = w.heap[k]?) (hat : ObjAt P r s' x' q w'.heap[b]?) (h1 : w'.os = w.os) (h2 : w'.tape = w.tape) (h3 : w'.output = w.output) :
    Ex P G N r H w (ins r H.next (b, s', x')) ((H.set i gone).push q) w' := by
  have hnone := h.top _ (Nat.le_refl _)
  have hle : r.le (ins r H.next (b, s', x')) := ins_le hnone
  have hi := AH.get_lt hg
  have hgp : ∀ j, ((H.set i gone).push q).get j = if j = H.next then some q else if j = i then some gone else H.get j := fun j => by
    rw [AH.get_push (H.set i gone) hlt q j, AH.get_set H h.bound hi gone j]
    rfl
  have hbN : N ≤ b := by
    obtain ⟨b1, s1, x1, e1, hN, _⟩ := h.obj _ _ hg hl
    rw [hr] at e1
    simp only [Option.some.injEq, Prod.mk.injEq] at e1
    rw [e1.1]
    exact hN (h.lo ▸ hlo)
  have live : ∀ j o1, ((H.set i gone).push q).get j = some o1 → lives o1 = true → (j = H.next ∧ o1 = q) ∨ (j ≠ H.next ∧ j ≠ i ∧ H.get j = some o1) := fun j o1 hj hl1 => by
    rw [hgp] at hj
    by_cases hj1 : j = H.next
    · rw [if_pos hj1] at hj
      exact .inl ⟨hj1, (Option.some.inj hj).symm⟩
    · rw [if_neg hj1] at hj
      by_cases hji : j = i
      · rw [if_pos hji] at hj
        simp only [Option.some.injEq] at hj
        subst hj
        exact absurd hl1 (by simp [gone, lives])
      · rw [if_neg hji] at hj
        exact .inr ⟨hj1, hji, hj⟩
  have nb : ∀ j o1 b1 s1 x1, H.get j = some o1 → lives o1 = true → j ≠ i → r j = some (b1, s1, x1) → b1 ≠ b := fun j o1 b1 s1 x1 hj hl1 hji e1 hbb => by
    subst hbb
    exact hji (h.inj _ _ _ _ _ _ _ _ _ hj hl1 hg hl e1 hr)
  refine ⟨hle, ⟨fun j hj => ?_, fun j p hp => ?_, fun j o1 hj hl1 => ?_, fun j k o1 q1 b1 s1 x1 s2 x2 hj hl1 hk hl2 e1 e2 => ?_, fun g hg => hle _ _ (h.glob g hg), hsz ▸ h.base, h.lo, hlt⟩,
    fun k hk ⟨j, o1, s1, x1, l1, g1, v1, r1⟩ => ?_, fun k hk ho => ?_, Nat.le_of_eq hsz.symm, h1, h2, h3, fun j p hp hlt' => ?_⟩
  · have : H.next + 1 ≤ j := hj
    simp only [ins, show j ≠ H.next from by omega, if_false]
    exact h.top j (by omega)
  · rw [hsz]
    by_cases hj : j = H.next
    · subst hj; rw [ins_same] at hp; simp only [Option.some.injEq] at hp; subst hp; exact (show b < w.heap.size from h.dom i (b, s, x) hr)
    · simp only [ins, hj, if_false] at hp; exact h.dom _ _ hp
  · rcases live j o1 hj hl1 with ⟨rfl, rfl⟩ | ⟨hj1, hji, hj2⟩
    · exact ⟨b, s', x', ins_same _ _ _, fun _ => hbN, hat.mono hle⟩
    · obtain ⟨b1, s1, x1, e1, hN, hat1⟩ := h.obj _ _ hj2 hl1
      exact ⟨b1, s1, x1, hle _ _ e1, hN, by rw [hoth b1 (nb j o1 b1 s1 x1 hj2 hl1 hji e1)]; exact hat1.mono hle⟩
  · rcases live j o1 hj hl1 with ⟨rfl, rfl⟩ | ⟨hj1, hji, hj2⟩ <;> rcases live k q1 hk hl2 with ⟨rfl, rfl⟩ | ⟨hk1, hki, hk2⟩
    · rfl
    · rw [ins_same] at e1
      simp only [Option.some.injEq, Prod.mk.injEq] at e1
      obtain ⟨rfl, rfl, rfl⟩ := e1
      simp only [ins, hk1, if_false] at e2
      exact absurd rfl (nb k q1 _ _ _ hk2 hl2 hki e2)
    · rw [ins_same] at e2
      simp only [Option.some.injEq, Prod.mk.injEq] at e2
      obtain ⟨rfl, rfl, rfl⟩ := e2
      simp only [ins, hj1, if_false] at e1
      exact absurd rfl (nb j o1 _ _ _ hj2 hl1 hji e1)
    · simp only [ins, hj1, hk1, if_false] at e1 e2
      exact h.inj _ _ _ _ _ _ _ _ _ hj2 hl1 hk2 hl2 e1 e2
  · rcases live j o1 g1 v1 with ⟨rfl, rfl⟩ | ⟨hj1, hji, hj2⟩
    · rw [ins_same] at r1
      simp only [Option.some.injEq, Prod.mk.injEq] at r1
      rw [← r1.1]
      exact ⟨i, o, s, x, hlo, hg, hl, hr⟩
    · simp only [ins, hj1, if_false] at r1
      exact ⟨j, o1, s1, x1, l1, hj2, v1, r1⟩
  · by_cases hkb : k = b
    · subst hkb; exact absurd ⟨i, o, s, x, hlo, hg, hl, hr⟩ ho
    · exact hoth k hkb
  · by_cases hj : j = H.next
    · subst hj; rw [ins_same] at hp; simp only [Option.some.injEq] at hp; subst hp; exact ⟨i, _, hr, rfl⟩
    · simp only [ins, hj, if_false] at hp; exact ⟨j, p, hp, rfl⟩

end Go.Eng

namespace Go.Eng
open Go.RowKit

variable {P : Program} {G N : Nat}

theorem growBy_le (m : Nat) : ∀ (k c : Nat), c ≤ m + (m + 768) / 4 → Builtin.growBy m k c ≤ m + (m + 768) / 4
  | 0, c, h => h
  | k + 1, c, h => by
    unfold Builtin.growBy
    split
    · exact h
    · exact growBy_le m k _ (by omega)

theorem next_le {need cap : Nat} (h : cap < need) : Builtin.nextslicecap need cap ≤ 2 * need + 192 := by
  unfold Builtin.nextslicecap
  split
  · omega
  · split
    · omega
    · have := growBy_le need 4 cap (by omega)
      omega

theorem next_mul {need cap bytes : Nat} (h : cap < need) (hb : need * bytes ≤ 1099511627776) : Builtin.nextslicecap need cap * bytes ≤ 2 ^ 48 := by
  have h1 := Nat.mul_le_mul_right bytes (next_le h)
  have h2 : (2 * need + 192) * bytes = 2 * (need * bytes) + 192 * bytes := by rw [Nat.add_mul, Nat.mul_assoc]
  have h3 : bytes ≤ need * bytes := Nat.le_mul_of_pos_left _ (by omega)
  omega

theorem append_in {st xt el ty : TypeId} {inf : TypeInfo} {base' : Option Addr} {len cap n : Nat} {x' : Value} {xd : TypeDesc} {new : Array Value} {w w2 : World} (hu : P.underlying st = some (.slice el)) (hux : P.underlying xt = some xd) (hni : notInt xd = true)
    (hinf : P.info? el = some inf) (hlen : (Builtin.lenOf x').run P w = .ok n w) (hneed : len + n ≤ cap) (hnew : (Builtin.firstCells inf.size n x').run P w = .ok new w) (hst : ∀ a, base' = some a → (storeCells (a.add (len * inf.size)) new.toList).run P w = .ok () w2)
    (hno : base' = none → w2 = w) : (Builtin.append_ #[st, xt] ty #[.slice base' len cap, x']).run P w = .ok (.slice base' (len + n) cap) w2 := by
  unfold Builtin.append_
  simp only [List.getElem?_toArray, List.getElem?_cons_zero, List.getElem?_cons_succ]
  rw [run_b (underlying_run hu w)]
  simp only
  rw [run_b (sizeOf_run hinf w)]
  rw [run_b (underlying_run hux w)]
  cases xd <;> first | (exact Bool.noConfusion (show false = true from hni)) | (
    rw [run_b (a := false) (w1 := w) rfl]
    simp only [Bool.false_eq_true, if_false, Bool.not_false, if_true]
    rw [run_b hlen]
    rw [if_pos hneed, run_b hnew]
    cases base' with
    | none =>
      rw [hno rfl]
      rfl
    | some a =>
      show ((storeCells (a.add (len * inf.size)) new.toList) >>= _).run P w = _
      rw [run_b (hst a rfl)]
      rfl)

theorem append_grow {st xt el ty : TypeId} {inf : TypeInfo} {base' : Option Addr} {len cap n : Nat} {x' z : Value} {xd : TypeDesc} {old new : Array Value} {w : World} (hu : P.underlying st = some (.slice el)) (hux : P.underlying xt = some xd) (hni : notInt xd = true)
    (hinf : P.info? el = some inf) (hlen : (Builtin.lenOf x').run P w = .ok n w) (hneed : cap < len + n) (hby : 0 < inf.bytes) (hmul : (len + n) * inf.bytes ≤ 1099511627776) (hz : zeroOf P el = some z)
    (hold : ∀ d, (Builtin.firstCells inf.size len (.slice base' len cap)).run P { w with drawn := d } = .ok old { w with drawn := d }) (hnew : ∀ d, (Builtin.firstCells inf.size n x').run P { w with drawn := d } = .ok new { w with drawn := d }) :
    ∃ nc d, len + n ≤ nc ∧ (Builtin.append_ #[st, xt] ty #[.slice base' len cap, x']).run P w = .ok (.slice (some ⟨w.heap.size, 0, none⟩) (len + n) nc) { w with drawn := d, heap := w.heap.push (.cells (old ++ new ++ Builtin.zeroCells z.cells (nc - (len + n))) el) } := by
  refine ⟨(Question.appendCap (len + n) cap el).cut (w.tape w.drawn (.appendCap (len + n) cap el)), w.drawn + 1, Nat.le_add_right _ _, ?_⟩
  unfold Builtin.append_
  simp only [List.getElem?_toArray, List.getElem?_cons_zero, List.getElem?_cons_succ]
  rw [run_b (underlying_run hu w)]
  simp only
  rw [run_b (sizeOf_run hinf w)]
  rw [run_b (underlying_run hux w)]
  cases xd <;> first | (exact Bool.noConfusion (show false = true from hni)) | (
    rw [run_b (a := false) (w1 := w) rfl]
    simp only [Bool.false_eq_true, if_false, Bool.not_false, if_true]
    rw [run_b hlen]
    rw [if_neg (by omega)]
    rw [run_b (typeInfo_run hinf w)]
    have hb0 : inf.bytes ≠ 0 := by omega
    simp only [false_or, hb0, and_false, if_false]
    rw [run_b (typeInfo_run hinf w)]
    rw [if_neg (by have := next_mul hneed hmul; omega)]
    show (Sem.choose _ _).run P w = _
    simp only [Sem.run, Question.forced, Bool.false_eq_true, if_false, Sem.bind]
    generalize (Question.appendCap (len + n) cap el).cut (w.tape w.drawn (.appendCap (len + n) cap el)) = nc
    show ((typeInfo el) >>= _).run P { w with drawn := w.drawn + 1 } = _
    rw [run_b (typeInfo_run hinf _)]
    have hroom : (askRoom (nc * inf.bytes)).run P { w with drawn := w.drawn + 1 } = .ok () { w with drawn := w.drawn + 1 } := by
      unfold askRoom
      split <;> rfl
    rw [run_b hroom, run_b (hold _), run_b (hnew _), run_b (zero_run hz _)]
    rfl)

end Go.Eng

namespace Go.Eng
open Go.RowKit

variable {P : Program} {G N : Nat}

theorem flat_bytes : ∀ l : List UInt8, flat.go (l.map fun b => Value.int .u8 b.toNat) = true
  | [] => rfl
  | b :: l => by simp only [List.map_cons, flat.go, flat, Bool.true_and]; exact flat_bytes l

theorem newCells_run {r : PM} {H : AH} {w : World} (hrel : Rel P G N r H w) {size : Nat} (hsz : size ≠ 0) {x x' : Value} (hv : VR r x x') {new : List Value} (h : newCells size x H = some new) :
    ∃ (n : Nat) (new' : List Value), new.length = n * size ∧ (∀ w1 : World, (Builtin.lenOf x').run P w1 = .ok n w1) ∧ (∀ d, (Builtin.firstCells size n x').run P { w with drawn := d } = .ok ⟨new'⟩ { w with drawn := d }) ∧ VL r new new' := by
  unfold newCells at h
  split at h
  · rename_i a n c
    split at h
    · cases hn : Nat.beq n 0 with
      | false => rw [hn, ifb_false] at h; cases h
      | true =>
        rw [hn, ifb_true] at h
        have : n = 0 := Nat.eq_of_beq_eq_true hn
        subst this
        simp only [Option.some.injEq] at h
        subst h
        have e := flat_eq (r := r) rfl hv
        subst e
        exact ⟨0, [], by simp, fun _ => rfl, fun _ => rfl, VL.nil r⟩
    · rename_i b
      cases hc : ifb (Nat.beq n 0) false (Nat.beq c 0) with
      | true => rw [hc, ifb_true] at h; cases h
      | false =>
        rw [hc, ifb_false] at h
        cases x' <;> try (simp only [VR] at hv; done)
        rename_i b' l' c'
        cases b' <;> simp only [VR] at hv
        rename_i b'
        obtain ⟨rfl, hv⟩ := hv
        have har : l' * size ≠ 0 → AR r b b' := fun h0 => by
          have hl0 : l' ≠ 0 := fun h1 => h0 (by rw [h1, Nat.zero_mul])
          have hb0 : Nat.beq l' 0 = false := by rw [← Bool.not_eq_true, Nat.beq_eq]; exact hl0
          rw [hb0, ifb_false] at hc
          rcases hv with ⟨h1, _⟩ | ⟨s, q, g1, g2, g3, g4, _⟩
          · subst h1; simp at hc
          · exact ⟨s, q, g1, g2, g3, g4⟩
        obtain ⟨l2, g1, g2⟩ := cells_run (P := P) hrel h har
        exact ⟨l', l2, cellsFrom_len h, fun _ => rfl, g1, g2⟩
  · rename_i s
    cases hs : Nat.beq size 1 with
    | false => rw [hs, ifb_false] at h; cases h
    | true =>
      rw [hs, ifb_true] at h
      have : size = 1 := Nat.eq_of_beq_eq_true hs
      subst this
      simp only [Option.some.injEq] at h
      subst h
      rw [hv.string_inv]
      refine ⟨s.size, bytesOf s, by simp [bytesOf], fun _ => rfl, fun d => ?_, flat_list r (flat_bytes _)⟩
      show Result.ok _ _ = _
      congr 1
      rw [← Array.toList_inj]
      simp [bytesOf]
  · cases h

structure MayGrow (P : Program) (el : TypeId) (inf : TypeInfo) (need : Nat) (H : AH) (z : Value) : Prop where
  mul : need * inf.bytes ≤ 1099511627776
  by0 : 0 < inf.bytes
  zero : zeroOf P el = some z
  fit : z.cells.size = inf.size
  next : H.next < most

theorem mayGrow_inv {el : TypeId} {inf : TypeInfo} {need : Nat} {H : AH} (hinf : P.info? el = some inf) (h : mayGrow P el inf need H = true) : ∃ z, MayGrow P el inf need H z := by
  unfold mayGrow at h
  simp only [ifb_and, Bool.and_eq_true] at h
  obtain ⟨h1, h2, ⟨h3, h4⟩, h5⟩ := h
  unfold zfit at h4
  split at h4
  · rename_i z hz
    refine ⟨z, Nat.le_of_ble_eq_true h1, by simpa [Nat.blt_eq] using h3, ?_, Nat.eq_of_beq_eq_true h4, by simpa [Nat.blt_eq] using h5⟩
    unfold zeroOf
    simp only [hinf, hz]
  · cases h4

theorem esz_eq {el : TypeId} {inf : TypeInfo} (hinf : P.info? el = some inf) : esz P el = inf.size := by unfold esz; rw [hinf]; rfl

theorem zeroCells_size (z : Array Value) (n : Nat) : (Builtin.zeroCells z n).size = n * z.size := by simp [Builtin.zeroCells]

/-- A new row behind an append. -/
theorem grow_ex {r : PM} {H : AH} {w : World} (hrel : Rel P G N r H w) {el : TypeId} {inf : TypeInfo} (hinf : P.info? el = some inf) {need nc d : Nat} (hn : H.next < most) {z : Value} (hz : z.cells.size = inf.size) (hnc : need ≤ nc) {old new old' new' : List Value} (ho : VL r old old') (hw : VL r new new')
    (hlen : old.length + new.length = need * inf.size) : Ex P G N r H w (ins r H.next (w.heap.size, 0, nc - need)) (H.push (.cells ⟨old ++ new⟩ el (1, 1))) { w with drawn := d, heap := w.heap.push (.cells (⟨old'⟩ ++ ⟨new'⟩ ++ Builtin.zeroCells z.cells (nc - need)) el) } ∧
    VR (ins r H.next (w.heap.size, 0, nc - need)) (.slice (some ⟨H.next, 0, none⟩) need need) (.slice (some ⟨w.heap.size, 0, none⟩) need nc) := by
  refine ⟨Ex.fresh hrel hn (by simp) (by simp) (Nat.le_refl _) (fun k hk => ?_) ?_ rfl rfl rfl, ?_⟩
  · show (w.heap.push _)[k]? = _
    rw [Array.getElem?_push, if_neg (by omega)]
  · show ObjAt P r 0 (nc - need) _ (w.heap.push _)[w.heap.size]?
    rw [Array.getElem?_push_size]
    refine ⟨_, (0, 0), rfl, ?_, fun k v hk => ?_, fun k _ _ h3 => ?_, fun _ => rfl, fun h => by simp at h⟩
    · have h1 := ho.length
      have h2 := hw.length
      rw [esz_eq hinf, ← hz]
      simp only [Array.size_append, zeroCells_size]
      simp
      omega
    · have hk' : (old ++ new)[k]? = some v := by simpa using hk
      obtain ⟨v', e1, e2⟩ := (ho.append hw).get hk'
      refine ⟨v', ?_, e2⟩
      have hlt : k < (old' ++ new').length := by
        rcases Nat.lt_or_ge k (old' ++ new').length with h | h
        · exact h
        · rw [List.getElem?_eq_none h] at e1; cases e1
      rw [Nat.zero_add, ← Array.getElem?_toList]
      simp only [Array.toList_append]
      rw [List.getElem?_append_left hlt]
      exact e1
    · simp [inFrozen] at h3
  · simp only [VR]
    exact ⟨trivial, .inr ⟨0, nc - need, ins_same _ _ _, by simp, trivial, trivial, by omega⟩⟩

/-- What an operation that gives a value must give. -/
def ValT (P : Program) (G N : Nat) (r : PM) (H : AH) (w : World) (v : Value) (H' : AH) (t : Sem Value) : Prop := ∃ s v' w', t.run P w = .ok v' w' ∧ VR s v v' ∧ Ex P G N r H w s H' w'

theorem ValT.op {r : PM} {H H' : AH} {w : World} {v : Value} {t : Sem Value} (h : ValT P G N r H w v H' t) : OpT P G N r H w (.value v) H' (do pure (Next.value (← t))) := by
  obtain ⟨s, v', w', h1, h2, h3⟩ := h
  exact ⟨s, .value v', w', run_val h1, h2, h3⟩

theorem allOne_mem : ∀ {l : List Value}, allOne l = true → ∀ v, v ∈ l → one v = true
  | [], _, _, h => by cases h
  | u :: l, h, v, hv => by
    unfold allOne at h
    rw [ifb_and, Bool.and_eq_true] at h
    rcases List.mem_cons.1 hv with rfl | hv
    · exact h.1
    · exact allOne_mem h.2 v hv

theorem one_rel {r : PM} : ∀ {l m : List Value}, VL r l m → (∀ v, v ∈ l → one v = true) → ∀ v, v ∈ m → one v = true
  | [], [], _, _, _, hv => by cases hv
  | a :: l, b :: m, h, h1, v, hv => by
    simp only [VL, VR.go] at h
    rcases List.mem_cons.1 hv with rfl | hv
    · exact h.1.oneCell (h1 a (by simp))
    · exact one_rel h.2 (fun u hu => h1 u (by simp [hu])) v hv
  | [], _ :: _, h, _, _, _ => by simp [VL, VR.go] at h
  | _ :: _, [], h, _, _, _ => by simp [VL, VR.go] at h

theorem appendB_sound {r : PM} {H H' : AH} {w : World} (hrel : Rel P G N r H w) {st xt el ty : TypeId} {inf : TypeInfo} {xd : TypeDesc} (hu : P.underlying st = some (.slice el)) (hux : P.underlying xt = some xd) (hni : notInt xd = true) (hinf : P.info? el = some inf)
    {base : Option Addr} {len cap n : Nat} {s' x' v : Value} {new new' : List Value} (hv : VR r (.slice base len cap) s') (hlen : new.length = n * inf.size) (hl : ∀ w1 : World, (Builtin.lenOf x').run P w1 = .ok n w1)
    (hfirst : ∀ d, (Builtin.firstCells inf.size n x').run P { w with drawn := d } = .ok ⟨new'⟩ { w with drawn := d }) (hnew : VL r new new') (h : appendB P el inf base len cap (len + n) new H = some (v, H')) :
    ValT P G N r H w v H' (Builtin.append_ #[st, xt] ty #[s', x']) := by
  have hnew0 : (Builtin.firstCells inf.size n x').run P w = .ok ⟨new'⟩ w := hfirst w.drawn
  -- a row that is new, of a slice that has nothing
  have g0 : ∀ {base' : Option Addr} {cap' : Nat}, s' = .slice base' len cap' → len = 0 → cap' < len + n → grow0 P el inf (len + n) new H = some (v, H') → ValT P G N r H w v H' (Builtin.append_ #[st, xt] ty #[s', x']) := by
    intro base' cap' hs' hl0 hcap hg
    unfold grow0 at hg
    cases hm : mayGrow P el inf (len + n) H with
    | false => rw [hm, ifb_false] at hg; cases hg
    | true =>
      rw [hm, ifb_true] at hg
      simp only [Option.some.injEq, Prod.mk.injEq] at hg
      obtain ⟨rfl, rfl⟩ := hg
      obtain ⟨z, mg⟩ := mayGrow_inv hinf hm
      subst hs'
      have hold : ∀ d, (Builtin.firstCells inf.size len (.slice base' len cap')).run P { w with drawn := d } = .ok ⟨[]⟩ { w with drawn := d } := fun d => by
        subst hl0
        cases base' with
        | none => rfl
        | some a => show (loadCells a (0 * inf.size)).run P _ = _; rw [Nat.zero_mul]; rfl
      obtain ⟨nc, d, h1, h2⟩ := append_grow (ty := ty) hu hux hni hinf (hl w) hcap mg.by0 mg.mul mg.zero hold hfirst
      obtain ⟨k1, k2⟩ := grow_ex hrel hinf (d := d) mg.next mg.fit h1 (VL.nil r) hnew (by subst hl0; simp [hlen])
      exact ⟨_, _, _, h2, k2, k1⟩
  unfold appendB at h
  split at h
  · -- no row
    have hs' := flat_eq (r := r) rfl hv
    cases hc : Nat.ble (len + n) cap with
    | true =>
      rw [hc, ifb_true] at h
      cases he : new.isEmpty with
      | false => rw [he, ifb_false] at h; cases h
      | true =>
        rw [he, ifb_true] at h
        simp only [Option.some.injEq, Prod.mk.injEq] at h
        obtain ⟨rfl, rfl⟩ := h
        subst hs'
        exact ⟨r, _, w, append_in hu hux hni hinf (hl w) (Nat.le_of_ble_eq_true hc) hnew0 (fun a ha => by cases ha) (fun _ => rfl), flat_refl r _ rfl, .refl hrel⟩
    | false =>
      rw [hc, ifb_false] at h
      have hcap : cap < len + n := by
        rcases Nat.lt_or_ge cap (len + n) with h0 | h0
        · exact h0
        · rw [Nat.ble_eq_true_of_le h0] at hc; cases hc
      cases hl0 : Nat.beq len 0 with
      | false => rw [hl0, ifb_false] at h; cases h
      | true =>
        rw [hl0, ifb_true] at h
        exact g0 hs' (Nat.eq_of_beq_eq_true hl0) hcap h
  · rename_i a
    cases s' <;> try (simp only [VR] at hv; done)
    rename_i b len' cap'
    cases b <;> simp only [VR] at hv
    rename_i b
    obtain ⟨rfl, hv⟩ := hv
    split at h
    · -- a row of which nothing is known
      rename_i q hsp
      cases hq0 : Nat.beq q 0 with
      | false => rw [hq0, ifb_false] at h; cases h
      | true =>
      rw [hq0, ifb_true] at h
      have hq1 : q = 0 := Nat.eq_of_beq_eq_true hq0
      subst hq1
      have hv0 : cap = 0 ∧ len' = 0 ∧ cap' = 0 := by
        rcases hv with ⟨h1, h2 | h2⟩ | ⟨_, _, _, _, h2, _⟩
        · rw [hsp] at h2; simp at h2
        · exact ⟨h1, h2.2.1, h2.2.2⟩
        · rw [hsp] at h2; cases h2
      obtain ⟨rfl, rfl, rfl⟩ := hv0
      rw [show Nat.beq 0 0 = true from rfl, ifb_true] at h
      cases hn0 : Nat.beq (0 + n) 0 with
      | true =>
        rw [hn0, ifb_true] at h
        have hn : n = 0 := by have := Nat.eq_of_beq_eq_true hn0; omega
        subst hn
        simp only [Option.some.injEq, Prod.mk.injEq] at h
        obtain ⟨rfl, rfl⟩ := h
        have hnil : new = [] := List.length_eq_zero_iff.1 (by rw [hlen]; simp)
        subst hnil
        cases new' with
        | cons _ _ => simp [VL, VR.go] at hnew
        | nil =>
          refine ⟨r, _, w, append_in hu hux hni hinf (hl w) (Nat.le_refl _) hnew0 (fun a ha => rfl) (fun hb => by cases hb), ?_, .refl hrel⟩
          simp only [VR]
          exact ⟨trivial, .inl ⟨trivial, .inr ⟨hsp, trivial, trivial⟩⟩⟩
      | false =>
        rw [hn0, ifb_false, ifb_true] at h
        refine g0 rfl rfl ?_ h
        rcases Nat.eq_zero_or_pos n with h0 | h0
        · subst h0; simp at hn0
        · omega
    · rename_i hsp
      cases hc0 : Nat.beq cap 0 with
      | true => rw [hc0, ifb_true] at h; cases h
      | false =>
        rw [hc0, ifb_false] at h
        have hcap0 : cap ≠ 0 := fun h0 => by rw [h0] at hc0; simp at hc0
        obtain ⟨s, x, k1, k2, k3, k4, rfl⟩ : ∃ s x, r a.block = some (b.block, s, x) ∧ b.off = a.off + s ∧ a.spot = none ∧ b.spot = none ∧ cap' = cap + x := by
          rcases hv with ⟨h0, _⟩ | h0
          · exact absurd h0 hcap0
          · exact h0
        have har : AR r a b := ⟨s, x, k1, k2, k3, k4⟩
        cases hc : Nat.ble (len' + n) cap with
        | true =>
          -- in its place
          rw [hc, ifb_true] at h
          have hle := Nat.le_of_ble_eq_true hc
          split at h
          · rename_i H1 hs
            simp only [Option.some.injEq, Prod.mk.injEq] at h
            obtain ⟨rfl, rfl⟩ := h
            obtain ⟨H2, j1, j2⟩ := ar_storeCells (P := P) hrel.bound hs
            obtain ⟨s2, u, w2, m1, _, m3⟩ := (TR.storeCells r _ _ 0 (har.add (len' * inf.size)) hnew).sr G N H w () H2 hrel j1
            refine ⟨s2, _, w2, append_in hu hux hni hinf (hl w) (by omega) hnew0 (fun a' ha => ?_) (fun hb => by cases hb), ?_, j2.symm.ex m3⟩
            · simp only [Option.some.injEq] at ha
              subst ha
              exact m1
            · simp only [VR]
              exact ⟨trivial, .inr ⟨s, x, m3.le _ _ k1, k2, k3, k4, rfl⟩⟩
          · cases h
        | false =>
          rw [hc, ifb_false] at h
          have hlt : cap < len' + n := by
            rcases Nat.lt_or_ge cap (len' + n) with h0 | h0
            · exact h0
            · rw [Nat.ble_eq_true_of_le h0] at hc; cases hc
          unfold growA at h
          split at h
          · rename_i c ee fz hg
            split at h
            · rename_i old hold
              cases hcond : ifb (mayGrow P el inf (len' + n) H) (ifb (Nat.beq ee el) (ifb (Nat.beq (a.off + Nat.mul cap inf.size) c.size) (ifb (Nat.beq fz.1 fz.2) (ifb (allOne new) (Nat.ble H.lo a.block) false) false) false) false) false with
              | false => rw [hcond, ifb_false] at h; cases h
              | true =>
                rw [hcond, ifb_true] at h
                simp only [ifb_and, Bool.and_eq_true] at hcond
                obtain ⟨c1, c2, c3, c4, c5, c6⟩ := hcond
                have hee : ee = el := Nat.eq_of_beq_eq_true c2
                subst hee
                replace c3 : a.off + cap * inf.size = c.size := Nat.eq_of_beq_eq_true c3
                replace c4 := Nat.eq_of_beq_eq_true c4
                replace c6 := Nat.le_of_ble_eq_true c6
                simp only [Option.some.injEq, Prod.mk.injEq] at h
                obtain ⟨rfl, rfl⟩ := h
                obtain ⟨z, mg⟩ := mayGrow_inv hinf c1
                obtain ⟨old', o1, o2⟩ := cells_run (P := P) hrel hold (fun _ => har)
                have holdlen : old.length = len' * inf.size := cellsFrom_len hold
                by_cases hin : len' + n ≤ cap + x
                · -- the old row has room
                  obtain ⟨b1, s1, x1, f1, _, c', fz', g1, g2, g3, _, g5, _⟩ := hrel.obj _ _ hg rfl
                  rw [k1] at f1
                  simp only [Option.some.injEq, Prod.mk.injEq] at f1
                  obtain ⟨rfl, rfl, rfl⟩ := f1
                  rw [esz_eq hinf] at g2
                  have hfz := g5 c4
                  have hfr : ∀ k, inFrozen fz' k = false := fun k => by unfold inFrozen; rw [hfz]; simp
                  have hl2 := hnew.length
                  have e9 : (len' + n) * inf.size = len' * inf.size + n * inf.size := Nat.add_mul _ _ _
                  have e8 : (cap + x) * inf.size = cap * inf.size + x * inf.size := Nat.add_mul _ _ _
                  have e7 := Nat.mul_le_mul_right inf.size hin
                  have hbs : (b.add (len' * inf.size)) = ⟨b.block, b.off + len' * inf.size, none⟩ := add_spot k4 _
                  obtain ⟨w2, c2', m1, m2, m3, m4, m5, m6, m7, m8, m9⟩ := run_storeFrom (P := P) (a := ⟨b.block, b.off + len' * inf.size, none⟩) rfl hfr new' 0 w c' g1 (one_rel hnew (allOne_mem c5)) (by simp only; rw [hl2, hlen, k2]; omega)
                  have hex := Ex.regrow (s' := a.off + s) (x' := cap + x - (len' + n)) (q := .cells ⟨old ++ new⟩ ee (1, 1)) hrel mg.next hg rfl c6 k1 m5 m6 (by
                    show CellsAt P r (a.off + s) (cap + x - (len' + n)) ⟨old ++ new⟩ ee (1, 1) w2.heap[b.block]?
                    refine ⟨c2', fz', m2, ?_, fun k v hk => ?_, fun k _ _ h3 => ?_, fun _ => hfz, fun h => by simp at h⟩
                    · rw [m3, g2, esz_eq hinf, Nat.sub_mul, e8, e9]
                      simp only [List.size_toArray, List.length_append]
                      omega
                    · have hk' : (old ++ new)[k]? = some v := by simpa using hk
                      obtain ⟨v', e1, e2⟩ := (o2.append hnew).get hk'
                      refine ⟨v', ?_, e2⟩
                      have hol := o2.length
                      rw [m4]
                      by_cases hko : k < old'.length
                      · rw [List.getElem?_append_left hko] at e1
                        rw [if_neg (by simp only; omega)]
                        have hrun : (loadCells b (len' * inf.size)).run P w = .ok ⟨old'⟩ w := o1 w.drawn
                        have hrun2 : (loadCells b (len' * inf.size)).run P w = .ok ⟨[] ++ (c'.toList.drop (b.off + 0)).take (len' * inf.size)⟩ w := run_loadFrom k4 g1 (len' * inf.size) 0 #[] (by rw [k2]; omega)
                        rw [hrun2] at hrun
                        simp only [Result.ok.injEq, Array.mk.injEq, and_true] at hrun
                        rw [← hrun] at e1
                        simp only [List.nil_append, Nat.add_zero] at e1
                        rw [List.getElem?_take, if_pos (by omega), List.getElem?_drop] at e1
                        rw [← e1, ← Array.getElem?_toList]
                        congr 1
                        omega
                      · rw [List.getElem?_append_right (by omega)] at e1
                        have hkn : k - old'.length < new'.length := by
                          rcases Nat.lt_or_ge (k - old'.length) new'.length with h0 | h0
                          · exact h0
                          · rw [List.getElem?_eq_none h0] at e1; cases e1
                        rw [if_pos (by simp only; omega), ← e1]
                        congr 1
                        simp only
                        omega
                    · rw [hfr k] at h3; cases h3) m7 m8 m9
                  refine ⟨_, _, w2, append_in hu hux hni hinf (hl w) hin hnew0 (fun a' ha => ?_) (fun hb => by cases hb), ?_, hex⟩
                  · simp only [Option.some.injEq] at ha
                    subst ha
                    rw [hbs]
                    exact m1
                  · simp only [VR]
                    exact ⟨trivial, .inr ⟨_, _, ins_same _ _ _, by omega, trivial, k4, by omega⟩⟩
                · -- a row that is new
                  have hlose := Ex.lose hrel hg
                  have hold2 : ∀ d, (Builtin.firstCells inf.size len' (.slice (some b) len' (cap + x))).run P { w with drawn := d } = .ok ⟨old'⟩ { w with drawn := d } := o1
                  obtain ⟨nc, d, h1, h2⟩ := append_grow (ty := ty) hu hux hni hinf (hl w) (by omega) mg.by0 mg.mul mg.zero hold2 hfirst
                  obtain ⟨q1, q2⟩ := grow_ex (H := H.set a.block gone) hlose.rel hinf (d := d) mg.next mg.fit h1 o2 hnew (by rw [holdlen, hlen, Nat.add_mul])
                  exact ⟨_, _, _, h2, q2, hlose.trans q1⟩
            · cases h
          · cases h

theorem appendA_sound {r : PM} {H H' : AH} {w : World} (hrel : Rel P G N r H w) {st xt ty : TypeId} {s x s' x' v : Value} (hs : VR r s s') (hx : VR r x x') (h : appendA P st xt s x H = some (v, H')) :
    ValT P G N r H w v H' (Builtin.append_ #[st, xt] ty #[s', x']) := by
  unfold appendA at h
  split at h
  · rename_i el hu
    split at h
    · rename_i xd hux
      split at h
      · rename_i base len cap
        split at h
        · rename_i inf hinf
          cases hc : ifb (Nat.beq inf.size 0) false (notInt xd) with
          | false => rw [hc, ifb_false] at h; cases h
          | true =>
            rw [hc, ifb_true] at h
            have hsz : inf.size ≠ 0 := fun h0 => by rw [h0] at hc; cases hc
            have hni : notInt xd = true := by
              have hb : Nat.beq inf.size 0 = false := by rw [← Bool.not_eq_true, Nat.beq_eq]; exact hsz
              rw [hb, ifb_false] at hc
              exact hc
            split at h
            · rename_i new hnc
              obtain ⟨n, new', g1, g2, g3, g4⟩ := newCells_run (P := P) hrel hsz hx hnc
              rw [show Nat.div new.length inf.size = n from by rw [g1]; exact Nat.mul_div_cancel _ (by omega)] at h
              exact appendB_sound hrel hu hux hni hinf hs g1 g2 g3 g4 h
            · cases h
        · cases h
      · cases h
    · cases h
  · cases h

end Go.Eng
