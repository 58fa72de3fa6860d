/-
  Closed runs reckoned by the kernel, part 4: functions and loops.
-/
import Derived.Test.YtkmmnocooibljaaGreatDoorE3
import Derived.RangeFuncIn
import Derived.RangeFuncLeaves
import Derived.RangeFuncRecord
import Derived.RangeFuncNested
set_option linter.all false

namespace Go.Eng
open Go.RowKit

variable {P : Program} {G N : Nat} {run : Run}

/-! ### What only asks -/

theorem ro_sound {α β : Type} {R : PM → α → β → Prop} (i : Nat) (t : Sem α) : ∀ (t' : Sem β) (r : PM) (H : AH) (w : World) (a : α) (lg : Log), TR P R r t t' → Rel P G N r H w → ro P t H = some (a, lg) →
    ∃ b es, R r a b ∧ LGR r (lg.map fun p => (i, p)) es ∧ Holds es w ∧ (∀ p, p ∈ es → p.1 = i) ∧ ∀ w', Holds es w' → t'.run P w' = .ok b w' := by
  induction t with
  | pure a0 =>
    intro t' r H w a lg ht hr he
    cases t' <;> simp only [TR] at ht
    simp only [ro, Option.some.injEq, Prod.mk.injEq] at he
    obtain ⟨rfl, rfl⟩ := he
    exact ⟨_, [], ht, trivial, (fun _ h => by cases h), (fun _ h => by cases h), fun w' _ => rfl⟩
  | load m ad k ih =>
    intro t' r H w a lg ht hr he
    cases t' <;> simp only [TR] at ht
    rename_i m' ad' k'
    simp only [ro] at he
    split at he
    · rename_i v hc
      split at he
      · rename_i x l hx
        simp only [Option.some.injEq, Prod.mk.injEq] at he
        obtain ⟨rfl, rfl⟩ := he
        obtain ⟨v', e1, e2⟩ := hr.load hc ht.1
        obtain ⟨b, es, g1, g2, g3, g4, g5⟩ := ih v (k' v') r H w x l (ht.2 v v' e2) hr hx
        refine ⟨b, (i, ad', v') :: es, g1, ⟨⟨rfl, ht.1, e2⟩, g2⟩, fun p hp => ?_, fun p hp => ?_, fun w' hw => ?_⟩
        · rcases List.mem_cons.1 hp with rfl | hp
          · exact e1
          · exact g3 p hp
        · rcases List.mem_cons.1 hp with rfl | hp
          · rfl
          · exact g4 p hp
        · have h1 := hw (i, ad', v') (by simp)
          simp only at h1
          simp only [Sem.run, h1]
          exact g5 w' fun p hp => hw p (List.mem_cons_of_mem _ hp)
      · cases he
    · cases he
  | program k ih =>
    intro t' r H w a lg ht hr he
    cases t' <;> simp only [TR] at ht
    rename_i k'
    simp only [ro] at he
    exact ih P (k' P) r H w a lg ht hr he
  | mark m k ih =>
    intro t' r H w a lg ht hr he
    cases t' <;> simp only [TR] at ht
    rename_i m' k'
    simp only [ro] at he
    exact ih k' r H w a lg ht hr he
  | _ => intro t' r H w a lg ht hr he; simp [ro] at he

theorem ro_run {α β : Type} {R : PM → α → β → Prop} {t : Sem α} {t' : Sem β} {r : PM} {H : AH} {w : World} {a : α} {lg : Log} (ht : TR P R r t t') (hr : Rel P G N r H w) (he : ro P t H = some (a, lg)) : ∃ b, R r a b ∧ t'.run P w = .ok b w :=
  let ⟨b, _, g1, _, g3, _, g5⟩ := ro_sound 0 t t' r H w a lg ht hr he
  ⟨b, g1, g5 w g3⟩

/-! ### Objects that are no rows -/

theorem obj_get {r : PM} {H : AH} {w : World} (h : Rel P G N r H w) {i i' : Nat} {o : Obj} (hg : H.get i = some o) (hl : lives o = true) (hnc : isCells o = false) (hb : BR r i i') : ∃ o', w.heap[i']? = some o' ∧ OR r o o' := by
  obtain ⟨b, s, x, e1, _, hat⟩ := h.obj _ _ hg hl
  obtain ⟨s', x', e2⟩ := hb
  rw [e1] at e2
  simp only [Option.some.injEq, Prod.mk.injEq] at e2
  obtain ⟨rfl, rfl, rfl⟩ := e2
  cases o <;> first | exact hat | (simp [isCells] at hnc)

theorem obj_put {r : PM} {H : AH} {w : World} (h : Rel P G N r H w) {i i' : Nat} {o o' q q' : Obj} (hg : H.get i = some o) (hl : lives o = true) (hlo : H.lo ≤ i) (hb : BR r i i') (hw : w.heap[i']? = some o') (hnc : isCells q = false) (hq : OR r q q') :
    Ex P G N r H w r (H.set i q) (w.putObj i' q') := by
  obtain ⟨s, x, e⟩ := hb
  have hlt : i' < w.heap.size := h_lt hw
  refine Ex.put h hg hl hlo e (by simp [World.putObj]) (fun k hk => ?_) ?_ rfl rfl rfl
  · show (w.heap.setIfInBounds i' q')[k]? = _
    rw [Array.getElem?_setIfInBounds, if_neg (fun e => hk e.symm)]
  · show ObjAt P r s x q (w.heap.setIfInBounds i' q')[i']?
    rw [Array.getElem?_setIfInBounds, if_pos rfl, if_pos hlt]
    cases q <;> first | exact ⟨q', rfl, hq⟩ | (simp [isCells] at hnc)

/-! ### What is still to do -/

def IR (r : PM) : Item → Item → Prop
  | .code c, .code c' => c' = c
  | .inBlock i, .inBlock i' => i' = i
  | .inLoop c, .inLoop c' => c' = c
  | .beginRound, .beginRound => True
  | .endRangeFunc l, .endRangeFunc l' => BR r l l'
  | _, _ => False

def TL (r : PM) : List Item → List Item → Prop
  | [], [] => True
  | x :: l, y :: m => IR r x y ∧ TL r l m
  | _, _ => False

theorem IR.mono {r s : PM} (h : r.le s) {x y : Item} (hx : IR r x y) : IR s x y := by
  cases x <;> cases y <;> simp only [IR] at hx ⊢ <;> first | exact hx | exact hx.mono h

theorem TL.mono {r s : PM} (h : r.le s) : ∀ {l m : List Item}, TL r l m → TL s l m
  | [], [], _ => trivial
  | _ :: _, _ :: _, hx => ⟨hx.1.mono h, TL.mono h hx.2⟩
  | [], _ :: _, hx => by simp [TL] at hx
  | _ :: _, [], hx => by simp [TL] at hx

theorem TL.cons_code {r : PM} {c : Code} {l m : List Item} (h : TL r l m) : TL r (.code c :: l) (.code c :: m) := ⟨rfl, h⟩

theorem TL.exit {r : PM} (id : Nat) : ∀ {l m : List Item}, TL r l m → match exitTo id l with | some k => ∃ k', exitTo id m = some k' ∧ TL r k k' | none => exitTo id m = none
  | [], [], _ => rfl
  | x :: l, y :: m, h => by
    have ih := TL.exit id h.2
    have hx := h.1
    cases x <;> cases y <;> simp only [IR] at hx <;> (try exact ih)
    subst hx
    rename_i i
    by_cases hid : (i == id) = true
    · have e1 : ∀ q : List Item, exitTo id (.inBlock i :: q) = some q := fun q => by simp [exitTo, hid]
      rw [e1, e1]
      exact ⟨m, rfl, h.2⟩
    · have e1 : ∀ q : List Item, exitTo id (.inBlock i :: q) = exitTo id q := fun q => by simp [exitTo, hid]
      rw [e1, e1]
      exact ih
  | [], _ :: _, h => by simp [TL] at h
  | _ :: _, [], h => by simp [TL] at h

/-! ### A frame runs -/

def RndR (r : PM) : Option Nat → Option Nat → Prop
  | none, none => True
  | some l, some l' => BR r l l'
  | _, _ => False
theorem RndR.mono {r s : PM} (h : r.le s) : ∀ {a b : Option Nat}, RndR r a b → RndR s a b
  | none, none, _ => trivial
  | some _, some _, hb => BR.mono h hb

/-- Where a frame leaves. -/
def LV (j : Option Code) (k : List Item) : Prop :=
  match j with
  | none => k = []
  | some .ret => ∃ m, k = .code .ret :: m
  | some (.exit id) => ∃ m, k = .code (.exit id) :: m ∧ exitTo id m = none
  | _ => False

structure FR (r : PM) (f : AFr) (b : Frame) : Prop where
  fn : b.fn = f.fn
  kind : b.kind = .normal
  rnd : RndR r f.rnd b.roundOf
theorem FR.mono {r s : PM} (h : r.le s) {f : AFr} {b : Frame} (hf : FR r f b) : FR s f b := ⟨hf.fn, hf.kind, hf.rnd.mono h⟩

def RunS (P : Program) (G N : Nat) (run : Run) : Prop := ∀ (f : AFr) (H : AH) (j : Option Code) (f' : AFr) (H' : AH) (r : PM) (w : World) (b : Frame) (a : Act) (k : List Item) (cs : List Frame), run f H = some (j, f', H') → Rel P G N r H w → FT r f a → FR r f b → TL r f.todo k →
  ∃ s a' k' w', Steps P (lone (b.atR a k) cs w) (lone (b.atR a' k') cs w') ∧ FT s f' a' ∧ FR s f' b ∧ Ex P G N r H w s H' w' ∧ LV j k'

theorem RunS.go {run : Run} (hrun : RunS P G N run) {f : AFr} {H : AH} {j : Option Code} {f' : AFr} {H' : AH} {r s : PM} {w w1 : World} {b : Frame} {a a1 : Act} {k k1 : List Item} {cs : List Frame} {H1 : AH}
    (he : run f H1 = some (j, f', H')) (hx : Ex P G N r H w s H1 w1) (hf : FT s f a1) (hb : FR s f b) (ht : TL s f.todo k1) (hst : Steps P (lone (b.atR a k) cs w) (lone (b.atR a1 k1) cs w1)) :
    ∃ s a' k' w', Steps P (lone (b.atR a k) cs w) (lone (b.atR a' k') cs w') ∧ FT s f' a' ∧ FR s f' b ∧ Ex P G N r H w s H' w' ∧ LV j k' := by
  obtain ⟨t, a', k', w', h1, h2, h3, h4, h5⟩ := hrun f H1 j f' H' s w1 b a1 k1 cs he hx.rel hf hb ht
  exact ⟨t, a', k', w', hst.trans h1, h2, h3, hx.trans h4, h5⟩

theorem goto_eq (f : AFr) (k : List Item) : f.goto k = ⟨f.fn, f.sz, f.tm, k, f.marks, f.rnd⟩ := rfl
theorem FT.goto {r : PM} {f : AFr} {a : Act} (h : FT r f a) (k : List Item) : FT r (f.goto k) a := ⟨h.sz, h.le, h.tm, h.marks⟩
theorem FR.goto {r : PM} {f : AFr} {b : Frame} (h : FR r f b) (k : List Item) : FR r (f.goto k) b := ⟨h.fn, h.kind, h.rnd⟩

end Go.Eng

namespace Go.Eng
open Go.RowKit

variable {P : Program} {G N : Nat} {run : Run}

theorem opsA_same {ops : Array Oper} : ∀ (l : List Oper) (f f' : AFr) (H H' : AH), opsA P G run ops l f H = some (f', H') → f'.fn = f.fn ∧ f'.rnd = f.rnd
  | [], f, f', H, H', h => by simp only [opsA, Option.some.injEq, Prod.mk.injEq] at h; rw [← h.1]; exact ⟨rfl, rfl⟩
  | o :: l, f, f', H, H', h => by
    have hp := fun v => AFr.put_same f o.dst v
    simp only [opsA] at h
    cases hw : wantedA ops f o with
    | true =>
      rw [hw, ifb_true] at h
      split at h
      · obtain ⟨h1, h2⟩ := opsA_same l _ _ _ _ h
        exact ⟨h1.trans (hp _).1, h2.trans (hp _).2.2.2⟩
      · cases h
    | false =>
      rw [hw, ifb_false] at h
      obtain ⟨h1, h2⟩ := opsA_same l _ _ _ _ h
      exact ⟨h1.trans (hp _).1, h2.trans (hp _).2.2.2⟩

theorem anyA_same {ops : Array Oper} {ms : List Nat} : ∀ (l : List (Nat × Nat × Nat)) (lg : Log3) (f f' : AFr) (H H' : AH), anyA P G run ops ms l lg f H = some (f', H') → f'.fn = f.fn ∧ f'.rnd = f.rnd
  | [], _, f, f', H, H', h => by simp only [anyA, Option.some.injEq, Prod.mk.injEq] at h; rw [← h.1]; exact ⟨rfl, rfl⟩
  | (q, i, j) :: l, lg, f, f', H, H', h => by
    simp only [anyA] at h
    split at h
    · cases h
    · rename_i o ho
      have hp := fun v => AFr.put_same f o.dst v
      have go : ∀ lg' v H1, anyA P G run ops ms l lg' (f.put o.dst v) H1 = some (f', H') → f'.fn = f.fn ∧ f'.rnd = f.rnd := fun lg' v H1 h1 => by
        obtain ⟨h1, h2⟩ := anyA_same l _ _ _ _ _ h1
        exact ⟨h1.trans (hp _).1, h2.trans (hp _).2.2.2⟩
      split at h
      · split at h
        · split at h
          · split at h
            · split at h
              · split at h
                · simp only [Option.some.injEq, Prod.mk.injEq] at h; rw [← h.1]; exact ⟨rfl, rfl⟩
                · cases h
              · cases h
            · cases h
          · cases h
        · cases h
      · split at h
        · split at h
          · split at h
            · exact go _ _ _ h
            · cases h
          · split at h
            · split at h
              · exact go _ _ _ h
              · cases h
            · cases h
        · split at h
          · exact go _ _ _ h
          · exact go _ _ _ h

theorem resolve_func {a : Act} {fv : Operand} {g : FuncId} {first captured : Array Value} (h : a.eval fv = .func (.func g) first captured) (l : Nat) (w : World) :
    (resolve a.eval (rangeCall fv l) 0).run P w = .ok { target := .fn (.func g) captured, args := first ++ #[.func (.yield l) #[] #[]] } w := by
  have hm : Array.map a.eval #[Operand.const (Value.func (Fn.yield l) #[] #[])] = #[Value.func (Fn.yield l) #[] #[]] := by simp [Act.eval]
  simp only [resolve, h, Deferred.ofValue, hm]
  rfl

theorem callable_body {g : FuncId} (h : callable P g = true) : ∃ fn body, P.funcs[g]? = some fn ∧ fn.body = some body ∧ (fn.name == "runtime.NumGoroutine") = false := by
  unfold callable at h
  split at h
  · rename_i fn hf
    rw [Bool.and_eq_true, Bool.not_eq_true'] at h
    obtain ⟨body, hb⟩ := Option.isSome_iff_exists.1 h.1
    exact ⟨fn, body, hf, hb, h.2⟩
  · cases h

theorem callFunc_run {g : FuncId} (h : callable P g = true) (args : Array Value) (w : World) : (callFunc g args).run P w = .ok (.enter g args) w := by
  obtain ⟨fn, body, h1, h2, h3⟩ := callable_body h
  unfold callFunc program
  simp only [bind, Sem.bind, Sem.run, h1]
  simp only [h3, h2, Bool.false_eq_true, if_false, Option.isNone_some, pure, Sem.run]

theorem invoke_func {g : FuncId} (h : callable P g = true) (captured args : Array Value) (w : World) : (invoke (.fn (.func g) captured) args).run P w = .ok (.enter g (args ++ captured)) w := callFunc_run h _ w

theorem VR.func_inv {r : PM} {g : FuncId} {first captured : List Value} {v : Value} (h : VR r (.func (.func g) ⟨first⟩ ⟨captured⟩) v) : ∃ first' captured', v = .func (.func g) ⟨first'⟩ ⟨captured'⟩ ∧ VL r first first' ∧ VL r captured captured' := by
  cases v <;> try (simp only [VR] at h; done)
  rename_i fn xs ys
  obtain ⟨xs⟩ := xs
  obtain ⟨ys⟩ := ys
  simp only [VR] at h
  cases fn <;> simp only [FnR, false_and] at h
  obtain ⟨rfl, h1, h2⟩ := h
  exact ⟨xs, ys, rfl, h1, h2⟩

theorem FT.array {r : PM} {f : AFr} {a : Act} (h : FT r f a) : VL r ((List.range f.sz).map f.tmp) a.tmps.toList := by
  refine VL.of_get (by simp [h.sz]) fun k v hk => ?_
  rw [List.getElem?_map] at hk
  cases hr : (List.range f.sz)[k]? with
  | none => rw [hr] at hk; cases hk
  | some k' =>
    rw [hr] at hk
    simp only [Option.map_some, Option.some.injEq] at hk
    have hlt : k < f.sz := by
      rcases Nat.lt_or_ge k f.sz with h1 | h1
      · exact h1
      · rw [List.getElem?_eq_none (by simpa using h1)] at hr; cases hr
    have hk' : k' = k := by
      rw [List.getElem?_range hlt] at hr
      exact (Option.some.inj hr).symm
    subst hk'
    have hlt' : k' < a.tmps.size := by rw [← h.sz]; exact hlt
    refine ⟨a.tmps[k'], by simp [hlt'], ?_⟩
    have := h.tm k'
    rw [hk] at this
    simpa [hlt'] using this

theorem enterLoopA_sound (hrun : RunS P G N run) (hc : CallS P G N run) {f : AFr} {g : FuncId} {first captured : List Value} {params : Array Tmp} {assign body : Code} {db db' : Nat} {marks : List Nat} {dmarks : List Deferred} {k k' : List Item}
    {H H1 : AH} {r s : PM} {w w1 w2 : World} {b : Frame} {a : Act} {cs : List Frame} {j : Option Code} {f' : AFr} {H' : AH} {fv : Operand} {first' captured' : List Value}
    (h : enterLoopA P run f g first captured params assign body db marks k H1 = some (j, f', H')) (hx : Ex P G N r H w s H1 w1) (hf : FT s f a) (hb : FR s f b) (ht : TL s k k')
    (hfv : a.eval fv = .func (.func g) ⟨first'⟩ ⟨captured'⟩) (hfi : VL s first first') (hca : VL s captured captured') (hcl : callable P g = true) (hdb : BR s db db') (hmarks : DR s marks dmarks) {mark : List Deferred} (hdm : dmarks = mark ++ a.defers)
    (hw2 : w2 = { w1 with heap := w1.heap.push (.loop { state := .ready, pending := none, fn := b.fn, tmps := a.tmps, params, assign, body, defers := db' }) })
    (hent : (Instr.enterLoop b.fn a.tmps params assign body b.roundOf).run P w = .ok (w1.heap.size, mark) w2) :
    ∃ s a' k'' w', Steps P (lone (b.atR a (.code (.rangeFunc fv params assign body) :: k')) cs w) (lone (b.atR a' k'') cs w') ∧ FT s f' a' ∧ FR s f' b ∧ Ex P G N r H w s H' w' ∧ LV j k'' := by
  unfold enterLoopA at h
  cases hlt : Nat.blt H1.next most with
  | false => rw [hlt, ifb_false] at h; cases h
  | true =>
    rw [hlt, ifb_true] at h
    have hlt' : H1.next < most := by simpa [Nat.blt_eq] using hlt
    split at h
    · rename_i v1 H2 hcall
      have hor : OR s (.loop { state := .ready, pending := none, fn := f.fn, tmps := ⟨(List.range f.sz).map f.tmp⟩, params, assign, body, defers := db })
          (.loop { state := .ready, pending := none, fn := b.fn, tmps := a.tmps, params, assign, body, defers := db' }) := by
        simp only [OR]
        exact ⟨trivial, trivial, hb.fn, hf.array, trivial, trivial, trivial, hdb⟩
      have hx2 : Ex P G N s H1 w1 (ins s H1.next (w1.heap.size, 0, 0)) (H1.push (.loop { state := .ready, pending := none, fn := f.fn, tmps := ⟨(List.range f.sz).map f.tmp⟩, params, assign, body, defers := db })) w2 := by
        subst hw2
        exact Ex.fresh hx.rel hlt' (by simp) (by simp) (Nat.le_refl _) (fun q hq => by show (w1.heap.push _)[q]? = _; rw [Array.getElem?_push, if_neg (by omega)])
          (by show ObjAt P s 0 0 _ (w1.heap.push _)[w1.heap.size]?; rw [Array.getElem?_push_size]; exact hor.at) rfl rfl rfl
      have hle := hx2.le
      have hargs : VL (ins s H1.next (w1.heap.size, 0, 0)) (first ++ [.func (.yield H1.next) #[] #[]] ++ captured) (first' ++ [.func (.yield w1.heap.size) #[] #[]] ++ captured') := by
        refine ((hfi.mono hle).append (VL.cons ?_ (VL.nil _))).append (hca.mono hle)
        show VR _ (.func (.yield H1.next) ⟨[]⟩ ⟨[]⟩) (.func (.yield w1.heap.size) ⟨[]⟩ ⟨[]⟩)
        simp only [VR, VR.go, and_self, and_true, FnR]
        exact ⟨0, 0, ins_same _ _ _⟩
      have hcalls := hc g _ _ _ v1 H2 _ w2 hx2.rel hargs hcall
      have hstep := stepR_rangeFunc (P := P) (b := b) (a := a) (k := k') (cs := cs) (w := w) (g := fv) hent (resolve_func hfv w1.heap.size w2) (invoke_func hcl ⟨captured'⟩ _ w2)
      obtain ⟨e, w3, fr, ⟨v', t, he, hv, hx3⟩, hsteps, _, hleave⟩ := hcalls (b.atR { a with defers := mark ++ a.defers } (.inRangeFunc w1.heap.size :: k') :: cs)
      subst he
      have hlv := step_leave_returned (c := b.atR { a with defers := mark ++ a.defers } (.inRangeFunc w1.heap.size :: k')) (cs := cs) hleave
      rw [finish_atR_inRangeFunc] at hlv
      have hargs' : (⟨first'⟩ ++ #[.func (.yield w1.heap.size) #[] #[]] ++ ⟨captured'⟩ : Array Value) = ⟨first' ++ [.func (.yield w1.heap.size) #[] #[]] ++ captured'⟩ := by simp
      rw [hargs'] at hstep
      have hxx := (hx.trans hx2).trans hx3
      have hle2 := hx2.le.trans hx3.le
      refine hrun.go (a := a) (k := .code (.rangeFunc fv params assign body) :: k') h hxx (a1 := { a with defers := mark ++ a.defers }) (k1 := .endRangeFunc w1.heap.size :: k') ?_ ?_ ?_ ?_
      · exact ⟨hf.sz, hf.le, fun q => (hf.tm q).mono hle2, by rw [← hdm]; exact hmarks.mono hle2⟩
      · exact ⟨hb.fn, hb.kind, hb.rnd.mono hle2⟩
      · exact ⟨⟨0, 0, hx3.le _ _ (ins_same _ _ _)⟩, ht.mono hle2⟩
      · exact .head hstep (Steps.trans hsteps (.one hlv))
    · cases h

end Go.Eng

namespace Go.Eng
open Go.RowKit

variable {P : Program} {G N : Nat} {run : Run}

theorem TL.inv {r : PM} {x : Item} {l m : List Item} (h : TL r (x :: l) m) : ∃ y m', m = y :: m' ∧ IR r x y ∧ TL r l m' := by
  cases m with
  | nil => simp [TL] at h
  | cons y m' => exact ⟨y, m', rfl, h.1, h.2⟩

theorem stepF_sound (hm : P.follows .mixedOrders = true) (hop : OpS P G N) (hfr : FreshS P G) (hro : RoS P G N) (hpr : PairS) (hrun : RunS P G N run) (hc : CallS P G N run) (hrd : RoundS P G N run) : RunS P G N (stepF P G run) := by
  intro f H j f' H' r w b a k cs he hr hf hb ht
  unfold stepF at he
  have same : ∀ {k1 : List Item} {k2 : List Item}, run (f.goto k1) H = some (j, f', H') → TL r k1 k2 → Steps P (lone (b.atR a k) cs w) (lone (b.atR a k2) cs w) →
      ∃ s a' k' w', Steps P (lone (b.atR a k) cs w) (lone (b.atR a' k') cs w') ∧ FT s f' a' ∧ FR s f' b ∧ Ex P G N r H w s H' w' ∧ LV j k' := fun h1 h2 h3 =>
    hrun.go (f := f.goto _) h1 (Ex.refl hr) (hf.goto _) (hb.goto _) h2 h3
  split at he
  · rename_i htodo
    rw [htodo] at ht
    cases k with
    | cons _ _ => simp [TL] at ht
    | nil =>
      simp only [Option.some.injEq, Prod.mk.injEq] at he
      obtain ⟨rfl, rfl, rfl⟩ := he
      exact ⟨r, a, [], w, .refl P _, hf, hb, Ex.refl hr, rfl⟩
  · rename_i x kk htodo
    rw [htodo] at ht
    obtain ⟨y, k', rfl, hxy, ht'⟩ := ht.inv
    split at he
    · -- code
      rename_i c
      cases y <;> simp only [IR] at hxy
      subst hxy
      unfold codeA at he
      split at he
      · -- ret
        simp only [Option.some.injEq, Prod.mk.injEq] at he
        obtain ⟨rfl, rfl, rfl⟩ := he
        exact ⟨r, a, _, w, .refl P _, hf, hb, Ex.refl hr, _, rfl⟩
      · exact same he ht' (.one stepR_skip)
      · rename_i x y; exact same (k2 := .code x :: .code y :: k') he ⟨rfl, rfl, ht'⟩ (.one stepR_seq)
      · -- cond
        rename_i c x y
        cases hok : okOpd G c with
        | false => rw [hok, ifb_false] at he; cases he
        | true =>
          rw [hok, ifb_true] at he
          have hv := hf.ev hr.glob hok
          unfold condA at he
          split at he
          · rename_i t hfe
            rw [hfe] at hv
            have hae : a.eval c = .bool t := by
              cases hx : a.eval c <;> rw [hx] at hv <;> simp only [VR] at hv
              rw [hv]
            refine same (k2 := .code (if t then x else y) :: k') he ⟨?_, ht'⟩ (.one (stepR_cond hae))
            cases t <;> rfl
          · cases he
      · rename_i id c; exact same (k2 := .code c :: .inBlock id :: k') he ⟨rfl, rfl, ht'⟩ (.one stepR_block)
      · rename_i c; exact same (k2 := .code c :: .inLoop c :: k') he ⟨rfl, rfl, ht'⟩ (.one stepR_loop)
      · -- exit
        rename_i id
        unfold exitA at he
        have hex := TL.exit id ht'
        split at he
        · rename_i k1 hk1
          rw [hk1] at hex
          obtain ⟨k2, e1, e2⟩ := hex
          exact same he e2 (.one (stepR_exit e1))
        · rename_i hk1
          rw [hk1] at hex
          simp only [Option.some.injEq, Prod.mk.injEq] at he
          obtain ⟨rfl, rfl, rfl⟩ := he
          exact ⟨r, a, _, w, .refl P _, hf, hb, Ex.refl hr, _, rfl, hex⟩
      · -- region
        rename_i id ops draw
        cases draw with
        | true =>
          rw [ifb_true] at he
          unfold anyR anyR2 at he
          split at he
          · rename_i l hpl
            split at he
            · rename_i f1 H1 hany
              unfold planOf at hpl
              cases hpo : ifb (Region.noSelect ops) (pairsAll ops [] ops.toList (masks ops.toList [])) false with
              | false => rw [hpo, ifb_false] at hpl; cases hpl
              | true =>
                rw [hpo, ifb_true] at hpl
                rw [ifb_and, Bool.and_eq_true] at hpo
                have hr1 : Rel P G N r H { w with drawn := w.drawn + 1 } := hr.drew _
                have hst : StA P G N ops (masks ops.toList []) r H { w with drawn := w.drawn + 1 } 0 none [] [] f H (Array.replicate ops.size false) a { w with drawn := w.drawn + 1 } r := by
                  refine ⟨Ex.refl hr1, trivial, (fun _ h => by cases h), fun k o ho hk => ?_, by simp, fun i hi => ?_, fun i hi => ?_, ⟨a, hf, rfl⟩, fun e he => by cases he⟩
                  · have hlt : k < ops.size := (Array.getElem?_eq_some_iff.1 ho).1
                    simp [hlt] at hk
                  · rw [bit_zero] at hi; cases hi
                  · rw [bit_zero]
                    simp [hi]
                have hany' := anyA_sound (r0 := r) (H0 := H) (w0 := { w with drawn := w.drawn + 1 }) hr1.base hop hfr hro hpr hc hrd (masks_ms ops) hpo.2 (Region.noSelect_spec hpo.1) _ ops.size ops.size l 0 none [] [] f H _ a _ r (Nat.lt_succ_self _) (by simp) hpl hany hst
                obtain ⟨a1, w1, ⟨s, hf1, hx1⟩, hsteps⟩ := AnyS.region (b := b) (k := k') (cs := cs) (id := id) hm hany'
                obtain ⟨q1, q2⟩ := anyA_same l [] f f1 H H1 hany
                have hx : Ex P G N r H w s H1 w1 := (Ex.drew hr _).trans hx1
                exact hrun.go (f := f1.goto kk) he hx (hf1.goto _) ⟨by rw [hb.fn]; exact q1.symm, hb.kind, by show RndR s f1.rnd b.roundOf; rw [q2]; exact hb.rnd.mono hx.le⟩ (ht'.mono hx.le) hsteps
            · cases he
          · cases he
        | false =>
          rw [ifb_false] at he
          unfold opsR at he
          split at he
          · rename_i f1 H1 hops
            have hto := opsA_sound (ops := ops) hop hc hrd ops.toList 0 f f1 H H1 r a w rfl hr hf hops
            rw [← List.range_eq_range'] at hto
            obtain ⟨a1, w1, ⟨s, hf1, hx⟩, hsteps⟩ := OpsTo.steps (b := b) (k := k') (cs := cs) _ a w hto
            obtain ⟨q1, q2⟩ := opsA_same ops.toList f f1 H H1 hops
            have hsz : ops.toList.length = ops.size := by simp
            rw [hsz] at hsteps
            exact hrun.go (f := f1.goto kk) he hx (hf1.goto _) ⟨by rw [hb.fn]; exact q1.symm, hb.kind, by show RndR s f1.rnd b.roundOf; rw [q2]; exact hb.rnd.mono hx.le⟩ (ht'.mono hx.le) (.head stepR_region hsteps)
          · cases he
      · -- range over a function
        rename_i fv params assign body
        unfold rangeA at he
        cases hok : okOpd G fv with
        | false => rw [hok, ifb_false] at he; cases he
        | true =>
          rw [hok, ifb_true] at he
          have hv := hf.ev hr.glob hok
          split at he
          · rename_i g first captured hfe
            rw [hfe] at hv
            obtain ⟨first', captured', hae, hfi, hca⟩ := hv.func_inv
            cases hcl : callable P g with
            | false => rw [hcl, ifb_false] at he; cases he
            | true =>
              rw [hcl, ifb_true] at he
              have hbr := hb.rnd
              split at he
              · rename_i l hl
                rw [hl] at hbr
                cases hro2 : b.roundOf with
                | none => rw [hro2] at hbr; simp [RndR] at hbr
                | some l' =>
                  rw [hro2] at hbr
                  simp only [RndR] at hbr
                  split at he
                  · rename_i R hR
                    obtain ⟨o', ho', hor⟩ := obj_get hr hR rfl rfl hbr
                    cases o' <;> simp only [OR] at hor
                    rename_i R'
                    have hent := run_enterLoop_inner (P := P) (w := w) ho' b.fn a.tmps params assign body
                    rw [← hro2] at hent
                    exact enterLoopA_sound (mark := []) (db' := R'.defers) hrun hc he (Ex.refl hr) hf hb ht' hae hfi hca hcl hor.2.2.2.2.2.2.2 hf.marks rfl rfl hent
                  · cases he
              · rename_i hl
                rw [hl] at hbr
                cases hro2 : b.roundOf with
                | some l' => rw [hro2] at hbr; simp [RndR] at hbr
                | none =>
                  cases hlt : Nat.blt H.next most with
                  | false => rw [hlt, ifb_false] at he; cases he
                  | true =>
                    rw [hlt, ifb_true] at he
                    have hlt' : H.next < most := by simpa [Nat.blt_eq] using hlt
                    have hx2 : Ex P G N r H w (ins r H.next (w.heap.size, 0, 0)) (H.push (.deferred (some []))) { w with heap := w.heap.push (.deferred (some [])) } :=
                      Ex.fresh hr hlt' (by simp) (by simp) (Nat.le_refl _) (fun q hq => by show (w.heap.push _)[q]? = _; rw [Array.getElem?_push, if_neg (by omega)])
                        (by show ObjAt P r 0 0 _ (w.heap.push _)[w.heap.size]?; rw [Array.getElem?_push_size]; exact ⟨_, rfl, trivial⟩) rfl rfl rfl
                    have hent := run_enterLoop_outer (P := P) (w := w) b.fn a.tmps params assign body
                    rw [← hro2] at hent
                    have hle := hx2.le
                    refine enterLoopA_sound (mark := [{ target := .collected w.heap.size, args := #[] }]) (db' := w.heap.size) (dmarks := { target := .collected w.heap.size, args := #[] } :: a.defers) hrun hc he hx2 (hf.mono hle) (hb.mono hle) (ht'.mono hle) hae (hfi.mono hle) (hca.mono hle) hcl
                      ⟨0, 0, ins_same _ _ _⟩ ⟨⟨w.heap.size, rfl, 0, 0, ins_same _ _ _⟩, hf.marks.mono hle⟩ rfl rfl ?_
                    rw [hent]
                    simp only [World.alloc, Array.size_push]
          · cases he
      · cases he
    · -- inBlock
      cases y <;> simp only [IR] at hxy
      exact same he ht' (.one stepR_inBlock)
    · -- inLoop
      cases y <;> simp only [IR] at hxy
      subst hxy
      rename_i c
      exact same (k2 := .code c :: .inLoop c :: k') he ⟨rfl, rfl, ht'⟩ (.one stepR_inLoop)
    · -- beginRound
      cases y <;> simp only [IR] at hxy
      unfold beginA at he
      have hbr := hb.rnd
      split at he
      · rename_i l hl
        rw [hl] at hbr
        cases hro2 : b.roundOf with
        | none => rw [hro2] at hbr; simp [RndR] at hbr
        | some l' =>
          rw [hro2] at hbr
          simp only [RndR] at hbr
          split at he
          · rename_i R hR
            split at he
            · rename_i hst
              cases hlo : Nat.ble H.lo l with
              | false => rw [hlo, ifb_false] at he; cases he
              | true =>
                rw [hlo, ifb_true] at he
                obtain ⟨o', ho', hor⟩ := obj_get hr hR rfl rfl hbr
                cases o' <;> simp only [OR] at hor
                rename_i R'
                obtain ⟨h1, h2, h3, h4, h5, h6, h7, h8⟩ := hor
                have hx : Ex P G N r H w r (H.set l (.loop { R with state := .busy })) (w.putObj l' (.loop { R' with state := .busy })) :=
                  obj_put hr hR rfl (Nat.le_of_ble_eq_true hlo) hbr ho' rfl (by simp only [OR]; exact ⟨trivial, h2, h3, h4, h5, h6, h7, h8⟩)
                exact hrun.go (f := f.goto kk) he hx (hf.goto _) (hb.goto _) ht' (.one (stepR_beginRound hro2 (run_beginRound ho' (by rw [h1, hst]))))
            · cases he
          · cases he
      · cases he
    · -- endRangeFunc
      cases y <;> simp only [IR] at hxy
      rename_i l l'
      unfold endA at he
      split at he
      · rename_i R hR
        obtain ⟨o', ho', hor⟩ := obj_get hr hR rfl rfl hxy
        cases o' <;> simp only [OR] at hor
        rename_i R'
        obtain ⟨h1, h2, h3, h4, h5, h6, h7, h8⟩ := hor
        split at he
        · cases he
        · rename_i hnb
          cases hlo : Nat.ble H.lo l with
          | false => rw [hlo, ifb_false] at he; cases he
          | true =>
            rw [hlo, ifb_true] at he
            have hx : Ex P G N r H w r (H.set l (.loop { R with state := .exhausted })) (w.putObj l' (.loop { R' with state := .exhausted })) :=
              obj_put hr hR rfl (Nat.le_of_ble_eq_true hlo) hxy ho' rfl (by simp only [OR]; exact ⟨trivial, h2, h3, h4, h5, h6, h7, h8⟩)
            have hend := run_endLoop (P := P) ho' (by rw [h1]; exact fun e => hnb e)
            refine hrun.go (f := f.goto _) he hx (hf.goto _) (hb.goto _) ?_ (.one (stepR_endRangeFunc hend))
            rw [h2]
            show TL r ((R.pending.map Item.code).toList ++ kk) ((R.pending.map Item.code).toList ++ k')
            cases R.pending with
            | none => exact ht'
            | some c => exact ⟨rfl, ht'⟩
      · cases he
    · cases he

/-! ### Calls and rounds -/

theorem putArgs_get : ∀ (l : List Value) (tm : T4 Value) (i k : Nat), i + l.length ≤ 256 → k < 256 → T4.get (putArgs tm i l) k = if i ≤ k ∧ k < i + l.length then l[k - i]?.getD undef else T4.get tm k
  | [], tm, i, k, _, _ => by
    simp only [putArgs, List.length_nil, Nat.add_zero]
    rw [if_neg (by omega)]
  | v :: l, tm, i, k, h, hk => by
    simp only [List.length_cons] at h
    simp only [putArgs]
    rw [show Nat.succ i = i + 1 from rfl, putArgs_get l (T4.set tm i v) (i + 1) k (by omega) hk]
    simp only [List.length_cons]
    by_cases h1 : i + 1 ≤ k ∧ k < i + 1 + l.length
    · rw [if_pos h1, if_pos (by omega), show k - i = (k - (i + 1)) + 1 from by omega, List.getElem?_cons_succ]
    · rw [if_neg h1]
      by_cases h2 : k = i
      · subst h2
        rw [T4.get_set_same, if_pos (by omega), Nat.sub_self, List.getElem?_cons_zero]; rfl
      · rw [T4.get_set_ne _ (by omega) hk (fun e => h2 e.symm), if_neg (by omega)]

theorem FT.enter {r : PM} {args args' : List Value} (h : VL r args args') {sz : Nat} (hsz : args.length ≤ sz) (h256 : sz ≤ 256) (fn : FuncId) (todo : List Item) (rnd : Option Nat) :
    FT r ⟨fn, sz, putArgs (T4.leaf undef) 0 args, todo, [], rnd⟩ ⟨(⟨args'⟩ : Array Value) ++ Array.replicate (sz - args'.length) undef, []⟩ := by
  have hl := h.length
  refine ⟨by simp [hl]; omega, h256, fun t => ?_, trivial⟩
  rw [AFr.tmp_eq]
  show VR r (if t < sz then T4.get (putArgs (T4.leaf undef) 0 args) t else undef) _
  by_cases ht : t < sz
  · rw [if_pos ht, putArgs_get args _ 0 t (by omega) (by omega), Nat.sub_zero]
    by_cases hta : t < args.length
    · rw [if_pos (by omega)]
      have e : args[t]? = some args[t] := by simp [hta]
      obtain ⟨v', e1, e2⟩ := h.get e
      have e3 : ((⟨args'⟩ : Array Value) ++ Array.replicate (sz - args'.length) undef).getD t undef = v' := by
        have : t < args'.length := by rw [hl]; exact hta
        simp [Array.getElem?_append, this] at e1 ⊢
        exact e1
      rw [e, e3]
      exact e2
    · rw [if_neg (by omega), T4.get_leaf]
      have e3 : ((⟨args'⟩ : Array Value) ++ Array.replicate (sz - args'.length) undef).getD t undef = undef := by
        have : ¬ t < args'.length := by rw [hl]; exact hta
        simp [Array.getElem?_append, this, Array.getElem?_replicate]
        split <;> rfl
      rw [e3]
      exact VR.undef r
  · rw [if_neg ht]
    have e3 : ((⟨args'⟩ : Array Value) ++ Array.replicate (sz - args'.length) undef).getD t undef = undef := by
      have : ¬ t < args'.length := by rw [hl]; omega
      have h2 : ¬ t - args'.length < sz - args'.length := by omega
      simp [Array.getElem?_append, this, h2]
    rw [e3]
    exact VR.undef r

theorem takeMarks_sound : ∀ (l : List Nat) (ds : List Deferred) (H H' : AH) (r : PM) (w : World) (fr : Frame) (cs : List Frame), takeMarks l H = some H' → Rel P G N r H w → DR r l ds → fr.mode = .returning → fr.defers = ds →
    ∃ w', Steps P (lone fr cs w) (lone { fr with defers := [] } cs w') ∧ Ex P G N r H w r H' w'
  | [], [], H, H', r, w, fr, cs, h, hr, _, hm, hd => by
    simp only [takeMarks, Option.some.injEq] at h
    subst h
    refine ⟨w, ?_, Ex.refl hr⟩
    have : ({ fr with defers := [] } : Frame) = fr := by rw [← hd]
    rw [this]
    exact .refl P _
  | b :: l, d :: ds, H, H', r, w, fr, cs, h, hr, hdr, hm, hd => by
    simp only [DR] at hdr
    obtain ⟨⟨b', hdd, hb⟩, hdr⟩ := hdr
    simp only [takeMarks] at h
    split at h
    · rename_i hg
      split at h
      · rename_i hlo
        obtain ⟨o', ho', hor⟩ := obj_get hr hg rfl rfl hb
        have ho2 : o' = .deferred (some []) := by
          cases o' <;> simp only [OR] at hor
          rename_i c
          cases c with
          | none => simp only at hor
          | some c => cases c <;> simp only at hor; rfl
        subst ho2
        have hx : Ex P G N r H w r (H.set b (.deferred none)) (w.putObj b' (.deferred none)) := obj_put hr hg rfl hlo hb ho' rfl trivial
        have hstep := step_collected (P := P) (fr := fr) (cs := cs) (w := w) (by rw [hm]; simp) hd (by rw [hdd]) (run_takeDeferred (P := P) ho')
        obtain ⟨w', h1, h2⟩ := takeMarks_sound l ds _ H' r _ { fr with defers := [] ++ ds } cs h hx.rel hdr hm rfl
        exact ⟨w', .head hstep h1, hx.trans h2⟩
      · cases h
    · cases h
  | [], _ :: _, _, _, _, _, _, _, _, _, hdr, _, _ => by simp [DR] at hdr
  | _ :: _, [], _, _, _, _, _, _, _, _, hdr, _, _ => by simp [DR] at hdr

end Go.Eng

namespace Go.Eng
open Go.RowKit

variable {P : Program} {G N : Nat} {run : Run}

def resOf (tmps : Array Value) : ResultVar → Sem Value
  | .tmp t => pure (tmps.getD t undef)
  | .cell a t => do loadVar t (← asAddr (tmps.getD a undef))

theorem results_eq (fn : Func) (tmps : Array Value) : results fn tmps = (do
    let vs ← fn.results.mapM (resOf tmps)
    pure (if h : vs.size = 1 then vs[0] else .tuple vs)) := rfl

theorem res_run {s : PM} {H : AH} {w : World} {f : AFr} {a : Act} (hr : Rel P G N s H w) (hf : FT s f a) : ∀ (l : List ResultVar) (vs : List Value), resList P f H l = some vs → ∃ vs', (l.mapM (resOf a.tmps)).run P w = .ok vs' w ∧ VL s vs vs'
  | [], vs, h => by
    simp only [resList, Option.some.injEq] at h
    subst h
    exact ⟨[], by simp only [List.mapM_nil]; rfl, VL.nil s⟩
  | .tmp t :: l, vs, h => by
    simp only [resList] at h
    split at h
    · rename_i m hm
      simp only [Option.some.injEq] at h
      subst h
      obtain ⟨vs', e1, e2⟩ := res_run hr hf l m hm
      refine ⟨a.tmps.getD t undef :: vs', ?_, VL.cons (hf.tm t) e2⟩
      simp only [List.mapM_cons]
      show ((pure (a.tmps.getD t undef) : Sem Value).bind _).run P w = _
      rw [run_bind']
      simp only [pure, Sem.run]
      show ((l.mapM (resOf a.tmps)).bind _).run P w = _
      rw [run_bind', e1]
      rfl
    · cases h
  | .cell p t :: l, vs, h => by
    simp only [resList] at h
    split at h
    · rename_i q hq
      split at h
      · rename_i v lg hv
        split at h
        · rename_i m hm
          simp only [Option.some.injEq] at h
          subst h
          obtain ⟨vs', e1, e2⟩ := res_run hr hf l m hm
          have hp := hf.tm p
          rw [hq] at hp
          cases hx : a.tmps.getD p undef <;> rw [hx] at hp <;> (try (simp only [VR] at hp; done))
          rename_i q'
          cases q' <;> simp only [VR] at hp
          rename_i q'
          obtain ⟨u, hu, hrun⟩ := ro_run (TR.loadVar (t := t) hp) hr hv
          refine ⟨u :: vs', ?_, VL.cons hu e2⟩
          simp only [List.mapM_cons]
          show ((resOf a.tmps (.cell p t)).bind _).run P w = _
          rw [run_bind']
          have hro : (resOf a.tmps (.cell p t)).run P w = .ok u w := by
            simp only [resOf, hx]
            exact hrun
          rw [hro]
          show ((l.mapM (resOf a.tmps)).bind _).run P w = _
          rw [run_bind', e1]
          rfl
        · cases h
      · cases h
    · cases h

theorem resA_run {s : PM} {H : AH} {w : World} {f : AFr} {a : Act} (hr : Rel P G N s H w) (hf : FT s f a) {fn : Func} {v : Value} (h : resA P fn f H = some v) : ∃ v', (results fn a.tmps).run P w = .ok v' w ∧ VR s v v' := by
  have main : ∀ vs, resList P f H fn.results.toList = some vs → ∃ vs' : List Value, VL s vs vs' ∧ (results fn a.tmps).run P w = .ok (if h : (⟨vs'⟩ : Array Value).size = 1 then (⟨vs'⟩ : Array Value)[0] else .tuple ⟨vs'⟩) w := by
    intro vs hvs
    obtain ⟨vs', e1, e2⟩ := res_run hr hf _ vs hvs
    refine ⟨vs', e2, ?_⟩
    rw [results_eq, Array.mapM_eq_mapM_toList]
    show (((fn.results.toList.mapM (resOf a.tmps)).bind _).bind _).run P w = _
    rw [run_bind', run_bind', e1]
    rfl
  unfold resA at h
  split at h
  · rename_i v1 hv
    simp only [Option.some.injEq] at h
    subst h
    obtain ⟨vs', e1, e2⟩ := main _ hv
    cases vs' with
    | nil => simp [VL, VR.go] at e1
    | cons u m =>
      cases m with
      | cons _ _ => simp [VL, VR.go] at e1
      | nil =>
        simp only [VL, VR.go, and_true] at e1
        exact ⟨u, by rw [e2]; rfl, e1⟩
  · rename_i l hn hl
    simp only [Option.some.injEq] at h
    subst h
    obtain ⟨vs', e1, e2⟩ := main _ hl
    have hlen := e1.length
    have hne : ¬ (⟨vs'⟩ : Array Value).size = 1 := by
      intro h1
      have : l.length = 1 := by rw [← hlen]; exact h1
      obtain ⟨u, hu⟩ := List.length_eq_one_iff.1 this
      exact hn u (by rw [hu])
    refine ⟨.tuple ⟨vs'⟩, by rw [e2, dif_neg hne], ?_⟩
    simp only [VR]
    exact e1
  · cases h

theorem callA_sound (hrun : RunS P G N run) : CallS P G N run := by
  intro g args args' H v H' r w hr hargs h
  unfold callA at h
  split at h
  · cases h
  rename_i fn hfn
  split at h
  · cases h
  rename_i body hbody
  cases hle : Nat.ble (max fn.ntmps args.length) 256 with
  | false => rw [hle, ifb_false] at h; cases h
  | true =>
    rw [hle, ifb_true] at h
    have h256 : max fn.ntmps args.length ≤ 256 := Nat.le_of_ble_eq_true hle
    split at h
    · rename_i j f H1 hrr
      have hlen := hargs.length
      intro cs
      have hft := FT.enter (r := r) hargs (sz := max fn.ntmps args.length) (Nat.le_max_right _ _) h256 g [.code body] none
      have hent : Frame.enter P g ⟨args'⟩ .normal = (Frame.enter P g ⟨args'⟩ .normal).atR ⟨(⟨args'⟩ : Array Value) ++ Array.replicate (max fn.ntmps args.length - args'.length) undef, []⟩ [.code body] := by
        have hmx : max fn.ntmps args.length - args'.length = fn.ntmps - args'.length := by rw [hlen]; omega
        rw [hmx]
        simp [Frame.enter, Frame.atR, hfn, hbody]
      obtain ⟨s, a', k', w1, hst, hf1, hb1, hx1, hlv⟩ := hrun _ H j f H1 r w (Frame.enter P g ⟨args'⟩ .normal) _ [.code body] cs hrr hr hft ⟨rfl, rfl, trivial⟩ ⟨rfl, trivial⟩
      rw [← hent] at hst
      have hro : (Frame.enter P g ⟨args'⟩ .normal).roundOf = none := rfl
      have ret : (j = none ∨ j = some .ret) → Steps P (lone (Frame.enter P g ⟨args'⟩ .normal) cs w) (lone { (Frame.enter P g ⟨args'⟩ .normal).atR a' k' with mode := .returning } cs w1) := by
        rintro (rfl | rfl)
        · simp only [LV] at hlv
          subst hlv
          exact hst.trans (.one (stepR_end hro))
        · simp only [LV] at hlv
          obtain ⟨m, rfl⟩ := hlv
          exact hst.trans (.one (stepR_ret hro))
      have fin : (j = none ∨ j = some .ret) → (match takeMarks f.marks H1 with | some H2 => (match resA P fn f H2 with | some v => some (v, H2) | none => none) | none => none) = some (v, H') →
          ∃ e w' fr, (∃ v' s, e = .returned v' ∧ VR s v v' ∧ Ex P G N r H w s H' w') ∧ Comes P (lone (Frame.enter P g ⟨args'⟩ .normal) cs w) (lone fr cs w') e ∧ fr.fn = g ∧ fr.leaving P w' e := by
        intro hj h
        split at h
        · rename_i H2 htk
          split at h
          · rename_i v1 hres
            simp only [Option.some.injEq, Prod.mk.injEq] at h
            obtain ⟨rfl, rfl⟩ := h
            obtain ⟨w2, hst2, hx2⟩ := takeMarks_sound f.marks a'.defers H1 H2 s w1 { (Frame.enter P g ⟨args'⟩ .normal).atR a' k' with mode := .returning } cs htk hx1.rel hf1.marks rfl rfl
            obtain ⟨v', hv1, hv2⟩ := resA_run hx2.rel (a := a') (hf1.mono hx2.le) hres
            refine ⟨.returned v', w2, _, ⟨v', s, rfl, hv2, hx1.trans hx2⟩, (ret hj).trans hst2, rfl, rfl, rfl, rfl, fn, hfn, hv1⟩
          · cases h
        · cases h
      split at h
      · exact fin (.inl rfl) h
      · exact fin (.inr rfl) h
      · cases h
    · cases h

theorem roundA_sound (hrun : RunS P G N run) : RoundS P G N run := by
  intro l l' g tm tm' assign body H v H' r w hr hl htm h c cs
  unfold roundA at h
  cases hle : Nat.ble tm.length 256 with
  | false => rw [hle, ifb_false] at h; cases h
  | true =>
    rw [hle, ifb_true] at h
    split at h
    · rename_i j f H1 hrr
      split at h
      · rename_i hmk
        split at h
        · rename_i R hR
          split at h
          · rename_i hlo
            simp only [Option.some.injEq, Prod.mk.injEq] at h
            obtain ⟨rfl, rfl⟩ := h
            have hlen := htm.length
            have hft := FT.enter (r := r) htm (sz := tm.length) (Nat.le_refl _) (Nat.le_of_ble_eq_true hle) g [.code assign, .beginRound, .code body] (some l)
            have hrep : (⟨tm'⟩ : Array Value) ++ Array.replicate (tm.length - tm'.length) undef = ⟨tm'⟩ := by rw [hlen]; simp
            rw [hrep] at hft
            have hent : Frame.round l' g ⟨tm'⟩ assign body .normal = (Frame.round l' g ⟨tm'⟩ assign body .normal).atR ⟨⟨tm'⟩, []⟩ [.code assign, .beginRound, .code body] := rfl
            obtain ⟨s, a', k', w1, hst, hf1, hb1, hx1, hlv⟩ := hrun _ H j f H1 r w (Frame.round l' g ⟨tm'⟩ assign body .normal) _ [.code assign, .beginRound, .code body] (c :: cs) hrr hr hft ⟨rfl, rfl, hl⟩ ⟨rfl, trivial, rfl, trivial⟩
            rw [← hent] at hst
            have hbl : BR s l l' := hl.mono hx1.le
            obtain ⟨o', ho', hor⟩ := obj_get hx1.rel hR rfl rfl hbl
            cases o' <;> simp only [OR] at hor
            rename_i R'
            obtain ⟨h1, h2, h3, h4, h5, h6, h7, h8⟩ := hor
            have hend := fun jump => run_endRound (P := P) jump ho'
            have hx2 : Ex P G N s H1 w1 s (H1.set l (.loop { R with state := if j.isNone then .ready else .done, pending := j })) (w1.putObj l' (.loop { R' with state := if j.isNone then .ready else .done, pending := j })) :=
              obj_put hx1.rel hR rfl hlo hbl ho' rfl (by simp only [OR]; exact ⟨trivial, trivial, h3, h4, h5, h6, h7, h8⟩)
            refine ⟨.bool j.isNone, _, ⟨s, by simp only [VR], hx1.trans hx2⟩, hst.trans (.one ?_)⟩
            unfold LV at hlv
            split at hlv
            · subst hlv; exact stepR_round_end rfl rfl (hend none)
            · obtain ⟨m, rfl⟩ := hlv; exact stepR_round_ret rfl rfl (hend (some .ret))
            · obtain ⟨m, rfl, hm⟩ := hlv; exact stepR_round_exit rfl rfl hm (hend (some (.exit _)))
            · exact hlv.elim
          · cases h
        · cases h
      · cases h
    · cases h

theorem runF_sound (hm : P.follows .mixedOrders = true) (hop : OpS P G N) (hfr : FreshS P G) (hro : RoS P G N) (hpr : PairS) : ∀ n, RunS P G N (runF P G n)
  | 0 => fun f H j f' H' r w b a k cs he => by simp [runF] at he
  | n + 1 => by
    have ih := runF_sound hm hop hfr hro hpr n
    exact stepF_sound hm hop hfr hro hpr ih (callA_sound ih) (roundA_sound ih)

end Go.Eng

namespace Go.Eng
open Go.RowKit

variable {P : Program} {G N : Nat}

theorem pr_run {α : Type} (t : Sem α) : ∀ (a : α) (w : World), pr P t = some a → t.run P w = .ok a w := by
  induction t with
  | pure a0 => intro a w h; simp only [pr, Option.some.injEq] at h; rw [h]; rfl
  | program k ih => intro a w h; exact ih P a w h
  | mark m k ih => intro a w h; exact ih a w h
  | _ => intro a w h; simp [pr] at h

theorem run_val {t : Sem Value} {w w' : World} {v : Value} (h : t.run P w = .ok v w') : (do pure (Next.value (← t)) : Sem Next).run P w = .ok (.value v) w' := by
  show (t.bind _).run P w = _
  rw [run_bind', h]
  rfl

theorem run_unit {t : Sem Unit} {w w' : World} (h : t.run P w = .ok () w') : (do t; pure Next.skip : Sem Next).run P w = .ok .skip w' := by
  show (t.bind _).run P w = _
  rw [run_bind', h]
  rfl

theorem run_newRow (el : TypeId) (c : Array Value) (w : World) : (newRow el c).run P w = .ok ⟨w.heap.size, 0, none⟩ { w with heap := w.heap.push (.cells c el) } := rfl

theorem underlying_run {t : TypeId} {d : TypeDesc} (h : P.underlying t = some d) (w : World) : (underlying t).run P w = .ok d w := by
  unfold underlying program
  simp only [bind, Sem.bind, Sem.run, h, pure]

theorem typeInfo_run {t : TypeId} {i : TypeInfo} (h : P.info? t = some i) (w : World) : (typeInfo t).run P w = .ok i w := by
  unfold typeInfo program
  simp only [bind, Sem.bind, Sem.run, h, pure]

theorem sizeOf_run {t : TypeId} {i : TypeInfo} (h : P.info? t = some i) (w : World) : (sizeOf t).run P w = .ok i.size w := by
  unfold Go.sizeOf
  show ((typeInfo t).bind _).run P w = _
  rw [run_bind', typeInfo_run h]
  rfl

/-! ### What is made new -/

theorem PL.of_map {r : PM} {e e' : Operand → Value} : ∀ (l : List (Nat × Operand)), (∀ p, p ∈ l → VR r (e p.2) (e' p.2)) → PL r (l.map fun p => (p.1, e p.2)) (l.map fun p => (p.1, e' p.2))
  | [], _ => trivial
  | p :: l, h => ⟨rfl, h p (by simp), PL.of_map l fun q hq => h q (by simp [hq])⟩

theorem rowTo_rel {s : PM} {n i b : Nat} (h : s i = some (b, 0, 0)) : VR s (rowTo n i) (.slice (some ⟨b, 0, none⟩) n n) := by
  unfold rowTo
  simp only [VR]
  refine ⟨trivial, ?_⟩
  cases hn : Nat.beq n 0 with
  | true =>
    rw [ifb_true]
    have : n = 0 := beq_nat.1 hn
    subst this
    exact .inl (by simp)
  | false =>
    rw [ifb_false]
    exact .inr ⟨0, 0, h, by simp⟩

theorem freshS : FreshS P G := by
  intro e e' o ob mk r h hx
  have hexec : ∀ (op : Op), o.op = op → ∀ (t : Sem Value), (execOp e' o = do pure (Next.value (← t))) → ∀ (ob' : Obj) (mk' : Nat → Value), (∀ w, t.run P w = .ok (mk' w.heap.size) { w with heap := w.heap.push ob' }) →
      ∀ w, (execOp e' o).run P w = .ok (.value (mk' w.heap.size)) { w with heap := w.heap.push ob' } := fun op _ t ht ob' mk' hrun w => by rw [ht]; exact run_val (hrun w)
  unfold freshA at h
  split at h
  · -- alloc
    rename_i t hop
    cases hz : zf P t with
    | false => rw [hz, ifb_false] at h; cases h
    | true =>
      rw [hz, ifb_true] at h
      split at h
      · rename_i z hzo
        simp only [Option.some.injEq, Prod.mk.injEq] at h
        obtain ⟨rfl, rfl⟩ := h
        refine ⟨.cells z.cells t, ptrTo, ?_, hexec _ hop (Instr.alloc t true (.tuple #[])) (by unfold execOp; simp only [hop]) (.cells z.cells t) ptrTo fun w => ?_, fun s i b hs => ptrTo_rel hs⟩
        · simp only [OR]; exact ⟨trivial, trivial, trivial, flat_cells (zf_zero hz hzo) r⟩
        · unfold Instr.alloc
          show ((zeroValue t).bind _).run P w = _
          rw [run_bind', zero_run hzo]
          rfl
      · cases h
  · -- box
    rename_i t x hop
    cases hok : okOpd G x with
    | false => rw [hok, ifb_false] at h; cases h
    | true =>
      rw [hok, ifb_true] at h
      simp only [Option.some.injEq, Prod.mk.injEq] at h
      obtain ⟨rfl, rfl⟩ := h
      have hv := hx x (by rw [hop]; simp [Op.operands]) hok
      refine ⟨.cells (e' x).cells t, ptrTo, ?_, hexec _ hop (Instr.box t (e' x)) (by unfold execOp; simp only [hop]) (.cells (e' x).cells t) ptrTo fun w => rfl, fun s i b hs => ptrTo_rel hs⟩
      simp only [OR]
      exact ⟨trivial, trivial, trivial, hv.cells⟩
  · -- buildSlice
    rename_i t n ps hop
    cases hok : allOk G (ps.toList.map (·.2)) with
    | false => rw [hok, ifb_false] at h; cases h
    | true =>
      rw [hok, ifb_true] at h
      split at h
      · rename_i el hu
        unfold freshRow at h
        split at h
        · rename_i inf hinf
          cases hcond : ifb (zf P el) (Nat.ble (n * inf.size) 16777216) false with
          | false => rw [hcond, ifb_false] at h; cases h
          | true =>
            rw [hcond, ifb_true] at h
            rw [ifb_and, Bool.and_eq_true] at hcond
            split at h
            · rename_i z hz
              split at h
              · rename_i c hc
                simp only [Option.some.injEq, Prod.mk.injEq] at h
                obtain ⟨rfl, rfl⟩ := h
                have hflat := zf_zero hcond.1 hz
                have hpl : PL r (ps.map fun (i, x) => (i, e x)).toList (ps.map fun (i, x) => (i, e' x)).toList := by
                  rw [Array.toList_map, Array.toList_map]
                  refine PL.of_map ps.toList fun p hp => hx p.2 ?_ (allOk_mem hok p.2 (List.mem_map.2 ⟨p, hp, rfl⟩))
                  rw [hop]
                  simp only [Op.operands]
                  simp
                  exact ⟨p.1, by simpa using hp⟩
                obtain ⟨c', e1, e2⟩ := fill_rel _ _ _ _ _ hpl (rep_rel (r := r) hflat (n * inf.size)) c hc
                refine ⟨.cells c' el, fun b => .slice (some ⟨b, 0, none⟩) n n, ?_, hexec _ hop (Instr.buildSlice t n (ps.map fun (i, x) => (i, e' x))) (by unfold execOp; simp only [hop]) (.cells c' el) (fun b => .slice (some ⟨b, 0, none⟩) n n) fun w => ?_, fun s i b hs => rowTo_rel hs⟩
                · simp only [OR]; exact ⟨trivial, trivial, trivial, e2⟩
                · unfold Instr.buildSlice
                  show ((underlying t).bind _).run P w = _
                  rw [run_bind', underlying_run hu]
                  simp only
                  show ((Go.sizeOf el).bind _).run P w = _
                  rw [run_bind', sizeOf_run hinf]
                  simp only
                  have hbig : ¬ n * inf.size > 2 ^ 24 := by have := Nat.le_of_ble_eq_true hcond.2; omega
                  rw [if_neg hbig]
                  by_cases h0 : n * inf.size = 0
                  · rw [if_pos h0]
                    show (match Instr.fill (fun i => some (i * inf.size, inf.size)) (Array.map (fun x => (#[] : Array Value)[x % (#[] : Array Value).size]!) (Array.range (n * inf.size))) _ with
                      | some cells => (do pure (Value.slice (some (← newRow el cells)) n n) : Sem Value)
                      | _ => stuck _).run P w = _
                    have e3 : (Array.map (fun x => (#[] : Array Value)[x % (#[] : Array Value).size]!) (Array.range (n * inf.size))) = (Array.range (n * inf.size)).map (z.cells[· % z.cells.size]!) := by rw [h0]; simp
                    rw [e3, e1]
                    rfl
                  · rw [if_neg h0]
                    show ((zeroValue el).bind _).run P w = _
                    rw [run_bind', zero_run hz]
                    show (match Instr.fill (fun i => some (i * inf.size, inf.size)) ((Array.range (n * inf.size)).map (z.cells[· % z.cells.size]!)) _ with
                      | some cells => (do pure (Value.slice (some (← newRow el cells)) n n) : Sem Value)
                      | _ => stuck _).run P w = _
                    rw [e1]
                    rfl
              · cases h
            · cases h
        · cases h
      · cases h
  · cases h

/-! ### Two stores -/

theorem overN_spec : ∀ (vs l m : List Value), overN vs l = some m → (∀ v, v ∈ vs → one v = true) ∧ vs.length ≤ l.length ∧ m = vs ++ l.drop vs.length
  | [], l, m, h => by simp only [overN, Option.some.injEq] at h; subst h; simp
  | v :: vs, [], m, h => by simp [overN] at h
  | v :: vs, x :: l, m, h => by
    simp only [overN] at h
    cases hv : one v with
    | false => rw [hv, ifb_false] at h; cases h
    | true =>
      rw [hv, ifb_true] at h
      split at h
      · rename_i m' hm
        simp only [Option.some.injEq] at h
        subst h
        obtain ⟨h1, h2, h3⟩ := overN_spec vs l m' hm
        refine ⟨fun u hu => ?_, by simp; omega, by simp [h3]⟩
        rcases List.mem_cons.1 hu with rfl | hu
        · exact hv
        · exact h1 u hu
      · cases h

theorem overN_mk : ∀ (vs l : List Value), (∀ v, v ∈ vs → one v = true) → vs.length ≤ l.length → overN vs l = some (vs ++ l.drop vs.length)
  | [], l, _, _ => by simp [overN]
  | v :: vs, [], _, h => by simp at h
  | v :: vs, x :: l, h1, h2 => by
    simp only [overN]
    rw [h1 v (by simp), ifb_true, overN_mk vs l (fun u hu => h1 u (by simp [hu])) (by simpa using h2)]
    simp

theorem overAt_spec : ∀ (n : Nat) (vs l m : List Value), overAt n vs l = some m → (∀ v, v ∈ vs → one v = true) ∧ n + vs.length ≤ l.length ∧ m = l.take n ++ (vs ++ l.drop (n + vs.length))
  | 0, vs, l, m, h => by
    simp only [overAt] at h
    obtain ⟨h1, h2, h3⟩ := overN_spec vs l m h
    exact ⟨h1, by omega, by simp [h3]⟩
  | n + 1, vs, [], m, h => by simp [overAt] at h
  | n + 1, vs, x :: l, m, h => by
    simp only [overAt] at h
    split at h
    · rename_i m' hm
      simp only [Option.some.injEq] at h
      subst h
      obtain ⟨h1, h2, h3⟩ := overAt_spec n vs l m' hm
      refine ⟨h1, by simp; omega, ?_⟩
      rw [h3, show n + 1 + vs.length = (n + vs.length) + 1 from by omega]
      simp
    · cases h

theorem overAt_mk : ∀ (n : Nat) (vs l : List Value), (∀ v, v ∈ vs → one v = true) → n + vs.length ≤ l.length → overAt n vs l = some (l.take n ++ (vs ++ l.drop (n + vs.length)))
  | 0, vs, l, h1, h2 => by simp only [overAt]; rw [overN_mk vs l h1 (by omega)]; simp
  | n + 1, vs, [], _, h => by simp at h
  | n + 1, vs, x :: l, h1, h2 => by
    simp only [overAt]
    rw [overAt_mk n vs l h1 (by simp at h2; omega), show n + 1 + vs.length = (n + vs.length) + 1 from by omega]
    simp

/-- Each cell behind it. -/
theorem over_get {n : Nat} {vs l : List Value} (h : n + vs.length ≤ l.length) (k : Nat) : (l.take n ++ (vs ++ l.drop (n + vs.length)))[k]? = if n ≤ k ∧ k < n + vs.length then vs[k - n]? else l[k]? := by
  have hn : (l.take n).length = n := by simp; omega
  by_cases h1 : k < n
  · rw [List.getElem?_append_left (by omega), if_neg (by omega), List.getElem?_take, if_pos h1]
  · rw [List.getElem?_append_right (by omega), hn]
    by_cases h2 : k < n + vs.length
    · rw [List.getElem?_append_left (by omega), if_pos (by omega)]
    · rw [List.getElem?_append_right (by omega), if_neg (by omega), List.getElem?_drop]
      congr 1
      omega

theorem over_len {n : Nat} {vs l : List Value} (h : n + vs.length ≤ l.length) : (l.take n ++ (vs ++ l.drop (n + vs.length))).length = l.length := by simp; omega

theorem over_comm {n m : Nat} {xs ys l a b : List Value} (h1 : n + xs.length ≤ l.length) (h2 : m + ys.length ≤ l.length) (hap : n + xs.length ≤ m ∨ m + ys.length ≤ n)
    (ha : a = l.take n ++ (xs ++ l.drop (n + xs.length))) (hb : b = l.take m ++ (ys ++ l.drop (m + ys.length))) : b.take n ++ (xs ++ b.drop (n + xs.length)) = a.take m ++ (ys ++ a.drop (m + ys.length)) := by
  have la : a.length = l.length := by rw [ha]; exact over_len h1
  have lb : b.length = l.length := by rw [hb]; exact over_len h2
  refine List.ext_getElem? fun k => ?_
  have eb := over_get (n := n) (vs := xs) (l := b) (by rw [lb]; exact h1) k
  have ea := over_get (n := m) (vs := ys) (l := a) (by rw [la]; exact h2) k
  have gb : b[k]? = if m ≤ k ∧ k < m + ys.length then ys[k - m]? else l[k]? := by rw [hb]; exact over_get h2 k
  have ga : a[k]? = if n ≤ k ∧ k < n + xs.length then xs[k - n]? else l[k]? := by rw [ha]; exact over_get h1 k
  rw [eb, ea, gb, ga]
  by_cases hk1 : n ≤ k ∧ k < n + xs.length
  · have hk2 : ¬ (m ≤ k ∧ k < m + ys.length) := by omega
    rw [if_pos hk1, if_neg hk2, if_pos hk1]
  · rw [if_neg hk1]
    by_cases hk2 : m ≤ k ∧ k < m + ys.length
    · rw [if_pos hk2, if_pos hk2]
    · rw [if_neg hk2, if_neg hk2, if_neg hk1]

/-- A store, opened. -/
theorem storeAll_inv {H H1 : AH} {a : Addr} {vs : List Value} (hne : vs ≠ []) (h : storeAll H a vs = some H1) : a.spot = none ∧ ∃ c e fz, H.get a.block = some (.cells ⟨c⟩ e fz) ∧ H.lo ≤ a.block ∧ noFrozen fz a.off vs.length = true ∧
    (∀ v, v ∈ vs → one v = true) ∧ a.off + vs.length ≤ c.length ∧ H1 = H.set a.block (.cells ⟨c.take a.off ++ (vs ++ c.drop (a.off + vs.length))⟩ e fz) := by
  unfold storeAll at h
  split at h
  · exact absurd rfl hne
  · split at h
    · cases h
    · rename_i hsp
      split at h
      · rename_i c e fz hg
        cases hc : ifb (Nat.ble H.lo a.block) (noFrozen fz a.off _) false with
        | false => rw [hc, ifb_false] at h; cases h
        | true =>
          rw [hc, ifb_true] at h
          rw [ifb_and, Bool.and_eq_true] at hc
          split at h
          · rename_i c' ho
            simp only [Option.some.injEq] at h
            obtain ⟨h1, h2, h3⟩ := overAt_spec _ _ _ _ ho
            exact ⟨hsp, c, e, fz, hg, Nat.le_of_ble_eq_true hc.1, hc.2, h1, h2, by rw [← h, h3]⟩
          · cases h
      · cases h

theorem storeAll_mk {H : AH} {a : Addr} {vs : List Value} (hsp : a.spot = none) {c : List Value} {e : TypeId} {fz : Nat × Nat} (hg : H.get a.block = some (.cells ⟨c⟩ e fz)) (hlo : H.lo ≤ a.block) (hf : noFrozen fz a.off vs.length = true)
    (h1 : ∀ v, v ∈ vs → one v = true) (h2 : a.off + vs.length ≤ c.length) (hne : vs ≠ []) : storeAll H a vs = some (H.set a.block (.cells ⟨c.take a.off ++ (vs ++ c.drop (a.off + vs.length))⟩ e fz)) := by
  cases vs with
  | nil => exact absurd rfl hne
  | cons v vs =>
    simp only [storeAll, hsp, hg]
    rw [Nat.ble_eq_true_of_le hlo, ifb_true, hf, ifb_true, overAt_mk _ _ _ h1 h2]

theorem set_next (H : AH) (i : Nat) (o : Obj) : (H.set i o).next = H.next := rfl
theorem set_lo (H : AH) (i : Nat) (o : Obj) : (H.set i o).lo = H.lo := rfl

theorem set_set (H : AH) (hb : H.next ≤ most) {i j : Nat} (hi : i < H.next) (hj : j < H.next) (o q : Obj) (k : Nat) : ((H.set i o).set j q).get k = if k = j then some q else if k = i then some o else H.get k := by
  rw [AH.get_set (H.set i o) hb hj q k, AH.get_set H hb hi o k]

theorem pairS : PairS := by
  intro H H1 H2 a b xs ys hb h1 h2 hap hsa hsb
  by_cases hx : xs = []
  · subst hx
    simp only [storeAll, Option.some.injEq] at h1
    subst h1
    exact ⟨H2, H2, h2, rfl, rfl, rfl, fun _ => rfl⟩
  by_cases hy : ys = []
  · subst hy
    simp only [storeAll, Option.some.injEq] at h2
    subst h2
    exact ⟨H, H1, rfl, h1, rfl, rfl, fun _ => rfl⟩
  obtain ⟨_, c, e, fz, g1, g2, g3, g4, g5, rfl⟩ := storeAll_inv hx h1
  obtain ⟨_, c2, e2, fz2, k1, k2, k3, k4, k5, rfl⟩ := storeAll_inv hy h2
  have hlt := AH.get_lt g1
  rw [AH.get_set H hb hlt] at k1
  by_cases hbl : b.block = a.block
  · rw [if_pos hbl] at k1
    simp only [Option.some.injEq, Obj.cells.injEq, Array.mk.injEq] at k1
    obtain ⟨rfl, rfl, rfl⟩ := k1
    have hlen : (c.take a.off ++ (xs ++ c.drop (a.off + xs.length))).length = c.length := over_len g5
    rw [hlen] at k5
    have hd : a.off + xs.length ≤ b.off ∨ b.off + ys.length ≤ a.off := by
      unfold apart at hap
      simp only [Bool.or_eq_true, bne_iff_ne, ne_eq, decide_eq_true_eq] at hap
      rcases hap with (h | h) | h
      · exact absurd hbl.symm h
      · exact .inl h
      · exact .inr h
    have s1 := storeAll_mk (H := H) (a := b) (vs := ys) hsb (by rw [hbl]; exact g1) (by rw [hbl]; exact g2) k3 k4 k5 hy
    rw [hbl] at s1
    have hget : (H.set a.block (.cells ⟨c.take b.off ++ (ys ++ c.drop (b.off + ys.length))⟩ e fz)).get a.block = some (.cells ⟨c.take b.off ++ (ys ++ c.drop (b.off + ys.length))⟩ e fz) := by rw [AH.get_set H hb hlt, if_pos rfl]
    have hlen2 : (c.take b.off ++ (ys ++ c.drop (b.off + ys.length))).length = c.length := over_len k5
    have s2 := storeAll_mk (H := H.set a.block (.cells ⟨c.take b.off ++ (ys ++ c.drop (b.off + ys.length))⟩ e fz)) (a := a) (vs := xs) hsa hget g2 g3 g4 (by rw [hlen2]; exact g5) hx
    refine ⟨_, _, s1, s2, by simp only [set_next], by simp only [set_lo], fun k => ?_⟩
    rw [hbl, set_set H hb hlt hlt, set_set H hb hlt hlt]
    by_cases hk : k = a.block
    · rw [if_pos hk, if_pos hk, over_comm g5 k5 hd rfl rfl]
    · rw [if_neg hk, if_neg hk, if_neg hk, if_neg hk]
  · rw [if_neg hbl] at k1
    have hltb := AH.get_lt k1
    have s1 := storeAll_mk (H := H) (a := b) (vs := ys) hsb k1 k2 k3 k4 k5 hy
    have hget : (H.set b.block (.cells ⟨c2.take b.off ++ (ys ++ c2.drop (b.off + ys.length))⟩ e2 fz2)).get a.block = some (.cells ⟨c⟩ e fz) := by
      rw [AH.get_set H hb hltb, if_neg (fun h => hbl h.symm)]; exact g1
    have s2 := storeAll_mk (H := H.set b.block (.cells ⟨c2.take b.off ++ (ys ++ c2.drop (b.off + ys.length))⟩ e2 fz2)) (a := a) (vs := xs) hsa hget g2 g3 g4 g5 hx
    refine ⟨_, _, s1, s2, by simp only [set_next], by simp only [set_lo], fun k => ?_⟩
    rw [set_set H hb hlt hltb, set_set H hb hltb hlt]
    by_cases hk : k = a.block
    · have hkb : ¬ k = b.block := fun h => hbl (by rw [← h, hk])
      rw [if_pos hk, if_neg hkb, if_pos hk]
    · rw [if_neg hk, if_neg hk]

end Go.Eng
