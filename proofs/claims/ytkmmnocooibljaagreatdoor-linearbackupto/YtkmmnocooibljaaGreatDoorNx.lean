/-
  THE INSTRUCTIONS OF LINES, WITH LABELS' PLACES AS TARGETS.
-/
import Derived.Test.YtkmmnocooibljaaGreatDoorNw
import Derived.Test.YtkmmnocooibljaaGreatDoorAlq
import Derived.Deep.CutRange
import Derived.Deep.RegionWith
namespace Go.Proofs.YtkmmnocooibljaaGreatDoor
open Go.RowKit Go.Maps
set_option linter.unusedVariables false
set_option linter.unusedSimpArgs false

def atI (g : Int → Int) (x : In) : In := (movX x ((tgs x).map g)).1
def codeI (g : Int → Int) : List (Int × In) → List In
  | [] => []
  | y :: ys => if y.2.op = 0 then codeI g ys else atI g y.2 :: codeI g ys
def codeP : List (Int × In) → Nat → List Nat
  | [], _ => []
  | y :: ys, at_ => if y.2.op = 0 then codeP ys at_ else at_ :: codeP ys (at_ + y.2.size)
def sizeL : List (Int × In) → Nat
  | [] => 0
  | y :: ys => (if y.2.op = 0 then 0 else y.2.size) + sizeL ys
theorem codeI_snoc (g : Int → Int) (ys : List (Int × In)) (y : Int × In) : codeI g (ys ++ [y]) = codeI g ys ++ (if y.2.op = 0 then [] else [atI g y.2]) := by
  induction ys with
  | nil => rfl
  | cons z ys ih =>
    rw [List.cons_append]
    simp only [codeI]
    split
    · exact ih
    · rw [ih]; rfl
theorem codeP_snoc (ys : List (Int × In)) (y : Int × In) : ∀ at_, codeP (ys ++ [y]) at_ = codeP ys at_ ++ (if y.2.op = 0 then [] else [at_ + sizeL ys]) := by
  induction ys with
  | nil => intro at_; rfl
  | cons z ys ih =>
    intro at_
    rw [List.cons_append]
    simp only [codeP, sizeL]
    split
    · rw [ih, Nat.zero_add]
    · rw [ih, List.cons_append, Nat.add_assoc]
theorem sizeL_snoc (ys : List (Int × In)) (y : Int × In) : sizeL (ys ++ [y]) = sizeL ys + (if y.2.op = 0 then 0 else y.2.size) := by
  induction ys with
  | nil => simp [sizeL]
  | cons z ys ih => rw [List.cons_append]; simp only [sizeL]; rw [ih]; omega
theorem codeIP_length (g : Int → Int) (ys : List (Int × In)) : ∀ at_, (codeP ys at_).length = (codeI g ys).length := by
  induction ys with
  | nil => intro at_; rfl
  | cons z ys ih =>
    intro at_
    simp only [codeI, codeP]
    split
    · exact ih _
    · simp [ih]
theorem codeI_le (g : Int → Int) (ys : List (Int × In)) : (codeI g ys).length ≤ ys.length := by
  induction ys with
  | nil => exact Nat.le_refl _
  | cons z ys ih =>
    simp only [codeI]
    split
    · simp; omega
    · simp; omega
theorem sizeL_le (ys : List (Int × In)) : sizeL ys ≤ ys.length * 1000000 := by
  induction ys with
  | nil => exact Nat.le_refl _
  | cons z ys ih =>
    have := size_small z.2
    simp only [sizeL, List.length_cons]
    split <;> omega
/-- Where the walk over the lines stands. -/
structure CdAt (w wr : World) (b : Nat) (sz : Int) (vl vp : Value) (ps : List (In × Value)) (pl : List Nat) : Prop where
  box : Own wr w.heap.size #[.map (some b), .int .i64 sz] 65
  res : Own wr (w.heap.size + 1) #[.slice none 0 0, .slice none 0 0, .int .i64 0] 72
  own : Own wr (w.heap.size + 1 + 1) #[vl, vp, .int .i64 sz] 72
  row : InsRow wr w.heap.size vl ps
  ints : Rw wr 3 1 vp pl.length (intC pl)
  inew : ∀ b, vp.ownBlock = some b → w.heap.size ≤ b
  bel : Below w.heap.size w wr
theorem CdAt.below {w wr w' : World} {b : Nat} {sz : Int} {vl vp : Value} {ps : List (In × Value)} {pl : List Nat} (h : CdAt w wr b sz vl vp ps pl) (hb : Below wr.heap.size wr w') : CdAt w w' b sz vl vp ps pl :=
  ⟨h.box.below hb, h.res.below hb, h.own.below hb, h.row.below hb, h.ints.belowR hb, h.inew, h.bel.trans (hb.mono h.bel.size)⟩
theorem CdAt.ne {w wr : World} {b : Nat} {sz : Int} {vl vp : Value} {ps : List (In × Value)} {pl : List Nat} (h : CdAt w wr b sz vl vp ps pl) : vl.ownBlock ≠ some w.heap.size ∧ vl.ownBlock ≠ some (w.heap.size + 1) ∧ vl.ownBlock ≠ some (w.heap.size + 1 + 1) ∧ vp.ownBlock ≠ some w.heap.size ∧ vp.ownBlock ≠ some (w.heap.size + 1) ∧ vp.ownBlock ≠ some (w.heap.size + 1 + 1) ∧ ∀ y ∈ ps, y.2.ownBlock ≠ some w.heap.size ∧ y.2.ownBlock ≠ some (w.heap.size + 1) ∧ y.2.ownBlock ≠ some (w.heap.size + 1 + 1) :=
  ⟨h.row.row.ne h.box (by decide), h.row.row.ne h.res (by decide), h.row.row.ne h.own (by decide), h.ints.ne h.box (by decide), h.ints.ne h.res (by decide), h.ints.ne h.own (by decide), fun y hy => ⟨(h.row.arms y hy).1.ne h.box (by decide), (h.row.arms y hy).1.ne h.res (by decide), (h.row.arms y hy).1.ne h.own (by decide)⟩⟩
/-- Both rows grow by an append; then the head's cell is written. -/
theorem CdAt.putP {w wr wz : World} {b : Nat} {sz : Int} {vl vp v' : Value} {ps : List (In × Value)} {pl : List Nat} {o : Obj} {p : Nat} {m : Nat} (hm : m = pl.length) (h : CdAt w wr b sz vl vp ps pl) (q1 : Rw wz 3 1 v' (m + 1) (intC pl ++ [.int .i64 (p : Int)])) (q2 : (wr.alloc o).grownBy wz vp.ownBlock) (q3 : v'.ownBlock = vp.ownBlock ∨ v'.ownBlock = some (wr.alloc o).heap.size) :
    Own wz (w.heap.size + 1 + 1) #[vl, vp, .int .i64 sz] 72 ∧ CdAt w (wz.setCell ⟨w.heap.size + 1 + 1, 1, none⟩ v') b sz vl v' ps (pl ++ [p]) := by
  obtain ⟨n1, n2, n3, n4, n5, n6, n7⟩ := h.ne
  have hi := h.ints.alloc o
  have e2 : ∀ {size : Nat} {e : TypeId} {v : Value} {n : Nat} {ys : List Value}, Rw wr e size v n ys → e ≠ 3 → Rw wz e size v n ys := fun {size e v n ys} h he => (h.alloc _).grown q2 (fun k hk => (h.alloc _).ne2 hi he k hk |> fun hh e' => hh e'.symm)
  have oB := (h.box.alloc o).grown q2 n4.symm
  have oR := (h.res.alloc o).grown q2 n5.symm
  have oO := (h.own.alloc o).grown q2 n6.symm
  have bz : Below w.heap.size w wz := (h.bel.alloc h.bel.size o).grown q2 (Nat.le_trans h.bel.size (by simp)) (fun k e => h.inew k e)
  have f1 : Fr (fun k => k = w.heap.size + 1 + 1) wz (wz.setCell ⟨w.heap.size + 1 + 1, 1, none⟩ v') := (Fr.refl (fun k => k = w.heap.size + 1 + 1) wz).set (g := w.heap.size + 1 + 1) (.inr rfl) 1 v'
  have hne : v'.ownBlock ≠ some (w.heap.size + 1 + 1) := q1.ne oO (by decide)
  refine ⟨oO, oB.fr f1 (by omega), oR.fr f1 (by omega), ?_, ⟨(e2 h.row.row (by decide)).set n3 1 v', h.row.new, fun y hy => ⟨(e2 (h.row.arms y hy).1 (by decide)).set (n7 y hy).2.2 1 v', (h.row.arms y hy).2⟩⟩, ?_, ?_, below_fr bz f1 (fun k q => by omega)⟩
  · have := oO.set 1 v'
    simpa using this
  · rw [List.length_append, show intC (pl ++ [p]) = intC pl ++ [.int .i64 (p : Int)] by simp [intC], ← hm]
    exact q1.set hne 1 v'
  · intro k e
    rcases q3 with q3 | q3
    · exact h.inew k (by rw [← q3]; exact e)
    · rw [q3] at e; cases e; exact Nat.le_trans h.bel.size (by simp)
theorem CdAt.putI {w wr wz : World} {b : Nat} {sz : Int} {vl vp v' : Value} {ps : List (In × Value)} {pl : List Nat} {o : Obj} {X : In} {vx : Value} {m : Nat} (hm : m = ps.length) (h : CdAt w wr b sz vl vp ps pl) (q1 : Rw wz 43 4 v' (m + 1) (insC ps ++ [.int .u8 (X.op : Int), .int .i64 X.a, .int .i64 X.b, vx])) (q2 : (wr.alloc o).grownBy wz vl.ownBlock) (q3 : v'.ownBlock = vl.ownBlock ∨ v'.ownBlock = some (wr.alloc o).heap.size) (hx : Rw wr 51 2 vx X.arms.length (armC X.arms)) (hxn : ∀ b, vx.ownBlock = some b → w.heap.size ≤ b) :
    Own wz (w.heap.size + 1 + 1) #[vl, vp, .int .i64 sz] 72 ∧ CdAt w (wz.setCell ⟨w.heap.size + 1 + 1, 0, none⟩ v') b sz v' vp (ps ++ [(X, vx)]) pl := by
  obtain ⟨n1, n2, n3, n4, n5, n6, n7⟩ := h.ne
  have hi := h.row.row.alloc o
  have e2 : ∀ {size : Nat} {e : TypeId} {v : Value} {n : Nat} {ys : List Value}, Rw wr e size v n ys → e ≠ 43 → Rw wz e size v n ys := fun {size e v n ys} h he => (h.alloc _).grown q2 (fun k hk => (h.alloc _).ne2 hi he k hk |> fun hh e' => hh e'.symm)
  have oB := (h.box.alloc o).grown q2 n1.symm
  have oR := (h.res.alloc o).grown q2 n2.symm
  have oO := (h.own.alloc o).grown q2 n3.symm
  have bz : Below w.heap.size w wz := (h.bel.alloc h.bel.size o).grown q2 (Nat.le_trans h.bel.size (by simp)) (fun k e => h.row.new k e)
  have f1 : Fr (fun k => k = w.heap.size + 1 + 1) wz (wz.setCell ⟨w.heap.size + 1 + 1, 0, none⟩ v') := (Fr.refl (fun k => k = w.heap.size + 1 + 1) wz).set (g := w.heap.size + 1 + 1) (.inr rfl) 0 v'
  have hne : v'.ownBlock ≠ some (w.heap.size + 1 + 1) := q1.ne oO (by decide)
  have hxO := hx.ne h.own (by decide)
  refine ⟨oO, oB.fr f1 (by omega), oR.fr f1 (by omega), ?_, ⟨?_, ?_, ?_⟩, (e2 h.ints (by decide)).set n6 0 v', h.inew, below_fr bz f1 (fun k q => by omega)⟩
  · have := oO.set 0 v'
    simpa using this
  · rw [insC_append, List.length_append, ← hm]
    exact q1.set hne 0 v'
  · intro k e
    rcases q3 with q3 | q3
    · exact h.row.new k (by rw [← q3]; exact e)
    · rw [q3] at e; cases e; exact Nat.le_trans h.bel.size (by simp)
  · intro y hy
    rcases List.mem_append.1 hy with hy | hy
    · exact ⟨(e2 (h.row.arms y hy).1 (by decide)).set (n7 y hy).2.2 0 v', (h.row.arms y hy).2⟩
    · rw [List.mem_singleton.1 hy]; exact ⟨(e2 hx (by decide)).set hxO 0 v', hxn⟩
theorem wp_app_run {tS : TypeId} {W W' : World} {o : Oper} {a : Act} {K : Act → World → Prop} {Q : Exit → Act → World → Prop} (s x : Operand) (ho : o.op = .call { callee := .builtin .append, args := #[s, x], argTypes := #[tS, tS] }) {v u r : Value} (hs : a.eval s = v) (hx : a.eval x = u) (hr : (Builtin.append_ #[tS, tS] o.type #[v, u]).run Tryz.prog W = .ok r W') (h : K (a.put o.dst r) W') : Oper.wp Tryz.prog o a W K Q := by
  unfold Oper.wp execOp
  simp only [ho, resolve, invoke, builtin, Sem.run_bind, Sem.run_pure, Result.andThen_ok, List.map_toArray, List.map_cons, List.map_nil, hs, hx, hr]
  exact h
theorem readyH {P : Program} {md : Region.Mode} {ops : Array Oper} {Q : Exit → Act → World → Prop} {fuel : Nat} {listed : Array Bool} {a : Act} {w : World} {i : Nat} {o : Oper} {rs : List Nat} (ho : ops[i]? = some o)
    (h : ∀ K' : Act → World → Prop, Hid (∀ a w, wpAny P md ops Q fuel (listed.setIfInBounds i true) a w → K' a w) → if Region.wanted o (yielded ops a.tmps) = true then Oper.wp P o a w K' Q else K' (a.put o.dst undef) w)
    (hs : AllReady P md ops Q fuel listed a w rs) : AllReady P md ops Q fuel listed a w (i :: rs) := AllReady.cons ho h hs
theorem own_put3 {w : World} {g : Nat} {t : TypeId} {a0 a1 a2 : Value} (h : Own w g #[a0, a1, a2] t) (b0 b1 b2 : Value) : Own (((w.setCell ⟨g, 0, none⟩ b0).setCell ⟨g, 1, none⟩ b1).setCell ⟨g, 2, none⟩ b2) g #[b0, b1, b2] t := by
  have := ((h.set 0 b0).set 1 b1).set 2 b2
  simpa using this
theorem fr_put3 (w : World) (g : Nat) (b0 b1 b2 : Value) : Fr (fun k => k = g) w (((w.setCell ⟨g, 0, none⟩ b0).setCell ⟨g, 1, none⟩ b1).setCell ⟨g, 2, none⟩ b2) :=
  (((Fr.refl (fun k => k = g) w).set (g := g) (.inr rfl) 0 _).set (g := g) (.inr rfl) 1 _).set (g := g) (.inr rfl) 2 _
theorem results_pc {tmps : Array Value} {w : World} {g : Nat} {a0 a1 a2 : Value} (h4 : tmps.getD 4 undef = ptr g) (ho : Own w g #[a0, a1, a2] 72) : (results Tryz.f41 tmps).run Tryz.prog w = .ok (.agg #[a0, a1, a2]) w := by
  have h4' : tmps[4]?.getD undef = .pointer (some ⟨g, 0, none⟩) := by simpa using h4
  have m0 : w.cell? ⟨g, 0, none⟩ = some a0 := by simpa using ho.cell 0
  have m1 : w.cell? ⟨g, 1, none⟩ = some a1 := by simpa using ho.cell 1
  have m2 : w.cell? ⟨g, 2, none⟩ = some a2 := by simpa using ho.cell 2
  simp [results, h4', asAddr, go_sem, m0, m1, m2]
def PcR (w : World) (sz : Int) (il : List In) (pl : List Nat) (e : Ending) (w' : World) : Prop :=
  ∃ vl vp ps, e = .returned (.agg #[vl, vp, .int .i64 sz]) ∧ ps.map Prod.fst = il ∧ InsRow w' w.heap.size vl ps ∧ Rw w' 3 1 vp pl.length (intC pl) ∧ (∀ b, vp.ownBlock = some b → w.heap.size ≤ b) ∧ Below w.heap.size w w'
theorem CdAt.start (w : World) (b : Nat) (sz : Int) : CdAt w (((w.alloc (.cells #[.map (some b), .int .i64 sz] 65)).alloc (.cells #[.slice none 0 0, .slice none 0 0, .int .i64 0] 72)).alloc (.cells #[.slice none 0 0, .slice none 0 0, .int .i64 sz] 72)) b sz (.slice none 0 0) (.slice none 0 0) [] [] where
  box := ((Own.new w _ _).alloc _).alloc _
  res := by
    have := Own.new (w.alloc (.cells #[.map (some b), .int .i64 sz] 65)) #[.slice none 0 0, .slice none 0 0, .int .i64 0] 72
    rw [World.size_alloc] at this
    exact this.alloc _
  own := by
    have := Own.new ((w.alloc (.cells #[.map (some b), .int .i64 sz] 65)).alloc (.cells #[.slice none 0 0, .slice none 0 0, .int .i64 0] 72)) #[.slice none 0 0, .slice none 0 0, .int .i64 sz] 72
    rw [World.size_alloc, World.size_alloc] at this
    exact this
  row := ⟨World.ownsRow_nil _ _ _ _, by simp [Value.ownBlock], by simp⟩
  ints := World.ownsRow_nil _ _ _ _
  inew := by simp [Value.ownBlock]
  bel := ((new_below w _).alloc (by simp) _).alloc (by simp; omega) _
structure CdK (g : Int → Int) (xs : List LnP) (k : Nat) (at_ : Nat) (ps : List (In × Value)) (pl : List Nat) : Prop where
  is : ps.map Prod.fst = codeI g ((xs.take k).map LnP.l)
  ps : pl = codeP ((xs.take k).map LnP.l) 0
  at_ : at_ = sizeL ((xs.take k).map LnP.l)
theorem CdK.skip {g : Int → Int} {xs : List LnP} {k at_ : Nat} {ps : List (In × Value)} {pl : List Nat} (h : CdK g xs k at_ ps pl) (hk : k < xs.length) (h0 : (xs.getD k zLn).x.op = 0) : CdK g xs (k + 1) at_ ps pl := by
  have h0' : (xs.getD k zLn).l.2.op = 0 := h0
  refine ⟨?_, ?_, ?_⟩
  · rw [take_l hk, codeI_snoc, if_pos h0', List.append_nil]; exact h.is
  · rw [take_l hk, codeP_snoc, if_pos h0', List.append_nil]; exact h.ps
  · rw [take_l hk, sizeL_snoc, if_pos h0']; exact h.at_
theorem CdK.put {g : Int → Int} {xs : List LnP} {k at_ : Nat} {ps : List (In × Value)} {pl : List Nat} (h : CdK g xs k at_ ps pl) (hk : k < xs.length) (h0 : (xs.getD k zLn).x.op ≠ 0) (vx : Value) : CdK g xs (k + 1) (at_ + (xs.getD k zLn).x.size) (ps ++ [(atI g (xs.getD k zLn).x, vx)]) (pl ++ [at_]) := by
  have h0' : ¬ (xs.getD k zLn).l.2.op = 0 := h0
  refine ⟨?_, ?_, ?_⟩
  · rw [take_l hk, codeI_snoc, if_neg h0', List.map_append, h.is]; rfl
  · rw [take_l hk, codeP_snoc, if_neg h0', h.ps, h.at_, Nat.zero_add]
  · rw [take_l hk, sizeL_snoc, if_neg h0', h.at_]; rfl
theorem CdK.bound {g : Int → Int} {xs : List LnP} {k at_ : Nat} {ps : List (In × Value)} {pl : List Nat} (h : CdK g xs k at_ ps pl) (hk : k ≤ xs.length) : ps.length = pl.length ∧ pl.length ≤ k ∧ at_ ≤ k * 1000000 := by
  have e1 : ps.length = (codeI g ((xs.take k).map LnP.l)).length := by rw [← h.is, List.length_map]
  have e2 : pl.length = (codeI g ((xs.take k).map LnP.l)).length := by rw [h.ps]; exact codeIP_length _ _ _
  have e3 := codeI_le g ((xs.take k).map LnP.l)
  have e4 := sizeL_le ((xs.take k).map LnP.l)
  have e5 : ((xs.take k).map LnP.l).length = k := by rw [List.length_map, List.length_take]; omega
  rw [e5] at e3 e4
  refine ⟨by omega, by omega, by rw [h.at_]; exact e4⟩
set_option maxHeartbeats 4000000 in
set_option maxRecDepth 100000 in
theorem lncode_as {w : World} {b : Nat} {st : List (Int × Int)} {sz : Int} (hpl : PlAt w b st) {a : Option Addr} {n c : Nat} {xs : List LnP} (hn : n = xs.length) (h : LnsIn w a xs) (hno : ∀ y ∈ xs, y.ao = none → y.cp = 0) (h64 : ∀ y ∈ xs, ∀ t ∈ tgs y.x, N64 t) (hm : n ≤ 1000000) (hA : ∀ y ∈ xs, y.x.arms.length ≤ 900000) :
    Calls Tryz.prog 41 #[.agg #[.map (some b), .int .i64 sz], .slice a n c] w (PcR w sz (codeI (fun t => (plF st t).getD 0) (xs.map LnP.l)) (codeP (xs.map LnP.l) 0)) := by
  obtain ⟨g, hg⟩ : ∃ g : Int → Int, (fun t => (plF st t).getD 0) = g := ⟨_, rfl⟩
  have HPL : Hid (PlAt w b st) := hpl
  have HG : Hid (∀ t, (plF st t).getD 0 = g t) := fun t => by rw [← hg]
  rw [hg]
  have HN : Hid (n = xs.length) := hn
  have HROW : Hid (RowAt w a 5 xs.length (lnF xs)) := h.row
  have HX : Hid (∀ x ∈ xs, LnIn w x) := h.each
  have HA : Hid (∀ y ∈ xs, y.x.arms.length ≤ 900000) := hA
  have HNO : Hid (∀ y ∈ xs, y.ao = none → y.cp = 0) := hno
  have H64 : Hid (∀ y ∈ xs, ∀ t ∈ tgs y.x, N64 t) := h64
  have HM : Hid (n ≤ 1000000) := hm
  have hns : n ≤ 140737488355328 := by omega
  have HS : Hid (CdAt w _ b sz (.slice none 0 0) (.slice none 0 0) [] []) := CdAt.start w b sz
  clear hn h hA hm hno h64 hpl hg
  go_enter Tryz.func41, Tryz.ntmps41
  go_wp2_with fail
  go_loopw [6, 14] (fun at_ i wr => ∃ (k q : Nat) (vl vp : Value) (ps : List (In × Value)) (pl : List Nat), k ≤ n ∧ i = .int .i64 (k : Int) ∧ at_ = .int .i64 (q : Int) ∧ CdAt w wr b sz vl vp ps pl ∧ CdK g xs k q ps pl) (fun _ i _ => n - (intOf i).toNat)
  case atStart => exact ⟨0, 0, _, _, [], [], Nat.zero_le _, rfl, rfl, HS.out, ⟨rfl, rfl, rfl⟩⟩
  case round =>
    clear HS
    obtain ⟨k, q, vl, vp, ps, pl, hk, rfl, rfl, hcd, hck⟩ := hrel
    have HCD : Hid (CdAt w wr b sz vl vp ps pl) := hcd
    have HCK : Hid (CdK g xs k q ps pl) := hck
    clear hcd hck
    by_cases hlt : k < n
    · have hkx : k < xs.length := by rw [← HN.out]; exact hlt
      obtain ⟨b1, o1, ha1, g1⟩ := (HROW.out.below HCD.out.bel).at hkx
      have hX0 := HX.out _ (getD_in (z := zLn) hkx)
      have hXi := hX0.below HCD.out.bel
      have hAX := HA.out _ (getD_in (z := zLn) hkx)
      have hNX := HNO.out _ (getD_in (z := zLn) hkx)
      have h6X := H64.out _ (getD_in (z := zLn) hkx)
      unfold lnF at g1
      have HSK : Hid ((xs.getD k zLn).x.op = 0 → CdK g xs (k + 1) q ps pl) := fun h0 => HCK.out.skip hkx h0
      have HPT : Hid ((xs.getD k zLn).x.op ≠ 0 → ∀ vx, CdK g xs (k + 1) (q + (xs.getD k zLn).x.size) (ps ++ [(atI g (xs.getD k zLn).x, vx)]) (pl ++ [q])) := fun h0 vx => HCK.out.put hkx h0 vx
      have hbd := HCK.out.bound (by omega)
      have hsmX := size_small (xs.getD k zLn).x
      generalize xs.getD k zLn = X at *
      have HRT : Hid (∀ W, Below w.heap.size w W → Own W w.heap.size #[.map (some b), .int .i64 sz] 65 → Calls Tryz.prog 67 #[insV X.x (.slice X.ao X.x.arms.length X.cp), .func (.func 68) #[] #[.pointer (some ⟨w.heap.size, 0, none⟩)]] W (RtR W (atI g X.x))) := fun W q1 q2 => lnretarget_as (hX0.ins.below q1) _ rfl hNX hAX 68 fnCoded _ g h6X (fun W' t q3 q4 => by
        have := coded1_as (q2.below q3) (HPL.out.below (q1.trans (q3.mono q1.size))) q4
        rw [HG.out] at this
        exact this)
      have HSZ : Hid (∀ W, Below w.heap.size w W → Calls Tryz.prog 37 #[insV X.x (.slice X.ao X.x.arms.length X.cp)] W fun e w' => e = .returned (.int .i64 (X.x.size : Int)) ∧ Below W.heap.size W w') := fun W q => size_as (cp := X.cp) (hX0.ins.below q) _ rfl (by omega)
      have HSK2 : Hid ((X.x.op : Int) = 0 → CdK g xs (k + 1) q ps pl) := fun h0 => HSK.out (by omega)
      have HPT2 : Hid (¬ (X.x.op : Int) = 0 → ∀ vx, CdK g xs (k + 1) (q + X.x.size) (ps ++ [(atI g X.x, vx)]) (pl ++ [q])) := fun h0 => HPT.out (by omega)
      subst ha1
      have d0 : wr.cell? ⟨b1, o1 + k * 5, none⟩ = some (.int .i64 X.lab) := g1 0 (by omega)
      have d1 : wr.cell? ⟨b1, o1 + k * 5 + 1, none⟩ = some (.int .u8 (X.x.op : Int)) := g1 1 (by omega)
      have d2 : wr.cell? ⟨b1, o1 + k * 5 + 2, none⟩ = some (.int .i64 X.x.a) := g1 2 (by omega)
      have d3 : wr.cell? ⟨b1, o1 + k * 5 + 3, none⟩ = some (.int .i64 X.x.b) := g1 3 (by omega)
      have d4 : wr.cell? ⟨b1, o1 + k * 5 + 4, none⟩ = some (.slice X.ao X.x.arms.length X.cp) := g1 4 (by omega)
      clear g1 hXi hX0 hAX hNX h6X HSK HPT
      unfold insV at HRT HSZ
      generalize atI g X.x = AI at *
      generalize X.x.size = SX at *
      generalize X.lab = zK at *
      generalize (X.x.op : Int) = zO at *
      generalize X.x.a = zA at *
      generalize X.x.b = zB at *
      generalize X.ao = zs at *
      generalize X.x.arms.length = zn at *
      generalize X.cp = zc at *
      have hlt2 : (k : Int) < (n : Int) := by omega
      have hk0 : (0 : Int) ≤ (k : Int) := by omega
      have oX := Own.new wr #[.int .i64 zK, .int .u8 zO, .int .i64 zA, .int .i64 zB, .slice zs zn zc] 56
      have hb4 := new_below wr (.cells #[.int .i64 zK, .int .u8 zO, .int .i64 zA, .int .i64 zB, .slice zs zn zc] 56)
      go_upto_region 6 with fail
      generalize wr.alloc (.cells #[.int .i64 zK, .int .u8 zO, .int .i64 zA, .int .i64 zB, .slice zs zn zc] 56) = w4 at *
      have HC4 : Hid (CdAt w w4 b sz vl vp ps pl) := HCD.out.below hb4
      have HOX : Hid (Own w4 wr.heap.size #[.int .i64 zK, .int .u8 zO, .int .i64 zA, .int .i64 zB, .slice zs zn zc] 56) := oX
      have HB4 : Hid (Below wr.heap.size wr w4) := hb4
      have HLT : Hid (w.heap.size + 1 + 1 < wr.heap.size) := HCD.out.own.lt
      have HKB : Hid (k + 1 ≤ n) := hlt
      obtain ⟨x0, x1, x2, x3, x4, xf⟩ := lown5 oX
      clear d0 d1 d2 d3 d4 oX hb4 HCD
      by_cases h0 : zO = 0
      · subst h0
        have HK2 : Hid (CdK g xs (k + 1) q ps pl) := HSK2.out rfl
        clear HSK2 HPT2 HRT HSZ HOX
        go_wp2
        first
          | (go_roundw
             case rel => exact ⟨k + 1, q, vl, vp, ps, pl, HKB.out, by go_num, rfl, HC4.out, HK2.out⟩
             case measure => simp [intOf]; omega)
      · have hq0 : (zO == 0) = false := by rw [beq_eq_false_iff_ne]; exact h0
        have HK2 : Hid (∀ vx, CdK g xs (k + 1) (q + SX) (ps ++ [(AI, vx)]) (pl ++ [q])) := HPT2.out h0
        clear HSK2 HPT2
        obtain ⟨ap, cpp, rfl, -⟩ := HC4.out.ints.shape
        have oP := HC4.out.own
        have m1 := oP.cell 1
        simp only [List.getElem?_toArray, List.getElem?_cons_zero, List.getElem?_cons_succ] at m1
        have mf := oP.froz
        have rowI := HC4.out.ints.alloc (.cells #[.int .i64 (q : Int)] 3)
        have oI := Own.new w4 #[.int .i64 (q : Int)] 3
        have hsm : pl.length ≤ 10000000 := by have := HM.out; omega
        have HPP : Hid (∀ ao3 cap3 wy, Rw wy 3 1 (.slice ao3 (pl.length + 1) cap3) (pl.length + 1) (intC pl ++ [.int .i64 (q : Int)]) → (w4.alloc (.cells #[.int .i64 (q : Int)] 3)).grownBy wy (Value.slice ap pl.length cpp).ownBlock → ((Value.slice ao3 (pl.length + 1) cap3).ownBlock = (Value.slice ap pl.length cpp).ownBlock ∨ (Value.slice ao3 (pl.length + 1) cap3).ownBlock = some (w4.alloc (.cells #[.int .i64 (q : Int)] 3)).heap.size) → Own wy (w.heap.size + 1 + 1) #[vl, .slice ap pl.length cpp, .int .i64 sz] 72 ∧ CdAt w (wy.setCell ⟨w.heap.size + 1 + 1, 1, none⟩ (.slice ao3 (pl.length + 1) cap3)) b sz vl (.slice ao3 (pl.length + 1) cap3) ps (pl ++ [q]) ∧ Own (wy.setCell ⟨w.heap.size + 1 + 1, 1, none⟩ (.slice ao3 (pl.length + 1) cap3)) wr.heap.size #[.int .i64 zK, .int .u8 zO, .int .i64 zA, .int .i64 zB, .slice zs zn zc] 56) := fun ao3 cap3 wy p1 p2 p3 => by
          obtain ⟨k1, k2⟩ := HC4.out.putP rfl p1 p2 p3
          refine ⟨k1, k2, ?_⟩
          exact ((HOX.out.alloc _).grown p2 (HC4.out.ints.ne HOX.out (by decide)).symm).other (by have := HLT.out; omega) _
        go_wp2_with (first
          | (refine wpList_app1 okN (by rfl) (.tmp 23) (.tmp 25) (by rfl) _ pl.length (intC pl) (by rfl) rowI w4.heap.size [.int .i64 (q : Int)] (by rfl) oI rfl (by simp [Value.oneCell']) (by omega) ?_; intro ao3 cap3 wy p1 p2 p3; obtain ⟨j1, j2, j3⟩ := HPP.out ao3 cap3 wy p1 p2 p3; have n1 := j1.cell 1; simp only [List.getElem?_toArray, List.getElem?_cons_zero, List.getElem?_cons_succ] at n1; have nf := j1.froz))
        generalize wy.setCell ⟨w.heap.size + 1 + 1, 1, none⟩ (.slice ao3 (pl.length + 1) cap3) = w6 at *
        have HC6 : Hid (CdAt w w6 b sz vl (.slice ao3 (pl.length + 1) cap3) ps (pl ++ [q])) := j2
        have HO6 : Hid (Own w6 wr.heap.size #[.int .i64 zK, .int .u8 zO, .int .i64 zA, .int .i64 zB, .slice zs zn zc] 56) := j3
        have oP6 := HC6.out.own
        have l0 := oP6.cell 0
        simp only [List.getElem?_toArray, List.getElem?_cons_zero, List.getElem?_cons_succ] at l0
        have lf := oP6.froz
        obtain ⟨y0, y1, y2, y3, y4, yf⟩ := lown5 HO6.out
        clear p1 p2 p3 j1 j2 j3 n1 nf HPP rowI oI m1 mf oP x0 x1 x2 x3 x4 xf
        have hps : ps.length ≤ 10000000 := by omega
        have HC6d : Hid (CdAt w w6.drew b sz vl (.slice ao3 (pl.length + 1) cap3) ps (pl ++ [q])) := HC6.out.below (Below.refl _ _).drew
        have HO6d : Hid (Own w6.drew wr.heap.size #[.int .i64 zK, .int .u8 zO, .int .i64 zA, .int .i64 zB, .slice zs zn zc] 56) := HO6.out.drew
        have hqb : q ≤ 1000000000000 := by have := HM.out; omega
        clear hbd hsm
        go_cut [] from 28 to 36 (fun wx => ∃ vl' vx, CdAt w wx b sz vl' (.slice ao3 (pl.length + 1) cap3) (ps ++ [(AI, vx)]) (pl ++ [q]) ∧ Own wx wr.heap.size #[.int .i64 zK, .int .u8 zO, .int .i64 zA, .int .i64 zB, .slice zs zn zc] 56)
        case first =>
          refine wp_region_any (by kernel_rfl) ?_
          change wpAny _ _ _ _ _ _ _ (World.drew _)
          refine wpAny_take (i := 0) (v := ?_) rfl (by kernel_rfl) (by kernel_rfl) (by kernel_rfl) (fun _ _ _ h => h) (Or.inl ⟨by rfl, ?_⟩) ?_
          rotate_left 1
          · (intro w'; go_simp <;> with_reducible rfl)
          try simp only [Act.put, List.setIfInBounds_toArray, List.set_cons_zero, List.set_cons_succ]
          refine wpAny_take (i := 2) (v := ?_) rfl (by kernel_rfl) (by kernel_rfl) (by kernel_rfl) (fun _ _ _ h => h) (Or.inl ⟨by rfl, ?_⟩) ?_
          rotate_left 1
          · (intro w'; go_simp <;> with_reducible rfl)
          try simp only [Act.put, List.setIfInBounds_toArray, List.set_cons_zero, List.set_cons_succ]
          refine wpAny_take (i := 4) (v := ?_) rfl (by kernel_rfl) (by kernel_rfl) (by kernel_rfl) (fun _ _ _ h => h) (Or.inl ⟨by rfl, ?_⟩) ?_
          rotate_left 1
          · (intro w'; go_simp <;> with_reducible rfl)
          try simp only [Act.put, List.setIfInBounds_toArray, List.set_cons_zero, List.set_cons_succ]
          refine wpAny_ready (rs := [1, 3]) (by kernel_rfl) (by simp) ?_
          refine readyH rfl (fun K hK => ?_) (readyH rfl (fun K hK => ?_) AllReady.nil)
          · go_simp
            refine hK.out _ _ ?_
            clear hK K
            try simp only [Act.put, List.setIfInBounds_toArray, List.set_cons_zero, List.set_cons_succ]
            refine wpAny_ready (rs := [3]) (by kernel_rfl) (by simp) ?_
            refine readyH rfl (fun K hK => ?_) AllReady.nil
            go_simp
            refine hK.out _ _ ?_
            clear hK K
            try simp only [Act.put, List.setIfInBounds_toArray, List.set_cons_zero, List.set_cons_succ]
            refine wpAny_ready (rs := [5]) (by kernel_rfl) (by simp) ?_
            refine readyH rfl (fun K hK => ?_) AllReady.nil
            go_simp
            refine (HRT.out _ HC6d.out.bel HC6d.out.box).mono ?_
            rintro e w7 ⟨vx, rfl, hrx, hnx, b7⟩
            obtain ⟨va, vc, rfl, -⟩ := hrx.shape
            unfold insV
            have HC7 : Hid (CdAt w w7 b sz vl (.slice ao3 (pl.length + 1) cap3) ps (pl ++ [q])) := HC6d.out.below b7
            have HO7 : Hid (Own w7 wr.heap.size #[.int .i64 zK, .int .u8 zO, .int .i64 zA, .int .i64 zB, .slice zs zn zc] 56) := HO6d.out.below b7
            have l7 := HC7.out.own.cell 0
            simp only [List.getElem?_toArray, List.getElem?_cons_zero] at l7
            have oE := Own.new w7 #[.int .u8 (AI.op : Int), .int .i64 AI.a, .int .i64 AI.b, .slice va AI.arms.length vc] 43
            have l8 := (HC7.out.own.alloc (.cells #[.int .u8 (AI.op : Int), .int .i64 AI.a, .int .i64 AI.b, .slice va AI.arms.length vc] 43)).cell 0
            simp only [List.getElem?_toArray, List.getElem?_cons_zero] at l8
            obtain ⟨al2, cap2, wz, hr, g1, g2, g3⟩ := run_app1 okX (w7.alloc (.cells #[.int .u8 (AI.op : Int), .int .i64 AI.a, .int .i64 AI.b, .slice va AI.arms.length vc] 43)) 69 vl ps.length (insC ps) (HC7.out.row.row.alloc _) w7.heap.size [.int .u8 (AI.op : Int), .int .i64 AI.a, .int .i64 AI.b, .slice va AI.arms.length vc] oE rfl (by simp [Value.oneCell']) hps
            obtain ⟨j1, j2⟩ := HC7.out.putI (X := AI) rfl g1 g2 g3 hrx (fun b e => Nat.le_trans HC6d.out.bel.size (hnx b e))
            have HJ2 : Hid _ := j2
            have HJ3 : Hid (Own (wz.setCell ⟨w.heap.size + 1 + 1, 0, none⟩ (.slice al2 (ps.length + 1) cap2)) wr.heap.size #[.int .i64 zK, .int .u8 zO, .int .i64 zA, .int .i64 zB, .slice zs zn zc] 56) := ((HO7.out.alloc (.cells #[.int .u8 (AI.op : Int), .int .i64 AI.a, .int .i64 AI.b, .slice va AI.arms.length vc] 43)).grown g2 (HC7.out.row.row.ne HO7.out (by decide)).symm).other (i := 0) (g' := w.heap.size + 1 + 1) (by have := HLT.out; omega) (.slice al2 (ps.length + 1) cap2)
            have n0 := j1.cell 0
            have nf := j1.froz
            simp only [List.getElem?_toArray, List.getElem?_cons_zero] at n0
            have HRUN : Hid _ := hr
            clear hr g1 g2 g3 j1 j2 hrx hnx b7 oE
            go_wp2_with fail
            refine hK.out _ _ ?_
            clear hK K
            try simp only [Act.put, List.setIfInBounds_toArray, List.set_cons_zero, List.set_cons_succ]
            refine wpAny_ready (rs := [6]) (by kernel_rfl) (by simp) ?_
            refine readyH rfl (fun K hK => ?_) AllReady.nil
            go_simp
            refine hK.out _ _ ?_
            clear hK K
            try simp only [Act.put, List.setIfInBounds_toArray, List.set_cons_zero, List.set_cons_succ]
            refine wpAny_ready (rs := [7]) (by kernel_rfl) (by simp) ?_
            refine readyH rfl (fun K hK => ?_) AllReady.nil
            rw [if_pos (by rfl)]
            refine wp_app_run (.tmp 29) (.tmp 34) (by rfl) (by rfl) (by rfl) HRUN.out ?_
            refine hK.out _ _ ?_
            clear hK K
            try simp only [Act.put, List.setIfInBounds_toArray, List.set_cons_zero, List.set_cons_succ]
            refine wpAny_ready (rs := [8]) (by kernel_rfl) (by simp) ?_
            refine readyH rfl (fun K hK => ?_) AllReady.nil
            go_simp
            refine hK.out _ _ ?_
            clear hK K
            try simp only [Act.put, List.setIfInBounds_toArray, List.set_cons_zero, List.set_cons_succ]
            refine wpAny_ready (rs := [9]) (by kernel_rfl) (by simp) ?_
            refine readyH rfl (fun K hK => ?_) AllReady.nil
            go_simp
            refine hK.out _ _ ?_
            clear hK K
            try simp only [Act.put, List.setIfInBounds_toArray, List.set_cons_zero, List.set_cons_succ]
            refine wpAny_done (by kernel_rfl) ?_ _
            go_wp2_with fail
            go_meet
            exact ⟨_, _, HJ2.out, HJ3.out⟩
          · go_simp
            refine hK.out _ _ ?_
            clear hK K
            try simp only [Act.put, List.setIfInBounds_toArray, List.set_cons_zero, List.set_cons_succ]
            refine wpAny_ready (rs := [1, 5]) (by kernel_rfl) (by simp) ?_
            refine readyH rfl (fun K hK => ?_) (readyH rfl (fun K hK => ?_) AllReady.nil)
            · go_simp
              refine hK.out _ _ ?_
              clear hK K
              try simp only [Act.put, List.setIfInBounds_toArray, List.set_cons_zero, List.set_cons_succ]
              refine wpAny_ready (rs := [5]) (by kernel_rfl) (by simp) ?_
              refine readyH rfl (fun K hK => ?_) AllReady.nil
              go_simp
              refine (HRT.out _ HC6d.out.bel HC6d.out.box).mono ?_
              rintro e w7 ⟨vx, rfl, hrx, hnx, b7⟩
              obtain ⟨va, vc, rfl, -⟩ := hrx.shape
              unfold insV
              have HC7 : Hid (CdAt w w7 b sz vl (.slice ao3 (pl.length + 1) cap3) ps (pl ++ [q])) := HC6d.out.below b7
              have HO7 : Hid (Own w7 wr.heap.size #[.int .i64 zK, .int .u8 zO, .int .i64 zA, .int .i64 zB, .slice zs zn zc] 56) := HO6d.out.below b7
              have l7 := HC7.out.own.cell 0
              simp only [List.getElem?_toArray, List.getElem?_cons_zero] at l7
              have oE := Own.new w7 #[.int .u8 (AI.op : Int), .int .i64 AI.a, .int .i64 AI.b, .slice va AI.arms.length vc] 43
              have l8 := (HC7.out.own.alloc (.cells #[.int .u8 (AI.op : Int), .int .i64 AI.a, .int .i64 AI.b, .slice va AI.arms.length vc] 43)).cell 0
              simp only [List.getElem?_toArray, List.getElem?_cons_zero] at l8
              obtain ⟨al2, cap2, wz, hr, g1, g2, g3⟩ := run_app1 okX (w7.alloc (.cells #[.int .u8 (AI.op : Int), .int .i64 AI.a, .int .i64 AI.b, .slice va AI.arms.length vc] 43)) 69 vl ps.length (insC ps) (HC7.out.row.row.alloc _) w7.heap.size [.int .u8 (AI.op : Int), .int .i64 AI.a, .int .i64 AI.b, .slice va AI.arms.length vc] oE rfl (by simp [Value.oneCell']) hps
              obtain ⟨j1, j2⟩ := HC7.out.putI (X := AI) rfl g1 g2 g3 hrx (fun b e => Nat.le_trans HC6d.out.bel.size (hnx b e))
              have HJ2 : Hid _ := j2
              have HJ3 : Hid (Own (wz.setCell ⟨w.heap.size + 1 + 1, 0, none⟩ (.slice al2 (ps.length + 1) cap2)) wr.heap.size #[.int .i64 zK, .int .u8 zO, .int .i64 zA, .int .i64 zB, .slice zs zn zc] 56) := ((HO7.out.alloc (.cells #[.int .u8 (AI.op : Int), .int .i64 AI.a, .int .i64 AI.b, .slice va AI.arms.length vc] 43)).grown g2 (HC7.out.row.row.ne HO7.out (by decide)).symm).other (i := 0) (g' := w.heap.size + 1 + 1) (by have := HLT.out; omega) (.slice al2 (ps.length + 1) cap2)
              have n0 := j1.cell 0
              have nf := j1.froz
              simp only [List.getElem?_toArray, List.getElem?_cons_zero] at n0
              have HRUN : Hid _ := hr
              clear hr g1 g2 g3 j1 j2 hrx hnx b7 oE
              go_wp2_with fail
              refine hK.out _ _ ?_
              clear hK K
              try simp only [Act.put, List.setIfInBounds_toArray, List.set_cons_zero, List.set_cons_succ]
              refine wpAny_ready (rs := [6]) (by kernel_rfl) (by simp) ?_
              refine readyH rfl (fun K hK => ?_) AllReady.nil
              go_simp
              refine hK.out _ _ ?_
              clear hK K
              try simp only [Act.put, List.setIfInBounds_toArray, List.set_cons_zero, List.set_cons_succ]
              refine wpAny_ready (rs := [7]) (by kernel_rfl) (by simp) ?_
              refine readyH rfl (fun K hK => ?_) AllReady.nil
              rw [if_pos (by rfl)]
              refine wp_app_run (.tmp 29) (.tmp 34) (by rfl) (by rfl) (by rfl) HRUN.out ?_
              refine hK.out _ _ ?_
              clear hK K
              try simp only [Act.put, List.setIfInBounds_toArray, List.set_cons_zero, List.set_cons_succ]
              refine wpAny_ready (rs := [8]) (by kernel_rfl) (by simp) ?_
              refine readyH rfl (fun K hK => ?_) AllReady.nil
              go_simp
              refine hK.out _ _ ?_
              clear hK K
              try simp only [Act.put, List.setIfInBounds_toArray, List.set_cons_zero, List.set_cons_succ]
              refine wpAny_ready (rs := [9]) (by kernel_rfl) (by simp) ?_
              refine readyH rfl (fun K hK => ?_) AllReady.nil
              go_simp
              refine hK.out _ _ ?_
              clear hK K
              try simp only [Act.put, List.setIfInBounds_toArray, List.set_cons_zero, List.set_cons_succ]
              refine wpAny_done (by kernel_rfl) ?_ _
              go_wp2_with fail
              go_meet
              exact ⟨_, _, HJ2.out, HJ3.out⟩
            · go_simp
              refine (HRT.out _ HC6d.out.bel HC6d.out.box).mono ?_
              rintro e w7 ⟨vx, rfl, hrx, hnx, b7⟩
              obtain ⟨va, vc, rfl, -⟩ := hrx.shape
              unfold insV
              have HC7 : Hid (CdAt w w7 b sz vl (.slice ao3 (pl.length + 1) cap3) ps (pl ++ [q])) := HC6d.out.below b7
              have HO7 : Hid (Own w7 wr.heap.size #[.int .i64 zK, .int .u8 zO, .int .i64 zA, .int .i64 zB, .slice zs zn zc] 56) := HO6d.out.below b7
              have l7 := HC7.out.own.cell 0
              simp only [List.getElem?_toArray, List.getElem?_cons_zero] at l7
              have oE := Own.new w7 #[.int .u8 (AI.op : Int), .int .i64 AI.a, .int .i64 AI.b, .slice va AI.arms.length vc] 43
              have l8 := (HC7.out.own.alloc (.cells #[.int .u8 (AI.op : Int), .int .i64 AI.a, .int .i64 AI.b, .slice va AI.arms.length vc] 43)).cell 0
              simp only [List.getElem?_toArray, List.getElem?_cons_zero] at l8
              obtain ⟨al2, cap2, wz, hr, g1, g2, g3⟩ := run_app1 okX (w7.alloc (.cells #[.int .u8 (AI.op : Int), .int .i64 AI.a, .int .i64 AI.b, .slice va AI.arms.length vc] 43)) 69 vl ps.length (insC ps) (HC7.out.row.row.alloc _) w7.heap.size [.int .u8 (AI.op : Int), .int .i64 AI.a, .int .i64 AI.b, .slice va AI.arms.length vc] oE rfl (by simp [Value.oneCell']) hps
              obtain ⟨j1, j2⟩ := HC7.out.putI (X := AI) rfl g1 g2 g3 hrx (fun b e => Nat.le_trans HC6d.out.bel.size (hnx b e))
              have HJ2 : Hid _ := j2
              have HJ3 : Hid (Own (wz.setCell ⟨w.heap.size + 1 + 1, 0, none⟩ (.slice al2 (ps.length + 1) cap2)) wr.heap.size #[.int .i64 zK, .int .u8 zO, .int .i64 zA, .int .i64 zB, .slice zs zn zc] 56) := ((HO7.out.alloc (.cells #[.int .u8 (AI.op : Int), .int .i64 AI.a, .int .i64 AI.b, .slice va AI.arms.length vc] 43)).grown g2 (HC7.out.row.row.ne HO7.out (by decide)).symm).other (i := 0) (g' := w.heap.size + 1 + 1) (by have := HLT.out; omega) (.slice al2 (ps.length + 1) cap2)
              have n0 := j1.cell 0
              have nf := j1.froz
              simp only [List.getElem?_toArray, List.getElem?_cons_zero] at n0
              have HRUN : Hid _ := hr
              clear hr g1 g2 g3 j1 j2 hrx hnx b7 oE
              go_wp2_with fail
              refine hK.out _ _ ?_
              clear hK K
              try simp only [Act.put, List.setIfInBounds_toArray, List.set_cons_zero, List.set_cons_succ]
              refine wpAny_ready (rs := [1, 6]) (by kernel_rfl) (by simp) ?_
              refine readyH rfl (fun K hK => ?_) (readyH rfl (fun K hK => ?_) AllReady.nil)
              · go_simp
                refine hK.out _ _ ?_
                clear hK K
                try simp only [Act.put, List.setIfInBounds_toArray, List.set_cons_zero, List.set_cons_succ]
                refine wpAny_ready (rs := [6]) (by kernel_rfl) (by simp) ?_
                refine readyH rfl (fun K hK => ?_) AllReady.nil
                go_simp
                refine hK.out _ _ ?_
                clear hK K
                try simp only [Act.put, List.setIfInBounds_toArray, List.set_cons_zero, List.set_cons_succ]
                refine wpAny_ready (rs := [7]) (by kernel_rfl) (by simp) ?_
                refine readyH rfl (fun K hK => ?_) AllReady.nil
                rw [if_pos (by rfl)]
                refine wp_app_run (.tmp 29) (.tmp 34) (by rfl) (by rfl) (by rfl) HRUN.out ?_
                refine hK.out _ _ ?_
                clear hK K
                try simp only [Act.put, List.setIfInBounds_toArray, List.set_cons_zero, List.set_cons_succ]
                refine wpAny_ready (rs := [8]) (by kernel_rfl) (by simp) ?_
                refine readyH rfl (fun K hK => ?_) AllReady.nil
                go_simp
                refine hK.out _ _ ?_
                clear hK K
                try simp only [Act.put, List.setIfInBounds_toArray, List.set_cons_zero, List.set_cons_succ]
                refine wpAny_ready (rs := [9]) (by kernel_rfl) (by simp) ?_
                refine readyH rfl (fun K hK => ?_) AllReady.nil
                go_simp
                refine hK.out _ _ ?_
                clear hK K
                try simp only [Act.put, List.setIfInBounds_toArray, List.set_cons_zero, List.set_cons_succ]
                refine wpAny_done (by kernel_rfl) ?_ _
                go_wp2_with fail
                go_meet
                exact ⟨_, _, HJ2.out, HJ3.out⟩
              · go_simp
                refine hK.out _ _ ?_
                clear hK K
                try simp only [Act.put, List.setIfInBounds_toArray, List.set_cons_zero, List.set_cons_succ]
                refine wpAny_ready (rs := [1]) (by kernel_rfl) (by simp) ?_
                refine readyH rfl (fun K hK => ?_) AllReady.nil
                go_simp
                refine hK.out _ _ ?_
                clear hK K
                try simp only [Act.put, List.setIfInBounds_toArray, List.set_cons_zero, List.set_cons_succ]
                refine wpAny_ready (rs := [7]) (by kernel_rfl) (by simp) ?_
                refine readyH rfl (fun K hK => ?_) AllReady.nil
                rw [if_pos (by rfl)]
                refine wp_app_run (.tmp 29) (.tmp 34) (by rfl) (by rfl) (by rfl) HRUN.out ?_
                refine hK.out _ _ ?_
                clear hK K
                try simp only [Act.put, List.setIfInBounds_toArray, List.set_cons_zero, List.set_cons_succ]
                refine wpAny_ready (rs := [8]) (by kernel_rfl) (by simp) ?_
                refine readyH rfl (fun K hK => ?_) AllReady.nil
                go_simp
                refine hK.out _ _ ?_
                clear hK K
                try simp only [Act.put, List.setIfInBounds_toArray, List.set_cons_zero, List.set_cons_succ]
                refine wpAny_ready (rs := [9]) (by kernel_rfl) (by simp) ?_
                refine readyH rfl (fun K hK => ?_) AllReady.nil
                go_simp
                refine hK.out _ _ ?_
                clear hK K
                try simp only [Act.put, List.setIfInBounds_toArray, List.set_cons_zero, List.set_cons_succ]
                refine wpAny_done (by kernel_rfl) ?_ _
                go_wp2_with fail
                go_meet
                exact ⟨_, _, HJ2.out, HJ3.out⟩
        case rest =>
          obtain ⟨vl', vx, hcd, hox⟩ := hcut
          have HC8 : Hid (CdAt w wc b sz vl' (.slice ao3 (pl.length + 1) cap3) (ps ++ [(AI, vx)]) (pl ++ [q])) := hcd
          obtain ⟨x0, x1, x2, x3, x4, xf⟩ := lown5 hox
          clear hcd HC6 HO6 HC6d HO6d HC4 HOX HRT l0 lf oP6 y0 y1 y2 y3 y4 yf
          go_wp2_with fail
          refine Calls.mono (HSZ.out wc HC8.out.bel) ?_
          rintro e w9 ⟨rfl, b9⟩
          have HC9 : Hid (CdAt w w9 b sz vl' (.slice ao3 (pl.length + 1) cap3) (ps ++ [(AI, vx)]) (pl ++ [q])) := HC8.out.below b9
          have HK9 : Hid (CdK g xs (k + 1) (q + SX) (ps ++ [(AI, vx)]) (pl ++ [q])) := HK2.out vx
          clear b9 HC8 HSZ HK2 x0 x1 x2 x3 x4 xf hox
          go_wp2
          first
            | (go_roundw
               case rel => exact ⟨k + 1, q + SX, vl', .slice ao3 (pl.length + 1) cap3, ps ++ [(AI, vx)], pl ++ [q], HKB.out, by go_num, by go_num, HC9.out, HK9.out⟩
               case measure => simp [intOf]; omega)
    · obtain rfl : k = n := by omega
      have e1 : (xs.take k).map LnP.l = xs.map LnP.l := by rw [HN.out, List.take_length]
      have hi := HCK.out.is
      have hp := HCK.out.ps
      rw [e1] at hi hp
      have HI : Hid (ps.map Prod.fst = codeI g (xs.map LnP.l)) := hi
      have HP : Hid (pl = codeP (xs.map LnP.l) 0) := hp
      clear hi hp e1 HCK
      have HFIN : Hid (∀ W, CdAt w W b sz vl vp ps pl → PcR w sz (codeI g (xs.map LnP.l)) (codeP (xs.map LnP.l) 0) (.returned (.agg #[vl, vp, .int .i64 sz])) (((W.setCell ⟨w.heap.size + 1, 0, none⟩ vl).setCell ⟨w.heap.size + 1, 1, none⟩ vp).setCell ⟨w.heap.size + 1, 2, none⟩ (.int .i64 sz))) := fun W hc => by
        obtain ⟨n1, n2, n3, n4, n5, n6, n7⟩ := hc.ne
        have f1 := fr_put3 W (w.heap.size + 1) vl vp (.int .i64 sz)
        refine ⟨vl, vp, ps, rfl, HI.out, ⟨hc.row.row.fr f1 (fun j e q => by subst q; exact n2 e), hc.row.new, fun y hy => ⟨(hc.row.arms y hy).1.fr f1 (fun j e q => by subst q; exact (n7 y hy).2.1 e), (hc.row.arms y hy).2⟩⟩, ?_, hc.inew, below_fr hc.bel f1 (fun j q => by omega)⟩
        rw [← HP.out]
        exact hc.ints.fr f1 (fun j e q => by subst q; exact n5 e)
      obtain ⟨al, cl, rfl, -⟩ := HCD.out.row.row.shape
      obtain ⟨ap, cpp, rfl, -⟩ := HCD.out.ints.shape
      have oP := HCD.out.own
      have l0 := oP.cell 0
      have l1 := oP.cell 1
      have l2 := oP.cell 2
      have oR := HCD.out.res
      have r0 := oR.cell 0
      have r1 := oR.cell 1
      have r2 := oR.cell 2
      have rf := oR.froz
      simp only [List.getElem?_toArray, List.getElem?_cons_zero, List.getElem?_cons_succ] at l0 l1 l2 r0 r1 r2
      go_wp2
      (try simp only [Exit.inBlock, Exit.then])
      exact bodyPost_ret (results_pc rfl (own_put3 oR _ _ _)) rfl (HFIN.out _ HCD.out)
end Go.Proofs.YtkmmnocooibljaaGreatDoor
