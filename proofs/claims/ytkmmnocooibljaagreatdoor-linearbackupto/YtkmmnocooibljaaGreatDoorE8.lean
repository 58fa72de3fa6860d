/-
  Closed runs reckoned by the kernel, part 8: the second executor is the first one.
-/
import Derived.Test.YtkmmnocooibljaaGreatDoorE7
set_option linter.all false

namespace Go.Eng
open Go.RowKit

variable {P : Program} {G : Nat}

/-- What the one answers the other answers too. -/
def Im (x y : R) : Prop := ∀ r, x = some r → y = some r
theorem Im.refl (x : R) : Im x x := fun _ h => h
theorem Im.of_eq {x y : R} (h : x = y) : Im x y := fun _ e => h ▸ e
theorem Im.trans {x y z : R} (h : Im x y) (k : Im y z) : Im x z := fun r e => k r (h r e)
theorem Im.no (y : R) : Im none y := fun _ h => by cases h
theorem Im.ifb {c : Bool} {a b a' b' : R} (h : c = true → Im a a') (k : c = false → Im b b') : Im (ifb c a b) (ifb c a' b') := by
  cases c
  · exact k rfl
  · exact h rfl
theorem Im.ifb1 {c : Bool} {a y : R} (h : c = true → Im a y) : Im (Eng.ifb c a none) y := by
  cases c
  · exact Im.no _
  · exact h rfl
theorem Im.ifb2 {c : Bool} {a b y : R} (h : c = true → Im a y) (k : c = false → Im b y) : Im (Eng.ifb c a b) y := by
  cases c
  · exact k rfl
  · exact h rfl

def bindE (r : Option (Option Code × AFr × AH)) (k : Option Code → AFr → AH → R) : R := match r with | some (j, f, H) => k j f H | none => none
def bindV (r : Option (Value × AH)) (k : KV) : R := match r with | some (v, H) => k v H | none => none
def bindF (r : Option (AFr × AH)) (k : AFr → AH → R) : R := match r with | some (f, H) => k f H | none => none
def bindO {α : Type} (r : Option α) (k : α → R) : R := match r with | some v => k v | none => none
theorem bindV_im {r : Option (Value × AH)} {k k' : KV} (h : ∀ v H, Im (k v H) (k' v H)) : Im (bindV r k) (bindV r k') := by
  cases r with
  | none => exact Im.no _
  | some p => exact h p.1 p.2
theorem bindO_im {α : Type} {r : Option α} {k k' : α → R} (h : ∀ v, Im (k v) (k' v)) : Im (bindO r k) (bindO r k') := by
  cases r with
  | none => exact Im.no _
  | some p => exact h p

/-! ### Tries and memory -/

def OkG {α β : Type} (x : GK α β) (y : GS α β) : Prop := (∀ q k, x.get q k = k (y.get q)) ∧ ∀ q v k, x.set q v k = k (y.set q v)
theorem OkG.up {α β : Type} {x : GK α β} {y : GS α β} (h : OkG x y) (d : Nat) : OkG (gkUp d x) (gsUp d y) := by
  obtain ⟨g, s⟩ := x
  obtain ⟨g', s'⟩ := y
  obtain ⟨h1, h2⟩ := h
  refine ⟨fun q k => ?_, fun q v k => ?_⟩ <;> obtain ⟨a, b, c, e⟩ := q <;> unfold gkUp gsUp <;> simp only [ifb_eq] <;>
    cases Nat.beq d 0 <;> cases Nat.beq d 1 <;> cases Nat.beq d 2 <;> first | exact h1 _ _ | exact h2 _ _ _
theorem OkG.id {α : Type} : OkG (gkId : GK α α) gs0 := ⟨fun _ _ => rfl, fun _ _ _ => rfl⟩
theorem ok4 {α : Type} (n : Nat) : OkG (at4 n : GK α (T4 α)) (T4.at n) := ((((OkG.id).up _).up _).up _).up _
theorem ok7 {α : Type} (n : Nat) : OkG (at7 n : GK (Option α) (T7 α)) (T7.at n) := (((ok4 _).up _).up _).up _
theorem getT_eq (tm : T4 Value) (n : Nat) (k : Value → R) : getT tm n k = k (T4.get tm n) := by
  have h := (ok4 (α := Value) n).1 tm k
  rw [T4.get_at, ← h]
  unfold getT
  cases (at4 n : GK Value (T4 Value)); rfl
theorem setT_eq (tm : T4 Value) (n : Nat) (v : Value) (k : T4 Value → R) : setT tm n v k = k (T4.set tm n v) := by
  have h := (ok4 (α := Value) n).2 tm v k
  rw [T4.set_at, ← h]
  unfold setT
  cases (at4 n : GK Value (T4 Value)); rfl
theorem get7_eq (t : T7 Obj) (n : Nat) (k : Option Obj → R) : get7 t n k = k (T7.get t n) := by
  have h := (ok7 (α := Obj) n).1 t k
  show get7 t n k = k (GS.get (T7.at n) t)
  rw [← h]
  unfold get7
  cases (at7 n : GK (Option Obj) (T7 Obj)); rfl
theorem set7_eq (t : T7 Obj) (n : Nat) (o : Obj) (k : T7 Obj → R) : set7 t n (some o) k = k (T7.set t n o) := by
  have h := (ok7 (α := Obj) n).2 t (some o) k
  have e : T7.set t n o = (T7.at n).set t (some o) := by unfold T7.set; cases (T7.at n : GS (Option Obj) (T7 Obj)); rfl
  rw [e, ← h]
  unfold set7
  cases (at7 n : GK (Option Obj) (T7 Obj)); rfl
theorem getH_eq (H : AH) (i : Nat) (k : Option Obj → R) : getH H i k = k (H.get i) := by
  obtain ⟨t, n, l⟩ := H
  show @Bool.casesOn (fun _ => R) (Nat.ble (Nat.succ i) n) (k none) (get7 t i k) = k (ifb (Nat.ble (Nat.succ i) n) (T7.get t i) none)
  rw [get7_eq]
  cases Nat.ble (Nat.succ i) n <;> rfl
theorem setH_eq (H : AH) (i : Nat) (o : Obj) (k : AH → R) : setH H i o k = k (H.set i o) := by
  obtain ⟨t, n, l⟩ := H
  show set7 t i (some o) (fun t => k ⟨t, n, l⟩) = _
  rw [set7_eq]
  rfl
theorem pushK_eq (H : AH) (ob : Obj) (k : Nat → AH → R) : pushK H ob k = ifb (Nat.blt H.next most) (k H.next (H.push ob)) none := by
  obtain ⟨t, n, l⟩ := H
  show ifb (Nat.blt n most) (cn n (fun n => set7 t n (some ob) (fun t => k n ⟨t, Nat.succ n, l⟩))) none = _
  simp only [cn_eq, set7_eq]
  rfl

/-! ### Rows -/

theorem nthO_eq (l : List Value) (n : Nat) : nthO l n = l[n]? := by
  induction l generalizing n with
  | nil => rfl
  | cons x l ih => cases n with
    | zero => rfl
    | succ n => exact ih n
theorem nthB_eq (l : List UInt8) (n : Nat) : nthB l n = l[n]? := by
  induction l generalizing n with
  | nil => rfl
  | cons x l ih => cases n with
    | zero => rfl
    | succ n => exact ih n
theorem lenK_eq (l : List Value) : lenK l = l.length := by
  induction l with
  | nil => rfl
  | cons x l ih => show Nat.succ (lenK l) = _; rw [ih]; rfl
theorem lenB_eq (l : List UInt8) : lenB l = l.length := by
  induction l with
  | nil => rfl
  | cons x l ih => show Nat.succ (lenB l) = _; rw [ih]; rfl
theorem bEqK_eq : ∀ (a b : List UInt8), bEqK a b = bEq a b
  | [], [] => rfl
  | [], _ :: _ => rfl
  | _ :: _, [] => rfl
  | x :: l, y :: m => by
    show @Bool.casesOn (fun _ => Bool) (Nat.beq x.toNat y.toNat) false (bEqK l m) = ifb (Nat.beq x.toNat y.toNat) (bEq l m) false
    rw [bEqK_eq l m]; rfl
theorem lenC_eq (l : List Value) (n : Nat) (k : Nat → R) : lenC l n k = k (n + l.length) := by
  induction l generalizing n with
  | nil => exact cn_eq n k
  | cons x l ih =>
    refine (congrFun (congrFun (lrec_cons _ _ _ _) _) _).trans ?_
    show cn n (fun n => lenC l (Nat.succ n) k) = _
    rw [cn_eq, ih]
    congr 1
    simp only [List.length_cons]
    omega
theorem dropK_eq (n : Nat) (l : List Value) : dropK n l = dropN n l := by
  induction n generalizing l with
  | zero => rfl
  | succ n ih => cases l with
    | nil => rfl
    | cons v l => exact ih l
theorem dropC_eq (n : Nat) (l : List Value) (k : List Value → R) : dropC n l k = k (dropN n l) := by
  induction n generalizing l with
  | zero => rfl
  | succ n ih => cases l with
    | nil => rfl
    | cons v l => exact ih l
theorem takeO_eq (n : Nat) (l : List Value) : takeO n l = takeN n l := by
  induction n generalizing l with
  | zero => rfl
  | succ n ih => cases l with
    | nil => rfl
    | cons v l =>
      show @Option.casesOn (List Value) (fun _ => Option (List Value)) (takeO n l) none (fun m => some (v :: m)) = _
      rw [ih, takeN]
      cases takeN n l <;> rfl
theorem takeW_eq (n : Nat) (l w : List Value) (k : List Value → R) : takeW n l w k = bindO (takeN n l) (fun m => k (m ++ w)) := by
  induction n generalizing l k with
  | zero => rfl
  | succ n ih => cases l with
    | nil => rfl
    | cons v l =>
      show takeW n l w (fun m => k (v :: m)) = _
      rw [ih, takeN]
      cases takeN n l <;> rfl
theorem allOneK_eq (l : List Value) : allOneK l = allOne l := by
  induction l with
  | nil => rfl
  | cons v l ih =>
    show @Bool.casesOn (fun _ => Bool) (oneK v) false (allOneK l) = ifb (one v) (allOne l) false
    rw [oneK_eq, ih]; rfl
theorem takeB_eq (n : Nat) (l : List UInt8) : takeB n l = l.take n := by
  induction n generalizing l with
  | zero => show [] = l.take 0; rw [List.take_zero]
  | succ n ih => cases l with
    | nil => rfl
    | cons v l => show v :: takeB n l = _; rw [ih]; rfl
theorem dropB_eq (n : Nat) (l : List UInt8) : dropB n l = l.drop n := by
  induction n generalizing l with
  | zero => rfl
  | succ n ih => cases l with
    | nil => rfl
    | cons v l => exact ih l
theorem cutK_eq (l : List UInt8) (a h : Nat) : cutK l a h = cutL l a h := by
  unfold cutK cutL
  rw [lenB_eq]
  cases e : Nat.beq h l.length with
  | true =>
    have := Nat.eq_of_beq_eq_true e
    subst this
    rw [ifb_true, dropB_eq, List.take_length]
  | false => rw [ifb_false, takeB_eq, dropB_eq, List.drop_take]; rfl

theorem oVal_eq (a : Option Value) (k : Value → R) : oVal a k = bindO a k := by cases a <;> rfl
theorem oAddr_eq (a : Option Addr) (k : Addr → R) : oAddr a k = bindO a k := by cases a <;> rfl
theorem oList_eq (a : Option (List Value)) (k : List Value → R) : oList a k = bindO a k := by cases a <;> rfl
theorem oAH_eq (a : Option AH) (k : AH → R) : oAH a k = bindO a k := by cases a <;> rfl
theorem addK_eq (p : Addr) (n : Nat) : addK p n = p.add n := by
  obtain ⟨b, o, s⟩ := p
  cases n <;> rfl

theorem cellK_eq (p : Addr) (H : AH) (k : Value → R) : cellK p H k = bindO (H.cell p) k := by
  obtain ⟨b, off, sp⟩ := p
  cases sp with
  | some _ => rfl
  | none =>
    show getH H b (fun o => oCells o (fun l _ _ => cn off (fun off => oVal (nthO l off) k))) = bindO (match H.get b with | some (.cells c _ _) => c[off]? | _ => none) k
    rw [getH_eq, oCells_eq]
    cases H.get b with
    | none => rfl
    | some o => cases o <;> first | rfl | (rename_i c e fz; obtain ⟨l⟩ := c; simp only [cn_eq, oVal_eq, nthO_eq, List.getElem?_toArray])

theorem cellsK_eq (n : Nat) (p : Addr) (H : AH) (k : List Value → R) : cellsK n p H k = bindO (cellsFrom H p n) k := by
  obtain ⟨b, off, sp⟩ := p
  cases n with
  | zero => rfl
  | succ n => cases sp with
    | some _ => rfl
    | none =>
      show getH H b (fun o => oCells o (fun l _ _ => cn off (fun off => oList (takeO (n + 1) (dropK off l)) k))) = bindO (match H.get b with | some (.cells ⟨c⟩ _ _) => takeN (n + 1) (dropN off c) | _ => none) k
      rw [getH_eq, oCells_eq]
      cases H.get b with
      | none => rfl
      | some o => cases o <;> first | rfl | (rename_i c e fz; obtain ⟨l⟩ := c; simp only [cn_eq, oList_eq, takeO_eq, dropK_eq])

theorem wholeC_eq (n : Nat) (p : Addr) (H : AH) (k : List Value → R) : wholeC n p H k = bindO (cellsFrom H p n) k := by
  obtain ⟨b, off, sp⟩ := p
  cases n with
  | zero => rfl
  | succ n => cases sp with
    | some _ => rfl
    | none =>
      show getH H b (fun o => oCells o (fun l _ _ => dropC off l (fun l => takeW (n + 1) l [] k))) = bindO (match H.get b with | some (.cells ⟨c⟩ _ _) => takeN (n + 1) (dropN off c) | _ => none) k
      rw [getH_eq, oCells_eq]
      cases H.get b with
      | none => rfl
      | some o => cases o <;> first | rfl | (rename_i c e fz; obtain ⟨l⟩ := c; simp only [dropC_eq, takeW_eq, List.append_nil])

theorem loadPK_eq (t : TypeId) (p : Addr) (H : AH) (k : Value → R) : loadPK P t p H k = bindO (loadA P t p H) k := by
  unfold loadPK loadA
  cases aggOf P t with
  | none => rfl
  | some x => cases x with
    | none => exact cellK_eq p H k
    | some n =>
      show cellsK n p H (fun l => k (.agg ⟨l⟩)) = bindO (match cellsFrom H p n with | some l => some (.agg ⟨l⟩) | none => none) k
      rw [cellsK_eq]
      cases cellsFrom H p n <;> rfl

theorem loadK_eq (t : TypeId) (v : Value) (H : AH) (k : KV) : loadK P t v H k = valK (opLoad P t v H) k := by
  unfold loadK
  rw [vPtr_eq]
  cases v <;> first | rfl | skip
  rename_i a
  cases a with
  | none => rfl
  | some p =>
    show loadPK P t p H (fun u => k u H) = _
    rw [loadPK_eq]
    simp only [opLoad]
    cases loadA P t p H <;> rfl

theorem over0_eq (vs l : List Value) (k : List Value → R) : over0 vs l k = bindO (overN vs l) k := by
  induction vs generalizing l k with
  | nil => rfl
  | cons v vs ih => cases l with
    | nil => rfl
    | cons x l =>
      refine (congrFun (congrFun (lrec_cons _ _ _ _) _) _).trans ?_
      show ifb (oneK v) (over0 vs l (fun m => k (v :: m))) none = _
      rw [overN, oneK_eq]
      cases one v with
      | false => rfl
      | true =>
        simp only [ifb_true]
        rw [ih]
        cases overN vs l <;> rfl
theorem overK_eq (n : Nat) (vs l : List Value) (k : List Value → R) : overK n vs l k = bindO (overAt n vs l) k := by
  induction n generalizing l k with
  | zero => exact over0_eq vs l k
  | succ n ih => cases l with
    | nil => rfl
    | cons x l =>
      show overK n vs l (fun m => k (x :: m)) = _
      rw [ih, overAt]
      cases overAt n vs l <;> rfl

theorem storeCK_eq (H : AH) (p : Addr) (vs : List Value) (k : AH → R) : storeCK H p vs k = bindO (storeAll H p vs) k := by
  cases vs with
  | nil => rfl
  | cons v vs =>
    obtain ⟨b, off, sp⟩ := p
    cases sp with
    | some _ => rfl
    | none =>
      show getH H b (fun o => oCells o (fun l e fz => ifb (ifb (Nat.ble H.lo b) (noFrozen fz off (lenK (v :: vs))) false) (overK off (v :: vs) l (fun l' => setH H b (.cells ⟨l'⟩ e fz) k)) none)) = bindO (match H.get b with
        | some (.cells ⟨c⟩ e fz) => ifb (ifb (Nat.ble H.lo b) (noFrozen fz off (v :: vs).length) false) (match overAt off (v :: vs) c with
          | some c' => some (H.set b (.cells ⟨c'⟩ e fz))
          | none => none) none
        | _ => none) k
      rw [getH_eq, oCells_eq]
      cases H.get b with
      | none => rfl
      | some o => cases o <;> first | rfl | skip
                  rename_i c e fz
                  obtain ⟨l⟩ := c
                  simp only [lenK_eq]
                  cases ifb (Nat.ble H.lo b) (noFrozen fz off (v :: vs).length) false with
                  | false => rfl
                  | true =>
                    simp only [ifb_true]
                    rw [overK_eq]
                    cases overAt off (v :: vs) l with
                    | none => rfl
                    | some c' => exact setH_eq _ _ _ _

end Go.Eng

namespace Go.Eng
open Go.RowKit

variable {P : Program} {G : Nat}

/-! ### Operands and frames -/

theorem tmpC_eq (S : SF) (tm : T4 Value) (td : List Item) (t : Nat) (k : Value → R) : tmpC S tm t k = k ((fr S tm td).tmp t) := by
  show @Bool.casesOn (fun _ => R) (Nat.ble (Nat.succ t) S.sz) (k undef) (getT tm t k) = k (ifb (Nat.ble (Nat.succ t) S.sz) (T4.get tm t) undef)
  rw [getT_eq]
  cases Nat.ble (Nat.succ t) S.sz <;> rfl
theorem evK_eq (S : SF) (tm : T4 Value) (td : List Item) (x : Operand) : evK S tm x = (fr S tm td).ev x := by cases x <;> rfl
theorem evK_fun (S : SF) (tm : T4 Value) (td : List Item) : evK S tm = (fr S tm td).ev := funext (evK_eq S tm td)
theorem evC_eq (S : SF) (tm : T4 Value) (x : Operand) (k : Value → R) : evC S tm x k = k (evK S tm x) := by
  cases x <;> first | rfl | exact tmpC_eq S tm [] _ k
theorem mapC_eq (S : SF) (tm : T4 Value) (l : List Operand) (k : List Value → R) : mapC S tm l k = k (l.map (evK S tm)) := by
  induction l generalizing k with
  | nil => rfl
  | cons x l ih =>
    refine (congrFun (lrec_cons _ _ _ _) _).trans ?_
    show evC S tm x (fun v => mapC S tm l (fun l => k (v :: l))) = _
    rw [evC_eq, ih]
    rfl

def tmPut (S : SF) (d : Option Tmp) (v : Value) (tm : T4 Value) : T4 Value := ((fr S tm []).put d v).tm
theorem put_fr (S : SF) (tm : T4 Value) (td : List Item) (d : Option Tmp) (v : Value) : (fr S tm td).put d v = fr S (tmPut S d v tm) td := by
  cases d with
  | none => rfl
  | some t =>
    show ifb (Nat.blt t S.sz) (fr S (T4.set tm t v) td) (fr S tm td) = fr S (AFr.tm (ifb (Nat.blt t S.sz) (fr S (T4.set tm t v) []) (fr S tm []))) td
    cases Nat.blt t S.sz <;> rfl
theorem putC_eq (S : SF) (t : Nat) (v : Value) (tm : T4 Value) (k : T4 Value → R) : putC S t v tm k = k (tmPut S (some t) v tm) := by
  show @Bool.casesOn (fun _ => R) (Nat.ble (Nat.succ t) S.sz) (k tm) (setT tm t v k) = k (AFr.tm (ifb (Nat.ble (Nat.succ t) S.sz) (fr S (T4.set tm t v) []) (fr S tm [])))
  rw [setT_eq]
  cases Nat.ble (Nat.succ t) S.sz <;> rfl
theorem dstC_eq (o : Oper) (S : SF) (v : Value) (tm : T4 Value) (k : T4 Value → R) : dstC o S v tm k = k (tmPut S o.dst v tm) := by
  unfold dstC
  cases o.dst with
  | none => rfl
  | some t => exact putC_eq S t v tm k
theorem putT_eq (S : SF) (t : Nat) (v : Value) (tm : T4 Value) : putT S t v tm = tmPut S (some t) v tm := by
  show ifb (Nat.blt t S.sz) (T4.set tm t v) tm = AFr.tm (ifb (Nat.blt t S.sz) (fr S (T4.set tm t v) []) (fr S tm []))
  cases Nat.blt t S.sz <;> rfl
theorem undK_eq (o : Oper) (S : SF) (tm : T4 Value) : undK o S tm = tmPut S o.dst undef tm := by
  unfold undK
  cases o.dst with
  | none => rfl
  | some t => exact putT_eq S t undef tm
theorem dstT_eq (o : Oper) (S : SF) (v : Value) (tm : T4 Value) : dstT o S v tm = tmPut S o.dst v tm := by
  unfold dstT
  cases o.dst with
  | none => rfl
  | some t => exact putT_eq S t v tm
theorem wantT_eq (ops : Array Oper) (o : Oper) (S : SF) (tm : T4 Value) (td : List Item) : wantT ops o S tm = wantedA ops (fr S tm td) o := rfl

/-! ### Values -/

theorem valK_some (v : Value) (H : AH) (k : KV) : valK (some (.value v, H)) k = k v H := rfl

theorem binSK_eq (op : BinOp) (a b : ByteArray) (k : Value → R) (d : R) : binSK op a b k d = match binS op a b with | some v => k v | none => d := by
  cases op <;> simp only [binS] <;> first | rfl | (show boolC _ _ = _; simp only [boolC_eq, bEqK_eq, notB_eq])

theorem binK_im (S : SF) (tm : T4 Value) (o : Oper) (H : AH) (k : KV) (op : BinOp) (t : TypeId) (x y : Operand) : Im (binK P G S tm o H k op t x y) (valK (opBin P G (evK S tm) o H op t x y) k) := by
  unfold binK
  simp only [evC_eq]
  have hb : ∀ v, bin2 op (evK S tm x) (evK S tm y) = some v → valK (opBin P G (evK S tm) o H op t x y) k = k v H := fun v hv => by
    unfold opBin
    rw [hv]
    rfl
  generalize hs : valK (opBin P G (evK S tm) o H op t x y) k = slow
  rw [hs] at hb
  rw [vInt_eq]
  split
  · rename_i kx a hx
    rw [vInt_eq]
    split
    · rename_i ky b hy
      refine Im.ifb2 (fun hk => ?_) (fun _ => Im.refl _)
      rw [binIK_eq]
      split
      · rename_i v hv
        refine Im.of_eq (hb v ?_).symm
        rw [hx, hy]
        show ifb (kEq kx ky) (binI op kx a b) none = some v
        rw [← kEqK_eq, hk, ifb_true, hv]
      · exact Im.refl _
    · exact Im.refl _
  · rw [vStr_eq]
    split
    · rename_i a hx
      rw [vStr_eq]
      split
      · rename_i b hy
        rw [binSK_eq]
        split
        · rename_i v hv
          refine Im.of_eq (hb v ?_).symm
          rw [hx, hy]
          exact hv
        · exact Im.refl _
      · exact Im.refl _
    · exact Im.refl _

theorem fieldK_im (S : SF) (tm : T4 Value) (o : Oper) (H : AH) (k : KV) (s i : Nat) (v : Value) : Im (fieldK P G S tm o H k s i v) (valK (opField P G (evK S tm) o H s i v) k) := by
  unfold fieldK
  cases hf : fieldOff P s i with
  | none => exact Im.refl _
  | some n =>
    show Im (vPtr v (fun a => oAddr a (fun p => k (.pointer (some (addK p n))) H)) none) _
    rw [vPtr_eq]
    split
    · rename_i a
      rw [oAddr_eq]
      cases a with
      | none => exact Im.no _
      | some p =>
        refine Im.of_eq ?_
        simp only [opField, hf, bindO, addK_eq]
        rfl
    · exact Im.no _

theorem indexK_im (S : SF) (tm : T4 Value) (o : Oper) (H : AH) (k : KV) (t : TypeId) (v ix : Value) : Im (indexK P G S tm o H k t v ix) (valK (opIndex P G (evK S tm) o H t v ix) k) := by
  unfold indexK
  cases hf : elemSize P t with
  | none => exact Im.refl _
  | some sz =>
    show Im (vSlice v (fun a len cap => oAddr a (fun p => vInt ix (fun _ i => @Int.casesOn (fun _ => R) i (fun i => ifb (ifb (Nat.ble (Nat.succ i) len) (Nat.ble 1 cap) false) (k (.pointer (some (addK p (Nat.mul i sz)))) H) none) (fun _ => none)) none)) none) _
    rw [vSlice_eq]
    split
    · rename_i a len cap
      rw [oAddr_eq]
      cases a with
      | none => exact Im.no _
      | some p =>
        show Im (vInt ix _ none) _
        rw [vInt_eq]
        split
        · rename_i ki i
          cases i with
          | negSucc _ => exact Im.no _
          | ofNat i =>
            refine Im.of_eq ?_
            simp only [opIndex, hf, addK_eq]
            show ifb (ifb (Nat.blt i len) (Nat.blt 0 cap) false) _ none = valK (ifb (ifb (Nat.blt i len) (Nat.blt 0 cap) false) _ none) k
            cases ifb (Nat.blt i len) (Nat.blt 0 cap) false <;> rfl
        · exact Im.no _
    · exact Im.no _

theorem ixK_im (S : SF) (tm : T4 Value) (o : Oper) (H : AH) (k : KV) (t : TypeId) (x i : Value) : Im (ixK P G S tm o H k t x i) (valK (opIx P G (evK S tm) o H t x i) k) := by
  unfold ixK
  rw [vStr_eq]
  split
  · rename_i s
    rw [vInt_eq]
    split
    · rename_i ki n
      cases n with
      | negSucc _ => exact Im.no _
      | ofNat n =>
        refine Im.of_eq ?_
        simp only [opIx, cn_eq, nthB_eq]
        cases isStr P t with
        | false => rfl
        | true =>
          simp only [ifb_true]
          cases s.data.toList[n]? <;> rfl
    · exact Im.no _
  · exact Im.refl _

theorem extractK_im (v : Value) (i : Nat) (H : AH) (k : KV) : Im (extractK v i H k) (valK (opExtract v i H) k) := by
  unfold extractK
  rw [vTuple_eq]
  split
  · rename_i a
    obtain ⟨l⟩ := a
    refine Im.of_eq ?_
    show oVal (nthO l i) (fun u => k u H) = _
    rw [oVal_eq, nthO_eq]
    simp only [opExtract]
    cases l[i]? <;> rfl
  · exact Im.no _

theorem nilK_im (S : SF) (tm : T4 Value) (o : Oper) (H : AH) (k : KV) (v : Value) : Im (nilK P G S tm o H k v) (valK (opNil P G (evK S tm) o H v) k) := by
  unfold nilK
  rw [vPtr_eq]
  split
  · rename_i a
    rw [oAddr_eq]
    cases a with
    | none => exact Im.no _
    | some p => exact Im.refl _
  · exact Im.refl _

theorem lenVK_im (S : SF) (tm : T4 Value) (o : Oper) (H : AH) (k : KV) (t : TypeId) (v : Value) : Im (lenVK P G S tm o H k t v) (valK (opLen P G (evK S tm) o H t v) k) := by
  unfold lenVK
  rw [vSlice_eq]
  split
  · refine Im.of_eq ?_
    simp only [opLen]
    cases Nat.beq (lenKind P t) 2 <;> rfl
  · rw [vStr_eq]
    split
    · rename_i s
      refine Im.of_eq ?_
      simp only [opLen, lenB_eq]
      cases Nat.beq (lenKind P t) 1 <;> rfl
    · exact Im.refl _

theorem bndK_eq (S : SF) (tm : T4 Value) (x : Option Operand) (d : Nat) (k : Nat → R) : bndK S tm x d k = bindO (match x.map (evK S tm) with | none => some d | some (.int _ (.ofNat h)) => some h | _ => none) k := by
  unfold bndK
  cases x with
  | none => rfl
  | some x =>
    show evC S tm x (fun v => vInt v (fun _ i => @Int.casesOn (fun _ => R) i k (fun _ => none)) none) = _
    rw [evC_eq, vInt_eq]
    simp only [Option.map_some]
    cases evK S tm x <;> first | rfl | skip
    rename_i ki i
    cases i <;> rfl

theorem bnd_lem2 (hv : Option Value) (d lim : Nat) (f : Nat → R) (Y : Option Nat → R) (hY : ∀ h, Nat.ble h lim = true → Im (f h) (Y (some h))) :
    Im (bindO (match hv with | none => some d | some (.int _ (.ofNat h)) => some h | _ => none) (fun h => ifb (Nat.ble h lim) (f h) none))
      (Y (match hv with | none => some d | some (.int _ (.ofNat h)) => ifb (Nat.ble h lim) (some h) none | _ => none)) := by
  cases hv with
  | none =>
    show Im (ifb (Nat.ble d lim) (f d) none) (Y (some d))
    exact Im.ifb1 fun hd => hY d hd
  | some v =>
    cases v <;> first | exact Im.no _ | skip
    rename_i ki i
    cases i with
    | negSucc _ => exact Im.no _
    | ofNat h =>
      show Im (ifb (Nat.ble h lim) (f h) none) (Y (ifb (Nat.ble h lim) (some h) none))
      refine Im.ifb1 fun h1 => ?_
      rw [h1]
      exact hY h h1

theorem sliceSK_im (S : SF) (tm : T4 Value) (s : ByteArray) (lo hi : Option Operand) (H : AH) (k : KV) : Im (sliceSK S tm s.data.toList lo hi H k) (valK (opLook (sliceS s (lo.map (evK S tm)) (hi.map (evK S tm))) H) k) := by
  obtain ⟨⟨l⟩⟩ := s
  unfold sliceSK
  simp only [bndK_eq, lenB_eq, cn_eq, cutK_eq, sliceS]
  refine bnd_lem2 (hi.map (evK S tm)) l.length l.length _ (fun o => valK (opLook (match o with
    | some h => (match (match lo.map (evK S tm) with | none => some 0 | some (.int _ (.ofNat a)) => ifb (Nat.ble a h) (some a) none | _ => none) with
      | some a => some (.string ⟨⟨cutL l a h⟩⟩)
      | none => none)
    | none => none) H) k) (fun h _ => ?_)
  exact bnd_lem2 (lo.map (evK S tm)) 0 h _ (fun o => valK (opLook (match o with | some a => some (.string ⟨⟨cutL l a h⟩⟩) | none => none) H) k) (fun a _ => Im.refl _)

theorem sliceRK_im (S : SF) (tm : T4 Value) (sz : Nat) (a : Addr) (len cap : Nat) (lo hi : Option Operand) (H : AH) (k : KV) : Im (sliceRK S tm sz a len cap lo hi H k) (valK (ifb (Nat.ble len cap) (opLook (sliceV sz a len cap (lo.map (evK S tm)) (hi.map (evK S tm))) H) none) k) := by
  unfold sliceRK
  refine Im.ifb1 fun h0 => ?_
  rw [h0, ifb_true]
  simp only [bndK_eq, addK_eq, sliceV]
  refine bnd_lem2 (hi.map (evK S tm)) len cap _ (fun o => valK (opLook (match o with
    | some h => (match (match lo.map (evK S tm) with | none => some 0 | some (.int _ (.ofNat a)) => ifb (Nat.ble a h) (some a) none | _ => none) with
      | some l => some (ifb (Nat.beq (Nat.sub cap l) 0) (.slice (some ⟨a.block, a.off, inx a.spot⟩) (Nat.sub h l) 0) (.slice (some (a.add (Nat.mul l sz))) (Nat.sub h l) (Nat.sub cap l)))
      | none => none)
    | none => none) H) k) (fun h _ => ?_)
  exact bnd_lem2 (lo.map (evK S tm)) 0 h _ (fun o => valK (opLook (match o with
    | some l => some (ifb (Nat.beq (Nat.sub cap l) 0) (.slice (some ⟨a.block, a.off, inx a.spot⟩) (Nat.sub h l) 0) (.slice (some (a.add (Nat.mul l sz))) (Nat.sub h l) (Nat.sub cap l)))
    | none => none) H) k) (fun a _ => Im.refl _)

theorem sliceK_im (S : SF) (tm : T4 Value) (o : Oper) (H : AH) (k : KV) (t : TypeId) (v : Value) (lo hi : Option Operand) : Im (sliceK P G S tm o H k t v lo hi) (valK (opSlice P G (evK S tm) o H t v lo hi none) k) := by
  unfold sliceK
  rw [vStr_eq]
  split
  · rename_i s
    refine Im.ifb1 fun h0 => ?_
    simp only [opSlice, h0, ifb_true]
    exact sliceSK_im S tm s lo hi H k
  · rw [vSlice_eq]
    split
    · rename_i a len cap _
      cases he : elemSize P t with
      | none => exact Im.no _
      | some sz =>
        cases a with
        | none => exact Im.refl _
        | some a =>
          simp only [opSlice, he]
          exact sliceRK_im S tm sz a len cap lo hi H k
    · exact Im.no _

end Go.Eng

namespace Go.Eng
open Go.RowKit

variable {P : Program} {G : Nat}

theorem valSel_im {op : Op} {b : Bx VOp} (h : valSel op = some b) {o : Oper} (ho : o.op = op) (S : SF) (tm : T4 Value) (H : AH) (k : KV) : Im (b.v P G S tm o H k) (valK (opA P G (evK S tm) o H) k) := by
  unfold valSel at h
  split at h <;> (try (simp only [Option.some.injEq] at h; subst h)) <;> (try unfold opA) <;> (try simp only [ho]) <;> (try refine Im.ifb1 fun hc => ?_) <;> (try simp only [hc, ifb_true, evC_eq])
  · exact Im.refl _
  · exact Im.refl _
  · rw [vBool_eq]
    unfold opPick
    split
    · rename_i t hq
      rw [hq]
      cases t <;> exact Im.refl _
    · exact Im.no _
  · exact binK_im S tm o H k _ _ _ _
  · exact fieldK_im S tm o H k _ _ _
  · exact indexK_im S tm o H k _ _ _
  · exact ixK_im S tm o H k _ _ _
  · exact extractK_im _ _ H k
  · rename_i t x lo hi
    have e : allOk G (x :: (lo.toList ++ (hi.toList ++ (none : Option Operand).toList))) = true := hc
    rw [e, ifb_true]
    exact sliceK_im S tm o H k _ _ _ _
  · exact nilK_im S tm o H k _
  · simp only [opCall, opBuiltin, hc, ifb_true]
    exact lenVK_im S tm o H k _ _
  · cases h

/-! ### Calls -/

def sf (f : AFr) : SF := ⟨f.fn, f.sz, f.marks, f.rnd⟩
theorem sf_fr (S : SF) (tm : T4 Value) (td : List Item) : sf (fr S tm td) = S := rfl

def doR (P : Program) (run : Run) (r : Option (Next × AH)) : Option (Value × AH) :=
  match r with
  | some (.value v, H) => some (v, H)
  | some (.skip, H) => some (undef, H)
  | some (.enter g ⟨args⟩, H) => callA P run g args H
  | some (.round l g ⟨tmps⟩ assign body, H) => roundA run l g tmps assign body H
  | _ => none
theorem doOp_eq (run : Run) (f : AFr) (o : Oper) (H : AH) : doOp P G run f o H = doR P run (opA P G f.ev o H) := rfl

theorem valK_im (run : Run) (r : Option (Next × AH)) (k : KV) : Im (valK r k) (bindV (doR P run r) k) := by
  unfold valK
  split
  · exact Im.refl _
  · exact Im.no _

def RunOk (kr : RunK) (run : Run) : Prop := ∀ S tm td H k, Im (kr S tm td H k) (bindE (run (fr S tm td) H) (fun j f H' => k j (sf f) f.tm H'))

theorem putsC_eq (l : List Value) (tm : T4 Value) (i : Nat) (k : T4 Value → R) : putsC l tm i k = k (putArgs tm i l) := by
  induction l generalizing tm i with
  | nil => rfl
  | cons v l ih =>
    refine (congrFun (congrFun (congrFun (lrec_cons _ _ _ _) _) _) _).trans ?_
    show setT tm i v (fun tm => putsC l tm (Nat.succ i) k) = _
    rw [setT_eq, ih]
    rfl

theorem marksK_eq (S : SF) (H : AH) (k : AH → R) : marksK S H k = bindO (takeMarks S.marks H) k := by
  unfold marksK
  cases S.marks with
  | nil => rfl
  | cons b l => exact oAH_eq _ _

theorem loadA_ro {t : TypeId} {p : Addr} {H : AH} {v : Value} (h : loadA P t p H = some v) : ∃ lg, ro P (loadVar t p) H = some (v, lg) := by
  have e : ∃ lg, roLoad P t (.pointer (some p)) H = some (v, lg) := by
    unfold loadA at h
    unfold roLoad
    simp only
    cases hag : aggOf P t with
    | none => rw [hag] at h; cases h
    | some q => cases q with
      | none =>
        rw [hag] at h
        simp only at h
        simp only [h]
        exact ⟨_, rfl⟩
      | some n =>
        rw [hag] at h
        simp only at h
        cases hl : cellsFrom H p n with
        | none => rw [hl] at h; cases h
        | some l =>
          rw [hl] at h
          simp only [Option.some.injEq] at h
          subst h
          exact ⟨logOf p 0 l, by simp only [hl]⟩
  obtain ⟨lg, e⟩ := e
  exact ⟨lg, roLoad_ro e⟩

theorem resL_im (l : List ResultVar) (S : SF) (tm : T4 Value) (td : List Item) (H : AH) (k : List Value → R) : Im ((resL l).v P S tm H k) (bindO (resList P (fr S tm td) H l) k) := by
  induction l generalizing k with
  | nil => exact Im.refl _
  | cons x l ih =>
    cases x with
    | tmp t =>
      unfold resL
      generalize resL l = b at ih
      obtain ⟨g⟩ := b
      show Im (tmpC S tm t (fun v => g P S tm H (fun m => k (v :: m)))) _
      rw [tmpC_eq S tm td]
      refine (ih _).trans ?_
      show Im _ (bindO (match resList P (fr S tm td) H l with | some m => some ((fr S tm td).tmp t :: m) | none => none) k)
      cases resList P (fr S tm td) H l <;> exact Im.refl _
    | cell a t =>
      unfold resL
      generalize resL l = b at ih
      obtain ⟨g⟩ := b
      show Im (tmpC S tm a (fun p => vPtr p (fun a => oAddr a (fun p => loadPK P t p H (fun v => g P S tm H (fun m => k (v :: m))))) none)) _
      rw [tmpC_eq S tm td, vPtr_eq]
      split
      · rename_i q hq
        rw [oAddr_eq]
        cases q with
        | none => exact Im.no _
        | some p =>
          show Im (loadPK P t p H (fun v => g P S tm H (fun m => k (v :: m)))) _
          rw [loadPK_eq]
          cases hl : loadA P t p H with
          | none => exact Im.no _
          | some v =>
            obtain ⟨lg, e⟩ := loadA_ro hl
            refine (ih _).trans ?_
            simp only [resList, hq, e]
            cases resList P (fr S tm td) H l <;> exact Im.refl _
      · exact Im.no _

theorem finK_im (fn : Func) (k : KV) (f : AFr) (H1 : AH) : Im (finK P fn k (sf f) f.tm H1) (bindV (match takeMarks f.marks H1 with
    | some H2 => match resA P fn f H2 with
      | some v => some (v, H2)
      | none => none
    | none => none) k) := by
  unfold finK
  rw [marksK_eq]
  show Im (bindO (takeMarks f.marks H1) _) _
  cases takeMarks f.marks H1 with
  | none => exact Im.no _
  | some H2 =>
    show Im (@Bx.casesOn (Program → SF → T4 Value → AH → (List Value → R) → R) (fun _ => R) (resL fn.results.toList) (fun g => g P (sf f) f.tm H2 (fun l => k (resV l) H2))) _
    have h := resL_im (P := P) fn.results.toList (sf f) f.tm f.todo H2 (fun l => k (resV l) H2)
    generalize resL fn.results.toList = b at h
    obtain ⟨g⟩ := b
    refine Im.trans h ?_
    show Im (bindO (resList P f H2 fn.results.toList) _) (bindV (match (match resList P f H2 fn.results.toList with | some [v] => some v | some l => some (.tuple ⟨l⟩) | none => none) with | some v => some (v, H2) | none => none) k)
    cases resList P f H2 fn.results.toList with
    | none => exact Im.no _
    | some l =>
      cases l with
      | nil => exact Im.refl _
      | cons v l => cases l <;> exact Im.refl _

theorem callK_im {kr : RunK} {run : Run} (hr : RunOk kr run) (g : FuncId) (args : List Value) (H : AH) (k : KV) : Im (callK P kr g args.length args H k) (bindV (callA P run g args H) k) := by
  unfold callK callA
  cases hf : P.funcs[g]? with
  | none => exact Im.no _
  | some fn =>
    show Im (@Option.casesOn Code (fun _ => R) fn.body none (fun body => callB P kr g args.length args H k fn body)) _
    simp only
    cases hb : fn.body with
    | none => exact Im.no _
    | some body =>
      show Im (callB P kr g args.length args H k fn body) _
      unfold callB
      refine Im.ifb1 fun h256 => ?_
      rw [putsC_eq]
      refine (hr _ _ _ _ _).trans ?_
      simp only [h256, ifb_true]
      show Im (bindE (run ⟨g, max fn.ntmps args.length, putArgs (T4.leaf undef) 0 args, [.code body], [], none⟩ H) _) _
      cases hrun : run ⟨g, max fn.ntmps args.length, putArgs (T4.leaf undef) 0 args, [.code body], [], none⟩ H with
      | none => exact Im.no _
      | some q =>
        obtain ⟨j, f, H1⟩ := q
        show Im (ifb (isRet j) (finK P fn k (sf f) f.tm H1) none) _
        simp only
        cases j with
        | none => exact finK_im fn k f H1
        | some c => cases c <;> first | exact Im.no _ | exact finK_im fn k f H1

theorem roundK_im {kr : RunK} {run : Run} (hr : RunOk kr run) (l : Nat) (g : FuncId) (tmps : List Value) (assign body : Code) (H : AH) (k : KV) : Im (roundK kr l g tmps assign body H k) (bindV (roundA run l g tmps assign body H) k) := by
  unfold roundK roundA
  refine Im.ifb1 fun h256 => ?_
  rw [putsC_eq]
  refine (hr _ _ _ _ _).trans ?_
  simp only [h256, ifb_true]
  show Im (bindE (run ⟨g, tmps.length, putArgs (T4.leaf undef) 0 tmps, [.code assign, .beginRound, .code body], [], some l⟩ H) _) _
  cases run ⟨g, tmps.length, putArgs (T4.leaf undef) 0 tmps, [.code assign, .beginRound, .code body], [], some l⟩ H with
  | none => exact Im.no _
  | some q =>
    obtain ⟨j, f, H1⟩ := q
    simp only [bindE]
    show Im (match f.marks with
      | [] => match H1.get l with
        | some (.loop r) => if H1.lo ≤ l then k (.bool j.isNone) (H1.set l (.loop { r with state := if j.isNone then .ready else .done, pending := j })) else none
        | _ => none
      | _ => none) _
    cases f.marks with
    | cons _ _ => exact Im.no _
    | nil =>
      simp only
      cases H1.get l with
      | none => exact Im.no _
      | some ob =>
        cases ob <;> first | exact Im.no _ | skip
        simp only
        split <;> first | exact Im.refl _ | exact Im.no _

theorem nextK_im {kr : RunK} {run : Run} (hr : RunOk kr run) (r : Option (Next × AH)) (k : KV) : Im (nextK P kr r k) (bindV (doR P run r) k) := by
  unfold nextK doR
  split
  · exact Im.refl _
  · exact Im.refl _
  · exact callK_im hr _ _ _ _
  · exact roundK_im hr _ _ _ _ _ _ _
  · exact Im.no _

theorem callSK_im {kr : RunK} {run : Run} (hr : RunOk kr run) {c : Call} {g : FuncId} (hc : c.callee = .value (.func g)) {o : Oper} (ho : o.op = .call c) (S : SF) (tm : T4 Value) (H : AH) (k : KV) :
    Im (callSK c g P G kr S tm o H k) (bindV (doR P run (opA P G (evK S tm) o H)) k) := by
  have e : opA P G (evK S tm) o H = opCallV P G (evK S tm) o H c (.func g) := by
    unfold opA
    simp only [ho]
    unfold opCall
    simp only [hc]
  rw [e]
  unfold callSK
  refine Im.ifb2 (fun h => ?_) (fun _ => nextK_im hr _ _)
  rw [mapC_eq]
  have e2 : opCallV P G (evK S tm) o H c (.func g) = some (.enter g ⟨c.args.toList.map (evK S tm)⟩, H) := by
    show ifb (ifb (callable P g) (ifb true (allOk G c.args.toList) false) false) (some (Next.enter g ⟨[] ++ c.args.toList.map (evK S tm) ++ []⟩, H)) _ = _
    rw [ifb_true, h, ifb_true]
    simp
  rw [e2]
  have hl : c.args.toList.length = (c.args.toList.map (evK S tm)).length := by simp
  rw [hl]
  exact callK_im hr _ _ _ _

end Go.Eng

namespace Go.Eng
open Go.RowKit

variable {P : Program} {G : Nat}

/-! ### What is made new -/

theorem fresh_im (run : Run) {e : Operand → Value} {op : Op} {ob : Obj} {mk : Nat → Value} (h : freshA P G e op = some (ob, mk)) (H : AH) (k : KV) : Im (pushK H ob (fun n H' => k (mk n) H')) (bindV (doR P run (opFresh P G e op H)) k) := by
  rw [pushK_eq]
  unfold opFresh
  simp only [h]
  cases Nat.blt H.next most <;> exact Im.refl _

theorem allocK_im (kr : RunK) (run : Run) (t : TypeId) (S : SF) (tm : T4 Value) (o : Oper) (H : AH) (k : KV) (e : Operand → Value) : Im (allocK t P G kr S tm o H k) (bindV (doR P run (opFresh P G e (.alloc t) H)) k) := by
  unfold allocK
  refine Im.ifb1 fun hz => ?_
  cases h0 : zeroOf P t with
  | none => exact Im.no _
  | some z => exact fresh_im run (by simp only [freshA, hz, ifb_true, h0]) H k

theorem boxK_im (kr : RunK) (run : Run) (t : TypeId) (x : Operand) (S : SF) (tm : T4 Value) (o : Oper) (H : AH) (k : KV) : Im (boxK t x P G kr S tm o H k) (bindV (doR P run (opFresh P G (evK S tm) (.box t x) H)) k) := by
  unfold boxK
  refine Im.ifb1 fun hz => ?_
  rw [evC_eq, vCells_eq]
  exact fresh_im run (by simp only [freshA, hz, ifb_true]) H k

theorem putAt0_eq (vs l : List Value) (k : List Value → R) : putAt0 vs l k = bindO (if vs.length ≤ l.length then some (vs ++ l.drop vs.length) else none) k := by
  induction vs generalizing l k with
  | nil => simp [bindO]; rfl
  | cons v vs ih => cases l with
    | nil => simp [bindO]; rfl
    | cons x l =>
      refine (congrFun (congrFun (lrec_cons _ _ _ _) _) _).trans ?_
      show putAt0 vs l (fun m => k (v :: m)) = _
      rw [ih]
      by_cases h : vs.length ≤ l.length
      · rw [if_pos h, if_pos (by simpa using h)]; rfl
      · rw [if_neg h, if_neg (by simpa using h)]; rfl
theorem putAtK_eq (n : Nat) (vs l : List Value) (k : List Value → R) : putAtK n vs l k = bindO (if n + vs.length ≤ l.length then some (l.take n ++ vs ++ l.drop (n + vs.length)) else none) k := by
  induction n generalizing l k with
  | zero =>
    show putAt0 vs l k = _
    rw [putAt0_eq]
    simp
  | succ n ih => cases l with
    | nil =>
      rw [if_neg (by simp)]
      rfl
    | cons x l =>
      show putAtK n vs l (fun m => k (x :: m)) = _
      rw [ih]
      by_cases h : n + vs.length ≤ l.length
      · rw [if_pos h, if_pos (by simp only [List.length_cons]; omega)]
        show k _ = k _
        rw [show n + 1 + vs.length = (n + vs.length) + 1 from by omega]
        simp
      · rw [if_neg h, if_neg (by simp only [List.length_cons]; omega)]
        rfl

theorem fold_put (off : Nat) : ∀ (vs : List Value) (s : Nat) (a : Array Value), off + s + vs.length ≤ a.size →
    ((vs.zipIdx s).foldl (fun cs p => cs.setIfInBounds (off + p.2) p.1) a).toList = a.toList.take (off + s) ++ vs ++ a.toList.drop (off + s + vs.length)
  | [], s, a, h => by simp
  | v :: vs, s, a, h => by
    simp only [List.length_cons] at h
    rw [List.zipIdx_cons, List.foldl_cons, fold_put off vs (s + 1) _ (by simp; omega)]
    simp only [Array.toList_setIfInBounds, List.length_cons]
    have hl : off + s < a.toList.length := by simp; omega
    have e1 : (a.toList.set (off + s) v).take (off + (s + 1)) = a.toList.take (off + s) ++ [v] := by
      rw [show off + (s + 1) = off + s + 1 from by omega, List.take_succ_eq_append_getElem (by simpa using hl)]
      rw [List.take_set_of_le (Nat.le_refl _)]
      simp
    have e2 : (a.toList.set (off + s) v).drop (off + (s + 1) + vs.length) = a.toList.drop (off + s + (vs.length + 1)) := by
      rw [List.drop_set_of_lt (by omega)]
      congr 1
      omega
    rw [e1, e2]
    simp

theorem fillK_im (S : SF) (tm : T4 Value) (size : Nat) : ∀ (ps : List (Nat × Operand)) (l : List Value) (k : List Value → R),
    Im (fillK S tm size ps l k) (bindO (Instr.fill (fun i => some (i * size, size)) ⟨l⟩ (ps.map fun p => (p.1, evK S tm p.2))) (fun c => k c.toList))
  | [], l, k => Im.refl _
  | (i, x) :: ps, l, k => by
    have el : fillK S tm size ((i, x) :: ps) l k = _ := congrFun (congrFun (lrec_cons _ _ _ _) _) _
    refine (Im.of_eq el).trans ?_
    show Im (evC S tm x (fun v => lenC (vCells v) 0 (fun n => ifb (Nat.beq n size) (putAtK (Nat.mul i size) (vCells v) l (fun l' => fillK S tm size ps l' k)) none))) _
    rw [evC_eq, lenC_eq]
    refine Im.ifb1 fun h => ?_
    have hs : (evK S tm x).cells.size = size := by
      have := Nat.eq_of_beq_eq_true h
      rw [vCells_eq] at this
      simpa using this
    rw [putAtK_eq, vCells_eq, show Nat.mul i size = i * size from rfl]
    simp only [List.map_cons, Instr.fill]
    by_cases hle : i * size + (evK S tm x).cells.toList.length ≤ l.length
    · rw [if_pos hle]
      rw [if_neg (by
        simp only [Bool.or_eq_true, decide_eq_true_eq, not_or, List.size_toArray]
        simp only [Array.length_toList] at hle
        exact ⟨fun h => h hs, by omega⟩)]
      refine (fillK_im S tm size ps _ k).trans (Im.of_eq ?_)
      have hf := fold_put (i * size) (evK S tm x).cells.toList 0 ⟨l⟩ (by simpa using hle)
      simp only [Nat.add_zero] at hf
      have e : (Array.foldl (fun (cs : Array Value) (x : Value × Nat) => cs.setIfInBounds (i * size + x.2) x.1) ⟨l⟩ (evK S tm x).cells.zipIdx) = ⟨l.take (i * size) ++ (evK S tm x).cells.toList ++ l.drop (i * size + (evK S tm x).cells.toList.length)⟩ := by
        rw [← Array.toList_inj, ← Array.foldl_toList, Array.toList_zipIdx]
        exact hf
      show _ = bindO (Instr.fill _ (Array.foldl (fun (cs : Array Value) (x : Value × Nat) => cs.setIfInBounds (i * size + x.2) x.1) ⟨l⟩ (evK S tm x).cells.zipIdx) _) _
      rw [e]
    · rw [if_neg hle]
      exact Im.no _

theorem rowK_im (kr : RunK) (run : Run) (t : TypeId) (n : Nat) (ps : Array (Nat × Operand)) (S : SF) (tm : T4 Value) (o : Oper) (H : AH) (k : KV) : Im (rowK t n ps P G kr S tm o H k) (bindV (doR P run (opFresh P G (evK S tm) (.buildSlice t n ps) H)) k) := by
  unfold rowK
  refine Im.ifb1 fun hok => ?_
  cases hu : sliceElem P t with
  | none => exact Im.no _
  | some el =>
    have hu' : P.underlying t = some (.slice el) := by
      unfold sliceElem at hu
      split at hu
      · rename_i q hq; simp only [Option.some.injEq] at hu; subst hu; exact hq
      · cases hu
    show Im (@Option.casesOn TypeInfo (fun _ => R) (P.info? el) none _) _
    cases hi : P.info? el with
    | none => exact Im.no _
    | some inf =>
      refine Im.ifb1 fun hz => ?_
      show Im (@Option.casesOn Value (fun _ => R) (zeroOf P el) none _) _
      cases h0 : zeroOf P el with
      | none => exact Im.no _
      | some z =>
        refine (fillK_im S tm inf.size ps.toList (zerosOf inf n z) _).trans ?_
        have ez : (⟨zerosOf inf n z⟩ : Array Value) = (Array.range (n * inf.size)).map (z.cells[· % z.cells.size]!) := rfl
        have em : (ps.map fun (i, x) => (i, evK S tm x)).toList = ps.toList.map fun p => (p.1, evK S tm p.2) := by simp
        cases hf : Instr.fill (fun i => some (i * inf.size, inf.size)) ⟨zerosOf inf n z⟩ (ps.toList.map fun p => (p.1, evK S tm p.2)) with
        | none => exact Im.no _
        | some c =>
          refine fresh_im (ob := .cells c el (0, 0)) run ?_ H k
          simp only [freshA, hok, ifb_true, hu', freshRow, hi, hz, h0]
          rw [em, ← ez, hf]

/-! ### append -/

theorem nextV_eq (r : Option (Value × AH)) (k : KV) : nextV r k = bindV r k := rfl
theorem valued_do (run : Run) (r : Option (Value × AH)) : doR P run (valued r) = r := by
  cases r with
  | none => rfl
  | some p => rfl

theorem newC_eq (size : Nat) (x : Value) (H : AH) (k : List Value → R) : newC size x H k = bindO (newCells size x H) k := by
  unfold newC
  rw [vSlice_eq]
  cases x <;> first | rfl | skip
  · rename_i s
    show ifb (Nat.beq size 1) (k (bytesOf s)) none = bindO (ifb (Nat.beq size 1) (some (bytesOf s)) none) k
    cases Nat.beq size 1 <;> rfl
  · rename_i a n c
    cases a with
    | none =>
      show ifb (Nat.beq n 0) (k []) none = bindO (ifb (Nat.beq n 0) (some []) none) k
      cases Nat.beq n 0 <;> rfl
    | some b =>
      show ifb (ifb (Nat.beq n 0) false (Nat.beq c 0)) none (wholeC (Nat.mul n size) b H k) = bindO (ifb (ifb (Nat.beq n 0) false (Nat.beq c 0)) none (cellsFrom H b (Nat.mul n size))) k
      rw [wholeC_eq]
      cases ifb (Nat.beq n 0) false (Nat.beq c 0) <;> rfl

theorem ifb_t {a b : Bool} (h : ifb a b false = true) : a = true ∧ b = true := by
  cases a
  · cases h
  · exact ⟨rfl, h⟩

theorem growC_im (e : TypeId) (inf : TypeInfo) (b off len cap need : Nat) (new : List Value) (H : AH) (k : KV) : Im (growC P e inf b off len cap need new H k) (bindV (growA P e inf ⟨b, off, none⟩ len cap need new H) k) := by
  unfold growC
  rw [getH_eq, oCells_eq]
  cases hg : H.get b with
  | none => exact Im.no _
  | some o =>
    cases o <;> first | exact Im.no _ | skip
    rename_i c ee fz
    obtain ⟨c⟩ := c
    simp only [lenC_eq]
    refine Im.ifb1 fun hc => ?_
    obtain ⟨h1, hc⟩ := ifb_t hc
    obtain ⟨h2, hc⟩ := ifb_t hc
    obtain ⟨h3, hc⟩ := ifb_t hc
    obtain ⟨h4, hc⟩ := ifb_t hc
    obtain ⟨h5, hc⟩ := ifb_t hc
    obtain ⟨h6, h7⟩ := ifb_t hc
    rw [dropC_eq, takeW_eq]
    have ecf : cellsFrom H ⟨b, off, none⟩ (Nat.mul len inf.size) = takeN (Nat.mul len inf.size) (dropN off c) := by
      unfold cellsFrom
      cases hn : Nat.mul len inf.size with
      | zero => rfl
      | succ m => simp only [hg]
    cases ht : takeN (Nat.mul len inf.size) (dropN off c) with
    | none => exact Im.no _
    | some old =>
      show Im (setH H b gone (fun H1 => pushK H1 (.cells ⟨old ++ new⟩ e (1, 1)) (fun n H2 => k (.slice (some ⟨n, 0, none⟩) need need) H2))) _
      rw [setH_eq, pushK_eq]
      have hnx : (H.set b gone).next = H.next := rfl
      rw [hnx]
      refine Im.ifb1 fun h8 => ?_
      refine Im.of_eq ?_
      obtain ⟨g1, g2⟩ := ifb_t h1
      have hm : mayGrow P e inf need H = true := by
        unfold mayGrow
        rw [h2, ifb_true, g1, ifb_true, g2, ifb_true, h8]
      unfold growA
      simp only [hg, ecf, ht]
      have h4' : Nat.beq (off + Nat.mul cap inf.size) (⟨c⟩ : Array Value).size = true := by
        rw [Nat.zero_add] at h4
        exact h4
      rw [allOneK_eq] at h6
      rw [hm, ifb_true, h3, ifb_true, h4', ifb_true, h5, ifb_true, h6, ifb_true, h7, ifb_true]
      rfl

theorem appC_im (e : TypeId) (inf : TypeInfo) (base : Option Addr) (len cap need : Nat) (new : List Value) (H : AH) (k : KV) : Im (appC P e inf base len cap need new H k) (bindV (appendB P e inf base len cap need new H) k) := by
  unfold appC
  cases base with
  | none => exact Im.refl _
  | some a =>
    obtain ⟨b, off, sp⟩ := a
    cases sp with
    | some q => exact Im.refl _
    | none =>
      show Im (ifb (Nat.beq cap 0) none (ifb (Nat.ble need cap) (storeCK H (addK ⟨b, off, none⟩ (Nat.mul len inf.size)) new (fun H' => k (.slice (some ⟨b, off, none⟩) need cap) H')) (growC P e inf b off len cap need new H k))) _
      show Im _ (bindV (ifb (Nat.beq cap 0) none (ifb (Nat.ble need cap)
        (match storeAll H ((⟨b, off, none⟩ : Addr).add (Nat.mul len inf.size)) new with
        | some H' => some (.slice (some ⟨b, off, none⟩) need cap, H')
        | none => none) (growA P e inf ⟨b, off, none⟩ len cap need new H))) k)
      cases Nat.beq cap 0 with
      | true => exact Im.no _
      | false =>
        simp only [ifb_false]
        cases Nat.ble need cap with
        | false => exact growC_im e inf b off len cap need new H k
        | true =>
          simp only [ifb_true]
          rw [storeCK_eq, addK_eq]
          cases storeAll H ((⟨b, off, none⟩ : Addr).add (Nat.mul len inf.size)) new <;> exact Im.refl _

theorem appendK_im (kr : RunK) (run : Run) (s x : Operand) (st xt : TypeId) (S : SF) (tm : T4 Value) (o : Oper) (H : AH) (k : KV) : Im (appendK s x st xt P G kr S tm o H k) (bindV (ifb (allOk G [s, x]) (appendA P st xt (evK S tm s) (evK S tm x) H) none) k) := by
  unfold appendK
  refine Im.ifb1 fun hok => ?_
  rw [hok, ifb_true, evC_eq, evC_eq]
  cases ha : apInfo P st xt with
  | none => exact Im.no _
  | some q =>
    obtain ⟨e, inf⟩ := q
    show Im (vSlice (evK S tm s) (fun base len cap => newC inf.size (evK S tm x) H (fun new => lenC new 0 (fun nl => cn (Nat.add len (Nat.div nl inf.size)) (fun need => appC P e inf base len cap need new H k)))) none) _
    rw [vSlice_eq]
    split
    · rename_i base len cap hs
      rw [newC_eq]
      simp only [lenC_eq, cn_eq, Nat.zero_add]
      unfold apInfo at ha
      split at ha
      · rename_i el hu
        split at ha
        · rename_i xd hx
          split at ha
          · rename_i inf' hi
            cases hc : ifb (Nat.beq inf'.size 0) false (notInt xd) with
            | false => rw [hc] at ha; cases ha
            | true =>
              rw [hc, ifb_true] at ha
              simp only [Option.some.injEq, Prod.mk.injEq] at ha
              obtain ⟨rfl, rfl⟩ := ha
              unfold appendA
              simp only [hu, hx, hs, hi, hc, ifb_true]
              cases newCells inf'.size (evK S tm x) H with
              | none => exact Im.no _
              | some new => exact appC_im _ _ _ _ _ _ _ _ _
          · cases ha
        · cases ha
      · cases ha
    · exact Im.no _

theorem storeK_im (run : Run) (t : TypeId) (v u : Value) (H : AH) (k : KV) : Im (storeK P t v u H k) (bindV (doR P run (opStore P t v u H)) k) := by
  unfold storeK
  rw [vPtr_eq]
  split
  · rename_i a
    rw [oAddr_eq]
    cases a with
    | none => exact Im.no _
    | some p =>
      show Im (lenC (vCells u) 1 (fun n => ifb (Nat.beq (sz1 P t) n) (storeCK H p (vCells u) (fun H' => k undef H')) none)) _
      rw [lenC_eq, vCells_eq]
      refine Im.ifb1 fun h => ?_
      have h' : Nat.beq (sz1 P t) (u.cells.size + 1) = true := by
        rw [show u.cells.size + 1 = 1 + u.cells.toList.length from by simp; omega]
        exact h
      simp only [opStore, h', ifb_true]
      rw [storeCK_eq]
      cases storeAll H p u.cells.toList <;> exact Im.refl _
  · exact Im.no _

/-! ### Any operation -/

theorem opSelK_im {kr : RunK} {run : Run} (hr : RunOk kr run) (o : Oper) (S : SF) (tm : T4 Value) (H : AH) (k : KV) : Im ((opSelK o.op).v P G kr S tm o H k) (bindV (doR P run (opA P G (evK S tm) o H)) k) := by
  unfold opSelK
  cases hv : valSel o.op with
  | some b => exact (valSel_im hv rfl S tm H k).trans (valK_im run _ k)
  | none =>
    simp only
    split
    · rename_i t a ho
      show Im (ifb (okOpd G a) (evC S tm a (fun v => loadK P t v H k)) none) _
      refine Im.ifb1 fun hc => ?_
      unfold opA
      simp only [ho, hc, ifb_true]
      rw [evC_eq, loadK_eq]
      exact valK_im run _ k
    · rename_i t a x ho
      show Im (ifb (allOk G [a, x]) (evC S tm a (fun v => evC S tm x (fun u => storeK P t v u H k))) none) _
      refine Im.ifb1 fun hc => ?_
      unfold opA
      simp only [ho, hc, ifb_true]
      rw [evC_eq, evC_eq]
      exact storeK_im run _ _ _ _ _
    · rename_i g args ts ho
      exact callSK_im hr rfl ho S tm H k
    · rename_i s x st xt ho
      refine (appendK_im kr run s x st xt S tm o H k).trans (Im.of_eq ?_)
      unfold opA
      simp only [ho, opCall, opBuiltin]
      cases allOk G [s, x] with
      | false => rfl
      | true => rw [ifb_true, ifb_true, valued_do]
    · rename_i t ho
      unfold opA
      simp only [ho]
      exact allocK_im kr run t S tm o H k _
    · rename_i t x ho
      unfold opA
      simp only [ho]
      exact boxK_im kr run t x S tm o H k
    · rename_i t n ps ho
      unfold opA
      simp only [ho]
      exact rowK_im kr run t n ps S tm o H k
    · exact nextK_im hr _ _

end Go.Eng

namespace Go.Eng
open Go.RowKit

variable {P : Program} {G : Nat} {kr : RunK} {run : Run}

theorem bindV_none (k : KV) : bindV none k = none := rfl
theorem bindV_some (v : Value) (H : AH) (k : KV) : bindV (some (v, H)) k = k v H := rfl

/-! ### Operations in their order -/

theorem baseSel_im (hr : RunOk kr run) (o : Oper) (S : SF) (tm : T4 Value) (td : List Item) (H : AH) (k : T4 Value → AH → R) (k' : AFr → AH → R) (hk : ∀ tm' H', Im (k tm' H') (k' (fr S tm' td) H')) :
    Im ((baseSel o).v P G kr S tm H k) (bindV (doOp P G run (fr S tm td) o H) (fun v H' => k' ((fr S tm td).put o.dst v) H')) := by
  rw [doOp_eq, ← evK_fun]
  unfold baseSel
  cases hm : moveSel o with
  | some b =>
    simp only
    unfold moveSel at hm
    split at hm
    · rename_i t hd
      split at hm
      · rename_i x ho
        simp only [Option.some.injEq] at hm
        subst hm
        refine Im.ifb1 fun hc => ?_
        unfold opA
        simp only [ho, hc, ifb_true, hd]
        rw [evC_eq, putC_eq]
        refine (hk _ _).trans (Im.of_eq ?_)
        rw [← put_fr]
        rfl
      · rename_i x ho
        simp only [Option.some.injEq] at hm
        subst hm
        refine Im.ifb1 fun hc => ?_
        unfold opA
        simp only [ho, hc, ifb_true, hd]
        rw [evC_eq, putC_eq]
        refine (hk _ _).trans (Im.of_eq ?_)
        rw [← put_fr]
        rfl
      · cases hm
    · cases hm
  | none =>
    simp only
    have h := fun kv => opSelK_im (P := P) (G := G) hr o S tm H kv
    unfold dstK
    generalize opSelK o.op = b at h
    obtain ⟨g⟩ := b
    simp only
    cases hd : o.dst with
    | none =>
      refine (h _).trans (bindV_im fun v H' => ?_)
      exact hk _ _
    | some t =>
      refine (h _).trans (bindV_im fun v H' => ?_)
      rw [putC_eq, put_fr]
      exact hk _ _

theorem operSel_im (hr : RunOk kr run) (ops : Array Oper) (o : Oper) (S : SF) (tm : T4 Value) (td : List Item) (H : AH) (k : T4 Value → AH → R) (k' : AFr → AH → R) (hk : ∀ tm' H', Im (k tm' H') (k' (fr S tm' td) H')) :
    Im ((operSel ops o).v P G kr S tm H k) (ifb (wantedA ops (fr S tm td) o) (bindV (doOp P G run (fr S tm td) o H) (fun v H' => k' ((fr S tm td).put o.dst v) H')) (k' ((fr S tm td).put o.dst undef) H)) := by
  have h := baseSel_im (P := P) (G := G) hr o S tm td H k k' hk
  unfold operSel guardK
  generalize baseSel o = b at h
  cases hg : o.guard with
  | none =>
    have hw : wantedA ops (fr S tm td) o = true := by unfold wantedA; simp only [hg]
    rw [hw, ifb_true]
    exact h
  | some p =>
    obtain ⟨g⟩ := b
    show Im (ifb (wantT ops o S tm) (g P G kr S tm H k) (k (undK o S tm) H)) _
    rw [wantT_eq ops o S tm td]
    refine Im.ifb (fun _ => h) (fun _ => ?_)
    rw [undK_eq, put_fr]
    exact hk _ _

theorem opsK_im (hr : RunOk kr run) (ops : Array Oper) (S : SF) (td : List Item) (k : T4 Value → AH → R) (k' : AFr → AH → R) (hk : ∀ tm' H', Im (k tm' H') (k' (fr S tm' td) H')) : ∀ (l : List Oper) (tm : T4 Value) (H : AH),
    Im (opsK P G kr ops S k l tm H) (bindF (opsA P G run ops l (fr S tm td) H) k')
  | [], tm, H => hk tm H
  | o :: l, tm, H => by
    have ih := opsK_im hr ops S td k k' hk l
    have h := operSel_im (P := P) (G := G) hr ops o S tm td H (opsK P G kr ops S k l) (fun f H => bindF (opsA P G run ops l f H) k') ih
    have el : opsK P G kr ops S k (o :: l) tm H = _ := congrFun (congrFun (lrec_cons _ _ _ _) _) _
    refine (Im.of_eq el).trans ?_
    show Im (@Bx.casesOn OK (fun _ => R) (operSel ops o) (fun g => g P G kr S tm H (opsK P G kr ops S k l))) _
    generalize operSel ops o = b at h
    obtain ⟨g⟩ := b
    refine Im.trans h (Im.of_eq ?_)
    show _ = bindF (ifb (wantedA ops (fr S tm td) o) (match doOp P G run (fr S tm td) o H with
      | some (v, H') => opsA P G run ops l ((fr S tm td).put o.dst v) H'
      | none => none) (opsA P G run ops l ((fr S tm td).put o.dst undef) H)) k'
    cases wantedA ops (fr S tm td) o with
    | false => rfl
    | true =>
      simp only [ifb_true]
      cases doOp P G run (fr S tm td) o H with
      | none => rfl
      | some p => rfl

/-! ### Operations in any order -/

theorem keepK_eq (ms : List Nat) (i : Nat) (lg : Log3) : keepK ms i lg = lg.filter fun p => !waitsFor ms i p.1 := by
  induction lg with
  | nil => rfl
  | cons p l ih =>
    show ifb (waitsFor ms i p.1) (keepK ms i l) (p :: keepK ms i l) = _
    rw [ih, List.filter_cons]
    cases waitsFor ms i p.1 <;> rfl
theorem consK_eq (i : Nat) (more : Log) (lg : Log3) : consK i more lg = more.map (fun p => (i, p)) ++ lg := by
  induction more with
  | nil => rfl
  | cons p l ih =>
    show (i, p) :: consK i l lg = _
    rw [ih]; rfl
theorem stillC_eq (H : AH) (k : R) (lg : Log3) : stillC H k lg = ifb (still H lg) k none := by
  induction lg with
  | nil => rfl
  | cons p l ih =>
    obtain ⟨i, a, v⟩ := p
    refine (lrec_cons _ _ _ _).trans ?_
    show cellK a H (fun u => ifb (sameV u v) (stillC H k l) none) = _
    rw [cellK_eq, ih]
    simp only [still]
    cases H.cell a with
    | none => rfl
    | some u =>
      show ifb (sameV u v) (ifb (still H l) k none) none = ifb (sameV u v && still H l) k none
      cases sameV u v <;> rfl

theorem roLoadK_im (t : TypeId) (v : Value) (H : AH) (k : Value → Log → R) : Im (roLoadK P t v H k) (bindO (roLoad P t v H) (fun p => k p.1 p.2)) := by
  unfold roLoadK
  rw [vPtr_eq]
  split
  · rename_i a
    rw [oAddr_eq]
    cases a with
    | none => exact Im.no _
    | some p =>
      unfold roLoad
      simp only
      show Im (@Option.casesOn (Option Nat) (fun _ => Addr → AH → (Value → Log → R) → R) (aggOf P t) (fun _ _ _ => none) ((fun tt => @Option.casesOn Nat (fun _ => Addr → AH → (Value → Log → R) → R) tt (fun p H k => cellK p H (fun u => k u [(p, u)])) (fun n p H k => cellsK n p H (fun l => k (.agg ⟨l⟩) (logOf p 0 l))))) p H k) _
      cases hag : aggOf P t with
      | none => exact Im.no _
      | some q => cases q with
        | none =>
          show Im (cellK p H (fun u => k u [(p, u)])) _
          rw [cellK_eq]
          cases H.cell p <;> exact Im.refl _
        | some n =>
          show Im (cellsK n p H (fun l => k (.agg ⟨l⟩) (logOf p 0 l))) _
          rw [cellsK_eq]
          simp only
          cases cellsFrom H p n <;> exact Im.refl _
  · exact Im.no _

theorem roK_im (S : SF) (tm : T4 Value) (o : Oper) (H : AH) (k : Value → Log → R) : Im (roK P G S tm o H k) (bindO (roOp P G (evK S tm) o H) (fun p => k p.1 p.2)) := by
  have h : Im ((roSel o.op).v P G S tm o H k) (bindO (roOp P G (evK S tm) o H) (fun p => k p.1 p.2)) := by
    unfold roSel
    split
    · rename_i t a ho
      show Im (ifb (okOpd G a) (evC S tm a (fun v => roLoadK P t v H k)) none) _
      refine Im.ifb1 fun hc => ?_
      unfold roOp
      simp only [ho, hc, ifb_true]
      rw [evC_eq]
      exact roLoadK_im t _ H k
    · rename_i hno
      cases hq : quietOp o.op with
      | false => exact Im.no _
      | true =>
        simp only [ifb_true]
        cases hv : valSel o.op with
        | none =>
          simp only
          cases roOp P G (evK S tm) o H <;> exact Im.refl _
        | some b =>
          simp only
          refine (valSel_im hv rfl S tm ⟨T7.leaf, 0, 0⟩ _).trans ?_
          have hro : roOp P G (evK S tm) o H = roGen (opA P G (evK S tm) o ⟨T7.leaf, 0, 0⟩) := by
            unfold roOp
            split
            · rename_i t a ho; exact absurd ho (hno t a)
            · rw [hq, ifb_true]
          rw [hro]
          unfold valK roGen
          split
          · rename_i v H' he
            rw [he]
            show Im (ifb (Nat.beq H'.next 0) (k v []) none) (bindO (ifb (Nat.beq H'.next 0) (some (v, [])) none) _)
            cases Nat.beq H'.next 0 <;> exact Im.refl _
          · exact Im.no _
  unfold roK
  generalize roSel o.op = b at h
  obtain ⟨g⟩ := b
  exact h

theorem wantK_im (ops : Array Oper) (S : SF) (tm : T4 Value) (td : List Item) (o : Oper) {a b a' b' : R} (h1 : Im a a') (h2 : Im b b') : Im (wantK ops S tm o a b) (if wantedA ops (fr S tm td) o = true then a' else b') := by
  unfold wantK
  cases hg : o.guard with
  | none =>
    have hw : wantedA ops (fr S tm td) o = true := by unfold wantedA; simp only [hg]
    rw [hw, if_pos rfl]
    exact h1
  | some p =>
    show Im (ifb (wantT ops o S tm) a b) _
    rw [wantT_eq ops o S tm td]
    cases wantedA ops (fr S tm td) o with
    | true => rw [if_pos rfl]; exact h1
    | false => rw [if_neg (by simp)]; exact h2

theorem beqN (a b : Nat) : (a == b) = Nat.beq a b := by
  cases h : Nat.beq a b with
  | true => have := Nat.eq_of_beq_eq_true h; subst this; simp
  | false => have := Nat.ne_of_beq_eq_false h; simpa using this

theorem anyK_im (hr : RunOk kr run) (ops : Array Oper) (ms : List Nat) (S : SF) (td : List Item) (k : T4 Value → AH → R) (k' : AFr → AH → R) (hk : ∀ tm' H', Im (k tm' H') (k' (fr S tm' td) H')) : ∀ (l : List (Nat × Nat × Nat)) (lg : Log3) (tm : T4 Value) (H : AH),
    Im (anyK P G kr ops ms S k l lg tm H) (bindF (anyA P G run ops ms l lg (fr S tm td) H) k')
  | [], lg, tm, H => hk tm H
  | (q, i, j) :: l, lg, tm, H => by
    have ih := anyK_im hr ops ms S td k k' hk l
    have el : anyK P G kr ops ms S k ((q, i, j) :: l) lg tm H = _ := congrFun (congrFun (congrFun (lrec_cons _ _ _ _) _) _) _
    refine (Im.of_eq el).trans ?_
    show Im (@Bx.casesOn AOp (fun _ => R) (anySel ops ms (q, i, j)) (fun g => g P G kr S lg tm H (anyK P G kr ops ms S k l) k)) _
    unfold anySel anyA
    simp only
    cases ops[i]? with
    | none => exact Im.no _
    | some o =>
      simp only [beqN]
      cases hq2 : Nat.beq q 2 with
      | true =>
        rw [ifb_true, if_pos rfl]
        show Im (twoK ops ms i j o P G kr S lg tm H (anyK P G kr ops ms S k l) k) _
        unfold twoK
        rw [evK_fun S tm td]
        cases ops[j]? with
        | none => exact Im.no _
        | some o' =>
          simp only
          split
          · rename_i t a x t' b y e1 e2
            rw [e1, e2]
            simp only [beqN]
            split
            · rename_i hcond
              cases storeAll H a x.cells.toList with
              | none => exact Im.no _
              | some H1 =>
                simp only
                cases storeAll H1 b y.cells.toList with
                | none => exact Im.no _
                | some H2 => exact hk tm H2
            · exact Im.no _
          · exact Im.no _
      | false =>
        rw [ifb_false, if_neg (by simp)]
        cases hq1 : Nat.beq q 1 with
        | true =>
          rw [ifb_true]
          show Im (quietK ops i o P G kr S lg tm H (anyK P G kr ops ms S k l) k) _
          unfold quietK
          simp only [if_true]
          refine (wantK_im ops S tm td o (a' := bindO (roOp P G (evK S tm) o H) (fun p => bindF (anyA P G run ops ms l (p.2.map (fun q => (i, q)) ++ lg) ((fr S tm td).put o.dst p.1) H) k'))
            (b' := bindF (anyA P G run ops ms l lg ((fr S tm td).put o.dst undef) H) k') ?_ ?_).trans (Im.of_eq ?_)
          · refine (roK_im S tm o H _).trans (bindO_im fun p => ?_)
            rw [dstC_eq, consK_eq, put_fr]
            exact ih _ _ _
          · rw [dstT_eq, put_fr]
            exact ih _ _ _
          · rw [evK_fun S tm td]
            cases wantedA ops (fr S tm td) o with
            | false => rfl
            | true =>
              simp only [if_true]
              cases roOp P G (fr S tm td).ev o H with
              | none => rfl
              | some p => rfl
        | false =>
          rw [ifb_false]
          show Im (actK ops ms i o P G kr S lg tm H (anyK P G kr ops ms S k l) k) _
          unfold actK
          simp only [Bool.false_eq_true, if_false]
          refine (wantK_im ops S tm td o (a' := bindV (doOp P G run (fr S tm td) o H) (fun v H' => ifb (still H' (lg.filter fun p => !waitsFor ms i p.1)) (bindF (anyA P G run ops ms l (lg.filter fun p => !waitsFor ms i p.1) ((fr S tm td).put o.dst v) H') k') none))
            (b' := bindF (anyA P G run ops ms l (lg.filter fun p => !waitsFor ms i p.1) ((fr S tm td).put o.dst undef) H) k') ?_ ?_).trans (Im.of_eq ?_)
          · have h := fun kv => opSelK_im (P := P) (G := G) hr o S tm H kv
            generalize opSelK o.op = b at h
            obtain ⟨g⟩ := b
            rw [doOp_eq, ← evK_fun]
            refine Im.trans (h _) (bindV_im fun v H' => ?_)
            rw [stillC_eq, keepK_eq, dstC_eq, put_fr]
            exact Im.ifb (fun _ => ih _ _ _) (fun _ => Im.refl _)
          · rw [keepK_eq, dstT_eq, put_fr]
            exact ih _ _ _
          · cases wantedA ops (fr S tm td) o with
            | false => rfl
            | true =>
              simp only [if_true]
              cases doOp P G run (fr S tm td) o H with
              | none => rfl
              | some p =>
                obtain ⟨v, H'⟩ := p
                show ifb (still H' _) _ none = bindF (if still H' _ = true then _ else none) k'
                cases still H' (lg.filter fun p => !waitsFor ms i p.1) <;> rfl

end Go.Eng

namespace Go.Eng
open Go.RowKit

variable {P : Program} {G : Nat} {kr : RunK} {run : Run}

/-- What goes on behind a run. -/
abbrev KA (k : KE) : Option Code → AFr → AH → R := fun j f H' => k j (sf f) f.tm H'

theorem exitK_eq (id : Nat) : ∀ rest : List Item, exitK id rest = exitTo id rest
  | [] => rfl
  | x :: rest => by
    show ifb (isBlk id x) (some rest) (exitK id rest) = _
    rw [exitK_eq id rest]
    cases x <;> first | rfl | skip
    rename_i j
    show ifb (Nat.beq j id) (some rest) (exitTo id rest) = if j == id then some rest else exitTo id rest
    rw [beqN]
    cases Nat.beq j id <;> rfl

theorem enterLoopK_im (hr : RunOk kr run) (S : SF) (tm : T4 Value) (td : List Item) (g : FuncId) (first captured : List Value) (params : Array Tmp) (assign body : Code) (db : Nat) (marks : List Nat) (rest : List Item) (H : AH) (k : KE) :
    Im (enterLoopK P kr S tm g first captured params assign body db marks rest H k) (bindE (enterLoopA P run (fr S tm td) g first captured params assign body db marks rest H) (KA k)) := by
  unfold enterLoopK enterLoopA
  cases Nat.blt H.next most with
  | false => exact Im.no _
  | true =>
    rw [ifb_true, ifb_true]
    refine (callK_im hr _ _ _ _).trans ?_
    have et : (List.range S.sz).map (tmpK S tm) = (List.range (fr S tm td).sz).map (fr S tm td).tmp := rfl
    rw [et]
    show Im (bindV (callA P run g (first ++ [.func (.yield H.next) #[] #[]] ++ captured) (H.push (.loop { state := .ready, pending := none, fn := (fr S tm td).fn, tmps := ⟨(List.range (fr S tm td).sz).map (fr S tm td).tmp⟩, params, assign, body, defers := db }))) _) _
    cases callA P run g (first ++ [.func (.yield H.next) #[] #[]] ++ captured) (H.push (.loop { state := .ready, pending := none, fn := (fr S tm td).fn, tmps := ⟨(List.range (fr S tm td).sz).map (fr S tm td).tmp⟩, params, assign, body, defers := db })) with
    | none => exact Im.no _
    | some p =>
      obtain ⟨v, H'⟩ := p
      exact hr _ _ _ _ _

theorem rangeK_im (hr : RunOk kr run) (fv : Operand) (params : Array Tmp) (assign body : Code) (rest : List Item) (S : SF) (tm : T4 Value) (td : List Item) (H : AH) (k : KE) :
    Im (rangeK fv params assign body P G kr rest S tm H k) (bindE (rangeA P G run fv params assign body rest (fr S tm td) H) (KA k)) := by
  unfold rangeK rangeA
  refine Im.ifb1 fun hc => ?_
  rw [hc, ifb_true, evK_eq S tm td]
  split
  · rename_i g first captured he
    rw [he]
    refine Im.ifb1 fun hg => ?_
    simp only [hg, ifb_true]
    show Im (match S.rnd with
      | some l => match H.get l with
        | some (.loop r) => enterLoopK P kr S tm g first captured params assign body r.defers S.marks rest H k
        | _ => none
      | none => ifb (Nat.blt H.next most) (enterLoopK P kr S tm g first captured params assign body H.next (H.next :: S.marks) rest (H.push (.deferred (some []))) k) none) (bindE (match S.rnd with
      | some l => match H.get l with
        | some (.loop r) => enterLoopA P run (fr S tm td) g first captured params assign body r.defers S.marks rest H
        | _ => none
      | none => ifb (Nat.blt H.next most) (enterLoopA P run (fr S tm td) g first captured params assign body H.next (H.next :: S.marks) rest (H.push (.deferred (some [])))) none) (KA k))
    cases S.rnd with
    | some l =>
      simp only
      cases H.get l with
      | none => exact Im.no _
      | some ob =>
        cases ob <;> first | exact Im.no _ | exact enterLoopK_im hr S tm td _ _ _ _ _ _ _ _ _ _ _
    | none =>
      simp only
      refine Im.ifb1 fun hm => ?_
      rw [hm, ifb_true]
      exact enterLoopK_im hr S tm td _ _ _ _ _ _ _ _ _ _ _
  · exact Im.no _

theorem codeSel_im (hr : RunOk kr run) (c : Code) (rest : List Item) (S : SF) (tm : T4 Value) (td : List Item) (H : AH) (k : KE) :
    Im ((codeSel c).v P G kr rest S tm H k) (bindE (codeA P G run c rest (fr S tm td) H) (KA k)) := by
  cases c with
  | skip => exact hr S tm rest H k
  | ret => exact Im.refl _
  | seq a b => exact hr S tm _ H k
  | cond c a b =>
    show Im (ifb (okOpd G c) (evC S tm c (fun c => vBool c (fun t => @Bool.casesOn (fun _ => R) t (kr S tm (.code b :: rest) H k) (kr S tm (.code a :: rest) H k)) none)) none) _
    refine Im.ifb1 fun hc => ?_
    simp only [codeA, hc, ifb_true]
    rw [evC_eq, vBool_eq, evK_eq S tm td]
    unfold condA
    split
    · rename_i t hq
      rw [hq]
      simp only
      cases t
      · exact hr S tm _ H k
      · exact hr S tm _ H k
    · exact Im.no _
  | block id c => exact hr S tm _ H k
  | loop c => exact hr S tm _ H k
  | exit id =>
    show Im (@Option.casesOn (List Item) (fun _ => R) (exitK id rest) (k (some (.exit id)) S tm H) (fun rest' => kr S tm rest' H k)) _
    simp only [codeA]
    unfold exitA
    rw [exitK_eq]
    cases exitTo id rest with
    | none => exact Im.refl _
    | some rest' => exact hr S tm rest' H k
  | region id ops draw =>
    cases draw with
    | false =>
      show Im (opsK P G kr ops S (fun tm' H' => kr S tm' rest H' k) ops.toList tm H) (bindE (opsR P G run ops rest (fr S tm td) H) (KA k))
      refine (opsK_im hr ops S td _ (fun f' H' => bindE (run (f'.goto rest) H') (KA k)) (fun tm' H' => hr S tm' rest H' k) ops.toList tm H).trans (Im.of_eq ?_)
      unfold opsR
      cases opsA P G run ops ops.toList (fr S tm td) H with
      | none => rfl
      | some p => rfl
    | true =>
      show Im ((drawK ops (masks ops.toList [])).v P G kr rest S tm H k) (bindE (anyR2 P G run ops (masks ops.toList []) rest (fr S tm td) H) (KA k))
      unfold drawK anyR2
      cases planOf ops (masks ops.toList []) with
      | none => exact Im.no _
      | some l =>
        show Im (anyK P G kr ops (masks ops.toList []) S (fun tm' H' => kr S tm' rest H' k) l [] tm H) _
        refine (anyK_im hr ops _ S td _ (fun f' H' => bindE (run (f'.goto rest) H') (KA k)) (fun tm' H' => hr S tm' rest H' k) l [] tm H).trans (Im.of_eq ?_)
        simp only
        cases anyA P G run ops (masks ops.toList []) l [] (fr S tm td) H with
        | none => rfl
        | some p => rfl
  | rangeFunc fv params assign body => exact rangeK_im hr fv params assign body rest S tm td H k
  | _ => exact Im.no _

theorem itemSel_im (hr : RunOk kr run) (x : Item) (rest : List Item) (S : SF) (tm : T4 Value) (H : AH) (k : KE) :
    Im ((itemSel x).v P G kr rest S tm H k) (bindE (stepF P G run (fr S tm (x :: rest)) H) (KA k)) := by
  cases x with
  | code c => exact codeSel_im hr c rest S tm (.code c :: rest) H k
  | inBlock id => exact hr S tm rest H k
  | inLoop c => exact hr S tm _ H k
  | beginRound =>
    show Im (beginK P G kr rest S tm H k) (bindE (beginA run rest (fr S tm (.beginRound :: rest)) H) (KA k))
    unfold beginK beginA
    show Im _ (bindE (match S.rnd with
      | some l => match H.get l with
        | some (.loop r) => match r.state with
          | .ready => ifb (Nat.ble H.lo l) (run ((fr S tm (.beginRound :: rest)).goto rest) (H.set l (.loop { r with state := .busy }))) none
          | _ => none
        | _ => none
      | none => none) (KA k))
    cases S.rnd with
    | none => exact Im.no _
    | some l =>
      simp only
      cases H.get l with
      | none => exact Im.no _
      | some ob =>
        cases ob <;> first | exact Im.no _ | skip
        rename_i r
        simp only
        cases r.state <;> first | exact Im.no _ | skip
        simp only
        refine Im.ifb1 fun hm => ?_
        rw [hm, ifb_true]
        exact hr S tm rest _ k
  | endRangeFunc l =>
    show Im (endK l P G kr rest S tm H k) (bindE (endA run l rest (fr S tm (.endRangeFunc l :: rest)) H) (KA k))
    unfold endK endA
    cases H.get l with
    | none => exact Im.no _
    | some ob =>
      cases ob <;> first | exact Im.no _ | skip
      rename_i r
      simp only
      cases r.state <;> first | exact Im.no _ | skip
      all_goals
        simp only
        refine Im.ifb1 fun hm => ?_
        rw [hm, ifb_true]
        exact hr S tm _ _ k
  | _ => exact Im.no _

theorem stepK_ok (hr : RunOk kr run) : RunOk (stepK P G kr) (stepF P G run) := by
  intro S tm td H k
  cases td with
  | nil => exact Im.refl _
  | cons x rest =>
    have h := itemSel_im (P := P) (G := G) hr x rest S tm H k
    show Im (@Bx.casesOn CK (fun _ => R) (itemSel x) (fun g => g P G kr rest S tm H k)) _
    generalize itemSel x = b at h
    obtain ⟨g⟩ := b
    exact h

theorem runK_ok (n : Nat) : RunOk (runK P G n) (runF P G n) := by
  induction n with
  | zero => intro S tm td H k; exact Im.no _
  | succ n ih => exact stepK_ok ih

/-- What the kernel's form answers the executor answers. -/
theorem callT_im {n : Nat} {laid : List (Nat × Obj)} {g : FuncId} {args : List Value} {v : Value} (h : callT P G n laid g args = some v) : (callF P G n laid g args).map (·.1) = some v := by
  have := callK_im (P := P) (runK_ok (P := P) (G := G) n) g args ⟨laidH laid, G, G⟩ (fun v _ => some v) v h
  unfold callF
  cases hc : callA P (runF P G n) g args ⟨laidH laid, G, G⟩ with
  | none => rw [hc] at this; cases this
  | some p =>
    rw [hc] at this
    exact this

/-- A closed run, reckoned by the kernel, is the model's. -/
theorem callT_flat (hm : P.follows .mixedOrders = true) {n : Nat} {laid : List (Nat × Obj)} {g : FuncId} {args : List Value} {v : Value} (hG : G ≤ most) (h : callT P G n laid g args = some v) (hargs : flat.go args = true) (hv : flat v = true) {w : World} (hw : LaidAt P G laid w) :
    Calls P g ⟨args⟩ w fun e w' => e = .returned v ∧ Below w.heap.size w w' := callF_flat hm hG (callT_im h) hargs hv hw

end Go.Eng
