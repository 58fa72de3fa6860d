/-
  Closed runs reckoned by the kernel, part 2: an executor of programs over a memory of numbers.
-/
import Derived.Test.YtkmmnocooibljaaGreatDoorE1
import Derived.AtR
set_option linter.all false

namespace Go.Eng
open Go.RowKit

/-- A frame of the run that is reckoned. -/
structure AFr where
  fn : FuncId
  sz : Nat
  tm : T4 Value
  todo : List Item
  marks : List Nat
  rnd : Option Nat

def AFr.tmp (f : AFr) (t : Nat) : Value := @AFr.casesOn (fun _ => Value) f (fun _ sz tm _ _ _ => ifb (Nat.blt t sz) (T4.get tm t) undef)
def AFr.put (f : AFr) (d : Option Tmp) (v : Value) : AFr :=
  @Option.casesOn Tmp (fun _ => AFr) d f (fun t => @AFr.casesOn (fun _ => AFr) f (fun fn sz tm todo marks rnd => ifb (Nat.blt t sz) ⟨fn, sz, T4.set tm t v, todo, marks, rnd⟩ ⟨fn, sz, tm, todo, marks, rnd⟩))
def AFr.goto (f : AFr) (k : List Item) : AFr := @AFr.casesOn (fun _ => AFr) f (fun fn sz tm _ marks rnd => ⟨fn, sz, tm, k, marks, rnd⟩)

def AFr.ev (f : AFr) : Operand → Value
  | .tmp t => f.tmp t
  | .const v => v
  | .global g => .pointer (some ⟨g, 0, none⟩)
  | .func g => .func (.func g) #[] #[]

def okOpd (G : Nat) : Operand → Bool
  | .const v => flat v
  | .global g => Nat.blt g G
  | _ => true

/-- A reckoning that asks no memory. -/
def pr (P : Program) {α : Type} : Sem α → Option α
  | .pure a => some a
  | .program k => pr P (k P)
  | .mark _ k => pr P k
  | _ => none

def flatNext : Next → Bool
  | .value v => flat v
  | .skip => true
  | .enter _ ⟨xs⟩ => flat.go xs
  | _ => false

def zf (P : Program) (t : TypeId) : Bool :=
  match P.info? t with
  | some i => match i.zero with
    | some v => flat v
    | none => false
  | none => false

/-- Which operations are met by the law for those that ask memory. -/
def tame (P : Program) : Op → Bool
  | .field .. => true
  | .makeFunc fn _ _ => match fn with
    | .func _ => true
    | _ => false
  | .build t _ => zf P t
  | .makeSlice t _ _ => match P.underlying t with
    | some (.slice e) => zf P e
    | _ => false
  | .makeMap .. => true
  | _ => false

def addrs : Op → Bool
  | .makeMap .. | .makeSlice .. => true
  | _ => false

/-- So many cells, from the first on. -/
def takeN : Nat → List Value → Option (List Value)
  | 0, _ => some []
  | n + 1, v :: l => match takeN n l with
    | some m => some (v :: m)
    | none => none
  | _ + 1, [] => none

def dropN : Nat → List Value → List Value
  | 0, l => l
  | n + 1, _ :: l => dropN n l
  | _ + 1, [] => []

/-- So many cells at a place. -/
def cellsFrom (H : AH) (a : Addr) (n : Nat) : Option (List Value) :=
  match n with
  | 0 => some []
  | _ + 1 => match a.spot with
    | some _ => none
    | none => match H.get a.block with
      | some (.cells ⟨c⟩ _ _) => takeN n (dropN a.off c)
      | _ => none

/-- Other cells in the place of the first ones. -/
def overN : List Value → List Value → Option (List Value)
  | [], l => some l
  | v :: vs, _ :: l => ifb (one v) (match overN vs l with
    | some m => some (v :: m)
    | none => none) none
  | _ :: _, [] => none

def overAt : Nat → List Value → List Value → Option (List Value)
  | 0, vs, l => overN vs l
  | n + 1, vs, x :: l => match overAt n vs l with
    | some m => some (x :: m)
    | none => none
  | _ + 1, _, [] => none

def noFrozen (fz : Nat × Nat) (a n : Nat) : Bool := ifb (Nat.ble fz.2 fz.1) true (ifb (Nat.ble (a + n) fz.1) true (Nat.ble fz.2 a))

def storeAll (H : AH) (a : Addr) (vs : List Value) : Option AH :=
  match vs with
  | [] => some H
  | _ :: _ => match a.spot with
    | some _ => none
    | none => match H.get a.block with
      | some (.cells ⟨c⟩ e fz) => ifb (ifb (Nat.ble H.lo a.block) (noFrozen fz a.off vs.length) false) (match overAt a.off vs c with
        | some c' => some (H.set a.block (.cells ⟨c'⟩ e fz))
        | none => none) none
      | _ => none

def bytesOf (s : ByteArray) : List Value := s.data.toList.map fun b => .int .u8 b.toNat

/-- The cells of what is appended. -/
def newCells (size : Nat) (x : Value) (H : AH) : Option (List Value) :=
  match x with
  | .slice a n c => match a with
    | none => ifb (Nat.beq n 0) (some []) none
    | some b => ifb (ifb (Nat.beq n 0) false (Nat.beq c 0)) none (cellsFrom H b (Nat.mul n size))
  | .string s => ifb (Nat.beq size 1) (some (bytesOf s)) none
  | _ => none

/-- The zero value of a type has as many cells as its variables. -/
def zfit (inf : TypeInfo) : Bool :=
  match inf.zero with
  | some z => Nat.beq z.cells.size inf.size
  | none => false

def mayGrow (P : Program) (e : TypeId) (inf : TypeInfo) (need : Nat) (H : AH) : Bool :=
  ifb (Nat.ble (Nat.mul need inf.bytes) 1099511627776) (ifb (zf P e) (ifb (ifb (Nat.blt 0 inf.bytes) (zfit inf) false) (Nat.blt H.next most) false) false) false

def allOne : List Value → Bool
  | [] => true
  | v :: l => ifb (one v) (allOne l) false

/-- A row that is new. -/
def grow0 (P : Program) (e : TypeId) (inf : TypeInfo) (need : Nat) (new : List Value) (H : AH) : Option (Value × AH) :=
  ifb (mayGrow P e inf need H) (some (.slice (some ⟨H.next, 0, none⟩) need need, H.push (.cells ⟨new⟩ e (1, 1)))) none

/-- A row that is new, or the old one: the old one is known no more. -/
def growA (P : Program) (e : TypeId) (inf : TypeInfo) (a : Addr) (len cap need : Nat) (new : List Value) (H : AH) : Option (Value × AH) :=
  match H.get a.block with
  | some (.cells c ee fz) => match cellsFrom H a (Nat.mul len inf.size) with
    | some old => ifb (ifb (mayGrow P e inf need H) (ifb (Nat.beq ee e) (ifb (Nat.beq (a.off + Nat.mul cap inf.size) c.size) (ifb (Nat.beq fz.1 fz.2) (ifb (allOne new) (Nat.ble H.lo a.block) false) false) false) false) false)
      (some (.slice (some ⟨H.next, 0, none⟩) need need, (H.set a.block gone).push (.cells ⟨old ++ new⟩ e (1, 1)))) none
    | none => none
  | _ => none

def appendB (P : Program) (e : TypeId) (inf : TypeInfo) (base : Option Addr) (len cap need : Nat) (new : List Value) (H : AH) : Option (Value × AH) :=
  match base with
  | none => ifb (Nat.ble need cap) (ifb (new.isEmpty) (some (.slice none need cap, H)) none) (ifb (Nat.beq len 0) (grow0 P e inf need new H) none)
  | some a => match a.spot with
    | some q => ifb (Nat.beq q 0) (ifb (Nat.beq len 0) (ifb (Nat.beq need 0) (some (.slice (some a) 0 cap, H)) (ifb (Nat.beq cap 0) (grow0 P e inf need new H) none)) none) none
    | none => ifb (Nat.beq cap 0) none (ifb (Nat.ble need cap)
      (match storeAll H (a.add (Nat.mul len inf.size)) new with
      | some H' => some (.slice (some a) need cap, H')
      | none => none) (growA P e inf a len cap need new H))

def notInt : TypeDesc → Bool
  | .int _ => false
  | _ => true

def appendA (P : Program) (st xt : TypeId) (s x : Value) (H : AH) : Option (Value × AH) :=
  match P.underlying st with
  | some (.slice e) => match P.underlying xt with
    | some xd => match s with
      | .slice base len cap => match P.info? e with
        | some inf => ifb (ifb (Nat.beq inf.size 0) false (notInt xd)) (match newCells inf.size x H with
          | some new => appendB P e inf base len cap (len + Nat.div new.length inf.size) new H
          | none => none) none
        | none => none
      | _ => none
    | none => none
  | _ => none

def byteList : List Value → Option (List UInt8)
  | [] => some []
  | .int .u8 n :: l => match byteList l with
    | some m => some (UInt8.ofNat n.toNat :: m)
    | none => none
  | _ => none

/-- A text of the bytes at an address. -/
def stringA (P : Program) (pt : TypeId) (p n : Value) (H : AH) : Option (Value × AH) :=
  match n with
  | .int _ (.ofNat n) => match p with
    | .pointer none => if n = 0 then some (.string .empty, H) else none
    | .pointer (some a) => if n = 0 then some (.string .empty, H) else
      match P.underlying pt, H.get a.block, cellsFrom H a n with
      | some (.pointer u), some (.cells c e fz), some vs => match P.underlying u with
        | some (.int .u8) => match byteList vs with
          | some bs => if u == e && fz.1 == fz.2 && a.spot == none && decide (H.lo ≤ a.block) && decide (n < 9223372036854775808) && esz P e == 1 then some (.string ⟨bs.toArray⟩, H.set a.block (.cells c e (a.off, a.off + n))) else none
          | none => none
        | _ => none
      | _, _, _ => none
    | _ => none
  | _ => none

/-- []byte(s). -/
def bytesA (e : TypeId) (s : ByteArray) (H : AH) : Option (Value × AH) :=
  if H.next < most && s.size < 2 ^ 40 then some (.slice (some ⟨H.next, 0, none⟩) s.size s.size, H.push (.cells (s.data.map fun b => .int .u8 b.toNat) e (s.size, s.size + 1))) else none

def isBytes (P : Program) (src dst : TypeId) : Option TypeId :=
  match P.underlying src, P.underlying dst with
  | some .string, some (.slice e) => match P.underlying e with
    | some (.int .u8) => ifb (Nat.beq (esz P e) 1) (some e) none
    | _ => none
  | _, _ => none

/-- A block whose cells no string shares. -/
def open' (H : AH) (i : Nat) : Bool :=
  match H.get i with
  | some (.cells _ _ fz) => fz.1 == fz.2
  | _ => false

def zeroOf (P : Program) (t : TypeId) : Option Value :=
  match P.info? t with
  | some i => i.zero
  | none => none

def entriesOf (m : Value) (H : AH) : Option (List MapEntry) :=
  match m with
  | .map none => some []
  | .map (some r) => match H.get r with
    | some (.map es _) => some es.toList
    | _ => none
  | _ => none

def allOk (G : Nat) : List Operand → Bool
  | [] => true
  | x :: l => ifb (okOpd G x) (allOk G l) false

def allFlat (e : Operand → Value) : List Operand → Bool
  | [] => true
  | x :: l => ifb (flat (e x)) (allFlat e l) false

/-- By the law for what asks no memory, or by the one for what does. -/
def genA (P : Program) (e : Operand → Value) (o : Oper) (H : AH) : Option (Next × AH) :=
  ifb (ifb (addrs o.op) false (allFlat e o.op.operands.toList))
    (match pr P (execOp e o) with
    | some n => ifb (flatNext n) (some (n, H)) none
    | none => ifb (tame P o.op) (ar P (execOp e o) H) none)
    (ifb (tame P o.op) (ar P (execOp e o) H) none)

def callable (P : Program) (g : FuncId) : Bool :=
  match P.funcs[g]? with
  | some fn => fn.body.isSome && !(fn.name == "runtime.NumGoroutine")
  | none => false

/-! ### The operations that come most often, without the model's own words -/

def iEq (x y : Int) : Bool :=
  match x, y with
  | .ofNat a, .ofNat b => Nat.beq a b
  | .negSucc a, .negSucc b => Nat.beq a b
  | _, _ => false
def iLt (x y : Int) : Bool :=
  match x, y with
  | .ofNat a, .ofNat b => Nat.blt a b
  | .negSucc a, .negSucc b => Nat.blt b a
  | .negSucc _, .ofNat _ => true
  | .ofNat _, .negSucc _ => false
def lim : IntKind → Nat
  | .i8 => 128
  | .i16 => 32768
  | .i32 => 2147483648
  | .i64 => 9223372036854775808
  | .u8 => 256
  | .u16 => 65536
  | .u32 => 4294967296
  | .u64 => 18446744073709551616
def fitK (k : IntKind) (n : Int) : Int :=
  match n with
  | .ofNat m => ifb (Nat.blt m (lim k)) (.ofNat m) (k.wrap n)
  | .negSucc _ => k.wrap n
def kEq (k k' : IntKind) : Bool := decide (k = k')

def binI (op : BinOp) (k : IntKind) (a b : Int) : Option Value :=
  match op with
  | .add => some (.int k (fitK k (Int.add a b)))
  | .sub => some (.int k (fitK k (Int.sub a b)))
  | .eql => some (.bool (iEq a b))
  | .neq => some (.bool (!iEq a b))
  | .lss => some (.bool (iLt a b))
  | .leq => some (.bool (!iLt b a))
  | .gtr => some (.bool (iLt b a))
  | .geq => some (.bool (!iLt a b))
  | _ => none

def bEq : List UInt8 → List UInt8 → Bool
  | [], [] => true
  | x :: l, y :: m => ifb (Nat.beq x.toNat y.toNat) (bEq l m) false
  | _, _ => false

def binS (op : BinOp) (a b : ByteArray) : Option Value :=
  match op with
  | .eql => some (.bool (bEq a.data.toList b.data.toList))
  | .neq => some (.bool (!bEq a.data.toList b.data.toList))
  | _ => none

/-- How many cells a variable of a type has, and one more; none if the type is none. -/
def sz1 (P : Program) (t : TypeId) : Nat :=
  match P.info? t with
  | some i => i.size + 1
  | none => 0

/-- Are two addresses the same? -/
def ptrEq (H : AH) (x y : Value) : Option Bool :=
  match x with
  | .pointer none => match y with
    | .pointer b => some b.isNone
    | _ => none
  | .pointer (some a) => match y with
    | .pointer none => some false
    | .pointer (some b) => if a.spot == none && b.spot == none && open' H a.block && open' H b.block then some (a.block == b.block && a.off == b.off) else none
    | _ => none
  | _ => none

/-- Are two keys of a simple kind the same? -/
def keyEq1 (P : Program) (H : AH) (t : TypeId) (k q : Value) : Option Bool :=
  match P.underlying t with
  | some .string => match k, q with
    | .string a, .string b => some (bEq a.data.toList b.data.toList)
    | _, _ => none
  | some (.int _) => match k, q with
    | .int i a, .int j b => ifb (kEq i j) (some (iEq a b)) none
    | _, _ => none
  | some (.pointer el) => ifb (Nat.blt 1 (sz1 P el)) (ptrEq H k q) none
  | _ => none

/-- A part of one cell. -/
def fieldsEq (P : Program) (H : AH) (xs ys : List Value) : List Field → Option Bool
  | [] => some true
  | f :: l => match xs[f.offset]? with
    | some p => match ys[f.offset]? with
      | some q => match keyEq1 P H f.type p q with
        | some b => ifb (decide (f.name = "_")) none (ifb b (fieldsEq P H xs ys l) (some false))
        | none => none
      | none => none
    | none => none

/-- Are two keys the same? -/
def keyEq (P : Program) (H : AH) (kt : TypeId) (k q : Value) : Option Bool :=
  match P.underlying kt with
  | some (.struct fs) => match k with
    | .agg ⟨xs⟩ => match q with
      | .agg ⟨ys⟩ => ifb (P.stoodInHeld kt) none (fieldsEq P H xs ys fs.toList)
      | _ => none
    | _ => none
  | _ => keyEq1 P H kt k q

def simple (P : Program) (t : TypeId) : Bool :=
  match P.underlying t with
  | some .string => true
  | some (.int _) => true
  | some (.pointer _) => true
  | _ => false

def fieldsOk (P : Program) (xs : List Value) : List Field → Bool
  | [] => true
  | f :: l => ifb (ifb (simple P f.type) xs[f.offset]?.isSome false) (fieldsOk P xs l) false

/-- May it be a key? -/
def keyOk (P : Program) (kt : TypeId) (k : Value) : Bool :=
  match P.underlying kt with
  | some (.struct fs) => match k with
    | .agg ⟨xs⟩ => fieldsOk P xs fs.toList
    | _ => false
  | _ => simple P kt

def findA (P : Program) (H : AH) (kt : TypeId) (k : Value) : List MapEntry → Nat → Option (Option (Nat × Value))
  | [], _ => some none
  | e :: l, i => match keyEq P H kt k e.key with
    | some true => some (some (i, e.val))
    | some false => findA P H kt k l (i + 1)
    | none => none

def lookupA (P : Program) (t : TypeId) (m k : Value) (ok : Bool) (H : AH) : Option Value :=
  match P.underlying t with
  | some (.map kt et) => match entriesOf m H with
    | some es => ifb (keyOk P kt k) (match findA P H kt k es 0 with
      | some (some (_, v)) => some (ifb ok (.tuple #[v, .bool true]) v)
      | some none => ifb (zf P et) (match zeroOf P et with
        | some v => some (ifb ok (.tuple #[v, .bool false]) v)
        | none => none) none
      | none => none) none
    | none => none
  | _ => none

/-- Two cells with the same bits. -/
def cellSame (x y : Value) : Bool :=
  match x with
  | .pointer (some a) => match y with
    | .pointer (some b) => ifb (Nat.beq a.block b.block) (Nat.beq a.off b.off) false
    | _ => false
  | _ => ifb (ifb (flat x) (flat y) false) (Instr.sameBits 9999 x y) false

def cellsSame : List Value → List Value → Bool
  | [], [] => true
  | x :: l, y :: m => ifb (cellSame x y) (cellsSame l m) false
  | _, _ => false

/-- The key that is there has the bits of the new one. -/
def stays (x y : Value) : Bool :=
  match x with
  | .agg ⟨xs⟩ => match y with
    | .agg ⟨ys⟩ => cellsSame xs ys
    | _ => false
  | .pointer (some a) => match y with
    | .pointer (some b) => ifb (Nat.beq a.block b.block) (Nat.beq a.off b.off) false
    | _ => false
  | _ => ifb (ifb (flat x) (flat y) false) (Instr.sameBits 10000 x y) false

def oldKey (es : List MapEntry) (i : Nat) (k : Value) : Value :=
  match es[i]? with
  | some e => e.key
  | none => k

def updateA (P : Program) (t : TypeId) (m k v : Value) (H : AH) : Option AH :=
  match P.underlying t with
  | some (.map kt _) => match m with
    | .map (some r) => match H.get r with
      | some (.map es n) => ifb (ifb (Nat.ble H.lo r) (keyOk P kt k) false) (match findA P H kt k es.toList 0 with
        | some (some (i, _)) => ifb (stays (oldKey es.toList i k) k) (some (H.set r (.map (es.modify i fun e => { e with key := k, val := v }) n))) none
        | some none => some (H.set r (.map (es.push { key := k, val := v, born := n }) (n + 1)))
        | none => none) none
      | _ => none
    | _ => none
  | _ => none

/-- Held against nil. -/
/- are two addresses one -/
def sameA (a b : Addr) : Bool := ifb (Nat.beq a.block b.block) (ifb (Nat.beq a.off b.off) (ifb (a.spot.isNone) (b.spot.isNone) false) false) false
def nilEq (x y : Value) : Option Bool :=
  match x with
  | .pointer none => match y with
    | .pointer b => some b.isNone
    | _ => none
  | .pointer (some a) => match y with
    | .pointer none => some false
    | .pointer (some b) => ifb (sameA a b) (some true) none
    | _ => none
  | .slice none _ _ => match y with
    | .slice b _ _ => some b.isNone
    | _ => none
  | .slice (some _) _ _ => match y with
    | .slice none _ _ => some false
    | _ => none
  | .map none => match y with
    | .map b => some b.isNone
    | _ => none
  | .map (some _) => match y with
    | .map none => some false
    | _ => none
  | _ => none

def binN (op : BinOp) (b : Option Bool) : Option Value :=
  match b with
  | some t => match op with
    | .eql => some (.bool t)
    | .neq => some (.bool (!t))
    | _ => none
  | none => none

def bin2 (op : BinOp) (x y : Value) : Option Value :=
  match x with
  | .int k a => match y with
    | .int k' b => ifb (kEq k k') (binI op k a b) none
    | _ => none
  | .string a => match y with
    | .string b => binS op a b
    | _ => none
  | _ => none

/-- Of which kind a type is that may be held against nil. -/
def nilKind (P : Program) (t : TypeId) : Nat :=
  match P.underlying t with
  | some (.pointer el) => match P.info? el with
    | some _ => 1
    | none => 0
  | some (.slice _) => 2
  | some (.map _ _) => 3
  | _ => 0
def valKind : Value → Nat
  | .pointer _ => 1
  | .slice .. => 2
  | .map _ => 3
  | _ => 9

def notSel : Op → Bool
  | .select .. => false
  | _ => true

def genOk (P : Program) (G : Nat) (e : Operand → Value) (o : Oper) (H : AH) : Option (Next × AH) := ifb (ifb (notSel o.op) (allOk G o.op.operands.toList) false) (genA P e o H) none

def opLook (r : Option Value) (H : AH) : Option (Next × AH) :=
  match r with
  | some v => some (.value v, H)
  | none => none
def opBin (P : Program) (G : Nat) (e : Operand → Value) (o : Oper) (H : AH) (op : BinOp) (t : TypeId) (x y : Operand) : Option (Next × AH) :=
  match bin2 op (e x) (e y) with
  | some v => some (.value v, H)
  | none => ifb (ifb (flat (e x)) (flat (e y)) false) (genOk P G e o H) (ifb (Nat.beq (nilKind P t) (valKind (e x))) (opLook (binN op (nilEq (e x) (e y))) H) none)

/-- How many cells a variable of a type has, if it is a struct or an array. -/
def aggOf (P : Program) (t : TypeId) : Option (Option Nat) :=
  match P.underlying t with
  | some (.struct _) => (P.info? t).map fun i => some i.size
  | some (.array _ _) => (P.info? t).map fun i => some i.size
  | some _ => some none
  | none => none

def loadA (P : Program) (t : TypeId) (p : Addr) (H : AH) : Option Value :=
  match aggOf P t with
  | some (some n) => match cellsFrom H p n with
    | some l => some (.agg ⟨l⟩)
    | none => none
  | some none => H.cell p
  | none => none

def opLoad (P : Program) (t : TypeId) (v : Value) (H : AH) : Option (Next × AH) :=
  match v with
  | .pointer a => match a with
    | some p => match loadA P t p H with
      | some u => some (.value u, H)
      | none => none
    | none => none
  | _ => none

def opStore (P : Program) (t : TypeId) (v u : Value) (H : AH) : Option (Next × AH) :=
  match v with
  | .pointer a => match a with
    | some p => ifb (Nat.beq (sz1 P t) (u.cells.size + 1)) (match storeAll H p u.cells.toList with
      | some H' => some (.skip, H')
      | none => none) none
    | none => none
  | _ => none

def fieldOff (P : Program) (s i : Nat) : Option Nat :=
  match P.underlying s with
  | some (.struct fs) => match fs[i]? with
    | some f => ifb (Nat.beq (esz P f.type) 0) none (some f.offset)
    | none => none
  | _ => none

def opField (P : Program) (G : Nat) (e : Operand → Value) (o : Oper) (H : AH) (s : TypeId) (i : Nat) (v : Value) : Option (Next × AH) :=
  match v with
  | .pointer a => match a with
    | some p => match fieldOff P s i with
      | some n => some (.value (.pointer (some (p.add n))), H)
      | none => genOk P G e o H
    | none => none
  | _ => none

def elemSize (P : Program) (t : TypeId) : Option Nat :=
  match P.underlying t with
  | some (.slice e) => (P.info? e).map (·.size)
  | _ => none

/-- An array's length, and how many cells each of its elements has. -/
def arrElem (P : Program) (t : TypeId) : Option (Nat × Nat) :=
  match P.underlying t with
  | some (.array n e) => (P.info? e).map fun i => (n, i.size)
  | _ => none

def opIndex (P : Program) (G : Nat) (e : Operand → Value) (o : Oper) (H : AH) (t : TypeId) (v ix : Value) : Option (Next × AH) :=
  match elemSize P t with
  | some sz => match v, ix with
    | .slice (some a) len cap, .int _ (.ofNat i) => ifb (ifb (Nat.blt i len) (Nat.blt 0 cap) false) (some (.value (.pointer (some (a.add (Nat.mul i sz)))), H)) none
    | _, _ => none
  | none => match arrElem P t with
    | some (n, sz) => match v, ix with
      | .pointer (some a), .int _ (.ofNat i) => ifb (Nat.blt i n) (some (.value (.pointer (some (a.add (Nat.mul i sz)))), H)) none
      | _, _ => none
    | none => genOk P G e o H

def opExtract (v : Value) (i : Nat) (H : AH) : Option (Next × AH) :=
  match v with
  | .tuple ⟨l⟩ => match l[i]? with
    | some u => some (.value u, H)
    | none => none
  | _ => none

def opNil (P : Program) (G : Nat) (e : Operand → Value) (o : Oper) (H : AH) (v : Value) : Option (Next × AH) :=
  match v with
  | .pointer a => match a with
    | some p => some (.value (.pointer (some p)), H)
    | none => none
  | _ => genOk P G e o H

def ptrTo (i : Nat) : Value := .pointer (some ⟨i, 0, none⟩)
def rowTo (n i : Nat) : Value := .slice (some ⟨i, 0, ifb (Nat.beq n 0) (some 0) none⟩) n n

def freshRow (P : Program) (e : Operand → Value) (el : TypeId) (n : Nat) (ps : Array (Nat × Operand)) : Option (Obj × (Nat → Value)) :=
  match P.info? el with
  | some inf => ifb (ifb (zf P el) (Nat.ble (n * inf.size) 16777216) false) (match zeroOf P el with
    | some z => match Instr.fill (fun i => some (i * inf.size, inf.size)) ((Array.range (n * inf.size)).map (z.cells[· % z.cells.size]!)) (ps.map fun (i, x) => (i, e x)).toList with
      | some c => some (.cells c el (0, 0), rowTo n)
      | none => none
    | none => none) none
  | none => none

/-- What is made new, and what is told of it. -/
def freshA (P : Program) (G : Nat) (e : Operand → Value) (op : Op) : Option (Obj × (Nat → Value)) :=
  match op with
  | .alloc t => ifb (zf P t) (match zeroOf P t with
    | some z => some (.cells z.cells t (0, 0), ptrTo)
    | none => none) none
  | .box t x => ifb (okOpd G x) (some (.cells (e x).cells t (0, 0), ptrTo)) none
  | .buildSlice t n ps => ifb (allOk G (ps.toList.map (·.2))) (match P.underlying t with
    | some (.slice el) => freshRow P e el n ps
    | _ => none) none
  | _ => none

def opFresh (P : Program) (G : Nat) (e : Operand → Value) (op : Op) (H : AH) : Option (Next × AH) :=
  match freshA P G e op with
  | some (ob, mk) => ifb (Nat.blt H.next most) (some (.value (mk H.next), H.push ob)) none
  | none => none

def lenKind (P : Program) (t : TypeId) : Nat :=
  match P.underlying t with
  | some .string => 1
  | some (.slice _) => 2
  | some (.map _ _) => 3
  | _ => 0

def opLen (P : Program) (G : Nat) (e : Operand → Value) (o : Oper) (H : AH) (t : TypeId) (v : Value) : Option (Next × AH) :=
  match v with
  | .string s => ifb (Nat.beq (lenKind P t) 1) (some (.value (.int .i64 (.ofNat s.size)), H)) none
  | .slice _ n _ => ifb (Nat.beq (lenKind P t) 2) (some (.value (.int .i64 (.ofNat n)), H)) none
  | .map (some i) => match H.get i with
    | some (.map es _) => ifb (Nat.beq (lenKind P t) 3) (some (.value (.int .i64 (.ofNat es.size)), H)) none
    | _ => none
  | _ => genOk P G e o H

def valued (r : Option (Value × AH)) : Option (Next × AH) :=
  match r with
  | some (v, H) => some (.value v, H)
  | none => none

/-- The first cells of what is copied or appended. -/
def firstA (size n : Nat) (x : Value) (H : AH) : Option (List Value) :=
  match x with
  | .slice (some b) _ c => if n ≠ 0 ∧ c = 0 then none else cellsFrom H b (n * size)
  | .slice none _ _ => some []
  | .string s => some (bytesOf ⟨(s.data.toList.take n).toArray⟩)
  | _ => none

def copyA (P : Program) (dt : TypeId) (d x : Value) (H : AH) : Option (Value × AH) :=
  match elemSize P dt, d with
  | some size, .slice base dl dc => match (match x with | .slice _ n _ => some n | .string s => some s.size | _ => none) with
    | some sl => match firstA size (Nat.min sl dl) x H with
      | some vs => match base with
        | some a => if dl ≠ 0 ∧ dc = 0 then none else match storeAll H a vs with
          | some H' => some (.int .i64 (.ofNat (Nat.min sl dl)), H')
          | none => none
        | none => some (.int .i64 (.ofNat (Nat.min sl dl)), H)
      | none => none
    | none => none
  | _, _ => none

def clearA (P : Program) (t : TypeId) (x : Value) (H : AH) : Option (Value × AH) :=
  match x with
  | .slice none _ _ => ifb (P.underlying t).isSome (some (.tuple #[], H)) none
  | .slice (some a) n c => if n = 0 then ifb (P.underlying t).isSome (some (.tuple #[], H)) none else if c = 0 then none else
    match P.underlying t with
    | some (.slice e) => ifb (zf P e) (match zeroOf P e with
      | some z => match storeAll H a (Builtin.zeroCells z.cells n).toList with
        | some H' => some (.tuple #[], H')
        | none => none
      | none => none) none
    | _ => none
  | _ => none

/-- delete. -/
def deleteA (P : Program) (t : TypeId) (m k : Value) (H : AH) : Option (Value × AH) :=
  match P.underlying t with
  | some (.map kt _) => match m with
    | .map none => ifb (keyOk P kt k) (some (.tuple #[], H)) none
    | .map (some r) => match H.get r with
      | some (.map es n) => ifb (ifb (Nat.ble H.lo r) (keyOk P kt k) false) (match findA P H kt k es.toList 0 with
        | some (some (i, _)) => some (.tuple #[], H.set r (.map (es.eraseIdxIfInBounds i) n))
        | some none => some (.tuple #[], H.set r (.map es n))
        | none => none) none
      | _ => none
    | _ => none
  | _ => none

/-- Where a row begins. -/
def dataA (x : Value) (H : AH) : Option (Next × AH) :=
  match x with
  | .slice (some a) _ c => ifb (Nat.beq c 0) none (some (.value (.pointer (some a)), H))
  | _ => none

def opBuiltin (P : Program) (G : Nat) (e : Operand → Value) (o : Oper) (H : AH) (c : Call) (b : Builtin) : Option (Next × AH) :=
  match b with
  | .append => match c.args.toList, c.argTypes.toList with
    | [s, x], [st, xt] => ifb (allOk G [s, x]) (valued (appendA P st xt (e s) (e x) H)) none
    | _, _ => none
  | .copy => match c.args.toList, c.argTypes.toList with
    | [d, x], (dt :: _) => ifb (allOk G [d, x]) (valued (copyA P dt (e d) (e x) H)) none
    | _, _ => none
  | .clear => match c.args.toList, c.argTypes.toList with
    | [x], [t] => ifb (okOpd G x) (valued (clearA P t (e x) H)) none
    | _, _ => none
  | .len => match c.args.toList, c.argTypes.toList with
    | [x], [t] => ifb (okOpd G x) (opLen P G e o H t (e x)) none
    | _, _ => none
  | .delete => match c.args.toList, c.argTypes.toList with
    | [m, k], (t :: _) => ifb (allOk G [m, k]) (valued (deleteA P t (e m) (e k) H)) none
    | _, _ => none
  | b => ifb (Nat.beq b.ctorIdx 21) (match c.args.toList, c.argTypes.toList with
    | [p, n], [pt, _] => ifb (allOk G [p, n]) (valued (stringA P pt (e p) (e n) H)) none
    | _, _ => none) (ifb (Nat.beq b.ctorIdx 20) (match c.args.toList, c.argTypes.toList with
    | [x], [_] => ifb (okOpd G x) (dataA (e x) H) none
    | _, _ => none) (genOk P G e o H))

def opYield (l : Nat) (args : List Value) (H : AH) : Option (Next × AH) :=
  match H.get l with
  | some (.loop r) => ifb (Nat.beq args.length r.params.size) (some (.round l r.fn ((r.params.zip ⟨args⟩).foldl (fun tmps (t, a) => tmps.setIfInBounds t a) r.tmps) r.assign r.body, H)) none
  | _ => none

/-- The library's function that answers what it is given. -/
def sameName : String := (Extern.AbiNoEscape.rows.head?).elim "" (·.1)
def sameFn (P : Program) (g : FuncId) : Bool :=
  match P.funcs[g]? with
  | some fn => ifb (fn.body.isNone) (ifb (fn.name == sameName) (fn.origin == fn.name || fn.origin == "") false) false
  | none => false
def sameV1 (l : List Value) (H : AH) : Option (Next × AH) :=
  match l with
  | [v] => some (.value v, H)
  | _ => none

def opCallV (P : Program) (G : Nat) (e : Operand → Value) (o : Oper) (H : AH) (c : Call) (f : Operand) : Option (Next × AH) :=
  match e f with
  | .func (.func g) ⟨first⟩ ⟨captured⟩ => ifb (ifb (callable P g) (ifb (okOpd G f) (allOk G c.args.toList) false) false)
    (some (.enter g ⟨first ++ c.args.toList.map e ++ captured⟩, H))
    (ifb (ifb (sameFn P g) (ifb (okOpd G f) (allOk G c.args.toList) false) false) (sameV1 (first ++ c.args.toList.map e ++ captured) H) (genOk P G e o H))
  | .func (.yield l) ⟨first⟩ _ => ifb (ifb (okOpd G f) (allOk G c.args.toList) false) (opYield l (first ++ c.args.toList.map e) H) none
  | _ => none

def opCall (P : Program) (G : Nat) (e : Operand → Value) (o : Oper) (H : AH) (c : Call) : Option (Next × AH) :=
  match c.callee with
  | .value f => opCallV P G e o H c f
  | .builtin b => opBuiltin P G e o H c b
  | _ => none

/-- A pointer turned into one without a type, or back, that stays the same. -/
def samePtr (P : Program) (src dst : TypeId) (a : Addr) (H : AH) : Bool :=
  match P.underlying src, P.underlying dst, H.get a.block with
  | some d1, some d2, some (.cells c e fz) =>
    ifb (fz == (0, 0)) (match d1 with
      | .pointer t => ifb (Nat.beq d2.ctorIdx 6) (ifb (Nat.blt a.off c.size) (match P.info? t with
        | some i => ifb (Nat.beq i.size 0) false true
        | none => false) false) false
      | d1 => match d2 with
        | .pointer u => ifb (Nat.beq d1.ctorIdx 6) (match P.info? u with
          | some _ => liesAt P P.depth e (c.size / P.cellsOf e) a.off u 1
          | none => false) false
        | _ => false) false
  | _, _, _ => false

/-- From bytes to a text? -/
def isText (P : Program) (src dst : TypeId) : Bool :=
  match P.underlying src, P.underlying dst with
  | some (.slice e), some .string => match P.underlying e with
    | some (.int .u8) => true
    | _ => false
  | _, _ => false
def textOf (x : Value) (H : AH) : Option Value :=
  match x with
  | .slice none _ _ => some (.string .empty)
  | .slice (some a) len cap => ifb (ifb (Nat.blt 0 cap) (Nat.blt 0 H.next) false) (match cellsFrom H a len with
    | some l => match byteList l with
      | some bs => some (.string ⟨⟨bs⟩⟩)
      | none => none
    | none => none) none
  | _ => none

def opConv (P : Program) (G : Nat) (e : Operand → Value) (o : Oper) (H : AH) (src dst : TypeId) (x : Value) : Option (Next × AH) :=
  match isBytes P src dst with
  | some el => match x with
    | .string s => valued (bytesA el s H)
    | _ => none
  | none => ifb (isText P src dst) (opLook (textOf x H) H) (match x with
    | .pointer (some a) => ifb (samePtr P src dst a H) (some (.value x, H)) (genOk P G e o H)
    | _ => genOk P G e o H)

def opPick (c a b : Value) (H : AH) : Option (Next × AH) :=
  match c with
  | .bool t => some (.value (ifb t a b), H)
  | _ => none

def opUpd (r : Option AH) : Option (Next × AH) :=
  match r with
  | some H => some (.skip, H)
  | none => none

def cutL (l : List UInt8) (a b : Nat) : List UInt8 := (l.take b).drop a

/-- A string's part. -/
def sliceS (s : ByteArray) (lo hi : Option Value) : Option Value :=
  match s with
  | ⟨⟨l⟩⟩ => match (match hi with | none => some l.length | some (.int _ (.ofNat h)) => ifb (Nat.ble h l.length) (some h) none | _ => none) with
    | some h => match (match lo with | none => some 0 | some (.int _ (.ofNat a)) => ifb (Nat.ble a h) (some a) none | _ => none) with
      | some a => some (.string ⟨⟨cutL l a h⟩⟩)
      | none => none
    | none => none

def isStr (P : Program) (t : TypeId) : Bool :=
  match P.underlying t with
  | some .string => true
  | _ => false

/-- Of an empty row no more is known than that it has no room; of others that have none to speak of no more than the length. -/
def inx : Option Nat → Option Nat
  | some 0 => some 0
  | _ => some 1

/-- A slice's part. -/
def sliceV (size : Nat) (a : Addr) (len cap : Nat) (lo hi : Option Value) : Option Value :=
  match (match hi with | none => some len | some (.int _ (.ofNat h)) => ifb (Nat.ble h cap) (some h) none | _ => none) with
  | some h => match (match lo with | none => some 0 | some (.int _ (.ofNat l)) => ifb (Nat.ble l h) (some l) none | _ => none) with
    | some l => some (ifb (Nat.beq (Nat.sub cap l) 0) (.slice (some ⟨a.block, a.off, inx a.spot⟩) (Nat.sub h l) 0) (.slice (some (a.add (Nat.mul l size))) (Nat.sub h l) (Nat.sub cap l)))
    | none => none
  | none => none

/-- A slice's part with a bound on what may be put behind it: of it no more is known than its length. -/
def slice3 (size : Nat) (a : Addr) (cap : Nat) (lo hi : Option Value) (mx : Value) : Option Value :=
  match mx with
  | .int _ (.ofNat 0) => match lo, hi with
    | none, some (.int _ (.ofNat 0)) => some (.slice (some ⟨a.block, a.off, some 0⟩) 0 0)
    | _, _ => none
  | .int _ (.ofNat m) => ifb (Nat.ble m cap) (match hi with
    | some (.int _ (.ofNat h)) => ifb (Nat.ble h m) (match lo with
      | none => some (.slice (some ⟨a.block, a.off, some 1⟩) h 0)
      | some (.int _ (.ofNat l)) => ifb (Nat.ble l h) (some (.slice (some ⟨a.block, a.off, some 1⟩) (Nat.sub h l) 0)) none
      | _ => none) none
    | _ => none) none
  | _ => none

def opSlice (P : Program) (G : Nat) (e : Operand → Value) (o : Oper) (H : AH) (t : TypeId) (x : Value) (lo hi mx : Option Operand) : Option (Next × AH) :=
  match x with
  | .string s => match mx with
    | none => ifb (isStr P t) (opLook (sliceS s (lo.map e) (hi.map e)) H) none
    | some _ => none
  | .slice a len cap => match mx with
    | some m => match elemSize P t with
      | some sz => match a with
        | some p => opLook (slice3 sz p cap (lo.map e) (hi.map e) (e m)) H
        | none => genOk P G e o H
      | none => none
    | none => match elemSize P t with
      | some sz => match a with
        | some p => ifb (Nat.ble len cap) (opLook (sliceV sz p len cap (lo.map e) (hi.map e)) H) none
        | none => genOk P G e o H
      | none => none
  | _ => none

def opIx (P : Program) (G : Nat) (e : Operand → Value) (o : Oper) (H : AH) (t : TypeId) (x i : Value) : Option (Next × AH) :=
  match x with
  | .string s => match i with
    | .int _ (.ofNat n) => ifb (isStr P t) (match s.data.toList[n]? with
      | some b => some (.value (.int .u8 (.ofNat b.toNat)), H)
      | none => none) none
    | _ => none
  | _ => genOk P G e o H

def opA (P : Program) (G : Nat) (e : Operand → Value) (o : Oper) (H : AH) : Option (Next × AH) :=
  match o.op with
  | .move x => ifb (okOpd G x) (some (.value (e x), H)) none
  | .assign x => ifb (okOpd G x) (some (.value (e x), H)) none
  | .pick c a b => ifb (allOk G [c, a, b]) (opPick (e c) (e a) (e b) H) none
  | .binOp op t x y _ => ifb (allOk G [x, y]) (opBin P G e o H op t x y) none
  | .load t a => ifb (okOpd G a) (opLoad P t (e a) H) none
  | .store t a x => ifb (allOk G [a, x]) (opStore P t (e a) (e x) H) none
  | .fieldAddr s x i => ifb (okOpd G x) (opField P G e o H s i (e x)) none
  | .indexAddr t x i => ifb (allOk G [x, i]) (opIndex P G e o H t (e x) (e i)) none
  | .extract x i => ifb (okOpd G x) (opExtract (e x) i H) none
  | .nilCheck x => ifb (okOpd G x) (opNil P G e o H (e x)) none
  | .alloc t => opFresh P G e (.alloc t) H
  | .box t x => opFresh P G e (.box t x) H
  | .buildSlice t n ps => opFresh P G e (.buildSlice t n ps) H
  | .call c => opCall P G e o H c
  | .convert src dst x => ifb (okOpd G x) (opConv P G e o H src dst (e x)) none
  | .slice t x lo hi mx => ifb (allOk G (x :: (lo.toList ++ (hi.toList ++ mx.toList)))) (opSlice P G e o H t (e x) lo hi mx) none
  | .index t x i => ifb (allOk G [x, i]) (opIx P G e o H t (e x) (e i)) none
  | .lookup t m k ok => ifb (allOk G [m, k]) (opLook (lookupA P t (e m) (e k) ok H) H) none
  | .mapUpdate t m k v => ifb (allOk G [m, k, v]) (opUpd (updateA P t (e m) (e k) (e v) H)) none
  | _ => genOk P G e o H

def yieldedA (ops : Array Oper) (f : AFr) (j : Nat) : Option Bool :=
  match (ops[j]?).bind (·.dst) with
  | some d => match f.tmp d with
    | .bool b => some b
    | _ => none
  | none => none

abbrev Run := AFr → AH → Option (Option Code × AFr × AH)

def putArgs (tm : T4 Value) : Nat → List Value → T4 Value
  | _, [] => tm
  | i, v :: l => putArgs (T4.set tm i v) (Nat.succ i) l

def takeMarks : List Nat → AH → Option AH
  | [], H => some H
  | b :: l, H => match H.get b with
    | some (.deferred (some [])) => if H.lo ≤ b then takeMarks l (H.set b (.deferred none)) else none
    | _ => none

/-- The cells that were asked, with what they held; and by which operation. -/
abbrev Log := List (Addr × Value)
abbrev Log3 := List (Nat × Addr × Value)

/-- A reckoning that only asks, and what it asked. -/
def ro (P : Program) {α : Type} : Sem α → AH → Option (α × Log)
  | .pure a, _ => some (a, [])
  | .load _ a k, H => match H.cell a with
    | some v => match ro P (k v) H with
      | some (x, l) => some (x, (a, v) :: l)
      | none => none
    | none => none
  | .program k, H => ro P (k P) H
  | .mark _ k, H => ro P k H
  | _, _ => none

def resList (P : Program) (f : AFr) (H : AH) : List ResultVar → Option (List Value)
  | [] => some []
  | .tmp t :: l => match resList P f H l with
    | some m => some (f.tmp t :: m)
    | none => none
  | .cell a t :: l => match f.tmp a with
    | .pointer (some p) => match ro P (loadVar t p) H with
      | some (v, _) => match resList P f H l with
        | some m => some (v :: m)
        | none => none
      | none => none
    | _ => none

def resA (P : Program) (fn : Func) (f : AFr) (H : AH) : Option Value :=
  match resList P f H fn.results.toList with
  | some [v] => some v
  | some l => some (.tuple ⟨l⟩)
  | none => none

def callA (P : Program) (run : Run) (g : FuncId) (args : List Value) (H : AH) : Option (Value × AH) :=
  match P.funcs[g]? with
  | none => none
  | some fn => match fn.body with
    | none => none
    | some body => ifb (Nat.ble (max fn.ntmps args.length) 256) (
      match run ⟨g, max fn.ntmps args.length, putArgs (T4.leaf undef) 0 args, [.code body], [], none⟩ H with
      | some (j, f, H1) =>
        match j with
        | none | some .ret =>
          match takeMarks f.marks H1 with
          | some H2 => match resA P fn f H2 with
            | some v => some (v, H2)
            | none => none
          | none => none
        | _ => none
      | none => none) none

def roundA (run : Run) (l : Nat) (g : FuncId) (tmps : List Value) (assign body : Code) (H : AH) : Option (Value × AH) :=
  ifb (Nat.ble tmps.length 256) (match run ⟨g, tmps.length, putArgs (T4.leaf undef) 0 tmps, [.code assign, .beginRound, .code body], [], some l⟩ H with
  | some (j, f, H1) => match f.marks with
    | [] => match H1.get l with
      | some (.loop r) => if H1.lo ≤ l then some (.bool j.isNone, H1.set l (.loop { r with state := if j.isNone then .ready else .done, pending := j })) else none
      | _ => none
    | _ => none
  | none => none) none

def doOp (P : Program) (G : Nat) (run : Run) (f : AFr) (o : Oper) (H : AH) : Option (Value × AH) :=
  match opA P G f.ev o H with
  | some (.value v, H) => some (v, H)
  | some (.skip, H) => some (undef, H)
  | some (.enter g ⟨args⟩, H) => callA P run g args H
  | some (.round l g ⟨tmps⟩ assign body, H) => roundA run l g tmps assign body H
  | _ => none

def wantedA (ops : Array Oper) (f : AFr) (o : Oper) : Bool :=
  match o.guard with
  | none => true
  | some (j, want) => match yieldedA ops f j with
    | some b => ifb want b (!b)
    | none => false

def opsA (P : Program) (G : Nat) (run : Run) (ops : Array Oper) : List Oper → AFr → AH → Option (AFr × AH)
  | [], f, H => some (f, H)
  | o :: l, f, H => ifb (wantedA ops f o) (match doOp P G run f o H with
      | some (v, H') => opsA P G run ops l (f.put o.dst v) H'
      | none => none)
    (opsA P G run ops l (f.put o.dst undef) H)

def exactA : Option Addr → Bool
  | none => true
  | some a => a.spot.isNone

def sameV : Value → Value → Bool
  | .bool a, .bool b => a == b
  | .int k n, .int k' n' => k == k' && n == n'
  | .string a, .string b => a.data == b.data
  | .pointer a, .pointer b => a == b
  | .slice a l c, .slice b l' c' => a == b && l == l' && c == c' && exactA a
  | .map a, .map b => a == b
  | .nilFunc, .nilFunc => true
  | .nilIface, .nilIface => true
  | _, _ => false

def still (H : AH) : Log3 → Bool
  | [] => true
  | (_, a, v) :: l => (match H.cell a with | some u => sameV u v | none => false) && still H l

def quietOp : Op → Bool
  | .move _ | .assign _ | .pick .. | .load .. | .nilCheck _ | .binOp .. | .unOp .. | .slice .. | .fieldAddr .. | .field .. | .indexAddr .. | .index .. | .extract .. | .makeFunc .. | .build .. | .makeInterface .. => true
  | .convert .. => true
  | .call { callee := .builtin .len, .. } | .call { callee := .builtin .min, .. } | .call { callee := .builtin .max, .. } => true
  | _ => false

/-- Whom each operation waits for, as bits. -/
def maskOf (acc : List Nat) : List Edge → Nat → Nat
  | [], s => s
  | e :: l, s => ifb (Region.binds .any e) (maskOf acc l (Nat.lor (Nat.lor s (2 ^ e.on)) (acc.getD e.on 0))) (maskOf acc l s)

def masks : List Oper → List Nat → List Nat
  | [], acc => acc
  | o :: l, acc => masks l (acc ++ [maskOf acc o.after.toList 0])

def bit (L i : Nat) : Bool := Nat.beq (Nat.land (Nat.shiftRight L i) 1) 1
def sub (m L : Nat) : Bool := Nat.beq (Nat.land m L) m
def waitsFor (ms : List Nat) (j m : Nat) : Bool := bit (ms.getD j 0) m

def rdy (L : Nat) : Nat → List Nat → List Nat
  | _, [] => []
  | i, m :: ms => ifb (ifb (bit L i) false (sub m L)) (i :: rdy L (Nat.succ i) ms) (rdy L (Nat.succ i) ms)

/-- 1: it only asks; 3: it makes something new; 2: a store; 0: any other. -/
def kindOf (o : Oper) : Nat :=
  match o.op with
  | .store .. => match o.guard with
    | none => match o.dst with
      | none => 2
      | some _ => 0
    | some _ => 0
  | .alloc _ | .buildSlice .. | .box .. => match o.guard with
    | none => match o.dst with
      | some _ => 3
      | none => 0
    | some _ => 0
  | _ => ifb (quietOp o.op) 1 0

def kindAt (ops : Array Oper) (i : Nat) : Nat :=
  match ops[i]? with
  | some o => kindOf o
  | none => 9

/-- Which operation is met when: 1: it only asks; 0: it acts, and but for one that makes something new it alone may come; 3: it makes something new, and it alone may come; 2: two stores, the last two, in any order. -/
def plan (ops : Array Oper) (ms : List Nat) : Nat → Nat → Option (List (Nat × Nat × Nat))
  | 0, L => match rdy L 0 ms with
    | [] => some []
    | _ => none
  | n + 1, L => match rdy L 0 ms with
    | [] => some []
    | i0 :: rs => match (i0 :: rs).find? (fun i => Nat.beq (kindAt ops i) 1) with
      | some i => match plan ops ms n (Nat.lor L (2 ^ i)) with
        | some l => some ((1, i, 0) :: l)
        | none => none
      | none => match (i0 :: rs).filter (fun i => Nat.beq (kindAt ops i) 3), (i0 :: rs).filter (fun i => !Nat.beq (kindAt ops i) 3) with
        | [], [i] => match plan ops ms n (Nat.lor L (2 ^ i)) with
          | some l => some ((0, i, 0) :: l)
          | none => none
        | [j], [i] => match rdy (Nat.lor L (2 ^ j)) 0 ms with
          | [k] => ifb (Nat.beq k i) (match plan ops ms n (Nat.lor L (2 ^ i)) with
            | some l => some ((0, i, 0) :: l)
            | none => none) none
          | _ => none
        | [j], [] => match plan ops ms n (Nat.lor L (2 ^ j)) with
          | some l => some ((3, j, 0) :: l)
          | none => none
        | [], [i, j] => ifb (ifb (Nat.beq n 0) false (ifb (Nat.beq (kindAt ops i) 2) (Nat.beq (kindAt ops j) 2) false)) (match rdy (Nat.lor L (2 ^ i)) 0 ms, rdy (Nat.lor L (2 ^ j)) 0 ms, rdy (Nat.lor (Nat.lor L (2 ^ i)) (2 ^ j)) 0 ms with
          | [_], [_], [] => some [(2, i, j)]
          | _, _, _ => none) none
        | _, _ => none

/-- Any two operations wait for one another, or have nothing to do with one another. -/
def pairs (ops : Array Oper) (m : Nat) (o : Oper) : Nat → List Oper → Bool
  | _, [] => true
  | i, x :: l => ifb (ifb (bit m i) true (ifb (x.apart ops o) (o.apart ops x) false)) (pairs ops m o (Nat.succ i) l) false

def pairsAll (ops : Array Oper) : List Oper → List Oper → List Nat → Bool
  | _, [], _ => true
  | done, o :: l, m :: ms => ifb (pairs ops m o 0 done) (pairsAll ops (done ++ [o]) l ms) false
  | _, _ :: _, [] => false

def planOf (ops : Array Oper) (ms : List Nat) : Option (List (Nat × Nat × Nat)) :=
  ifb (ifb (Region.noSelect ops) (pairsAll ops [] ops.toList ms) false) (plan ops ms ops.size 0) none

def logOf (p : Addr) : Nat → List Value → Log
  | _, [] => []
  | i, v :: l => (p.add i, v) :: logOf p (Nat.succ i) l

def roLoad (P : Program) (t : TypeId) (v : Value) (H : AH) : Option (Value × Log) :=
  match v with
  | .pointer (some p) => match aggOf P t with
    | some (some n) => match cellsFrom H p n with
      | some l => some (.agg ⟨l⟩, logOf p 0 l)
      | none => none
    | some none => match H.cell p with
      | some u => some (u, [(p, u)])
      | none => none
    | none => none
  | _ => none

def roGen (r : Option (Next × AH)) : Option (Value × Log) :=
  match r with
  | some (.value v, H) => ifb (Nat.beq H.next 0) (some (v, [])) none
  | _ => none

/-- What is met by what only asks: a load; or what asks no memory at all. -/
def roOp (P : Program) (G : Nat) (e : Operand → Value) (o : Oper) (H : AH) : Option (Value × Log) :=
  match o.op with
  | .load t a => ifb (okOpd G a) (roLoad P t (e a) H) none
  | _ => ifb (quietOp o.op) (roGen (opA P G e o ⟨T7.leaf, 0, 0⟩)) none

/-- What a store stores, and where. -/
def storeOf (e : Operand → Value) : Op → Option (TypeId × Addr × Value)
  | .store t a x => match e a with
    | .pointer (some p) => if p.spot == none then some (t, p, e x) else none
    | _ => none
  | _ => none

def apart (a : Addr) (n : Nat) (b : Addr) (m : Nat) : Bool := a.block != b.block || decide (a.off + n ≤ b.off) || decide (b.off + m ≤ a.off)

def anyA (P : Program) (G : Nat) (run : Run) (ops : Array Oper) (ms : List Nat) : List (Nat × Nat × Nat) → Log3 → AFr → AH → Option (AFr × AH)
  | [], _, f, H => some (f, H)
  | (q, i, j) :: l, lg, f, H => match ops[i]? with
    | none => none
    | some o => if q == 2 then (match ops[j]? with
        | some o' => (match storeOf f.ev o.op, storeOf f.ev o'.op with
          | some (t, a, x), some (t', b, y) => if sz1 P t == x.cells.size + 1 && sz1 P t' == y.cells.size + 1 && apart a x.cells.size b y.cells.size && o.op.operands.toList.all (okOpd G) && o'.op.operands.toList.all (okOpd G) && (lg.filter fun p => !waitsFor ms i p.1).isEmpty && (lg.filter fun p => !waitsFor ms j p.1).isEmpty then
              (match storeAll H a x.cells.toList with
              | some H1 => match storeAll H1 b y.cells.toList with
                | some H2 => some (f, H2)
                | none => none
              | none => none) else none
          | _, _ => none)
        | none => none)
      else if wantedA ops f o then
        (if q == 1 then match roOp P G f.ev o H with
          | some (v, more) => anyA P G run ops ms l (more.map (fun p => (i, p)) ++ lg) (f.put o.dst v) H
          | none => none
        else match doOp P G run f o H with
          | some (v, H') =>
            if still H' (lg.filter fun p => !waitsFor ms i p.1) then anyA P G run ops ms l (lg.filter fun p => !waitsFor ms i p.1) (f.put o.dst v) H' else none
          | none => none)
      else if q == 1 then anyA P G run ops ms l lg (f.put o.dst undef) H
      else anyA P G run ops ms l (lg.filter fun p => !waitsFor ms i p.1) (f.put o.dst undef) H

def enterLoopA (P : Program) (run : Run) (f : AFr) (g : FuncId) (first captured : List Value) (params : Array Tmp) (assign body : Code) (db : Nat) (marks : List Nat) (k : List Item) (H : AH) :
    Option (Option Code × AFr × AH) :=
  ifb (Nat.blt H.next most)
    (match callA P run g (first ++ [.func (.yield H.next) #[] #[]] ++ captured)
        (H.push (.loop { state := .ready, pending := none, fn := f.fn, tmps := ⟨(List.range f.sz).map f.tmp⟩, params, assign, body, defers := db })) with
    | some (_, H') => run ⟨f.fn, f.sz, f.tm, .endRangeFunc H.next :: k, marks, f.rnd⟩ H'
    | none => none) none

def anyR2 (P : Program) (G : Nat) (run : Run) (ops : Array Oper) (ms : List Nat) (k : List Item) (f : AFr) (H : AH) : Option (Option Code × AFr × AH) :=
  match planOf ops ms with
  | some l => match anyA P G run ops ms l [] f H with
    | some (f', H') => run (f'.goto k) H'
    | none => none
  | none => none

def anyR (P : Program) (G : Nat) (run : Run) (ops : Array Oper) (k : List Item) (f : AFr) (H : AH) : Option (Option Code × AFr × AH) :=
  anyR2 P G run ops (masks ops.toList []) k f H

def opsR (P : Program) (G : Nat) (run : Run) (ops : Array Oper) (k : List Item) (f : AFr) (H : AH) : Option (Option Code × AFr × AH) :=
  match opsA P G run ops ops.toList f H with
  | some (f', H') => run (f'.goto k) H'
  | none => none

def rangeA (P : Program) (G : Nat) (run : Run) (fv : Operand) (params : Array Tmp) (assign body : Code) (k : List Item) (f : AFr) (H : AH) : Option (Option Code × AFr × AH) :=
  ifb (okOpd G fv) (match f.ev fv with
    | .func (.func g) ⟨first⟩ ⟨captured⟩ => ifb (callable P g) (match f.rnd with
      | some l => match H.get l with
        | some (.loop r) => enterLoopA P run f g first captured params assign body r.defers f.marks k H
        | _ => none
      | none => ifb (Nat.blt H.next most) (enterLoopA P run f g first captured params assign body H.next (H.next :: f.marks) k (H.push (.deferred (some [])))) none) none
    | _ => none) none

def condA (run : Run) (v : Value) (a b : Code) (k : List Item) (f : AFr) (H : AH) : Option (Option Code × AFr × AH) :=
  match v with
  | .bool t => run (f.goto (.code (ifb t a b) :: k)) H
  | _ => none

def exitA (run : Run) (id : Nat) (k : List Item) (f : AFr) (H : AH) : Option (Option Code × AFr × AH) :=
  match exitTo id k with
  | some k' => run (f.goto k') H
  | none => some (some (.exit id), f, H)

def beginA (run : Run) (k : List Item) (f : AFr) (H : AH) : Option (Option Code × AFr × AH) :=
  match f.rnd with
  | some l => match H.get l with
    | some (.loop r) => match r.state with
      | .ready => ifb (Nat.ble H.lo l) (run (f.goto k) (H.set l (.loop { r with state := .busy }))) none
      | _ => none
    | _ => none
  | none => none

def endA (run : Run) (l : Nat) (k : List Item) (f : AFr) (H : AH) : Option (Option Code × AFr × AH) :=
  match H.get l with
  | some (.loop r) => match r.state with
    | .busy => none
    | _ => ifb (Nat.ble H.lo l) (run (f.goto ((r.pending.map Item.code).toList ++ k)) (H.set l (.loop { r with state := .exhausted }))) none
  | _ => none

def codeA (P : Program) (G : Nat) (run : Run) (c : Code) (k : List Item) (f : AFr) (H : AH) : Option (Option Code × AFr × AH) :=
  match c with
  | .ret => some (some .ret, f, H)
  | .skip => run (f.goto k) H
  | .seq a b => run (f.goto (.code a :: .code b :: k)) H
  | .cond c a b => ifb (okOpd G c) (condA run (f.ev c) a b k f H) none
  | .block id c => run (f.goto (.code c :: .inBlock id :: k)) H
  | .loop c => run (f.goto (.code c :: .inLoop c :: k)) H
  | .exit id => exitA run id k f H
  | .region _ ops draw => ifb draw (anyR P G run ops k f H) (opsR P G run ops k f H)
  | .rangeFunc fv params assign body => rangeA P G run fv params assign body k f H
  | _ => none

def stepF (P : Program) (G : Nat) (run : Run) (f : AFr) (H : AH) : Option (Option Code × AFr × AH) :=
  match f.todo with
  | [] => some (none, f, H)
  | x :: k => match x with
    | .code c => codeA P G run c k f H
    | .inBlock _ => run (f.goto k) H
    | .inLoop c => run (f.goto (.code c :: .inLoop c :: k)) H
    | .beginRound => beginA run k f H
    | .endRangeFunc l => endA run l k f H
    | _ => none

def runF (P : Program) (G : Nat) : Nat → Run
  | 0 => fun _ _ => none
  | n + 1 => stepF P G (runF P G n)

def laidH : List (Nat × Obj) → T7 Obj
  | [] => T7.leaf
  | (i, o) :: l => T7.set (laidH l) i o

def callF (P : Program) (G n : Nat) (laid : List (Nat × Obj)) (g : FuncId) (args : List Value) : Option (Value × AH) := callA P (runF P G n) g args ⟨laidH laid, G, G⟩

end Go.Eng

namespace Go.Eng
open Go.RowKit

variable {P : Program} {G N : Nat}

theorem TR.bind {α β γ δ : Type} {R1 : PM → α → β → Prop} {R2 : PM → γ → δ → Prop} (t : Sem α) : ∀ (t' : Sem β) (r : PM) (f : α → Sem γ) (f' : β → Sem δ), TR P R1 r t t' →
    (∀ s a b, r.le s → R1 s a b → TR P R2 s (f a) (f' b)) → TR P R2 r (t.bind f) (t'.bind f') := by
  induction t with
  | pure a => intro t' r f f' h k; cases t' <;> simp only [TR] at h; exact k r _ _ (.refl r) h
  | load m a k ih => intro t' r f f' h g; cases t' <;> simp only [TR] at h; simp only [Sem.bind, TR]; exact ⟨h.1, fun v v' hv => ih v _ r f f' (h.2 v v' hv) g⟩
  | store m a v k ih => intro t' r f f' h g; cases t' <;> simp only [TR] at h; simp only [Sem.bind, TR]; exact ⟨h.1, h.2.1, ih _ r f f' h.2.2 g⟩
  | new o k ih => intro t' r f f' h g; cases t' <;> simp only [TR] at h; simp only [Sem.bind, TR]; exact ⟨h.1, fun s i i' hs hi => ih i _ s f f' (h.2 s i i' hs hi) (fun s' a b hle hr => g s' a b (hs.trans hle) hr)⟩
  | getObj i k ih => intro t' r f f' h g; cases t' <;> simp only [TR] at h; simp only [Sem.bind, TR]; exact ⟨h.1, fun o o' ho => ih o _ r f f' (h.2 o o' ho) g⟩
  | setObj i o k ih => intro t' r f f' h g; cases t' <;> simp only [TR] at h; simp only [Sem.bind, TR]; exact ⟨h.1, h.2.1, ih _ r f f' h.2.2 g⟩
  | program k ih => intro t' r f f' h g; cases t' <;> simp only [TR] at h; simp only [Sem.bind, TR]; exact ih P _ r f f' h g
  | mark m k ih => intro t' r f f' h g; cases t' <;> simp only [TR] at h; simp only [Sem.bind, TR]; exact ih _ r f f' h g
  | halt h0 => intro t' r f f' h g; simp only [Sem.bind, TR]
  | shape _ _ _ => intro t' r f f' h g; cases t' <;> simp only [TR] at h
  | freeze _ _ _ _ => intro t' r f f' h g; cases t' <;> simp only [TR] at h
  | frozen _ _ _ => intro t' r f f' h g; cases t' <;> simp only [TR] at h
  | choose _ _ _ => intro t' r f f' h g; cases t' <;> simp only [TR] at h
  | sys _ _ _ => intro t' r f f' h g; cases t' <;> simp only [TR] at h

theorem TR.bind' {α β γ δ : Type} {R1 : PM → α → β → Prop} {R2 : PM → γ → δ → Prop} {t : Sem α} {t' : Sem β} {r : PM} {f : α → Sem γ} {f' : β → Sem δ} (h : TR P R1 r t t')
    (k : ∀ s a b, r.le s → R1 s a b → TR P R2 s (f a) (f' b)) : TR P R2 r (t >>= f) (t' >>= f') := TR.bind t t' r f f' h k

theorem TR.ret {α β : Type} {R : PM → α → β → Prop} {r : PM} {a : α} {b : β} (h : R r a b) : TR P R r (pure a) (pure b) := h

/-- What is the same on both sides. -/
abbrev Id' {α : Type} : PM → α → α → Prop := fun _ a b => b = a

theorem TR.bindI {α γ δ : Type} {R2 : PM → γ → δ → Prop} {t : Sem α} {r : PM} {f : α → Sem γ} {f' : α → Sem δ} (h : TR P Id' r t t)
    (k : ∀ s a, r.le s → TR P R2 s (f a) (f' a)) : TR P R2 r (t >>= f) (t >>= f') := TR.bind' h fun s a b hle e => by subst e; exact k s _ hle

theorem TR.stuck {α β : Type} {R : PM → α → β → Prop} {r : PM} {m : String} {t : Sem β} : TR P R r (Go.stuck m : Sem α) t := by simp only [Go.stuck, TR]
theorem TR.unsup {α β : Type} {R : PM → α → β → Prop} {r : PM} {m : Unsupported} {t : Sem β} : TR P R r (unsupported m : Sem α) t := by simp only [unsupported, TR]
theorem TR.goPanic {α β : Type} {R : PM → α → β → Prop} {r : PM} {v : Value} {t : Sem β} : TR P R r (Go.goPanic v : Sem α) t := by simp only [Go.goPanic, TR]

theorem TR.underlying {r : PM} (t : TypeId) : TR P Id' r (underlying t) (underlying t) := by
  unfold Go.underlying program
  show TR P Id' r (Sem.program _) (Sem.program _)
  simp only [TR, Sem.bind]
  split
  · exact rfl
  · exact TR.stuck

theorem TR.typeInfo {r : PM} (t : TypeId) : TR P Id' r (typeInfo t) (typeInfo t) := by
  unfold Go.typeInfo program
  show TR P Id' r (Sem.program _) (Sem.program _)
  simp only [TR, Sem.bind]
  split
  · exact rfl
  · exact TR.stuck

theorem TR.sizeOf {r : PM} (t : TypeId) : TR P Id' r (sizeOf t) (sizeOf t) := TR.bindI (TR.typeInfo t) fun _ _ _ => rfl

theorem TR.isAgg {r : PM} (t : TypeId) : TR P Id' r (isAgg t) (isAgg t) := by
  unfold Go.isAgg
  refine TR.bindI (TR.underlying t) fun s a _ => ?_
  split <;> exact rfl

/-- The zero value of a type that has no address in it. -/
theorem TR.zeroValue {r : PM} {t : TypeId} (hz : zf P t = true) : TR P (fun _ a b => b = a ∧ flat a = true) r (zeroValue t) (zeroValue t) := by
  unfold Go.zeroValue
  have h : TR P (fun _ a b => b = a ∧ P.info? t = some a) r (Go.typeInfo t) (Go.typeInfo t) := by
    unfold Go.typeInfo program
    show TR P _ r (Sem.program _) (Sem.program _)
    simp only [TR, Sem.bind]
    split
    · rename_i i hi; exact ⟨rfl, hi⟩
    · exact TR.stuck
  refine TR.bind' h ?_
  rintro s i _ _ ⟨rfl, hi⟩
  unfold zf at hz
  simp only [hi] at hz
  split
  · rename_i v hv; simp only [hv] at hz; exact ⟨rfl, hz⟩
  · exact TR.unsup

abbrev VRR : PM → Value → Value → Prop := VR
abbrev CLR : PM → Array Value → Array Value → Prop := fun r a b => VL r a.toList b.toList

theorem AR.add {r : PM} {a b : Addr} (h : AR r a b) (n : Nat) : AR r (a.add n) (b.add n) := by
  obtain ⟨s, x, e, o, sp, sp'⟩ := h
  unfold Addr.add
  by_cases hn : n = 0
  · simp only [hn, if_true]; exact ⟨s, x, e, o, sp, sp'⟩
  · simp only [hn, if_false]; exact ⟨s, x, e, by simp only [o]; omega, rfl, rfl⟩

theorem TR.load {r : PM} {a b : Addr} (h : AR r a b) : TR P VRR r (load a) (load b) := by simp only [Go.load, TR]; exact ⟨h, fun _ _ hv => hv⟩

theorem VL.push {r : PM} {xs ys : Array Value} {v w : Value} (h : VL r xs.toList ys.toList) (k : VR r v w) : VL r (xs.push v).toList (ys.push w).toList := by
  simp only [Array.toList_push]; exact h.append (VL.cons k (VL.nil r))

theorem TR.loadCellsFrom {a b : Addr} : ∀ (n : Nat) (r : PM) (i : Nat) (xs ys : Array Value), AR r a b → CLR r xs ys → TR P CLR r (loadCellsFrom a i n xs) (loadCellsFrom b i n ys)
  | 0, _, _, _, _, _, hx => hx
  | n + 1, r, i, xs, ys, h, hx => by
    unfold Go.loadCellsFrom
    exact TR.bind' (TR.load (h.add i)) fun s v v' hle hv => TR.loadCellsFrom n s (i + 1) _ _ (h.mono hle) (VL.push (hx.mono hle) hv)

theorem TR.loadCells {r : PM} {a b : Addr} (h : AR r a b) (n : Nat) : TR P CLR r (loadCells a n) (loadCells b n) := TR.loadCellsFrom n r 0 _ _ h (VL.nil r)

theorem VR.agg {r : PM} {xs ys : Array Value} : VR r (.agg xs) (.agg ys) ↔ VL r xs.toList ys.toList := by
  obtain ⟨xs⟩ := xs; obtain ⟨ys⟩ := ys; simp only [VR]
theorem VR.tuple {r : PM} {xs ys : Array Value} : VR r (.tuple xs) (.tuple ys) ↔ VL r xs.toList ys.toList := by
  obtain ⟨xs⟩ := xs; obtain ⟨ys⟩ := ys; simp only [VR]

theorem TR.loadVar {r : PM} {t : TypeId} {a b : Addr} (h : AR r a b) : TR P VRR r (loadVar t a) (loadVar t b) := by
  unfold Go.loadVar
  refine TR.bindI (TR.isAgg t) fun s c hle => ?_
  split
  · refine TR.bindI (TR.sizeOf t) fun s' n hle' => ?_
    exact TR.bind' (TR.loadCells ((h.mono hle).mono hle') n) fun s'' xs ys _ hx => VR.agg.2 hx
  · exact TR.load (h.mono hle)

/-- An address, where there must be one. -/
theorem TR.sureAddr {r : PM} {v v' : Value} (h : VR r v v') : TR P AR r (Instr.sureAddr v) (Instr.sureAddr v') := by
  cases v <;> try exact TR.stuck
  rename_i a
  cases a with
  | none => exact TR.stuck
  | some a =>
    cases v' <;> try (simp only [VR] at h; done)
    rename_i b
    cases b <;> simp only [VR] at h
    exact h

theorem TR.loadAt {r : PM} {t : TypeId} {v v' : Value} (h : VR r v v') : TR P VRR r (Instr.loadAt t v) (Instr.loadAt t v') :=
  TR.bind' (TR.sureAddr h) fun _ _ _ _ ha => TR.loadVar ha

theorem TR.store {r : PM} {a b : Addr} {v v' : Value} (h : AR r a b) (hv : VR r v v') : TR P Id' r (store a v) (store b v') := by
  simp only [Go.store, TR]; exact ⟨h, hv, trivial⟩

theorem TR.storeCells {a b : Addr} : ∀ (r : PM) (xs ys : List Value) (i : Nat), AR r a b → VL r xs ys → TR P Id' r (storeCells a xs i) (storeCells b ys i)
  | r, [], [], _, _, _ => rfl
  | r, x :: xs, y :: ys, i, h, hv => by
    simp only [VL, VR.go] at hv
    unfold Go.storeCells
    exact TR.bind' (TR.store (h.add i) hv.1) fun s _ _ hle _ => TR.storeCells s xs ys (i + 1) (h.mono hle) (VL.mono hle hv.2)
  | _, [], _ :: _, _, _, hv => by simp [VL, VR.go] at hv
  | _, _ :: _, [], _, _, hv => by simp [VL, VR.go] at hv

theorem VR.cells {r : PM} {v v' : Value} (h : VR r v v') : VL r v.cells.toList v'.cells.toList := by
  have single : ∀ {u u' : Value}, VR r u u' → VL r [u] [u'] := fun hu => VL.cons hu (VL.nil r)
  cases v <;> cases v' <;> first | exact VR.agg.1 h | exact single h | (simp only [VR] at h; done) | (rename_i a; cases a <;> simp only [VR] at h) | (rename_i a _ _; cases a <;> simp only [VR] at h)

theorem VL.size {r : PM} {xs ys : Array Value} (h : VL r xs.toList ys.toList) : ys.size = xs.size := by simpa using h.length

theorem TR.storeVar {r : PM} {t : TypeId} {a b : Addr} {v v' : Value} (h : AR r a b) (hv : VR r v v') : TR P Id' r (storeVar t a v) (storeVar t b v') := by
  unfold Go.storeVar
  refine TR.bindI (TR.sizeOf t) fun s n hle => ?_
  rw [hv.cells.size]
  split
  · exact TR.bind' (R1 := Id') TR.stuck fun s' _ _ hle' _ => TR.storeCells s' _ _ 0 ((h.mono hle).mono hle') ((hv.cells.mono hle).mono hle')
  · exact TR.bind' (R1 := Id') (t := pure ()) (t' := pure ()) rfl fun s' _ _ hle' _ => TR.storeCells s' _ _ 0 ((h.mono hle).mono hle') ((hv.cells.mono hle).mono hle')

theorem TR.storeAt {r : PM} {t : TypeId} {p p' v v' : Value} (h : VR r p p') (hv : VR r v v') : TR P Id' r (Instr.storeAt t p v) (Instr.storeAt t p' v') :=
  TR.bind' (TR.sureAddr h) fun _ _ _ hle ha => TR.storeVar ha (hv.mono hle)

end Go.Eng

namespace Go.Eng
open Go.RowKit

variable {P : Program} {G N : Nat}

def NR (r : PM) : Next → Next → Prop
  | .value v, .value v' => VR r v v'
  | .skip, .skip => True
  | .enter f args, .enter f' args' => f' = f ∧ VL r args.toList args'.toList
  | .round l f tm a b, .round l' f' tm' a' b' => BR r l l' ∧ f' = f ∧ VL r tm.toList tm'.toList ∧ a' = a ∧ b' = b
  | _, _ => False

theorem TR.val {r : PM} {t t' : Sem Value} (h : TR P VRR r t t') : TR P NR r (do pure (.value (← t))) (do pure (.value (← t'))) :=
  TR.bind' h fun _ _ _ _ hv => hv
theorem TR.unit {r : PM} {t t' : Sem Unit} (h : TR P Id' r t t') : TR P NR r (do t; pure .skip) (do t'; pure .skip) :=
  TR.bind' h fun _ _ _ _ _ => trivial

theorem TR.newObj {r : PM} {o o' : Obj} (h : OR r o o') : TR P (fun s a b => s a = some (b, 0, 0)) r (newObj o) (newObj o') := by
  simp only [Go.newObj, TR]
  exact ⟨h, fun s i i' _ hi => hi⟩

/-- A row that is new. -/
def NewAt (r : PM) (a b : Addr) : Prop := r a.block = some (b.block, 0, 0) ∧ a.off = 0 ∧ b.off = 0 ∧ a.spot = none ∧ b.spot = none
theorem NewAt.ar {r : PM} {a b : Addr} (h : NewAt r a b) : AR r a b := ⟨0, 0, h.1, by rw [h.2.1, h.2.2.1], h.2.2.2.1, h.2.2.2.2⟩

theorem TR.newRow {r : PM} {e : TypeId} {c c' : Array Value} (h : VL r c.toList c'.toList) : TR P NewAt r (newRow e c) (newRow e c') := by
  unfold Go.newRow
  exact TR.bind' (TR.newObj (o := .cells c e) (o' := .cells c' e) (by simp only [OR]; exact ⟨trivial, trivial, trivial, h⟩)) fun s a b _ hab => ⟨hab, rfl, rfl, rfl, rfl⟩

theorem TR.newVar {r : PM} {t : TypeId} {v v' : Value} (h : VR r v v') : TR P NewAt r (newVar t v) (newVar t v') := TR.newRow h.cells

theorem TR.box {r : PM} {t : TypeId} {v v' : Value} (h : VR r v v') : TR P VRR r (Instr.box t v) (Instr.box t v') := by
  unfold Instr.box
  exact TR.bind' (TR.newVar h) fun s a b _ hab => by simp only [VRR]; exact hab.ar

/-- Parts and where they go. -/
def PL (r : PM) : List (Nat × Value) → List (Nat × Value) → Prop
  | [], [] => True
  | (i, v) :: l, (j, u) :: m => j = i ∧ VR r v u ∧ PL r l m
  | _, _ => False

theorem PL.mono {r s : PM} (h : r.le s) : ∀ {l m : List (Nat × Value)}, PL r l m → PL s l m
  | [], [], _ => trivial
  | (_, _) :: _, (_, _) :: _, hp => by simp only [PL] at hp ⊢; exact ⟨hp.1, hp.2.1.mono h, PL.mono h hp.2.2⟩
  | [], _ :: _, hp => by simp [PL] at hp
  | _ :: _, [], hp => by simp [PL] at hp

theorem VL.setIf {r : PM} {xs ys : Array Value} (h : VL r xs.toList ys.toList) (n : Nat) {v u : Value} (hv : VR r v u) : VL r (xs.setIfInBounds n v).toList (ys.setIfInBounds n u).toList := by
  rw [Array.toList_setIfInBounds, Array.toList_setIfInBounds]; exact VL.set h n hv

theorem VL.fold {r : PM} (off : Nat) : ∀ (l m : List Value) (k : Nat) (xs ys : Array Value), VL r l m → VL r xs.toList ys.toList →
    VL r ((l.zipIdx k).foldl (fun cs (c, j) => cs.setIfInBounds (off + j) c) xs).toList ((m.zipIdx k).foldl (fun cs (c, j) => cs.setIfInBounds (off + j) c) ys).toList
  | [], [], _, _, _, _, h => h
  | a :: l, b :: m, k, xs, ys, hl, h => by
    simp only [VL, VR.go] at hl
    simp only [List.zipIdx_cons, List.foldl_cons]
    exact VL.fold off l m (k + 1) _ _ hl.2 (VL.setIf h (off + k) hl.1)
  | [], _ :: _, _, _, _, hl, _ => by simp [VL, VR.go] at hl
  | _ :: _, [], _, _, _, hl, _ => by simp [VL, VR.go] at hl

theorem fill_rel {r : PM} (place : Nat → Option (Nat × Nat)) : ∀ (l m : List (Nat × Value)) (xs ys : Array Value), PL r l m → VL r xs.toList ys.toList →
    ∀ c, Instr.fill place xs l = some c → ∃ c', Instr.fill place ys m = some c' ∧ VL r c.toList c'.toList
  | [], [], xs, ys, _, h, c, hc => by
    simp only [Instr.fill, Option.some.injEq] at hc
    subst hc
    exact ⟨ys, rfl, h⟩
  | (i, v) :: l, (j, u) :: m, xs, ys, hp, h, c, hc => by
    simp only [PL] at hp
    obtain ⟨rfl, hv, hp⟩ := hp
    unfold Instr.fill at hc ⊢
    cases hpl : place j with
    | none => rw [hpl] at hc; cases hc
    | some p =>
      obtain ⟨off, size⟩ := p
      rw [hpl] at hc
      simp only at hc ⊢
      rw [hv.cells.size, h.size]
      by_cases hcnd : (decide (v.cells.size ≠ size) || decide (off + v.cells.size > xs.size)) = true
      · rw [if_pos hcnd] at hc; cases hc
      · rw [if_neg hcnd] at hc ⊢
        refine fill_rel place l m _ _ hp ?_ c hc
        rw [← Array.foldl_toList, ← Array.foldl_toList, Array.toList_zipIdx, Array.toList_zipIdx]
        exact VL.fold off _ _ 0 _ _ hv.cells h
  | [], _ :: _, _, _, hp, _, _, _ => by simp [PL] at hp
  | _ :: _, [], _, _, hp, _, _, _ => by simp [PL] at hp

theorem flat_cells {v : Value} (h : flat v = true) (r : PM) : VL r v.cells.toList v.cells.toList := (flat_refl r v h).cells

/-- What asks no memory is the same on both sides. -/
def quiet' {α : Type} (P : Program) : Sem α → Prop
  | .pure _ => True
  | .program k => quiet' P (k P)
  | .mark _ k => quiet' P k
  | .halt _ => True
  | _ => False

theorem TR.same {α : Type} (t : Sem α) (r : PM) : quiet' P t → TR P Id' r t t := by
  induction t with
  | pure a => intro _; exact rfl
  | program k ih => intro h; simp only [quiet'] at h; simp only [TR]; exact ih P h
  | mark m k ih => intro h; simp only [quiet'] at h; simp only [TR]; exact ih h
  | halt h => intro _; simp only [TR]
  | _ => intro h; simp only [quiet'] at h

theorem quiet_bind {α β : Type} (t : Sem α) (f : α → Sem β) : quiet' P t → (∀ a, quiet' P (f a)) → quiet' P (t >>= f) := by
  induction t with
  | pure a => intro _ h; exact h a
  | program k ih => intro h hf; exact ih P h hf
  | mark m k ih => intro h hf; exact ih h hf
  | halt h => intro _ _; trivial
  | _ => intro h _; simp only [quiet'] at h

theorem quiet_typeInfo (t : TypeId) : quiet' P (typeInfo t) := by
  unfold Go.typeInfo program
  show quiet' P (Sem.program _)
  simp only [quiet', Sem.bind]
  split <;> trivial
theorem quiet_sizeOf (t : TypeId) : quiet' P (sizeOf t) := quiet_bind _ _ (quiet_typeInfo t) fun _ => trivial

theorem quiet_mapL {α β : Type} (f : α → Sem β) (hf : ∀ a, quiet' P (f a)) : ∀ l : List α, quiet' P (l.mapM f)
  | [] => by simp only [List.mapM_nil]; trivial
  | a :: l => by simp only [List.mapM_cons]; exact quiet_bind _ _ (hf a) fun _ => quiet_bind _ _ (quiet_mapL f hf l) fun _ => trivial

theorem TR.build {r : PM} {t : TypeId} {ps qs : Array (Nat × Value)} (hz : zf P t = true) (h : PL r ps.toList qs.toList) : TR P VRR r (Instr.build t ps) (Instr.build t qs) := by
  unfold Instr.build
  refine TR.bind' (TR.zeroValue hz) ?_
  rintro s z' z hle ⟨e, hf⟩
  subst e
  refine TR.bindI (TR.underlying t) fun s1 d hle1 => ?_
  have key : ∀ {u : PM} (hu : r.le u) (place : Nat → Option (Nat × Nat)) (msg : String), TR P VRR u
      (match Instr.fill place (Value.cells z) ps.toList with | some cells => pure (.agg cells) | _ => Go.stuck msg) (match Instr.fill place (Value.cells z) qs.toList with | some cells => pure (.agg cells) | _ => Go.stuck msg) := by
    intro u hu place msg
    cases hc : Instr.fill place (Value.cells z) ps.toList with
    | none => exact TR.stuck
    | some c =>
      obtain ⟨c', e1, e2⟩ := fill_rel place _ _ _ _ (h.mono hu) (flat_cells hf u) c hc
      rw [e1]
      exact VR.agg.2 e2
  split
  · refine TR.bindI (TR.same _ _ ?_) fun s2 places hle2 => key ((hle.trans hle1).trans hle2) _ _
    rw [Array.mapM_eq_mapM_toList]
    exact quiet_bind _ _ (quiet_mapL (fun f : Field => (do pure (f.offset, ← Go.sizeOf f.type) : Sem (Nat × Nat))) (fun f => quiet_bind (Go.sizeOf f.type) (fun n => pure (f.offset, n)) (quiet_sizeOf f.type) fun _ => trivial) _) fun _ => trivial
  · refine TR.bindI (TR.sizeOf _) fun s2 n hle2 => key ((hle.trans hle1).trans hle2) _ _
  · exact TR.stuck

theorem rep_rel {r : PM} {z : Value} (hf : flat z = true) (n : Nat) : VL r ((Array.range n).map (z.cells[· % z.cells.size]!)).toList ((Array.range n).map (z.cells[· % z.cells.size]!)).toList := by
  have hc := flat_cells hf r
  refine VL.of_get rfl fun k v hk => ⟨v, hk, ?_⟩
  rw [Array.getElem?_toList] at hk
  simp only [Array.getElem?_map, Option.map_eq_some_iff] at hk
  obtain ⟨a, _, rfl⟩ := hk
  by_cases hs : z.cells.size = 0
  · have : z.cells[a % z.cells.size]! = default := by simp [hs]
    rw [this]
    exact flat_refl r _ (by rfl)
  · have hlt : a % z.cells.size < z.cells.size := Nat.mod_lt _ (by omega)
    have e : z.cells[a % z.cells.size]! = z.cells[a % z.cells.size] := by simp [hlt]
    rw [e]
    obtain ⟨v', e1, e2⟩ := hc.get (k := a % z.cells.size) (v := z.cells[a % z.cells.size]) (by rw [Array.getElem?_toList]; simp [hlt])
    rw [Array.getElem?_toList] at e1
    simp only [hlt, Array.getElem?_eq_getElem, Option.some.injEq] at e1
    rw [← e1] at e2
    exact e2

theorem TR.buildSlice {r : PM} {t e : TypeId} {n : Nat} {ps qs : Array (Nat × Value)} (hu : P.underlying t = some (.slice e)) (hz : zf P e = true) (h : PL r ps.toList qs.toList) :
    TR P VRR r (Instr.buildSlice t n ps) (Instr.buildSlice t n qs) := by
  unfold Instr.buildSlice
  have hund : TR P (fun _ a b => b = a ∧ a = TypeDesc.slice e) r (Go.underlying t) (Go.underlying t) := by
    unfold Go.underlying program
    show TR P _ r (Sem.program _) (Sem.program _)
    simp only [TR, Sem.bind, hu]
    exact ⟨rfl, rfl⟩
  refine TR.bind' hund ?_
  rintro s _ _ hle ⟨rfl, rfl⟩
  refine TR.bindI (TR.sizeOf e) fun s1 sz hle1 => ?_
  have fin : ∀ {msg : String} {u : PM} (hu : r.le u) (z z' : Array Value), (∃ zv, flat zv = true ∧ z = zv.cells ∧ z' = zv.cells) ∨ (z = #[] ∧ z' = #[] ∧ n * sz = 0) → TR P VRR u
      (match Instr.fill (fun i => some (i * sz, sz)) ((Array.range (n * sz)).map (z[· % z.size]!)) ps.toList with
        | some cells => (do pure (.slice (some (← Go.newRow e cells)) n n)) | _ => Go.stuck msg)
      (match Instr.fill (fun i => some (i * sz, sz)) ((Array.range (n * sz)).map (z'[· % z'.size]!)) qs.toList with
        | some cells => (do pure (.slice (some (← Go.newRow e cells)) n n)) | _ => Go.stuck msg) := by
    intro msg u hu z z' hzz
    have hrel : VL u ((Array.range (n * sz)).map (z[· % z.size]!)).toList ((Array.range (n * sz)).map (z'[· % z'.size]!)).toList := by
      rcases hzz with ⟨zv, hf, rfl, rfl⟩ | ⟨rfl, rfl, h0⟩
      · exact rep_rel hf _
      · rw [h0]; simp [VR.go]
    cases hc : Instr.fill (fun i => some (i * sz, sz)) ((Array.range (n * sz)).map (z[· % z.size]!)) ps.toList with
    | none => exact TR.stuck
    | some c =>
      obtain ⟨c', e1, e2⟩ := fill_rel _ _ _ _ _ (h.mono hu) hrel c hc
      rw [e1]
      exact TR.bind' (TR.newRow e2) fun s a b _ hab => ⟨rfl, .inr ⟨0, 0, hab.1, by rw [hab.2.1, hab.2.2.1], hab.2.2.2.1, hab.2.2.2.2, rfl⟩⟩
  have hunsup : ∀ {α β : Type} {R : PM → α → β → Prop} {u : PM} (m : Unsupported) (f : Unit → Sem α) (t : Sem β), TR P R u (unsupported m >>= f) t := fun m f t => by
    show TR P _ _ (Sem.halt _) t
    simp only [TR]
  dsimp only
  by_cases hbig : n * sz > 2 ^ 24
  · rw [if_pos hbig]; exact hunsup _ _ _
  · rw [if_neg hbig, if_neg hbig]
    by_cases h0 : n * sz = 0
    · rw [if_pos h0, if_pos h0]
      exact fin (hle.trans hle1) #[] #[] (.inr ⟨rfl, rfl, h0⟩)
    · rw [if_neg h0, if_neg h0]
      refine TR.bind' (TR.zeroValue hz) ?_
      rintro s2 z z' hle2 ⟨e1, hf⟩
      subst e1
      exact fin ((hle.trans hle1).trans hle2) _ _ (.inl ⟨_, hf, rfl, rfl⟩)

theorem TR.part {r : PM} {t : TypeId} {xs ys : Array Value} {off : Nat} (h : VL r xs.toList ys.toList) : TR P VRR r (part t xs off) (part t ys off) := by
  unfold Go.part
  refine TR.bindI (TR.isAgg t) fun s c hle => ?_
  split
  · refine TR.bindI (TR.sizeOf t) fun s' n hle' => ?_
    have e : VL s' (xs.extract off (off + n)).toList (ys.extract off (off + n)).toList := by
      rw [Array.toList_extract, Array.toList_extract, List.extract_eq_take_drop, List.extract_eq_take_drop]
      exact VL.take _ (VL.drop _ ((h.mono hle).mono hle'))
    exact VR.agg.2 e
  · cases hx : xs[off]? with
    | none => exact TR.stuck
    | some v =>
      obtain ⟨v', e1, e2⟩ := (h.mono hle).get (k := off) (v := v) (by rw [Array.getElem?_toList]; exact hx)
      rw [Array.getElem?_toList] at e1
      rw [e1]
      exact e2

theorem TR.asAgg {r : PM} {v v' : Value} (h : VR r v v') : TR P CLR r (asAgg v) (asAgg v') := by
  cases v <;> try exact TR.stuck
  cases v' <;> try (simp only [VR] at h; done)
  exact VR.agg.1 h

theorem TR.field {r : PM} {t : TypeId} {v v' : Value} {i : Nat} (h : VR r v v') : TR P VRR r (Instr.field t v i) (Instr.field t v' i) := by
  unfold Instr.field
  refine TR.bindI (TR.underlying t) fun s d hle => ?_
  split
  · split
    · exact TR.bind' (TR.asAgg (h.mono hle)) fun s' xs ys _ hx => TR.part hx
    · exact TR.stuck
  · exact TR.stuck

theorem TR.asIntOf {r : PM} {v v' : Value} (h : VR r v v') : TR P Id' r (asIntOf v) (asIntOf v') := by
  cases v <;> try exact TR.stuck
  · cases v' <;> try (simp only [VR] at h; done)
    simp only [VR] at h
    rw [h.1, h.2]
    exact rfl
  · rename_i a
    cases a with
    | none => exact TR.stuck
    | some a => exact TR.unsup

/-! ### The same, said of what is reckoned -/

def SR (P : Program) {α β : Type} (R : PM → α → β → Prop) (r : PM) (t : Sem α) (t' : Sem β) : Prop :=
  ∀ G N H w a H', Rel P G N r H w → ar P t H = some (a, H') → ∃ s b w', t'.run P w = .ok b w' ∧ R s a b ∧ Ex P G N r H w s H' w'

theorem TR.sr {α β : Type} {R : PM → α → β → Prop} {r : PM} {t : Sem α} {t' : Sem β} (h : TR P R r t t') : SR P R r t t' := fun _ _ H w a H' hr he => ar_sound t t' r H w a H' h hr he

theorem ar_bind {α β : Type} (t : Sem α) (f : α → Sem β) : ∀ H, ar P (t.bind f) H = match ar P t H with | some (a, H') => ar P (f a) H' | none => none := by
  induction t with
  | pure a => intro H; rfl
  | load m a k ih => intro H; simp only [Sem.bind, ar]; cases H.cell a <;> simp [ih]
  | store m a v k ih => intro H; simp only [Sem.bind, ar]; cases one v <;> cases H.setCell a v <;> simp [ih]
  | new o k ih => intro H; simp only [Sem.bind, ar]; split <;> simp [ih]
  | getObj i k ih => intro H; simp only [Sem.bind, ar]; split <;> simp [ih]
  | setObj i o k ih =>
    intro H
    simp only [Sem.bind, ar]
    by_cases hc : (isCells o || decide (i < H.lo)) = true
    · rw [if_pos hc, if_pos hc]
    · rw [if_neg hc, if_neg hc]
      split <;> first | rfl | exact ih _
  | program k ih => intro H; exact ih P H
  | mark m k ih => intro H; exact ih H
  | _ => intro H; rfl

theorem run_bind' {α β : Type} (t : Sem α) (f : α → Sem β) : ∀ w, (t.bind f).run P w = match t.run P w with | .ok a w' => (f a).run P w' | .halt h w' => .halt h w' := by
  intro w
  have h := Sem.run_bind' P t f w
  show (t >>= f).run P w = _
  rw [show (t >>= f).run P w = (t.run P w).andThen fun a w' => (f a).run P w' from h]
  cases t.run P w <;> rfl

theorem SR.bind {α β γ δ : Type} {R1 : PM → α → β → Prop} {R2 : PM → γ → δ → Prop} {t : Sem α} {t' : Sem β} {r : PM} {f : α → Sem γ} {f' : β → Sem δ} (h : SR P R1 r t t')
    (k : ∀ s a b, r.le s → R1 s a b → SR P R2 s (f a) (f' b)) : SR P R2 r (t >>= f) (t' >>= f') := by
  intro G N H w a H' hr he
  have he' : (match ar P t H with | some (a, H') => ar P (f a) H' | none => none) = some (a, H') := (ar_bind t f H).symm.trans he
  cases ht : ar P t H with
  | none => rw [ht] at he'; cases he'
  | some p =>
    obtain ⟨a1, H1⟩ := p
    rw [ht] at he'
    obtain ⟨s, b, w1, g1, g2, g3⟩ := h G N H w a1 H1 hr ht
    obtain ⟨s2, b2, w2, j1, j2, j3⟩ := k s a1 b g3.le g2 G N H1 w1 a H' g3.rel he'
    refine ⟨s2, b2, w2, ?_, j2, g3.trans j3⟩
    show (t'.bind f').run P w = _
    rw [run_bind', g1]
    exact j1

theorem SR.dead {α β : Type} {R : PM → α → β → Prop} {r : PM} {t : Sem α} {t' : Sem β} (h : ∀ H, ar P t H = none) : SR P R r t t' := fun _ _ H _ _ _ _ he => by rw [h H] at he; cases he

theorem dead_runtimePanic {α : Type} {e : RuntimeError} (he : ∀ i c a m, e ≠ .typeAssertion i c a m) (he2 : e ≠ .panicNil) (H : AH) : ar P (runtimePanic e : Sem α) H = none := by
  cases e <;> first | rfl | exact absurd rfl he2 | exact absurd rfl (he _ _ _ _)

theorem dead_bounds {α : Type} (k : IntKind) (x y : Int) (c : BoundsCode) (H : AH) : ar P (boundsPanic k x y c : Sem α) H = none := by
  unfold boundsPanic
  dsimp only
  split
  · show ar P (Sem.bind (Sem.bind (Sem.choose _ _) _) _) H = none
    rfl
  · show ar P (runtimePanic (.bounds _ _ _ _)) H = none
    rfl

theorem SR.pure {α β : Type} {R : PM → α → β → Prop} {r : PM} {a : α} {b : β} (h : R r a b) : SR P R r (pure a) (pure b) := TR.sr (TR.ret h)
theorem SR.stuck {α β : Type} {R : PM → α → β → Prop} {r : PM} {m : String} {t : Sem β} : SR P R r (Go.stuck m : Sem α) t := SR.dead fun _ => rfl
theorem SR.bindI {α γ δ : Type} {R2 : PM → γ → δ → Prop} {t : Sem α} {r : PM} {f : α → Sem γ} {f' : α → Sem δ} (h : TR P Id' r t t)
    (k : ∀ s a, r.le s → SR P R2 s (f a) (f' a)) : SR P R2 r (t >>= f) (t >>= f') := SR.bind h.sr fun s a b hle e => by subst e; exact k s _ hle

end Go.Eng

namespace Go.Eng
open Go.RowKit

variable {P : Program} {ops : Array Oper}

/-! ### One operation of a region, in a frame of whatever kind -/

def RoundTo (P : Program) (l : Nat) (f : FuncId) (tm : Array Value) (assign body : Code) (w : World) (K : Value → World → Prop) : Prop :=
  ∀ (c : Frame) (cs : List Frame), ∃ v w', K v w' ∧ Steps P (lone (Frame.round l f tm assign body .normal) (c :: cs) w) (lone (c.finish v) cs w')

def NextTo (P : Program) (o : Oper) (K : Act → World → Prop) (a : Act) (n : Next) (w : World) : Prop :=
  match n with
  | .value v => K (a.put o.dst v) w
  | .skip => K (a.put o.dst undef) w
  | .enter f args => Calls P f args w fun e w' => ∃ v, e = .returned v ∧ K (a.put o.dst v) w'
  | .round l f tm assign body => RoundTo P l f tm assign body w fun v w' => K (a.put o.dst v) w'
  | _ => False

theorem NextTo.mono {o : Oper} {K K' : Act → World → Prop} {a : Act} {n : Next} {w : World} (h : NextTo P o K a n w) (hk : ∀ a w, K a w → K' a w) : NextTo P o K' a n w := by
  cases n <;> simp only [NextTo] at h ⊢ <;> first
    | exact hk _ _ h
    | exact h.mono fun e w' ⟨v, e1, e2⟩ => ⟨v, e1, hk _ _ e2⟩
    | exact fun c cs => let ⟨v, w', h1, h2⟩ := h c cs; ⟨v, w', hk _ _ h1, h2⟩

def OpTo (P : Program) (ops : Array Oper) (i : Nat) (K : Act → World → Prop) (a : Act) (w : World) : Prop :=
  match ops[i]? with
  | none => False
  | some o => if Region.wanted o (yielded ops a.tmps) then ∃ n w', (execOp a.eval o).run P w = .ok n w' ∧ NextTo P o K a n w' else K (a.put o.dst undef) w

theorem OpTo.mono {i : Nat} {K K' : Act → World → Prop} {a : Act} {w : World} (h : OpTo P ops i K a w) (hk : ∀ a w, K a w → K' a w) : OpTo P ops i K' a w := by
  unfold OpTo at *
  cases ho : ops[i]? with
  | none => rw [ho] at h; exact h.elim
  | some o =>
    rw [ho] at h
    simp only at h ⊢
    split at h
    · rename_i hw; rw [if_pos hw]; obtain ⟨n, w', h1, h2⟩ := h; exact ⟨n, w', h1, h2.mono hk⟩
    · rename_i hw; rw [if_neg hw]; exact hk _ _ h

theorem no_defer {o : Oper} {ρ : Operand → Value} {w w' : World} {n : Next} {K : Act → World → Prop} {a : Act} (h : (execOp ρ o).run P w = .ok n w') (hn : NextTo P o K a n w') : ∀ c, o.op ≠ .defer c := by
  intro c hc
  unfold execOp at h
  simp only [hc] at h
  have := run_bind' (P := P) (resolve ρ c o.type) (fun d => (pure (Next.defer d) : Sem Next)) w
  rw [show (do pure (Next.defer (← resolve ρ c o.type)) : Sem Next) = (resolve ρ c o.type).bind (fun d => (pure (Next.defer d) : Sem Next)) from rfl, this] at h
  split at h
  · simp only [pure, Sem.run, Result.ok.injEq] at h
    obtain ⟨rfl, _⟩ := h
    simp only [NextTo] at hn
  · cases h

theorem OpTo.steps {b : Frame} {a : Act} {k : List Item} {cs : List Frame} {w : World} {i : Nat} {rest : List Nat} {K : Act → World → Prop} (h : OpTo P ops i K a w) :
    ∃ a' w', K a' w' ∧ Steps P (lone (b.atR a (.inRegion ops (i :: rest) :: k)) cs w) (lone (b.atR a' (.inRegion ops rest :: k)) cs w') := by
  unfold OpTo at h
  split at h
  · exact h.elim
  · rename_i o ho
    have hfin : ∀ v, (b.atR a (.inRegion ops (i :: rest) :: k)).finish v = b.atR (a.put o.dst v) (.inRegion ops rest :: k) := by
      intro v; rw [Frame.finish_atR, ho]; rfl
    split at h
    · rename_i hw
      obtain ⟨n, w', hr, hn⟩ := h
      have hg := stepGR_op (P := P) (b := b) (k := k) (cs := cs) (w := w) (rest := rest) ho hw
      rw [Oper.semAt_eq _ _ _ (no_defer hr hn)] at hg
      cases n <;> simp only [NextTo] at hn
      case value v =>
        refine ⟨_, _, hn, .one (step_lone_go ?_)⟩
        rw [hg, ← hfin]; simp [stepG.apply, Sem.runT_eq, hr]
      case skip =>
        refine ⟨_, _, hn, .one (step_lone_go ?_)⟩
        rw [hg, ← hfin]; simp [stepG.apply, Sem.runT_eq, hr]
      case enter f args =>
        obtain ⟨e, w'', fr, ⟨v, rfl, hK⟩, hsteps, _, hleave⟩ := hn (b.atR a (.inRegion ops (i :: rest) :: k) :: cs)
        have henter : step P (lone (b.atR a (.inRegion ops (i :: rest) :: k)) cs w) = .next (lone (Frame.enter P f args .normal) (b.atR a (.inRegion ops (i :: rest) :: k) :: cs) w') :=
          step_lone_go (by rw [hg]; simp [stepG.apply, Sem.runT_eq, hr, Frame.atR])
        refine ⟨_, _, hK, .head henter (Steps.trans hsteps (.one ?_))⟩
        rw [← hfin]; exact step_leave_returned hleave
      case round l f tm assign body =>
        obtain ⟨v, w'', hK, hsteps⟩ := hn (b.atR a (.inRegion ops (i :: rest) :: k)) cs
        have henter : step P (lone (b.atR a (.inRegion ops (i :: rest) :: k)) cs w) = .next (lone (Frame.round l f tm assign body .normal) (b.atR a (.inRegion ops (i :: rest) :: k) :: cs) w') :=
          step_lone_go (by rw [hg]; simp [stepG.apply, Sem.runT_eq, hr])
        refine ⟨_, _, hK, .head henter ?_⟩
        rw [← hfin]; exact hsteps
    · rename_i hw
      have hs := stepR_op_skip (P := P) (b := b) (a := a) (k := k) (cs := cs) (w := w) (ops := ops) (i := i) (rest := rest) (by simp [ho]; simpa using hw)
      simp only [ho, Option.bind_some] at hs
      exact ⟨_, _, h, .one hs⟩

def OpsTo (P : Program) (ops : Array Oper) (K : Act → World → Prop) : List Nat → Act → World → Prop
  | [], a, w => K a w
  | i :: l, a, w => OpTo P ops i (OpsTo P ops K l) a w

theorem OpsTo.steps {b : Frame} {k : List Item} {cs : List Frame} {K : Act → World → Prop} : ∀ (l : List Nat) (a : Act) (w : World), OpsTo P ops K l a w →
    ∃ a' w', K a' w' ∧ Steps P (lone (b.atR a (.inRegion ops l :: k)) cs w) (lone (b.atR a' k) cs w')
  | [], a, w, h => ⟨a, w, h, .one stepR_region_end⟩
  | i :: l, a, w, h => by
    obtain ⟨a1, w1, h1, s1⟩ := OpTo.steps (b := b) (k := k) (cs := cs) (rest := l) h
    obtain ⟨a2, w2, h2, s2⟩ := OpsTo.steps l a1 w1 h1
    exact ⟨a2, w2, h2, s1.trans s2⟩

/-! ### In whatever order -/

abbrev Ent := Nat × Addr × Value
def Holds (lg : List Ent) (w : World) : Prop := ∀ p, p ∈ lg → w.cell? p.2.1 = some p.2.2
def cut (D : Nat → Nat → Bool) (j : Nat) (lg : List Ent) : List Ent := lg.filter fun p => !D j p.1

def AnyS (P : Program) (ops : Array Oper) (D : Nat → Nat → Bool) (K : Act → World → Prop) : Nat → Array Bool → List Ent → Act → World → Prop
  | 0, listed, _, a, w => Region.ready .any ops listed = [] ∧ K a w
  | n + 1, listed, lg, a, w => (Region.ready .any ops listed = [] → K a w) ∧
    ∀ i, i ∈ Region.ready .any ops listed → OpTo P ops i (fun a' w' => Holds (cut D i lg) w' ∧ AnyS P ops D K n (listed.setIfInBounds i true) (cut D i lg) a' w') a w

theorem AnyS.weaken {D : Nat → Nat → Bool} {K : Act → World → Prop} : ∀ (n : Nat) (listed : Array Bool) (lg lg' : List Ent) (a : Act) (w : World), (∀ p, p ∈ lg' → p ∈ lg) →
    AnyS P ops D K n listed lg a w → AnyS P ops D K n listed lg' a w
  | 0, _, _, _, _, _, _, h => h
  | n + 1, listed, lg, lg', a, w, hs, h => by
    refine ⟨h.1, fun i hi => (h.2 i hi).mono fun a' w' ⟨h1, h2⟩ => ?_⟩
    have hc : ∀ p, p ∈ cut D i lg' → p ∈ cut D i lg := fun p hp => by
      simp only [cut, List.mem_filter] at hp ⊢; exact ⟨hs p hp.1, hp.2⟩
    exact ⟨fun p hp => h1 p (hc p hp), AnyS.weaken n _ _ _ a' w' hc h2⟩

theorem AnyS.sound {D : Nat → Nat → Bool} {K : Act → World → Prop} : ∀ (n t : Nat) (listed : Array Bool) (lg : List Ent) (a : Act) (w : World), AnyS P ops D K n listed lg a w →
    OpsTo P ops K (Region.linearise.go .any ops n t listed []) a w := by
  intro n
  induction n with
  | zero => intro t listed lg a w h; simpa [Region.linearise.go, OpsTo] using h.2
  | succ n ih =>
    intro t listed lg a w h
    obtain ⟨h₀, h₁⟩ := h
    simp only [Region.linearise.go]
    change OpsTo P ops K (match (Region.ready .any ops listed)[t % (Region.ready .any ops listed).length]? with
      | some i => Region.linearise.go .any ops n (t / (Region.ready .any ops listed).length) (listed.setIfInBounds i true) [i]
      | none => [].reverse) a w
    cases hi : (Region.ready .any ops listed)[t % (Region.ready .any ops listed).length]? with
    | none =>
      have hnil : Region.ready .any ops listed = [] := by
        cases hr : Region.ready .any ops listed with
        | nil => rfl
        | cons x xs =>
          rw [hr] at hi
          have hlt : t % (x :: xs).length < (x :: xs).length := Nat.mod_lt _ (by simp)
          simp at hi
          simp at hlt
          omega
      simpa [OpsTo] using h₀ hnil
    | some i =>
      simp only []
      rw [linearise_go_acc, List.reverse_singleton, List.singleton_append]
      exact (h₁ i (List.mem_of_getElem? hi)).mono (fun a w h => ih _ _ _ a w h.2)

theorem AnyS.region {D : Nat → Nat → Bool} {K : Act → World → Prop} {b : Frame} {k : List Item} {cs : List Frame} {id : Nat} {a : Act} {w : World} {lg : List Ent} (hm : P.follows .mixedOrders = true)
    (h : AnyS P ops D K ops.size (Array.replicate ops.size false) lg a { w with drawn := w.drawn + 1 }) :
    ∃ a' w', K a' w' ∧ Steps P (lone (b.atR a (.code (.region id ops true) :: k)) cs w) (lone (b.atR a' k) cs w') := by
  obtain ⟨a', w', h1, h2⟩ := OpsTo.steps (b := b) (k := k) (cs := cs) _ _ _ (AnyS.sound ops.size (w.tape w.drawn (.order b.fn id)) _ _ _ _ h)
  refine ⟨a', w', h1, .head stepR_region_draw ?_⟩
  simp only [Region.schedule, hm, Bool.true_or, if_true, Region.linearise]
  exact h2

/-! ### What only asks may be taken first -/

def Down (ops : Array Oper) (listed : Array Bool) : Prop := ∀ k o, ops[k]? = some o → listed.getD k false = true → ∀ e, e ∈ o.after → Region.binds .any e = true → listed.getD e.on false = true

/-- 'D j m' says that j waits for m. -/
def DP (ops : Array Oper) (D : Nat → Nat → Bool) : Prop := ∀ j o listed, Down ops listed → ops[j]? = some o → (∀ e, e ∈ o.after → Region.binds .any e = true → listed.getD e.on false = true) → ∀ m, D j m = true → listed.getD m false = true

theorem getD_bool {listed : Array Bool} {i : Nat} (h : listed.getD i true = false) : listed.getD i false = false := by
  rcases Nat.lt_or_ge i listed.size with h' | h'
  · simp [h'] at h ⊢; exact h
  · simp [Array.getElem?_eq_none h'] at h

theorem Down.ready {listed : Array Bool} (h : Down ops listed) {i : Nat} (hi : i ∈ Region.ready .any ops listed) : Down ops (listed.setIfInBounds i true) := by
  intro k o ho hk e he hb
  obtain ⟨_, oi, hoi, hall⟩ := mem_ready.1 hi
  by_cases hki : k = i
  · subst hki
    rw [ho] at hoi
    cases hoi
    exact getD_set_true (hall e he hb)
  · rw [getD_set_ne false (fun e => hki e.symm)] at hk
    exact getD_set_true (h k o ho hk e he hb)

theorem OpTo.put {j : Nat} {oi oj : Oper} {v : Value} (hj : ops[j]? = some oj) (hap : oi.apart ops oj = true) (hsj : ∀ cs b, oj.op ≠ .select cs b) {K : Act → World → Prop} {a : Act} {w : World}
    (h : OpTo P ops j K (a.put oi.dst v) w) : OpTo P ops j (fun a' w' => K (a'.put oi.dst v) w' ∧ ∃ u, a' = a.put oj.dst u) a w := by
  obtain ⟨h1, h2, h3⟩ := Oper.apart_spec hap
  unfold OpTo at *
  simp only [hj] at *
  rw [wanted_put oj a oi.dst v h1] at h
  split
  · rename_i hw
    rw [if_pos hw] at h
    obtain ⟨n, w', hr, hn⟩ := h
    rw [execOp_put oj hsj a oi.dst v h1] at hr
    refine ⟨n, w', hr, ?_⟩
    cases n <;> simp only [NextTo] at hn ⊢
    case value u => exact ⟨by rw [← Act.put_comm a v u h2]; exact hn, u, rfl⟩
    case skip => exact ⟨by rw [← Act.put_comm a v undef h2]; exact hn, undef, rfl⟩
    case enter f args => exact hn.mono fun e w'' ⟨u, e1, e2⟩ => ⟨u, e1, by rw [← Act.put_comm a v u h2]; exact e2, u, rfl⟩
    case round l f tm assign body => exact fun c cs => let ⟨u, w'', e1, e2⟩ := hn c cs; ⟨u, w'', ⟨by rw [← Act.put_comm a v u h2]; exact e1, u, rfl⟩, e2⟩
  · rename_i hw
    rw [if_neg hw] at h
    exact ⟨by rw [← Act.put_comm a v undef h2]; exact h, undef, rfl⟩

theorem AnyS.first {D : Nat → Nat → Bool} {K : Act → World → Prop} (hD : DP ops D) {i : Nat} {oi : Oper} {v : Value} {es : List Ent} (hi : ops[i]? = some oi)
    (hsel : ∀ (j : Nat) (o : Oper) cs b, ops[j]? = some o → o.op ≠ .select cs b) (hes : ∀ p, p ∈ es → p.1 = i)
    (hap : ∀ j oj, ops[j]? = some oj → j ≠ i → D j i = false → D i j = false → oi.apart ops oj = true) :
    ∀ (n : Nat) (listed : Array Bool) (lg : List Ent) (a : Act) (w : World), Down ops listed → i ∈ Region.ready .any ops listed → YieldsIf P ops (Holds es) oi v a → Holds es w → Holds lg w →
      AnyS P ops D K n (listed.setIfInBounds i true) (es ++ lg) (a.put oi.dst v) w → AnyS P ops D K (n + 1) listed lg a w := by
  have now : ∀ (n : Nat) (listed : Array Bool) (lg : List Ent) (a : Act) (w : World), YieldsIf P ops (Holds es) oi v a → Holds es w → Holds lg w →
      AnyS P ops D K n (listed.setIfInBounds i true) (es ++ lg) (a.put oi.dst v) w →
      OpTo P ops i (fun a' w' => Holds (cut D i lg) w' ∧ AnyS P ops D K n (listed.setIfInBounds i true) (cut D i lg) a' w') a w := by
    intro n listed lg a w hy hS hlg H
    have hsub : ∀ p, p ∈ cut D i lg → p ∈ es ++ lg := fun p hp => List.mem_append_right _ (List.mem_filter.1 hp).1
    have hK : Holds (cut D i lg) w ∧ AnyS P ops D K n (listed.setIfInBounds i true) (cut D i lg) (a.put oi.dst v) w :=
      ⟨fun p hp => hlg p (List.mem_filter.1 hp).1, AnyS.weaken n _ _ _ _ w hsub H⟩
    unfold OpTo
    simp only [hi]
    rcases hy with ⟨hw, hv⟩ | ⟨hw, rfl⟩
    · rw [if_pos hw]; exact ⟨.value v, w, hv w hS, hK⟩
    · rw [if_neg (by rw [hw]; simp)]; exact hK
  intro n
  induction n with
  | zero =>
    intro listed lg a w hd hr hy hS hlg H
    refine ⟨fun h => (by rw [h] at hr; cases hr), fun j hj => ?_⟩
    by_cases hji : j = i
    · subst hji; exact now 0 listed lg a w hy hS hlg H
    · have := ready_mono hj hji
      rw [H.1] at this
      cases this
  | succ n ih =>
    intro listed lg a w hd hr hy hS hlg H
    refine ⟨fun h => (by rw [h] at hr; cases hr), fun j hj => ?_⟩
    by_cases hji : j = i
    · subst hji; exact now (n + 1) listed lg a w hy hS hlg H
    · have h1 := H.2 j (ready_mono hj hji)
      obtain ⟨hjun, oj, hoj, hall⟩ := mem_ready.1 hj
      obtain ⟨hiun, oi', hoi', halli⟩ := mem_ready.1 hr
      rw [hi] at hoi'
      cases hoi'
      have hDji : D j i = false := by
        cases hh : D j i with
        | false => rfl
        | true => have := hD j oj listed hd hoj hall i hh; rw [getD_bool hiun] at this; cases this
      have hDij : D i j = false := by
        cases hh : D i j with
        | false => rfl
        | true => have := hD i oi listed hd hi halli j hh; rw [getD_bool hjun] at this; cases this
      have hap' := hap j oj hoj hji hDji hDij
      have h2 := OpTo.put hoj hap' (fun cs b => hsel j oj cs b hoj) h1
      have hcut : cut D j (es ++ lg) = es ++ cut D j lg := by
        unfold cut
        rw [List.filter_append]
        congr 1
        rw [List.filter_eq_self]
        intro p hp
        rw [hes p hp, hDji]; rfl
      refine h2.mono fun a' w' ⟨⟨h3, h4⟩, u, hu⟩ => ?_
      rw [hcut] at h3 h4
      have hes' : Holds es w' := fun p hp => h3 p (List.mem_append_left _ hp)
      have hlg' : Holds (cut D j lg) w' := fun p hp => h3 p (List.mem_append_right _ hp)
      refine ⟨hlg', ih (listed.setIfInBounds j true) (cut D j lg) a' w' (hd.ready hj) (ready_mono hr (Ne.symm hji)) ?_ hes' hlg' ?_⟩
      · obtain ⟨p1, p2, p3⟩ := Oper.apart_spec hap'
        subst hu
        exact hy.of_same (execOp_put oi (fun cs b => hsel i oi cs b hi) a oj.dst u p3) (wanted_put oi a oj.dst u p3)
      · rw [Array.setIfInBounds_comm _ _ hji]
        exact h4

end Go.Eng
