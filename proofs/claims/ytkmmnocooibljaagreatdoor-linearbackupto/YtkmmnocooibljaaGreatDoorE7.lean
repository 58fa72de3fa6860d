/-
  Closed runs reckoned by the kernel, part 7: the executor as the kernel walks it.
-/
import Derived.Test.YtkmmnocooibljaaGreatDoorE6
set_option linter.all false

namespace Go.Eng
open Go.RowKit

abbrev R := Option Value
abbrev KV := Value → AH → R
structure SF where
  fn : FuncId
  sz : Nat
  marks : List Nat
  rnd : Option Nat

abbrev KE := Option Code → SF → T4 Value → AH → R
abbrev RunK := SF → T4 Value → List Item → AH → KE → R

/-- The frame that is meant. -/
def fr (S : SF) (tm : T4 Value) (td : List Item) : AFr := ⟨S.fn, S.sz, tm, td, S.marks, S.rnd⟩

structure Bx (α : Type) where
  v : α

/-! ### Tries, as the kernel walks them -/

structure GK (α β : Type) where
  get : β → (α → R) → R
  set : β → α → (β → R) → R
def gk0 {α β : Type} (g : β → (α → R) → R) (q : Q β) (k : α → R) : R := @Q.casesOn β (fun _ => R) q (fun a _ _ _ => g a k)
def gk1 {α β : Type} (g : β → (α → R) → R) (q : Q β) (k : α → R) : R := @Q.casesOn β (fun _ => R) q (fun _ a _ _ => g a k)
def gk2 {α β : Type} (g : β → (α → R) → R) (q : Q β) (k : α → R) : R := @Q.casesOn β (fun _ => R) q (fun _ _ a _ => g a k)
def gk3 {α β : Type} (g : β → (α → R) → R) (q : Q β) (k : α → R) : R := @Q.casesOn β (fun _ => R) q (fun _ _ _ a => g a k)
def sk0 {α β : Type} (s : β → α → (β → R) → R) (q : Q β) (v : α) (k : Q β → R) : R := @Q.casesOn β (fun _ => R) q (fun a b c d => s a v (fun a => k ⟨a, b, c, d⟩))
def sk1 {α β : Type} (s : β → α → (β → R) → R) (q : Q β) (v : α) (k : Q β → R) : R := @Q.casesOn β (fun _ => R) q (fun a b c d => s b v (fun b => k ⟨a, b, c, d⟩))
def sk2 {α β : Type} (s : β → α → (β → R) → R) (q : Q β) (v : α) (k : Q β → R) : R := @Q.casesOn β (fun _ => R) q (fun a b c d => s c v (fun c => k ⟨a, b, c, d⟩))
def sk3 {α β : Type} (s : β → α → (β → R) → R) (q : Q β) (v : α) (k : Q β → R) : R := @Q.casesOn β (fun _ => R) q (fun a b c d => s d v (fun d => k ⟨a, b, c, d⟩))
def gkUp {α β : Type} (d : Nat) (x : GK α β) : GK α (Q β) :=
  @GK.casesOn α β (fun _ => GK α (Q β)) x (fun g s => ifb (Nat.beq d 0) ⟨gk0 g, sk0 s⟩ (ifb (Nat.beq d 1) ⟨gk1 g, sk1 s⟩ (ifb (Nat.beq d 2) ⟨gk2 g, sk2 s⟩ ⟨gk3 g, sk3 s⟩)))
def gkId {α : Type} : GK α α := ⟨fun x k => k x, fun _ v k => k v⟩
def at4 {α : Type} (n : Nat) : GK α (T4 α) := gkUp (digit n 64) (gkUp (digit n 16) (gkUp (digit n 4) (gkUp (Nat.mod n 4) gkId)))
def at7 {α : Type} (n : Nat) : GK (Option α) (T7 α) := gkUp (digit n 4096) (gkUp (digit n 1024) (gkUp (digit n 256) (at4 (Nat.mod n 256))))
def getT (tm : T4 Value) (n : Nat) (k : Value → R) : R := @GK.casesOn Value (T4 Value) (fun _ => R) (at4 n) (fun g _ => g tm k)
def setT (tm : T4 Value) (n : Nat) (v : Value) (k : T4 Value → R) : R := @GK.casesOn Value (T4 Value) (fun _ => R) (at4 n) (fun _ s => s tm v k)
def get7 (t : T7 Obj) (n : Nat) (k : Option Obj → R) : R := @GK.casesOn (Option Obj) (T7 Obj) (fun _ => R) (at7 n) (fun g _ => g t k)
def set7 (t : T7 Obj) (n : Nat) (v : Option Obj) (k : T7 Obj → R) : R := @GK.casesOn (Option Obj) (T7 Obj) (fun _ => R) (at7 n) (fun _ s => s t v k)
def getH (H : AH) (i : Nat) (k : Option Obj → R) : R := @AH.casesOn (fun _ => R) H (fun t n _ => @Bool.casesOn (fun _ => R) (Nat.ble (Nat.succ i) n) (k none) (get7 t i k))
def setH (H : AH) (i : Nat) (o : Obj) (k : AH → R) : R := @AH.casesOn (fun _ => R) H (fun t n l => set7 t i (some o) (fun t => k ⟨t, n, l⟩))

def vPtr : Value → (Option Addr → R) → R → R :=
  (fun tt => @Value.casesOn (fun _ => (Option Addr → R) → R → R) tt (fun _ _ d => d) (fun _ _ _ d => d) (fun _ _ _ d => d) (fun _ _ _ _ d => d) (fun _ _ d => d) (fun a  k _ => k a) (fun _ _ _ _ d => d) (fun _ _ d => d) (fun _ _ d => d) (fun _ _ _ _ d => d) (fun _ d => d) (fun _ _ _ d => d) (fun _ d => d) (fun _ _ d => d) (fun _ _ d => d))
theorem vPtr_eq (v : Value) (k : Option Addr → R) (d : R) : vPtr v k d = match v with | .pointer a => k a | _ => d := by cases v <;> rfl
def vInt : Value → (IntKind → Int → R) → R → R :=
  (fun tt => @Value.casesOn (fun _ => (IntKind → Int → R) → R → R) tt (fun _ _ d => d) (fun a b  k _ => k a b) (fun _ _ _ d => d) (fun _ _ _ _ d => d) (fun _ _ d => d) (fun _ _ d => d) (fun _ _ _ _ d => d) (fun _ _ d => d) (fun _ _ d => d) (fun _ _ _ _ d => d) (fun _ d => d) (fun _ _ _ d => d) (fun _ d => d) (fun _ _ d => d) (fun _ _ d => d))
theorem vInt_eq (v : Value) (k : IntKind → Int → R) (d : R) : vInt v k d = match v with | .int a b => k a b | _ => d := by cases v <;> rfl
def vBool : Value → (Bool → R) → R → R :=
  (fun tt => @Value.casesOn (fun _ => (Bool → R) → R → R) tt (fun a  k _ => k a) (fun _ _ _ d => d) (fun _ _ _ d => d) (fun _ _ _ _ d => d) (fun _ _ d => d) (fun _ _ d => d) (fun _ _ _ _ d => d) (fun _ _ d => d) (fun _ _ d => d) (fun _ _ _ _ d => d) (fun _ d => d) (fun _ _ _ d => d) (fun _ d => d) (fun _ _ d => d) (fun _ _ d => d))
theorem vBool_eq (v : Value) (k : Bool → R) (d : R) : vBool v k d = match v with | .bool a => k a | _ => d := by cases v <;> rfl
def vStr : Value → (ByteArray → R) → R → R :=
  (fun tt => @Value.casesOn (fun _ => (ByteArray → R) → R → R) tt (fun _ _ d => d) (fun _ _ _ d => d) (fun _ _ _ d => d) (fun _ _ _ _ d => d) (fun a  k _ => k a) (fun _ _ d => d) (fun _ _ _ _ d => d) (fun _ _ d => d) (fun _ _ d => d) (fun _ _ _ _ d => d) (fun _ d => d) (fun _ _ _ d => d) (fun _ d => d) (fun _ _ d => d) (fun _ _ d => d))
theorem vStr_eq (v : Value) (k : ByteArray → R) (d : R) : vStr v k d = match v with | .string a => k a | _ => d := by cases v <;> rfl
def vSlice : Value → (Option Addr → Nat → Nat → R) → R → R :=
  (fun tt => @Value.casesOn (fun _ => (Option Addr → Nat → Nat → R) → R → R) tt (fun _ _ d => d) (fun _ _ _ d => d) (fun _ _ _ d => d) (fun _ _ _ _ d => d) (fun _ _ d => d) (fun _ _ d => d) (fun a b c  k _ => k a b c) (fun _ _ d => d) (fun _ _ d => d) (fun _ _ _ _ d => d) (fun _ d => d) (fun _ _ _ d => d) (fun _ d => d) (fun _ _ d => d) (fun _ _ d => d))
theorem vSlice_eq (v : Value) (k : Option Addr → Nat → Nat → R) (d : R) : vSlice v k d = match v with | .slice a b c => k a b c | _ => d := by cases v <;> rfl
def vTuple : Value → (Array Value → R) → R → R :=
  (fun tt => @Value.casesOn (fun _ => (Array Value → R) → R → R) tt (fun _ _ d => d) (fun _ _ _ d => d) (fun _ _ _ d => d) (fun _ _ _ _ d => d) (fun _ _ d => d) (fun _ _ d => d) (fun _ _ _ _ d => d) (fun _ _ d => d) (fun _ _ d => d) (fun _ _ _ _ d => d) (fun _ d => d) (fun _ _ _ d => d) (fun _ d => d) (fun _ _ d => d) (fun a k _ => k a))
theorem vTuple_eq (v : Value) (k : Array Value → R) (d : R) : vTuple v k d = match v with | .tuple a => k a | _ => d := by cases v <;> rfl
def vFunc : Value → (Fn → Array Value → Array Value → R) → R → R :=
  (fun tt => @Value.casesOn (fun _ => (Fn → Array Value → Array Value → R) → R → R) tt (fun _ _ d => d) (fun _ _ _ d => d) (fun _ _ _ d => d) (fun _ _ _ _ d => d) (fun _ _ d => d) (fun _ _ d => d) (fun _ _ _ _ d => d) (fun _ _ d => d) (fun _ _ d => d) (fun a b c k _ => k a b c) (fun _ d => d) (fun _ _ _ d => d) (fun _ d => d) (fun _ _ d => d) (fun _ _ d => d))
theorem vFunc_eq (v : Value) (k : Fn → Array Value → Array Value → R) (d : R) : vFunc v k d = match v with | .func a b c => k a b c | _ => d := by cases v <;> rfl
def vCells : Value → List Value :=
  (fun tt => @Value.casesOn (fun _ => List Value) tt (fun a  => [Value.bool a]) (fun a b  => [Value.int a b]) (fun a b  => [Value.float a b]) (fun a b c  => [Value.complex a b c]) (fun a  => [Value.string a]) (fun a  => [Value.pointer a]) (fun a b c  => [Value.slice a b c]) (fun a  => [Value.map a]) (fun a  => [Value.chan a]) (fun a b c => [Value.func a b c]) [Value.nilFunc] (fun a b => [Value.iface a b]) [Value.nilIface] (fun a => @Array.casesOn Value (fun _ => List Value) a (fun l => l)) (fun a => [Value.tuple a]))
theorem vCells_eq (v : Value) : vCells v = v.cells.toList := by cases v <;> rfl
def oneK : Value → Bool :=
  (fun tt => @Value.casesOn (fun _ => Bool) tt (fun _ => true) (fun _ _ => true) (fun _ _ => true) (fun _ _ _ => true) (fun _ => true) (fun _ => true) (fun _ _ _ => true) (fun _ => true) (fun _ => true) (fun _ _ _ => true) true (fun _ _ => true) true (fun _ => false) (fun _ => false))
theorem oneK_eq (v : Value) : oneK v = one v := by cases v <;> rfl
def kEqK : IntKind → IntKind → Bool :=
  (fun tt => @IntKind.casesOn (fun _ => IntKind → Bool) tt ((fun tt => @IntKind.casesOn (fun _ => Bool) tt true false false false false false false false)) ((fun tt => @IntKind.casesOn (fun _ => Bool) tt false true false false false false false false)) ((fun tt => @IntKind.casesOn (fun _ => Bool) tt false false true false false false false false)) ((fun tt => @IntKind.casesOn (fun _ => Bool) tt false false false true false false false false)) ((fun tt => @IntKind.casesOn (fun _ => Bool) tt false false false false true false false false)) ((fun tt => @IntKind.casesOn (fun _ => Bool) tt false false false false false true false false)) ((fun tt => @IntKind.casesOn (fun _ => Bool) tt false false false false false false true false)) ((fun tt => @IntKind.casesOn (fun _ => Bool) tt false false false false false false false true)))
theorem kEqK_eq (a b : IntKind) : kEqK a b = kEq a b := by cases a <;> cases b <;> rfl
def limK : IntKind → Nat := (fun tt => @IntKind.casesOn (fun _ => Nat) tt 128 32768 2147483648 9223372036854775808 256 65536 4294967296 18446744073709551616)
theorem limK_eq (k : IntKind) : limK k = lim k := by cases k <;> rfl

def notB (b : Bool) : Bool := @Bool.casesOn (fun _ => Bool) b true false
theorem notB_eq (b : Bool) : notB b = !b := by cases b <;> rfl
def addI (a b : Int) : Int := @Int.casesOn (fun _ => Int) a (fun x => @Int.casesOn (fun _ => Int) b (fun y => .ofNat (Nat.add x y)) (fun _ => Int.add a b)) (fun _ => Int.add a b)
theorem addI_eq (a b : Int) : addI a b = Int.add a b := by cases a <;> cases b <;> rfl
def subI (a b : Int) : Int := @Int.casesOn (fun _ => Int) a (fun x => @Int.casesOn (fun _ => Int) b (fun y => @Bool.casesOn (fun _ => Int) (Nat.ble y x) (Int.sub a b) (.ofNat (Nat.sub x y))) (fun _ => Int.sub a b)) (fun _ => Int.sub a b)
theorem subI_eq (a b : Int) : subI a b = Int.sub a b := by
  cases a with
  | negSucc _ => rfl
  | ofNat x => cases b with
    | negSucc _ => rfl
    | ofNat y =>
      show @Bool.casesOn (fun _ => Int) (Nat.ble y x) (Int.sub (.ofNat x) (.ofNat y)) (.ofNat (Nat.sub x y)) = _
      cases h : Nat.ble y x with
      | false => rfl
      | true =>
        have h1 : y ≤ x := Nat.le_of_ble_eq_true h
        show Int.ofNat (x - y) = Int.ofNat x - Int.ofNat y
        simp only [Int.ofNat_eq_natCast]
        omega
def fitI (k : IntKind) (n : Int) : Int := @Int.casesOn (fun _ => Int) n (fun m => @Bool.casesOn (fun _ => Int) (Nat.ble (Nat.succ m) (limK k)) (k.wrap n) (.ofNat m)) (fun _ => k.wrap n)
theorem fitI_eq (k : IntKind) (n : Int) : fitI k n = fitK k n := by
  cases n with
  | negSucc _ => rfl
  | ofNat m =>
    show @Bool.casesOn (fun _ => Int) (Nat.ble (Nat.succ m) (limK k)) (k.wrap (.ofNat m)) (.ofNat m) = ifb (Nat.blt m (lim k)) (.ofNat m) (k.wrap (.ofNat m))
    rw [limK_eq]; rfl
def eqI (x y : Int) : Bool := @Int.casesOn (fun _ => Bool) x (fun a => @Int.casesOn (fun _ => Bool) y (fun b => Nat.beq a b) (fun _ => false)) (fun a => @Int.casesOn (fun _ => Bool) y (fun _ => false) (fun b => Nat.beq a b))
theorem eqI_eq (x y : Int) : eqI x y = iEq x y := by cases x <;> cases y <;> rfl
def ltI (x y : Int) : Bool := @Int.casesOn (fun _ => Bool) x (fun a => @Int.casesOn (fun _ => Bool) y (fun b => Nat.ble (Nat.succ a) b) (fun _ => false)) (fun a => @Int.casesOn (fun _ => Bool) y (fun _ => true) (fun b => Nat.ble (Nat.succ b) a))
theorem ltI_eq (x y : Int) : ltI x y = iLt x y := by cases x <;> cases y <;> rfl
def cn (n : Nat) (k : Nat → R) : R := @Nat.rec (fun _ => R) (k 0) (fun m _ => k (Nat.succ m)) n
theorem cn_eq (n : Nat) (k : Nat → R) : cn n k = k n := by cases n <;> rfl
def boolC (b : Bool) (k : Value → R) : R := @Bool.casesOn (fun _ => R) b (k (.bool false)) (k (.bool true))
theorem boolC_eq (b : Bool) (k : Value → R) : boolC b k = k (.bool b) := by cases b <;> rfl
def fitC (k : IntKind) (n : Int) (c : Value → R) : R := @Int.casesOn (fun _ => R) n (fun m => @Bool.casesOn (fun _ => R) (Nat.ble (Nat.succ m) (limK k)) (c (.int k (k.wrap (.ofNat m)))) (cn m (fun m => c (.int k (.ofNat m))))) (fun m => c (.int k (k.wrap (.negSucc m))))
theorem fitC_eq (k : IntKind) (n : Int) (c : Value → R) : fitC k n c = c (.int k (fitI k n)) := by
  cases n with
  | negSucc _ => rfl
  | ofNat m =>
    show @Bool.casesOn (fun _ => R) (Nat.ble (Nat.succ m) (limK k)) (c (.int k (k.wrap (.ofNat m)))) (cn m (fun m => c (.int k (.ofNat m)))) = c (.int k (@Bool.casesOn (fun _ => Int) (Nat.ble (Nat.succ m) (limK k)) (k.wrap (.ofNat m)) (.ofNat m)))
    rw [cn_eq]
    cases Nat.ble (Nat.succ m) (limK k) <;> rfl
def binIK : BinOp → IntKind → Int → Int → (Value → R) → R → R :=
  (fun tt => @BinOp.casesOn (fun _ => IntKind → Int → Int → (Value → R) → R → R) tt (fun k a b c _ => fitC k (addI a b) c) (fun k a b c _ => fitC k (subI a b) c) (fun _ _ _ _ d => d) (fun _ _ _ _ d => d) (fun _ _ _ _ d => d) (fun _ _ _ _ d => d) (fun _ _ _ _ d => d) (fun _ _ _ _ d => d) (fun _ _ _ _ d => d) (fun _ _ _ _ d => d) (fun _ _ _ _ d => d) (fun _ a b c _ => boolC (eqI a b) c) (fun _ a b c _ => boolC (notB (eqI a b)) c) (fun _ a b c _ => boolC (ltI a b) c) (fun _ a b c _ => boolC (notB (ltI b a)) c) (fun _ a b c _ => boolC (ltI b a) c) (fun _ a b c _ => boolC (notB (ltI a b)) c))
theorem binIK_eq (op : BinOp) (k : IntKind) (a b : Int) (c : Value → R) (d : R) : binIK op k a b c d = match binI op k a b with | some v => c v | none => d := by
  cases op <;> simp only [binI] <;> first | rfl | (show fitC _ _ _ = _; simp only [fitC_eq, fitI_eq, addI_eq, subI_eq]) | (show boolC _ _ = _; simp only [boolC_eq, eqI_eq, ltI_eq, notB_eq])
def oCells : Option Obj → (List Value → TypeId → Nat × Nat → R) → R :=
  (fun tt => @Option.casesOn Obj (fun _ => (List Value → TypeId → Nat × Nat → R) → R) tt (fun _ => none) ((fun tt => @Obj.casesOn (fun _ => (List Value → TypeId → Nat × Nat → R) → R) tt (fun c e fz k => @Array.casesOn Value (fun _ => R) c (fun l => k l e fz)) (fun _ _ _ => none) (fun _ _ _ => none) (fun _ _ _ => none) (fun _ _ _ => none) (fun _ _ _ _ _ _ _ => none) (fun _ _ _ => none) (fun _ _ _ _ _ => none) (fun _ _ => none) (fun _ _ => none) (fun _ _ => none) (fun _ _ _ => none))))
theorem oCells_eq (o : Option Obj) (k : List Value → TypeId → Nat × Nat → R) : oCells o k = match o with | some (.cells ⟨l⟩ e fz) => k l e fz | _ => none := by
  cases o with
  | none => rfl
  | some o => cases o <;> rfl

def nthO : List Value → Nat → Option Value :=
  @lrec0 Value (Nat → Option Value) (fun _ => none) (fun x _ ih n => @Nat.rec (fun _ => Option Value) (some x) (fun m _ => ih m) n)
def lenK : List Value → Nat := @lrec0 Value (Nat) 0 (fun _ _ n => Nat.succ n)
def nthB : List UInt8 → Nat → Option UInt8 :=
  @lrec0 UInt8 (Nat → Option UInt8) (fun _ => none) (fun x _ ih n => @Nat.rec (fun _ => Option UInt8) (some x) (fun m _ => ih m) n)
def bEqK : List UInt8 → List UInt8 → Bool :=
  @lrec0 UInt8 (List UInt8 → Bool) ((fun tt => @List.casesOn UInt8 (fun _ => Bool) tt true (fun _ _ => false))) (fun x _ ih m => @List.casesOn UInt8 (fun _ => Bool) m false (fun y m => @Bool.casesOn (fun _ => Bool) (Nat.beq x.toNat y.toNat) false (ih m)))

def lenB : List UInt8 → Nat := @lrec0 UInt8 (Nat) 0 (fun _ _ n => Nat.succ n)
def takeB : Nat → List UInt8 → List UInt8 :=
  @Nat.rec (fun _ => List UInt8 → List UInt8) (fun _ => []) (fun _ ih l => @List.casesOn UInt8 (fun _ => List UInt8) l [] (fun v l => v :: ih l))
def dropB : Nat → List UInt8 → List UInt8 :=
  @Nat.rec (fun _ => List UInt8 → List UInt8) (fun l => l) (fun _ ih l => @List.casesOn UInt8 (fun _ => List UInt8) l [] (fun _ l => ih l))
def cutK (l : List UInt8) (a h : Nat) : List UInt8 := ifb (Nat.beq h (lenB l)) (dropB a l) (takeB (Nat.sub h a) (dropB a l))

def lenC : List Value → Nat → (Nat → R) → R :=
  @lrec Value (Nat → (Nat → R) → R) (fun n k => cn n k) (fun _ _ ih n k => cn n (fun n => ih (Nat.succ n) k))
def dropC : Nat → List Value → (List Value → R) → R :=
  @Nat.rec (fun _ => List Value → (List Value → R) → R) (fun l k => k l) (fun _ ih l k => @List.casesOn Value (fun _ => R) l (k []) (fun _ l => ih l k))
def takeW : Nat → List Value → List Value → (List Value → R) → R :=
  @Nat.rec (fun _ => List Value → List Value → (List Value → R) → R) (fun _ w k => k w) (fun _ ih l w k => @List.casesOn Value (fun _ => R) l none (fun v l => ih l w (fun m => k (v :: m))))
def allOneK : List Value → Bool := @lrec0 Value (Bool) true (fun v _ r => @Bool.casesOn (fun _ => Bool) (oneK v) false r)

def oVal : Option Value → (Value → R) → R := (fun tt => @Option.casesOn Value (fun _ => (Value → R) → R) tt (fun _ => none) (fun a k => k a))
def oAddr : Option Addr → (Addr → R) → R := (fun tt => @Option.casesOn Addr (fun _ => (Addr → R) → R) tt (fun _ => none) (fun a k => k a))
def oList : Option (List Value) → (List Value → R) → R := (fun tt => @Option.casesOn (List Value) (fun _ => (List Value → R) → R) tt (fun _ => none) (fun a k => k a))
def oAH : Option AH → (AH → R) → R := (fun tt => @Option.casesOn AH (fun _ => (AH → R) → R) tt (fun _ => none) (fun a k => k a))

def addK (p : Addr) (n : Nat) : Addr := @Addr.casesOn (fun _ => Addr) p (fun b o s => ⟨b, Nat.add o n, @Nat.rec (fun _ => Option Nat) s (fun _ _ => none) n⟩)

def cellK (p : Addr) (H : AH) (k : Value → R) : R :=
  @Addr.casesOn (fun _ => AH → (Value → R) → R) p (fun b off sp H k => @Option.casesOn Nat (fun _ => R) sp (getH H b (fun o => oCells o (fun l _ _ => cn off (fun off => oVal (nthO l off) k)))) (fun _ => none)) H k

def takeO : Nat → List Value → Option (List Value) :=
  @Nat.rec (fun _ => List Value → Option (List Value)) (fun _ => some []) (fun _ ih l => @List.casesOn Value (fun _ => Option (List Value)) l none (fun v l => @Option.casesOn (List Value) (fun _ => Option (List Value)) (ih l) none (fun m => some (v :: m))))
def dropK : Nat → List Value → List Value :=
  @Nat.rec (fun _ => List Value → List Value) (fun l => l) (fun _ ih l => @List.casesOn Value (fun _ => List Value) l [] (fun _ l => ih l))

def cellsK (n : Nat) (p : Addr) (H : AH) (k : List Value → R) : R :=
  @Nat.rec (fun _ => R) (k []) (fun _ _ => @Addr.casesOn (fun _ => AH → (List Value → R) → R) p (fun b off sp H k => @Option.casesOn Nat (fun _ => R) sp (getH H b (fun o => oCells o (fun l _ _ => cn off (fun off => oList (takeO n (dropK off l)) k)))) (fun _ => none)) H k) n

def loadPK (P : Program) (t : TypeId) (p : Addr) (H : AH) (k : Value → R) : R :=
  @Option.casesOn (Option Nat) (fun _ => Addr → AH → (Value → R) → R) (aggOf P t) (fun _ _ _ => none) ((fun tt => @Option.casesOn Nat (fun _ => Addr → AH → (Value → R) → R) tt cellK (fun n p H k => cellsK n p H (fun l => k (.agg ⟨l⟩))))) p H k

def loadK (P : Program) (t : TypeId) (v : Value) (H : AH) (k : KV) : R := vPtr v (fun a => oAddr a (fun p => loadPK P t p H (fun u => k u H))) none

def over0 : List Value → List Value → (List Value → R) → R :=
  @lrec Value (List Value → (List Value → R) → R) (fun l k => k l) (fun v _ ih l k => @List.casesOn Value (fun _ => R) l none (fun _ l => ifb (oneK v) (ih l (fun m => k (v :: m))) none))
def overK : Nat → List Value → List Value → (List Value → R) → R :=
  @Nat.rec (fun _ => List Value → List Value → (List Value → R) → R) over0 (fun _ ih vs l k => @List.casesOn Value (fun _ => R) l none (fun x l => ih vs l (fun m => k (x :: m))))

def storeCK (H : AH) (p : Addr) (vs : List Value) (k : AH → R) : R :=
  @List.casesOn Value (fun _ => R) vs (k H) (fun _ _ => @Addr.casesOn (fun _ => AH → List Value → (AH → R) → R) p (fun b off sp H vs k => @Option.casesOn Nat (fun _ => R) sp (getH H b (fun o => oCells o (fun l e fz => ifb (ifb (Nat.ble H.lo b) (noFrozen fz off (lenK vs)) false) (overK off vs l (fun l' => setH H b (.cells ⟨l'⟩ e fz) k)) none))) (fun _ => none)) H vs k)

def storeK (P : Program) (t : TypeId) (v u : Value) (H : AH) (k : KV) : R :=
  vPtr v (fun a => oAddr a (fun p => lenC (vCells u) 1 (fun n => ifb (Nat.beq (sz1 P t) n) (storeCK H p (vCells u) (fun H' => k undef H')) none))) none

def pushK (H : AH) (ob : Obj) (k : Nat → AH → R) : R := @AH.casesOn (fun _ => R) H (fun t n l => ifb (Nat.blt n most) (cn n (fun n => set7 t n (some ob) (fun t => k n ⟨t, Nat.succ n, l⟩))) none)

/-! ### Operands -/

def tmpK (S : SF) (tm : T4 Value) (t : Nat) : Value := ifb (Nat.blt t S.sz) (T4.get tm t) undef
def opd : Operand → Bx (SF → T4 Value → Value)
  | .tmp t => ⟨fun S tm => ifb (Nat.blt t S.sz) (T4.get tm t) undef⟩
  | .const v => ⟨fun _ _ => v⟩
  | .global g => ⟨fun _ _ => .pointer (some ⟨g, 0, none⟩)⟩
  | .func g => ⟨fun _ _ => .func (.func g) #[] #[]⟩
def evK (S : SF) (tm : T4 Value) (x : Operand) : Value := Bx.v (opd x) S tm

def tmpC (S : SF) (tm : T4 Value) (t : Nat) (k : Value → R) : R := @Bool.casesOn (fun _ => R) (Nat.ble (Nat.succ t) S.sz) (k undef) (getT tm t k)
def opdC : Operand → Bx (SF → T4 Value → (Value → R) → R)
  | .tmp t => ⟨fun S tm k => tmpC S tm t k⟩
  | .const v => ⟨fun _ _ k => k v⟩
  | .global g => ⟨fun _ _ k => k (.pointer (some ⟨g, 0, none⟩))⟩
  | .func g => ⟨fun _ _ k => k (.func (.func g) #[] #[])⟩
def evC (S : SF) (tm : T4 Value) (x : Operand) (k : Value → R) : R := @Bx.casesOn (SF → T4 Value → (Value → R) → R) (fun _ => R) (opdC x) (fun g => g S tm k)
def putC (S : SF) (t : Nat) (v : Value) (tm : T4 Value) (k : T4 Value → R) : R := @Bool.casesOn (fun _ => R) (Nat.ble (Nat.succ t) S.sz) (k tm) (setT tm t v k)
def mapC (S : SF) (tm : T4 Value) : List Operand → (List Value → R) → R := @lrec Operand ((List Value → R) → R) (fun k => k []) (fun x _ ih k => evC S tm x (fun v => ih (fun l => k (v :: l))))
def mapK (S : SF) (tm : T4 Value) : List Operand → List Value := @lrec0 Operand (List Value) [] (fun x _ l => evK S tm x :: l)
def putT (S : SF) (t : Nat) (v : Value) (tm : T4 Value) : T4 Value := ifb (Nat.blt t S.sz) (T4.set tm t v) tm

def binSK : BinOp → ByteArray → ByteArray → (Value → R) → R → R :=
  (fun tt => @BinOp.casesOn (fun _ => ByteArray → ByteArray → (Value → R) → R → R) tt (fun _ _ _ d => d) (fun _ _ _ d => d) (fun _ _ _ d => d) (fun _ _ _ d => d) (fun _ _ _ d => d) (fun _ _ _ d => d) (fun _ _ _ d => d) (fun _ _ _ d => d) (fun _ _ _ d => d) (fun _ _ _ d => d) (fun _ _ _ d => d) (fun a b k _ => boolC (bEqK a.data.toList b.data.toList) k) (fun a b k _ => boolC (notB (bEqK a.data.toList b.data.toList)) k) (fun _ _ _ d => d) (fun _ _ _ d => d) (fun _ _ _ d => d) (fun _ _ _ d => d))

/-! ### Operations that only tell a value -/

abbrev VOp := Program → Nat → SF → T4 Value → Oper → AH → KV → R
def valK (r : Option (Next × AH)) (k : KV) : R := match r with | some (.value v, H) => k v H | _ => none

def binK (P : Program) (G : Nat) (S : SF) (tm : T4 Value) (o : Oper) (H : AH) (k : KV) (op : BinOp) (t : TypeId) (x y : Operand) : R :=
  evC S tm x (fun vx => evC S tm y (fun vy =>
    vInt vx (fun kx a => vInt vy (fun ky b => ifb (kEqK kx ky) (binIK op kx a b (fun v => k v H) (valK (opBin P G (evK S tm) o H op t x y) k)) (valK (opBin P G (evK S tm) o H op t x y) k)) (valK (opBin P G (evK S tm) o H op t x y) k))
    (vStr vx (fun a => vStr vy (fun b => binSK op a b (fun v => k v H) (valK (opBin P G (evK S tm) o H op t x y) k)) (valK (opBin P G (evK S tm) o H op t x y) k)) (valK (opBin P G (evK S tm) o H op t x y) k))))

def fieldK (P : Program) (G : Nat) (S : SF) (tm : T4 Value) (o : Oper) (H : AH) (k : KV) (s i : Nat) (v : Value) : R :=
  @Option.casesOn Nat (fun _ => R) (fieldOff P s i) (valK (opField P G (evK S tm) o H s i v) k) (fun n => vPtr v (fun a => oAddr a (fun p => k (.pointer (some (addK p n))) H)) none)

def indexK (P : Program) (G : Nat) (S : SF) (tm : T4 Value) (o : Oper) (H : AH) (k : KV) (t : TypeId) (v ix : Value) : R :=
  @Option.casesOn Nat (fun _ => R) (elemSize P t) (valK (opIndex P G (evK S tm) o H t v ix) k) (fun sz => vSlice v (fun a len cap => oAddr a (fun p => vInt ix (fun _ i => @Int.casesOn (fun _ => R) i (fun i => ifb (ifb (Nat.ble (Nat.succ i) len) (Nat.ble 1 cap) false) (k (.pointer (some (addK p (Nat.mul i sz)))) H) none) (fun _ => none)) none)) none)

def extractK (v : Value) (i : Nat) (H : AH) (k : KV) : R := vTuple v (fun a => @Array.casesOn Value (fun _ => R) a (fun l => oVal (nthO l i) (fun u => k u H))) none

def nilK (P : Program) (G : Nat) (S : SF) (tm : T4 Value) (o : Oper) (H : AH) (k : KV) (v : Value) : R :=
  vPtr v (fun a => oAddr a (fun p => k (.pointer (some p)) H)) (valK (opNil P G (evK S tm) o H v) k)

def lenVK (P : Program) (G : Nat) (S : SF) (tm : T4 Value) (o : Oper) (H : AH) (k : KV) (t : TypeId) (v : Value) : R :=
  vSlice v (fun _ n _ => ifb (Nat.beq (lenKind P t) 2) (k (.int .i64 (.ofNat n)) H) none) (vStr v (fun s => ifb (Nat.beq (lenKind P t) 1) (k (.int .i64 (.ofNat (lenB s.data.toList))) H) none) (valK (opLen P G (evK S tm) o H t v) k))

def ixK (P : Program) (G : Nat) (S : SF) (tm : T4 Value) (o : Oper) (H : AH) (k : KV) (t : TypeId) (x i : Value) : R :=
  vStr x (fun s => vInt i (fun _ i => @Int.casesOn (fun _ => R) i (fun n => ifb (isStr P t) (cn n (fun n => @Option.casesOn UInt8 (fun _ => R) (nthB s.data.toList n) none (fun b => k (.int .u8 (.ofNat b.toNat)) H))) none) (fun _ => none)) none) (valK (opIx P G (evK S tm) o H t x i) k)

def bndK (S : SF) (tm : T4 Value) (x : Option Operand) (d : Nat) (k : Nat → R) : R :=
  @Option.casesOn Operand (fun _ => R) x (k d) (fun x => evC S tm x (fun v => vInt v (fun _ i => @Int.casesOn (fun _ => R) i k (fun _ => none)) none))

def sliceSK (S : SF) (tm : T4 Value) (l : List UInt8) (lo hi : Option Operand) (H : AH) (k : KV) : R :=
  bndK S tm hi (lenB l) (fun h => ifb (Nat.ble h (lenB l)) (bndK S tm lo 0 (fun a => ifb (Nat.ble a h) (cn a (fun a => k (.string ⟨⟨cutK l a h⟩⟩) H)) none)) none)

def sliceRK (S : SF) (tm : T4 Value) (sz : Nat) (a : Addr) (len cap : Nat) (lo hi : Option Operand) (H : AH) (k : KV) : R :=
  ifb (Nat.ble len cap) (bndK S tm hi len (fun h => ifb (Nat.ble h cap) (bndK S tm lo 0 (fun l => ifb (Nat.ble l h) (k (ifb (Nat.beq (Nat.sub cap l) 0) (.slice (some ⟨a.block, a.off, inx a.spot⟩) (Nat.sub h l) 0) (.slice (some (addK a (Nat.mul l sz))) (Nat.sub h l) (Nat.sub cap l))) H) none)) none)) none

def sliceK (P : Program) (G : Nat) (S : SF) (tm : T4 Value) (o : Oper) (H : AH) (k : KV) (t : TypeId) (v : Value) (lo hi : Option Operand) : R :=
  vStr v (fun s => ifb (isStr P t) (sliceSK S tm s.data.toList lo hi H k) none)
    (vSlice v (fun a len cap => @Option.casesOn Nat (fun _ => R) (elemSize P t) none (fun sz => @Option.casesOn Addr (fun _ => R) a (valK (opSlice P G (evK S tm) o H t v lo hi none) k) (fun a => sliceRK S tm sz a len cap lo hi H k))) none)

def putAt0 : List Value → List Value → (List Value → R) → R :=
  @lrec Value (List Value → (List Value → R) → R) (fun l k => k l) (fun v _ ih l k => @List.casesOn Value (fun _ => R) l none (fun _ l => ih l (fun m => k (v :: m))))
def putAtK : Nat → List Value → List Value → (List Value → R) → R :=
  @Nat.rec (fun _ => List Value → List Value → (List Value → R) → R) putAt0 (fun _ ih vs l k => @List.casesOn Value (fun _ => R) l none (fun x l => ih vs l (fun m => k (x :: m))))
def valSel : Op → Option (Bx VOp)
  | .move x => some ⟨fun _ G S tm _ H k => ifb (okOpd G x) (evC S tm x (fun v => k v H)) none⟩
  | .assign x => some ⟨fun _ G S tm _ H k => ifb (okOpd G x) (evC S tm x (fun v => k v H)) none⟩
  | .pick c a b => some ⟨fun _ G S tm _ H k => ifb (allOk G [c, a, b]) (evC S tm c (fun c => vBool c (fun t => @Bool.casesOn (fun _ => R) t (evC S tm b (fun v => k v H)) (evC S tm a (fun v => k v H))) none)) none⟩
  | .binOp op t x y _ => some ⟨fun P G S tm o H k => ifb (allOk G [x, y]) (binK P G S tm o H k op t x y) none⟩
  | .fieldAddr s x i => some ⟨fun P G S tm o H k => ifb (okOpd G x) (evC S tm x (fun v => fieldK P G S tm o H k s i v)) none⟩
  | .indexAddr t x i => some ⟨fun P G S tm o H k => ifb (allOk G [x, i]) (evC S tm x (fun v => evC S tm i (fun u => indexK P G S tm o H k t v u))) none⟩
  | .index t x i => some ⟨fun P G S tm o H k => ifb (allOk G [x, i]) (evC S tm x (fun v => evC S tm i (fun u => ixK P G S tm o H k t v u))) none⟩
  | .extract x i => some ⟨fun _ G S tm _ H k => ifb (okOpd G x) (evC S tm x (fun v => extractK v i H k)) none⟩
  | .slice t x lo hi none => some ⟨fun P G S tm o H k => ifb (allOk G (x :: (lo.toList ++ (hi.toList ++ [])))) (evC S tm x (fun v => sliceK P G S tm o H k t v lo hi)) none⟩
  | .nilCheck x => some ⟨fun P G S tm o H k => ifb (okOpd G x) (evC S tm x (fun v => nilK P G S tm o H k v)) none⟩
  | .call ⟨.builtin .len, ⟨[x]⟩, ⟨[t]⟩⟩ => some ⟨fun P G S tm o H k => ifb (okOpd G x) (evC S tm x (fun v => lenVK P G S tm o H k t v)) none⟩
  | _ => none

/-! ### Calls -/

def putsC : List Value → T4 Value → Nat → (T4 Value → R) → R :=
  @lrec Value (T4 Value → Nat → (T4 Value → R) → R) (fun tm _ k => k tm) (fun v _ ih tm i k => setT tm i v (fun tm => ih tm (Nat.succ i) k))

def marksK (S : SF) (H : AH) (k : AH → R) : R := @List.casesOn Nat (fun _ => R) S.marks (k H) (fun _ _ => oAH (takeMarks S.marks H) k)

def resL : List ResultVar → Bx (Program → SF → T4 Value → AH → (List Value → R) → R)
  | [] => ⟨fun _ _ _ _ k => k []⟩
  | .tmp t :: l => @Bx.casesOn (Program → SF → T4 Value → AH → (List Value → R) → R) (fun _ => Bx (Program → SF → T4 Value → AH → (List Value → R) → R)) (resL l) (fun g => ⟨fun P S tm H k => tmpC S tm t (fun v => g P S tm H (fun m => k (v :: m)))⟩)
  | .cell a t :: l => @Bx.casesOn (Program → SF → T4 Value → AH → (List Value → R) → R) (fun _ => Bx (Program → SF → T4 Value → AH → (List Value → R) → R)) (resL l) (fun g => ⟨fun P S tm H k => tmpC S tm a (fun p => vPtr p (fun a => oAddr a (fun p => loadPK P t p H (fun v => g P S tm H (fun m => k (v :: m))))) none)⟩)
def resV : List Value → Value := (fun tt => @List.casesOn Value (fun _ => Value) tt (.tuple ⟨[]⟩) (fun v l => @List.casesOn Value (fun _ => Value) l v (fun u m => .tuple ⟨v :: u :: m⟩)))

def finK (P : Program) (fn : Func) (k : KV) (S : SF) (tm : T4 Value) (H : AH) : R :=
  marksK S H (fun H2 => @Bx.casesOn (Program → SF → T4 Value → AH → (List Value → R) → R) (fun _ => R) (resL fn.results.toList) (fun g => g P S tm H2 (fun l => k (resV l) H2)))

def isRet : Option Code → Bool
  | none => true
  | some .ret => true
  | _ => false

def callB (P : Program) (kr : RunK) (g : FuncId) (n : Nat) (args : List Value) (H : AH) (k : KV) (fn : Func) (body : Code) : R :=
  ifb (Nat.ble (max fn.ntmps n) 256) (putsC args (T4.leaf undef) 0 (fun tm => kr ⟨g, max fn.ntmps n, [], none⟩ tm [.code body] H (fun j S tm H1 => ifb (isRet j) (finK P fn k S tm H1) none))) none

def callK (P : Program) (kr : RunK) (g : FuncId) (n : Nat) (args : List Value) (H : AH) (k : KV) : R :=
  @Option.casesOn Func (fun _ => Program → RunK → FuncId → Nat → List Value → AH → KV → R) (P.funcs[g]?) (fun _ _ _ _ _ _ _ => none) (fun fn P kr g n args H k => @Option.casesOn Code (fun _ => R) fn.body none (fun body => callB P kr g n args H k fn body)) P kr g n args H k

def roundK (kr : RunK) (l : Nat) (g : FuncId) (tmps : List Value) (assign body : Code) (H : AH) (k : KV) : R :=
  ifb (Nat.ble tmps.length 256) (putsC tmps (T4.leaf undef) 0 (fun tm => kr ⟨g, tmps.length, [], some l⟩ tm [.code assign, .beginRound, .code body] H (fun j S _ H1 => match S.marks with
    | [] => match H1.get l with
      | some (.loop r) => if H1.lo ≤ l then k (.bool j.isNone) (H1.set l (.loop { r with state := if j.isNone then .ready else .done, pending := j })) else none
      | _ => none
    | _ => none))) none

def nextK (P : Program) (kr : RunK) (r : Option (Next × AH)) (k : KV) : R :=
  match r with
  | some (.value v, H) => k v H
  | some (.skip, H) => k undef H
  | some (.enter g ⟨args⟩, H) => callK P kr g args.length args H k
  | some (.round l g ⟨tmps⟩ assign body, H) => roundK kr l g tmps assign body H k
  | _ => none

def nextV (r : Option (Value × AH)) (k : KV) : R := match r with | some (v, H) => k v H | none => none

abbrev KOp := Program → Nat → RunK → SF → T4 Value → Oper → AH → KV → R

def callSK (c : Call) (g : FuncId) : KOp := fun P G kr S tm o H k =>
  ifb (ifb (callable P g) (allOk G c.args.toList) false) (mapC S tm c.args.toList (fun l => callK P kr g c.args.toList.length l H k)) (nextK P kr (opCallV P G (evK S tm) o H c (.func g)) k)

def allocK (t : TypeId) : KOp := fun P _ _ _ _ _ H k =>
  ifb (zf P t) (@Option.casesOn Value (fun _ => R) (zeroOf P t) none (fun z => pushK H (.cells z.cells t (0, 0)) (fun n H' => k (ptrTo n) H'))) none
def boxK (t : TypeId) (x : Operand) : KOp := fun _ G _ S tm _ H k =>
  ifb (okOpd G x) (evC S tm x (fun v => pushK H (.cells ⟨vCells v⟩ t (0, 0)) (fun n H' => k (ptrTo n) H'))) none

def fillK (S : SF) (tm : T4 Value) (size : Nat) : List (Nat × Operand) → List Value → (List Value → R) → R :=
  @lrec (Nat × Operand) (List Value → (List Value → R) → R) (fun l k => k l) (fun p _ ih l k => evC S tm p.2 (fun v => lenC (vCells v) 0 (fun n => ifb (Nat.beq n size) (putAtK (Nat.mul p.1 size) (vCells v) l (fun l' => ih l' k)) none)))
def zerosOf (inf : TypeInfo) (n : Nat) (z : Value) : List Value := ((Array.range (n * inf.size)).map (z.cells[· % z.cells.size]!)).toList

def sliceElem (P : Program) (t : TypeId) : Option TypeId :=
  match P.underlying t with
  | some (.slice el) => some el
  | _ => none
def rowK (t : TypeId) (n : Nat) (ps : Array (Nat × Operand)) : KOp := fun P G _ S tm _ H k =>
  ifb (allOk G (ps.toList.map (·.2))) (@Option.casesOn TypeId (fun _ => R) (sliceElem P t) none (fun el => @Option.casesOn TypeInfo (fun _ => R) (P.info? el) none (fun inf => ifb (ifb (zf P el) (Nat.ble (n * inf.size) 16777216) false)
    (@Option.casesOn Value (fun _ => R) (zeroOf P el) none (fun z => fillK S tm inf.size ps.toList (zerosOf inf n z) (fun l => pushK H (.cells ⟨l⟩ el (0, 0)) (fun i H' => k (rowTo n i) H')))) none))) none

def apInfo (P : Program) (st xt : TypeId) : Option (TypeId × TypeInfo) :=
  match P.underlying st with
  | some (.slice e) => match P.underlying xt with
    | some xd => match P.info? e with
      | some inf => ifb (ifb (Nat.beq inf.size 0) false (notInt xd)) (some (e, inf)) none
      | none => none
    | none => none
  | _ => none
def gst (P : Program) (e : TypeId) (inf : TypeInfo) : Bool := ifb (zf P e) (ifb (Nat.blt 0 inf.bytes) (zfit inf) false) false

def wholeC (n : Nat) (p : Addr) (H : AH) (k : List Value → R) : R :=
  @Nat.rec (fun _ => R) (k []) (fun _ _ => @Addr.casesOn (fun _ => AH → (List Value → R) → R) p (fun b off sp H k => @Option.casesOn Nat (fun _ => R) sp (getH H b (fun o => oCells o (fun l _ _ => dropC off l (fun l => takeW n l [] k)))) (fun _ => none)) H k) n

def newC (size : Nat) (x : Value) (H : AH) (k : List Value → R) : R :=
  vSlice x (fun a n c => @Option.casesOn Addr (fun _ => R) a (ifb (Nat.beq n 0) (k []) none) (fun b => ifb (ifb (Nat.beq n 0) false (Nat.beq c 0)) none (wholeC (Nat.mul n size) b H k))) (vStr x (fun s => ifb (Nat.beq size 1) (k (bytesOf s)) none) none)

def growC (P : Program) (e : TypeId) (inf : TypeInfo) (b off len cap need : Nat) (new : List Value) (H : AH) (k : KV) : R :=
  getH H b (fun o => oCells o (fun c ee fz => lenC c 0 (fun sz =>
    ifb (ifb (gst P e inf) (ifb (Nat.ble (Nat.mul need inf.bytes) 1099511627776) (ifb (Nat.beq ee e) (ifb (Nat.beq (Nat.add off (Nat.mul cap inf.size)) sz) (ifb (Nat.beq fz.1 fz.2) (ifb (allOneK new) (Nat.ble H.lo b) false) false) false) false) false) false)
      (dropC off c (fun c1 => takeW (Nat.mul len inf.size) c1 new (fun l => setH H b gone (fun H1 => pushK H1 (.cells ⟨l⟩ e (1, 1)) (fun n H2 => k (.slice (some ⟨n, 0, none⟩) need need) H2))))) none)))

def appC (P : Program) (e : TypeId) (inf : TypeInfo) (base : Option Addr) (len cap need : Nat) (new : List Value) (H : AH) (k : KV) : R :=
  @Option.casesOn Addr (fun _ => R) base (nextV (appendB P e inf none len cap need new H) k) (fun a => @Addr.casesOn (fun _ => R) a (fun b off sp => @Option.casesOn Nat (fun _ => R) sp (ifb (Nat.beq cap 0) none (ifb (Nat.ble need cap) (storeCK H (addK ⟨b, off, none⟩ (Nat.mul len inf.size)) new (fun H' => k (.slice (some ⟨b, off, none⟩) need cap) H')) (growC P e inf b off len cap need new H k))) (fun q => nextV (appendB P e inf (some ⟨b, off, some q⟩) len cap need new H) k)))

def appendK (s x : Operand) (st xt : TypeId) : KOp := fun P G _ S tm _ H k =>
  ifb (allOk G [s, x]) (evC S tm s (fun vs => evC S tm x (fun vx => @Option.casesOn (TypeId × TypeInfo) (fun _ => R) (apInfo P st xt) none (fun q => vSlice vs (fun base len cap => newC q.2.size vx H (fun new => lenC new 0 (fun nl => cn (Nat.add len (Nat.div nl q.2.size)) (fun need => appC P q.1 q.2 base len cap need new H k)))) none)))) none

def opSelK (op : Op) : Bx KOp :=
  match valSel op with
  | some b => ⟨fun P G _ S tm o H k => b.v P G S tm o H k⟩
  | none => match op with
    | .load t a => ⟨fun P G _ S tm _ H k => ifb (okOpd G a) (evC S tm a (fun v => loadK P t v H k)) none⟩
    | .store t a x => ⟨fun P G _ S tm _ H k => ifb (allOk G [a, x]) (evC S tm a (fun v => evC S tm x (fun u => storeK P t v u H k))) none⟩
    | .call ⟨.value (.func g), args, ts⟩ => ⟨callSK ⟨.value (.func g), args, ts⟩ g⟩
    | .call ⟨.builtin .append, ⟨[s, x]⟩, ⟨[st, xt]⟩⟩ => ⟨appendK s x st xt⟩
    | .alloc t => ⟨allocK t⟩
    | .box t x => ⟨boxK t x⟩
    | .buildSlice t n ps => ⟨rowK t n ps⟩
    | _ => ⟨fun P G kr S tm o H k => nextK P kr (opA P G (evK S tm) o H) k⟩

abbrev OK := Program → Nat → RunK → SF → T4 Value → AH → (T4 Value → AH → R) → R

/-- What an operation does whose value goes where it is told. -/
def dstK (o : Oper) (b : Bx KOp) : Bx OK :=
  @Bx.casesOn KOp (fun _ => Bx OK) b (fun g => match o.dst with
    | some t => ⟨fun P G kr S tm H k => g P G kr S tm o H (fun v H' => putC S t v tm (fun tm => k tm H'))⟩
    | none => ⟨fun P G kr S tm H k => g P G kr S tm o H (fun _ H' => k tm H')⟩)
def undK (o : Oper) (S : SF) (tm : T4 Value) : T4 Value :=
  match o.dst with
  | some t => putT S t undef tm
  | none => tm
def wantT (ops : Array Oper) (o : Oper) (S : SF) (tm : T4 Value) : Bool := wantedA ops (fr S tm []) o

def guardK (ops : Array Oper) (o : Oper) (b : Bx OK) : Bx OK :=
  match o.guard with
  | none => b
  | some _ => @Bx.casesOn OK (fun _ => Bx OK) b (fun g => ⟨fun P G kr S tm H k => ifb (wantT ops o S tm) (g P G kr S tm H k) (k (undK o S tm) H)⟩)

def moveSel (o : Oper) : Option (Bx OK) :=
  match o.dst with
  | some t => match o.op with
    | .move x => some ⟨fun _ G _ S tm H k => ifb (okOpd G x) (evC S tm x (fun v => putC S t v tm (fun tm => k tm H))) none⟩
    | .assign x => some ⟨fun _ G _ S tm H k => ifb (okOpd G x) (evC S tm x (fun v => putC S t v tm (fun tm => k tm H))) none⟩
    | _ => none
  | none => none

def baseSel (o : Oper) : Bx OK :=
  match moveSel o with
  | some b => b
  | none => dstK o (opSelK o.op)
def operSel (ops : Array Oper) (o : Oper) : Bx OK := guardK ops o (baseSel o)

def opsK (P : Program) (G : Nat) (kr : RunK) (ops : Array Oper) (S : SF) (k : T4 Value → AH → R) (l : List Oper) : T4 Value → AH → R :=
  @lrec Oper (T4 Value → AH → R) k (fun o _ ih tm H => @Bx.casesOn OK (fun _ => R) (operSel ops o) (fun g => g P G kr S tm H ih)) l

def roLoadK (P : Program) (t : TypeId) (v : Value) (H : AH) (k : Value → Log → R) : R :=
  vPtr v (fun a => oAddr a (fun p => @Option.casesOn (Option Nat) (fun _ => Addr → AH → (Value → Log → R) → R) (aggOf P t) (fun _ _ _ => none) ((fun tt => @Option.casesOn Nat (fun _ => Addr → AH → (Value → Log → R) → R) tt (fun p H k => cellK p H (fun u => k u [(p, u)])) (fun n p H k => cellsK n p H (fun l => k (.agg ⟨l⟩) (logOf p 0 l))))) p H k)) none

abbrev ROp := Program → Nat → SF → T4 Value → Oper → AH → (Value → Log → R) → R
def roSel (op : Op) : Bx ROp :=
  match op with
  | .load t a => ⟨fun P G S tm _ H k => ifb (okOpd G a) (evC S tm a (fun v => roLoadK P t v H k)) none⟩
  | _ => ifb (quietOp op) (match valSel op with
    | some b => ⟨fun P G S tm o _ k => b.v P G S tm o ⟨T7.leaf, 0, 0⟩ (fun v H => ifb (Nat.beq H.next 0) (k v []) none)⟩
    | none => ⟨fun P G S tm o H k => match roOp P G (evK S tm) o H with
      | some (v, l) => k v l
      | none => none⟩) ⟨fun _ _ _ _ _ _ _ => none⟩
def roK (P : Program) (G : Nat) (S : SF) (tm : T4 Value) (o : Oper) (H : AH) (k : Value → Log → R) : R :=
  @Bx.casesOn ROp (fun _ => R) (roSel o.op) (fun g => g P G S tm o H k)

abbrev AOp := Program → Nat → RunK → SF → Log3 → T4 Value → AH → (Log3 → T4 Value → AH → R) → (T4 Value → AH → R) → R

def twoK (ops : Array Oper) (ms : List Nat) (i j : Nat) (o : Oper) : AOp := fun P G _ S lg tm H _ ke =>
  match ops[j]? with
  | some o' => (match storeOf (evK S tm) o.op, storeOf (evK S tm) o'.op with
    | some (t, a, x), some (t', b, y) => if sz1 P t == x.cells.size + 1 && sz1 P t' == y.cells.size + 1 && apart a x.cells.size b y.cells.size && o.op.operands.toList.all (okOpd G) && o'.op.operands.toList.all (okOpd G) && (lg.filter fun p => !waitsFor ms i p.1).isEmpty && (lg.filter fun p => !waitsFor ms j p.1).isEmpty then
        (match storeAll H a x.cells.toList with
        | some H1 => match storeAll H1 b y.cells.toList with
          | some H2 => ke tm H2
          | none => none
        | none => none) else none
    | _, _ => none)
  | none => none

def keepK (ms : List Nat) (i : Nat) : Log3 → Log3 := @lrec0 (Nat × Addr × Value) (Log3) [] (fun p _ r => ifb (waitsFor ms i p.1) r (p :: r))
def consK (i : Nat) (more : Log) (lg : Log3) : Log3 := @lrec0 (Addr × Value) (Log3) lg (fun p _ r => (i, p) :: r) more

def stillC (H : AH) (k : R) : Log3 → R := @lrec (Nat × Addr × Value) (R) k (fun p _ r => cellK p.2.1 H (fun u => ifb (sameV u p.2.2) r none))
def dstC (o : Oper) (S : SF) (v : Value) (tm : T4 Value) (k : T4 Value → R) : R := @Option.casesOn Tmp (fun _ => R) o.dst (k tm) (fun t => putC S t v tm k)
def dstT (o : Oper) (S : SF) (v : Value) (tm : T4 Value) : T4 Value := @Option.casesOn Tmp (fun _ => T4 Value) o.dst tm (fun t => putT S t v tm)
def wantK (ops : Array Oper) (S : SF) (tm : T4 Value) (o : Oper) (a b : R) : R := @Option.casesOn (Nat × Bool) (fun _ => R) o.guard a (fun _ => ifb (wantT ops o S tm) a b)

def quietK (ops : Array Oper) (i : Nat) (o : Oper) : AOp := fun P G _ S lg tm H kl _ =>
  wantK ops S tm o (roK P G S tm o H (fun v more => dstC o S v tm (fun tm => kl (consK i more lg) tm H))) (kl lg (dstT o S undef tm) H)
def actK (ops : Array Oper) (ms : List Nat) (i : Nat) (o : Oper) : AOp := fun P G kr S lg tm H kl _ =>
  wantK ops S tm o (@Bx.casesOn KOp (fun _ => R) (opSelK o.op) (fun g => g P G kr S tm o H (fun v H' => stillC H' (dstC o S v tm (fun tm => kl (keepK ms i lg) tm H')) (keepK ms i lg)))) (kl (keepK ms i lg) (dstT o S undef tm) H)

def anySel (ops : Array Oper) (ms : List Nat) (p : Nat × Nat × Nat) : Bx AOp :=
  match ops[p.2.1]? with
  | none => ⟨fun _ _ _ _ _ _ _ _ _ => none⟩
  | some o => ifb (Nat.beq p.1 2) ⟨twoK ops ms p.2.1 p.2.2 o⟩ (ifb (Nat.beq p.1 1) ⟨quietK ops p.2.1 o⟩ ⟨actK ops ms p.2.1 o⟩)

def anyK (P : Program) (G : Nat) (kr : RunK) (ops : Array Oper) (ms : List Nat) (S : SF) (k : T4 Value → AH → R) (l : List (Nat × Nat × Nat)) : Log3 → T4 Value → AH → R :=
  @lrec (Nat × Nat × Nat) (Log3 → T4 Value → AH → R) (fun _ tm H => k tm H) (fun p _ ih lg tm H => @Bx.casesOn AOp (fun _ => R) (anySel ops ms p) (fun g => g P G kr S lg tm H ih k)) l

def enterLoopK (P : Program) (kr : RunK) (S : SF) (tm : T4 Value) (g : FuncId) (first captured : List Value) (params : Array Tmp) (assign body : Code) (db : Nat) (marks : List Nat) (rest : List Item) (H : AH) (k : KE) : R :=
  ifb (Nat.blt H.next most)
    (callK P kr g (first ++ [Value.func (.yield H.next) #[] #[]] ++ captured).length (first ++ [.func (.yield H.next) #[] #[]] ++ captured)
        (H.push (.loop { state := .ready, pending := none, fn := S.fn, tmps := ⟨(List.range S.sz).map (tmpK S tm)⟩, params, assign, body, defers := db }))
      (fun _ H' => kr ⟨S.fn, S.sz, marks, S.rnd⟩ tm (.endRangeFunc H.next :: rest) H' k)) none

abbrev CK := Program → Nat → RunK → List Item → SF → T4 Value → AH → KE → R

def rangeK (fv : Operand) (params : Array Tmp) (assign body : Code) : CK := fun P G kr rest S tm H k =>
  ifb (okOpd G fv) (match evK S tm fv with
    | .func (.func g) ⟨first⟩ ⟨captured⟩ => ifb (callable P g) (match S.rnd with
      | some l => match H.get l with
        | some (.loop r) => enterLoopK P kr S tm g first captured params assign body r.defers S.marks rest H k
        | _ => none
      | none => ifb (Nat.blt H.next most) (enterLoopK P kr S tm g first captured params assign body H.next (H.next :: S.marks) rest (H.push (.deferred (some []))) k) none) none
    | _ => none) none

def beginK : CK := fun _ _ kr rest S tm H k =>
  match S.rnd with
  | some l => match H.get l with
    | some (.loop r) => match r.state with
      | .ready => ifb (Nat.ble H.lo l) (kr S tm rest (H.set l (.loop { r with state := .busy })) k) none
      | _ => none
    | _ => none
  | none => none

def endK (l : Nat) : CK := fun _ _ kr rest S tm H k =>
  match H.get l with
  | some (.loop r) => match r.state with
    | .busy => none
    | _ => ifb (Nat.ble H.lo l) (kr S tm ((r.pending.map Item.code).toList ++ rest) (H.set l (.loop { r with state := .exhausted })) k) none
  | _ => none

def isBlk (id : Nat) : Item → Bool
  | .inBlock j => Nat.beq j id
  | _ => false
def exitK (id : Nat) : List Item → Option (List Item) := @lrec0 Item (Option (List Item)) none (fun x l ih => ifb (isBlk id x) (some l) ih)

def drawK (ops : Array Oper) (ms : List Nat) : Bx CK :=
  match planOf ops ms with
  | none => ⟨fun _ _ _ _ _ _ _ _ => none⟩
  | some l => ⟨fun P G kr rest S tm H k => anyK P G kr ops ms S (fun tm' H' => kr S tm' rest H' k) l [] tm H⟩

def codeSel : Code → Bx CK
  | .ret => ⟨fun _ _ _ _ S tm H k => k (some .ret) S tm H⟩
  | .skip => ⟨fun _ _ kr rest S tm H k => kr S tm rest H k⟩
  | .seq a b => ⟨fun _ _ kr rest S tm H k => kr S tm (.code a :: .code b :: rest) H k⟩
  | .cond c a b => ⟨fun _ G kr rest S tm H k => ifb (okOpd G c) (evC S tm c (fun c => vBool c (fun t => @Bool.casesOn (fun _ => R) t (kr S tm (.code b :: rest) H k) (kr S tm (.code a :: rest) H k)) none)) none⟩
  | .block id c => ⟨fun _ _ kr rest S tm H k => kr S tm (.code c :: .inBlock id :: rest) H k⟩
  | .loop c => ⟨fun _ _ kr rest S tm H k => kr S tm (.code c :: .inLoop c :: rest) H k⟩
  | .exit id => ⟨fun _ _ kr rest S tm H k => @Option.casesOn (List Item) (fun _ => R) (exitK id rest) (k (some (.exit id)) S tm H) (fun rest' => kr S tm rest' H k)⟩
  | .region _ ops draw => ifb draw (drawK ops (masks ops.toList [])) ⟨fun P G kr rest S tm H k => opsK P G kr ops S (fun tm' H' => kr S tm' rest H' k) ops.toList tm H⟩
  | .rangeFunc fv params assign body => ⟨rangeK fv params assign body⟩
  | _ => ⟨fun _ _ _ _ _ _ _ _ => none⟩

def itemSel : Item → Bx CK
  | .code c => codeSel c
  | .inBlock _ => ⟨fun _ _ kr rest S tm H k => kr S tm rest H k⟩
  | .inLoop c => ⟨fun _ _ kr rest S tm H k => kr S tm (.code c :: .inLoop c :: rest) H k⟩
  | .beginRound => ⟨beginK⟩
  | .endRangeFunc l => ⟨endK l⟩
  | _ => ⟨fun _ _ _ _ _ _ _ _ => none⟩

def stepK (P : Program) (G : Nat) (kr : RunK) (S : SF) (tm : T4 Value) (todo : List Item) (H : AH) (k : KE) : R :=
  @List.casesOn Item (fun _ => Program → Nat → RunK → SF → T4 Value → AH → KE → R) todo (fun _ _ _ S tm H k => k none S tm H) (fun x rest P G kr S tm H k => @Bx.casesOn CK (fun _ => R) (itemSel x) (fun g => g P G kr rest S tm H k)) P G kr S tm H k

def runK (P : Program) (G : Nat) (n : Nat) : RunK := @Nat.rec (fun _ => RunK) (fun _ _ _ _ _ => none) (fun _ kr S tm todo H k => stepK P G kr S tm todo H k) n

def callT (P : Program) (G n : Nat) (laid : List (Nat × Obj)) (g : FuncId) (args : List Value) : R := callK P (runK P G n) g args.length args ⟨laidH laid, G, G⟩ (fun v _ => some v)

end Go.Eng
