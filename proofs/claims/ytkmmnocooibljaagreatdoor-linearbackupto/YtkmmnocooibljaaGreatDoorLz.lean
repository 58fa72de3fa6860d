/-
  Texts joined: what is reached of them.
-/
import Derived.Laws.MathBits
import Derived.Laws.Bits64b
import Derived.Laws.BitsAllLaws
import Derived.Test.YtkmmnocooibljaaGreatDoorProg
import Derived.WalkKit
import Derived.WalkLawsBesides
import Derived.WalkSpells
import Derived.Handy
import Derived.Outline
import Derived.Below
import Derived.Lib.SmallJoins
import Derived.Lib.SliceRun
import Derived.Maps.AppendAt
import Derived.Maps.Own
import Derived.Maps.Views
import Derived.Laws.BytesArg
import Derived.Laws.AppendOwnNone
import Derived.Laws.CopyRow
import Derived.Deep.MidRow
import Derived.Deep.Cut
import Derived.Deep.CutBlock
import Derived.Deep.Onto
import Derived.Deep.RegionHeld3
import Derived.Deep.LoopGhost
import Derived.Deep.QuietTactic
import Derived.BigQuiet
import Derived.Laws.BitsLemmas
import Derived.RowKit
import Derived.StillTailTactics
import Derived.Test.YtkmmnocooibljaaGreatDoorChecked
import Derived.Deep.Slices
import Derived.ProofKit
import Derived.OpenShut
import Derived.Carry
import Derived.SizedLaws
namespace Go.Proofs.YtkmmnocooibljaaGreatDoor
open Go.ChangeShapes Go.WideShapes Go.ChangeAt Go.RowKit Go.Deep
set_option linter.unusedVariables false

def fixN (n k : Nat) : List Nat := (List.range k).map fun i => n / 256 ^ i % 256
def wid : List Nat → Nat
  | [] => 0
  | c :: r => c + 256 * wid r
theorem fixN_length (n k : Nat) : (fixN n k).length = k := by simp [fixN]
structure Nm where
  sz : Nat
  sg : Bool
  lo : Int
  hi : Int
def nNone : Nm := ⟨0, false, 0, 0⟩
def nByte : Nm := ⟨1, false, 0, 255⟩
def nShort : Nm := ⟨2, false, 0, 65535⟩
def nPlace : Nm := ⟨4, false, 0, 4294967295⟩
def nWidth : Nm := ⟨1, false, 1, 3⟩
def nKind : Nm := ⟨1, false, 1, 5⟩
def nI8 : Nm := ⟨1, true, -128, 127⟩
def nI32 : Nm := ⟨4, true, -2147483648, 2147483647⟩
def nI64 : Nm := ⟨8, true, -9223372036854775808, 9223372036854775807⟩
def nVal (w : Int) : Nm := if w = 1 then ⟨8, true, -128, 127⟩ else if w = 2 then ⟨8, true, -2147483648, 2147483647⟩ else nI64
def Nm.may (k : Nm) (n : Int) : Bool := decide (k.lo ≤ n ∧ n ≤ k.hi)
def Nm.val (k : Nm) (u : Nat) : Int := if k.sg = true ∧ 256 ^ k.sz ≤ 2 * u then (u : Int) - 256 ^ k.sz else u
def Nm.put (k : Nm) (n : Int) : List Nat := fixN (n % 18446744073709551616).toNat k.sz
/-- What a number has in bounds is in its bytes. -/
structure Nm.Ok (k : Nm) : Prop where
  sz : k.sz ≤ 8
  zero : k.sz = 0 → k.lo = 0 ∧ k.hi = 0
  lo : if k.sg = true then -(256 ^ k.sz : Int) ≤ 2 * k.lo else 0 ≤ k.lo
  hi : if k.sg = true then 2 * k.hi < 256 ^ k.sz else k.hi < 256 ^ k.sz
  l64 : -9223372036854775808 ≤ k.lo
  h64 : k.hi ≤ 9223372036854775807
theorem okNone : nNone.Ok := by refine ⟨by decide, fun _ => ⟨rfl, rfl⟩, by decide, by decide, by decide, by decide⟩
theorem okByte : nByte.Ok := by refine ⟨by decide, by decide, by decide, by decide, by decide, by decide⟩
theorem okShort : nShort.Ok := by refine ⟨by decide, by decide, by decide, by decide, by decide, by decide⟩
theorem okPlace : nPlace.Ok := by refine ⟨by decide, by decide, by decide, by decide, by decide, by decide⟩
theorem okWidth : nWidth.Ok := by refine ⟨by decide, by decide, by decide, by decide, by decide, by decide⟩
theorem okKind : nKind.Ok := by refine ⟨by decide, by decide, by decide, by decide, by decide, by decide⟩
theorem okI8 : nI8.Ok := by refine ⟨by decide, by decide, by decide, by decide, by decide, by decide⟩
theorem okI32 : nI32.Ok := by refine ⟨by decide, by decide, by decide, by decide, by decide, by decide⟩
theorem okI64 : nI64.Ok := by refine ⟨by decide, by decide, by decide, by decide, by decide, by decide⟩
theorem okVal (w : Int) : (nVal w).Ok := by
  unfold nVal
  split
  · refine ⟨by decide, by decide, by decide, by decide, by decide, by decide⟩
  · split
    · refine ⟨by decide, by decide, by decide, by decide, by decide, by decide⟩
    · exact okI64
theorem Nm.put_length (k : Nm) (n : Int) : (k.put n).length = k.sz := fixN_length _ _
abbrev St := Nat × Nat
def Nm.rd (k : Nm) (xs : List Nat) (s : St) : Int × St :=
  if s.2 ≠ 0 ∨ k.sz = 0 then (0, s)
  else if xs.length < s.1 + k.sz then (0, (s.1, 10))
  else if k.may (k.val (wid ((xs.drop s.1).take k.sz))) = true then (k.val (wid ((xs.drop s.1).take k.sz)), (s.1 + k.sz, 0)) else (0, (s.1, 120))
def armsR (k : Nm) (xs : List Nat) : Nat → St → List (Int × Int) × St
  | 0, s => ([], s)
  | n + 1, s =>
    let r := k.rd xs s
    let t := nPlace.rd xs r.2
    if t.2.2 ≠ 0 then ([], t.2) else
      let q := armsR k xs n t.2
      if q.2.2 ≠ 0 then ([], q.2) else ((r.1, t.1) :: q.1, q.2)
structure In where
  op : Nat
  a : Int
  b : Int
  arms : List (Int × Int)
def zI : In := ⟨0, 0, 0, []⟩
structure Lay where
  a : Nm
  b : Nm
  arms : Bool
def lay (op : Nat) : Option Lay :=
  if op = 1 then some ⟨nI8, nNone, false⟩ else if op = 2 then some ⟨nI32, nNone, false⟩ else if op = 3 then some ⟨nI64, nNone, false⟩
  else if op = 6 ∨ op = 7 ∨ op = 8 ∨ op = 50 ∨ op = 36 ∨ (39 ≤ op ∧ op ≤ 45) then some ⟨nShort, nNone, false⟩
  else if op = 37 ∨ op = 38 then some ⟨nShort, nShort, false⟩
  else if op = 23 ∨ op = 24 then some ⟨nKind, nNone, false⟩
  else if 11 ≤ op ∧ op ≤ 28 then some ⟨nWidth, nNone, false⟩
  else if op = 29 then some ⟨nWidth, nWidth, false⟩
  else if op = 46 ∨ op = 47 ∨ op = 48 then some ⟨nPlace, nNone, false⟩
  else if op = 52 then some ⟨nByte, nNone, false⟩
  else if op = 49 then some ⟨nWidth, nPlace, true⟩
  else if 1 ≤ op ∧ op ≤ 52 then some ⟨nNone, nNone, false⟩ else none
def Lay.rdArms (l : Lay) (a : Int) (xs : List Nat) (s : St) : List (Int × Int) × St :=
  if l.arms = true then armsR (nVal a) xs (nShort.rd xs s).1.toNat (nShort.rd xs s).2 else ([], s)
def Lay.rd (l : Lay) (op : Nat) (xs : List Nat) (s : St) : In × St :=
  let a := l.a.rd xs s
  let r := l.rdArms a.1 xs a.2
  let b := l.b.rd xs r.2
  (⟨op, a.1, b.1, r.1⟩, b.2)
def Lay.hasArms (l : Lay) (a : Int) (ar : List (Int × Int)) : Bool :=
  if l.arms = true then decide (ar.length ≤ 65535) && ar.all (fun y => (nVal a).may y.1 && nPlace.may y.2) else ar.isEmpty
def Lay.has (l : Lay) (x : In) : Bool := l.a.may x.a && (l.b.may x.b && l.hasArms x.a x.arms)
def Lay.size (l : Lay) (n : Nat) : Nat := 1 + l.a.sz + l.b.sz + if l.arms = true then 2 + n * 12 else 0
def putArm (y : Int × Int) : List Nat := nI64.put y.1 ++ nPlace.put y.2
def Lay.putArms (l : Lay) (ar : List (Int × Int)) : List Nat := if l.arms = true then nShort.put ar.length ++ (ar.map putArm).flatten else []
def Lay.put (l : Lay) (x : In) : List Nat := x.op :: (l.a.put x.a ++ (l.putArms x.arms ++ l.b.put x.b))
def In.ok (x : In) : Bool := match lay x.op with | none => false | some l => l.has x
def In.size (x : In) : Nat := match lay x.op with | none => 0 | some l => if l.has x = true then l.size x.arms.length else 0
def In.enc (x : In) : List Nat := match lay x.op with | none => [] | some l => if l.has x = true then l.put x else []
structure Lay.Ok (l : Lay) : Prop where
  a : l.a.Ok
  b : l.b.Ok
  w : l.arms = true → l.a = nWidth
theorem ite_some {c : Prop} [Decidable c] {a l : Lay} {e : Option Lay} (h : (if c then some a else e) = some l) : (c ∧ a = l) ∨ (¬ c ∧ e = some l) := by
  by_cases hc : c
  · rw [if_pos hc] at h; exact .inl ⟨hc, Option.some.inj h⟩
  · rw [if_neg hc] at h; exact .inr ⟨hc, h⟩
theorem lay_ok {op : Nat} {l : Lay} (h : lay op = some l) : l.Ok ∧ 1 ≤ op ∧ op ≤ 52 := by
  unfold lay at h
  rcases ite_some h with ⟨hc, rfl⟩ | ⟨hn0, h⟩
  · exact ⟨⟨okI8, okNone, fun q => by first | rfl | cases q⟩, by omega, by omega⟩
  rcases ite_some h with ⟨hc, rfl⟩ | ⟨hn1, h⟩
  · exact ⟨⟨okI32, okNone, fun q => by first | rfl | cases q⟩, by omega, by omega⟩
  rcases ite_some h with ⟨hc, rfl⟩ | ⟨hn2, h⟩
  · exact ⟨⟨okI64, okNone, fun q => by first | rfl | cases q⟩, by omega, by omega⟩
  rcases ite_some h with ⟨hc, rfl⟩ | ⟨hn3, h⟩
  · exact ⟨⟨okShort, okNone, fun q => by first | rfl | cases q⟩, by omega, by omega⟩
  rcases ite_some h with ⟨hc, rfl⟩ | ⟨hn4, h⟩
  · exact ⟨⟨okShort, okShort, fun q => by first | rfl | cases q⟩, by omega, by omega⟩
  rcases ite_some h with ⟨hc, rfl⟩ | ⟨hn5, h⟩
  · exact ⟨⟨okKind, okNone, fun q => by first | rfl | cases q⟩, by omega, by omega⟩
  rcases ite_some h with ⟨hc, rfl⟩ | ⟨hn6, h⟩
  · exact ⟨⟨okWidth, okNone, fun q => by first | rfl | cases q⟩, by omega, by omega⟩
  rcases ite_some h with ⟨hc, rfl⟩ | ⟨hn7, h⟩
  · exact ⟨⟨okWidth, okWidth, fun q => by first | rfl | cases q⟩, by omega, by omega⟩
  rcases ite_some h with ⟨hc, rfl⟩ | ⟨hn8, h⟩
  · exact ⟨⟨okPlace, okNone, fun q => by first | rfl | cases q⟩, by omega, by omega⟩
  rcases ite_some h with ⟨hc, rfl⟩ | ⟨hn9, h⟩
  · exact ⟨⟨okByte, okNone, fun q => by first | rfl | cases q⟩, by omega, by omega⟩
  rcases ite_some h with ⟨hc, rfl⟩ | ⟨hn10, h⟩
  · exact ⟨⟨okWidth, okPlace, fun q => by first | rfl | cases q⟩, by omega, by omega⟩
  rcases ite_some h with ⟨hc, rfl⟩ | ⟨hn11, h⟩
  · exact ⟨⟨okNone, okNone, fun q => by first | rfl | cases q⟩, by omega, by omega⟩
  cases h
theorem armBytes_length (y : Int × Int) : (putArm y).length = 12 := by simp [putArm, Nm.put_length]; rfl
theorem putArms_flat (ar : List (Int × Int)) : ((ar.map putArm).flatten).length = ar.length * 12 := by
  induction ar with
  | nil => rfl
  | cons y r ih => simp only [List.map_cons, List.flatten_cons, List.length_append, ih, armBytes_length, List.length_cons]; omega
theorem Lay.put_length (l : Lay) (x : In) : (l.put x).length = l.size x.arms.length := by
  unfold Lay.put Lay.size Lay.putArms
  simp only [List.length_cons, List.length_append, Nm.put_length]
  split
  · simp only [List.length_append, Nm.put_length, putArms_flat]; show _ + (2 + _ + _) + 1 = _; omega
  · simp; omega
theorem enc_length (x : In) : x.enc.length = x.size := by
  unfold In.enc In.size
  split
  · rfl
  · split
    · exact Lay.put_length _ x
    · rfl
theorem size_pos (x : In) : x.ok = true ↔ 0 < x.size := by
  unfold In.ok In.size
  split
  · simp
  · rename_i l _
    cases h : l.has x
    · simp
    · simp only [if_true]; unfold Lay.size; simp; omega
structure Rds {α : Type} (R : List Nat → St → α × St) (u : List Nat) (a : α) : Prop where
  whole : ∀ xs p rest, xs.drop p = u ++ rest → R xs (p, 0) = (a, (p + u.length, 0))
  short : ∀ xs p j, j < u.length → xs.drop p = u.take j → (R xs (p, 0)).2.2 = 10
theorem Rds.map {α β : Type} {R : List Nat → St → α × St} {u : List Nat} {a : α} (h : Rds R u a) (f : α → β) : Rds (fun xs s => (f (R xs s).1, (R xs s).2)) u (f a) :=
  ⟨fun xs p rest e => by simp only [h.whole xs p rest e], fun xs p j hj e => h.short xs p j hj e⟩
def Own (w : World) (g : Nat) (cs : Array Value) (t : TypeId) : Prop := w.heap[g]? = some (Obj.cells cs t (0, 0))
theorem Own.lt {w : World} {g : Nat} {cs : Array Value} {t : TypeId} (h : Own w g cs t) : g < w.heap.size := (Array.getElem?_eq_some_iff.1 h).1
theorem Own.new (w : World) (cs : Array Value) (t : TypeId) : Own (w.alloc (.cells cs t)) w.heap.size cs t := heap_alloc_new w _
theorem Own.alloc {w : World} {g : Nat} {cs : Array Value} {t : TypeId} (h : Own w g cs t) (o : Obj) : Own (w.alloc o) g cs t := (Below.heap_alloc w o g h.lt).trans h
theorem Own.drew {w : World} {g : Nat} {cs : Array Value} {t : TypeId} (h : Own w g cs t) : Own w.drew g cs t := h
theorem Own.other {w : World} {g g' i : Nat} {cs : Array Value} {t : TypeId} (h : Own w g cs t) (hne : g ≠ g') (u : Value) : Own (w.setCell ⟨g', i, none⟩ u) g cs t := (Below.heap_setCell w ⟨g', i, none⟩ u g hne).trans h
theorem Own.ne {w : World} {g g' : Nat} {cs cs' : Array Value} {t t' : TypeId} (h : Own w g cs t) (h' : Own w g' cs' t') (ht : t ≠ t') : g ≠ g' := by
  rintro rfl
  unfold Own at h h'
  rw [h] at h'
  cases h'
  exact ht rfl
theorem heap_set (w : World) (g i : Nat) (cs : Array Value) (t : TypeId) (fr : Nat × Nat) (b : Value) (h : w.heap[g]? = some (.cells cs t fr)) :
    (w.setCell ⟨g, i, none⟩ b).heap[g]? = some (.cells (cs.setIfInBounds i b) t fr) := by
  simp [World.setCell, Array.getElem?_modify, h]
theorem Own.set {w : World} {g : Nat} {cs : Array Value} {t : TypeId} (h : Own w g cs t) (i : Nat) (u : Value) : Own (w.setCell ⟨g, i, none⟩ u) g (cs.setIfInBounds i u) t := heap_set w g i _ t (0, 0) u h
theorem Own.cell {w : World} {g : Nat} {cs : Array Value} {t : TypeId} (h : Own w g cs t) (i : Nat) : w.cell? ⟨g, i, none⟩ = cs[i]? := cell_of_row _ g i _ _ _ h
theorem Own.froz {w : World} {g : Nat} {cs : Array Value} {t : TypeId} (h : Own w g cs t) (i : Nat) : w.frozen? ⟨g, i, none⟩ = false := by unfold Own at h; simp [World.frozen?, h]
structure Fr (F : Nat → Prop) (w w' : World) : Prop where
  os : w'.os = w.os
  tape : w'.tape = w.tape
  output : w'.output = w.output
  size : w.heap.size ≤ w'.heap.size
  block : ∀ k, k < w.heap.size → ¬ F k → w'.heap[k]? = w.heap[k]?
theorem Fr.refl (F : Nat → Prop) (w : World) : Fr F w w := ⟨rfl, rfl, rfl, Nat.le_refl _, fun _ _ _ => rfl⟩
theorem Fr.trans {F : Nat → Prop} {a b c : World} (h : Fr F a b) (k : Fr F b c) : Fr F a c :=
  ⟨k.os.trans h.os, k.tape.trans h.tape, k.output.trans h.output, Nat.le_trans h.size k.size, fun i hi hn => (k.block i (Nat.lt_of_lt_of_le hi h.size) hn).trans (h.block i hi hn)⟩
theorem Fr.mono {F G : Nat → Prop} {a b : World} (h : Fr F a b) (hg : ∀ k, k < a.heap.size → F k → G k) : Fr G a b := ⟨h.os, h.tape, h.output, h.size, fun k hk hn => h.block k hk fun e => hn (hg k hk e)⟩
theorem Fr.of {F : Nat → Prop} {w w' : World} (h : Below w.heap.size w w') : Fr F w w' := ⟨h.os, h.tape, h.output, h.size, fun k hk _ => h.block k hk⟩
theorem Fr.alloc {F : Nat → Prop} {a w : World} (h : Fr F a w) (o : Obj) : Fr F a (w.alloc o) := h.trans (Fr.of ((Below.refl _ _).alloc (Nat.le_refl _) o))
theorem Fr.drew {F : Nat → Prop} {a w : World} (h : Fr F a w) : Fr F a w.drew := ⟨h.os, h.tape, h.output, h.size, h.block⟩
theorem Fr.set {F : Nat → Prop} {a w : World} (h : Fr F a w) {g : Nat} (hg : a.heap.size ≤ g ∨ F g) (i : Nat) (u : Value) : Fr F a (w.setCell ⟨g, i, none⟩ u) :=
  ⟨h.os, h.tape, h.output, Nat.le_trans h.size (by simp [World.setCell]), fun k hk hn => (Below.heap_setCell w ⟨g, i, none⟩ u k (by show k ≠ g; rintro rfl; rcases hg with hg | hg; omega; exact hn hg)).trans (h.block k hk hn)⟩
theorem Fr.grown {F : Nat → Prop} {a w w' : World} {row : Option Nat} (h : Fr F a w) (hg : w.grownBy w' row) (hr : ∀ k, k < a.heap.size → row = some k → F k) : Fr F a w' :=
  ⟨hg.os.trans h.os, hg.tape.trans h.tape, hg.output.trans h.output, Nat.le_trans h.size hg.size, fun k hk hn => (hg.block k (Nat.lt_of_lt_of_le hk h.size) (fun e => hn (hr k hk e.symm))).trans (h.block k hk hn)⟩
theorem Fr.below {w w' : World} (h : Fr (fun _ => False) w w') : Below w.heap.size w w' := ⟨h.os, h.tape, h.output, h.size, fun k hk => h.block k hk fun e => e⟩
theorem Own.fr {F : Nat → Prop} {w w' : World} {g : Nat} {cs : Array Value} {t : TypeId} (h : Own w g cs t) (hk : Fr F w w') (hne : ¬ F g) : Own w' g cs t := (hk.block g h.lt hne).trans h
theorem Own.grown {w w' : World} {g : Nat} {cs : Array Value} {t : TypeId} {row : Option Nat} (h : Own w g cs t) (hg : w.grownBy w' row) (hne : some g ≠ row) : Own w' g cs t := (hg.block g h.lt hne).trans h
theorem Own.below {w w' : World} {g : Nat} {cs : Array Value} {t : TypeId} (h : Own w g cs t) (hk : Below w.heap.size w w') : Own w' g cs t := (hk.block g h.lt).trans h
/-- A row of n parts of type e: in a block that holds such parts alone. -/
def Rw (w : World) (e : TypeId) (size : Nat) (v : Value) (n : Nat) (xs : List Value) : Prop := w.ownsRow 0 e size v n xs
theorem Rw.lt {w : World} {e : TypeId} {size : Nat} {v : Value} {n : Nat} {xs : List Value} (h : Rw w e size v n xs) {k : Nat} (hk : v.ownBlock = some k) : k < w.heap.size := (World.ownsRow.lt h k hk).2
theorem Rw.on {w w' : World} {e : TypeId} {size : Nat} {v : Value} {n : Nat} {xs : List Value} (h : Rw w e size v n xs) (hb : ∀ k, v.ownBlock = some k → w'.heap[k]? = w.heap[k]?) : Rw w' e size v n xs := by
  refine ⟨h.1, ?_⟩
  rcases h.2 with q | ⟨g, cap, cur, rfl, h1, h2, h3⟩
  · exact .inl q
  · exact .inr ⟨g, cap, cur, rfl, h1, (hb g rfl).trans h2, h3⟩
theorem Rw.fr {F : Nat → Prop} {w w' : World} {e : TypeId} {size : Nat} {v : Value} {n : Nat} {xs : List Value} (h : Rw w e size v n xs) (hk : Fr F w w') (hne : ∀ k, v.ownBlock = some k → ¬ F k) : Rw w' e size v n xs :=
  h.on fun k e => hk.block k (h.lt e) (hne k e)
theorem Rw.grown {w w' : World} {e : TypeId} {size : Nat} {v : Value} {n : Nat} {xs : List Value} {row : Option Nat} (h : Rw w e size v n xs) (hg : w.grownBy w' row) (hne : ∀ k, v.ownBlock = some k → some k ≠ row) : Rw w' e size v n xs :=
  h.on fun k e => hg.block k (h.lt e) (hne k e)
theorem Rw.alloc {w : World} {e : TypeId} {size : Nat} {v : Value} {n : Nat} {xs : List Value} (h : Rw w e size v n xs) (o : Obj) : Rw (w.alloc o) e size v n xs := World.ownsRow.alloc h o
theorem Rw.drew {w : World} {e : TypeId} {size : Nat} {v : Value} {n : Nat} {xs : List Value} (h : Rw w e size v n xs) : Rw w.drew e size v n xs := h
theorem Rw.set {w : World} {e : TypeId} {size : Nat} {v : Value} {n : Nat} {xs : List Value} (h : Rw w e size v n xs) {g : Nat} (hne : v.ownBlock ≠ some g) (i : Nat) (u : Value) : Rw (w.setCell ⟨g, i, none⟩ u) e size v n xs :=
  h.on fun k e => Below.heap_setCell w ⟨g, i, none⟩ u k (by show k ≠ g; rintro rfl; exact hne e)
/-- The row's block is of its type: apart from every block of another. -/
theorem Rw.ne {w : World} {e : TypeId} {size : Nat} {v : Value} {n : Nat} {xs : List Value} (h : Rw w e size v n xs) {g : Nat} {cs : Array Value} {t : TypeId} (ho : Own w g cs t) (ht : e ≠ t) : v.ownBlock ≠ some g := by
  rcases h.2 with ⟨rfl, _⟩ | ⟨g', cap, cur, rfl, _, hg, _⟩
  · simp [Value.ownBlock]
  · intro q
    simp [Value.ownBlock] at q
    subst q
    unfold Own at ho
    rw [hg] at ho
    cases ho
    exact ht rfl
theorem Rw.ne2 {w : World} {e e' : TypeId} {size size' : Nat} {v v' : Value} {n n' : Nat} {xs xs' : List Value} (h : Rw w e size v n xs) (h' : Rw w e' size' v' n' xs') (ht : e ≠ e') : ∀ k, v.ownBlock = some k → v'.ownBlock ≠ some k := by
  intro k hk
  rcases h.2 with ⟨rfl, _⟩ | ⟨g, cap, cur, rfl, _, hg, _⟩
  · simp [Value.ownBlock] at hk
  · simp [Value.ownBlock] at hk
    subst hk
    exact h'.ne (show Own w g cur e from hg) (Ne.symm ht)
theorem Rw.shape {w : World} {e : TypeId} {size : Nat} {v : Value} {n : Nat} {xs : List Value} (h : Rw w e size v n xs) : ∃ ao cap, v = .slice ao n cap ∧ n ≤ cap ∧ cap ≤ maxLen := by
  rcases h.2 with ⟨rfl, h0⟩ | ⟨g, cap, cur, rfl, _, hg, h1, h2, _⟩
  · exact ⟨none, 0, by rw [h0], by omega, by unfold maxLen; omega⟩
  · exact ⟨_, cap, rfl, h1, h2⟩
/-- A row that has parts lies in a block. -/
theorem Rw.block {w : World} {e : TypeId} {size : Nat} {v : Value} {n : Nat} {xs : List Value} (h : Rw w e size v n xs) (hn : 0 < n) : ∃ g cap cur, v = .slice (some ⟨g, 0, none⟩) n cap ∧ Own w g cur e ∧ n ≤ cap ∧ cap ≤ maxLen ∧ cur.size = cap * size ∧ cur.toList.take (n * size) = xs := by
  rcases h.2 with ⟨rfl, h0⟩ | ⟨g, cap, cur, rfl, _, hg, h1, h2, h3, h4⟩
  · omega
  · exact ⟨g, cap, cur, rfl, hg, h1, h2, h3, h4⟩
theorem Rw.cells {w : World} {e : TypeId} {size : Nat} {g n cap : Nat} {xs : List Value} (h : Rw w e size (.slice (some ⟨g, 0, none⟩) n cap) n xs) (j : Nat) (u : Value) (hu : xs[j]? = some u) : w.cell? ⟨g, j, none⟩ = some u := by
  have := World.ownsRow.cells h (g := g) rfl j u hu
  have hadd : (⟨g, 0, none⟩ : Addr).add j = ⟨g, j, none⟩ := by unfold Addr.add; split <;> simp_all
  rwa [hadd] at this
theorem Own.drewN {w : World} {g : Nat} {cs : Array Value} {t : TypeId} (h : Own w g cs t) (q : Nat) : Own (w.drewN q) g cs t := h
theorem Fr.drewN {F : Nat → Prop} {a w : World} (h : Fr F a w) (q : Nat) : Fr F a (w.drewN q) := ⟨h.os, h.tape, h.output, h.size, h.block⟩
theorem Rw.drewN {w : World} {e : TypeId} {size : Nat} {v : Value} {n : Nat} {xs : List Value} (h : Rw w e size v n xs) (q : Nat) : Rw (w.drewN q) e size v n xs := h
theorem below_drewN (w : World) (q : Nat) : Below w.heap.size w (w.drewN q) := ⟨rfl, rfl, rfl, Nat.le_refl _, fun _ _ => rfl⟩
theorem own4 {w : World} {g : Nat} {a0 a1 a2 a3 : Value} {t : TypeId} (h : Own w g #[a0, a1, a2, a3] t) : w.cell? ⟨g, 0, none⟩ = some a0 ∧ w.cell? ⟨g, 1, none⟩ = some a1 ∧ w.cell? ⟨g, 2, none⟩ = some a2 ∧ w.cell? ⟨g, 3, none⟩ = some a3 ∧ ∀ j, w.frozen? ⟨g, j, none⟩ = false := ⟨h.cell 0, h.cell 1, h.cell 2, h.cell 3, h.froz⟩
theorem addr_add (b j : Nat) : (⟨b, 0, none⟩ : Addr).add j = ⟨b, j, none⟩ := by unfold Addr.add; split <;> simp_all
structure ElemOk (tS e : TypeId) (z : Value) (size bytes : Nat) : Prop where
  under : Tryz.prog.underlying tS = some (.slice e)
  info : (Tryz.prog.info? e).map (fun i => (i.zero, i.size, i.bytes)) = some (some z, size, bytes)
  zs : z.cells.size = size
  pos : 0 < size
  small : bytes ≤ 1000
/-- append of one part that lies in a block of its own. -/
theorem run_app1 {tS e : TypeId} {z : Value} {size bytes : Nat} (I : ElemOk tS e z size bytes) (W : World) (ty : TypeId) (v : Value) (n : Nat) (xs : List Value) (hown : Rw W e size v n xs) (b : Nat) (cs : List Value) (hb : Own W b cs.toArray e) (hl : cs.length = size) (h1 : ∀ u ∈ cs, u.oneCell' = true) (h63 : n ≤ 10000000) :
    ∃ ao cap w', (Builtin.append_ #[tS, tS] ty #[v, .slice (some ⟨b, 0, none⟩) 1 1]).run Tryz.prog W = .ok (.slice ao (n + 1) cap) w' ∧ Rw w' e size (.slice ao (n + 1) cap) (n + 1) (xs ++ cs) ∧ W.grownBy w' v.ownBlock ∧ ((Value.slice ao (n + 1) cap).ownBlock = v.ownBlock ∨ (Value.slice ao (n + 1) cap).ownBlock = some W.heap.size) := by
  obtain ⟨i8, hi, hz0, hz1, hz2⟩ := info_parts I.info
  have hsm := I.small
  have h8 : (n + 1) * bytes ≤ 140737488355328 := Nat.le_trans (Nat.mul_le_mul_left (n + 1) hsm) (by omega)
  obtain ⟨v', w', hr, g1, g2, _, g4⟩ := run_append_own_at (P := Tryz.prog) W 0 tS ty e i8 _ size bytes I.under hi hz0 hz1 hz2 I.zs I.pos v n xs hown ⟨b, 0, none⟩ 1 1 cs (by rw [hl, Nat.one_mul]) (fun j u hu => by
    rw [addr_add, hb.cell]; simpa using hu) h1 (by unfold maxLen; omega) h8 (Nat.zero_le _)
  obtain ⟨ao, cap, rfl, _⟩ := Rw.shape g1
  exact ⟨ao, cap, w', hr, g1, g2, g4⟩
theorem wpList_app1 {tS e : TypeId} {z : Value} {size bytes : Nat} (I : ElemOk tS e z size bytes) {W : World} {ops : Array Oper} {rest : List Oper} {o : Oper} {a : Act} {Q : Exit → Act → World → Prop} (hgd : o.guard = none) (s x : Operand)
    (ho : o.op = .call { callee := .builtin .append, args := #[s, x], argTypes := #[tS, tS] }) (v : Value) (n : Nat) (xs : List Value) (hs : a.eval s = v) (hown : Rw W e size v n xs) (b : Nat) (cs : List Value) (hx : a.eval x = .slice (some ⟨b, 0, none⟩) 1 1) (hb : Own W b cs.toArray e) (hl : cs.length = size) (h1 : ∀ u ∈ cs, u.oneCell' = true) (h63 : n ≤ 10000000)
    (h : ∀ ao cap w', Rw w' e size (.slice ao (n + 1) cap) (n + 1) (xs ++ cs) → W.grownBy w' v.ownBlock → ((Value.slice ao (n + 1) cap).ownBlock = v.ownBlock ∨ (Value.slice ao (n + 1) cap).ownBlock = some W.heap.size) → wpList Tryz.prog ops Q rest (a.put o.dst (.slice ao (n + 1) cap)) w') :
    wpList Tryz.prog ops Q (o :: rest) a W := by
  obtain ⟨ao, cap, w', hr, g1, g2, g3⟩ := run_app1 I W o.type v n xs hown b cs hb hl h1 h63
  refine wpList_plain hgd fun K hK => ?_
  unfold Oper.wp execOp
  simp only [ho, resolve, invoke, builtin, Sem.run_bind, Sem.run_pure, Result.andThen_ok, List.map_toArray, List.map_cons, List.map_nil, hs, hx, hr]
  exact hK _ _ (h ao cap w' g1 g2 g3)
/-- append of a row that lies anywhere. -/
theorem run_appA {tS e : TypeId} {z : Value} {size bytes : Nat} (I : ElemOk tS e z size bytes) (W : World) (ty : TypeId) (v : Value) (k : Nat) (ys : List Value) (hown : Rw W e size v k ys) (ad : Addr) (n cap : Nat) (xs : List Value) (hl : xs.length = n * size) (hr : ∀ j u, xs[j]? = some u → W.cell? (ad.add j) = some u) (h1 : ∀ u ∈ xs, u.oneCell' = true) (hn : k + n ≤ 100000000000) :
    ∃ v' w', (Builtin.append_ #[tS, tS] ty #[v, .slice (some ad) n cap]).run Tryz.prog W = .ok v' w' ∧ Rw w' e size v' (k + n) (ys ++ xs) ∧ W.grownBy w' v.ownBlock ∧ (v'.ownBlock = v.ownBlock ∨ v'.ownBlock = some W.heap.size) := by
  obtain ⟨i8, hi, hz0, hz1, hz2⟩ := info_parts I.info
  have hsm := I.small
  have h8 : (k + n) * bytes ≤ 140737488355328 := Nat.le_trans (Nat.mul_le_mul_left (k + n) hsm) (by omega)
  obtain ⟨v', w', hrun, g1, g2, _, g4⟩ := run_append_own_at (P := Tryz.prog) W 0 tS ty e i8 _ size bytes I.under hi hz0 hz1 hz2 I.zs I.pos v k ys hown ad n cap xs hl hr h1 (by unfold maxLen; omega) h8 (Nat.zero_le _)
  exact ⟨v', w', hrun, g1, g2, g4⟩
theorem okA : ElemOk 41 51 (.agg #[.int .i64 0, .int .i64 0]) 2 16 := ⟨Tryz.underlying41, by kernel_rfl, rfl, by omega, by omega⟩
theorem bodyPost_cell1 {P : Program} {fn : Func} {R : Ending → World → Prop} {a : Act} {w : World} {p : Tmp} {ty : TypeId} {g : Nat} {t : TypeId} {cs : Array Value} {fr : Nat × Nat} {d : TypeDesc} (h : fn.results = #[.cell p ty])
    (hp : a.tmps.getD p undef = .pointer (some ⟨g, 0, none⟩)) (hd : a.defers = []) (hg : w.heap[g]? = some (.cells cs t fr))
    (hu : P.underlying ty = some d) (hd2 : (match d with | .struct _ | .array _ _ => true | _ => false) = true) (hi : (P.info? ty).map (·.size) = some cs.size)
    (hR : R (.returned (.agg cs)) w) : bodyPost P fn R .ret a w := by
  refine bodyPost_ret ?_ hd hR
  have hp' : a.tmps[p]?.getD undef = .pointer (some ⟨g, 0, none⟩) := by simpa using hp
  simp [results, h, hp', asAddr, run_loadVar_row w g t ty cs fr d hg hu hd2 hi]
theorem bodyPost_cell2 {P : Program} {fn : Func} {R : Ending → World → Prop} {a : Act} {w : World} {p u : Tmp} {ty : TypeId} {g : Nat} {t : TypeId} {cs : Array Value} {fr : Nat × Nat} {d : TypeDesc} (h : fn.results = #[.cell p ty, .tmp u])
    (hp : a.tmps.getD p undef = .pointer (some ⟨g, 0, none⟩)) (hd : a.defers = []) (hg : w.heap[g]? = some (.cells cs t fr))
    (hu : P.underlying ty = some d) (hd2 : (match d with | .struct _ | .array _ _ => true | _ => false) = true) (hi : (P.info? ty).map (·.size) = some cs.size)
    (hR : R (.returned (.tuple #[.agg cs, a.tmps.getD u undef])) w) : bodyPost P fn R .ret a w := by
  refine bodyPost_ret ?_ hd hR
  have hp' : a.tmps[p]?.getD undef = .pointer (some ⟨g, 0, none⟩) := by simpa using hp
  simp [results, h, hp', asAddr, run_loadVar_row w g t ty cs fr d hg hu hd2 hi]
@[go_sem] theorem run_store_nofunc {P : Program} {w : World} {a : Addr} {m : Mode} : (store a .nilFunc m).run P w = stored P w a .nilFunc m := run_store P w a _ m rfl
@[go_sem] theorem run_store_func {P : Program} {w : World} {a : Addr} {m : Mode} (f : Fn) (x y : Array Value) : (store a (.func f x y) m).run P w = stored P w a (.func f x y) m := run_store P w a _ m rfl
theorem new_below (w : World) (o : Obj) : Below w.heap.size w (w.alloc o) := (Below.refl _ _).alloc (Nat.le_refl _) o
/-- A struct that is written whole, or into a part of a block: as one step. -/
theorem wpList_put {W : World} {ops : Array Oper} {rest : List Oper} {o : Oper} {a : Act} {Q : Exit → Act → World → Prop} (hgd : o.guard = none) (ty : TypeId) (x y : Operand) (ho : o.op = .store ty x y) (hdst : o.dst = none) (g off : Nat) (hx : a.eval x = .pointer (some ⟨g, off, none⟩))
    {bs : Array Value} (hy : a.eval y = .agg bs) {cur : Array Value} {t : TypeId} (hown : Own W g cur t) (hi : (Tryz.prog.info? ty).map (·.size) = some bs.size) (h1 : bs.toList.all (·.oneCell') = true) (hsz : off + bs.size ≤ cur.size) {cur' : Array Value} (hc : (cur.toList.take off ++ bs.toList ++ cur.toList.drop (off + bs.size)).toArray = cur')
    (h : ∀ w', Own w' g cur' t → W.grownBy w' (some g) → wpList Tryz.prog ops Q rest a w') : wpList Tryz.prog ops Q (o :: rest) a W := by
  have hr := run_storeCells_at (P := Tryz.prog) g off t bs.toList 0 cur W hown (by simpa using hsz) (fun v hv => List.all_eq_true.1 h1 v hv)
  have hs : (storeVar ty ⟨g, off, none⟩ (.agg bs)).run Tryz.prog W = .ok () (W.setRow g cur') := by
    cases hq : Tryz.prog.info? ty with
    | none => simp [hq] at hi
    | some i =>
      have hsi : bs.size = i.size := by simp [hq] at hi; omega
      simp only [Nat.add_zero, Array.length_toList] at hr
      rw [hc] at hr
      simp [storeVar, sizeOf, typeInfo, hq, Value.cells, hsi, hr]
  have hown' : Own (W.setRow g cur') g cur' t := setRow_heap W g cur cur' t (0, 0) hown
  have hg : W.grownBy (W.setRow g cur') (some g) := ⟨rfl, rfl, rfl, by simp [World.setRow], fun k _ hk => setRow_other W g k cur' (fun e => hk (by rw [e]))⟩
  refine wpList_plain hgd fun K hK => ?_
  unfold Oper.wp execOp
  simp only [ho, hx, hy, Instr.storeAt, Instr.sureAddr, Sem.run_bind, Sem.run_pure, Result.andThen_ok, hs, Oper.upon]
  refine hK _ _ ?_
  rw [hdst]
  exact h _ hown' hg
theorem Own.put {w w' : World} {g g' : Nat} {cs : Array Value} {t : TypeId} (h : Own w g cs t) (hg : w.grownBy w' (some g')) (hne : g ≠ g') : Own w' g cs t := h.grown hg (fun e => hne (Option.some.inj e))
def nums (xs : List Nat) : List Value := xs.map fun (c : Nat) => Value.int .u8 (c : Int)
def Lies (w : World) (a : Option Addr) (xs : List Nat) : Prop :=
  (∀ c ∈ xs, c < 256) ∧ xs.length ≤ 9223372036854775807 ∧ (xs = [] ∨ ∃ b off, a = some ⟨b, off, none⟩ ∧ ∀ i, i < xs.length → w.cell? ⟨b, off + i, none⟩ = some (.int .u8 ((xs.getD i 0 : Nat) : Int)))
theorem Lies.fr {w w' : World} {a : Option Addr} {xs : List Nat} {F : Nat → Prop} (h : Lies w a xs) (hf : Fr F w w') (ha : ∀ b off, a = some ⟨b, off, none⟩ → ¬ F b) : Lies w' a xs := by
  refine ⟨h.1, h.2.1, ?_⟩
  rcases h.2.2 with h0 | ⟨b, off, rfl, hc⟩
  · exact .inl h0
  · refine .inr ⟨b, off, rfl, fun i hi => ?_⟩
    have h1 := hc i hi
    have hlt := World.block_lt_of_cell? w _ h1
    have hb := hf.block b hlt (ha b off rfl)
    rw [← h1]
    unfold World.cell?
    simp only [hb]
theorem Lies.below {w w' : World} {a : Option Addr} {xs : List Nat} (h : Lies w a xs) (hb : Below w.heap.size w w') : Lies w' a xs := h.fr (F := fun _ => False) (Fr.of hb) (fun _ _ _ q => q)
theorem Lies.alloc {w : World} {a : Option Addr} {xs : List Nat} (h : Lies w a xs) (o : Obj) : Lies (w.alloc o) a xs := h.below (new_below w o)
theorem below_drawn {B : Nat} {w w1 : World} (h : Below B w w1) (n : Nat) : Below B w (w1.drewN n) := ⟨h.os, h.tape, h.output, h.size, h.block⟩
theorem below_fr {w X Y : World} {F : Nat → Prop} (h : Below w.heap.size w X) (k : Fr F X Y) (hF : ∀ g, F g → w.heap.size ≤ g) : Below w.heap.size w Y :=
  ⟨k.os.trans h.os, k.tape.trans h.tape, k.output.trans h.output, Nat.le_trans h.size k.size, fun g hg => (k.block g (Nat.lt_of_lt_of_le hg h.size) (fun q => by have := hF g q; omega)).trans (h.block g hg)⟩
theorem nums_get (xs : List Nat) (i : Nat) (h : i < xs.length) : (nums xs)[i]? = some (.int .u8 ((xs.getD i 0 : Nat) : Int)) := by simp [nums, List.getD, h]
def After (w2 : World) : Type := { w' : World // Below w2.heap.size w2 w' }
theorem after_of {w2 w' : World} (h : Below w2.heap.size w2 w') : ∃ t : After w2, w' = t.1 := ⟨⟨w', h⟩, rfl⟩
theorem quiet_new {w2 : World} {f : FuncId} {args : Array Value} {v : Value} (t : After w2) (h : Calls Tryz.prog f args t.1 fun e w' => e = .returned v ∧ Below t.1.heap.size t.1 w') :
    Calls Tryz.prog f args t.1 fun e w'' => e = .returned v ∧ ∃ t' : After w2, w'' = t'.1 :=
  h.mono fun _ w' ⟨he, hb⟩ => ⟨he, ⟨w', t.2.trans (hb.mono t.2.size)⟩, rfl⟩
theorem wp_region_after {id : Nat} {Q : Exit → Act → World → Prop} {a : Act} {w : World} {l : List Oper} (hm : Tryz.prog.follows .mixedOrders = true) (hB : Region.lexB .any l.toArray = true)
    (h : wpQuiet Tryz.prog l.toArray (fun w' => ∃ t : After w, w' = t.1) (fun a' => ∀ w', (∃ t : After w, w' = t.1) → Q .normal a' w') l a) : (Code.region id l.toArray true).wp Tryz.prog Q a w :=
  wp_region_quiet (C := fun w' => ∃ t : After w, w' = t.1) hm hB (after_of ⟨rfl, rfl, rfl, Nat.le_refl _, fun _ _ => rfl⟩) (by simpa using h)
theorem cells4 {w : World} {g : Nat} {a0 a1 a2 a3 : Value} {t : TypeId} (h : Own w g #[a0, a1, a2, a3] t) : (∀ t : After w, t.1.cell? ⟨g, 0, none⟩ = some a0) ∧ (∀ t : After w, t.1.cell? ⟨g, 1, none⟩ = some a1) ∧ (∀ t : After w, t.1.cell? ⟨g, 2, none⟩ = some a2) ∧ (∀ t : After w, t.1.cell? ⟨g, 3, none⟩ = some a3) :=
  ⟨fun t => (h.below t.2).cell 0, fun t => (h.below t.2).cell 1, fun t => (h.below t.2).cell 2, fun t => (h.below t.2).cell 3⟩
theorem Rw.belowR {w w' : World} {e : TypeId} {size : Nat} {v : Value} {n : Nat} {xs : List Value} (h : Rw w e size v n xs) (hb : Below w.heap.size w w') : Rw w' e size v n xs := h.on fun k q => hb.block k (h.lt q)
/-- A row, whatever is written into a cell. -/
theorem Rw.anyset {w : World} {e : TypeId} {size : Nat} {v : Value} {n : Nat} {zs : List Value} (h : Rw w e size v n zs) (g j : Nat) (u : Value) : ∃ zs', Rw (w.setCell ⟨g, j, none⟩ u) e size v n zs' := by
  by_cases hv : v.ownBlock = some g
  · obtain ⟨ao, cp, rfl, -⟩ := h.shape
    cases ao with
    | none => simp [Value.ownBlock] at hv
    | some ad =>
      have h2 := h
      rcases h2.2 with ⟨h', _⟩ | ⟨g', cap', cur, h', -⟩
      · cases h'
      · cases h'
        have : g' = g := by simpa [Value.ownBlock] using hv
        subst this
        exact ⟨_, (World.ownsRow.stored h j u).1⟩
  · exact ⟨_, h.set hv j u⟩
/-- Bytes that are lent: a row that holds them, and the mark 77 behind. -/
def LentB (w : World) (g n c : Nat) (xs : List Nat) : Prop := Rw w 5 1 (.slice (some ⟨g, 0, none⟩) (n + 1) c) (n + 1) (nums (xs ++ [77]))
theorem LentB.below {w w' : World} {g n c : Nat} {xs : List Nat} (h : LentB w g n c xs) (hb : Below w.heap.size w w') : LentB w' g n c xs := Rw.on h fun k e => hb.block k (Rw.lt h e)
theorem LentB.lies {w : World} {g n c : Nat} {xs : List Nat} (h : LentB w g n c xs) (hn : n = xs.length) (hb : ∀ c ∈ xs, c < 256) (hm : xs.length ≤ 9223372036854775807) : Lies w (some ⟨g, 0, none⟩) xs := by
  refine ⟨hb, hm, .inr ⟨g, 0, rfl, fun i hi => ?_⟩⟩
  have q := nums_get (xs ++ [77]) i (by simp; omega)
  have e : (xs ++ [77]).getD i 0 = xs.getD i 0 := by simp [List.getD, List.getElem?_append, hi]
  rw [e] at q
  rw [Nat.zero_add]; exact Rw.cells h _ _ q
theorem LentB.mark {w : World} {g n c : Nat} {xs : List Nat} (h : LentB w g n c xs) (hn : n = xs.length) : w.cell? ⟨g, n, none⟩ = some (.int .u8 77) := by
  have q := nums_get (xs ++ [77]) n (by simp; omega)
  have e : (xs ++ [77]).getD n 0 = 77 := by rw [hn]; simp [List.getD]
  rw [e] at q
  exact Rw.cells h _ _ q
abbrev rdC (a : Option Addr) (L cap : Nat) (s : St) : Array Value := #[.slice a L cap, .int .i64 (s.1 : Int), .int .i64 (s.2 : Int)]
/-- What a call of the reader leaves. -/
def RdRet (r : Nat) (a : Option Addr) (L cap : Nat) (s : St) (w w' : World) : Prop := Own w' r (rdC a L cap s) 104 ∧ Fr (fun b => b = r) w w'
def armC (ar : List (Int × Int)) : List Value := (ar.map fun y => [Value.int .i64 y.1, .int .i64 y.2]).flatten
theorem armC_append (x y : List (Int × Int)) : armC (x ++ y) = armC x ++ armC y := by simp [armC]
theorem armC_length (x : List (Int × Int)) : (armC x).length = x.length * 2 := by
  induction x with
  | nil => rfl
  | cons y r ih =>
    have e : armC (y :: r) = .int .i64 y.1 :: .int .i64 y.2 :: armC r := rfl
    rw [e, List.length_cons, List.length_cons, List.length_cons, ih]; omega
theorem armC_one (x : List (Int × Int)) : ∀ u ∈ armC x, u.oneCell' = true := by
  intro u hu
  unfold armC at hu
  obtain ⟨l, hl, hu⟩ := List.mem_flatten.1 hu
  obtain ⟨y, _, rfl⟩ := List.mem_map.1 hl
  simp at hu
  rcases hu with rfl | rfl <;> rfl
theorem armC_get (x : List (Int × Int)) (i : Nat) (h : i < x.length) : (armC x)[i * 2]? = some (.int .i64 (x.getD i (0, 0)).1) ∧ (armC x)[i * 2 + 1]? = some (.int .i64 (x.getD i (0, 0)).2) := by
  induction x generalizing i with
  | nil => cases h
  | cons y r ih =>
    have e : armC (y :: r) = .int .i64 y.1 :: .int .i64 y.2 :: armC r := rfl
    rw [e]
    cases i with
    | zero => exact ⟨rfl, rfl⟩
    | succ i =>
      have := ih i (by simpa using h)
      rw [show (i + 1) * 2 = i * 2 + 1 + 1 by omega]
      simpa using this
/-- What stands in a round of the reading of arms. -/
structure Env (r : Nat) (a : Option Addr) (L cap f g6 g7 : Nat) (v : Value) (acc : List (Int × Int)) (w5 : World) (xs : List Nat) (s : St) (W : World) : Prop where
  own : Own W r (rdC a L cap s) 104
  o6 : Own W g6 #[.int .i64 8, .int .u8 3, .func (.func f) #[] #[]] 98
  o7 : Own W g7 #[.int .i64 4, .int .u8 0, .func (.func 124) #[] #[]] 98
  row : Rw W 51 2 v acc.length (armC acc)
  fr : Fr (fun b => b = r) w5 W
  lies : Lies W a xs
theorem Env.drew {r : Nat} {a : Option Addr} {L cap f g6 g7 : Nat} {v : Value} {acc : List (Int × Int)} {w5 : World} {xs : List Nat} {s : St} {W : World} (h : Env r a L cap f g6 g7 v acc w5 xs s W) : Env r a L cap f g6 g7 v acc w5 xs s W.drew := ⟨h.own.drew, h.o6.drew, h.o7.drew, h.row.drew, h.fr.drew, h.lies⟩
theorem Env.alloc {r : Nat} {a : Option Addr} {L cap f g6 g7 : Nat} {v : Value} {acc : List (Int × Int)} {w5 : World} {xs : List Nat} {s : St} {W : World} (h : Env r a L cap f g6 g7 v acc w5 xs s W) (o : Obj) : Env r a L cap f g6 g7 v acc w5 xs s (W.alloc o) :=
  ⟨h.own.alloc o, h.o6.alloc o, h.o7.alloc o, h.row.alloc o, h.fr.alloc o, h.lies.fr (F := fun _ => False) ((Fr.refl _ W).alloc o) (fun _ _ _ q => q)⟩
theorem Env.call {r : Nat} {a : Option Addr} {L cap f g6 g7 : Nat} {v : Value} {acc : List (Int × Int)} {w5 : World} {xs : List Nat} {s s' : St} {W W' : World} (h : Env r a L cap f g6 g7 v acc w5 xs s W) (ha : ∀ b off, a = some ⟨b, off, none⟩ → ¬ b = r) (h6 : ¬ g6 = r) (h7 : ¬ g7 = r)
    (hr : RdRet r a L cap s' W W') : Env r a L cap f g6 g7 v acc w5 xs s' W' :=
  ⟨hr.1, h.o6.fr hr.2 h6, h.o7.fr hr.2 h7, h.row.fr hr.2 (fun b q e => h.row.ne h.own (by decide) (by rw [q, e])), h.fr.trans hr.2, h.lies.fr hr.2 ha⟩
theorem Env.cells {r : Nat} {a : Option Addr} {L cap f g6 g7 : Nat} {v : Value} {acc : List (Int × Int)} {w5 : World} {xs : List Nat} {s : St} {W : World} (h : Env r a L cap f g6 g7 v acc w5 xs s W) :
    W.cell? ⟨g6, 0, none⟩ = some (.int .i64 8) ∧ W.cell? ⟨g6, 1, none⟩ = some (.int .u8 3) ∧ W.cell? ⟨g6, 2, none⟩ = some (.func (.func f) #[] #[]) ∧ W.cell? ⟨g7, 0, none⟩ = some (.int .i64 4) ∧ W.cell? ⟨g7, 1, none⟩ = some (.int .u8 0) ∧ W.cell? ⟨g7, 2, none⟩ = some (.func (.func 124) #[] #[]) :=
  ⟨h.o6.cell 0, h.o6.cell 1, h.o6.cell 2, h.o7.cell 0, h.o7.cell 1, h.o7.cell 2⟩
abbrev insV (x : In) (v : Value) : Value := .agg #[.int .u8 (x.op : Int), .int .i64 x.a, .int .i64 x.b, v]
abbrev zX : Array Value := #[.int .u8 0, .int .i64 0, .int .i64 0, .slice none 0 0]
def insC (ps : List (In × Value)) : List Value := (ps.map fun y => [Value.int .u8 (y.1.op : Int), .int .i64 y.1.a, .int .i64 y.1.b, y.2]).flatten
def intC (l : List Nat) : List Value := l.map fun (x : Nat) => Value.int .i64 (x : Int)
/-- A row of instructions of a call's own, each with its arms. -/
structure InsRow (w : World) (B : Nat) (v : Value) (ps : List (In × Value)) : Prop where
  row : Rw w 43 4 v ps.length (insC ps)
  new : ∀ b, v.ownBlock = some b → B ≤ b
  arms : ∀ y ∈ ps, Rw w 51 2 y.2 y.1.arms.length (armC y.1.arms) ∧ ∀ b, y.2.ownBlock = some b → B ≤ b
theorem InsRow.on {w w' : World} {B : Nat} {v : Value} {ps : List (In × Value)} (h : InsRow w B v ps) (hb : ∀ k, k < w.heap.size → w'.heap[k]? = w.heap[k]?) : InsRow w' B v ps :=
  ⟨h.row.on fun k e => hb k (h.row.lt e), h.new, fun y hy => ⟨(h.arms y hy).1.on fun k e => hb k ((h.arms y hy).1.lt e), (h.arms y hy).2⟩⟩
theorem InsRow.below {w w' : World} {B : Nat} {v : Value} {ps : List (In × Value)} (h : InsRow w B v ps) (hb : Below w.heap.size w w') : InsRow w' B v ps := h.on fun k hk => hb.block k hk
theorem InsRow.alloc {w : World} {B : Nat} {v : Value} {ps : List (In × Value)} (h : InsRow w B v ps) (o : Obj) : InsRow (w.alloc o) B v ps := h.below (new_below w o)
/-- A writer that has written xs, its row in blocks from B on. -/
def WrAt (w : World) (p B : Nat) (xs : List Nat) : Prop := ∃ v, Own w p #[v] 149 ∧ Rw w 5 1 v xs.length (nums xs) ∧ ∀ b, v.ownBlock = some b → B ≤ b
/-- What a writer's call keeps: all blocks but its own, and all that hold no bytes. -/
structure WrFr (p B : Nat) (w w' : World) : Prop where
  fr : Fr (fun b => b = p ∨ B ≤ b) w w'
  typ : ∀ g cs t, Own w g cs t → t ≠ 5 → g ≠ p → Own w' g cs t
theorem WrFr.trans {p B : Nat} {a b c : World} (h : WrFr p B a b) (k : WrFr p B b c) : WrFr p B a c := ⟨h.fr.trans k.fr, fun g cs t h1 h2 h3 => k.typ g cs t (h.typ g cs t h1 h2 h3) h2 h3⟩
theorem WrFr.of {p B : Nat} {w w' : World} (h : Below w.heap.size w w') : WrFr p B w w' := ⟨Fr.of h, fun g cs t h1 _ _ => h1.below h⟩
theorem WrAt.below {w w' : World} {p B : Nat} {xs : List Nat} (h : WrAt w p B xs) (hb : Below w.heap.size w w') : WrAt w' p B xs := by
  obtain ⟨v, h1, h2, h3⟩ := h
  exact ⟨v, h1.below hb, h2.on fun k e => hb.block k (h2.lt e), h3⟩
/-- Arms that lie where a slice begins. -/
structure ArmLies (w : World) (ao : Option Addr) (ar : List (Int × Int)) : Prop where
  nums : ∀ y ∈ ar, (-9223372036854775808 ≤ y.1 ∧ y.1 ≤ 9223372036854775807) ∧ (-9223372036854775808 ≤ y.2 ∧ y.2 ≤ 9223372036854775807)
  lies : ar = [] ∨ ∃ b off, ao = some ⟨b, off, none⟩ ∧ b < w.heap.size ∧ ∀ i, i < ar.length → w.cell? ⟨b, off + i * 2, none⟩ = some (.int .i64 (ar.getD i (0, 0)).1) ∧ w.cell? ⟨b, off + i * 2 + 1, none⟩ = some (.int .i64 (ar.getD i (0, 0)).2)
theorem ArmLies.fr {w w' : World} {ao : Option Addr} {ar : List (Int × Int)} {F : Nat → Prop} (h : ArmLies w ao ar) (hf : Fr F w w') (ha : ∀ b off, ao = some ⟨b, off, none⟩ → b < w.heap.size → ¬ F b) : ArmLies w' ao ar := by
  refine ⟨h.nums, ?_⟩
  rcases h.lies with h0 | ⟨b, off, rfl, hb, hc⟩
  · exact .inl h0
  · have hbl := hf.block b hb (ha b off rfl hb)
    refine .inr ⟨b, off, rfl, Nat.lt_of_lt_of_le hb hf.size, fun i hi => ?_⟩
    have h1 := hc i hi
    unfold World.cell? at h1 ⊢
    simp only [hbl]
    exact h1
theorem ArmLies.below {w w' : World} {ao : Option Addr} {ar : List (Int × Int)} (h : ArmLies w ao ar) (hb : Below w.heap.size w w') : ArmLies w' ao ar := h.fr (F := fun _ => False) (Fr.of hb) (fun _ _ _ _ q => q)
theorem ArmLies.alloc {w : World} {ao : Option Addr} {ar : List (Int × Int)} (h : ArmLies w ao ar) (o : Obj) : ArmLies (w.alloc o) ao ar := h.below (new_below w o)
theorem rw_armLies {w : World} {v : Value} {ar : List (Int × Int)} (h : Rw w 51 2 v ar.length (armC ar)) (hn : ∀ y ∈ ar, (-9223372036854775808 ≤ y.1 ∧ y.1 ≤ 9223372036854775807) ∧ (-9223372036854775808 ≤ y.2 ∧ y.2 ≤ 9223372036854775807)) : ∃ ao cp, v = .slice ao ar.length cp ∧ ArmLies w ao ar := by
  obtain ⟨ao, cp, rfl, -⟩ := h.shape
  refine ⟨ao, cp, rfl, hn, ?_⟩
  by_cases h0 : ar = []
  · exact .inl h0
  · obtain ⟨g, cap, cur, e, ho, -⟩ := h.block (List.length_pos_iff.2 h0)
    cases e
    refine .inr ⟨g, 0, rfl, ho.lt, fun i hi => ?_⟩
    have := armC_get ar i hi
    exact ⟨by rw [Nat.zero_add]; exact h.cells _ _ this.1, by rw [Nat.zero_add]; exact h.cells _ _ this.2⟩
/-- An instruction's value, its numbers in bounds, its arms lying somewhere. -/
structure InLies (w : World) (x : In) (ao : Option Addr) : Prop where
  op : x.op < 256
  a : -9223372036854775808 ≤ x.a ∧ x.a ≤ 9223372036854775807
  b : -9223372036854775808 ≤ x.b ∧ x.b ≤ 9223372036854775807
  arms : ArmLies w ao x.arms
theorem InLies.below {w w' : World} {x : In} {ao : Option Addr} (h : InLies w x ao) (hb : Below w.heap.size w w') : InLies w' x ao := ⟨h.op, h.a, h.b, h.arms.below hb⟩
theorem InLies.alloc {w : World} {x : In} {ao : Option Addr} (h : InLies w x ao) (o : Obj) : InLies (w.alloc o) x ao := h.below (new_below w o)
theorem WrAt.drew {w : World} {p B : Nat} {xs : List Nat} (h : WrAt w p B xs) : WrAt w.drew p B xs := h
theorem WrAt.alloc {w : World} {p B : Nat} {xs : List Nat} (h : WrAt w p B xs) (o : Obj) : WrAt (w.alloc o) p B xs := h.below (new_below w o)
/-- What Encode answers. -/
def EncRet (w : World) (x : In) (e : Ending) (w' : World) : Prop :=
  ∃ v, e = .returned (.tuple #[v, .int .i64 (if x.ok = true then 0 else 120)]) ∧ Rw w' 5 1 v x.enc.length (nums x.enc) ∧ (∀ b, v.ownBlock = some b → w.heap.size ≤ b) ∧ Below w.heap.size w w'
def nameL : List (List UInt8) := [[], [105, 56], [105, 51, 50], [105, 54, 52], [116, 114, 117, 101], [102, 97, 108, 115, 101], [116, 101, 120, 116], [103, 101, 116], [112, 117, 116], [112, 111, 112], [100, 117, 112], [97, 100, 100], [115, 117, 98], [109, 117, 108], [100, 105, 118], [114, 101, 109], [97, 110, 100], [111, 114], [120, 111, 114], [115, 104, 108], [115, 104, 114], [110, 101, 103], [110, 111, 116], [101, 113], [110, 101], [108, 116], [108, 101], [103, 116], [103, 101], [99, 111, 110, 118], [102, 108, 105, 112], [99, 97, 116], [115, 105, 122, 101], [99, 104, 97, 114, 97, 116], [99, 117, 116], [98, 121, 116, 101], [110, 101, 119], [102, 105, 101, 108, 100], [115, 101, 116, 102, 105, 101, 108, 100], [102, 105, 108, 108], [101, 109, 112, 116, 121], [97, 116], [115, 101, 116, 97, 116], [108, 101, 110], [112, 117, 115, 104], [100, 114, 111, 112], [106, 117, 109, 112], [117, 110, 108, 101, 115, 115], [119, 104, 101, 110], [115, 119, 105, 116, 99, 104], [99, 97, 108, 108], [114, 101, 116, 117, 114, 110], [116, 114, 97, 112]]
def nameB (op : Nat) : ByteArray := ⟨⟨nameL.getD op []⟩⟩
/-- The table of names lies where the program laid it. -/
def NamesAt (w : World) : Prop := ∀ i, i < 53 → w.cell? ⟨0, i, none⟩ = some (.string (nameB i))
theorem NamesAt.below {w w' : World} (h : NamesAt w) (hb : Below w.heap.size w w') : NamesAt w' := fun i hi => (hb.cell (p := ⟨0, i, none⟩) (World.block_lt_of_cell? w _ (h i hi))).trans (h i hi)
theorem may_in {k : Nm} (hk : k.Ok) {n : Int} (h : k.may n = true) : -9223372036854775808 ≤ n ∧ n ≤ 9223372036854775807 := by
  have := of_decide_eq_true h
  have := hk.l64
  have := hk.h64
  omega
/-- What is an instruction has numbers in bounds. -/
theorem ok_in {x : In} (h : x.ok = true) : x.op < 256 ∧ (-9223372036854775808 ≤ x.a ∧ x.a ≤ 9223372036854775807) ∧ (-9223372036854775808 ≤ x.b ∧ x.b ≤ 9223372036854775807) ∧ (∀ y ∈ x.arms, (-9223372036854775808 ≤ y.1 ∧ y.1 ≤ 9223372036854775807) ∧ (-9223372036854775808 ≤ y.2 ∧ y.2 ≤ 9223372036854775807)) ∧ x.arms.length ≤ 65535 := by
  unfold In.ok at h
  cases hl : lay x.op with
  | none => rw [hl] at h; cases h
  | some l =>
    rw [hl] at h
    simp only [Lay.has, Bool.and_eq_true] at h
    obtain ⟨h1, h2, h3⟩ := h
    obtain ⟨hok, ho1, ho2⟩ := lay_ok hl
    refine ⟨by omega, may_in hok.a h1, may_in hok.b h2, ?_⟩
    unfold Lay.hasArms at h3
    by_cases ha : l.arms = true
    · rw [if_pos ha, Bool.and_eq_true, decide_eq_true_eq, List.all_eq_true] at h3
      refine ⟨fun y hy => ?_, h3.1⟩
      have := h3.2 y hy
      rw [Bool.and_eq_true] at this
      exact ⟨may_in (okVal _) this.1, may_in okPlace this.2⟩
    · rw [if_neg ha] at h3
      rw [List.isEmpty_iff.1 h3]
      exact ⟨by simp, by simp⟩
theorem enc_small (x : In) : x.enc.length ≤ 1000000 := by
  rw [enc_length]
  by_cases h : x.ok = true
  · have := (ok_in h).2.2.2.2
    unfold In.size
    split
    · omega
    · rename_i l hl
      have ho := (lay_ok hl).1
      have := ho.a.sz
      have := ho.b.sz
      split
      · unfold Lay.size; split <;> omega
      · omega
  · have h0 : ¬ 0 < x.size := fun q => h ((size_pos x).2 q)
    omega
def nb (w : Int) : Nat := if w = 1 then 8 else if w = 2 then 32 else if w = 3 then 64 else 0
def oneB (n : Nat) (op : Int) (x : BitVec n) : BitVec n := if op = 21 then -x else if op = 22 then ~~~x else 0#n
def bv (w a : Int) : BitVec (nb w) := BitVec.ofInt (nb w) a
def one (op w a : Int) : Int := (oneB (nb w) op (bv w a)).toInt
/-- What put answers: the row with more behind; what it keeps. -/
def PutRet (w : World) (v : Value) (ys : List Nat) (e : Ending) (w' : World) : Prop :=
  ∃ v', e = .returned v' ∧ Rw w' 5 1 v' ys.length (nums ys) ∧ (∀ b, v'.ownBlock = some b → v.ownBlock = some b ∨ w.heap.size ≤ b) ∧ Fr (fun b => v.ownBlock = some b) w w'
/-- Where the document's writing stands: what it keeps since W0; its row. -/
structure ESt (w W0 W : World) (v : Value) (ys : List Nat) : Prop where
  keep : ∀ g cs t, Own W0 g cs t → t ≠ 5 → Own W g cs t
  row : Rw W 5 1 v ys.length (nums ys)
  new : ∀ b, v.ownBlock = some b → w.heap.size ≤ b
  bel : Below w.heap.size w W
theorem ESt.drew {w W0 W : World} {v : Value} {ys : List Nat} (h : ESt w W0 W v ys) : ESt w W0 W.drew v ys := ⟨fun g cs t a b => h.keep g cs t a b, h.row, h.new, ⟨h.bel.os, h.bel.tape, h.bel.output, h.bel.size, h.bel.block⟩⟩
theorem ESt.put {w W0 W : World} {v : Value} {ys zs : List Nat} {e : Ending} {W' : World} (h : ESt w W0 W v ys) (hp : PutRet W v zs e W') : ∃ a m c, e = .returned (.slice a m c) ∧ ESt w W0 W' (.slice a m c) zs := by
  obtain ⟨v', rfl, h1, h2, h3⟩ := hp
  obtain ⟨a, c, rfl, -⟩ := h1.shape
  refine ⟨a, _, c, rfl, fun g cs t q1 q2 => (h.keep g cs t q1 q2).fr h3 (h.row.ne (h.keep g cs t q1 q2) (Ne.symm q2)), h1, ?_, ?_⟩
  · intro b hb
    rcases h2 b hb with q | q
    · exact h.new b q
    · exact Nat.le_trans h.bel.size q
  · refine ⟨h3.os.trans h.bel.os, h3.tape.trans h.bel.tape, h3.output.trans h.bel.output, Nat.le_trans h.bel.size h3.size, fun k hk => ?_⟩
    exact (h3.block k (Nat.lt_of_lt_of_le hk h.bel.size) (fun q => by have := h.new k q; omega)).trans (h.bel.block k hk)
theorem ESt.ret {w W0 W : World} {x : In} {v : Value} {ys : List Nat} (h : ESt w W0 W v ys) (he : ys = x.enc) (hok : x.ok = true) {e : Ending} (hr : e = .returned (.tuple #[v, .int .i64 0])) : EncRet w x e W := by
  subst he
  refine ⟨v, ?_, h.row, h.new, h.bel⟩
  rw [hr, hok]; rfl
theorem cellsU8 : Tryz.prog.cellsOf 5 = 1 := by kernel_rfl
theorem cellsI64 : Tryz.prog.cellsOf 2 = 1 := by kernel_rfl
theorem cellsInt : Tryz.prog.cellsOf 3 = 1 := by kernel_rfl
theorem cellsArm : Tryz.prog.cellsOf 51 = 2 := by kernel_rfl
theorem cellsArms : Tryz.prog.cellsOf 41 = 1 := by kernel_rfl
theorem cellsIns : Tryz.prog.cellsOf 43 = 4 := by kernel_rfl
theorem wf_u8 {x : Int} (h : (Lit.int .u8 x).wf = true) : 0 ≤ x ∧ x < 256 := by
  have h2 := h
  simp [Lit.wf] at h2
  have e1 : IntKind.u8.min = 0 := by rfl
  have e2 : IntKind.u8.max = 255 := by rfl
  rw [e1, e2] at h2
  exact ⟨by omega, by omega⟩
theorem wf_i64 {x : Int} (h : (Lit.int .i64 x).wf = true) : -9223372036854775808 ≤ x ∧ x ≤ 9223372036854775807 := by
  have h2 := h
  simp [Lit.wf] at h2
  have e1 : IntKind.i64.min = -9223372036854775808 := by rfl
  have e2 : IntKind.i64.max = 9223372036854775807 := by rfl
  rw [e1] at h2
  exact ⟨by omega, by omega⟩
theorem add_lit (b o i : Nat) : (⟨b, o, none⟩ : Addr).add i = ⟨b, o + i, none⟩ := by unfold Addr.add; split <;> simp_all
theorem list2 {α : Type} (l : List α) (h : l.length = 2) : ∃ a0 a1, l = [a0, a1] := by
  match l, h with
  | [a0, a1], _ => exact ⟨a0, a1, rfl⟩
theorem list4 {α : Type} (l : List α) (h : l.length = 4) : ∃ a0 a1 a2 a3, l = [a0, a1, a2, a3] := by
  match l, h with
  | [a0, a1, a2, a3], _ => exact ⟨a0, a1, a2, a3, rfl⟩
set_option maxRecDepth 100000 in
theorem trod_arms {H : Type} {enc : TypeId × Value → H} {W : World} {v : Value} {fuel : Nat} {y : DataW H × List MemPlace} (h : DataW.trod enc Tryz.prog W 0 (fun _ => true) true fuel 41 [v] = some y) :
    ∃ ao ar cap, v = .slice ao ar.length cap ∧ ArmLies W ao ar ∧ (ao = none → cap = 0) ∧ ar.length ≤ cap ∧ cap ≤ maxLen := by
  rcases open_slice Tryz.underlying41 h with ⟨e, _⟩ | ⟨a, len, cap, m, n, D, Pl, e, hb, hl, hm, hmm, _, hx⟩
  · simp at e
    subst e
    exact ⟨none, [], 0, rfl, ⟨by simp, .inl rfl⟩, fun _ => rfl, Nat.le_refl _, by unfold maxLen; omega⟩
  · simp at e
    subst e
    simp only [if_true] at hmm
    subst hmm
    have each : ∀ i, i < len → ∃ y : Int × Int, W.cell? (a.add (i * 2)) = some (.int .i64 y.1) ∧ W.cell? (a.add (i * 2 + 1)) = some (.int .i64 y.2) ∧ (-9223372036854775808 ≤ y.1 ∧ y.1 ≤ 9223372036854775807) ∧ (-9223372036854775808 ≤ y.2 ∧ y.2 ≤ 9223372036854775807) := by
      intro i hi
      obtain ⟨cs, h1, h2⟩ := hx i (by omega)
      rw [cellsArm] at h1
      obtain ⟨_, hlen, hcell⟩ := World.cells?_some h1
      obtain ⟨xs, k, hk, _, hcl, hxl, hf⟩ := DataW.trod_struct Tryz.underlying51 h2
      rw [cellsArm] at hcl
      obtain ⟨y0, y1, rfl⟩ := list2 xs hxl
      obtain ⟨u0, u1, rfl⟩ := list2 cs hcl
      have g0 := hf 0 _ rfl
      have g1 := hf 1 _ rfl
      simp [cellsI64, cellsInt] at g0 g1
      obtain ⟨x0, q0, _, b0⟩ := DataW.trod_int Tryz.underlying2 g0
      obtain ⟨x1, q1, _, b1⟩ := DataW.trod_int Tryz.underlying3 g1
      simp at q0 q1
      subst q0 q1
      have e0 := hcell 0 (by omega)
      have e1 := hcell 1 (by omega)
      rw [add_add] at e0 e1
      exact ⟨(x0, x1), by simpa using e0, by simpa using e1, wf_i64 b0, wf_i64 b1⟩
    obtain ⟨f, hf⟩ := @choose_lt (Int × Int) ⟨(0, 0)⟩ _ _ each
    have hlen : ((List.range len).map f).length = len := by simp
    refine ⟨some a, (List.range len).map f, m, by rw [hlen], ⟨?_, ?_⟩, (fun e => by cases e), by rw [hlen]; exact hl, hm⟩
    · intro s hs
      obtain ⟨i, hi, rfl⟩ := List.mem_map.1 hs
      exact (hf i (List.mem_range.1 hi)).2.2
    · by_cases h0 : len = 0
      · left; rw [h0]; rfl
      · right
        obtain ⟨b, o, spot⟩ := a
        have c0 := (hf 0 (by omega)).1
        have hs : spot = none := by simpa [Addr.add] using World.cell?_spot c0
        subst hs
        refine ⟨b, o, rfl, by simpa [Addr.add] using World.block_lt_of_cell? W _ c0, fun i hi => ?_⟩
        rw [hlen] at hi
        have hd : ((List.range len).map f).getD i (0, 0) = f i := by simp [List.getD, hi]
        have h2 := hf i hi
        rw [hd]
        rw [add_lit, add_lit] at h2
        exact ⟨h2.1, by rw [Nat.add_assoc]; exact h2.2.1⟩
/-- An instruction that came in. -/
structure InAt (w : World) (x : In) (ao : Option Addr) (cap : Nat) : Prop where
  lies : InLies w x ao
  none : ao = none → cap = 0
  le : x.arms.length ≤ cap
  max : cap ≤ maxLen
set_option maxRecDepth 100000 in
theorem trod_ins {H : Type} {enc : TypeId × Value → H} {W : World} {cs : List Value} {fuel : Nat} {y : DataW H × List MemPlace} (h : DataW.trod enc Tryz.prog W 0 (fun _ => true) true fuel 43 cs = some y) :
    ∃ x ao cap, cs = [.int .u8 (x.op : Int), .int .i64 x.a, .int .i64 x.b, .slice ao x.arms.length cap] ∧ InAt W x ao cap := by
  obtain ⟨xs, k, hk, rfl, hcl, hxl, hf⟩ := DataW.trod_struct Tryz.underlying43 h
  rw [cellsIns] at hcl
  obtain ⟨y0, y1, y2, y3, rfl⟩ := list4 xs hxl
  obtain ⟨u0, u1, u2, u3, rfl⟩ := list4 cs hcl
  have g0 := hf 0 _ rfl
  have g1 := hf 1 _ rfl
  have g2 := hf 2 _ rfl
  have g3 := hf 3 _ rfl
  simp [cellsU8, cellsI64, cellsArms] at g0 g1 g2 g3
  obtain ⟨x0, q0, _, b0⟩ := DataW.trod_int Tryz.underlying5 g0
  obtain ⟨x1, q1, _, b1⟩ := DataW.trod_int Tryz.underlying2 g1
  obtain ⟨x2, q2, _, b2⟩ := DataW.trod_int Tryz.underlying2 g2
  obtain ⟨ao, ar, cap, q3, ha, hno, hle, hmx⟩ := trod_arms g3
  simp at q0 q1 q2
  subst q0 q1 q2 q3
  have hb := wf_u8 b0
  obtain ⟨z, rfl⟩ := Int.eq_ofNat_of_zero_le hb.1
  exact ⟨⟨z, x1, x2, ar⟩, ao, cap, rfl, ⟨by show z < 256; omega, wf_i64 b1, wf_i64 b2, ha⟩, hno, hle, hmx⟩
set_option maxRecDepth 100000 in
theorem open_ins {H : Type} {enc : TypeId × Value → H} {W : World} {base : Nat} {v : Value} {d : DataW H} {ps : List MemPlace} {r : Reach} (hv : Value.okWide Tryz.prog W r base 43 v) (h : DataW.Trod enc Tryz.prog W 0 (fun _ => true) true 43 v d ps) :
    ∃ x ao cap, v = insV x (.slice ao x.arms.length cap) ∧ InAt W x ao cap := by
  obtain ⟨cs, rfl, -⟩ := okWide_struct Tryz.underlying43 hv
  obtain ⟨fuel, h⟩ := h
  obtain ⟨x, ao, cap, e, hs⟩ := trod_ins h
  refine ⟨x, ao, cap, ?_, hs⟩
  have e2 : cs.toList = [.int .u8 (x.op : Int), .int .i64 x.a, .int .i64 x.b, .slice ao x.arms.length cap] := by simpa [Value.cells] using e
  unfold insV
  rw [← Array.toArray_toList (xs := cs), e2]
set_option maxHeartbeats 2000000 in
set_option maxRecDepth 100000 in
theorem sameIns_eq {w : World} {x : In} {a a' : Option Addr} {n c c' : Nat} (hn : n = x.arms.length) (h : ArmLies w a x.arms) (h' : ArmLies w a' x.arms) (hm : n ≤ 9223372036854775807) :
    Calls Tryz.prog 32 #[insV x (.slice a n c), insV x (.slice a' n c')] w fun e w' => e = .returned (.bool true) ∧ Below w.heap.size w w' := by
  have HN : Hid (n = x.arms.length) := hn
  have o1 := (Own.new w #[.int .u8 (x.op : Int), .int .i64 x.a, .int .i64 x.b, .slice a n c] 43).alloc (.cells #[.int .u8 (x.op : Int), .int .i64 x.a, .int .i64 x.b, .slice a' n c'] 43)
  have o2 := Own.new (w.alloc (.cells #[.int .u8 (x.op : Int), .int .i64 x.a, .int .i64 x.b, .slice a n c] 43)) #[.int .u8 (x.op : Int), .int .i64 x.a, .int .i64 x.b, .slice a' n c'] 43
  rw [World.size_alloc] at o2
  have hb0 : Below w.heap.size w ((w.alloc (.cells #[.int .u8 (x.op : Int), .int .i64 x.a, .int .i64 x.b, .slice a n c] 43)).alloc (.cells #[.int .u8 (x.op : Int), .int .i64 x.a, .int .i64 x.b, .slice a' n c'] 43)) := (new_below _ _).alloc (by simp) _
  have H1 : Hid (ArmLies ((w.alloc (.cells #[.int .u8 (x.op : Int), .int .i64 x.a, .int .i64 x.b, .slice a n c] 43)).alloc (.cells #[.int .u8 (x.op : Int), .int .i64 x.a, .int .i64 x.b, .slice a' n c'] 43)) a x.arms) := h.below hb0
  have H2 : Hid (ArmLies ((w.alloc (.cells #[.int .u8 (x.op : Int), .int .i64 x.a, .int .i64 x.b, .slice a n c] 43)).alloc (.cells #[.int .u8 (x.op : Int), .int .i64 x.a, .int .i64 x.b, .slice a' n c'] 43)) a' x.arms) := h'.below hb0
  unfold insV
  generalize x.arms = ar at *
  generalize (x.op : Int) = N at *
  generalize x.a = XA at *
  generalize x.b = XB at *
  clear hn h h'
  go_enter Tryz.func32, Tryz.ntmps32
  go_upto_region 1 with fail
  generalize (w.alloc (.cells #[.int .u8 N, .int .i64 XA, .int .i64 XB, .slice a n c] 43)).alloc (.cells #[.int .u8 N, .int .i64 XA, .int .i64 XB, .slice a' n c'] 43) = w2 at *
  obtain ⟨x0, x1, x2, x3, xf⟩ := own4 o1
  obtain ⟨y0, y1, y2, y3, yf⟩ := own4 o2
  go_wp2_with fail
  go_loopw [5] (fun i wr => ∃ k q : Nat, k ≤ n ∧ i = .int .i64 (k : Int) ∧ wr = w2.drewN q) (fun i _ => n - (intOf i).toNat)
  case atStart => exact ⟨0, 0, Nat.zero_le _, rfl, rfl⟩
  case round =>
    obtain ⟨k, q, hk, rfl, rfl⟩ := hrel
    by_cases hlt : k < n
    · have hkx : k < ar.length := by rw [← HN.out]; exact hlt
      rcases H1.out.lies with h0 | ⟨b, off, rfl, hbl, hc⟩
      · rw [h0] at hkx; cases hkx
      rcases H2.out.lies with h0 | ⟨b', off', rfl, hbl', hc'⟩
      · rw [h0] at hkx; cases hkx
      obtain ⟨d1, d2⟩ := hc k hkx
      obtain ⟨d3, d4⟩ := hc' k hkx
      generalize ar.getD k (0, 0) = V at *
      obtain ⟨V1, V2⟩ := V
      simp only at d1 d2 d3 d4
      clear hc hc'
      have hlt2 : (k : Int) < (n : Int) := by omega
      have hk0 : (0 : Int) ≤ (k : Int) := by omega
      go_wp2_with fail
      go_quiet (fail)
      go_wp2
      go_roundw
      case rel => exact ⟨k + 1, _, hlt, by go_num, rfl⟩
      case measure => simp [intOf]; omega
    · go_wp2
      go_ret
      exact ⟨rfl, below_drawn hb0 q⟩
/-- append of arms that lie anywhere (or of none) to nothing. -/
theorem run_appR (W : World) (ty : TypeId) (ao : Option Addr) (m c : Nat) (ar : List (Int × Int)) (hl : ArmLies W ao ar) (hm : m = ar.length) (hno : ao = none → c = 0) (hn : m ≤ 1000000) :
    ∃ ao' c' w', (Builtin.append_ #[41, 41] ty #[.slice none 0 0, .slice ao m c]).run Tryz.prog W = .ok (.slice ao' m c') w' ∧ Rw w' 51 2 (.slice ao' m c') m (armC ar) ∧ Below W.heap.size W w' ∧ (∀ b, (Value.slice ao' m c').ownBlock = some b → W.heap.size ≤ b) := by
  have hown : Rw W 51 2 (.slice none 0 0) 0 [] := ⟨rfl, .inl ⟨rfl, rfl⟩⟩
  cases ao with
  | none =>
    have hm0 : m = 0 := by
      rcases hl.lies with h0 | ⟨b, off, h0, _⟩
      · rw [hm, h0]; rfl
      · exact (Option.some_ne_none _ h0.symm).elim
    have hc0 := hno rfl
    subst hm0; subst hc0
    have hy : ar = [] := List.eq_nil_of_length_eq_zero hm.symm
    subst hy
    have hr : (Builtin.append_ #[41, 41] ty #[.slice none 0 0, .slice none 0 0]).run Tryz.prog W = .ok (.slice none 0 0) W := by
      obtain ⟨i8, hi, hz0, hz1, hz2⟩ := info_parts okA.info
      exact run_append_owned_none (P := Tryz.prog) (w := W) 0 41 ty 51 i8 2 Tryz.underlying41 hi _ _ _ hown
    exact ⟨none, 0, W, hr, hown, Below.refl _ _, fun b q => by cases q⟩
  | some ad =>
    have hcell : ∀ j u, (armC ar)[j]? = some u → W.cell? (ad.add j) = some u := by
      intro j u hu
      rcases hl.lies with h0 | ⟨b, off, h0, _, hc⟩
      · rw [h0] at hu; cases hu
      · cases h0
        have hj : j < ar.length * 2 := by
          by_cases hj : j < ar.length * 2
          · exact hj
          · rw [List.getElem?_eq_none (by rw [armC_length]; omega)] at hu; cases hu
        have hadd : (⟨b, off, none⟩ : Addr).add j = ⟨b, off + j, none⟩ := by unfold Addr.add; split <;> simp_all
        rw [hadd]
        have hj2 : j / 2 < ar.length := by omega
        have g := armC_get ar (j / 2) hj2
        have q := hc (j / 2) hj2
        rcases (by omega : j = j / 2 * 2 ∨ j = j / 2 * 2 + 1) with e | e
        · rw [e] at hu ⊢
          rw [g.1] at hu; rw [← hu]; exact q.1
        · rw [e] at hu ⊢
          rw [g.2] at hu; rw [← hu, ← Nat.add_assoc]; exact q.2
    obtain ⟨v', w', hr, g1, g2, g3⟩ := run_appA okA W ty (.slice none 0 0) 0 [] hown ad m c (armC ar) (by rw [armC_length, hm]) hcell (armC_one ar) (by omega)
    rw [Nat.zero_add, List.nil_append] at g1
    obtain ⟨ao', c', rfl, -⟩ := g1.shape
    refine ⟨ao', c', w', hr, g1, (Below.refl _ _).grown g2 (Nat.le_refl _) (fun k e => by cases e), fun b q => ?_⟩
    rcases g3 with g3 | g3
    · rw [g3] at q; cases q
    · rw [g3] at q; cases q; exact Nat.le_refl _
theorem wpList_appR {W : World} {ops : Array Oper} {rest : List Oper} {o : Oper} {a : Act} {Q : Exit → Act → World → Prop} (hgd : o.guard = none) (s x : Operand)
    (ho : o.op = .call { callee := .builtin .append, args := #[s, x], argTypes := #[41, 41] }) (hs : a.eval s = .slice none 0 0) (ao : Option Addr) (m c : Nat) (ar : List (Int × Int)) (hx : a.eval x = .slice ao m c) (hl : ArmLies W ao ar) (hm : m = ar.length) (hno : ao = none → c = 0) (hn : m ≤ 1000000)
    (h : ∀ ao' c' w', Rw w' 51 2 (.slice ao' m c') m (armC ar) → Below W.heap.size W w' → (∀ b, (Value.slice ao' m c').ownBlock = some b → W.heap.size ≤ b) → wpList Tryz.prog ops Q rest (a.put o.dst (.slice ao' m c')) w') :
    wpList Tryz.prog ops Q (o :: rest) a W := by
  obtain ⟨ao', c', w', hrun, g1, g2, g4⟩ := run_appR W o.type ao m c ar hl hm hno hn
  refine wpList_plain hgd fun K hK => ?_
  unfold Oper.wp execOp
  simp only [ho, resolve, invoke, builtin, Sem.run_bind, Sem.run_pure, Result.andThen_ok, List.map_toArray, List.map_cons, List.map_nil, hs, hx, hrun]
  exact hK _ _ (h ao' c' w' g1 g2 g4)
/-- Where the lending stands: the three blocks, the row of arms. -/
structure LSt (w W : World) (X R Y : Array Value) (v : Value) (m : Nat) (ar : List (Int × Int)) : Prop where
  ox : Own W w.heap.size X 43
  or : Own W (w.heap.size + 1) R 43
  oy : Own W (w.heap.size + 1 + 1) Y 43
  row : Rw W 51 2 v m (armC ar)
  new : ∀ b, v.ownBlock = some b → w.heap.size ≤ b
  bel : Below w.heap.size w W
theorem LSt.setY {w W : World} {X R : Array Value} {y0 y1 y2 y3 : Value} {v : Value} {m : Nat} {ar : List (Int × Int)} (h : LSt w W X R #[y0, y1, y2, y3] v m ar) (u : Value) : LSt w (W.setCell ⟨w.heap.size + 1 + 1, 3, none⟩ u) X R #[y0, y1, y2, u] v m ar :=
  ⟨h.ox.other (by omega) u, h.or.other (by omega) u, by simpa using h.oy.set 3 u, h.row.set (h.row.ne h.oy (by decide)) 3 u, h.new, h.bel.setCell (p := ⟨w.heap.size + 1 + 1, 3, none⟩) (by show w.heap.size ≤ w.heap.size + 1 + 1; omega) u⟩
theorem LSt.grown {w W W' : World} {X R Y : Array Value} {v v' : Value} {m m' : Nat} {ar ar' : List (Int × Int)} (h : LSt w W X R Y v m ar) (hr : Rw W' 51 2 v' m' (armC ar')) (hg : W.grownBy W' v.ownBlock) (hv : v'.ownBlock = v.ownBlock ∨ v'.ownBlock = some W.heap.size) : LSt w W' X R Y v' m' ar' := by
  refine ⟨h.ox.grown hg (fun e => h.row.ne h.ox (by decide) e.symm), h.or.grown hg (fun e => h.row.ne h.or (by decide) e.symm), h.oy.grown hg (fun e => h.row.ne h.oy (by decide) e.symm), hr, fun b q => ?_, h.bel.grown hg h.bel.size (fun k e => h.new k e)⟩
  rcases hv with e | e
  · rw [e] at q; exact h.new b q
  · rw [e] at q; cases q; exact h.bel.size
theorem LSt.alloc {w W : World} {X R Y : Array Value} {v : Value} {m : Nat} {ar : List (Int × Int)} (h : LSt w W X R Y v m ar) (o : Obj) : LSt w (W.alloc o) X R Y v m ar :=
  ⟨h.ox.alloc o, h.or.alloc o, h.oy.alloc o, h.row.alloc o, h.new, h.bel.alloc h.bel.size o⟩
set_option maxHeartbeats 2000000 in
set_option maxRecDepth 100000 in
theorem klent_as {w : World} {x : In} {ao : Option Addr} {cp : Nat} (hl : InAt w x ao cp) (n : Nat) (hn : n = x.arms.length) (hmx : n ≤ 100000) :
    Calls Tryz.prog 27 #[insV x (.slice ao n cp)] w fun e w' => ∃ g c, e = .returned (insV x (.slice (some ⟨g, 0, none⟩) n c)) ∧ Rw w' 51 2 (.slice (some ⟨g, 0, none⟩) (n + 1) c) (n + 1) (armC (x.arms ++ [(77, 0)])) ∧ w.heap.size ≤ g ∧ Below w.heap.size w w' := by
  have HN : Hid (n = x.arms.length) := hn
  have HNO : Hid (ao = none → cp = 0) := hl.none
  have HAL : Hid (∀ W, Below w.heap.size w W → ArmLies W ao x.arms) := fun W h => hl.lies.arms.below h
  unfold insV
  generalize (x.op : Int) = N at *
  generalize x.a = XA at *
  generalize x.b = XB at *
  generalize x.arms = ar at *
  clear hn hl
  have L3 : LSt w (((w.alloc (.cells #[.int .u8 N, .int .i64 XA, .int .i64 XB, .slice ao n cp] 43)).alloc (.cells #[.int .u8 0, .int .i64 0, .int .i64 0, .slice none 0 0] 43)).alloc (.cells #[.int .u8 N, .int .i64 XA, .int .i64 XB, .slice none 0 0] 43)) #[.int .u8 N, .int .i64 XA, .int .i64 XB, .slice ao n cp] #[.int .u8 0, .int .i64 0, .int .i64 0, .slice none 0 0] #[.int .u8 N, .int .i64 XA, .int .i64 XB, .slice none 0 0] (.slice none 0 0) 0 [] := by
    refine ⟨((Own.new w _ _).alloc _).alloc _, ?_, ?_, ⟨rfl, .inl ⟨rfl, rfl⟩⟩, fun b q => (by cases q), ((new_below w _).alloc (by simp) _).alloc (by simp; omega) _⟩
    · have := (Own.new (w.alloc (.cells #[.int .u8 N, .int .i64 XA, .int .i64 XB, .slice ao n cp] 43)) #[.int .u8 0, .int .i64 0, .int .i64 0, .slice none 0 0] 43).alloc (.cells #[.int .u8 N, .int .i64 XA, .int .i64 XB, .slice none 0 0] 43)
      rwa [World.size_alloc] at this
    · have := Own.new ((w.alloc (.cells #[.int .u8 N, .int .i64 XA, .int .i64 XB, .slice ao n cp] 43)).alloc (.cells #[.int .u8 0, .int .i64 0, .int .i64 0, .slice none 0 0] 43)) #[.int .u8 N, .int .i64 XA, .int .i64 XB, .slice none 0 0] 43
      rwa [World.size_alloc, World.size_alloc] at this
  go_enter Tryz.func27, Tryz.ntmps27
  go_upto_region 2 with fail
  generalize ((w.alloc (.cells #[.int .u8 N, .int .i64 XA, .int .i64 XB, .slice ao n cp] 43)).alloc (.cells #[.int .u8 0, .int .i64 0, .int .i64 0, .slice none 0 0] 43)).alloc (.cells #[.int .u8 N, .int .i64 XA, .int .i64 XB, .slice none 0 0] 43) = w3 at *
  obtain ⟨x0, x1, x2, x3, xf⟩ := own4 L3.ox
  obtain ⟨y0, y1, y2, y3, yf⟩ := own4 L3.oy
  have HL3 : Hid (ArmLies w3 ao ar) := HAL.out w3 L3.bel
  have HF : Hid (∀ (a1 : Option Addr) (c1 : Nat) (w4 : World), Rw w4 51 2 (.slice a1 n c1) n (armC ar) → Below w3.heap.size w3 w4 → (∀ b, (Value.slice a1 n c1).ownBlock = some b → w3.heap.size ≤ b) → LSt w w4 #[.int .u8 N, .int .i64 XA, .int .i64 XB, .slice ao n cp] #[.int .u8 0, .int .i64 0, .int .i64 0, .slice none 0 0] #[.int .u8 N, .int .i64 XA, .int .i64 XB, .slice none 0 0] (.slice a1 n c1) n ar) := by
    intro a1 c1 w4 h1 h2 h3
    exact ⟨L3.ox.below h2, L3.or.below h2, L3.oy.below h2, h1, fun b q => Nat.le_trans L3.bel.size (h3 b q), L3.bel.trans (h2.mono L3.bel.size)⟩
  clear L3
  go_upto_region 3 with (refine wpList_appR (by rfl) (.tmp 12) (.tmp 14) (by rfl) (by rfl) ao n cp ar (by rfl) HL3.out HN.out HNO.out (by omega) ?_; intro a1 c1 w4 q1 q2 q3; have L4 := HF.out a1 c1 w4 q1 q2 q3; clear q1 q2 q3 HF HL3 x0 x1 x2 x3 xf y0 y1 y2 y3 yf; obtain ⟨y0, y1, y2, y3, yf⟩ := own4 L4.oy)
  have L5 := L4.setY (.slice a1 n c1)
  generalize w4.setCell ⟨w.heap.size + 1 + 1, 3, none⟩ (.slice a1 n c1) = w5 at *
  clear L4 y0 y1 y2 y3 yf
  obtain ⟨y0, y1, y2, y3, yf⟩ := own4 L5.oy
  have oM := Own.new w5 #[.int .i64 77, .int .i64 0] 51
  have L5a := L5.alloc (.cells #[.int .i64 77, .int .i64 0] 51)
  have HG : Hid (∀ (a2 : Option Addr) (c2 : Nat) (w6 : World), Rw w6 51 2 (.slice a2 (n + 1) c2) (n + 1) (armC ar ++ [.int .i64 77, .int .i64 0]) → (w5.alloc (.cells #[.int .i64 77, .int .i64 0] 51)).grownBy w6 (Value.slice a1 n c1).ownBlock → ((Value.slice a2 (n + 1) c2).ownBlock = (Value.slice a1 n c1).ownBlock ∨ (Value.slice a2 (n + 1) c2).ownBlock = some (w5.alloc (.cells #[.int .i64 77, .int .i64 0] 51)).heap.size) → LSt w w6 #[.int .u8 N, .int .i64 XA, .int .i64 XB, .slice ao n cp] #[.int .u8 0, .int .i64 0, .int .i64 0, .slice none 0 0] #[.int .u8 N, .int .i64 XA, .int .i64 XB, .slice a1 n c1] (.slice a2 (n + 1) c2) (n + 1) (ar ++ [(77, 0)])) := by
    intro a2 c2 w6 q1 q2 q3
    exact L5a.grown (by rw [armC_append]; exact q1) q2 q3
  have rM := L5a.row
  clear L5 L5a
  go_upto_region 4 with (refine wpList_app1 okA (by rfl) (.tmp 18) (.tmp 20) (by rfl) _ n (armC ar) (by rfl) rM w5.heap.size [.int .i64 77, .int .i64 0] (by rfl) oM rfl (by simp [Value.oneCell']) (by omega) ?_; intro a2 c2 w6 q1 q2 q3; have L6 := HG.out a2 c2 w6 q1 q2 (by simpa using q3); clear q1 q2 q3 HG rM oM y0 y1 y2 y3 yf; obtain ⟨y0, y1, y2, y3, yf⟩ := own4 L6.oy)
  have L7 := L6.setY (.slice a2 (n + 1) c2)
  generalize w6.setCell ⟨w.heap.size + 1 + 1, 3, none⟩ (.slice a2 (n + 1) c2) = w7 at *
  clear L6 y0 y1 y2 y3 yf
  obtain ⟨g, cap, cur, e, -, hcap, -⟩ := L7.row.block (by omega)
  cases e
  have hg : w.heap.size ≤ g := L7.new g rfl
  obtain ⟨x0, x1, x2, x3, xf⟩ := own4 L7.ox
  obtain ⟨y0, y1, y2, y3, yf⟩ := own4 L7.oy
  have L8 := L7.setY (.slice (some ⟨g, 0, none⟩) n c2)
  have hc1 : (n : Int) ≤ (c2 : Int) := by omega
  have hc2 : n ≤ c2 := by omega
  have hc3 : ¬ c2 = 0 := by omega
  clear L7
  go_upto_region 5 with fail
  generalize w7.setCell ⟨w.heap.size + 1 + 1, 3, none⟩ (.slice (some ⟨g, 0, none⟩) n c2) = w8 at *
  clear x0 x1 x2 x3 xf y0 y1 y2 y3 yf
  obtain ⟨y0, y1, y2, y3, yf⟩ := own4 L8.oy
  have oR := L8.or
  go_wp2_with (refine wpList_put rfl 43 (.tmp 2) (.tmp 30) rfl rfl (w.heap.size + 1) 0 rfl rfl oR (by kernel_rfl) rfl (by simp) rfl ?_; intro w9 p9 g9; clear oR)
  refine bodyPost_cell1 (g := w.heap.size + 1) (t := 43) rfl rfl rfl p9 Tryz.underlying43 rfl (by kernel_rfl) ?_
  refine ⟨g, c2, rfl, L8.row.grown g9 (fun k e q => L8.row.ne L8.or (by decide) (e.trans (by rw [q]))), hg, L8.bel.grown g9 L8.bel.size (fun k e => by cases e; omega)⟩
/-- An instruction's arms that are lent: a row with the mark behind. -/
def LentR (w : World) (g n c : Nat) (ar : List (Int × Int)) : Prop := Rw w 51 2 (.slice (some ⟨g, 0, none⟩) (n + 1) c) (n + 1) (armC (ar ++ [(77, 0)]))
theorem LentR.below {w w' : World} {g n c : Nat} {ar : List (Int × Int)} (h : LentR w g n c ar) (hb : Below w.heap.size w w') : LentR w' g n c ar := Rw.on h fun k e => hb.block k (Rw.lt h e)
theorem LentR.arms {w : World} {g n c : Nat} {ar : List (Int × Int)} (h : LentR w g n c ar) (hn : n = ar.length) (hm : ∀ y ∈ ar, (-9223372036854775808 ≤ y.1 ∧ y.1 ≤ 9223372036854775807) ∧ (-9223372036854775808 ≤ y.2 ∧ y.2 ≤ 9223372036854775807)) : ArmLies w (some ⟨g, 0, none⟩) ar := by
  refine ⟨hm, .inr ⟨g, 0, rfl, Rw.lt h rfl, fun i hi => ?_⟩⟩
  have q := armC_get (ar ++ [(77, 0)]) i (by simp; omega)
  have e : (ar ++ [((77 : Int), (0 : Int))]).getD i (0, 0) = ar.getD i (0, 0) := by simp [List.getD, List.getElem?_append, hi]
  rw [e] at q
  exact ⟨by rw [Nat.zero_add]; exact Rw.cells h _ _ q.1, by rw [Nat.zero_add]; exact Rw.cells h _ _ q.2⟩
theorem LentR.mark {w : World} {g n c : Nat} {ar : List (Int × Int)} (h : LentR w g n c ar) (hn : n = ar.length) : w.cell? ⟨g, n * 2, none⟩ = some (.int .i64 77) := by
  have q := armC_get (ar ++ [(77, 0)]) n (by simp; omega)
  have e : (ar ++ [((77 : Int), (0 : Int))]).getD n (0, 0) = (77, 0) := by rw [hn]; simp [List.getD]
  rw [e] at q
  exact Rw.cells h _ _ q.1
set_option maxHeartbeats 2000000 in
set_option maxRecDepth 100000 in
theorem kkept_as {w : World} {x : In} {ao : Option Addr} {cp : Nat} (hl : InLies w x ao) (n : Nat) (hn : n = x.arms.length) (hmx : n ≤ 100000) (g c : Nat) (hlent : LentR w g n c x.arms) :
    Calls Tryz.prog 33 #[insV x (.slice (some ⟨g, 0, none⟩) n c), insV x (.slice ao n cp)] w fun e w' => e = .returned (.bool true) ∧ Below w.heap.size w w' := by
  have o1 := (Own.new w #[.int .u8 (x.op : Int), .int .i64 x.a, .int .i64 x.b, .slice (some ⟨g, 0, none⟩) n c] 43).alloc (.cells #[.int .u8 (x.op : Int), .int .i64 x.a, .int .i64 x.b, .slice ao n cp] 43)
  have o2 := Own.new (w.alloc (.cells #[.int .u8 (x.op : Int), .int .i64 x.a, .int .i64 x.b, .slice (some ⟨g, 0, none⟩) n c] 43)) #[.int .u8 (x.op : Int), .int .i64 x.a, .int .i64 x.b, .slice ao n cp] 43
  rw [World.size_alloc] at o2
  have hb0 : Below w.heap.size w ((w.alloc (.cells #[.int .u8 (x.op : Int), .int .i64 x.a, .int .i64 x.b, .slice (some ⟨g, 0, none⟩) n c] 43)).alloc (.cells #[.int .u8 (x.op : Int), .int .i64 x.a, .int .i64 x.b, .slice ao n cp] 43)) := (new_below _ _).alloc (by simp) _
  have hcap : n + 1 ≤ c := by
    obtain ⟨a', c', e, h1, h2⟩ := Rw.shape hlent
    cases e; exact h1
  have HS : Hid (∀ W, Below w.heap.size w W → Calls Tryz.prog 32 #[.agg #[.int .u8 (x.op : Int), .int .i64 x.a, .int .i64 x.b, .slice (some ⟨g, 0, none⟩) n c], .agg #[.int .u8 (x.op : Int), .int .i64 x.a, .int .i64 x.b, .slice ao n cp]] W fun e w' => e = .returned (.bool true) ∧ Below W.heap.size W w') := fun W h =>
    sameIns_eq hn ((hlent.below h).arms hn hl.arms.nums) (hl.arms.below h) (by omega)
  have HM : Hid (∀ W, Below w.heap.size w W → W.cell? ⟨g, n * 2, none⟩ = some (.int .i64 77)) := fun W h => (hlent.below h).mark hn
  unfold insV
  generalize (x.op : Int) = N at *
  generalize x.a = XA at *
  generalize x.b = XB at *
  clear hn hl hlent
  go_enter Tryz.func33, Tryz.ntmps33
  go_upto_region 1 with fail
  generalize (w.alloc (.cells #[.int .u8 N, .int .i64 XA, .int .i64 XB, .slice (some ⟨g, 0, none⟩) n c] 43)).alloc (.cells #[.int .u8 N, .int .i64 XA, .int .i64 XB, .slice ao n cp] 43) = w2 at *
  obtain ⟨x0, x1, x2, x3⟩ := cells4 o1
  obtain ⟨y0, y1, y2, y3⟩ := cells4 o2
  have m0 : ∀ t : After w2, t.1.cell? ⟨g, n * 2, none⟩ = some (.int .i64 77) := fun t => HM.out t.1 (hb0.trans (t.2.mono hb0.size))
  have HQ : Hid (∀ t : After w2, Calls Tryz.prog 32 #[.agg #[.int .u8 N, .int .i64 XA, .int .i64 XB, .slice (some ⟨g, 0, none⟩) n c], .agg #[.int .u8 N, .int .i64 XA, .int .i64 XB, .slice ao n cp]] t.1 fun e w'' => e = .returned (.bool true) ∧ ∃ t' : After w2, w'' = t'.1) := fun t => quiet_new t (HS.out t.1 (hb0.trans (t.2.mono hb0.size)))
  have e1 : (n : Int) + 1 ≤ (c : Int) := by omega
  have e2 : n + 1 ≤ c := hcap
  have e3 : ¬ c = 0 := by omega
  have e4 : (0 : Int) ≤ (n : Int) := by omega
  have e5 : (0 : Int) ≤ (n : Int) + 1 := by omega
  have e6 : (n : Int) < (n : Int) + 1 := by omega
  have e7 : n < n + 1 := by omega
  clear o1 o2 HS HM hcap
  refine wp_region_after (by kernel_rfl) (by kernel_rfl) ?_
  repeat (go_big_quiet_step (with_reducible exact rfl))
  go_big_quiet_step (exact HQ.out _)
  repeat (go_big_quiet_step (with_reducible exact rfl))
  refine wpQuiet_nil ?_
  rintro _ ⟨⟨w4, b4⟩, rfl⟩
  go_wp2
  go_ret
  exact ⟨rfl, hb0.trans (b4.mono hb0.size)⟩
structure Fl where
  name : ByteArray
  typ : Int
structure Ty where
  kind : Nat
  name : ByteArray
  fields : List Fl
  elem : Int
  len : Int
structure Ro where
  name : ByteArray
  params : List Int
  results : List Int
  locals : Int
  stack : Int
  code : List Nat
def zFl : Fl := ⟨⟨#[]⟩, 0⟩
def zTy : Ty := ⟨0, ⟨#[]⟩, [], 0, 0⟩
def zRo : Ro := ⟨⟨#[]⟩, [], [], 0, 0, []⟩
/-- A type and a function with where their lists lie. -/
structure TyP where
  t : Ty
  fa : Option Addr
  fc : Nat
structure RoP where
  r : Ro
  pa : Option Addr
  pc : Nat
  ra : Option Addr
  rc : Nat
  ca : Option Addr
  cc : Nat
def zTP : TyP := ⟨zTy, none, 0⟩
def zRP : RoP := ⟨zRo, none, 0, none, 0, none, 0⟩
/-- Things of sz cells each, from where a slice begins. -/
def RowAt (w : World) (a : Option Addr) (sz n : Nat) (f : Nat → Nat → Value) : Prop := n = 0 ∨ ∃ b off, a = some ⟨b, off, none⟩ ∧ ∀ i, i < n → ∀ d, d < sz → w.cell? ⟨b, off + i * sz + d, none⟩ = some (f i d)
theorem RowAt.below {w w' : World} {a : Option Addr} {sz n : Nat} {f : Nat → Nat → Value} (h : RowAt w a sz n f) (hb : Below w.heap.size w w') : RowAt w' a sz n f := by
  rcases h with h0 | ⟨b, off, rfl, hc⟩
  · exact .inl h0
  · refine .inr ⟨b, off, rfl, fun i hi d hd => ?_⟩
    have h1 := hc i hi d hd
    exact (hb.cell (p := ⟨b, _, none⟩) (World.block_lt_of_cell? w _ h1)).trans h1
theorem RowAt.at {w : World} {a : Option Addr} {sz n : Nat} {f : Nat → Nat → Value} (h : RowAt w a sz n f) {i : Nat} (hi : i < n) : ∃ b off, a = some ⟨b, off, none⟩ ∧ ∀ d, d < sz → w.cell? ⟨b, off + i * sz + d, none⟩ = some (f i d) := by
  rcases h with h0 | ⟨b, off, rfl, hc⟩
  · omega
  · exact ⟨b, off, rfl, hc i hi⟩
def flF (l : List Fl) (i d : Nat) : Value := match d with
  | 0 => .string (l.getD i zFl).name
  | _ => .int .i64 (l.getD i zFl).typ
def inF (l : List Int) (i _d : Nat) : Value := .int .i64 (l.getD i 0)
def txF (l : List ByteArray) (i _d : Nat) : Value := .string (l.getD i ⟨#[]⟩)
def tyF (l : List TyP) (i d : Nat) : Value := match d with
  | 0 => .int .u8 ((l.getD i zTP).t.kind : Int)
  | 1 => .string (l.getD i zTP).t.name
  | 2 => .slice (l.getD i zTP).fa (l.getD i zTP).t.fields.length (l.getD i zTP).fc
  | 3 => .int .i64 (l.getD i zTP).t.elem
  | _ => .int .i64 (l.getD i zTP).t.len
def roF (l : List RoP) (i d : Nat) : Value := match d with
  | 0 => .string (l.getD i zRP).r.name
  | 1 => .slice (l.getD i zRP).pa (l.getD i zRP).r.params.length (l.getD i zRP).pc
  | 2 => .slice (l.getD i zRP).ra (l.getD i zRP).r.results.length (l.getD i zRP).rc
  | 3 => .int .i64 (l.getD i zRP).r.locals
  | 4 => .int .i64 (l.getD i zRP).r.stack
  | _ => .slice (l.getD i zRP).ca (l.getD i zRP).r.code.length (l.getD i zRP).cc
def N64 (x : Int) : Prop := -9223372036854775808 ≤ x ∧ x ≤ 9223372036854775807
/-- How long things may be that lie in memory. -/
def big : Nat := 140737488355328
structure TyIn (w : World) (x : TyP) : Prop where
  row : RowAt w x.fa 2 x.t.fields.length (flF x.t.fields)
  kind : x.t.kind < 256
  name : x.t.name.size ≤ big
  elem : N64 x.t.elem
  len : N64 x.t.len
  each : ∀ y ∈ x.t.fields, y.name.size ≤ big ∧ N64 y.typ
  no : x.fa = none → x.fc = 0
  le : x.t.fields.length ≤ x.fc
  mx : x.t.fields.length ≤ big
  cm : x.fc ≤ maxLen
structure RoIn (w : World) (x : RoP) : Prop where
  params : RowAt w x.pa 1 x.r.params.length (inF x.r.params)
  results : RowAt w x.ra 1 x.r.results.length (inF x.r.results)
  code : Lies w x.ca x.r.code
  name : x.r.name.size ≤ big
  locals : N64 x.r.locals
  stack : N64 x.r.stack
  eachp : ∀ y ∈ x.r.params, N64 y
  eachr : ∀ y ∈ x.r.results, N64 y
  pno : x.pa = none → x.pc = 0
  ple : x.r.params.length ≤ x.pc
  pmx : x.r.params.length ≤ big
  pcm : x.pc ≤ maxLen
  rno : x.ra = none → x.rc = 0
  rle : x.r.results.length ≤ x.rc
  rmx : x.r.results.length ≤ big
  rcm : x.rc ≤ maxLen
  cno : x.ca = none → x.cc = 0
  cle : x.r.code.length ≤ x.cc
  cmx : x.r.code.length ≤ big
  ccm : x.cc ≤ maxLen
/-- A module in memory: its three lists and where they lie. -/
structure MoP where
  tys : List TyP
  ta : Option Addr
  tc : Nat
  txs : List ByteArray
  sa : Option Addr
  sc : Nat
  fns : List RoP
  fa : Option Addr
  fc : Nat
structure MoIn (w : World) (m : MoP) : Prop where
  tyr : RowAt w m.ta 5 m.tys.length (tyF m.tys)
  txr : RowAt w m.sa 1 m.txs.length (txF m.txs)
  fnr : RowAt w m.fa 6 m.fns.length (roF m.fns)
  ty : ∀ x ∈ m.tys, TyIn w x
  tx : ∀ s ∈ m.txs, s.size ≤ big
  fn : ∀ x ∈ m.fns, RoIn w x
  tno : m.ta = none → m.tc = 0
  tle : m.tys.length ≤ m.tc
  tmx : m.tys.length ≤ big
  tcm : m.tc ≤ maxLen
  sno : m.sa = none → m.sc = 0
  sle : m.txs.length ≤ m.sc
  smx : m.txs.length ≤ big
  scm : m.sc ≤ maxLen
  fno : m.fa = none → m.fc = 0
  fle : m.fns.length ≤ m.fc
  fmx : m.fns.length ≤ big
  fcm : m.fc ≤ maxLen
theorem TyIn.below {w w' : World} {x : TyP} (h : TyIn w x) (hb : Below w.heap.size w w') : TyIn w' x := { h with row := h.row.below hb }
theorem RoIn.below {w w' : World} {x : RoP} (h : RoIn w x) (hb : Below w.heap.size w w') : RoIn w' x := { h with params := h.params.below hb, results := h.results.below hb, code := h.code.below hb }
theorem MoIn.below {w w' : World} {m : MoP} (h : MoIn w m) (hb : Below w.heap.size w w') : MoIn w' m :=
  { h with tyr := h.tyr.below hb, txr := h.txr.below hb, fnr := h.fnr.below hb, ty := fun x hx => (h.ty x hx).below hb, fn := fun x hx => (h.fn x hx).below hb }
theorem getD_in {α : Type} {l : List α} {i : Nat} {z : α} (h : i < l.length) : l.getD i z ∈ l := by simp [List.getD, h]
/-- Lists of one length that agree at each place are the same. -/
theorem list_eq {α : Type} {xs ys : List α} (z : α) (hl : xs.length = ys.length) (h : ∀ j, j < xs.length → xs.getD j z = ys.getD j z) : xs = ys := by
  apply List.ext_getElem hl
  intro i h1 h2
  have := h i h1
  simpa [List.getD, h1, h2] using this
theorem list_eq_map {α β : Type} {f : α → β} {xs ys : List α} (z : α) (hl : xs.length = ys.length) (h : ∀ j, j < xs.length → f (xs.getD j z) = f (ys.getD j z)) : xs.map f = ys.map f := by
  apply List.ext_getElem (by simpa using hl)
  intro i h1 h2
  rw [List.length_map] at h1 h2
  have := h i h1
  simpa [List.getD, h1, h2] using this
theorem getD_of_map {α β : Type} {f : α → β} {xs ys : List α} (z : α) (h : xs.map f = ys.map f) (j : Nat) : f (xs.getD j z) = f (ys.getD j z) := by
  have h1 : (xs.map f).getD j (f z) = (ys.map f).getD j (f z) := by rw [h]
  simpa [List.getD, List.getElem?_map, Option.getD_map] using h1
theorem some_bool (p : Prop) : ∃ b : Bool, (b = true ↔ p) := by
  by_cases h : p
  · exact ⟨true, by simp [h]⟩
  · exact ⟨false, by simp [h]⟩
theorem iff_false {b : Bool} {p : Prop} (h : b = true ↔ p) (hp : ¬ p) : b = false := by
  cases b with
  | false => rfl
  | true => exact absurd (h.1 rfl) hp
theorem mwf_i64 {x : Int} (h : (Lit.int .i64 x).wf = true) : N64 x := by
  have h2 := h
  simp [Lit.wf] at h2
  have e1 : IntKind.i64.min = -9223372036854775808 := by rfl
  have e2 : IntKind.i64.max = 9223372036854775807 := by rfl
  rw [e1] at h2
  exact ⟨by omega, by omega⟩
theorem madd_lit (b o i : Nat) : (⟨b, o, none⟩ : Addr).add i = ⟨b, o + i, none⟩ := by unfold Addr.add; split <;> simp_all
theorem mweights_all {H : Type} {P : Program} {e : TypeId} : ∀ {ds : List (DataW H)} {d : DataW H}, d ∈ ds → ∀ n ∈ d.weights P e, n ∈ DataW.weightsAll P e ds
  | x :: r, d, hd, n, hn => by
    rw [DataW.weightsAll, List.mem_append]
    rcases List.mem_cons.1 hd with rfl | hd
    · exact .inl hn
    · exact .inr (mweights_all hd n hn)
  | [], _, hd, _, _ => by cases hd
/-- A row that came in, of things that are told one by one. -/
structure RowIn (W : World) {α : Type} (z : α) (cf : α → List Value) (sz : Nat) (ok : α → Prop) (v : Value) (ao : Option Addr) (xs : List α) (cap : Nat) : Prop where
  eq : v = .slice ao xs.length cap
  row : xs.length = 0 ∨ ∃ b off, ao = some ⟨b, off, none⟩ ∧ ∀ i, i < xs.length → ∀ d, d < sz → W.cell? ⟨b, off + i * sz + d, none⟩ = (cf (xs.getD i z))[d]?
  each : ∀ x ∈ xs, ok x
  no : ao = none → cap = 0
  le : xs.length ≤ cap
  cm : cap ≤ maxLen
  mx : xs.length ≤ big
set_option maxRecDepth 100000 in
theorem trod_row {H : Type} {enc : TypeId × Value → H} {W : World} {tS e : TypeId} (hu : Tryz.prog.underlying tS = some (.slice e)) (sz B : Nat) (hc : Tryz.prog.cellsOf e = sz) (hB : Tryz.prog.bytesOf e = B) (hB1 : 1 ≤ B) (hs1 : 1 ≤ sz) {α : Type} (z : α) (cf : α → List Value) (hcf : ∀ x, (cf x).length = sz) (ok : α → Prop)
    (each : ∀ (cs : List Value) (fuel : Nat) (y : DataW H × List MemPlace), DataW.trod enc Tryz.prog W 0 (fun _ => true) true fuel e cs = some y → (∀ k ∈ y.1.weights Tryz.prog e, k ≤ reachBytes) → ∃ x : α, cs = cf x ∧ ok x)
    {v : Value} {fuel : Nat} {y : DataW H × List MemPlace} (h : DataW.trod enc Tryz.prog W 0 (fun _ => true) true fuel tS [v] = some y) (hw : ∀ k ∈ y.1.weights Tryz.prog tS, k ≤ reachBytes) :
    ∃ ao xs cap, RowIn W z cf sz ok v ao xs cap := by
  rcases open_slice hu h with ⟨e0, _⟩ | ⟨a, len, cap, m, n, D, Pl, e0, hb, hl, hm, hmm, rfl, hx⟩
  · simp at e0
    subst e0
    exact ⟨none, [], 0, rfl, .inl rfl, by simp, fun _ => rfl, Nat.le_refl _, by unfold maxLen; omega, by simp⟩
  · simp at e0
    subst e0
    simp only [if_true] at hmm
    subst hmm
    have hlenb : len ≤ big := by
      have := hw ((((List.range len).map D).length + ((List.range (m - len)).map fun j => D (len + j)).length) * Tryz.prog.bytesOf e) (by simp [DataW.weights, hu])
      rw [hB] at this
      simp only [List.length_map, List.length_range] at this
      have h2 : len ≤ (len + (m - len)) * B := Nat.le_trans (Nat.le_add_right _ _) (Nat.le_mul_of_pos_right _ hB1)
      have h3 := Nat.le_trans h2 this
      exact Nat.le_trans h3 (by decide)
    have eachi : ∀ i, i < len → ∃ x : α, (∀ d, d < sz → W.cell? (a.add (i * sz + d)) = (cf x)[d]?) ∧ ok x := by
      intro i hi
      obtain ⟨cs, h1, h2⟩ := hx i (by omega)
      rw [hc] at h1
      obtain ⟨_, hlen, hcell⟩ := World.cells?_some h1
      obtain ⟨x, rfl, hxo⟩ := each cs _ _ h2 (fun k hk => hw k (by
        simp only [DataW.weights, hu]
        rw [List.mem_cons, List.mem_append]
        exact .inr (.inl (mweights_all (List.mem_map.2 ⟨i, List.mem_range.2 hi, rfl⟩) k hk))))
      refine ⟨x, fun d hd => ?_, hxo⟩
      have e1 := hcell d (by omega)
      rw [add_add] at e1
      exact e1
    obtain ⟨f, hf⟩ := @choose_lt α ⟨z⟩ _ _ eachi
    have hlen : ((List.range len).map f).length = len := by simp
    refine ⟨some a, (List.range len).map f, m, by rw [hlen], ?_, fun x hx => ?_, (fun q => by cases q), by rw [hlen]; exact hl, hm, by rw [hlen]; exact hlenb⟩
    · by_cases h0 : len = 0
      · left; rw [hlen]; exact h0
      · right
        obtain ⟨b, o, spot⟩ := a
        have c0 := (hf 0 (by omega)).1 0 (by omega)
        obtain ⟨u, hu0⟩ : ∃ u, (cf (f 0))[0]? = some u := ⟨_, List.getElem?_eq_getElem (by rw [hcf]; omega)⟩
        rw [hu0] at c0
        have hs : spot = none := by simpa [Addr.add] using World.cell?_spot c0
        subst hs
        refine ⟨b, o, rfl, fun i hi d hd => ?_⟩
        rw [hlen] at hi
        have hd2 : ((List.range len).map f).getD i z = f i := by simp [List.getD, hi]
        rw [hd2, Nat.add_assoc, ← madd_lit]
        exact (hf i hi).1 d hd
    · obtain ⟨i, hi, rfl⟩ := List.mem_map.1 hx
      exact (hf i (List.mem_range.1 hi)).2
theorem RowIn.at {W : World} {α : Type} {z : α} {cf : α → List Value} {sz : Nat} {ok : α → Prop} {v : Value} {ao : Option Addr} {xs : List α} {cap : Nat} (h : RowIn W z cf sz ok v ao xs cap) {f : Nat → Nat → Value} (hf : ∀ i, i < xs.length → ∀ d, d < sz → (cf (xs.getD i z))[d]? = some (f i d)) : RowAt W ao sz xs.length f := by
  rcases h.row with h0 | ⟨b, off, e, hc⟩
  · exact .inl h0
  · exact .inr ⟨b, off, e, fun i hi d hd => (hc i hi d hd).trans (hf i hi d hd)⟩
/-- A row of a call's own, as things that lie. -/
theorem rw_rowAt {w : World} {e : TypeId} {sz n m c : Nat} {a : Option Addr} {cs : List Value} {f : Nat → Nat → Value} (h : Rw w e sz (.slice a m c) m cs) (hn : n ≤ m) (hf : ∀ i, i < n → ∀ d, d < sz → cs[i * sz + d]? = some (f i d)) : RowAt w a sz n f := by
  by_cases h0 : n = 0
  · exact .inl h0
  · obtain ⟨g, cap, cur, e, ho, -⟩ := h.block (by omega)
    cases e
    refine .inr ⟨g, 0, rfl, fun i hi d hd => ?_⟩
    rw [Nat.zero_add]
    exact h.cells _ _ (hf i hi d hd)
/-- append of a row that lies anywhere, or of none. -/
theorem run_appG {tS e : TypeId} {z : Value} {size bytes : Nat} (I : ElemOk tS e z size bytes) (W : World) (ty : TypeId) (v : Value) (k : Nat) (ys : List Value) (hown : Rw W e size v k ys) (ao : Option Addr) (n cap : Nat) (xs : List Value) (hl : xs.length = n * size) (hr : n = 0 ∨ ∃ b off, ao = some ⟨b, off, none⟩ ∧ ∀ j u, xs[j]? = some u → W.cell? ⟨b, off + j, none⟩ = some u) (hno : ao = none → cap = 0) (h1 : ∀ u ∈ xs, u.oneCell' = true) (hn : k + n ≤ 100000000000) :
    ∃ ao' c' w', (Builtin.append_ #[tS, tS] ty #[v, .slice ao n cap]).run Tryz.prog W = .ok (.slice ao' (k + n) c') w' ∧ Rw w' e size (.slice ao' (k + n) c') (k + n) (ys ++ xs) ∧ W.grownBy w' v.ownBlock ∧ ((Value.slice ao' (k + n) c').ownBlock = v.ownBlock ∨ (Value.slice ao' (k + n) c').ownBlock = some W.heap.size) := by
  cases ao with
  | none =>
    have hn0 : n = 0 := by
      rcases hr with h0 | ⟨b, off, h0, _⟩
      · exact h0
      · cases h0
    have hc0 := hno rfl
    subst hn0; subst hc0
    have hx : xs = [] := List.eq_nil_of_length_eq_zero (by rw [hl]; omega)
    subst hx
    obtain ⟨a1, cp, rfl, -⟩ := hown.shape
    obtain ⟨i8, hi, hz0, hz1, hz2⟩ := info_parts I.info
    have hrun := run_append_owned_none (P := Tryz.prog) (w := W) 0 tS ty e i8 size I.under hi _ _ _ hown
    exact ⟨a1, cp, W, hrun, by simpa using hown, World.grownBy.refl _ _, .inl rfl⟩
  | some ad =>
    have hr2 : ∀ j u, xs[j]? = some u → W.cell? (ad.add j) = some u := by
      intro j u hu
      rcases hr with h0 | ⟨b, off, h0, hc⟩
      · have : xs = [] := List.eq_nil_of_length_eq_zero (by rw [hl, h0]; omega)
        rw [this] at hu; cases hu
      · cases h0
        rw [← hc j u hu]
        congr 1
        unfold Addr.add; split <;> simp_all
    obtain ⟨v', w', hrun, g1, g2, g4⟩ := run_appA I W ty v k ys hown ad n cap xs hl hr2 h1 hn
    obtain ⟨ao', c', rfl, -⟩ := g1.shape
    exact ⟨ao', c', w', hrun, g1, g2, g4⟩
theorem wpList_appG {tS e : TypeId} {z : Value} {size bytes : Nat} (I : ElemOk tS e z size bytes) {W : World} {ops : Array Oper} {rest : List Oper} {o : Oper} {a : Act} {Q : Exit → Act → World → Prop} (hgd : o.guard = none) (s x : Operand)
    (ho : o.op = .call { callee := .builtin .append, args := #[s, x], argTypes := #[tS, tS] }) (v : Value) (k : Nat) (ys : List Value) (hs : a.eval s = v) (hown : Rw W e size v k ys) (ao : Option Addr) (n cap : Nat) (xs : List Value) (hx : a.eval x = .slice ao n cap) (hl : xs.length = n * size) (hr : n = 0 ∨ ∃ b off, ao = some ⟨b, off, none⟩ ∧ ∀ j u, xs[j]? = some u → W.cell? ⟨b, off + j, none⟩ = some u) (hno : ao = none → cap = 0) (h1 : ∀ u ∈ xs, u.oneCell' = true) (hn : k + n ≤ 100000000000)
    (h : ∀ ao' c' w', Rw w' e size (.slice ao' (k + n) c') (k + n) (ys ++ xs) → W.grownBy w' v.ownBlock → ((Value.slice ao' (k + n) c').ownBlock = v.ownBlock ∨ (Value.slice ao' (k + n) c').ownBlock = some W.heap.size) → wpList Tryz.prog ops Q rest (a.put o.dst (.slice ao' (k + n) c')) w') :
    wpList Tryz.prog ops Q (o :: rest) a W := by
  obtain ⟨ao', c', w', hrun, g1, g2, g4⟩ := run_appG I W o.type v k ys hown ao n cap xs hl hr hno h1 hn
  refine wpList_plain hgd fun K hK => ?_
  unfold Oper.wp execOp
  simp only [ho, resolve, invoke, builtin, Sem.run_bind, Sem.run_pure, Result.andThen_ok, List.map_toArray, List.map_cons, List.map_nil, hs, hx, hrun]
  exact hK _ _ (h ao' c' w' g1 g2 g4)
/-- append of a row that lies anywhere, or of none, to nothing. -/
theorem wpList_app0 {tS e : TypeId} {z : Value} {size bytes : Nat} (I : ElemOk tS e z size bytes) {W : World} {ops : Array Oper} {rest : List Oper} {o : Oper} {a : Act} {Q : Exit → Act → World → Prop} (hgd : o.guard = none) (s x : Operand)
    (ho : o.op = .call { callee := .builtin .append, args := #[s, x], argTypes := #[tS, tS] }) (hs : a.eval s = .slice none 0 0) (ao : Option Addr) (n cap : Nat) (xs : List Value) (hx : a.eval x = .slice ao n cap) (hl : xs.length = n * size) (hr : n = 0 ∨ ∃ b off, ao = some ⟨b, off, none⟩ ∧ ∀ j u, xs[j]? = some u → W.cell? ⟨b, off + j, none⟩ = some u) (hno : ao = none → cap = 0) (h1 : ∀ u ∈ xs, u.oneCell' = true) (hn : n ≤ 100000000000)
    (h : ∀ ao' c' w', Rw w' e size (.slice ao' n c') n xs → Below W.heap.size W w' → (∀ b, (Value.slice ao' n c').ownBlock = some b → b = W.heap.size) → wpList Tryz.prog ops Q rest (a.put o.dst (.slice ao' n c')) w') :
    wpList Tryz.prog ops Q (o :: rest) a W := by
  refine wpList_appG I hgd s x ho (.slice none 0 0) 0 [] hs (World.ownsRow_nil _ _ _ _) ao n cap xs hx hl hr hno h1 (by omega) (fun ao' c' w' q1 q2 q3 => ?_)
  rw [Nat.zero_add] at q1 q3 ⊢
  refine h ao' c' w' (by simpa using q1) ((Below.refl _ _).grown q2 (Nat.le_refl _) (fun k e => by cases e)) (fun b q => ?_)
  rcases q3 with q3 | q3
  · rw [q3] at q; cases q
  · rw [q3] at q; cases q; rfl
/-- Things that lie, as what an append reads. -/
theorem RowAt.read {w : World} {a : Option Addr} {sz n : Nat} {f : Nat → Nat → Value} (h : RowAt w a sz n f) {cs : List Value} (hl : cs.length = n * sz) (hp : 0 < sz) (hf : ∀ i, i < n → ∀ d, d < sz → cs[i * sz + d]? = some (f i d)) : n = 0 ∨ ∃ b off, a = some ⟨b, off, none⟩ ∧ ∀ j u, cs[j]? = some u → w.cell? ⟨b, off + j, none⟩ = some u := by
  rcases h with h0 | ⟨b, off, rfl, hc⟩
  · exact .inl h0
  · refine .inr ⟨b, off, rfl, fun j u hu => ?_⟩
    have hj : j < n * sz := by
      rw [← hl]
      exact (List.getElem?_eq_some_iff.1 hu).1
    have hdm := Nat.div_add_mod j sz
    have hm : j % sz < sz := Nat.mod_lt _ hp
    have hd : j / sz < n := Nat.div_lt_of_lt_mul (by rw [Nat.mul_comm]; exact hj)
    have e1 : j = j / sz * sz + j % sz := by rw [Nat.mul_comm]; exact hdm.symm
    have h1 := hc (j / sz) hd (j % sz) hm
    have h2 := hf (j / sz) hd (j % sz) hm
    rw [← e1, hu] at h2
    rw [h2, ← h1, Nat.add_assoc, ← e1]
def intV (l : List Int) : List Value := l.map fun x => Value.int .i64 x
theorem intV_length (l : List Int) : (intV l).length = l.length := by simp [intV]
theorem intV_get (l : List Int) (i : Nat) (h : i < l.length) (d : Nat) (hd : d < 1) : (intV l)[i * 1 + d]? = some (inF l i d) := by
  obtain rfl : d = 0 := by omega
  simp [intV, inF, List.getD, h]
def mkI : List Int := [-771, -772, -773]
/-- Numbers that are lent: a row that holds them, and three marks behind. -/
def LentI (w : World) (g n c : Nat) (xs : List Int) : Prop := Rw w 3 1 (.slice (some ⟨g, 0, none⟩) (n + 3) c) (n + 3) (intV (xs ++ mkI))
theorem LentI.row {w : World} {g n c : Nat} {xs : List Int} (h : LentI w g n c xs) (hn : n = xs.length) : RowAt w (some ⟨g, 0, none⟩) 1 xs.length (inF xs) := by
  refine rw_rowAt h (by omega) (fun i hi d hd => ?_)
  rw [intV_get _ i (by simp; omega) d hd]
  unfold inF
  simp [List.getD, List.getElem?_append, hi]
/-- The document's reader: where it is only where nothing is wrong. -/
def RrAt (w : World) (r : Nat) (a : Option Addr) (L cap : Nat) (s : St) : Prop := ∃ p : Int, Own w r #[.slice a L cap, .int .i64 p, .int .i64 (s.2 : Int)] 159 ∧ (s.2 = 0 → p = (s.1 : Int))
theorem RrAt.fr {F : Nat → Prop} {w w' : World} {r : Nat} {a : Option Addr} {L cap : Nat} {s : St} (h : RrAt w r a L cap s) (hk : Fr F w w') (hne : ¬ F r) : RrAt w' r a L cap s := by
  obtain ⟨p, ho, hp⟩ := h
  exact ⟨p, ho.fr hk hne, hp⟩
theorem RrAt.below {w w' : World} {r : Nat} {a : Option Addr} {L cap : Nat} {s : St} (h : RrAt w r a L cap s) (hb : Below w.heap.size w w') : RrAt w' r a L cap s := h.fr (F := fun _ => False) (Fr.of hb) id
theorem RrAt.lt {w : World} {r : Nat} {a : Option Addr} {L cap : Nat} {s : St} (h : RrAt w r a L cap s) : r < w.heap.size := by obtain ⟨p, ho, hp⟩ := h; exact ho.lt
/-- What stands while the document's Decode runs. -/
structure RdS (w : World) (r gx pb : Nat) (P : Array Value) (a : Option Addr) (L cap : Nat) (xs : List Nat) (X : Array Value) (s : St) (W : World) : Prop where
  rd : RrAt W r a L cap s
  ox : Own W gx X 43
  ot : Own W w.heap.size zX 43
  op : P = #[] ∨ Own W pb P 123
  lies : Lies W a xs
  bel : Below w.heap.size w W
  n1 : w.heap.size < r
  n2 : ¬ r = gx
  n3 : w.heap.size < gx
  n4 : ∀ b off, a = some ⟨b, off, none⟩ → b < w.heap.size
theorem RdS.below {w : World} {r gx pb : Nat} {P : Array Value} {a : Option Addr} {L cap : Nat} {xs : List Nat} {X : Array Value} {s : St} {W W' : World} (h : RdS w r gx pb P a L cap xs X s W) (hb : Below W.heap.size W W') : RdS w r gx pb P a L cap xs X s W' :=
  ⟨h.rd.below hb, h.ox.below hb, h.ot.below hb, h.op.imp id (fun q => q.below hb), h.lies.below hb, h.bel.trans (hb.mono h.bel.size), h.n1, h.n2, h.n3, h.n4⟩
theorem RdS.set {w : World} {r gx pb : Nat} {P : Array Value} {a : Option Addr} {L cap : Nat} {xs : List Nat} {X : Array Value} {s : St} {W : World} (h : RdS w r gx pb P a L cap xs X s W) (i : Nat) (v : Value) : RdS w r gx pb P a L cap xs (X.setIfInBounds i v) s (W.setCell ⟨gx, i, none⟩ v) := by
  have f : Fr (fun b => b = gx) W (W.setCell ⟨gx, i, none⟩ v) := (Fr.refl (fun b => b = gx) W).set (g := gx) (.inr rfl) i v
  exact ⟨h.rd.fr f h.n2, h.ox.set i v, h.ot.fr f (fun e => by have := h.n3; omega), h.op.imp id (fun q => q.fr f (fun e => q.ne h.ox (by decide) e)), h.lies.fr f (fun b off e q => by have := h.n4 b off e; have := h.n3; omega), below_fr h.bel f (fun g e => by have := h.n3; omega), h.n1, h.n2, h.n3, h.n4⟩
abbrev Pi := In × Option Addr × Nat
def zP : Pi := (zI, none, 0)
/-- Instructions that lie where a slice begins. -/
structure InsLies (w : World) (a : Option Addr) (ps : List Pi) : Prop where
  each : ∀ y ∈ ps, InLies w y.1 y.2.1
  lies : ps = [] ∨ ∃ b off, a = some ⟨b, off, none⟩ ∧ b < w.heap.size ∧ ∀ i, i < ps.length → w.cell? ⟨b, off + i * 4, none⟩ = some (.int .u8 ((ps.getD i zP).1.op : Int)) ∧ w.cell? ⟨b, off + i * 4 + 1, none⟩ = some (.int .i64 (ps.getD i zP).1.a) ∧ w.cell? ⟨b, off + i * 4 + 2, none⟩ = some (.int .i64 (ps.getD i zP).1.b) ∧ w.cell? ⟨b, off + i * 4 + 3, none⟩ = some (.slice (ps.getD i zP).2.1 (ps.getD i zP).1.arms.length (ps.getD i zP).2.2)
theorem InsLies.below {w w' : World} {a : Option Addr} {ps : List Pi} (h : InsLies w a ps) (hb : Below w.heap.size w w') : InsLies w' a ps := by
  refine ⟨fun y hy => (h.each y hy).below hb, ?_⟩
  rcases h.lies with h0 | ⟨b, off, rfl, hbl, hc⟩
  · exact .inl h0
  · refine .inr ⟨b, off, rfl, Nat.lt_of_lt_of_le hbl hb.size, fun i hi => ?_⟩
    obtain ⟨h1, h2, h3, h4⟩ := hc i hi
    exact ⟨(hb.cell (p := ⟨b, _, none⟩) hbl).trans h1, (hb.cell (p := ⟨b, _, none⟩) hbl).trans h2, (hb.cell (p := ⟨b, _, none⟩) hbl).trans h3, (hb.cell (p := ⟨b, _, none⟩) hbl).trans h4⟩
/-- What stands while the law runs. -/
structure WSt (W w : World) (X Y : Array Value) (gY g n c : Nat) (ar : List (Int × Int)) : Prop where
  ox : Own w W.heap.size X 43
  oy : Own w gY Y 43
  lent : LentR w g n c ar
  bel : Below W.heap.size W w
theorem WSt.below {W w w' : World} {X Y : Array Value} {gY g n c : Nat} {ar : List (Int × Int)} (h : WSt W w X Y gY g n c ar) (hb : Below w.heap.size w w') : WSt W w' X Y gY g n c ar :=
  ⟨h.ox.below hb, h.oy.below hb, h.lent.below hb, h.bel.trans (hb.mono h.bel.size)⟩
theorem WSt.grown {W w w' : World} {X Y : Array Value} {gY g n c : Nat} {ar : List (Int × Int)} (h : WSt W w X Y gY g n c ar) {v : Value} {m : Nat} {zs : List Value} (hr : Rw w 5 1 v m zs) (hg : w.grownBy w' v.ownBlock) (hn : ∀ b, v.ownBlock = some b → W.heap.size ≤ b) : WSt W w' X Y gY g n c ar :=
  ⟨h.ox.grown hg (fun e => hr.ne h.ox (by decide) e.symm), h.oy.grown hg (fun e => hr.ne h.oy (by decide) e.symm), Rw.grown h.lent hg (fun k e q => hr.ne2 h.lent (by decide) k q.symm e), h.bel.grown hg h.bel.size hn⟩
/-- What stands while what was answered is written over. -/
structure RsS (w6 : World) (N : Nat) (vl vp : Value) (ps : List (In × Value)) (k : Nat) (wr : World) : Prop where
  bel : Below w6.heap.size w6 wr
  row : ∃ zs, Rw wr 43 4 vl N zs ∧ ∀ j, k ≤ j → j < N → zs[j * 4 + 3]? = some (ps.getD j (zI, undef)).2
  arms : ∀ y ∈ ps, ∃ zs, Rw wr 51 2 y.2 y.1.arms.length zs
  ints : ∃ zs, Rw wr 3 1 vp N zs
theorem RsS.int {w6 : World} {N : Nat} {vl vp : Value} {ps : List (In × Value)} {k : Nat} {wr : World} (h : RsS w6 N vl vp ps k wr) {g cp : Nat} {zs : List Value} (hr : Rw wr 3 1 (.slice (some ⟨g, 0, none⟩) N cp) N zs) (hg : w6.heap.size ≤ g) (j : Nat) (u : Value) : RsS w6 N vl vp ps k (wr.setCell ⟨g, j, none⟩ u) := by
  refine ⟨h.bel.setCell (p := ⟨g, j, none⟩) hg u, ?_, fun y hy => ?_, ?_⟩
  · obtain ⟨zs, h1, h2⟩ := h.row
    exact ⟨zs, h1.set (fun e => h1.ne2 hr (by decide) g e rfl) j u, h2⟩
  · obtain ⟨zs, h1⟩ := h.arms y hy
    exact h1.anyset g j u
  · obtain ⟨zs, h1⟩ := h.ints
    exact h1.anyset g j u
/-- What stands beside: what was lent, the document's lists. -/
structure RdK (W w : World) (g n c : Nat) (xs : List Nat) (vl vp : Value) (ps : List (In × Value)) (PL : List Nat) : Prop where
  lent : LentB w g n c xs
  row : ∃ B, InsRow w B vl ps
  ints : Rw w 3 1 vp PL.length (intC PL)
  bel : Below W.heap.size W w
theorem RdK.below {W w w' : World} {g n c : Nat} {xs : List Nat} {vl vp : Value} {ps : List (In × Value)} {PL : List Nat} (h : RdK W w g n c xs vl vp ps PL) (hb : Below w.heap.size w w') : RdK W w' g n c xs vl vp ps PL := by
  obtain ⟨B, hr⟩ := h.row
  exact ⟨h.lent.below hb, ⟨B, hr.below hb⟩, h.ints.belowR hb, h.bel.trans (hb.mono h.bel.size)⟩
end Go.Proofs.YtkmmnocooibljaaGreatDoor
