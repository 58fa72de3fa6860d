/-
  MODULES: types, texts and functions; how they lie in memory.
-/
import Derived.Test.YtibcakmodkbliaaLb
namespace Go.Proofs.Ytibcakmodkbliaa
open Go.RowKit
set_option linter.unusedVariables false

structure Fl where
  name : ByteArray
  typ : Int
structure Ty where
  kind : Nat
  name : ByteArray
  fields : List Fl
  elem : Int
  len : Int
structure Ro where
  name : ByteArray
  params : List Int
  results : List Int
  locals : Int
  stack : Int
  code : List Nat
structure Mo where
  types : List Ty
  texts : List ByteArray
  funcs : List Ro
def zFl : Fl := ⟨⟨#[]⟩, 0⟩
def zTy : Ty := ⟨0, ⟨#[]⟩, [], 0, 0⟩
def zRo : Ro := ⟨⟨#[]⟩, [], [], 0, 0, []⟩
/-- A type and a function with where their lists lie. -/
structure TyP where
  t : Ty
  fa : Option Addr
  fc : Nat
structure RoP where
  r : Ro
  pa : Option Addr
  pc : Nat
  ra : Option Addr
  rc : Nat
  ca : Option Addr
  cc : Nat
def zTP : TyP := ⟨zTy, none, 0⟩
def zRP : RoP := ⟨zRo, none, 0, none, 0, none, 0⟩
/-- Things of sz cells each, from where a slice begins. -/
def RowAt (w : World) (a : Option Addr) (sz n : Nat) (f : Nat → Nat → Value) : Prop := n = 0 ∨ ∃ b off, a = some ⟨b, off, none⟩ ∧ ∀ i, i < n → ∀ d, d < sz → w.cell? ⟨b, off + i * sz + d, none⟩ = some (f i d)
theorem RowAt.below {w w' : World} {a : Option Addr} {sz n : Nat} {f : Nat → Nat → Value} (h : RowAt w a sz n f) (hb : Below w.heap.size w w') : RowAt w' a sz n f := by
  rcases h with h0 | ⟨b, off, rfl, hc⟩
  · exact .inl h0
  · refine .inr ⟨b, off, rfl, fun i hi d hd => ?_⟩
    have h1 := hc i hi d hd
    exact (hb.cell (p := ⟨b, _, none⟩) (World.block_lt_of_cell? w _ h1)).trans h1
theorem RowAt.at {w : World} {a : Option Addr} {sz n : Nat} {f : Nat → Nat → Value} (h : RowAt w a sz n f) {i : Nat} (hi : i < n) : ∃ b off, a = some ⟨b, off, none⟩ ∧ ∀ d, d < sz → w.cell? ⟨b, off + i * sz + d, none⟩ = some (f i d) := by
  rcases h with h0 | ⟨b, off, rfl, hc⟩
  · omega
  · exact ⟨b, off, rfl, hc i hi⟩
def flF (l : List Fl) (i d : Nat) : Value := match d with
  | 0 => .string (l.getD i zFl).name
  | _ => .int .i64 (l.getD i zFl).typ
def inF (l : List Int) (i _d : Nat) : Value := .int .i64 (l.getD i 0)
def byF (l : List Nat) (i _d : Nat) : Value := .int .u8 ((l.getD i 0 : Nat) : Int)
def txF (l : List ByteArray) (i _d : Nat) : Value := .string (l.getD i ⟨#[]⟩)
def tyF (l : List TyP) (i d : Nat) : Value := match d with
  | 0 => .int .u8 ((l.getD i zTP).t.kind : Int)
  | 1 => .string (l.getD i zTP).t.name
  | 2 => .slice (l.getD i zTP).fa (l.getD i zTP).t.fields.length (l.getD i zTP).fc
  | 3 => .int .i64 (l.getD i zTP).t.elem
  | _ => .int .i64 (l.getD i zTP).t.len
def roF (l : List RoP) (i d : Nat) : Value := match d with
  | 0 => .string (l.getD i zRP).r.name
  | 1 => .slice (l.getD i zRP).pa (l.getD i zRP).r.params.length (l.getD i zRP).pc
  | 2 => .slice (l.getD i zRP).ra (l.getD i zRP).r.results.length (l.getD i zRP).rc
  | 3 => .int .i64 (l.getD i zRP).r.locals
  | 4 => .int .i64 (l.getD i zRP).r.stack
  | _ => .slice (l.getD i zRP).ca (l.getD i zRP).r.code.length (l.getD i zRP).cc
def N64 (x : Int) : Prop := -9223372036854775808 ≤ x ∧ x ≤ 9223372036854775807
/-- How long things may be that lie in memory. -/
def big : Nat := 140737488355328
structure TyIn (w : World) (x : TyP) : Prop where
  row : RowAt w x.fa 2 x.t.fields.length (flF x.t.fields)
  kind : x.t.kind < 256
  name : x.t.name.size ≤ big
  elem : N64 x.t.elem
  len : N64 x.t.len
  each : ∀ y ∈ x.t.fields, y.name.size ≤ big ∧ N64 y.typ
  no : x.fa = none → x.fc = 0
  le : x.t.fields.length ≤ x.fc
  mx : x.t.fields.length ≤ big
  cm : x.fc ≤ maxLen
structure RoIn (w : World) (x : RoP) : Prop where
  params : RowAt w x.pa 1 x.r.params.length (inF x.r.params)
  results : RowAt w x.ra 1 x.r.results.length (inF x.r.results)
  code : Lies w x.ca x.r.code
  name : x.r.name.size ≤ big
  locals : N64 x.r.locals
  stack : N64 x.r.stack
  eachp : ∀ y ∈ x.r.params, N64 y
  eachr : ∀ y ∈ x.r.results, N64 y
  pno : x.pa = none → x.pc = 0
  ple : x.r.params.length ≤ x.pc
  pmx : x.r.params.length ≤ big
  pcm : x.pc ≤ maxLen
  rno : x.ra = none → x.rc = 0
  rle : x.r.results.length ≤ x.rc
  rmx : x.r.results.length ≤ big
  rcm : x.rc ≤ maxLen
  cno : x.ca = none → x.cc = 0
  cle : x.r.code.length ≤ x.cc
  cmx : x.r.code.length ≤ big
  ccm : x.cc ≤ maxLen
/-- A module in memory: its three lists and where they lie. -/
structure MoP where
  tys : List TyP
  ta : Option Addr
  tc : Nat
  txs : List ByteArray
  sa : Option Addr
  sc : Nat
  fns : List RoP
  fa : Option Addr
  fc : Nat
def MoP.mo (m : MoP) : Mo := ⟨m.tys.map TyP.t, m.txs, m.fns.map RoP.r⟩
abbrev MoP.cs (m : MoP) : Array Value := #[.slice m.ta m.tys.length m.tc, .slice m.sa m.txs.length m.sc, .slice m.fa m.fns.length m.fc]
structure MoIn (w : World) (m : MoP) : Prop where
  tyr : RowAt w m.ta 5 m.tys.length (tyF m.tys)
  txr : RowAt w m.sa 1 m.txs.length (txF m.txs)
  fnr : RowAt w m.fa 6 m.fns.length (roF m.fns)
  ty : ∀ x ∈ m.tys, TyIn w x
  tx : ∀ s ∈ m.txs, s.size ≤ big
  fn : ∀ x ∈ m.fns, RoIn w x
  tno : m.ta = none → m.tc = 0
  tle : m.tys.length ≤ m.tc
  tmx : m.tys.length ≤ big
  tcm : m.tc ≤ maxLen
  sno : m.sa = none → m.sc = 0
  sle : m.txs.length ≤ m.sc
  smx : m.txs.length ≤ big
  scm : m.sc ≤ maxLen
  fno : m.fa = none → m.fc = 0
  fle : m.fns.length ≤ m.fc
  fmx : m.fns.length ≤ big
  fcm : m.fc ≤ maxLen
theorem TyIn.below {w w' : World} {x : TyP} (h : TyIn w x) (hb : Below w.heap.size w w') : TyIn w' x := { h with row := h.row.below hb }
theorem RoIn.below {w w' : World} {x : RoP} (h : RoIn w x) (hb : Below w.heap.size w w') : RoIn w' x := { h with params := h.params.below hb, results := h.results.below hb, code := h.code.below hb }
theorem MoIn.below {w w' : World} {m : MoP} (h : MoIn w m) (hb : Below w.heap.size w w') : MoIn w' m :=
  { h with tyr := h.tyr.below hb, txr := h.txr.below hb, fnr := h.fnr.below hb, ty := fun x hx => (h.ty x hx).below hb, fn := fun x hx => (h.fn x hx).below hb }
theorem getD_in {α : Type} {l : List α} {i : Nat} {z : α} (h : i < l.length) : l.getD i z ∈ l := by simp [List.getD, h]
/-- Lists of one length that agree at each place are the same. -/
theorem list_eq {α : Type} {xs ys : List α} (z : α) (hl : xs.length = ys.length) (h : ∀ j, j < xs.length → xs.getD j z = ys.getD j z) : xs = ys := by
  apply List.ext_getElem hl
  intro i h1 h2
  have := h i h1
  simpa [List.getD, h1, h2] using this
theorem list_eq_map {α β : Type} {f : α → β} {xs ys : List α} (z : α) (hl : xs.length = ys.length) (h : ∀ j, j < xs.length → f (xs.getD j z) = f (ys.getD j z)) : xs.map f = ys.map f := by
  apply List.ext_getElem (by simpa using hl)
  intro i h1 h2
  rw [List.length_map] at h1 h2
  have := h i h1
  simpa [List.getD, h1, h2] using this
theorem getD_of_map {α β : Type} {f : α → β} {xs ys : List α} (z : α) (h : xs.map f = ys.map f) (j : Nat) : f (xs.getD j z) = f (ys.getD j z) := by
  have h1 : (xs.map f).getD j (f z) = (ys.map f).getD j (f z) := by rw [h]
  simpa [List.getD, List.getElem?_map, Option.getD_map] using h1
theorem some_bool (p : Prop) : ∃ b : Bool, (b = true ↔ p) := by
  by_cases h : p
  · exact ⟨true, by simp [h]⟩
  · exact ⟨false, by simp [h]⟩
theorem iff_false {b : Bool} {p : Prop} (h : b = true ↔ p) (hp : ¬ p) : b = false := by
  cases b with
  | false => rfl
  | true => exact absurd (h.1 rfl) hp
end Go.Proofs.Ytibcakmodkbliaa
