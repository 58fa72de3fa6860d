import Derived.Test.YtmhnbklchnnbaaaGreatDoorMath
namespace Go.Proofs.YtmhnbklchnnbaaaGreatDoor
set_option linter.unusedVariables false
structure Tree where
  kind : Nat
  at_ : Int
  text : List Nat
  n : Nat
  kids : List Tree
abbrev Tok := Nat × List Nat × Nat × Nat × Nat
structure St where
  rest : List Tok
  wrong : Nat
  place : Nat
abbrev P (A : Type) := Nat → Nat → St → Option (A × St)
def ret {A : Type} (a : A) : P A := fun _ _ s => some (a, s)
def bnd {A C : Type} (m : P A) (f : A → P C) : P C := fun E d s => match m E d s with
  | none => none
  | some (a, s1) => f a E d s1
def noT : Tok := (0, [], 0, 0, 0)
def noN : Tree := ⟨0, 0, [], 0, []⟩
def aheadT (E : Nat) (s : St) (i : Nat) : Tok := s.rest.getD i (0, [], 0, E, 0)
def nxt (E : Nat) (s : St) : Tok := aheadT E s 0
def popS (s : St) : St := ⟨s.rest.tail, s.wrong, s.place⟩
def failS (p e : Nat) (s : St) : St := if s.wrong = 0 then ⟨[], e, p⟩ else s
def refS (E : Nat) (s : St) : St := failS (nxt E s).2.2.2.1 40 s
def deepS (d : Nat) (t : Tok) (s : St) : St := if d = 64 then failS t.2.2.2.1 41 s else s
def sg (x : List Nat) (t : Tok) : Bool := t.1 == 4 && t.2.1 == x
def wd (x : List Nat) (t : Tok) : Bool := t.1 == 1 && t.2.1 == x
def nm (t : Tok) : Bool := t.1 == 1 && nameB t.2.1
def nu (t : Tok) : Bool := t.1 == 2
def cn (t : Tok) : Bool := t.1 == 2 && t.2.1 == []
def look {A : Type} (f : Tok → P A) : P A := fun E d s => f (nxt E s) E d s
def takeT : P Tok := fun E d s => some (nxt E s, popS s)
def needT (b : Bool) : P Tok := fun E d s => if b then some (nxt E s, popS s) else some (noT, refS E s)
def needW (q : Tok → Bool) : P Tok := look fun t => needT (q t)
def refP : P Tree := fun E d s => some (noN, refS E s)
def deeper {A : Type} (t : Tok) (m : P A) : P A := fun E d s => m E (d + 1) (deepS d t s)
def within {A : Type} (x y : List Nat) (m : P A) : P (Tok × A) :=
  bnd (needW (sg x)) fun t => bnd (deeper t m) fun a => bnd (needW (sg y)) fun _ => ret (t, a)
def listL (part : P Tree) : Nat → List Tree → P (List Tree)
  | 0, _ => fun _ _ _ => none
  | f + 1, acc => look fun t => if sg [44] t then bnd takeT fun _ => bnd part fun n => listL part f (acc ++ [n]) else ret acc
def listP (f : Nat) (part : P Tree) : P (List Tree) := bnd part fun n => listL part f [n]
def perhaps (f : Nat) (part : P Tree) : P (List Tree) :=
  bnd (within [40] [41] (look fun t => if sg [41] t then ret [] else listP f part)) fun x => ret x.2
def typeW (t : Tok) : Bool := wd [105, 56] t || wd [105, 51, 50] t || wd [105, 54, 52] t || wd [98, 111, 111, 108] t || wd [98, 121, 116, 101, 115] t
def intW (t : Tok) : Bool := wd [105, 56] t || wd [105, 51, 50] t || wd [105, 54, 52] t
def typeP (rec : P Tree) : P Tree := look fun t =>
  if nm t || typeW t then bnd takeT fun t => ret ⟨7, t.2.2.2.1, t.2.1, 0, []⟩
  else if sg [91] t then
    bnd (within [91] [93] (look fun c => if cn c then bnd takeT fun c => ret (8, c.2.2.1) else ret (9, 0))) fun x =>
    bnd (deeper x.1 rec) fun k => ret ⟨x.2.1, x.1.2.2.2.1, [], x.2.2, [k]⟩
  else refP
def betw (t : Tok) : Nat × Nat :=
  if t.1 == 4 then
    if t.2.1 == [124, 124] then (77, 0)
    else if t.2.1 == [38, 38] then (76, 1)
    else if t.2.1 == [61, 61] then (70, 2)
    else if t.2.1 == [33, 61] then (71, 2)
    else if t.2.1 == [60] then (72, 2)
    else if t.2.1 == [60, 61] then (73, 2)
    else if t.2.1 == [62] then (74, 2)
    else if t.2.1 == [62, 61] then (75, 2)
    else if t.2.1 == [43] then (60, 3)
    else if t.2.1 == [45] then (61, 3)
    else if t.2.1 == [124] then (66, 3)
    else if t.2.1 == [94] then (67, 3)
    else if t.2.1 == [42] then (62, 4)
    else if t.2.1 == [47] then (63, 4)
    else if t.2.1 == [37] then (64, 4)
    else if t.2.1 == [38] then (65, 4)
    else if t.2.1 == [60, 60] then (68, 4)
    else if t.2.1 == [62, 62] then (69, 4)
    else (0, 0)
  else (0, 0)
def lineL (k : Nat) (next : P Tree) : Nat → Tree → P Tree
  | 0, _ => fun _ _ _ => none
  | f + 1, n => look fun t => if (betw t).1 = 0 ∨ (betw t).2 ≠ k then ret n else bnd takeT fun t => bnd next fun m =>
      if k = 2 then ret ⟨(betw t).1, t.2.2.2.1, [], 0, [n, m]⟩ else lineL k next f ⟨(betw t).1, t.2.2.2.1, [], 0, [n, m]⟩
def lineP (unary : P Tree) (f : Nat) : Nat → P Tree
  | 0 => unary
  | j + 1 => bnd (lineP unary f j) fun n => lineL (4 - j) (lineP unary f j) f n
def tailsL (expr : P Tree) : Nat → Tree → P Tree
  | 0, _ => fun _ _ _ => none
  | f + 1, n => look fun t => if sg [46] t then bnd takeT fun _ => bnd (needW nm) fun m => tailsL expr f ⟨48, m.2.2.2.1, m.2.1, 0, [n]⟩
    else if sg [91] t then bnd (within [91] [93] expr) fun x => tailsL expr f ⟨49, x.1.2.2.2.1, [], 0, [n, x.2]⟩
    else ret n
def wholeP : P Tree := bnd (needW nu) fun t => ret ⟨40, t.2.2.2.1, t.2.1, t.2.2.1, []⟩
def usedP : P Tree := bnd (needW nm) fun t => ret ⟨44, t.2.2.2.1, t.2.1, 0, []⟩
def newP : P Tree := bnd (needW nm) fun t => ret ⟨25, t.2.2.2.1, t.2.1, 0, []⟩
def callP (f : Nat) (expr : P Tree) : P Tree := bnd usedP fun n => look fun t =>
  if sg [40] t then bnd (perhaps f expr) fun l => ret ⟨45, n.at_, n.text, n.n, l⟩ else ret n
def valsL (expr : P Tree) : Nat → Nat → List Tree → P (List Tree)
  | 0, _, acc => ret acc
  | c + 1, i, acc => if 0 < i then bnd (needW (sg [44])) fun _ => bnd expr fun n => valsL expr c (i + 1) (acc ++ [n]) else bnd expr fun n => valsL expr c (i + 1) (acc ++ [n])
def withP (expr : P Tree) (kind count : Nat) : P Tree := bnd takeT fun t => bnd (within [40] [41] (valsL expr count 0 [])) fun x => ret ⟨kind, t.2.2.2.1, [], 0, x.2⟩
def givenP (f : Nat) (expr : P Tree) : P Tree := look fun t =>
  if intW t then bnd (withP expr 46 1) fun n => ret ⟨n.kind, n.at_, t.2.1, n.n, n.kids⟩
  else if wd [108, 101, 110] t then withP expr 50 1
  else if wd [99, 117, 116] t then withP expr 51 3
  else if wd [98, 121, 116, 101] t then withP expr 52 1
  else if wd [112, 111, 112] t then withP expr 53 1
  else callP f expr
def primaryP (f : Nat) (typ expr : P Tree) : P Tree := look fun t =>
  if nu t then wholeP
  else if t.1 == 3 then bnd takeT fun t => ret ⟨41, t.2.2.2.1, t.2.1, 0, []⟩
  else if sg [40] t then bnd (within [40] [41] expr) fun x => ret x.2
  else if wd [116, 114, 117, 101] t then bnd takeT fun t => ret ⟨42, t.2.2.2.1, [], 0, []⟩
  else if wd [102, 97, 108, 115, 101] t then bnd takeT fun t => ret ⟨43, t.2.2.2.1, [], 0, []⟩
  else if wd [110, 101, 119] t then bnd takeT fun t => bnd typ fun k => bnd (perhaps f expr) fun l => ret ⟨47, t.2.2.2.1, [], 0, k :: l⟩
  else givenP f expr
def signK (t : Tok) : Nat := if sg [45] t then 55 else if sg [126] t then 56 else if sg [33] t then 57 else 0
def unaryP (f : Nat) (rec typ expr : P Tree) : P Tree := look fun t =>
  if signK t = 0 then bnd (primaryP f typ expr) fun n => tailsL expr f n
  else bnd takeT fun s => bnd (deeper s rec) fun n => ret ⟨signK t, s.2.2.2.1, [], 0, [n]⟩
def fieldP (typ : P Tree) : P Tree := bnd (needW nm) fun t => bnd typ fun k => ret ⟨3, t.2.2.2.1, t.2.1, 0, [k]⟩
def blockP (stmts : P (List Tree)) : P Tree := bnd (within [123] [125] stmts) fun x => ret ⟨10, x.1.2.2.2.1, [], 0, x.2⟩
def doP (call : Tree) : Tree := ⟨13, call.at_, [], 0, [call]⟩
def setL : Nat → Bool → List Tree → P (List Tree)
  | 0, _, _ => fun _ _ _ => none
  | f + 1, go, acc => look fun t => if go && sg [44] t then bnd takeT fun _ => bnd usedP fun n => setL f go (acc ++ [n]) else ret acc
def simpleP (f : Nat) (expr : P Tree) : P Tree := look fun t =>
  if wd [112, 117, 115, 104] t then bnd (withP expr 54 2) fun n => ret (doP n)
  else bnd (callP f expr) fun n => bnd (tailsL expr f n) fun n =>
    if n.kind == 45 then ret (doP n)
    else bnd (setL f (n.kind == 44) [n]) fun l => bnd (needW (sg [61])) fun t => bnd expr fun x => ret ⟨12, t.2.2.2.1, [], 0, l ++ [x]⟩
def varP (f : Nat) (expr : P Tree) : P Tree := look fun t =>
  if wd [118, 97, 114] t then bnd takeT fun t => bnd (listP f newP) fun l => bnd (needW (sg [61])) fun _ => bnd expr fun x => ret ⟨11, t.2.2.2.1, [], 0, l ++ [x]⟩
  else simpleP f expr
def awayP (kind : Nat) : P Tree := bnd takeT fun t => look fun m =>
  if nm m then bnd takeT fun m => ret ⟨kind, t.2.2.2.1, m.2.1, 0, []⟩ else ret ⟨kind, t.2.2.2.1, [], 0, []⟩
def plainP (f : Nat) (expr : P Tree) : P Tree := look fun t =>
  if wd [98, 114, 101, 97, 107] t then awayP 20
  else if wd [99, 111, 110, 116, 105, 110, 117, 101] t then awayP 21
  else if wd [114, 101, 116, 117, 114, 110] t then bnd takeT fun t => look fun m => if sg [59] m then ret ⟨22, t.2.2.2.1, [], 0, []⟩ else bnd (listP f expr) fun l => ret ⟨22, t.2.2.2.1, [], 0, l⟩
  else if wd [116, 114, 97, 112] t then bnd takeT fun t => bnd (needW fun c => cn c && decide (c.2.2.1 ≤ 255)) fun c => ret ⟨23, t.2.2.2.1, [], c.2.2.1, []⟩
  else varP f expr
def unlessP (x : List Nat) (part : P Tree) : P Tree := look fun t => if sg x t then ret ⟨24, t.2.2.2.1, [], 0, []⟩ else part
def roundsP (f : Nat) (expr : P Tree) (stmts : P (List Tree)) : P (List Tree) :=
  bnd (unlessP [59] (varP f expr)) fun a => bnd (needW (sg [59])) fun _ => bnd (unlessP [59] expr) fun b => bnd (needW (sg [59])) fun _ =>
  bnd (unlessP [123] (simpleP f expr)) fun c => bnd (blockP stmts) fun k => ret [a, b, c, k]
def constP : P Tree := look fun t => if sg [45] t then bnd takeT fun t => bnd wholeP fun n => ret ⟨55, t.2.2.2.1, [], 0, [n]⟩ else wholeP
def armP (stmts : P (List Tree)) : P Tree := bnd (needW (sg [58])) fun t => bnd stmts fun l => ret ⟨10, t.2.2.2.1, [], 0, l⟩
def caseL (g : Nat) (stmts : P (List Tree)) : Nat → List Tree → P (List Tree)
  | 0, _ => fun _ _ _ => none
  | f + 1, acc => look fun t => if wd [99, 97, 115, 101] t then bnd takeT fun t => bnd (listP g constP) fun l => bnd (armP stmts) fun a => caseL g stmts f (acc ++ [⟨18, t.2.2.2.1, [], 0, l ++ [a]⟩]) else ret acc
def choiceP (f : Nat) (expr : P Tree) (stmts : P (List Tree)) : P (List Tree) :=
  bnd expr fun x => bnd (within [123] [125] (bnd (caseL f stmts f [x]) fun l => look fun t =>
    if wd [100, 101, 102, 97, 117, 108, 116] t then bnd takeT fun t => bnd (armP stmts) fun a => ret (l ++ [⟨19, t.2.2.2.1, [], 0, [a]⟩]) else ret l)) fun y => ret y.2
def turnW (t : Tok) : Bool := wd [119, 104, 105, 108, 101] t || wd [102, 111, 114] t || wd [115, 119, 105, 116, 99, 104] t
def turnP (f : Nat) (label : List Nat) (expr : P Tree) (stmts : P (List Tree)) : P Tree := bnd (needW turnW) fun t =>
  if t.2.1 == [119, 104, 105, 108, 101] then bnd expr fun x => bnd (blockP stmts) fun k => ret ⟨15, t.2.2.2.1, label, 0, [x, k]⟩
  else if t.2.1 == [102, 111, 114] then bnd (roundsP f expr stmts) fun l => ret ⟨16, t.2.2.2.1, label, 0, l⟩
  else if t.2.1 == [115, 119, 105, 116, 99, 104] then bnd (choiceP f expr stmts) fun l => ret ⟨17, t.2.2.2.1, label, 0, l⟩
  else ret ⟨0, t.2.2.2.1, label, 0, []⟩
def branchP (rec expr : P Tree) (stmts : P (List Tree)) : P Tree := bnd takeT fun t => bnd expr fun x => bnd (blockP stmts) fun k => look fun e =>
  if wd [101, 108, 115, 101] e then bnd takeT fun o => look fun i =>
    if wd [105, 102] i then bnd (deeper o rec) fun n => ret ⟨14, t.2.2.2.1, [], 0, [x, k, n]⟩
    else bnd (blockP stmts) fun n => ret ⟨14, t.2.2.2.1, [], 0, [x, k, n]⟩
  else ret ⟨14, t.2.2.2.1, [], 0, [x, k]⟩
def labelB (E : Nat) (s : St) : Bool := nm (nxt E s) && sg [58] (aheadT E s 1)
def stmtP (f : Nat) (branch expr : P Tree) (stmts : P (List Tree)) : P Tree := fun E d s =>
  if sg [123] (nxt E s) then blockP stmts E d s
  else if wd [105, 102] (nxt E s) then branch E d s
  else if turnW (nxt E s) then turnP f [] expr stmts E d s
  else if labelB E s then (bnd takeT fun l => bnd takeT fun _ => turnP f l.2.1 expr stmts) E d s
  else (bnd (plainP f expr) fun n => bnd (needW (sg [59])) fun _ => ret n) E d s
def stmtsL (stmt : P Tree) : Nat → List Tree → P (List Tree)
  | 0, _ => fun _ _ _ => none
  | f + 1, acc => fun E d s => if s.wrong = 0 ∧ sg [125] (nxt E s) = false ∧ (wd [99, 97, 115, 101] (nxt E s) || wd [100, 101, 102, 97, 117, 108, 116] (nxt E s)) = false
      then (bnd stmt fun n => stmtsL stmt f (acc ++ [n])) E d s else some (acc, s)
def fieldsL (typ : P Tree) : Nat → List Tree → P (List Tree)
  | 0, _ => fun _ _ _ => none
  | f + 1, acc => look fun t => if nm t then bnd (fieldP typ) fun n => bnd (needW (sg [59])) fun _ => fieldsL typ f (acc ++ [n]) else ret acc
def recordP (f : Nat) (typ : P Tree) : P Tree := bnd takeT fun _ => bnd (needW nm) fun t => bnd (within [123] [125] (fieldsL typ f [])) fun x => ret ⟨2, t.2.2.2.1, t.2.1, 0, x.2⟩
def resultsP (f : Nat) (typ : P Tree) : P Tree := look fun t =>
  if sg [123] t then ret ⟨6, t.2.2.2.1, [], 0, []⟩
  else if sg [40] t then bnd (within [40] [41] (listP f typ)) fun x => ret ⟨6, t.2.2.2.1, [], 0, x.2⟩
  else bnd typ fun n => ret ⟨6, t.2.2.2.1, [], 0, [n]⟩
def functionP (f : Nat) (typ : P Tree) (stmts : P (List Tree)) : P Tree := bnd takeT fun _ => bnd (needW nm) fun t => look fun p =>
  bnd (perhaps f (fieldP typ)) fun l => bnd (resultsP f typ) fun r => bnd (blockP stmts) fun k => ret ⟨4, t.2.2.2.1, t.2.1, 0, [⟨5, p.2.2.2.1, [], 0, l⟩, r, k]⟩
def programL (g : Nat) (typ : P Tree) (stmts : P (List Tree)) : Nat → List Tree → P Tree
  | 0, _ => fun _ _ _ => none
  | f + 1, acc => look fun t => if wd [114, 101, 99, 111, 114, 100] t then bnd (recordP g typ) fun n => programL g typ stmts f (acc ++ [n])
    else if wd [102, 110] t then bnd (functionP g typ stmts) fun n => programL g typ stmts f (acc ++ [n]) else ret ⟨1, 0, [], 0, acc⟩
structure Rec where
  typ : P Tree
  unary : P Tree
  expr : P Tree
  stmts : P (List Tree)
  branch : P Tree
def R : Nat → Rec
  | 0 => ⟨fun _ _ _ => none, fun _ _ _ => none, fun _ _ _ => none, fun _ _ _ => none, fun _ _ _ => none⟩
  | f + 1 => ⟨typeP (R f).typ, unaryP f (R f).unary (R f).typ (R f).expr, lineP (R f).unary f 5, stmtsL (stmtP f (R f).branch (R f).expr (R f).stmts) f [], branchP (R f).branch (R f).expr (R f).stmts⟩
def programP (f : Nat) : P Tree := programL f (R f).typ (R f).stmts f []
def readP (m : P Tree) (E : Nat) (ts : List Tok) : Option (Except (Nat × Nat) Tree) := match m E 0 ⟨ts, 0, 0⟩ with
  | none => none
  | some (n, s) => some (
    let s1 := if s.rest.isEmpty then s else refS E s
    if s1.wrong = 0 then .ok n else .error (s1.place, s1.wrong))
def isTypeI (k : Int) : Bool := k == 7 || k == 8 || k == 9
def isStmtI (k : Int) : Bool := k == 10 || k == 11 || k == 12 || k == 13 || k == 14 || k == 15 || k == 16 || k == 17 || k == 20 || k == 21 || k == 22 || k == 23
def isExprI (k : Int) : Bool := (decide (40 ≤ k) && decide (k ≤ 57) && k != 54) || (decide (60 ≤ k) && decide (k ≤ 77))
def kidsI (k : Int) : Int × Int :=
  if k == 1 || k == 2 || k == 5 || k == 6 || k == 10 || k == 22 || k == 45 then (0, 9223372036854775807)
  else if k == 17 || k == 47 then (1, 9223372036854775807)
  else if k == 11 || k == 12 || k == 18 then (2, 9223372036854775807)
  else if k == 20 || k == 21 || k == 23 || k == 24 || k == 25 || k == 7 || k == 40 || k == 41 || k == 42 || k == 43 || k == 44 then (0, 0)
  else if k == 3 || k == 8 || k == 9 || k == 13 || k == 19 || k == 46 || k == 48 || k == 50 || k == 52 || k == 53 || k == 55 || k == 56 || k == 57 then (1, 1)
  else if k == 14 then (2, 3)
  else if k == 4 || k == 51 then (3, 3)
  else if k == 16 then (4, 4)
  else (2, 2)
def stepI (k : Int) : Bool := k == 12 || k == 13 || k == 24
def targetI (k : Int) : Bool := k == 44 || k == 48 || k == 49
def takesI (r k : Int) : Bool :=
  if r == 0 then k == 1 || isTypeI k || isStmtI k || isExprI k
  else if r == 1 then k == 2 || k == 4
  else if r == 2 then k == 3
  else if r == 3 then k == 5
  else if r == 4 then k == 6
  else if r == 5 then isTypeI k
  else if r == 6 then k == 10
  else if r == 7 then isStmtI k
  else if r == 8 then k == 10 || k == 14
  else if r == 9 then k == 11 || stepI k
  else if r == 10 then k == 24 || isExprI k
  else if r == 11 then stepI k
  else if r == 12 then k == 18
  else if r == 13 then k == 18 || k == 19
  else if r == 14 then k == 40 || k == 55
  else if r == 15 then k == 40
  else if r == 16 then k == 25
  else if r == 17 then targetI k
  else if r == 18 then k == 45 || targetI k
  else if r == 19 then k == 44
  else if r == 20 then k == 45 || k == 54
  else isExprI k
def isIntL (x : List Nat) : Bool := x == [105, 56] || x == [105, 51, 50] || x == [105, 54, 52]
def textI (k : Int) (x : List Nat) : Bool :=
  if k == 2 || k == 3 || k == 4 || k == 25 || k == 44 || k == 45 || k == 48 then nameB x
  else if k == 15 || k == 16 || k == 17 || k == 20 || k == 21 then x == [] || nameB x
  else if k == 7 then isIntL x || x == [98, 111, 111, 108] || x == [98, 121, 116, 101, 115] || nameB x
  else if k == 46 then isIntL x
  else if k == 40 then x == [] || isIntL x
  else if k == 41 then true
  else x == []
def numI (k : Int) (x : List Nat) (n : Int) : Bool :=
  if k == 8 then true
  else if k == 23 then decide (n ≤ 255)
  else if k == 40 then (x == [105, 56] && decide (n ≤ 255)) || (x == [105, 51, 50] && decide (n ≤ 4294967295)) || x == [105, 54, 52] || x == []
  else n == 0
def fitsI (r k : Int) (x : List Nat) (n : Int) (m : Int) : Bool := takesI r k && decide ((kidsI k).1 ≤ m) && decide (m ≤ (kidsI k).2) && textI k x && numI k x n
def pickI (i : Int) (l : List Int) : Int := l.getD (min i ((l.length : Int) - 1)).toNat 0
def eitherI (b : Bool) (x y : Int) : Int := if b then x else y
def asksI (r k m i : Int) : Int :=
  let last := i == m - 1
  if k == 1 then 1
  else if k == 2 || k == 5 then 2
  else if k == 3 || k == 6 || k == 8 || k == 9 then 5
  else if k == 4 then pickI i [3, 4, 6]
  else if k == 10 then 7
  else if k == 11 then eitherI last 21 16
  else if k == 12 then eitherI last 21 (eitherI (m == 2) 17 19)
  else if k == 13 then 20
  else if k == 14 then pickI i [21, 6, 8]
  else if k == 15 then pickI i [21, 6]
  else if k == 16 then pickI i [9, 10, 11, 6]
  else if k == 17 then pickI i [21, eitherI last 13 12]
  else if k == 18 then eitherI last 6 14
  else if k == 19 then 6
  else if k == 47 then pickI i [5, 21]
  else if k == 48 || k == 49 then pickI i [eitherI (r == 17 || r == 18) 18 21, 21]
  else if k == 55 then eitherI (r == 14) 15 21
  else 21
def validT (r : Int) : Tree → Bool
  | ⟨k, a, x, n, ks⟩ => fitsI r k x n ks.length && validL r k ks.length 0 ks
  where validL (r : Int) (k m i : Nat) : List Tree → Bool
  | [] => true
  | t :: ts => validT (asksI r k m i) t && validL r k m (i + 1) ts
def cntT : Tree → Nat
  | ⟨k, a, x, n, ks⟩ => 1 + cntL ks
  where cntL : List Tree → Nat
  | [] => 0
  | t :: ts => cntT t + cntL ts
def checkN (t : Tree) : Nat := if 65536 < cntT t then 3 else if validT 0 t then 0 else 50
end Go.Proofs.YtmhnbklchnnbaaaGreatDoor
