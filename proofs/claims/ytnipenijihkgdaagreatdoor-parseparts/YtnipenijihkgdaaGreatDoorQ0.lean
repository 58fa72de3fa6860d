namespace Go.Proofs.YtnipenijihkgdaaGreatDoor
set_option linter.unusedVariables false
def bO (c:Nat):Bool:=decide (97≤c∧c≤122) || decide (65≤c∧c≤90) || decide (c = 95)
def aY (c:Nat):Bool:=decide (48≤c∧c≤57)
def cO (c:Nat):Bool:=bO c || aY c
def fO (c:Nat):Bool:=decide (c = 9) || decide (c = 10) || decide (c = 13) || decide (c = 32)
def bM (c:Nat):Bool:=decide (c < 32) || decide (c = 127)
def lN (c:Nat):Bool:=decide (32≤c) && decide (c ≠ 34) && decide (c ≠ 92) && decide (c ≠ 127)
def dH (c:Nat):Nat:=if aY c then c - 48 else if 97≤c∧c≤102 then c - 97 + 10 else if 65≤c∧c≤70 then c - 65 + 10 else 16
def aP : Bool→List Nat→Nat
 | _,[]=>0
 | true,c :: r=>1 + aP (decide (c ≠ 10)) r
 | false,c :: r=>if c = 47∧r.head? = some 47 then 1 + aP true r else if fO c then 1 + aP false r else 0
def fL (l:List Nat):Nat:=(l.takeWhile cO).length
def mU (l:List Nat):Nat:=(l.takeWhile aY).length
def oZ (ds:List Nat):Nat:=ds.foldl (fun n c=>10 * n + (c - 48)) 0
def lL (sfx:List Nat):Nat:=if sfx = [105,56] then 255 else if sfx = [105,51,50] then 4294967295 else 18446744073709551615
def oS (sfx:List Nat):Bool:=decide (sfx = []) || decide (sfx = [105,56]) || decide (sfx = [105,51,50]) || decide (sfx = [105,54,52])
def jI (r:List Nat):Except Nat (Nat × Nat) :=
 match r with
 | []=>.error 31
 | c :: r1 =>
  if bM c then .error 31
  else if c = 34∨c = 92 then .ok (c,2) else if c = 110 then .ok (10,2) else if c = 116 then .ok (9,2) else if c = 114 then .ok (13,2)
  else if c = 120 then
   match r1 with
   | []=>.error 31
   | d :: r2 =>
    if bM d then .error 31 else if dH d = 16 then .error 32
    else match r2 with
     | []=>.error 31
     | e :: _=>if bM e then .error 31 else if dH e = 16 then .error 32 else .ok (16 * dH d + dH e,4)
  else .error 32
def dV : Nat→List Nat→Except (Option Nat × Nat) (List Nat × Nat)
 | 0,_=>.error (none,31)
 | _ + 1,[]=>.error (none,31)
 | f + 1,c :: r =>
  if bM c then .error (none,31) else if c = 34 then .ok ([],1)
  else if lN c then
   match dV f r with
   | .ok (out,n)=>.ok (c :: out,n + 1)
   | .error (some p,e)=>.error (some (p + 1),e)
   | .error (none,e)=>.error (none,e)
  else
   match jI r with
   | .error e=>if e = 31 then .error (none,31) else .error (some 0,e)
   | .ok (b,k) =>
    match dV f (r.drop (k - 1)) with
    | .ok (out,n)=>.ok (b :: out,n + k)
    | .error (some p,e)=>.error (some (p + k),e)
    | .error (none,e)=>.error (none,e)
def dG (l x:List Nat):Bool:=decide (l.take x.length = x)
def fY : List (List Nat):=[[60,60],[62,62],[61,61],[33,61],[60,61],[62,61],[38,38],[124,124],[40],[41],[123],[125],[91],[93],[44],[59],[58],[46],[43],[45],[42],[47],[37],[38],[124],[94],[126],[33],[60],[62],[61]]
def kD (l:List Nat):Option (List Nat):=fY.find? fun x=>dG l x
def eU (l:List Nat):Except (Nat × Nat) (Nat × List Nat × Nat × Nat) :=
 match l with
 | []=>.error (0,30)
 | c :: r =>
  if bO c then .ok (1,l.takeWhile cO,0,fL l)
  else if aY c then
   let ds:=l.takeWhile aY
   let sfx:=(l.drop ds.length).takeWhile cO
   if oS sfx∧oZ ds≤lL sfx then .ok (2,sfx,oZ ds,ds.length + sfx.length) else .error (0,33)
  else if c = 34 then
   match dV (r.length + 1) r with
   | .ok (out,n)=>.ok (3,out,0,n + 1)
   | .error (some p,e)=>.error (p + 1,e)
   | .error (none,e)=>.error (0,e)
  else match kD l with
   | none=>.error (0,30)
   | some x=>.ok (4,x,0,x.length)
def iS : Nat→Nat→Nat→List Nat→Except (Nat × Nat) (List (Nat × List Nat × Nat × Nat × Nat))
 | 0,_,_,_=>.ok []
 | f + 1,k,at0,l =>
  let b:=aP false l
  if l.drop b = [] then .ok []
  else if k = 32768 then .error (at0 + b,3)
  else match eU (l.drop b) with
   | .error (p,e)=>.error (at0 + b + p,e)
   | .ok (kd,tx,n,len) =>
    match iS f (k + 1) (at0 + b + len) (l.drop (b + len)) with
    | .error x=>.error x
    | .ok ts=>.ok ((kd,tx,n,at0 + b,at0 + b + len) :: ts)
def gC (l:List Nat):Except (Nat × Nat) (List (Nat × List Nat × Nat × Nat × Nat)) :=
 if 65536 < l.length then .error (0,3) else iS (l.length + 1) 0 0 l
def qH : List (List Nat):=[[114,101,99,111,114,100],[102,110],[118,97,114],[105,102],[101,108,115,101],[119,104,105,108,101],[102,111,114],[115,119,105,116,99,104],[99,97,115,101],[100,101,102,97,117,108,116],[98,114,101,97,107],[99,111,110,116,105,110,117,101],[114,101,116,117,114,110],[116,114,97,112],[110,101,119],[116,114,117,101],[102,97,108,115,101],[105,56],[105,51,50],[105,54,52],[98,111,111,108],[98,121,116,101,115],[108,101,110],[99,117,116],[98,121,116,101],[112,117,115,104],[112,111,112]]
def kC (l:List Nat):Bool:=decide (l ∈ qH)
def jZ (l:List Nat):Bool :=
 match l with
 | []=>false
 | c :: _=>bO c && decide (fL l = l.length) && !kC l
structure Tree where
 kind:Nat
 at_:Int
 text:List Nat
 n:Nat
 kids:List Tree
abbrev Tok := Nat × List Nat × Nat × Nat × Nat
structure St where
 rest:List Tok
 wrong:Nat
 place:Nat
abbrev P (A:Type):=Nat→Nat→St→Option (A × St)
def ret {A:Type} (a:A):P A:=fun _ _ s=>some (a,s)
def bnd {A C:Type} (m:P A) (f:A→P C):P C:=fun E d s=>match m E d s with
 | none=>none
 | some (a,s1)=>f a E d s1
def noT : Tok:=(0,[],0,0,0)
def noN : Tree:=⟨0,0,[],0,[]⟩
def bE (E:Nat) (s:St) (i:Nat):Tok:=s.rest.getD i (0,[],0,E,0)
def nxt (E:Nat) (s:St):Tok:=bE E s 0
def aS (s:St):St:=⟨s.rest.tail,s.wrong,s.place⟩
def eO (p e:Nat) (s:St):St:=if s.wrong = 0 then ⟨[],e,p⟩ else s
def bD (E:Nat) (s:St):St:=eO (nxt E s).2.2.2.1 40 s
def eL (d:Nat) (t:Tok) (s:St):St:=if d = 64 then eO t.2.2.2.1 41 s else s
def sg (x:List Nat) (t:Tok):Bool:=t.1 == 4 && t.2.1 == x
def wd (x:List Nat) (t:Tok):Bool:=t.1 == 1 && t.2.1 == x
def nm (t:Tok):Bool:=t.1 == 1 && jZ t.2.1
def nu (t:Tok):Bool:=t.1 == 2
def cn (t:Tok):Bool:=t.1 == 2 && t.2.1 == []
def eT {A:Type} (f:Tok→P A):P A:=fun E d s=>f (nxt E s) E d s
def dA : P Tok:=fun E d s=>some (nxt E s,aS s)
def eQ (b:Bool):P Tok:=fun E d s=>if b then some (nxt E s,aS s) else some (noT,bD E s)
def cZ (q:Tok→Bool):P Tok:=eT fun t=>eQ (q t)
def pJ0 : P Tree:=fun E d s=>some (noN,bD E s)
def eK {A:Type} (t:Tok) (m:P A):P A:=fun E d s=>m E (d + 1) (eL d t s)
def fM {A:Type} (x y:List Nat) (m:P A):P (Tok × A) :=
 bnd (cZ (sg x)) fun t=>bnd (eK t m) fun a=>bnd (cZ (sg y)) fun _=>ret (t,a)
def gJ (part:P Tree):Nat→List Tree→P (List Tree)
 | 0,_=>fun _ _ _=>none
 | f + 1,acc=>eT fun t=>if sg [44] t then bnd dA fun _=>bnd part fun n=>gJ part f (acc ++ [n]) else ret acc
def iF (f:Nat) (part:P Tree):P (List Tree):=bnd part fun n=>gJ part f [n]
def eE (f:Nat) (part:P Tree):P (List Tree) :=
 bnd (fM [40] [41] (eT fun t=>if sg [41] t then ret [] else iF f part)) fun x=>ret x.2
def mQ (t:Tok):Bool:=wd [105,56] t || wd [105,51,50] t || wd [105,54,52] t || wd [98,111,111,108] t || wd [98,121,116,101,115] t
def nC (t:Tok):Bool:=wd [105,56] t || wd [105,51,50] t || wd [105,54,52] t
def lO (rec:P Tree):P Tree:=eT fun t =>
 if nm t || mQ t then bnd dA fun t=>ret ⟨7,t.2.2.2.1,t.2.1,0,[]⟩
 else if sg [91] t then
  bnd (fM [91] [93] (eT fun c=>if cn c then bnd dA fun c=>ret (8,c.2.2.1) else ret (9,0))) fun x =>
  bnd (eK x.1 rec) fun k=>ret ⟨x.2.1,x.1.2.2.2.1,[],x.2.2,[k]⟩
 else pJ0
def bX (t:Tok):Nat × Nat :=
 if t.1 == 4 then
  if t.2.1 == [124,124] then (77,0)
  else if t.2.1 == [38,38] then (76,1)
  else if t.2.1 == [61,61] then (70,2)
  else if t.2.1 == [33,61] then (71,2)
  else if t.2.1 == [60] then (72,2)
  else if t.2.1 == [60,61] then (73,2)
  else if t.2.1 == [62] then (74,2)
  else if t.2.1 == [62,61] then (75,2)
  else if t.2.1 == [43] then (60,3)
  else if t.2.1 == [45] then (61,3)
  else if t.2.1 == [124] then (66,3)
  else if t.2.1 == [94] then (67,3)
  else if t.2.1 == [42] then (62,4)
  else if t.2.1 == [47] then (63,4)
  else if t.2.1 == [37] then (64,4)
  else if t.2.1 == [38] then (65,4)
  else if t.2.1 == [60,60] then (68,4)
  else if t.2.1 == [62,62] then (69,4)
  else (0,0)
 else (0,0)
def mB (k:Nat) (next:P Tree):Nat→Tree→P Tree
 | 0,_=>fun _ _ _=>none
 | f + 1,n=>eT fun t=>if (bX t).1 = 0∨(bX t).2 ≠ k then ret n else bnd dA fun t=>bnd next fun m =>
     if k = 2 then ret ⟨(bX t).1,t.2.2.2.1,[],0,[n,m]⟩ else mB k next f ⟨(bX t).1,t.2.2.2.1,[],0,[n,m]⟩
def lQ (unary:P Tree) (f:Nat):Nat→P Tree
 | 0=>unary
 | j + 1=>bnd (lQ unary f j) fun n=>mB (4 - j) (lQ unary f j) f n
def eH (expr:P Tree):Nat→Tree→P Tree
 | 0,_=>fun _ _ _=>none
 | f + 1,n=>eT fun t=>if sg [46] t then bnd dA fun _=>bnd (cZ nm) fun m=>eH expr f ⟨48,m.2.2.2.1,m.2.1,0,[n]⟩
  else if sg [91] t then bnd (fM [91] [93] expr) fun x=>eH expr f ⟨49,x.1.2.2.2.1,[],0,[n,x.2]⟩
  else ret n
def mT : P Tree:=bnd (cZ nu) fun t=>ret ⟨40,t.2.2.2.1,t.2.1,t.2.2.1,[]⟩
def pG : P Tree:=bnd (cZ nm) fun t=>ret ⟨44,t.2.2.2.1,t.2.1,0,[]⟩
def vW : P Tree:=bnd (cZ nm) fun t=>ret ⟨25,t.2.2.2.1,t.2.1,0,[]⟩
def lR (f:Nat) (expr:P Tree):P Tree:=bnd pG fun n=>eT fun t =>
 if sg [40] t then bnd (eE f expr) fun l=>ret ⟨45,n.at_,n.text,n.n,l⟩ else ret n
def kT (expr:P Tree):Nat→Nat→List Tree→P (List Tree)
 | 0,_,acc=>ret acc
 | c + 1,i,acc=>if 0 < i then bnd (cZ (sg [44])) fun _=>bnd expr fun n=>kT expr c (i + 1) (acc ++ [n]) else bnd expr fun n=>kT expr c (i + 1) (acc ++ [n])
def gI (expr:P Tree) (kind count:Nat):P Tree:=bnd dA fun t=>bnd (fM [40] [41] (kT expr count 0 [])) fun x=>ret ⟨kind,t.2.2.2.1,[],0,x.2⟩
def gN (f:Nat) (expr:P Tree):P Tree:=eT fun t =>
 if nC t then bnd (gI expr 46 1) fun n=>ret ⟨n.kind,n.at_,t.2.1,n.n,n.kids⟩
 else if wd [108,101,110] t then gI expr 50 1
 else if wd [99,117,116] t then gI expr 51 3
 else if wd [98,121,116,101] t then gI expr 52 1
 else if wd [112,111,112] t then gI expr 53 1
 else lR f expr
def cB (f:Nat) (typ expr:P Tree):P Tree:=eT fun t =>
 if nu t then mT
 else if t.1 == 3 then bnd dA fun t=>ret ⟨41,t.2.2.2.1,t.2.1,0,[]⟩
 else if sg [40] t then bnd (fM [40] [41] expr) fun x=>ret x.2
 else if wd [116,114,117,101] t then bnd dA fun t=>ret ⟨42,t.2.2.2.1,[],0,[]⟩
 else if wd [102,97,108,115,101] t then bnd dA fun t=>ret ⟨43,t.2.2.2.1,[],0,[]⟩
 else if wd [110,101,119] t then bnd dA fun t=>bnd typ fun k=>bnd (eE f expr) fun l=>ret ⟨47,t.2.2.2.1,[],0,k :: l⟩
 else gN f expr
def iE (t:Tok):Nat:=if sg [45] t then 55 else if sg [126] t then 56 else if sg [33] t then 57 else 0
def kK (f:Nat) (rec typ expr:P Tree):P Tree:=eT fun t =>
 if iE t = 0 then bnd (cB f typ expr) fun n=>eH expr f n
 else bnd dA fun s=>bnd (eK s rec) fun n=>ret ⟨iE t,s.2.2.2.1,[],0,[n]⟩
def gD (typ:P Tree):P Tree:=bnd (cZ nm) fun t=>bnd typ fun k=>ret ⟨3,t.2.2.2.1,t.2.1,0,[k]⟩
def cN (stmts:P (List Tree)):P Tree:=bnd (fM [123] [125] stmts) fun x=>ret ⟨10,x.1.2.2.2.1,[],0,x.2⟩
def doP (call:Tree):Tree:=⟨13,call.at_,[],0,[call]⟩
def pB : Nat→Bool→List Tree→P (List Tree)
 | 0,_,_=>fun _ _ _=>none
 | f + 1,go,acc=>eT fun t=>if go && sg [44] t then bnd dA fun _=>bnd pG fun n=>pB f go (acc ++ [n]) else ret acc
def eV (f:Nat) (expr:P Tree):P Tree:=eT fun t =>
 if wd [112,117,115,104] t then bnd (gI expr 54 2) fun n=>ret (doP n)
 else bnd (lR f expr) fun n=>bnd (eH expr f n) fun n =>
  if n.kind == 45 then ret (doP n)
  else bnd (pB f (n.kind == 44) [n]) fun l=>bnd (cZ (sg [61])) fun t=>bnd expr fun x=>ret ⟨12,t.2.2.2.1,[],0,l ++ [x]⟩
def qG (f:Nat) (expr:P Tree):P Tree:=eT fun t =>
 if wd [118,97,114] t then bnd dA fun t=>bnd (iF f vW) fun l=>bnd (cZ (sg [61])) fun _=>bnd expr fun x=>ret ⟨11,t.2.2.2.1,[],0,l ++ [x]⟩
 else eV f expr
def nK (kind:Nat):P Tree:=bnd dA fun t=>eT fun m =>
 if nm m then bnd dA fun m=>ret ⟨kind,t.2.2.2.1,m.2.1,0,[]⟩ else ret ⟨kind,t.2.2.2.1,[],0,[]⟩
def fU (f:Nat) (expr:P Tree):P Tree:=eT fun t =>
 if wd [98,114,101,97,107] t then nK 20
 else if wd [99,111,110,116,105,110,117,101] t then nK 21
 else if wd [114,101,116,117,114,110] t then bnd dA fun t=>eT fun m=>if sg [59] m then ret ⟨22,t.2.2.2.1,[],0,[]⟩ else bnd (iF f expr) fun l=>ret ⟨22,t.2.2.2.1,[],0,l⟩
 else if wd [116,114,97,112] t then bnd dA fun t=>bnd (cZ fun c=>cn c && decide (c.2.2.1≤255)) fun c=>ret ⟨23,t.2.2.2.1,[],c.2.2.1,[]⟩
 else qG f expr
def jD (x:List Nat) (part:P Tree):P Tree:=eT fun t=>if sg x t then ret ⟨24,t.2.2.2.1,[],0,[]⟩ else part
def jV (f:Nat) (expr:P Tree) (stmts:P (List Tree)):P (List Tree) :=
 bnd (jD [59] (qG f expr)) fun a=>bnd (cZ (sg [59])) fun _=>bnd (jD [59] expr) fun b=>bnd (cZ (sg [59])) fun _ =>
 bnd (jD [123] (eV f expr)) fun c=>bnd (cN stmts) fun k=>ret [a,b,c,k]
def jF : P Tree:=eT fun t=>if sg [45] t then bnd dA fun t=>bnd mT fun n=>ret ⟨55,t.2.2.2.1,[],0,[n]⟩ else mT
def pA (stmts:P (List Tree)):P Tree:=bnd (cZ (sg [58])) fun t=>bnd stmts fun l=>ret ⟨10,t.2.2.2.1,[],0,l⟩
def oO (g:Nat) (stmts:P (List Tree)):Nat→List Tree→P (List Tree)
 | 0,_=>fun _ _ _=>none
 | f + 1,acc=>eT fun t=>if wd [99,97,115,101] t then bnd dA fun t=>bnd (iF g jF) fun l=>bnd (pA stmts) fun a=>oO g stmts f (acc ++ [⟨18,t.2.2.2.1,[],0,l ++ [a]⟩]) else ret acc
def jU (f:Nat) (expr:P Tree) (stmts:P (List Tree)):P (List Tree) :=
 bnd expr fun x=>bnd (fM [123] [125] (bnd (oO f stmts f [x]) fun l=>eT fun t =>
  if wd [100,101,102,97,117,108,116] t then bnd dA fun t=>bnd (pA stmts) fun a=>ret (l ++ [⟨19,t.2.2.2.1,[],0,[a]⟩]) else ret l)) fun y=>ret y.2
def gU (t:Tok):Bool:=wd [119,104,105,108,101] t || wd [102,111,114] t || wd [115,119,105,116,99,104] t
def iD (f:Nat) (label:List Nat) (expr:P Tree) (stmts:P (List Tree)):P Tree:=bnd (cZ gU) fun t =>
 if t.2.1 == [119,104,105,108,101] then bnd expr fun x=>bnd (cN stmts) fun k=>ret ⟨15,t.2.2.2.1,label,0,[x,k]⟩
 else if t.2.1 == [102,111,114] then bnd (jV f expr stmts) fun l=>ret ⟨16,t.2.2.2.1,label,0,l⟩
 else if t.2.1 == [115,119,105,116,99,104] then bnd (jU f expr stmts) fun l=>ret ⟨17,t.2.2.2.1,label,0,l⟩
 else ret ⟨0,t.2.2.2.1,label,0,[]⟩
def lG (rec expr:P Tree) (stmts:P (List Tree)):P Tree:=bnd dA fun t=>bnd expr fun x=>bnd (cN stmts) fun k=>eT fun e =>
 if wd [101,108,115,101] e then bnd dA fun o=>eT fun i =>
  if wd [105,102] i then bnd (eK o rec) fun n=>ret ⟨14,t.2.2.2.1,[],0,[x,k,n]⟩
  else bnd (cN stmts) fun n=>ret ⟨14,t.2.2.2.1,[],0,[x,k,n]⟩
 else ret ⟨14,t.2.2.2.1,[],0,[x,k]⟩
def jH (E:Nat) (s:St):Bool:=nm (nxt E s) && sg [58] (bE E s 1)
def iM (f:Nat) (branch expr:P Tree) (stmts:P (List Tree)):P Tree:=fun E d s =>
 if sg [123] (nxt E s) then cN stmts E d s
 else if wd [105,102] (nxt E s) then branch E d s
 else if gU (nxt E s) then iD f [] expr stmts E d s
 else if jH E s then (bnd dA fun l=>bnd dA fun _=>iD f l.2.1 expr stmts) E d s
 else (bnd (fU f expr) fun n=>bnd (cZ (sg [59])) fun _=>ret n) E d s
def fZ (stmt:P Tree):Nat→List Tree→P (List Tree)
 | 0,_=>fun _ _ _=>none
 | f + 1,acc=>fun E d s=>if s.wrong = 0∧sg [125] (nxt E s) = false∧(wd [99,97,115,101] (nxt E s) || wd [100,101,102,97,117,108,116] (nxt E s)) = false
     then (bnd stmt fun n=>fZ stmt f (acc ++ [n])) E d s else some (acc,s)
def jT (typ:P Tree):Nat→List Tree→P (List Tree)
 | 0,_=>fun _ _ _=>none
 | f + 1,acc=>eT fun t=>if nm t then bnd (gD typ) fun n=>bnd (cZ (sg [59])) fun _=>jT typ f (acc ++ [n]) else ret acc
def jS (f:Nat) (typ:P Tree):P Tree:=bnd dA fun _=>bnd (cZ nm) fun t=>bnd (fM [123] [125] (jT typ f [])) fun x=>ret ⟨2,t.2.2.2.1,t.2.1,0,x.2⟩
def fH (f:Nat) (typ:P Tree):P Tree:=eT fun t =>
 if sg [123] t then ret ⟨6,t.2.2.2.1,[],0,[]⟩
 else if sg [40] t then bnd (fM [40] [41] (iF f typ)) fun x=>ret ⟨6,t.2.2.2.1,[],0,x.2⟩
 else bnd typ fun n=>ret ⟨6,t.2.2.2.1,[],0,[n]⟩
def gB (f:Nat) (typ:P Tree) (stmts:P (List Tree)):P Tree:=bnd dA fun _=>bnd (cZ nm) fun t=>eT fun p =>
 bnd (eE f (gD typ)) fun l=>bnd (fH f typ) fun r=>bnd (cN stmts) fun k=>ret ⟨4,t.2.2.2.1,t.2.1,0,[⟨5,p.2.2.2.1,[],0,l⟩,r,k]⟩
def dD (g:Nat) (typ:P Tree) (stmts:P (List Tree)):Nat→List Tree→P Tree
 | 0,_=>fun _ _ _=>none
 | f + 1,acc=>eT fun t=>if wd [114,101,99,111,114,100] t then bnd (jS g typ) fun n=>dD g typ stmts f (acc ++ [n])
  else if wd [102,110] t then bnd (gB g typ stmts) fun n=>dD g typ stmts f (acc ++ [n]) else ret ⟨1,0,[],0,acc⟩
structure Rec where
 typ:P Tree
 unary:P Tree
 expr:P Tree
 stmts:P (List Tree)
 branch:P Tree
def R : Nat→Rec
 | 0=>⟨fun _ _ _=>none,fun _ _ _=>none,fun _ _ _=>none,fun _ _ _=>none,fun _ _ _=>none⟩
 | f + 1=>⟨lO (R f).typ,kK f (R f).unary (R f).typ (R f).expr,lQ (R f).unary f 5,fZ (iM f (R f).branch (R f).expr (R f).stmts) f [],lG (R f).branch (R f).expr (R f).stmts⟩
def kS (f:Nat):P Tree:=dD f (R f).typ (R f).stmts f []
def nG (m:P Tree) (E:Nat) (ts:List Tok):Option (Except (Nat × Nat) Tree):=match m E 0 ⟨ts,0,0⟩ with
 | none=>none
 | some (n,s)=>some (
  let s1:=if s.rest.isEmpty then s else bD E s
  if s1.wrong = 0 then .ok n else .error (s1.place,s1.wrong))
def tY (k:Int):Bool:=k == 7 || k == 8 || k == 9
def uJ (k:Int):Bool:=k == 10 || k == 11 || k == 12 || k == 13 || k == 14 || k == 15 || k == 16 || k == 17 || k == 20 || k == 21 || k == 22 || k == 23
def qD (k:Int):Bool:=(decide (40≤k) && decide (k≤57) && k != 54) || (decide (60≤k) && decide (k≤77))
def xN (k:Int):Int × Int :=
 if k == 1 || k == 2 || k == 5 || k == 6 || k == 10 || k == 22 || k == 45 then (0,9223372036854775807)
 else if k == 17 || k == 47 then (1,9223372036854775807)
 else if k == 11 || k == 12 || k == 18 then (2,9223372036854775807)
 else if k == 20 || k == 21 || k == 23 || k == 24 || k == 25 || k == 7 || k == 40 || k == 41 || k == 42 || k == 43 || k == 44 then (0,0)
 else if k == 3 || k == 8 || k == 9 || k == 13 || k == 19 || k == 46 || k == 48 || k == 50 || k == 52 || k == 53 || k == 55 || k == 56 || k == 57 then (1,1)
 else if k == 14 then (2,3)
 else if k == 4 || k == 51 then (3,3)
 else if k == 16 then (4,4)
 else (2,2)
def iP0 (k:Int):Bool:=k == 12 || k == 13 || k == 24
def uB (k:Int):Bool:=k == 44 || k == 48 || k == 49
def cD (r k:Int):Bool :=
 if r == 0 then k == 1 || tY k || uJ k || qD k
 else if r == 1 then k == 2 || k == 4
 else if r == 2 then k == 3
 else if r == 3 then k == 5
 else if r == 4 then k == 6
 else if r == 5 then tY k
 else if r == 6 then k == 10
 else if r == 7 then uJ k
 else if r == 8 then k == 10 || k == 14
 else if r == 9 then k == 11 || iP0 k
 else if r == 10 then k == 24 || qD k
 else if r == 11 then iP0 k
 else if r == 12 then k == 18
 else if r == 13 then k == 18 || k == 19
 else if r == 14 then k == 40 || k == 55
 else if r == 15 then k == 40
 else if r == 16 then k == 25
 else if r == 17 then uB k
 else if r == 18 then k == 45 || uB k
 else if r == 19 then k == 44
 else if r == 20 then k == 45 || k == 54
 else qD k
def nS (x:List Nat):Bool:=x == [105,56] || x == [105,51,50] || x == [105,54,52]
def hF0 (k:Int) (x:List Nat):Bool :=
 if k == 2 || k == 3 || k == 4 || k == 25 || k == 44 || k == 45 || k == 48 then jZ x
 else if k == 15 || k == 16 || k == 17 || k == 20 || k == 21 then x == [] || jZ x
 else if k == 7 then nS x || x == [98,111,111,108] || x == [98,121,116,101,115] || jZ x
 else if k == 46 then nS x
 else if k == 40 then x == [] || nS x
 else if k == 41 then true
 else x == []
def yG0 (k:Int) (x:List Nat) (n:Int):Bool :=
 if k == 8 then true
 else if k == 23 then decide (n≤255)
 else if k == 40 then (x == [105,56] && decide (n≤255)) || (x == [105,51,50] && decide (n≤4294967295)) || x == [105,54,52] || x == []
 else n == 0
def vD (r k:Int) (x:List Nat) (n:Int) (m:Int):Bool:=cD r k && decide ((xN k).1≤m) && decide (m≤(xN k).2) && hF0 k x && yG0 k x n
def kO (i:Int) (l:List Int):Int:=l.getD (min i ((l.length:Int) - 1)).toNat 0
def eF (b:Bool) (x y:Int):Int:=if b then x else y
def cM (r k m i:Int):Int :=
 let last:=i == m - 1
 if k == 1 then 1
 else if k == 2 || k == 5 then 2
 else if k == 3 || k == 6 || k == 8 || k == 9 then 5
 else if k == 4 then kO i [3,4,6]
 else if k == 10 then 7
 else if k == 11 then eF last 21 16
 else if k == 12 then eF last 21 (eF (m == 2) 17 19)
 else if k == 13 then 20
 else if k == 14 then kO i [21,6,8]
 else if k == 15 then kO i [21,6]
 else if k == 16 then kO i [9,10,11,6]
 else if k == 17 then kO i [21,eF last 13 12]
 else if k == 18 then eF last 6 14
 else if k == 19 then 6
 else if k == 47 then kO i [5,21]
 else if k == 48 || k == 49 then kO i [eF (r == 17 || r == 18) 18 21,21]
 else if k == 55 then eF (r == 14) 15 21
 else 21
def kP (r:Int):Tree→Bool
 | ⟨k,a,x,n,ks⟩=>vD r k x n ks.length && validL r k ks.length 0 ks
 where validL (r:Int) (k m i:Nat):List Tree→Bool
 | []=>true
 | t :: ts=>kP (cM r k m i) t && validL r k m (i + 1) ts
def fD : Tree→Nat
 | ⟨k,a,x,n,ks⟩=>1 + cntL ks
 where cntL:List Tree→Nat
 | []=>0
 | t :: ts=>fD t + cntL ts
def qN (t:Tree):Nat:=if 65536 < fD t then 3 else if kP 0 t then 0 else 50
end Go.Proofs.YtnipenijihkgdaaGreatDoor
