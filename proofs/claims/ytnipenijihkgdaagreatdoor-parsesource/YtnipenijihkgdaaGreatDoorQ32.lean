import Derived.Test.YtnipenijihkgdaaGreatDoorJCkCheck
import Derived.Test.YtnipenijihkgdaaGreatDoorQ20
import Derived.Test.YtnipenijihkgdaaGreatDoorNd
import Derived.Test.YtnipenijihkgdaaGreatDoorQ31
import Derived.Test.YtnipenijihkgdaaGreatDoorPPart9
import Derived.Test.YtnipenijihkgdaaGreatDoorJPart11
import Derived.Test.YtnipenijihkgdaaGreatDoorJStmt9
import Derived.Test.YtnipenijihkgdaaGreatDoorQ18
set_option maxHeartbeats 4000000
set_option maxRecDepth 100000
namespace Go.Proofs.YtnipenijihkgdaaGreatDoor
open Go.RowKit
set_option linter.unusedVariables false
def Gs {A:Type} (m:P A) (Q:A→Prop):Prop:=∀ E d s a s',(∀ t ∈ s.rest,dN t)→m E d s = some (a,s')→Q a∧∀ t ∈ s'.rest,dN t
def gL (c:Nat) (ks:List Tree):Prop:=aO.goodTL ks∧ks.length≤c
theorem Gs.imp {A:Type} {m:P A} {Q U:A→Prop} (h:Gs m Q) (hq:∀ a,Q a→U a):Gs m U:=fun E d s a s' h1 h2=>⟨hq a (h E d s a s' h1 h2).1,(h E d s a s' h1 h2).2⟩
theorem bQ {A:Type} {a:A} {Q:A→Prop} (h:Q a):Gs (ret a) Q:=by
 rintro E d s _ _ h1 ⟨⟩
 exact ⟨h,h1⟩
theorem jB {A:Type} {Q:A→Prop}:Gs (fun _ _ _=>none:P A) Q:=by rintro E d s _ _ h1 ⟨⟩
theorem aU {A C:Type} {m:P A} {f:A→P C} {Q:A→Prop} {U:C→Prop} (h:Gs m Q) (h2:∀ a,Q a→Gs (f a) U):Gs (bnd m f) U:=by
 intro E d s c s' hs e
 unfold bnd at e
 match hm:m E d s,e with
 | some (a,s1),e =>
  obtain ⟨q1,q2⟩:=h E d s a s1 hs hm
  exact h2 a q1 E d s1 c s' q2 e
theorem nM0 (E:Nat):dN (0,[],0,E,0):=⟨by simp,by simp⟩
theorem qU {E:Nat} {s:St} (hs:∀ t ∈ s.rest,dN t) (i:Nat):dN (bE E s i):=by
 unfold bE
 rw [List.getD_eq_getElem?_getD]
 cases h:s.rest[i]? with
 | none=>exact nM0 E
 | some t=>exact hs t (List.mem_of_getElem? h)
theorem cI0 {s:St} (hs:∀ t ∈ s.rest,dN t):∀ t ∈ (aS s).rest,dN t:=fun t ht=>hs t (List.mem_of_mem_tail ht)
theorem sP {p e:Nat} {s:St} (hs:∀ t ∈ s.rest,dN t):∀ t ∈ (eO p e s).rest,dN t:=by
 unfold eO
 split
 · intro t ht; cases ht
 exact hs
theorem dI {A:Type} {f:Tok→P A} {Q:A→Prop} (h:∀ t,dN t→Gs (f t) Q):Gs (eT f) Q:=fun E d s a s' hs e=>h _ (qU hs 0) E d s a s' hs e
theorem dJ : Gs dA dN:=by
 rintro E d s _ _ hs ⟨⟩
 exact ⟨qU hs 0,cI0 hs⟩
theorem eX {q:Tok→Bool}:Gs (cZ q) dN:=by
 intro E d s a s' hs e
 unfold cZ eT eQ at e
 simp only [] at e
 split at e
 · cases e; exact ⟨qU hs 0,cI0 hs⟩
 cases e; exact ⟨⟨by simp [noT],by simp [noT]⟩,sP hs⟩
theorem cP {k:Nat} {a:Int} {x:List Nat} {n:Nat} {ks:List Tree} (hx:qI x) (hl:ks.length≤1000000) (hk:aO.goodTL ks):aO ⟨k,a,x,n,ks⟩:=by rw [aO]; exact ⟨hx,hl,hk⟩
theorem bT : qI []:=⟨by simp,by simp⟩
theorem tl0 : aO.goodTL []:=by rw [aO.goodTL]; trivial
theorem tl1 {t:Tree} {ts:List Tree} (h:aO t) (h2:aO.goodTL ts):aO.goodTL (t :: ts):=by rw [aO.goodTL]; exact ⟨h,h2⟩
theorem tla : ∀ {a b:List Tree},aO.goodTL a→aO.goodTL b→aO.goodTL (a ++ b):=by
 intro a
 induction a with
 | nil=>intro b _ h; exact h
 | cons t ts ih=>intro b h h2; rw [aO.goodTL] at h; exact tl1 h.1 (ih h.2 h2)
theorem dY {k:Nat} {a:Int} {x:List Nat} {n:Nat} (hx:qI x):aO ⟨k,a,x,n,[]⟩:=cP hx (by simp) tl0
theorem yZ0 : Gs pJ0 aO:=by
 rintro E d s _ _ hs ⟨⟩
 exact ⟨dY bT,sP hs⟩
theorem uC {A:Type} {t:Tok} {m:P A} {Q:A→Prop} (h:Gs m Q):Gs (eK t m) Q:=by
 intro E d s a s' hs e
 refine h E (d + 1) (eL d t s) a s' ?_ e
 unfold eL
 split
 · exact sP hs
 exact hs
theorem jC {A:Type} {x y:List Nat} {m:P A} {Q:A→Prop} (h:Gs m Q):Gs (fM x y m) (fun p=>dN p.1∧Q p.2) :=
 aU eX fun t ht=>aU (uC h) fun a ha=>aU eX fun _ _=>bQ ⟨ht,ha⟩
theorem cE {A:Type} {c:Prop} [Decidable c] {a b:P A} {Q:A→Prop} (h1:Gs a Q) (h2:Gs b Q):Gs (if c then a else b) Q:=by split <;> assumption
theorem zX (t:Tree) (h:aO t):qI t.text∧t.kids.length≤1000000∧aO.goodTL t.kids:=(nX t).1 h
theorem xQ0 {part:P Tree} (hp:Gs part aO):∀ (f:Nat) (acc:List Tree),aO.goodTL acc→Gs (gJ part f acc) (gL (acc.length + f)):=by
 intro f
 induction f with
 | zero=>intro acc hacc; exact jB
 | succ f ih=>?_
 intro acc hacc
 unfold gJ
 exact dI fun t _=>cE (aU dJ fun _ _=>aU hp fun n hn=>(ih (acc ++ [n]) (tla hacc (tl1 hn tl0))).imp fun l hl=>⟨hl.1,by have:=hl.2; simp at this; omega⟩) (bQ ⟨hacc,by omega⟩)
theorem rC {part:P Tree} (hp:Gs part aO) (f:Nat):Gs (iF f part) (gL (f + 1)):=by
 unfold iF
 exact aU hp fun n hn=>(xQ0 hp f [n] (tl1 hn tl0)).imp fun l hl=>⟨hl.1,by have:=hl.2; simp at this; omega⟩
theorem rV {part:P Tree} (hp:Gs part aO) (f:Nat):Gs (eE f part) (gL (f + 1)):=by
 unfold eE
 exact aU (jC (dI fun t _=>cE (bQ ⟨tl0,by simp⟩) (rC hp f))) fun x hx=>bQ hx.2
theorem vK0 {rec:P Tree} (hp:Gs rec aO):Gs (lO rec) aO:=by
 unfold lO
 refine dI fun t _=>cE (aU dJ fun t ht=>bQ (dY ht)) (cE ?_ yZ0)
 exact aU (jC (Q:=fun _=>True) (dI fun c _=>cE (aU dJ fun _ _=>bQ trivial) (bQ trivial))) fun x _=>aU (uC hp) fun k hk=>bQ (cP bT (by simp) (tl1 hk tl0))
theorem vC0 {k:Nat} {next:P Tree} (hp:Gs next aO):∀ (f:Nat) (n:Tree),aO n→Gs (mB k next f n) aO:=by
 intro f
 induction f with
 | zero=>intro n hn; exact jB
 | succ f ih=>?_
 intro n hn
 unfold mB
 refine dI fun t _=>cE (bQ hn) (aU dJ fun t _=>aU hp fun m hm=>?_)
 exact cE (bQ (cP bT (by simp) (tl1 hn (tl1 hm tl0)))) (ih _ (cP bT (by simp) (tl1 hn (tl1 hm tl0))))
theorem vQ0 {unary:P Tree} (hp:Gs unary aO) (f:Nat):∀ j:Nat,Gs (lQ unary f j) aO:=by
 intro j
 induction j with
 | zero=>exact hp
 | succ j ih=>unfold lQ; exact aU ih fun n hn=>vC0 ih f n hn
theorem dI0 {expr:P Tree} (he:Gs expr aO):∀ (f:Nat) (n:Tree),aO n→Gs (eH expr f n) aO:=by
 intro f
 induction f with
 | zero=>intro n hn; exact jB
 | succ f ih=>?_
 intro n hn
 unfold eH
 refine dI fun t _=>cE (aU dJ fun _ _=>aU eX fun m hm=>ih _ (cP hm (by simp) (tl1 hn tl0))) (cE ?_ (bQ hn))
 exact aU (jC he) fun x hx=>ih _ (cP bT (by simp) (tl1 hn (tl1 hx.2 tl0)))
theorem zQ  : Gs mT aO:=by
 unfold mT
 exact aU eX fun t ht=>bQ (dY ht)
theorem rV0  : Gs pG aO:=by
 unfold pG
 exact aU eX fun t ht=>bQ (dY ht)
theorem aW1  : Gs vW aO:=by
 unfold vW
 exact aU eX fun t ht=>bQ (dY ht)
theorem tL0 {expr:P Tree} (he:Gs expr aO) (f:Nat) (hf:f≤300000):Gs (lR f expr) aO:=by
 unfold lR
 refine aU rV0 fun n hn=>dI fun t _=>cE (aU (rV he f) fun l hl=>bQ (cP (zX n hn).1 (by have:=hl.2; omega) hl.1)) (bQ hn)
theorem vY0 {expr:P Tree} (he:Gs expr aO):∀ (k i:Nat) (acc:List Tree),aO.goodTL acc→Gs (kT expr k i acc) (gL (acc.length + k)):=by
 intro k
 induction k with
 | zero=>intro i acc h; exact bQ ⟨h,by omega⟩
 | succ k ih=>?_
 intro i acc h
 unfold kT
 have key:∀ n,aO n→Gs (kT expr k (i + 1) (acc ++ [n])) (gL (acc.length + (k + 1))):=fun n hn=>(ih (i + 1) (acc ++ [n]) (tla h (tl1 hn tl0))).imp fun l hl=>⟨hl.1,by have:=hl.2; simp at this; omega⟩
 exact cE (aU eX fun _ _=>aU he key) (aU he key)
theorem rY {expr:P Tree} (he:Gs expr aO) (k n:Nat) (hn:n≤300000):Gs (gI expr k n) aO:=by
 unfold gI
 exact aU dJ fun t _=>aU (jC (vY0 he n 0 [] tl0)) fun x hx=>bQ (cP bT (by have:=hx.2.2; simp at this; omega) hx.2.1)
theorem xS0 {expr:P Tree} (he:Gs expr aO) (f:Nat) (hf:f≤300000):Gs (gN f expr) aO:=by
 unfold gN
 refine dI fun t ht=>cE (aU (rY he 46 1 (by omega)) fun n hn=>bQ (cP ht (zX n hn).2.1 (zX n hn).2.2)) ?_
 exact cE (rY he _ _ (by omega)) (cE (rY he _ _ (by omega)) (cE (rY he _ _ (by omega)) (cE (rY he _ _ (by omega)) (tL0 he f hf))))
theorem kA0 {typ expr:P Tree} (ht:Gs typ aO) (he:Gs expr aO) (f:Nat) (hf:f≤300000):Gs (cB f typ expr) aO:=by
 unfold cB
 refine dI fun t _=>cE zQ (cE (aU dJ fun t ht=>bQ (dY ht)) (cE (aU (jC he) fun x hx=>bQ hx.2) ?_))
 refine cE (aU dJ fun t _=>bQ (dY bT)) (cE (aU dJ fun t _=>bQ (dY bT)) (cE ?_ (xS0 he f hf)))
 exact aU dJ fun t _=>aU ht fun k hk=>aU (rV he f) fun l hl=>bQ (cP bT (by have:=hl.2; simp; omega) (tl1 hk hl.1))
theorem vE0 {rec typ expr:P Tree} (hr:Gs rec aO) (ht:Gs typ aO) (he:Gs expr aO) (f:Nat) (hf:f≤300000):Gs (kK f rec typ expr) aO:=by
 unfold kK
 refine dI fun t _=>cE (aU (kA0 ht he f hf) fun n hn=>dI0 he f n hn) ?_
 exact aU dJ fun s _=>aU (uC hr) fun n hn=>bQ (cP bT (by simp) (tl1 hn tl0))
theorem hR0 {typ:P Tree} (ht:Gs typ aO):Gs (gD typ) aO:=by
 unfold gD
 exact aU eX fun t hx=>aU ht fun k hk=>bQ (cP hx (by simp) (tl1 hk tl0))
theorem pT {stmts:P (List Tree)} (hs:Gs stmts (gL 300000)):Gs (cN stmts) aO:=by
 unfold cN
 exact aU (jC hs) fun x hx=>bQ (cP bT (by have:=hx.2.2; omega) hx.2.1)
theorem g_do {n:Tree} (h:aO n):aO (doP n):=by
 unfold doP
 exact cP bT (by simp) (tl1 h tl0)
theorem yQ0  : ∀ (f:Nat) (go:Bool) (acc:List Tree),aO.goodTL acc→Gs (pB f go acc) (gL (acc.length + f)):=by
 intro f
 induction f with
 | zero=>intro go acc hacc; exact jB
 | succ f ih=>?_
 intro go acc hacc
 unfold pB
 exact dI fun t _=>cE (aU dJ fun _ _=>aU rV0 fun n hn=>(ih go (acc ++ [n]) (tla hacc (tl1 hn tl0))).imp fun l hl=>⟨hl.1,by have:=hl.2; simp at this; omega⟩) (bQ ⟨hacc,by omega⟩)
theorem cF0 {expr:P Tree} (he:Gs expr aO) (f:Nat) (hf:f≤300000):Gs (eV f expr) aO:=by
 unfold eV
 refine dI fun t _=>cE (aU (rY he 54 2 (by omega)) fun n hn=>bQ (g_do hn)) ?_
 refine aU (tL0 he f hf) fun n hn=>aU (dI0 he f n hn) fun n hn=>cE (bQ (g_do hn)) ?_
 exact aU (yQ0 f _ [n] (tl1 hn tl0)) fun l hl=>aU eX fun t _=>aU he fun x hx=>bQ (cP bT (by have:=hl.2; simp at this ⊢; omega) (tla hl.1 (tl1 hx tl0)))
theorem yJ0 {expr:P Tree} (he:Gs expr aO) (f:Nat) (hf:f≤300000):Gs (qG f expr) aO:=by
 unfold qG
 refine dI fun t _=>cE ?_ (cF0 he f hf)
 exact aU dJ fun t _=>aU (rC aW1 f) fun l hl=>aU eX fun _ _=>aU he fun x hx=>bQ (cP bT (by have:=hl.2; simp; omega) (tla hl.1 (tl1 hx tl0)))
theorem tT0 (k:Nat):Gs (nK k) aO:=by
 unfold nK
 exact aU dJ fun t _=>dI fun m _=>cE (aU dJ fun m hm=>bQ (dY hm)) (bQ (dY bT))
theorem wP0 {expr:P Tree} (he:Gs expr aO) (f:Nat) (hf:f≤300000):Gs (fU f expr) aO:=by
 unfold fU
 refine dI fun t _=>cE (tT0 _) (cE (tT0 _) (cE ?_ (cE ?_ (yJ0 he f hf))))
 · exact aU dJ fun t _=>dI fun m _=>cE (bQ (dY bT)) (aU (rC he f) fun l hl=>bQ (cP bT (by have:=hl.2; omega) hl.1))
 exact aU dJ fun t _=>aU eX fun c _=>bQ (dY bT)
theorem wH {x:List Nat} {part:P Tree} (hp:Gs part aO):Gs (jD x part) aO:=by
 unfold jD
 exact dI fun t _=>cE (bQ (dY bT)) hp
theorem pV0 {expr:P Tree} (he:Gs expr aO) {stmts:P (List Tree)} (hs:Gs stmts (gL 300000)) (f:Nat) (hf:f≤300000):Gs (jV f expr stmts) (gL 300000):=by
 unfold jV
 exact aU (wH (yJ0 he f hf)) fun a ha=>aU eX fun _ _=>aU (wH he) fun b hb=>aU eX fun _ _=>aU (wH (cF0 he f hf)) fun c hc=>aU (pT hs) fun k hk=>bQ ⟨tl1 ha (tl1 hb (tl1 hc (tl1 hk tl0))),by simp⟩
theorem vP0  : Gs jF aO:=by
 unfold jF
 exact dI fun t _=>cE (aU dJ fun t _=>aU zQ fun n hn=>bQ (cP bT (by simp) (tl1 hn tl0))) zQ
theorem yN0 {stmts:P (List Tree)} (hs:Gs stmts (gL 300000)):Gs (pA stmts) aO:=by
 unfold pA
 exact aU eX fun t _=>aU hs fun l hl=>bQ (cP bT (by have:=hl.2; omega) hl.1)
theorem wT0 {stmts:P (List Tree)} (hs:Gs stmts (gL 300000)) {g:Nat} (hg:g≤300000):∀ (f:Nat) (acc:List Tree),aO.goodTL acc→Gs (oO g stmts f acc) (gL (acc.length + f)):=by
 intro f
 induction f with
 | zero=>intro acc hacc; exact jB
 | succ f ih=>?_
 intro acc hacc
 unfold oO
 refine dI fun t _=>cE (aU dJ fun t _=>aU (rC vP0 g) fun l hl=>aU (yN0 hs) fun a ha=>?_) (bQ ⟨hacc,by omega⟩)
 exact (ih _ (tla hacc (tl1 (cP bT (by have:=hl.2; simp; omega) (tla hl.1 (tl1 ha tl0))) tl0))).imp fun l hl=>⟨hl.1,by have:=hl.2; simp at this; omega⟩
theorem nH0 {expr:P Tree} (he:Gs expr aO) {stmts:P (List Tree)} (hs:Gs stmts (gL 300000)) (f:Nat) (hf:f≤300000):Gs (jU f expr stmts) (gL 300002):=by
 unfold jU
 refine aU he fun x hx=>aU (jC (Q:=gL 300002) (aU (wT0 hs hf f [x] (tl1 hx tl0)) fun l hl=>dI fun t _=>cE ?_ (bQ ⟨hl.1,by have:=hl.2; simp at this; omega⟩))) fun y hy=>bQ hy.2
 exact aU dJ fun t _=>aU (yN0 hs) fun a ha=>bQ ⟨tla hl.1 (tl1 (cP bT (by simp) (tl1 ha tl0)) tl0),by have:=hl.2; simp at this ⊢; omega⟩
theorem uB0 {expr:P Tree} (he:Gs expr aO) {stmts:P (List Tree)} (hs:Gs stmts (gL 300000)) (f:Nat) (hf:f≤300000) (lb:List Nat) (hlb:qI lb):Gs (iD f lb expr stmts) aO:=by
 unfold iD
 refine aU eX fun t _=>cE ?_ (cE ?_ (cE ?_ (bQ (dY hlb))))
 · exact aU he fun x hx=>aU (pT hs) fun k hk=>bQ (cP hlb (by simp) (tl1 hx (tl1 hk tl0)))
 · exact aU (pV0 he hs f hf) fun l hl=>bQ (cP hlb (by have:=hl.2; omega) hl.1)
 exact aU (nH0 he hs f hf) fun l hl=>bQ (cP hlb (by have:=hl.2; omega) hl.1)
theorem rS0 {rec expr:P Tree} (hr:Gs rec aO) (he:Gs expr aO) {stmts:P (List Tree)} (hs:Gs stmts (gL 300000)):Gs (lG rec expr stmts) aO:=by
 unfold lG
 refine aU dJ fun t _=>aU he fun x hx=>aU (pT hs) fun k hk=>dI fun e _=>cE ?_ (bQ (cP bT (by simp) (tl1 hx (tl1 hk tl0))))
 refine aU dJ fun o _=>dI fun i _=>cE ?_ ?_
 · exact aU (uC hr) fun n hn=>bQ (cP bT (by simp) (tl1 hx (tl1 hk (tl1 hn tl0))))
 exact aU (pT hs) fun n hn=>bQ (cP bT (by simp) (tl1 hx (tl1 hk (tl1 hn tl0))))
theorem cA0 {A:Type} {c:Nat→St→Prop} [hdc:∀ E s,Decidable (c E s)] {a b:P A} {Q:A→Prop} (h1:Gs a Q) (h2:Gs b Q):Gs (fun E d s=>if c E s then a E d s else b E d s) Q:=by
 intro E d s x s' hs e
 simp only [] at e
 split at e
 · exact h1 E d s x s' hs e
 exact h2 E d s x s' hs e
theorem zG0 {branch expr:P Tree} (hb:Gs branch aO) (he:Gs expr aO) {stmts:P (List Tree)} (hs:Gs stmts (gL 300000)) (f:Nat) (hf:f≤300000):Gs (iM f branch expr stmts) aO:=by
 unfold iM
 refine cA0 (c:=fun E s=>sg [123] (nxt E s) = true) (pT hs) (cA0 (c:=fun E s=>wd [105,102] (nxt E s) = true) hb (cA0 (c:=fun E s=>gU (nxt E s) = true) (uB0 he hs f hf [] bT) (cA0 (c:=fun E s=>jH E s = true) ?_ ?_)))
 · exact aU dJ fun l hl=>aU dJ fun _ _=>uB0 he hs f hf _ hl
 exact aU (wP0 he f hf) fun n hn=>aU eX fun _ _=>bQ hn
theorem oF0 {stmt:P Tree} (hp:Gs stmt aO):∀ (f:Nat) (acc:List Tree),aO.goodTL acc→Gs (fZ stmt f acc) (gL (acc.length + f)):=by
 intro f
 induction f with
 | zero=>intro acc hacc; exact jB
 | succ f ih=>?_
 intro acc hacc
 unfold fZ
 exact cA0 (c:=fun E s=>s.wrong = 0∧sg [125] (nxt E s) = false∧(wd [99,97,115,101] (nxt E s) || wd [100,101,102,97,117,108,116] (nxt E s)) = false) (a:=bnd stmt fun n=>fZ stmt f (acc ++ [n])) (b:=ret acc) (aU hp fun n hn=>(ih (acc ++ [n]) (tla hacc (tl1 hn tl0))).imp fun l hl=>⟨hl.1,by have:=hl.2; simp at this; omega⟩) (bQ ⟨hacc,by omega⟩)
theorem jX0 {typ:P Tree} (ht:Gs typ aO):∀ (f:Nat) (acc:List Tree),aO.goodTL acc→Gs (jT typ f acc) (gL (acc.length + f)):=by
 intro f
 induction f with
 | zero=>intro acc hacc; exact jB
 | succ f ih=>?_
 intro acc hacc
 unfold jT
 exact dI fun t _=>cE (aU (hR0 ht) fun n hn=>aU eX fun _ _=>(ih (acc ++ [n]) (tla hacc (tl1 hn tl0))).imp fun l hl=>⟨hl.1,by have:=hl.2; simp at this; omega⟩) (bQ ⟨hacc,by omega⟩)
theorem sD0 {typ:P Tree} (ht:Gs typ aO) (f:Nat) (hf:f≤300000):Gs (jS f typ) aO:=by
 unfold jS
 exact aU dJ fun _ _=>aU eX fun t hx=>aU (jC (jX0 ht f [] tl0)) fun x hl=>bQ (cP hx (by have:=hl.2.2; simp at this; omega) hl.2.1)
theorem lL0 {typ:P Tree} (ht:Gs typ aO) (f:Nat) (hf:f≤300000):Gs (fH f typ) aO:=by
 unfold fH
 refine dI fun t _=>cE (bQ (dY bT)) (cE ?_ ?_)
 · exact aU (jC (rC ht f)) fun x hl=>bQ (cP bT (by have:=hl.2.2; omega) hl.2.1)
 exact aU ht fun n hn=>bQ (cP bT (by simp) (tl1 hn tl0))
theorem fT0 {typ:P Tree} (ht:Gs typ aO) {stmts:P (List Tree)} (hs:Gs stmts (gL 300000)) (f:Nat) (hf:f≤300000):Gs (gB f typ stmts) aO:=by
 unfold gB
 exact aU dJ fun _ _=>aU eX fun t hx=>dI fun p _=>aU (rV (hR0 ht) f) fun l hl=>aU (lL0 ht f hf) fun r hr=>aU (pT hs) fun k hk=>bQ (cP hx (by simp) (tl1 (cP bT (by have:=hl.2; omega) hl.1) (tl1 hr (tl1 hk tl0))))
theorem eO0 {typ:P Tree} (ht:Gs typ aO) {stmts:P (List Tree)} (hs:Gs stmts (gL 300000)) {g:Nat} (hg:g≤300000):∀ (f:Nat) (acc:List Tree),aO.goodTL acc→acc.length + f≤300000→Gs (dD g typ stmts f acc) aO:=by
 intro f
 induction f with
 | zero=>intro acc h hl; exact jB
 | succ f ih=>?_
 intro acc h hl
 unfold dD
 have key:∀ n,aO n→Gs (dD g typ stmts f (acc ++ [n])) aO:=fun n hn=>ih (acc ++ [n]) (tla h (tl1 hn tl0)) (by simp; omega)
 exact dI fun t _=>cE (aU (sD0 ht g hg) key) (cE (aU (fT0 ht hs g hg) key) (bQ (cP bT (by omega) h)))
theorem gN0  : ∀ f:Nat,f≤300000→Gs (R f).typ aO∧Gs (R f).unary aO∧Gs (R f).expr aO∧Gs (R f).branch aO∧Gs (R f).stmts (gL 300000):=by
 intro f
 induction f with
 | zero=>intro _; exact ⟨jB,jB,jB,jB,jB⟩
 | succ f ih=>?_
 intro hf
 obtain ⟨ht,hu,he,hb,hs⟩:=ih (by omega)
 have hf':f≤300000:=by omega
 exact ⟨vK0 ht,vE0 hu ht he f hf',vQ0 hu f 5,rS0 hb he hs,(oF0 (zG0 hb he hs f hf') f [] tl0).imp fun l hl=>⟨hl.1,by have:=hl.2; simp at this; omega⟩⟩
theorem zZ  : Gs (kS 300000) aO:=by
 obtain ⟨ht,hu,he,hb,hs⟩:=gN0 300000 (Nat.le_refl _)
 unfold kS
 exact eO0 ht hs (Nat.le_refl _) 300000 [] tl0 (by simp)
theorem lB0 {m:P Tree} (hm:Gs m aO) {l:List Nat} (hl:∀ c ∈ l,c < 256) {t:Tree} (h:dX m l = some (.ok t)):aO t:=by
 unfold dX at h
 cases ht:gC l with
 | error e=>rw [ht] at h; cases h
 | ok ts=>?_
 rw [ht] at h
 have h:nG m l.length ts = some (.ok t):=h
 unfold nG at h
 match hq:m l.length 0 ⟨ts,0,0⟩,h with
 | some (n,s),h =>
  have hg:=(hm _ _ _ _ _ (fun u hu=>(iO l ts ht hl).2 u hu) hq).1
  have h:=Option.some.inj h
  simp only [] at h
  generalize (if s.rest.isEmpty = true then s else bD l.length s) = s1 at h
  split at h
  · cases h; exact hg
  cases h
def sK0 (w:World) (r E d gX:Nat) (kd:Int) (x:Nat) (m:P Tree) (l:List Tree) (s2:St) (n g:Nat) (v:Value) (wr:World):Prop :=
 ∃ (i:Nat) (acc acc':List Tree) (sl:St) (u:Value),i + g = n∧v = .int .i64 (i:Int)∧kT m g i acc E (d + 1) sl = some (l,s2)∧ZAt wr r E (d + 1) sl∧Own wr gX (nD kd (x:Int) ⟨#[]⟩ 0 u) 25∧Own wr w.heap.size nZ 25∧Row wr (gX + 1) u acc'∧(s2.wrong = 0→acc' = acc)∧Kp r w wr∧acc'.length + g≤1000
theorem kE {expr:P Tree} (HP:cY 40 expr) (hbs:Bs expr 0) (kd:Nat) (hkd:kd < 256) (n:Nat) (hn:n≤10):∀ (w:World) (r E d:Nat) (s:St) (t:Tree) (s':St),ZAt w r E d s→(nxt E s).1 ≠ 0→E≤1048576→gI expr kd n E d s = some (t,s') →
    Calls Tryz.prog 162 #[.pointer (some ⟨r,0,none⟩),.int .u8 (kd:Int),.int .i64 (n:Int)] w (pC w r E d t s'):=by
 intro w r E d s t s' hR hlv hE hm
 have hrl:=hR.lt
 have hne2:w.heap.size ≠ r:=by omega
 obtain ⟨tk,s1,g1,g2⟩:=aE hm
 obtain ⟨rfl,rfl⟩:=aV g1
 obtain ⟨pl,s6,g5,g6⟩:=aE g2
 obtain ⟨hT,rfl⟩:=aJ g6
 obtain ⟨s2,g7,hs5,_⟩:=fA g5
 obtain ⟨l,hl⟩:=iQ (pl.2)
 rw [hl] at g7 hT
 have hw:s.wrong = 0:=by obtain ⟨_,_,_,_,_,_,_,_,hw,_⟩:=hR.pop hlv; exact hw
 have HMO:Hid (s6.wrong = 0→s2.wrong = 0):=fun h0=>by rw [hs5] at h0; exact (gV h0).1
 have HG7:=hI g7
 have HS5:=hI hs5
 have HT':=hI hT
 have HZ0:Hid (ZAt (w.alloc (.cells nZ 25)) r E d s):=hR.alloc _
 clear hm g1 g2 g5 g6 g7 hT hs5 hl
 go_enter Tryz.func162,Tryz.ntmps162
 go_wp2_with fail
 refine (bU HZ0).mono ?_
 rintro en w1 ⟨⟨x,rfl,hx⟩,hb1⟩
 have hZ1:ZAt w1 r E d s:=HZ0.out.below hb1
 have o1:=(Own.new w nZ 25).below hb1
 have HK1:Hid (Kp r w w1):=Kp.of (((Below.refl _ _).alloc (Nat.le_refl _) _).trans (hb1.mono (by rw [World.size_alloc]; omega)))
 have HX:Hid (x = (nxt E s).2.2.2.1):=hx hw
 have hsz1:w.heap.size < w1.heap.size:=o1.lt
 obtain ⟨W2,hW2⟩:=iQ (w1.alloc (.cells (nL (kd:Int) (x:Int) ⟨#[]⟩ 0) 25))
 have hb2:Below w1.heap.size w1 W2:=by rw [← hW2]; exact (Below.refl _ _).alloc (Nat.le_refl _) _
 have oX2:Own W2 w1.heap.size (nL (kd:Int) (x:Int) ⟨#[]⟩ 0) 25:=by rw [← hW2]; exact Own.new w1 _ _
 have o2:=o1.below hb2
 have hZ2:=hZ1.below hb2
 obtain ⟨v,a,dd,pl2,ho,ha,hdd,hd,_,hpop⟩:=hZ2.pop hlv
 obtain ⟨c0,c1,c2,c3,c4,c5,f0⟩:=ho.six
 have hl2:=ho.lt
 obtain ⟨W3,hW3⟩:=iQ (W2.setCell ⟨r,1,none⟩ (.int .i64 ((a:Int) + 1)))
 have hZ3:ZAt W3 r E d (aS s):=by
  rw [← hW3]
  refine hpop _ (fun g hg=>Below.heap_setCell W2 ⟨r,1,none⟩ _ g (by show g ≠ r; omega)) d d rfl hd ?_
  have:=ho.set 1 (.int .i64 ((a:Int) + 1))
  rw [hdd] at this
  exact this
 have hne3:w1.heap.size ≠ r:=by omega
 have oX3:Own W3 w1.heap.size (nL (kd:Int) (x:Int) ⟨#[]⟩ 0) 25:=by rw [← hW3]; exact oX2.other hne3 _
 have o3:Own W3 w.heap.size nZ 25:=by rw [← hW3]; exact o2.other hne2 _
 have HK3:Hid (Kp r w W3):=by unfold Hid; rw [← hW3]; exact (HK1.out.trans (Kp.of hb2)).set (.inr rfl) 1 _
 obtain ⟨q2,hq2⟩:=iQ (aR [40] (nxt E (aS s)))
 have hsg2:sg [40] (nxt E (aS s)) = q2:=by rw [← hq2]; exact (aX (hZ3.nxt_wf 0) (fun c r h=>by cases h; rfl)).symm
 rw [hsg2] at HG7
 have HZ3:=hI hZ3
 have HW2:=hI hW2
 have HW3:=hI hW3
 clear hx hb1 hb2 HK1 hZ1 hZ2 hpop ho hdd oX2 o1 o2 hsg2 HZ0 hR hw hlv hZ3 hW2 hW3
 go_upto_region 2 with fail
 rw [HW2.out]
 go_upto_region 3 with fail
 rw [HW3.out]
 clear HW2 HW3 c0 c1 c2 c3 c4 c5 f0
 go_wp2_with fail
 refine (jY HZ3 ⟨#[40]⟩ q2 hq2).mono ?_
 rintro en w4 ⟨⟨_,rfl⟩,hR4,hK4⟩
 have oX4:=oX3.kp hK4 hne3
 have o4:=o3.kp hK4 hne2
 have HK4:Hid (Kp r w w4):=HK3.out.trans hK4
 have HR4:=hI hR4
 have HX4:=hI oX4
 have HO4:=hI o4
 clear hK4 oX3 o3 HK3 HZ3 hq2 hR4 oX4 o4
 go_wp2_with fail
 go_loopg [8] n (fun g v wr=>sK0 w r E d w1.heap.size (kd:Int) x expr l s2 n g v wr)
 case atStart=>exact ⟨0,[],[],_,_,by omega,rfl,HG7.out,HR4.out,HX4.out,HO4.out,Row.nil _ _,fun _=>rfl,HK4.out,by simp; omega⟩
 case round =>
  obtain ⟨i,acc,acc',sl,u,hi,rfl,hm,hR,oX,oR,hrow,hacc,hK,hlen⟩:=hrel
  have hgX:w1.heap.size < wr.heap.size:=oX.lt
  have hrX:r < w1.heap.size:=by omega
  obtain ⟨ao,cap,rfl⟩:=hrow.shape
  cases gk with
  | zero =>
   obtain ⟨e1,e2⟩:=aJ (show ret acc E (d + 1) sl = some (l,s2) from hm)
   subst e2
   have hin:¬ (i:Int) < (n:Int):=by omega
   obtain ⟨q3,hq3⟩:=iQ (aR [41] (nxt E sl))
   have hsg3:sg [41] (nxt E sl) = q3:=by rw [← hq3]; exact (aX (hR.nxt_wf 0) (fun c r h=>by cases h; rfl)).symm
   rw [hsg3] at HS5
   have HR:=hI hR
   have HACC:Hid (sl.wrong = 0→acc' = l):=fun h0=>(hacc h0).trans e1
   have HKr:=hI hK
   clear hR hm hsg3 hacc e1 hK HG7 HR4 HX4 HO4 HK4
   go_wp2_with fail
   refine (kI HR ⟨#[41]⟩ q3 hq3).mono ?_
   rintro en w5 ⟨⟨_,rfl⟩,hR5,hK5⟩
   rw [← HS5.out] at hR5
   have oX5:=oX.kp hK5 hne3
   have oR5:=oR.kp hK5 hne2
   have hrow5:=hrow.kp hK5 (by omega)
   have HK5:Hid (Kp r w w5):=HKr.out.trans hK5
   have HROW:=hI hrow5
   have HZ5:=hI hR5
   obtain ⟨x0,x1,x2,x3,x4,xf⟩:=oX5.five
   obtain ⟨z0,z1,z2,z3,z4,zf⟩:=oR5.five
   have hlX:=oX5.lt
   have hlR:=oR5.lt
   have HR5:=hI oR5
   clear hK5 oX oR hrow hrow5 hR5 HR hq3 HP oX5 oR5
   go_wp2
   refine aC (t:=25) rfl rfl rfl (Own.set5 HR5.out _ _ _ _ _) Tryz.underlying25 rfl (by kernel_rfl) ?_
   refine ⟨⟨kd,(x:Int),[],0,acc'⟩,_,_,_,_,_,rfl,⟨rfl,rfl,rfl,rfl,(HROW.out.set5 (by omega) _ _ _ _ _).mono (by omega)⟩,fun h0=>?_,ZAt.set5 HZ5.out hrl _ _ _ _ _,HK5.out.set5 (.inl (Nat.le_refl _)) _ _ _ _ _⟩
   rw [← HT'.out,HACC.out (HMO.out h0),HX.out]
  | succ gk=>?_
  have hin:(i:Int) < (n:Int):=by omega
  obtain ⟨sa,hsa,hsb⟩:∃ sa,(if 0 < i then (if sg [44] (nxt E sl) then aS sl else bD E sl) else sl) = sa∧(bnd expr fun n=>kT expr gk (i + 1) (acc ++ [n])) E (d + 1) sa = some (l,s2):=by
   unfold kT at hm
   split at hm
   · rename_i h0
     obtain ⟨tk,s3,e1,e2⟩:=aE hm
     refine ⟨s3,?_,e2⟩
     rw [if_pos h0]
     rcases cU e1 with ⟨q,_,rfl⟩ | ⟨q,_,rfl⟩
     · rw [q]; rfl
     rw [q]; rfl
   rename_i h0
   exact ⟨sl,by rw [if_neg h0],hm⟩
  have HSA:=hI hsa
  have HSB:=hI hsb
  have HACC:=hI hacc
  clear hsa hsb hm hacc HG7 HR4 HX4 HO4 HK4
  go_upto_if 29 with fail
  go_cut [8] (fun v wx=>v = .int .i64 (i:Int)∧ZAt wx r E (d + 1) sa∧Own wx w1.heap.size (nD (kd:Int) (x:Int) ⟨#[]⟩ 0 (.slice ao acc'.length cap)) 25∧Own wx w.heap.size nZ 25∧Row wx (w1.heap.size + 1) (.slice ao acc'.length cap) acc'∧Kp r w wx)
  case first =>
   by_cases h0:0 < i
   · have h1:decide ((0:Int) < (i:Int)) = true:=by simp; omega
     have h2:(0:Int) < (i:Int):=by omega
     obtain ⟨q3,hq3⟩:=iQ (aR [44] (nxt E sl))
     have hsg3:sg [44] (nxt E sl) = q3:=by rw [← hq3]; exact (aX (hR.nxt_wf 0) (fun c r h=>by cases h; rfl)).symm
     have HS9:Hid ((if q3 = true then aS sl else bD E sl) = sa):=by have:=HSA.out; rw [if_pos h0,hsg3] at this; exact this
     clear hsg3 h0
     go_wp2_with fail
     refine (cQ hR ⟨#[44]⟩ q3 hq3).mono ?_
     rintro en w5 ⟨⟨_,rfl⟩,hR5,hK5⟩
     rw [HS9.out] at hR5
     go_wp2_with fail
     go_meet
     exact ⟨rfl,hR5,oX.kp hK5 hne3,oR.kp hK5 hne2,hrow.kp hK5 (by omega),hK.trans hK5⟩
   have h1:decide ((0:Int) < (i:Int)) = false:=by simp; omega
   have h2:¬ (0:Int) < (i:Int):=by omega
   have hS9:sl = sa:=by have:=HSA.out; rw [if_neg h0] at this; exact this
   subst hS9
   clear h0
   go_wp2_with fail
   go_meet
   exact ⟨rfl,hR,oX,oR,hrow,hK⟩
  clear hR oX oR hrow hK HSA
  obtain ⟨rfl,hR,oX,oR,hrow,hK⟩:=hcut
  obtain ⟨n9,s3,h1,h2⟩:=aE HSB.out
  have HMO2:Hid (s2.wrong = 0→s3.wrong = 0):=bP (cX0 hbs gk (i + 1) (acc ++ [n9])) h2
  have HL2:=hI h2
  have hw0:w1.heap.size < wc.heap.size:=oX.lt
  clear h2 HSB
  go_wp2_with fail
  refine (HP wc r E (d + 1) sa n9 s3 hR hE h1).mono ?_
  rintro en w2 ⟨t1,k1,a1,b1,n1,v1,rfl,hN1,ht1,hR2,hK2⟩
  obtain ⟨ao1,cap1,rfl⟩:=Row.shape hN1.2.2.2.2
  have hs2:=hK2.size
  obtain ⟨W3,hW3⟩:=iQ (w2.alloc (.cells (nQ k1 a1 b1 n1 ao1 t1 cap1) 25))
  have hb3:Below w2.heap.size w2 W3:=by rw [← hW3]; exact (Below.refl _ _).alloc (Nat.le_refl _) _
  have oY:Own W3 w2.heap.size (nQ k1 a1 b1 n1 ao1 t1 cap1) 25:=by rw [← hW3]; exact Own.new w2 _ _
  obtain ⟨x0,x1,x2,x3,x4,xf⟩:=oY.five
  have hlX:=oY.lt
  have hs3:=hb3.size
  have hZ3:=hR2.below hb3
  have hK3:Kp r wc W3:=hK2.trans (Kp.of hb3)
  have oX3:=oX.kp hK3 hne3
  have oR3:=oR.kp hK3 hne2
  obtain ⟨y0,y1,y2,y3,y4,yf⟩:=oX3.five
  have hlX3:=oX3.lt
  have HT1:=hI ht1
  have hN3:bV W3 wc.heap.size t1 k1 a1 b1 n1 (.slice ao1 t1.kids.length cap1):=bV.row hN1 fun y=>y.below hb3
  have hrow0:=hrow
  have hcs:=(bV.row hN3 fun y=>y.alloc (.cells (nQ k1 a1 b1 n1 ao1 t1 cap1) 25)).cells
  have hbN:=Own.new W3 (nQ k1 a1 b1 n1 ao1 t1 cap1) 25
  have hal:acc'.length + 1≤1000000000:=by omega
  have hww:wc.heap.size≤(W3.alloc (.cells (nQ k1 a1 b1 n1 ao1 t1 cap1) 25)).heap.size:=by rw [World.size_alloc]; omega
  have hK4:Kp r wc (W3.alloc (.cells (nQ k1 a1 b1 n1 ao1 t1 cap1) 25)):=hK3.alloc _
  have hkeep:∀ (g:Nat) (cur:Array Value),w1.heap.size + 1≤g→Own wc g cur 25→Own (W3.alloc (.cells (nQ k1 a1 b1 n1 ao1 t1 cap1) 25)) g cur 25:=fun g cur hg ho=>ho.kp hK4 (by omega)
  have hbs2:w1.heap.size + 1≤wc.heap.size:=by omega
  have hZ4:=hZ3.alloc (.cells (nQ k1 a1 b1 n1 ao1 t1 cap1) 25)
  have oX4:=oX3.alloc (.cells (nQ k1 a1 b1 n1 ao1 t1 cap1) 25)
  have oR4:=oR3.alloc (.cells (nQ k1 a1 b1 n1 ao1 t1 cap1) 25)
  have hK5:=hK.trans hK4
  clear hK2 hR2 h1 hN1 ht1 hK3 hs2 hb3 oY hR hN3 hZ3 oX oR
  go_upto_region 10 with fail
  try rw [hW3]
  clear hW3
  go_wp2_with (first | (at_builtin; refine fB rfl (.tmp 35) (.tmp 37) rfl (w1.heap.size + 1) _ acc' rfl wc hrow0 hkeep [t1] 1 1 rfl W3.heap.size rfl _ hbN hcs hal hbs2 hww ?_; intro v' w6 hrow' gz hvb; have oX6:=oX4.grown gz (fun e=>by have:=(hvb _ e.symm).1; omega); obtain ⟨ao6,cap6,rfl⟩:=hrow'.shape) | (refine aQ rfl (.tmp 39) (.tmp 38) rfl rfl w1.heap.size 4 rfl rfl oX6 (by simp) ?_; intro w7 oX7 gz7))
  have oR6:=oR4.grown gz (fun e=>by have:=(hvb _ e.symm).1; omega)
  have oR7:=oR6.grown gz7 (by intro e; have:=Option.some.inj e; omega)
  have hZ6:=hZ4.grown gz (fun k hk=>by have:=(hvb k hk).1; omega)
  have hZ7:=hZ6.kpx gz7 hrX
  have hK6:=hK5.grown gz (fun k hk=>by have:=(hvb k hk).1; omega)
  have hK7:=hK6.grown gz7 (fun k hk=>by have:=Option.some.inj hk; omega)
  have hrow7:=hrow'.grown gz7 (by omega)
  rw [List.length_append] at hrow7
  have HACC2:Hid (s2.wrong = 0→acc' ++ [t1] = acc ++ [n9]):=fun h0=>by rw [HACC.out h0,HT1.out (HMO2.out h0)]
  go_roundg gk
  case rel=>exact ⟨i + 1,acc ++ [n9],acc' ++ [t1],s3,_,by omega,by go_num,HL2.out,hZ7,oX7,oR7,hrow7,HACC2.out,hK7,by rw [List.length_append]; simp; omega⟩
  case measure=>omega
theorem mI.le {fn:Nat} {m:P (List Tree)} {c c':Nat} (h:mI fn m c) (hc:c≤c'):mI fn m c':=fun w r E d s t s' h1 h2 h3 h4=>h w r E d s t s' h1 h2 (by omega) h4
theorem zH0 : ∀ f:Nat,f≤1000000→bH 26 (R f).typ (4 * f)∧bH 93 (R f).unary (4 * f)∧bH 25 (R f).expr (4 * f)∧bH 155 (R f).branch (4 * f)∧mI 112 (R f).stmts (4 * f):=by
 intro f
 induction f with
 | zero =>
  intro _
  refine ⟨?_,?_,?_,?_,?_⟩ <;> intro w r E d s t s' h1 h2 h3 h4 <;> cases h4
 | succ f ih=>?_
 intro hf
 obtain ⟨ht,hu,he,hb,hs⟩:=ih (by omega)
 have hfu:f≤100000000:=by omega
 have hB:=zC hs
 have hA:=(hK0 hs).le (show 4 * f≤4 * f + 1 by omega)
 have he1:=he.le (show 4 * f≤4 * f + 1 by omega)
 have hSi:=fD0 f hfu he
 have hVa:=tV f hfu he1 hSi
 have hRo:=gP0 f hVa he1 hSi hB
 have hCh:=fR0 f hfu he (hK0 hs)
 have hTu:=nJ0 f he1 hB hRo hCh
 have hPl:=jP0 f hfu he1 hVa
 have hSt:=uD0 f hB (hb.le (show 4 * f≤4 * f + 1 by omega)) hTu hPl
 refine ⟨(fF0 ht).le (by omega),(kH0 hu ht he f hfu).le (by omega),(sX0 hu f hfu).le (by omega),(eL0 (hb.le (show 4 * f≤4 * f + 1 by omega)) he1 hB).le (by omega),(jQ0 hSt f hfu).le (by omega)⟩
theorem eU0 (f:Nat) (hf:f≤1000000):bH 22 (kS f) (4 * f + 2):=by
 obtain ⟨ht,hu,he,hb,hs⟩:=zH0 f hf
 have hfu:f≤100000000:=by omega
 have hF:=(yN ht).le (show 4 * f≤4 * f + 1 by omega)
 exact bS0 f hfu ((gT0 f hfu (yN ht)).le (by omega)) (zF f hfu hF (aM0 f hfu ht) (zC hs))
def dW : Nat:=300000
theorem sX {m:P Tree} (hm:∀ (E:Nat) (ts:List Tok),4 * ts.length + 20≤dW→∃ n s,m E 0 ⟨ts,0,0⟩ = some (n,s)) (l:List Nat) (hl:∀ c ∈ l,c < 256):∃ T,dX m l = some T:=by
 cases h:gC l with
 | error e=>exact ⟨.error e,by unfold dX; rw [h]⟩
 | ok ts=>?_
 obtain ⟨n,s,hn⟩:=hm l.length ts (by have:=(iO l ts h hl).1; unfold dW; omega)
 have e:dX m l = nG m l.length ts:=by unfold dX; rw [h]
 rw [e]
 unfold nG
 rw [hn]
 exact ⟨_,rfl⟩
theorem oH0 (l:List Nat) (hl:∀ c ∈ l,c < 256):∃ T,dX (kS dW) l = some T:=sX (fun E ts h=>by obtain ⟨n,s,h1,_⟩:=dW0 E ts dW h; exact ⟨n,s,h1⟩) l hl
theorem mQ0 (l:List Nat) (hl:∀ c ∈ l,c < 256):∃ T,dX (R dW).expr l = some T:=sX (fun E ts h=>by obtain ⟨n,s,h1,_⟩:=qK0 E ts dW h; exact ⟨n,s,h1⟩) l hl
theorem nF0 (l:List Nat) (hl:∀ c ∈ l,c < 256):∃ T,dX (R dW).typ l = some T:=sX (fun E ts h=>by obtain ⟨n,s,h1,_⟩:=vU0 E ts dW h; exact ⟨n,s,h1⟩) l hl
theorem sO (s:ByteArray) (h:s.size≤1048576) (T:Except (Nat × Nat) Tree) (HR:Hid (dX (kS dW) (aD s) = some T)) (w:World) (hL:jM w):Calls Tryz.prog 6 #[.string s] w (iT w T) :=
 eQ0 (c:=4 * dW + 2) (by unfold dW; omega) (eU0 dW (by unfold dW; omega)) s h T HR w hL
theorem uH (s:ByteArray) (h:s.size≤1048576) (T:Except (Nat × Nat) Tree) (HR:Hid (dX (R dW).expr (aD s) = some T)) (w:World) (hL:jM w):Calls Tryz.prog 12 #[.string s] w (iT w T) :=
 sV0 (c:=4 * dW) (by unfold dW; omega) (zH0 dW (by unfold dW; omega)).2.2.1 s h T HR w hL
theorem vD0 (s:ByteArray) (h:s.size≤1048576) (T:Except (Nat × Nat) Tree) (HR:Hid (dX (R dW).typ (aD s) = some T)) (w:World) (hL:jM w):Calls Tryz.prog 13 #[.string s] w (iT w T) :=
 sO0 (c:=4 * dW) (by unfold dW; omega) (zH0 dW (by unfold dW; omega)).1 s h T HR w hL
def rN0 : Tree:=⟨1,0,[],0,[⟨4,3,[102],0,[⟨5,4,[],0,[⟨3,5,[97],0,[⟨7,7,[105,56],0,[]⟩]⟩]⟩,⟨6,11,[],0,[]⟩,⟨10,11,[],0,[⟨22,13,[],0,[]⟩]⟩]⟩]⟩
def qV : Tree:=⟨60,2,[],0,[⟨40,0,[],1,[]⟩,⟨62,6,[],0,[⟨40,4,[],2,[]⟩,⟨40,8,[],3,[]⟩]⟩]⟩
def rY0 : ByteArray:=⟨#[102,110,32,102,40,97,32,105,56,41,32,123,32,114,101,116,117,114,110,59,32,125]⟩
def sJ0 : ByteArray:=⟨#[49,32,43,32,50,32,42,32,51]⟩
def nW0 : ByteArray:=⟨#[97,32,61,61,32,98,32,61,61,32,99]⟩
theorem yE0 : dX (kS dW) (aD rY0) = some (.ok rN0):=by kernel_rfl
theorem vJ0 : dX (R dW).expr (aD sJ0) = some (.ok qV):=by kernel_rfl
theorem wG0 : dX (R dW).expr (aD nW0) = some (.error (7,40)):=by kernel_rfl
theorem xK0 : qN qV = 0:=by kernel_rfl
theorem uU0 : qN ⟨200,0,[],0,[]⟩ = 50:=by kernel_rfl
theorem wB0 : aO qV:=by simp [qV,aO,aO.goodTL,qI]
theorem wD0 : aO ⟨200,0,[],0,[]⟩:=by simp [aO,aO.goodTL,qI]
theorem aY1 : bJ [102] = ⟨#[102]⟩:=by kernel_rfl
theorem yH (w:World) (HL:Hid (jM w)):Calls Tryz.prog 11 #[] w fun e w'=>e = .returned (.bool true)∧Below w.heap.size w w':=by
 go_enter Tryz.func11,Tryz.ntmps11
 go_wp2_with fail
 refine (sO rY0 (by decide) _ yE0 w HL.out).mono ?_
 rintro en w1 ⟨hb1,k1,a1,b1,n1,v1,rfl,hN1⟩
 have hk1:=hN1.2.2.2.2.rd
 obtain ⟨ao1,cap1,hv1,_⟩:=id hk1
 obtain rfl:v1 = .slice ao1 1 cap1:=hv1
 obtain ⟨g1,q1,aj1,cj1,rfl,hg1,f0,f1,f2,f3,f4,_⟩:=oI (ts:=rN0.kids) hk1 (Below.refl _ _) 0 _ rfl
 replace f0:w1.cell? ⟨g1,q1,none⟩ = some (.int .u8 4):=f0
 replace f2:w1.cell? ⟨g1,q1 + 2,none⟩ = some (.string (bJ [102])):=f2
 rw [aY1] at f2
 replace f4:w1.cell? ⟨g1,q1 + 4,none⟩ = some (.slice aj1 3 cj1):=f4
 clear f1 f3 hk1 hN1
 go_wp2_with fail
 have hL2:jM (w1.alloc (.cells (nD k1 a1 b1 n1 (.slice (some ⟨g1,q1,none⟩) 1 cap1)) 25)):=(HL.out.on hb1).on ((Below.refl _ _).alloc (Nat.le_refl _) _)
 refine (uH sJ0 (by decide) _ vJ0 _ hL2).mono ?_
 rintro en w2 ⟨hb2,k2,a2,b2,n2,v2,rfl,hN2⟩
 have o1:=(Own.new w1 (nD k1 a1 b1 n1 (.slice (some ⟨g1,q1,none⟩) 1 cap1)) 25).below hb2
 have hb12:Below w1.heap.size w1 w2:=((Below.refl _ _).alloc (Nat.le_refl _) _).trans (hb2.mono (by rw [World.size_alloc]; omega))
 have hLw2:=hL2.on hb2
 have hs2:=o1.lt
 replace f0:=(hb12.cell (p:=⟨g1,q1,none⟩) hg1).trans f0
 replace f2:=(hb12.cell (p:=⟨g1,q1 + 2,none⟩) hg1).trans f2
 replace f4:=(hb12.cell (p:=⟨g1,q1 + 4,none⟩) hg1).trans f4
 have hbA:Below w.heap.size w w2:=hb1.trans (hb12.mono hb1.size)
 clear hb1 hb12 hL2 hb2
 have hk2:=hN2.2.2.2.2.rd
 obtain ⟨ao2,cap2,hv2,_⟩:=id hk2
 obtain rfl:v2 = .slice ao2 2 cap2:=hv2
 obtain ⟨g2,q2,aj2,cj2,rfl,hg2,i0,i1,i2,i3,i4,_⟩:=oI (ts:=qV.kids) hk2 (Below.refl _ _) 1 _ rfl
 replace i0:w2.cell? ⟨g2,q2 + 5,none⟩ = some (.int .u8 62):=i0
 have hkk2:k2 = 60:=hN2.1
 subst hkk2
 have HN2:=hI hN2.rd
 clear i1 i2 i3 i4 hk2 hN2
 go_wp2_with fail
 have hL3:jM (w2.alloc (.cells (nD 60 a2 b2 n2 (.slice (some ⟨g2,q2,none⟩) 2 cap2)) 25)):=hLw2.on ((Below.refl _ _).alloc (Nat.le_refl _) _)
 refine (uH nW0 (by decide) _ wG0 _ hL3).mono ?_
 rintro en w3 ⟨hb3,hg3⟩
 obtain rfl:en = .returned (.tuple #[.agg nZ,.int .i64 7,.int .i64 40]):=hg3
 have hb23:Below w2.heap.size w2 w3:=((Below.refl _ _).alloc (Nat.le_refl _) _).trans (hb3.mono (by rw [World.size_alloc]; omega))
 have o2:=(Own.new w2 (nD 60 a2 b2 n2 (.slice (some ⟨g2,q2,none⟩) 2 cap2)) 25).below hb3
 have o1:=o1.below hb23
 have hg1':g1 < w2.heap.size:=by omega
 replace f0:=(hb23.cell (p:=⟨g1,q1,none⟩) hg1').trans f0
 replace f2:=(hb23.cell (p:=⟨g1,q1 + 2,none⟩) hg1').trans f2
 replace f4:=(hb23.cell (p:=⟨g1,q1 + 4,none⟩) hg1').trans f4
 replace i0:=(hb23.cell (p:=⟨g2,q2 + 5,none⟩) hg2).trans i0
 have hbB:Below w.heap.size w w3:=hbA.trans (hb23.mono hbA.size)
 have HN3:Hid (lS w3 qV 60 a2 b2 n2 (.slice (some ⟨g2,q2,none⟩) 2 cap2)):=HN2.out.below hb23
 have hs3:=o2.lt
 have hs4:=hb23.size
 have hg1'':g1 < w3.heap.size:=by omega
 have hg2'':g2 < w3.heap.size:=by omega
 have hs5:w1.heap.size < w3.heap.size:=by omega
 clear hbA hb23 hL3 hb3 HN2 hLw2
 obtain ⟨p0,p1,p2,p3,p4,pf1⟩:=o1.five
 obtain ⟨r0,r1,r2,r3,r4,rf⟩:=o2.five
 have hb4:Below w3.heap.size w3 (w3.alloc (.cells nZ 25)):=(Below.refl _ _).alloc (Nat.le_refl _) _
 have C2:=yM _ qV wB0 _ _ _ _ _ (HN3.out.below hb4)
 rw [xK0] at C2
 go_wp2_with fail
 refine C2.mono ?_
 rintro en w4 ⟨rfl,hb5⟩
 have C4:=yM w4 ⟨200,0,[],0,[]⟩ wD0 200 0 ⟨#[]⟩ 0 (.slice none 0 0) ⟨rfl,rfl,rfl,rfl,none,0,rfl,Nat.le_refl _,by omega,.inl rfl⟩
 rw [uU0] at C4
 clear C2
 go_wp2_with fail
 refine C4.mono ?_
 rintro en w5 ⟨rfl,hb6⟩
 go_wp2
 go_ret
 exact ⟨rfl,(hbB.trans ((hb4.trans (hb5.mono (by rw [World.size_alloc]; omega))).mono hbB.size)).trans (hb6.mono (by have:=hbB.size; have:=hb5.size; rw [World.size_alloc] at this; omega))⟩
end Go.Proofs.YtnipenijihkgdaaGreatDoor
