import Derived.Test.YtnipenijihkgdaaGreatDoorJTot
import Derived.Test.YtnipenijihkgdaaGreatDoorQ0
namespace Go.Proofs.YtnipenijihkgdaaGreatDoor
set_option linter.unusedVariables false
def Ds {A:Type} (m:P A):Prop:=∀ E d s a s',s.wrong ≠ 0→s.rest = []→m E d s = some (a,s')→s' = s
theorem wS {s:St} (h:s.rest = []):aS s = s:=by
 obtain ⟨r,w,p⟩:=s
 have h:r = []:=h
 subst h
 rfl
theorem wR {E:Nat} {s:St} (h:s.wrong ≠ 0):bD E s = s:=by unfold bD; exact gM h
theorem lF0 {d:Nat} {t:Tok} {s:St} (h:s.wrong ≠ 0):eL d t s = s:=by
 unfold eL
 split
 · exact gM h
 rfl
theorem Ds.go {A:Type} {m:P A} (h:Ds m) {E d:Nat} {s s':St} {a:A} (hw:s.wrong ≠ 0) (hr:s.rest = []) (e:m E d s = some (a,s')):s' = s:=h E d s a s' hw hr e
theorem dC {A:Type} {a:A}:Ds (ret a):=by
 rintro E d s _ _ _ _ ⟨⟩
 rfl
theorem mL {A:Type}:Ds (fun _ _ _=>none:P A):=by rintro _ _ _ _ _ _ _ ⟨⟩
theorem bW {A C:Type} {m:P A} {f:A→P C} (h:Ds m) (h2:∀ a,Ds (f a)):Ds (bnd m f):=by
 intro E d s b s2 hw hr e
 unfold bnd at e
 match hm:m E d s,e with
 | some (a,s1),e =>
  have h1:=h E d s a s1 hw hr hm
  have e2:f a E d s1 = some (b,s2):=e
  clear e hm
  subst h1
  exact h2 a E d s1 b s2 hw hr e2
theorem iA {A:Type} {f:Tok→P A} (h:∀ t,Ds (f t)):Ds (eT f):=fun E d s a s' hw hr e=>h (nxt E s) E d s a s' hw hr e
theorem fV {A:Type} {c:Prop} [Decidable c] {a b:P A} (h1:Ds a) (h2:Ds b):Ds (if c then a else b):=by
 split
 · exact h1
 exact h2
theorem jW : Ds dA:=by
 rintro E d s _ _ hw hr ⟨⟩
 exact wS hr
theorem lH {q:Tok→Bool}:Ds (cZ q):=by
 intro E d s a s' hw hr e
 unfold cZ eT eQ at e
 simp only [] at e
 split at e
 · cases e; exact wS hr
 cases e; exact wR hw
theorem vA0 : Ds pJ0:=by
 rintro E d s _ _ hw hr ⟨⟩
 exact wR hw
theorem aG0 {A:Type} {t:Tok} {m:P A} (h:Ds m):Ds (eK t m):=by
 intro E d s a s' hw hr e
 unfold eK at e
 rw [lF0 hw] at e
 exact h E (d + 1) s a s' hw hr e
theorem lF {A:Type} {x y:List Nat} {m:P A} (h:Ds m):Ds (fM x y m) :=
 bW lH fun t=>bW (aG0 h) fun a=>bW lH fun _=>dC
theorem bD0 {part:P Tree} (h:Ds part):∀ (f:Nat) (acc:List Tree),Ds (gJ part f acc)
 | 0,_=>mL
 | f + 1,acc=>by unfold gJ; exact iA fun t=>fV (bW jW fun _=>bW h fun n=>bD0 h f _) dC
theorem aP0 {part:P Tree} (h:Ds part) (f:Nat):Ds (iF f part):=bW h fun n=>bD0 h f _
theorem nP {part:P Tree} (h:Ds part) (f:Nat):Ds (eE f part):=bW (lF (iA fun t=>fV dC (aP0 h f))) fun x=>dC
theorem rC0 {rec:P Tree} (h:Ds rec):Ds (lO rec):=by
 unfold lO
 exact iA fun t=>fV (bW jW fun t=>dC) (fV (bW (lF (iA fun c=>fV (bW jW fun c=>dC) dC)) fun x=>bW (aG0 h) fun k=>dC) vA0)
theorem dS0 {k:Nat} {next:P Tree} (h:Ds next):∀ (f:Nat) (n:Tree),Ds (mB k next f n)
 | 0,_=>mL
 | f + 1,n=>by unfold mB; exact iA fun t=>fV dC (bW jW fun t=>bW h fun m=>fV dC (dS0 h f _))
theorem wN {unary:P Tree} (h:Ds unary) (f:Nat):∀ j,Ds (lQ unary f j)
 | 0=>h
 | j + 1=>bW (wN h f j) fun n=>dS0 (wN h f j) f n
theorem qE {expr:P Tree} (h:Ds expr):∀ (f:Nat) (n:Tree),Ds (eH expr f n)
 | 0,_=>mL
 | f + 1,n=>by unfold eH; exact iA fun t=>fV (bW jW fun _=>bW lH fun m=>qE h f _) (fV (bW (lF h) fun x=>qE h f _) dC)
theorem hN0 : Ds pG:=bW lH fun t=>dC
theorem pQ0 : Ds mT:=bW lH fun t=>dC
theorem wI0 {expr:P Tree} (h:Ds expr) (f:Nat):Ds (lR f expr):=bW hN0 fun n=>iA fun t=>fV (bW (nP h f) fun l=>dC) dC
theorem wJ {expr:P Tree} (h:Ds expr):∀ (c i:Nat) (acc:List Tree),Ds (kT expr c i acc)
 | 0,_,_=>by unfold kT; exact dC
 | c + 1,i,acc=>by unfold kT; exact fV (bW lH fun _=>bW h fun n=>wJ h c _ _) (bW h fun n=>wJ h c _ _)
theorem rL {expr:P Tree} (h:Ds expr) (k c:Nat):Ds (gI expr k c):=bW jW fun t=>bW (lF (wJ h c 0 [])) fun x=>dC
theorem qA0 {expr:P Tree} (h:Ds expr) (f:Nat):Ds (gN f expr):=by
 unfold gN
 exact iA fun t=>fV (bW (rL h _ _) fun n=>dC) (fV (rL h _ _) (fV (rL h _ _) (fV (rL h _ _) (fV (rL h _ _) (wI0 h f)))))
theorem vF {typ expr:P Tree} (ht:Ds typ) (h:Ds expr) (f:Nat):Ds (cB f typ expr):=by
 unfold cB
 exact iA fun t=>fV pQ0 (fV (bW jW fun t=>dC) (fV (bW (lF h) fun x=>dC) (fV (bW jW fun t=>dC) (fV (bW jW fun t=>dC) (fV (bW jW fun t=>bW ht fun k=>bW (nP h f) fun l=>dC) (qA0 h f))))))
theorem rQ0 {rec typ expr:P Tree} (hr:Ds rec) (ht:Ds typ) (h:Ds expr) (f:Nat):Ds (kK f rec typ expr):=by
 unfold kK
 exact iA fun t=>fV (bW (vF ht h f) fun n=>qE h f n) (bW jW fun s=>bW (aG0 hr) fun n=>dC)
theorem yY0 : ∀ f:Nat,Ds (R f).typ∧Ds (R f).unary∧Ds (R f).expr
 | 0=>⟨mL,mL,mL⟩
 | f + 1=>by
  obtain ⟨h1,h2,h3⟩:=yY0 f
  exact ⟨rC0 h1,rQ0 h2 h1 h3 f,wN h2 f 5⟩
theorem hY0 : ∀ (f:Nat) (go:Bool) (acc:List Tree),Ds (pB f go acc)
 | 0,_,_=>mL
 | f + 1,go,acc=>by unfold pB; exact iA fun t=>fV (bW jW fun _=>bW hN0 fun n=>hY0 f go _) dC
theorem gM0 {expr:P Tree}:∀ (f:Nat) (n:Tree) (E d:Nat) (s:St) (t:Tree) (s':St),eH expr f n E d s = some (t,s') →
    (sg [46] (nxt E s) = false∧sg [91] (nxt E s) = false∧t = n∧s' = s)∨((sg [46] (nxt E s) = true∨sg [91] (nxt E s) = true)∧(t.kind = 48∨t.kind = 49)):=by
 intro f
 induction f with
 | zero=>intro n E d s t s' h; cases h
 | succ f ih=>?_
 intro n E d s t s' h
 unfold eH at h
 have h:(if sg [46] (nxt E s) then bnd dA fun _=>bnd (cZ nm) fun m=>eH expr f ⟨48,m.2.2.2.1,m.2.1,0,[n]⟩
  else if sg [91] (nxt E s) then bnd (fM [91] [93] expr) fun x=>eH expr f ⟨49,x.1.2.2.2.1,[],0,[n,x.2]⟩ else ret n) E d s = some (t,s'):=h
 have key:∀ (m:Tree) (s1:St),(m.kind = 48∨m.kind = 49)→eH expr f m E d s1 = some (t,s')→t.kind = 48∨t.kind = 49:=by
  intro m s1 hk hm
  rcases ih m E d s1 t s' hm with ⟨_,_,rfl,_⟩ | ⟨_,q⟩
  · exact hk
  exact q
 split at h
 · rename_i h46
   refine .inr ⟨.inl h46,?_⟩
   unfold bnd dA at h
   simp only [] at h
   split at h
   · cases h
   exact key _ _ (.inl rfl) h
 rename_i h46
 split at h
 · rename_i h91
   refine .inr ⟨.inr h91,?_⟩
   unfold bnd at h
   split at h
   · cases h
   exact key _ _ (.inr rfl) h
 rename_i h91
 cases h
 exact .inl ⟨by simpa using h46,by simpa using h91,rfl,rfl⟩
def aV1 (E:Nat) (t:Tok):Prop:=t.2.2.2.1≤E∧(t.1 = 2→oS t.2.1 = true∧t.2.2.1≤lL t.2.1)
def okSt (E:Nat) (s:St):Prop:=(∀ t ∈ s.rest,aV1 E t)∧(s.wrong = 0∨s.wrong = 40∨s.wrong = 41)∧s.place≤E∧s.rest.length≤100000
def V {A:Type} (m:P A) (E d:Nat) (s:St) (Q:A→Nat→Prop):Prop:=∀ a s',m E d s = some (a,s')→okSt E s→okSt E s'∧(s'.wrong = 0→s.wrong = 0∧∃ k,s.rest.length = s'.rest.length + k∧Q a k)
theorem zC0 (k:Nat) (a:Int) (x:List Nat) (n:Nat) (ks:List Tree):fD ⟨k,a,x,n,ks⟩ = 1 + fD.cntL ks:=by rw [fD]
theorem nE0 : fD.cntL [] = 0:=by rw [fD.cntL]
theorem hU0 (t:Tree) (ts:List Tree):fD.cntL (t :: ts) = fD t + fD.cntL ts:=by rw [fD.cntL]
theorem xN0 (t:Tree):1≤fD t:=by obtain ⟨k,a,x,n,ks⟩:=t; rw [zC0]; omega
theorem zJ0 (l:List Tree):l.length≤fD.cntL l:=by
 induction l with
 | nil=>simp
 | cons t ts ih=>rw [hU0]; have:=xN0 t; simp only [List.length_cons]; omega
def vX (r:Int) (t:Tree) (k:Nat):Prop:=kP r t = true∧fD t + 1≤2 * k
def vS (r:Int) (t:Tree) (k:Nat):Prop:=kP r t = true∧fD t≤2 * k
def vL (q:Int) (l:List Tree) (k:Nat):Prop:=(∀ t ∈ l,kP q t = true)∧fD.cntL l≤2 * k
theorem vX.s {r:Int} {t:Tree} {k:Nat} (h:vX r t k):vS r t k:=⟨h.1,by have:=h.2; omega⟩
theorem vL.nil {q:Int} {k:Nat}:vL q [] k:=⟨by simp,by rw [nE0]; omega⟩
theorem vL.one {q:Int} {t:Tree} {k:Nat} (h:vS q t k):vL q [t] k:=⟨fun u hu=>by rw [List.mem_singleton.1 hu]; exact h.1,by rw [hU0,nE0]; have:=h.2; omega⟩
theorem vL.len {q:Int} {l:List Tree} {k:Nat} (h:vL q l k) (hk:k≤100000):l.length≤200000:=by have:=zJ0 l; have:=h.2; omega
def xU (g:Int→Int):Tree→Tree
 | ⟨k,a,t,n,ks⟩=>⟨k,g a,t,n,ks.map (xU g)⟩
theorem dN0 (g:Int→Int) (k:Nat) (a:Int) (t:List Nat) (n:Nat) (ks:List Tree):xU g ⟨k,a,t,n,ks⟩ = ⟨k,g a,t,n,ks.map (xU g)⟩:=by rw [xU]
def endT (t:Tok):Prop:=t.1 = 0∨(t.1 = 4∧t.2.1 = [41])∨(t.1 = 1∧(t.2.1 = [102,110]∨t.2.1 = [114,101,99,111,114,100]))
structure Mv where
 mt:Tok→Tok
 g:Int→Int
 ys:List Tok
 E1:Nat
 E2:Nat
 dl:Nat
 hm:∀ t,(mt t).1 = t.1∧(mt t).2.1 = t.2.1∧(mt t).2.2.1 = t.2.2.1∧((mt t).2.2.2.1:Int) = g (t.2.2.2.1:Int)
 pl:Nat→Nat
 hys:ys = []∨∃ t q,ys = t :: q∧endT t
def Mv.ext (v:Mv) (s:St):St:=⟨s.rest.map v.mt ++ v.ys,s.wrong,v.pl s.place⟩
def Mv.ts (v:Mv) (t u:Tok):Prop:=u.1 = t.1∧u.2.1 = t.2.1∧u.2.2.1 = t.2.2.1∧(u.2.2.2.1:Int) = v.g (t.2.2.2.1:Int)
def Mv.tk (v:Mv) (t u:Tok):Prop:=v.ts t u∨(t.1 = 0∧endT u)
def Sm (v:Mv) {A:Type} (V:A→A→Prop) (m1 m2:P A) (s:St):Prop:=∀ d a s',m1 v.E1 d s = some (a,s')→s'.wrong = 0 →
 ∀ a2 s2,m2 v.E2 (d + v.dl) (v.ext s) = some (a2,s2)→(V a a2∧s2 = v.ext s')∨(s2.wrong = 41∧v.dl ≠ 0)
def Sim (v:Mv) {A:Type} (V:A→A→Prop) (m1 m2:P A):Prop:=∀ s,Sm v V m1 m2 s
end Go.Proofs.YtnipenijihkgdaaGreatDoor
