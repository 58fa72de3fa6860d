import Derived.Test.YtnipenijihkgdaaGreatDoorQ35
import Derived.Test.YtnipenijihkgdaaGreatDoorNd
set_option maxHeartbeats 3000000
set_option maxRecDepth 100000
namespace Go.Proofs.YtnipenijihkgdaaGreatDoor
open Go.RowKit
set_option linter.unusedVariables false
theorem kI0 {E d:Nat} {s s':St} {t:Tree} (hn:nm (nxt E s) = true) (h:pG E d s = some (t,s')):t = ⟨44,((nxt E s).2.2.2.1:Nat),(nxt E s).2.1,0,[]⟩∧s' = aS s:=by
 obtain ⟨tk,s1,g1,g2⟩:=aE h
 obtain ⟨hT,rfl⟩:=aJ g2
 obtain ⟨_,rfl,rfl⟩:=(cU g1).resolve_right fun q=>by rw [hn] at q; exact absurd q.1 (by simp)
 exact ⟨hT.symm,rfl⟩
theorem vS0 {E d:Nat} {s s':St} {t:Tree} (hn:nm (nxt E s) = false) (h:pG E d s = some (t,s')):s' = bD E s:=by
 obtain ⟨tk,s1,g1,g2⟩:=aE h
 obtain ⟨hT,rfl⟩:=aJ g2
 obtain ⟨_,_,rfl⟩:=(cU g1).resolve_left fun q=>by rw [hn] at q; exact absurd q.1 (by simp)
 rfl
theorem rX {expr:P Tree} {f E d:Nat} {s s':St} {t:Tree} (hn:nm (nxt E s) = true) (h:lR f expr E d s = some (t,s')) :
    (sg [40] (bE E s 1) = true∧aN0 f expr E d s = some (t,s')∧t.kind = 45∧t.at_ = ((nxt E s).2.2.2.1:Nat))∨(sg [40] (bE E s 1) = false∧t = ⟨44,((nxt E s).2.2.2.1:Nat),(nxt E s).2.1,0,[]⟩∧s' = aS s):=by
 unfold lR at h
 obtain ⟨n,s1,g1,g2⟩:=aE h
 obtain ⟨rfl,rfl⟩:=kI0 hn g1
 replace g2:=aN g2
 have e:nxt E (aS s) = bE E s 1:=uG E s 0
 rw [e] at g2
 split at g2
 · rename_i h40
   obtain ⟨l,s2,c1,c2⟩:=aE g2
   obtain ⟨hT,rfl⟩:=aJ c2
   refine .inl ⟨h40,?_,by rw [← hT],by rw [← hT]⟩
   unfold aN0 bnd cZ eT eQ
   simp only [hn,if_true]
   rw [c1]
   simp only []
   rw [← hT]
   rfl
 rename_i h40
 obtain ⟨rfl,rfl⟩:=aJ g2
 exact .inr ⟨by simpa using h40,rfl,rfl⟩
theorem iL0 {expr:P Tree} (hd:Ds expr) {f E d:Nat} {s s':St} {t:Tree} (hI:Iv s) (hn:nm (nxt E s) = false) (h:lR f expr E d s = some (t,s')):s' = bD E s:=by
 unfold lR at h
 obtain ⟨n,s1,g1,g2⟩:=aE h
 obtain rfl:=vS0 hn g1
 exact (iA fun t=>fV (bW (nP hd f) fun l=>dC) dC) E d _ t s' bS (qY hI bS) g2
theorem bQ0 {expr:P Tree} {f E d:Nat} {s s':St} {t:Tree} (hp:wd [112,117,115,104] (nxt E s) = true) (h:eV f expr E d s = some (t,s')) :
    ∃ n,gI expr 54 2 E d s = some (n,s')∧t = ⟨13,((nxt E s).2.2.2.1:Nat),[],0,[n]⟩:=by
 unfold eV at h
 replace h:=aN h
 rw [if_pos hp] at h
 obtain ⟨n,s1,g1,g2⟩:=aE h
 obtain ⟨hT,rfl⟩:=aJ g2
 refine ⟨n,g1,?_⟩
 have ha:n.at_ = ((nxt E s).2.2.2.1:Nat):=by
  unfold gI at g1
  obtain ⟨tk,s2,c1,c2⟩:=aE g1
  obtain ⟨rfl,rfl⟩:=aV c1
  obtain ⟨p,s3,c3,c4⟩:=aE c2
  obtain ⟨hT2,rfl⟩:=aJ c4
  rw [← hT2]
 rw [← hT]
 unfold doP
 rw [ha]
theorem xQ {expr:P Tree} (hd:Ds expr) {f E d:Nat} {s s':St} {t:Tree} (hI:Iv s) (hp:wd [112,117,115,104] (nxt E s) = false) (hn:nm (nxt E s) = false) (h:eV f expr E d s = some (t,s')):s' = bD E s:=by
 unfold eV at h
 replace h:=aN h
 rw [if_neg (by rw [hp]; simp)] at h
 obtain ⟨n,s1,g1,g2⟩:=aE h
 obtain rfl:=iL0 hd hI hn g1
 refine Ds.go ?_ bS (qY hI bS) g2
 exact bW (qE hd f _) fun n=>fV dC (bW (hY0 f _ _) fun l=>bW lH fun t=>bW hd fun x=>dC)
theorem fE0 {f E d:Nat} {s s':St} {a l:List Tree} (h:pB f false a E d s = some (l,s')):l = a∧s' = s:=by
 cases f with
 | zero=>cases h
 | succ f=>?_
 unfold pB at h
 replace h:=aN h
 rw [if_neg (by simp)] at h
 obtain ⟨rfl,rfl⟩:=aJ h
 exact ⟨rfl,rfl⟩
theorem jH0 {expr:P Tree} {f E d:Nat} {s s':St} {t:Tree} (hp:wd [112,117,115,104] (nxt E s) = false) (hn:nm (nxt E s) = true) (h:eV f expr E d s = some (t,s')) :
    ∃ n s1,((sg [40] (bE E s 1) = true∧aN0 f expr E d s = some (n,s1)∧n.kind = 45∧n.at_ = ((nxt E s).2.2.2.1:Nat))∨(sg [40] (bE E s 1) = false∧n = ⟨44,((nxt E s).2.2.2.1:Nat),(nxt E s).2.1,0,[]⟩∧s1 = aS s)) ∧
    ((sg [46] (nxt E s1) = false∧sg [91] (nxt E s1) = false∧((n.kind = 45∧t = doP n∧s' = s1)∨(n.kind = 44∧∃ l s4,pB f true [n] E d s1 = some (l,s4)∧kR0 l expr E d s4 = some (t,s')))) ∨
     ((sg [46] (nxt E s1) = true∨sg [91] (nxt E s1) = true)∧∃ n2 s3,eH expr f n E d s1 = some (n2,s3)∧kR0 [n2] expr E d s3 = some (t,s'))):=by
 unfold eV at h
 replace h:=aN h
 rw [if_neg (by rw [hp]; simp)] at h
 obtain ⟨n,s1,g1,g2⟩:=aE h
 obtain ⟨n2,s3,g3,g4⟩:=aE g2
 have hk:n.kind = 45∨n.kind = 44:=by
  rcases rX hn g1 with ⟨_,_,q,_⟩ | ⟨_,q,_⟩
  · exact .inl q
  rw [q]; exact .inr rfl
 refine ⟨n,s1,rX hn g1,?_⟩
 rcases gM0 f n E d s1 n2 s3 g3 with ⟨h1,h2,rfl,rfl⟩ | ⟨h1,h2⟩
 · refine .inl ⟨h1,h2,?_⟩
   rcases hk with hk | hk
   · rw [if_pos (by rw [hk]; rfl)] at g4
     obtain ⟨rfl,rfl⟩:=aJ g4
     exact .inl ⟨hk,rfl,rfl⟩
   rw [if_neg (by rw [hk]; simp)] at g4
   obtain ⟨l,s4,c1,c2⟩:=aE g4
   rw [hk] at c1
   exact .inr ⟨hk,l,s4,c1,c2⟩
 refine .inr ⟨h1,n2,s3,g3,?_⟩
 have hne:¬ (n2.kind == 45) = true:=by rcases h2 with q | q <;> rw [q] <;> simp
 have hf:(n2.kind == 44) = false:=by rcases h2 with q | q <;> rw [q] <;> rfl
 rw [if_neg hne] at g4
 obtain ⟨l,s4,c1,c2⟩:=aE g4
 rw [hf] at c1
 obtain ⟨rfl,rfl⟩:=fE0 c1
 exact c2
theorem wO0 {typ expr:P Tree} {f E d:Nat} {s s':St} {t:Tree} (hn:(nxt E s).1 = 2) (h:cB f typ expr E d s = some (t,s')):t = ⟨40,((nxt E s).2.2.2.1:Nat),(nxt E s).2.1,(nxt E s).2.2.1,[]⟩∧s' = aS s:=by
 have h2:nu (nxt E s) = true:=by unfold nu; rw [hn]; rfl
 unfold cB at h
 replace h:=aN h
 rw [if_pos h2] at h
 obtain ⟨tk,s1,g1,g2⟩:=aE h
 obtain ⟨hT,rfl⟩:=aJ g2
 obtain ⟨_,rfl,rfl⟩:=(cU g1).resolve_right fun q=>by rw [h2] at q; exact absurd q.1 (by simp)
 exact ⟨hT.symm,rfl⟩
theorem uJ0 {typ expr:P Tree} {f E d:Nat} {s s':St} {t:Tree} (hn:(nxt E s).1 = 3) (h:cB f typ expr E d s = some (t,s')):t = ⟨41,((nxt E s).2.2.2.1:Nat),(nxt E s).2.1,0,[]⟩∧s' = aS s:=by
 have h2:nu (nxt E s) = false:=by unfold nu; rw [hn]; rfl
 unfold cB at h
 replace h:=aN h
 rw [if_neg (by rw [h2]; simp),if_pos (by rw [hn]; rfl)] at h
 obtain ⟨tk,s1,g1,g2⟩:=aE h
 obtain ⟨rfl,rfl⟩:=aV g1
 obtain ⟨rfl,rfl⟩:=aJ g2
 exact ⟨rfl,rfl⟩
theorem tX {typ expr:P Tree} {f E d:Nat} {s:St} (h1:(nxt E s).1 = 1):cB f typ expr E d s =
    (if wd [116,114,117,101] (nxt E s) then bnd dA fun t=>ret ⟨42,t.2.2.2.1,[],0,[]⟩
     else if wd [102,97,108,115,101] (nxt E s) then bnd dA fun t=>ret ⟨43,t.2.2.2.1,[],0,[]⟩
     else if wd [110,101,119] (nxt E s) then bnd dA fun t=>bnd typ fun k=>bnd (eE f expr) fun l=>ret ⟨47,t.2.2.2.1,[],0,k :: l⟩
     else gN f expr:P Tree) E d s:=by
 have e1:nu (nxt E s) = false:=by unfold nu; rw [h1]; rfl
 have e2:((nxt E s).1 == 3) = false:=by rw [h1]; rfl
 have e3:sg [40] (nxt E s) = false:=sZ h1
 unfold cB
 show (if nu (nxt E s) then _ else _:P Tree) E d s = _
 rw [if_neg (by rw [e1]; simp),if_neg (by rw [e2]; simp),if_neg (by rw [e3]; simp)]
theorem mN0 {typ expr:P Tree} {f E d:Nat} {s s':St} {t:Tree} (hn:wd [116,114,117,101] (nxt E s) = true) (h:cB f typ expr E d s = some (t,s')):t = ⟨42,((nxt E s).2.2.2.1:Nat),[],0,[]⟩∧s' = aS s:=by
 rw [tX (fW hn).1,if_pos hn] at h
 obtain ⟨tk,s1,g1,g2⟩:=aE h
 obtain ⟨rfl,rfl⟩:=aV g1
 obtain ⟨rfl,rfl⟩:=aJ g2
 exact ⟨rfl,rfl⟩
theorem eE0 {typ expr:P Tree} {f E d:Nat} {s s':St} {t:Tree} (hn:wd [102,97,108,115,101] (nxt E s) = true) (h:cB f typ expr E d s = some (t,s')):t = ⟨43,((nxt E s).2.2.2.1:Nat),[],0,[]⟩∧s' = aS s:=by
 rw [tX (fW hn).1,if_neg (by rw [cX hn (by decide)]; simp),if_pos hn] at h
 obtain ⟨tk,s1,g1,g2⟩:=aE h
 obtain ⟨rfl,rfl⟩:=aV g1
 obtain ⟨rfl,rfl⟩:=aJ g2
 exact ⟨rfl,rfl⟩
theorem pC0 {typ expr:P Tree} {f E d:Nat} {s s':St} {t:Tree} (hn:wd [110,101,119] (nxt E s) = true) (h:cB f typ expr E d s = some (t,s')):∃ k s1 l,typ E d (aS s) = some (k,s1)∧eE f expr E d s1 = some (l,s')∧t = ⟨47,((nxt E s).2.2.2.1:Nat),[],0,k :: l⟩:=by
 rw [tX (fW hn).1,if_neg (by rw [cX hn (by decide)]; simp),if_neg (by rw [cX hn (by decide)]; simp),if_pos hn] at h
 obtain ⟨tk,s1,g1,g2⟩:=aE h
 obtain ⟨rfl,rfl⟩:=aV g1
 obtain ⟨k,s2,g3,g4⟩:=aE g2
 obtain ⟨l,s3,g5,g6⟩:=aE g4
 obtain ⟨rfl,rfl⟩:=aJ g6
 exact ⟨k,s2,l,g3,g5,rfl⟩
theorem kV {typ expr:P Tree} {f E d:Nat} {s:St} (h1:(nxt E s).1 = 1) (a:wd [116,114,117,101] (nxt E s) = false) (b:wd [102,97,108,115,101] (nxt E s) = false) (c:wd [110,101,119] (nxt E s) = false):cB f typ expr E d s = gN f expr E d s:=by
 rw [tX h1,if_neg (by rw [a]; simp),if_neg (by rw [b]; simp),if_neg (by rw [c]; simp)]
theorem dG0 {t:Tok} (h:nC t = true):t.1 = 1∧(t.2.1 = [105,56]∨t.2.1 = [105,51,50]∨t.2.1 = [105,54,52]):=by
 unfold nC at h
 rcases Bool.or_eq_true_iff.1 h with h | h
 · rcases Bool.or_eq_true_iff.1 h with h | h
   · exact ⟨(fW h).1,.inl (fW h).2⟩
   exact ⟨(fW h).1,.inr (.inl (fW h).2)⟩
 exact ⟨(fW h).1,.inr (.inr (fW h).2)⟩
theorem fN0 {t:Tok} {x:List Nat} (h:nC t = true) (h1:x ≠ [105,56]) (h2:x ≠ [105,51,50]) (h3:x ≠ [105,54,52]):wd x t = false:=by
 obtain ⟨_,q⟩:=dG0 h
 cases hb:wd x t with
 | false=>rfl
 | true=>?_
 have:=(fW hb).2
 rcases q with q | q | q <;> rw [q] at this
 · exact absurd this.symm h1
 · exact absurd this.symm h2
 exact absurd this.symm h3
theorem qO0 {typ expr:P Tree} {f E d:Nat} {s s':St} {t:Tree} (hn:nC (nxt E s) = true) (h:cB f typ expr E d s = some (t,s')):∃ n,gI expr 46 1 E d s = some (n,s')∧t = ⟨n.kind,n.at_,(nxt E s).2.1,n.n,n.kids⟩:=by
 rw [kV (dG0 hn).1 (fN0 hn (by decide) (by decide) (by decide)) (fN0 hn (by decide) (by decide) (by decide)) (fN0 hn (by decide) (by decide) (by decide))] at h
 unfold gN at h
 replace h:=aN h
 rw [if_pos hn] at h
 obtain ⟨n,s1,g1,g2⟩:=aE h
 obtain ⟨rfl,rfl⟩:=aJ g2
 exact ⟨n,g1,rfl⟩
theorem zV {t:Tok} {x:List Nat} (h:wd x t = true) (h1:x ≠ [105,56]) (h2:x ≠ [105,51,50]) (h3:x ≠ [105,54,52]):nC t = false:=by
 unfold nC
 rw [cX h h1,cX h h2,cX h h3]
 rfl
theorem tQ0 {typ expr:P Tree} {f E d:Nat} {s s':St} {t:Tree} (hn:wd [108,101,110] (nxt E s) = true) (h:cB f typ expr E d s = some (t,s')):gI expr 50 1 E d s = some (t,s'):=by
 rw [kV (fW hn).1 (cX hn (by decide)) (cX hn (by decide)) (cX hn (by decide))] at h
 unfold gN at h
 replace h:=aN h
 rw [if_neg (by rw [zV hn (by decide) (by decide) (by decide)]; simp),if_pos hn] at h
 exact h
theorem tD0 {typ expr:P Tree} {f E d:Nat} {s s':St} {t:Tree} (hn:wd [99,117,116] (nxt E s) = true) (h:cB f typ expr E d s = some (t,s')):gI expr 51 3 E d s = some (t,s'):=by
 rw [kV (fW hn).1 (cX hn (by decide)) (cX hn (by decide)) (cX hn (by decide))] at h
 unfold gN at h
 replace h:=aN h
 rw [if_neg (by rw [zV hn (by decide) (by decide) (by decide)]; simp),if_neg (by rw [cX hn (by decide)]; simp),if_pos hn] at h
 exact h
theorem lE0 {typ expr:P Tree} {f E d:Nat} {s s':St} {t:Tree} (hn:wd [98,121,116,101] (nxt E s) = true) (h:cB f typ expr E d s = some (t,s')):gI expr 52 1 E d s = some (t,s'):=by
 rw [kV (fW hn).1 (cX hn (by decide)) (cX hn (by decide)) (cX hn (by decide))] at h
 unfold gN at h
 replace h:=aN h
 rw [if_neg (by rw [zV hn (by decide) (by decide) (by decide)]; simp),if_neg (by rw [cX hn (by decide)]; simp),if_neg (by rw [cX hn (by decide)]; simp),if_pos hn] at h
 exact h
theorem sL0 {typ expr:P Tree} {f E d:Nat} {s s':St} {t:Tree} (hn:wd [112,111,112] (nxt E s) = true) (h:cB f typ expr E d s = some (t,s')):gI expr 53 1 E d s = some (t,s'):=by
 rw [kV (fW hn).1 (cX hn (by decide)) (cX hn (by decide)) (cX hn (by decide))] at h
 unfold gN at h
 replace h:=aN h
 rw [if_neg (by rw [zV hn (by decide) (by decide) (by decide)]; simp),if_neg (by rw [cX hn (by decide)]; simp),if_neg (by rw [cX hn (by decide)]; simp),if_neg (by rw [cX hn (by decide)]; simp),if_pos hn] at h
 exact h
theorem yR0 {t:Tok} (h:nm t = true):nC t = false:=by
 unfold nC
 rw [mN h (by decide),mN h (by decide),mN h (by decide)]
 rfl
theorem uU {expr:P Tree} {f E d:Nat} {s:St} (a:nC (nxt E s) = false) (b:wd [108,101,110] (nxt E s) = false) (c:wd [99,117,116] (nxt E s) = false) (e:wd [98,121,116,101] (nxt E s) = false) (g:wd [112,111,112] (nxt E s) = false):gN f expr E d s = lR f expr E d s:=by
 unfold gN
 show (if nC (nxt E s) then _ else _:P Tree) E d s = _
 rw [if_neg (by rw [a]; simp),if_neg (by rw [b]; simp),if_neg (by rw [c]; simp),if_neg (by rw [e]; simp),if_neg (by rw [g]; simp)]
theorem yC0 {typ expr:P Tree} {f E d:Nat} {s:St} (hn:nm (nxt E s) = true):cB f typ expr E d s = lR f expr E d s:=by
 rw [kV (pF0 hn) (mN hn (by decide)) (mN hn (by decide)) (mN hn (by decide))]
 exact uU (yR0 hn) (mN hn (by decide)) (mN hn (by decide)) (mN hn (by decide)) (mN hn (by decide))
theorem uV0 {typ expr:P Tree} {f E d:Nat} {s s':St} {t:Tree} (hn:sg [40] (nxt E s) = true) (h:cB f typ expr E d s = some (t,s')):∃ p,fM [40] [41] expr E d s = some (p,s')∧t = p.2:=by
 have h4:=(nO0 hn).1
 have e1:nu (nxt E s) = false:=by unfold nu; rw [h4]; rfl
 have e2:((nxt E s).1 == 3) = false:=by rw [h4]; rfl
 unfold cB at h
 replace h:=aN h
 rw [if_neg (by rw [e1]; simp),if_neg (by rw [e2]; simp),if_pos hn] at h
 obtain ⟨p,s1,g1,g2⟩:=aE h
 obtain ⟨rfl,rfl⟩:=aJ g2
 exact ⟨p,g1,rfl⟩
theorem wE0 {typ expr:P Tree} (hd:Ds expr) {f E d:Nat} {s s':St} {t:Tree} (hI:Iv s) (h2:(nxt E s).1 ≠ 2) (h3:(nxt E s).1 ≠ 3) (a1:wd [116,114,117,101] (nxt E s) = false) (a2:wd [102,97,108,115,101] (nxt E s) = false) (a3:nm (nxt E s) = false) (a4:nC (nxt E s) = false) (a5:wd [108,101,110] (nxt E s) = false) (a6:wd [99,117,116] (nxt E s) = false) (a7:wd [98,121,116,101] (nxt E s) = false) (a8:wd [112,111,112] (nxt E s) = false) (a9:wd [110,101,119] (nxt E s) = false) (a10:sg [40] (nxt E s) = false) (h:cB f typ expr E d s = some (t,s')):s' = bD E s:=by
 have e1:nu (nxt E s) = false:=by unfold nu; simpa using h2
 have e2:((nxt E s).1 == 3) = false:=by simpa using h3
 unfold cB at h
 replace h:=aN h
 rw [if_neg (by rw [e1]; simp),if_neg (by rw [e2]; simp),if_neg (by rw [a10]; simp),if_neg (by rw [a1]; simp),if_neg (by rw [a2]; simp),if_neg (by rw [a9]; simp),uU a4 a5 a6 a7 a8] at h
 exact iL0 hd hI a3 h
theorem mY {expr:P Tree} (HP:cY 40 expr) (hbs:Bs expr 0):∀ (w0 w:World) (r E d:Nat) (s:St) (l l':List Tree) (v:Value) (t:Tree) (s':St),r < w0.heap.size→Kp r w0 w→ZAt w r E d s→E≤1048576→bK w (fun g=>w0.heap.size≤g) v l'→(s'.wrong = 0→l' = l)→l'.length≤900000000→kR0 l expr E d s = some (t,s') →
    Calls Tryz.prog 195 #[.pointer (some ⟨r,0,none⟩),v] w (pC w0 r E d t s'):=by
 intro w0 w r E d s l l' v t s' hrl hK hR hE hrow hl hlen hm
 have hs00:=hK.size
 obtain ⟨tk,s1,g1,g2⟩:=aE hm
 obtain ⟨x0,s2,g3,g4⟩:=aE g2
 obtain ⟨hT,rfl⟩:=aJ g4
 obtain ⟨ao,cap,rfl⟩:=hrow.shapeZ
 have ql:bK w (fun g=>w0.heap.size≤g∧g < w.heap.size) (.slice ao l'.length cap) l':=hrow.imp fun g h1 h2=>⟨h2,h1⟩
 have HL:=hI hl
 clear hl
 obtain ⟨q,hq⟩:=iQ (aR [61] (nxt E s))
 have hqm:sg [61] (nxt E s) = q:=by rw [← hq]; exact (aX (hR.nxt_wf 0) (fun c r h=>by cases h; rfl)).symm
 obtain ⟨hs1,htk⟩:=fR g1 hqm
 have HS1:=hI hs1
 have HTK:=hI htk
 have HM:=hI g3
 have HMO:Hid (s2.wrong = 0→s1.wrong = 0):=bP hbs g3
 have HT':=hI hT
 clear hm g1 g2 g3 g4 hT hs1 htk hrow hqm
 go_enter Tryz.func195,Tryz.ntmps195
 go_upto_region 1 with fail
 have oR:=Own.new w nZ 25
 obtain ⟨hR,hK,ql⟩:=(fun y9=>And.intro (hR.alloc y9) (And.intro (hK.alloc y9) (ql.on fun _ _ _ h=>h.alloc y9))) (.cells nZ 25)
 generalize w.alloc _ = w1 at hR hK oR ql ⊢
 have hs1:=oR.lt
 go_wp2_with fail
 refine (bU hR).mono ?_
 rintro en w2 ⟨⟨x,rfl,hx⟩,hb⟩
 have HX:=hI hx
 clear hx
 have hs2:=hb.size
 replace hR:=hR.below hb
 replace hK:=hK.trans (Kp.of hb)
 replace oR:=oR.below hb
 replace ql:=ql.on fun _ _ _ o=>o.below hb
 clear hb
 go_upto_region 2 with fail
 have oN:=Own.new w2 (nD 12 (x:Int) ⟨#[]⟩ 0 (.slice ao l'.length cap)) 25
 obtain ⟨hR,hK,oR,ql⟩:=(fun y9=>And.intro (hR.alloc y9) (And.intro (hK.alloc y9) (And.intro (oR.alloc y9) (ql.on fun _ _ _ h=>h.alloc y9)))) (.cells (nD 12 (x:Int) ⟨#[]⟩ 0 (.slice ao l'.length cap)) 25)
 generalize w2.alloc _ = w3 at hR hK oR oN ql ⊢
 have hs3:=oN.lt
 go_wp2_with fail
 refine (cQ hR ⟨#[61]⟩ q hq).mono ?_
 rintro en w4 ⟨⟨_,rfl⟩,hR2,hK2⟩
 rw [HS1.out] at hR2
 have hs4:=hK2.size
 replace oR:=oR.kp hK2 (by omega)
 replace oN:=oN.kp hK2 (by omega)
 replace ql:=ql.on fun _ _ _ o=>o.kp hK2 (by omega)
 replace hK:=hK.trans hK2
 replace hR:=hR2
 clear hK2 hR2 hq
 go_wp2_with fail
 refine (HP _ r E d s1 x0 s2 hR hE HM.out).mono ?_
 rintro en w5 ⟨t1,k1,a1,b1,n1,v1,rfl,hN1,ht1,hR2,hK2⟩
 obtain ⟨ao1,cap1,rfl⟩:=Row.shape hN1.2.2.2.2
 have q1:aZ w5 (fun g=>w4.heap.size≤g∧g < w5.heap.size) t1 k1 a1 b1 n1 (.slice ao1 t1.kids.length cap1):=hN1.q.imp fun g h1 h2=>⟨h2,h1⟩
 have HT1:=hI ht1
 clear hN1 ht1
 have hs5:=hK2.size
 replace oR:=oR.kp hK2 (by omega)
 replace oN:=oN.kp hK2 (by omega)
 replace ql:=ql.on fun _ _ _ o=>o.kp hK2 (by omega)
 replace hK:=hK.trans hK2
 replace hR:=hR2
 clear hK2 hR2
 go_upto_region 4 with fail
 have oX:=Own.new w5 (nQ k1 a1 b1 n1 ao1 t1 cap1) 25
 obtain ⟨hR,hK,oR,oN,ql,q1⟩:=(fun y9=>And.intro (hR.alloc y9) (And.intro (hK.alloc y9) (And.intro (oR.alloc y9) (And.intro (oN.alloc y9) (And.intro (ql.on fun _ _ _ h=>h.alloc y9) (q1.on fun _ _ _ h=>h.alloc y9)))))) (.cells (nQ k1 a1 b1 n1 ao1 t1 cap1) 25)
 generalize w5.alloc _ = w6 at hR hK oR oN oX ql q1 ⊢
 have hs6:=oX.lt
 obtain ⟨oN0,oN1,oN2,oN3,oN4,oNf⟩:=oN.five
 have oNl:=oN.lt
 obtain ⟨oX0,oX1,oX2,oX3,oX4,oXf⟩:=oX.five
 have oXl:=oX.lt
 go_wp2_with (first | (at_builtin; refine cT rfl (.tmp 16) (.tmp 18) rfl (fun g=>w0.heap.size≤g∧g < w.heap.size) (fun g=>w4.heap.size≤g∧g < w5.heap.size) (fun g=>w0.heap.size≤g∧g ≠ w.heap.size∧g ≠ w2.heap.size) _ l' rfl (ql.on fun g hg cur ho=>ho.alloc _) t1 k1 a1 b1 n1 (.slice ao1 t1.kids.length cap1) w6.heap.size rfl (Own.new w6 _ _) (q1.on fun g hg cur ho=>ho.alloc _) (fun g h1 h2=>by omega) (fun g h0 h1=>⟨by omega,by omega,by omega⟩) (fun g h0 h1=>⟨by omega,by omega,by omega⟩) (by rw [World.size_alloc]; exact ⟨by omega,by omega,by omega⟩) (by omega) ?_; intro aoA7 capA7 wU hrowU gzU hvbU; have oU:=(oN.alloc _).grown gzU (fun e=>by have:=(hvbU _ e.symm).1; omega); have oRU:=(oR.alloc _).grown gzU (fun e=>by have:=(hvbU _ e.symm).1; omega)) | (refine aQ rfl (.tmp 20) (.tmp 19) rfl rfl (w2.heap.size) 4 rfl rfl oU (by simp) ?_; intro w7 oV gzV; obtain ⟨oV0,oV1,oV2,oV3,oV4,oVf⟩:=oV.five; have oVl:=oV.lt; have oRV:=oRU.grown gzV (aG (by omega))) | (refine aF rfl (.tmp 4) (.tmp 21) rfl rfl (w.heap.size) rfl rfl oRV ⟨rfl,rfl,rfl,rfl,rfl⟩ ?_; intro wz oz gz))
 clear oN0 oN1 oN2 oN3 oN4 oNf oNl oX0 oX1 oX2 oX3 oX4 oXf oXl
 have hllU:(l' ++ [t1]).length = l'.length + 1:=by simp
 rw [hllU] at hrowU
 have hsU:=gzU.size
 rw [World.size_alloc] at hsU
 have hsV:=gzV.size
 replace hR:=((hR.alloc (.cells (nQ k1 a1 b1 n1 ao1 t1 cap1) 25)).grown gzU (fun k hk=>by have:=(hvbU k hk).1; omega)).grown gzV (aH (by omega))
 replace hK:=((hK.alloc (.cells (nQ k1 a1 b1 n1 ao1 t1 cap1) 25)).grown gzU (fun k hk=>by have:=(hvbU k hk).1; omega)).grown gzV (aI (by omega))
 clear oX q1
 replace oR:=((oR.alloc (.cells (nQ k1 a1 b1 n1 ao1 t1 cap1) 25)).grown gzU (fun e=>by have:=(hvbU _ e.symm).1; omega)).grown gzV (aG (by omega))
 replace oN:Own w7 (w2.heap.size) (nD 12 (x:Int) ⟨#[]⟩ 0 (.slice aoA7 (l'.length + 1) capA7)) 25:=oV
 clear ql
 have ql:=hrowU.on fun _ _ _ o=>o.grown gzV (aG (by omega))
 have hs7:w6.heap.size < w7.heap.size:=by omega
 clear hrowU gzU hvbU oU oV gzV hllU hsU hsV oRU oRV oV0 oV1 oV2 oV3 oV4 oVf oVl
 refine aC (t:=25) rfl rfl rfl oz Tryz.underlying25 rfl (by kernel_rfl) ?_
 refine ⟨⟨12,(x:Int),[],0,l' ++ [t1]⟩,_,_,_,_,_,rfl,⟨rfl,rfl,rfl,rfl,bK.row ((ql.on fun _ _ _ o=>o.grown gz (aG (by omega))).imp fun g _ h=>by omega)⟩,fun h0=>?_,hR.grown gz (aH (by omega)),hK.grown gz (aI (by omega))⟩
 obtain ⟨e1,e2,e3⟩:=HTK.out (HMO.out h0)
 rw [← HT'.out,HT1.out h0,HL.out h0,HX.out e1,e3]
def aU0 (fn n:Nat) (m:P Tree):Prop:=∀ (w:World) (r E d:Nat) (s:St) (t:Tree) (s':St) (z:Int),z = (n:Int)→ZAt w r E d s→E≤1048576→m E d s = some (t,s')→Calls Tryz.prog fn #[.pointer (some ⟨r,0,none⟩),.int .i64 z] w (pC w r E d t s')
theorem fH0 {m:P Tree} (HL:aU0 84 0 m):cY 40 m:=by
 intro w r E d s t s' hR hE hm
 have hrl:=hR.lt
 have hne2:w.heap.size ≠ r:=by omega
 have HM:=hI hm
 have HZ0:Hid (ZAt (w.alloc (.cells nZ 25)) r E d s):=hR.alloc _
 clear hm hR
 go_enter Tryz.func40,Tryz.ntmps40
 go_wp2_with fail
 refine (HL _ r E d s t s' 0 rfl HZ0.out hE HM.out).mono ?_
 rintro en w1 ⟨t1,k1,a1,b1,n1,v1,rfl,hN1,ht1,hR1,hK1⟩
 obtain ⟨ao1,cap1,rfl⟩:=Row.shape hN1.2.2.2.2
 have o1:=(Own.new w nZ 25).kp hK1 hne2
 have hs0:w.heap.size < (w.alloc (.cells nZ 25)).heap.size:=by rw [World.size_alloc]; omega
 have HN:=hI hN1
 have HK:Hid (Kp r w w1):=(Kp.of ((Below.refl _ _).alloc (Nat.le_refl _) _)).trans hK1
 have HT1:=hI ht1
 have HZ1:=hI hR1
 have HR1:=hI o1
 obtain ⟨z0,z1,z2,z3,z4,zf⟩:=o1.five
 have hlR:=o1.lt
 clear hN1 hK1 ht1 hR1 o1 HM HZ0 HL
 go_wp2
 refine aC (t:=25) rfl rfl rfl (Own.set5 HR1.out _ _ _ _ _) Tryz.underlying25 rfl (by kernel_rfl) ?_
 exact ⟨t1,_,_,_,_,_,rfl,⟨HN.out.1,HN.out.2.1,HN.out.2.2.1,HN.out.2.2.2.1,(HN.out.2.2.2.2.set5 hs0 _ _ _ _ _).mono (Nat.le_of_lt hs0)⟩,HT1.out,ZAt.set5 HZ1.out hrl _ _ _ _ _,HK.out.set5 (.inl (Nat.le_refl _)) _ _ _ _ _⟩
end Go.Proofs.YtnipenijihkgdaaGreatDoor
