import Derived.Test.YtnipenijihkgdaaGreatDoorQ0
namespace Go.Proofs.YtnipenijihkgdaaGreatDoor
set_option linter.unusedVariables false
def Iv (s:St):Prop:=s.wrong ≠ 0→s.rest = []
def M (s:St):Nat:=if s.wrong = 0 then s.rest.length + 1 else 0
def Tot {A:Type} (m:P A) (E d:Nat) (s:St) (k:Nat):Prop:=∃ a s',m E d s = some (a,s')∧Iv s'∧M s'≤k
theorem Tot.le {A:Type} {m:P A} {E d:Nat} {s:St} {k k':Nat} (h:Tot m E d s k) (hk:k≤k'):Tot m E d s k':=by
 obtain ⟨a,s',h1,h2,h3⟩:=h
 exact ⟨a,s',h1,h2,Nat.le_trans h3 hk⟩
theorem bI {A:Type} {a:A} {E d:Nat} {s:St} {k:Nat} (hI:Iv s) (h:M s≤k):Tot (ret a) E d s k:=⟨a,s,rfl,hI,h⟩
theorem aL {A C:Type} {m:P A} {f:A→P C} {E d:Nat} {s:St} {k k1:Nat} (h:Tot m E d s k1) (h2:∀ a s',Iv s'→M s'≤k1→Tot (f a) E d s' k):Tot (bnd m f) E d s k:=by
 obtain ⟨a,s',e,hI,hM⟩:=h
 obtain ⟨b,s2,e2,h3⟩:=h2 a s' hI hM
 exact ⟨b,s2,by simp only [bnd,e,e2],h3⟩
theorem cS {A:Type} {f:Tok→P A} {E d:Nat} {s:St} {k:Nat} (h:Tot (f (nxt E s)) E d s k):Tot (eT f) E d s k:=h
theorem eK0 {s:St} (h:Iv s):Iv (aS s):=fun e=>by
 have:=h e
 simp [aS,this]
theorem bI1 (s:St):M (aS s)≤M s:=by
 unfold M aS
 split <;> simp
theorem eJ {E:Nat} {s:St} (h:Iv s) (hn:(nxt E s).1 ≠ 0):2≤M s∧M (aS s) + 1 = M s:=by
 obtain ⟨r,wr,p⟩:=s
 cases r with
 | nil=>simp [nxt,bE] at hn
 | cons t r=>?_
 by_cases hw:wr = 0
 · subst hw; simp [M,aS]
 exact absurd (h hw) (by simp)
theorem qY {E:Nat} {s:St} (h:Iv s):Iv (bD E s):=by
 unfold bD eO
 split
 · intro _; rfl
 exact h
theorem qG0 {E:Nat} {s:St}:M (bD E s) = 0:=by
 unfold bD eO
 split
 · rfl
 rename_i h; simp [M,h]
theorem uN0 {d:Nat} {t:Tok} {s:St} (h:Iv s):Iv (eL d t s):=by
 unfold eL eO
 split
 · split
   · intro _; rfl
   exact h
 exact h
theorem zA0 {d:Nat} {t:Tok} {s:St}:M (eL d t s)≤M s:=by
 unfold eL eO
 split
 · split
   · simp [M]
   exact Nat.le_refl _
 exact Nat.le_refl _
theorem iU {E d:Nat} {s:St} (hI:Iv s):Tot dA E d s (M s):=⟨_,_,rfl,eK0 hI,bI1 s⟩
theorem dU {E d:Nat} {s:St} (hI:Iv s) (hn:(nxt E s).1 ≠ 0):Tot dA E d s (M s - 1):=⟨_,_,rfl,eK0 hI,by have:=eJ hI hn; omega⟩
theorem dP {q:Tok→Bool} {E d:Nat} {s:St} (hI:Iv s) (hq:∀ t,q t = true→t.1 ≠ 0):Tot (cZ q) E d s (M s - 1):=by
 unfold Tot cZ eT eQ
 simp only []
 by_cases h:q (nxt E s) = true
 · rw [if_pos h]; exact ⟨_,_,rfl,eK0 hI,by have:=eJ hI (hq _ h); omega⟩
 rw [if_neg h]; exact ⟨_,_,rfl,qY hI,by rw [qG0]; omega⟩
theorem rK {A:Type} {t:Tok} {m:P A} {E d:Nat} {s:St} {k:Nat} (hI:Iv s) (h:∀ s',Iv s'→M s'≤M s→Tot m E (d + 1) s' k):Tot (eK t m) E d s k:=h _ (uN0 hI) zA0
theorem cJ {x:List Nat} {t:Tok} (h:sg x t = true):t.1 ≠ 0:=by
 simp only [sg,Bool.and_eq_true,beq_iff_eq] at h; omega
theorem bR {x:List Nat} {t:Tok} (h:wd x t = true):t.1 ≠ 0:=by
 simp only [wd,Bool.and_eq_true,beq_iff_eq] at h; omega
theorem eN {t:Tok} (h:nm t = true):t.1 ≠ 0:=by
 simp only [nm,Bool.and_eq_true,beq_iff_eq] at h; omega
theorem hQ0 {t:Tok} (h:nu t = true):t.1 ≠ 0:=by
 simp only [nu,beq_iff_eq] at h; omega
theorem iR0 {t:Tok} (h:cn t = true):t.1 ≠ 0:=by
 simp only [cn,Bool.and_eq_true,beq_iff_eq] at h; omega
theorem wZ {t:Tok} (h:mQ t = true):t.1 ≠ 0:=by
 simp only [mQ,Bool.or_eq_true] at h
 rcases h with (((h | h) | h) | h) | h <;> exact bR h
theorem zA {t:Tok} (h:nC t = true):t.1 ≠ 0:=by
 simp only [nC,Bool.or_eq_true] at h
 rcases h with (h | h) | h <;> exact bR h
theorem wC {t:Tok} (h:gU t = true):t.1 ≠ 0:=by
 simp only [gU,Bool.or_eq_true] at h
 rcases h with (h | h) | h <;> exact bR h
theorem yT {t:Tok} (h:¬ (bX t).1 = 0):t.1 ≠ 0:=by
 intro e; apply h; unfold bX; rw [e]; rfl
theorem qT {t:Tok} (h:¬ iE t = 0):t.1 ≠ 0:=by
 intro e; apply h; unfold iE sg; rw [e]; rfl
theorem gP {A:Type} {x y:List Nat} {m:P A} {E d:Nat} {s:St} {k:Nat} (hI:Iv s) (h:∀ s',Iv s'→M s'≤M s - 1→Tot m E (d + 1) s' (M s')):Tot (fM x y m) E d s (M s - 1):=by
 unfold fM
 refine aL (dP hI fun t=>cJ) fun t s1 h1 m1=>?_
 refine aL (rK (k:=M s1) h1 fun s2 h2 m2=>(h s2 h2 (by omega)).le m2) fun a s3 h3 m3=>?_
 refine aL (dP h3 fun t=>cJ) fun _ s4 h4 m4=>?_
 exact bI h4 (by omega)
def Tl {A:Type} (part:P A) (m:Nat):Prop:=∀ E d s,Iv s→M s < m→Tot part E d s (M s)
def TT {A:Type} (part:P A) (m:Nat):Prop:=∀ E d s,Iv s→(M s < m∨M s = 0)→Tot part E d s (M s)
def Te {A:Type} (part:P A) (m:Nat):Prop:=∀ E d s,Iv s→M s≤m→Tot part E d s (M s)
theorem TT.l {A:Type} {part:P A} {m:Nat} (h:TT part m):Tl part m:=fun E d s hI hm=>h E d s hI (.inl hm)
theorem Te.l {A:Type} {part:P A} {m:Nat} (h:Te part m):Tl part m:=fun E d s hI hm=>h E d s hI (by omega)
theorem Tl.le {A:Type} {part:P A} {m m':Nat} (h:Tl part m) (hm:m'≤m):Tl part m':=fun E d s hI h1=>h E d s hI (by omega)
theorem lK0 {part:P Tree} {m:Nat} (hp:Tl part m):∀ (f:Nat) (acc:List Tree) (E d:Nat) (s:St),Iv s→M s≤m→M s < f→Tot (gJ part f acc) E d s (M s):=by
 intro f
 induction f with
 | zero=>intro _ _ _ _ _ _ h; omega
 | succ f ih=>?_
 intro acc E d s hI hm hf
 unfold gJ
 refine cS ?_
 split
 · rename_i hs
   have hl:=eJ hI (cJ hs)
   refine aL (dU hI (cJ hs)) fun _ s1 h1 m1=>aL (hp E d s1 h1 (by omega)) fun n s2 h2 m2=>?_
   exact (ih _ E d s2 h2 (by omega) (by omega)).le (by omega)
 exact bI hI (Nat.le_refl _)
theorem nH {part:P Tree} {m f E d:Nat} {s:St} (h0:Tot part E d s (M s)) (hp:Tl part m) (hm:M s≤m) (hf:M s < f):Tot (iF f part) E d s (M s):=by
 unfold iF
 refine aL h0 fun n s1 h1 m1=>(lK0 hp f _ E d s1 h1 (by omega) (by omega)).le m1
theorem mM {part:P Tree} {m f E d:Nat} {s:St} (hp:Tl part m) (hI:Iv s) (h1m:1≤m) (hm:M s≤m) (hf:M s < f):Tot (eE f part) E d s (M s - 1):=by
 unfold eE
 refine aL (gP (k:=M s) hI fun s1 h1 m1=>?_) fun x s2 h2 m2=>bI h2 m2
 refine cS ?_
 split
 · exact bI h1 (Nat.le_refl _)
 exact nH (hp E _ s1 h1 (by omega)) hp (by omega) (by omega)
theorem lM0 {rec:P Tree} {E d:Nat} {s:St} (hI:Iv s) (hp:Tl rec (M s)):Tot (lO rec) E d s (M s):=by
 unfold lO
 refine cS ?_
 split
 · exact aL (iU hI) fun t s1 h1 m1=>bI h1 m1
 split
 · rename_i hs
   have hl:=eJ hI (cJ hs)
   refine aL (gP (k:=M s) hI fun s1 h1 m1=>?_) fun x s2 h2 m2=>?_
   · refine cS ?_
     split
     · exact aL (iU h1) fun t s1 h1 m1=>bI h1 m1
     exact bI h1 (Nat.le_refl _)
   refine aL (rK h2 fun s3 h3 m3=>(hp E _ s3 h3 (by omega)).le m3) fun k s4 h4 m4=>bI h4 (by omega)
 exact ⟨_,_,rfl,qY hI,by rw [qG0]; omega⟩
theorem lN0 {k:Nat} {next:P Tree} {m:Nat} (hp:Tl next m):∀ (f:Nat) (n:Tree) (E d:Nat) (s:St),Iv s→M s≤m→M s < f→Tot (mB k next f n) E d s (M s):=by
 intro f
 induction f with
 | zero=>intro _ _ _ _ _ _ h; omega
 | succ f ih=>?_
 intro n E d s hI hm hf
 unfold mB
 refine cS ?_
 split
 · exact bI hI (Nat.le_refl _)
 rename_i hs
 have hb:¬ (bX (nxt E s)).1 = 0:=fun e=>hs (.inl e)
 have hl:=eJ hI (yT hb)
 refine aL (dU hI (yT hb)) fun t s1 h1 m1=>aL (hp E d s1 h1 (by omega)) fun x s2 h2 m2=>?_
 split
 · exact bI h2 (by omega)
 exact (ih _ E d s2 h2 (by omega) (by omega)).le (by omega)
theorem jA0 {unary:P Tree} {m f:Nat} (hp:Te unary m) (hf:m < f):∀ (j:Nat),Te (lQ unary f j) m:=by
 intro j
 induction j with
 | zero=>exact hp
 | succ j ih=>?_
 intro E d s hI hm
 unfold lQ
 exact aL (ih E d s hI hm) fun n s1 h1 m1=>(lN0 ih.l f n E d s1 h1 (by omega) (by omega)).le m1
theorem wL {expr:P Tree} {m:Nat} (hp:Tl expr m):∀ (f:Nat) (n:Tree) (E d:Nat) (s:St),Iv s→M s≤m→M s < f→Tot (eH expr f n) E d s (M s):=by
 intro f
 induction f with
 | zero=>intro _ _ _ _ _ _ h; omega
 | succ f ih=>?_
 intro n E d s hI hm hf
 unfold eH
 refine cS ?_
 split
 · rename_i hs
   have hl:=eJ hI (cJ hs)
   refine aL (dU hI (cJ hs)) fun _ s1 h1 m1=>aL (dP h1 fun t=>eN) fun x s2 h2 m2=>?_
   exact (ih _ E d s2 h2 (by omega) (by omega)).le (by omega)
 split
 · rename_i hs
   have hl:=eJ hI (cJ hs)
   refine aL (gP (k:=M s) hI fun s1 h1 m1=>hp E _ s1 h1 (by omega)) fun x s2 h2 m2=>?_
   exact (ih _ E d s2 h2 (by omega) (by omega)).le (by omega)
 exact bI hI (Nat.le_refl _)
theorem sQ {E d:Nat} {s:St} (hI:Iv s):Tot mT E d s (M s - 1):=aL (dP hI fun t=>hQ0) fun t s1 h1 m1=>bI h1 m1
theorem dL0 {E d:Nat} {s:St} (hI:Iv s):Tot pG E d s (M s - 1):=aL (dP hI fun t=>eN) fun t s1 h1 m1=>bI h1 m1
theorem uP0 {E d:Nat} {s:St} (hI:Iv s):Tot vW E d s (M s - 1):=aL (dP hI fun t=>eN) fun t s1 h1 m1=>bI h1 m1
theorem aZ0 {expr:P Tree} {m f E d:Nat} {s:St} (hp:Tl expr m) (hI:Iv s) (hm:M s≤m) (hf:M s < f):Tot (lR f expr) E d s (M s - 1):=by
 unfold lR
 refine aL (dL0 hI) fun n s1 h1 m1=>cS ?_
 split
 · rename_i hs
   have hl:=eJ h1 (cJ hs)
   exact aL (mM hp h1 (by omega) (by omega) (by omega)) fun l s2 h2 m2=>bI h2 (by omega)
 exact bI h1 m1
theorem mS0 {expr:P Tree} {m:Nat} (hp:Te expr m):∀ (c i:Nat) (acc:List Tree) (E d:Nat) (s:St),Iv s→M s≤m→Tot (kT expr c i acc) E d s (M s):=by
 intro c
 induction c with
 | zero=>intro i acc E d s hI _; exact bI hI (Nat.le_refl _)
 | succ c ih=>?_
 intro i acc E d s hI hm
 unfold kT
 split
 · refine aL (dP hI fun t=>cJ) fun _ s1 h1 m1=>aL (hp E d s1 h1 (by omega)) fun n s2 h2 m2=>(ih _ _ E d s2 h2 (by omega)).le (by omega)
 exact aL (hp E d s hI hm) fun n s2 h2 m2=>(ih _ _ E d s2 h2 (by omega)).le (by omega)
theorem nI {expr:P Tree} {k c E d:Nat} {s:St} (hI:Iv s) (hp:Te expr (M s - 1)):Tot (gI expr k c) E d s (M s - 1):=by
 unfold gI
 refine aL (iU hI) fun t s1 h1 m1=>aL (gP (k:=M s) h1 fun s2 h2 m2=>mS0 hp c 0 _ E _ s2 h2 (by omega)) fun x s3 h3 m3=>bI h3 (by omega)
theorem Tl.e {A:Type} {part:P A} {m k:Nat} (h:Tl part m) (hk:k < m):Te part k:=fun E d s hI hm=>h E d s hI (by omega)
theorem jC0 {expr:P Tree} {m f E d:Nat} {s:St} (hp:Tl expr m) (hI:Iv s) (hm:M s≤m) (hf:M s < f):Tot (gN f expr) E d s (M s - 1):=by
 unfold gN
 refine cS ?_
 split
 · rename_i hs
   have hl:=eJ hI (zA hs)
   exact aL (nI hI (hp.e (by omega))) fun n s1 h1 m1=>bI h1 m1
 split
 · rename_i hs
   have hl:=eJ hI (bR hs)
   exact nI hI (hp.e (by omega))
 split
 · rename_i hs
   have hl:=eJ hI (bR hs)
   exact nI hI (hp.e (by omega))
 split
 · rename_i hs
   have hl:=eJ hI (bR hs)
   exact nI hI (hp.e (by omega))
 split
 · rename_i hs
   have hl:=eJ hI (bR hs)
   exact nI hI (hp.e (by omega))
 exact aZ0 hp hI hm hf
theorem bT0 {typ expr:P Tree} {m f E d:Nat} {s:St} (ht:Tl typ m) (hp:Tl expr m) (hI:Iv s) (hm:M s≤m) (hf:M s < f):Tot (cB f typ expr) E d s (M s):=by
 unfold cB
 refine cS ?_
 split
 · exact (sQ hI).le (by omega)
 split
 · exact aL (iU hI) fun t s1 h1 m1=>bI h1 m1
 split
 · rename_i hs
   have hl:=eJ hI (cJ hs)
   exact aL (gP (k:=M s) hI fun s1 h1 m1=>hp E _ s1 h1 (by omega)) fun x s2 h2 m2=>bI h2 (by omega)
 split
 · exact aL (iU hI) fun t s1 h1 m1=>bI h1 m1
 split
 · exact aL (iU hI) fun t s1 h1 m1=>bI h1 m1
 split
 · rename_i hs
   have hl:=eJ hI (bR hs)
   refine aL (dU hI (bR hs)) fun t s1 h1 m1=>aL (ht E d s1 h1 (by omega)) fun k s2 h2 m2=>?_
   exact aL (mM hp h2 (by omega) (by omega) (by omega)) fun l s3 h3 m3=>bI h3 (by omega)
 exact (jC0 hp hI hm hf).le (by omega)
theorem iY0 {rec typ expr:P Tree} {f E d:Nat} {s:St} (hI:Iv s) (hr:Tl rec (M s)) (ht:Tl typ (M s)) (hp:Tl expr (M s)) (hf:M s < f):Tot (kK f rec typ expr) E d s (M s):=by
 unfold kK
 refine cS ?_
 split
 · exact aL (bT0 ht hp hI (Nat.le_refl _) hf) fun n s1 h1 m1=>(wL hp f n E d s1 h1 m1 (by omega)).le m1
 rename_i hs
 have hl:=eJ hI (qT hs)
 refine aL (dU hI (qT hs)) fun t s1 h1 m1=>aL (rK h1 fun s2 h2 m2=>(hr E _ s2 h2 (by omega)).le m2) fun n s3 h3 m3=>bI h3 (by omega)
theorem sS {typ:P Tree} {E d:Nat} {s:St} (hI:Iv s) (ht:Te typ (M s - 1)):Tot (gD typ) E d s (M s - 1):=by
 unfold gD
 exact aL (dP hI fun t=>eN) fun t s1 h1 m1=>aL (ht E d s1 h1 m1) fun k s2 h2 m2=>bI h2 (by omega)
theorem kW {stmts:P (List Tree)} {E d:Nat} {s:St} (hI:Iv s) (ht:TT stmts (M s)):Tot (cN stmts) E d s (M s - 1):=by
 unfold cN
 exact aL (gP (k:=M s) hI fun s1 h1 m1=>ht E _ s1 h1 (by omega)) fun x s2 h2 m2=>bI h2 m2
theorem TT.le {A:Type} {part:P A} {m m':Nat} (h:TT part m) (hm:m'≤m):TT part m':=fun E d s hI h1=>h E d s hI (by omega)
theorem qT0 : ∀ (f:Nat) (go:Bool) (acc:List Tree) (E d:Nat) (s:St),Iv s→M s < f→Tot (pB f go acc) E d s (M s):=by
 intro f
 induction f with
 | zero=>intro _ _ _ _ _ _ h; omega
 | succ f ih=>?_
 intro go acc E d s hI hf
 unfold pB
 refine cS ?_
 split
 · rename_i hs
   have hs2:=(Bool.and_eq_true_iff.1 hs).2
   have hl:=eJ hI (cJ hs2)
   refine aL (dU hI (cJ hs2)) fun _ s1 h1 m1=>aL (dL0 h1) fun n s2 h2 m2=>?_
   exact (ih _ _ E d s2 h2 (by omega)).le (by omega)
 exact bI hI (Nat.le_refl _)
theorem vM {expr:P Tree} {f E d:Nat} {s:St} (hp:TT expr (M s)) (hI:Iv s) (hf:M s < f):Tot (eV f expr) E d s (M s - 1):=by
 unfold eV
 refine cS ?_
 split
 · rename_i hs
   have hl:=eJ hI (bR hs)
   exact aL (nI hI (hp.l.e (by omega))) fun n s1 h1 m1=>bI h1 m1
 refine aL (aZ0 hp.l hI (Nat.le_refl _) hf) fun n s1 h1 m1=>aL (wL hp.l f n E d s1 h1 (by omega) (by omega)) fun n2 s2 h2 m2=>?_
 split
 · exact bI h2 (by omega)
 refine aL (qT0 f _ _ E d s2 h2 (by omega)) fun l s3 h3 m3=>aL (dP h3 fun t=>cJ) fun t s4 h4 m4=>aL (hp E d s4 h4 (by omega)) fun x s5 h5 m5=>bI h5 (by omega)
theorem sA0 (m:Nat):Te vW m:=fun E d s hI _=>(uP0 hI).le (by omega)
theorem iE0 {expr:P Tree} {f E d:Nat} {s:St} (hp:TT expr (M s)) (hI:Iv s) (hf:M s < f):Tot (qG f expr) E d s (M s - 1):=by
 unfold qG
 refine cS ?_
 split
 · rename_i hs
   have hl:=eJ hI (bR hs)
   refine aL (dU hI (bR hs)) fun t s1 h1 m1=>aL (nH ((sA0 (M s1)) E d s1 h1 (Nat.le_refl _)) (sA0 (M s1)).l (Nat.le_refl _) (by omega)) fun l s2 h2 m2=>?_
   exact aL (dP h2 fun t=>cJ) fun t s4 h4 m4=>aL (hp E d s4 h4 (by omega)) fun x s5 h5 m5=>bI h5 (by omega)
 exact vM hp hI hf
theorem aR0 {k E d:Nat} {s:St} (hI:Iv s) (hn:(nxt E s).1 ≠ 0):Tot (nK k) E d s (M s - 1):=by
 unfold nK
 refine aL (dU hI hn) fun t s1 h1 m1=>cS ?_
 split
 · exact aL (iU h1) fun _ s2 h2 m2=>bI h2 (by omega)
 exact bI h1 m1
theorem lP0 {expr:P Tree} {f E d:Nat} {s:St} (hp:TT expr (M s)) (hI:Iv s) (hf:M s < f):Tot (fU f expr) E d s (M s - 1):=by
 unfold fU
 refine cS ?_
 split
 · rename_i hs; exact aR0 hI (bR hs)
 split
 · rename_i hs; exact aR0 hI (bR hs)
 split
 · rename_i hs
   have hl:=eJ hI (bR hs)
   refine aL (dU hI (bR hs)) fun t s1 h1 m1=>cS ?_
   split
   · exact bI h1 m1
   exact aL (nH (hp E d s1 h1 (by omega)) hp.l (by omega) (by omega)) fun l s2 h2 m2=>bI h2 (by omega)
 split
 · rename_i hs
   refine aL (dU hI (bR hs)) fun t s1 h1 m1=>aL (dP h1 fun t h=>iR0 (Bool.and_eq_true_iff.1 h).1) fun c s2 h2 m2=>bI h2 (by omega)
 exact iE0 hp hI hf
theorem qM {x:List Nat} {part:P Tree} {E d:Nat} {s:St} (hI:Iv s) (hp:Tot part E d s (M s)):Tot (jD x part) E d s (M s):=by
 unfold jD
 refine cS ?_
 split
 · exact bI hI (Nat.le_refl _)
 exact hp
theorem eZ0 {expr:P Tree} {stmts:P (List Tree)} {f E d:Nat} {s:St} (hp:TT expr (M s)) (hs:TT stmts (M s)) (hI:Iv s) (hf:M s < f):Tot (jV f expr stmts) E d s (M s):=by
 unfold jV
 refine aL (qM hI ((iE0 hp hI hf).le (by omega))) fun a s1 h1 m1=>aL (dP h1 fun t=>cJ) fun _ s2 h2 m2=>?_
 refine aL (qM h2 (hp E d s2 h2 (by omega))) fun a s3 h3 m3=>aL (dP h3 fun t=>cJ) fun _ s4 h4 m4=>?_
 refine aL (qM h4 ((vM (hp.le (by omega)) h4 (by omega)).le (by omega))) fun a s5 h5 m5=>aL (kW h5 (hs.le (by omega))) fun k s6 h6 m6=>bI h6 (by omega)
theorem kC0 {E d:Nat} {s:St} (hI:Iv s):Tot jF E d s (M s):=by
 unfold jF
 refine cS ?_
 split
 · exact aL (iU hI) fun t s1 h1 m1=>aL (sQ h1) fun n s2 h2 m2=>bI h2 (by omega)
 exact (sQ hI).le (by omega)
theorem dV0 (m:Nat):Te jF m:=fun E d s hI _=>kC0 hI
theorem hI0 {stmts:P (List Tree)} {E d:Nat} {s:St} (hI:Iv s) (hs:TT stmts (M s)):Tot (pA stmts) E d s (M s - 1):=by
 unfold pA
 exact aL (dP hI fun t=>cJ) fun t s1 h1 m1=>aL (hs E d s1 h1 (by omega)) fun l s2 h2 m2=>bI h2 (by omega)
theorem lQ0 {stmts:P (List Tree)} {m g:Nat} (hs:TT stmts m):∀ (f:Nat) (acc:List Tree) (E d:Nat) (s:St),Iv s→M s≤m→M s < f→M s < g→Tot (oO g stmts f acc) E d s (M s):=by
 intro f
 induction f with
 | zero=>intro _ _ _ _ _ _ h; omega
 | succ f ih=>?_
 intro acc E d s hI hm hf hg
 unfold oO
 refine cS ?_
 split
 · rename_i hw
   have hl:=eJ hI (bR hw)
   refine aL (dU hI (bR hw)) fun t s1 h1 m1=>aL (nH ((dV0 (M s1)) E d s1 h1 (Nat.le_refl _)) (dV0 (M s1)).l (Nat.le_refl _) (by omega)) fun l s2 h2 m2=>?_
   refine aL (hI0 h2 (hs.le (by omega))) fun a s3 h3 m3=>(ih _ E d s3 h3 (by omega) (by omega) (by omega)).le (by omega)
 exact bI hI (Nat.le_refl _)
theorem eX0 {expr:P Tree} {stmts:P (List Tree)} {f E d:Nat} {s:St} (hp:Tot expr E d s (M s)) (hs:TT stmts (M s)) (hI:Iv s) (hf:M s < f):Tot (jU f expr stmts) E d s (M s):=by
 unfold jU
 refine aL hp fun x s1 h1 m1=>aL (gP (k:=M s1) h1 fun s2 h2 m2=>?_) fun y s3 h3 m3=>bI h3 (by omega)
 refine aL (lQ0 hs f _ E _ s2 h2 (by omega) (by omega) (by omega)) fun l s3 h3 m3=>cS ?_
 split
 · refine aL (iU h3) fun t s4 h4 m4=>aL (hI0 h4 (hs.le (by omega))) fun a s5 h5 m5=>bI h5 (by omega)
 exact bI h3 m3
theorem bM0 {expr:P Tree} {stmts:P (List Tree)} {label:List Nat} {f E d:Nat} {s:St} (hp:TT expr (M s)) (hs:TT stmts (M s)) (hI:Iv s) (hf:M s < f):Tot (iD f label expr stmts) E d s (M s - 1):=by
 unfold iD
 refine aL (dP hI fun t=>wC) fun t s1 h1 m1=>?_
 split
 · exact aL (hp E d s1 h1 (by omega)) fun x s2 h2 m2=>aL (kW h2 (hs.le (by omega))) fun k s3 h3 m3=>bI h3 (by omega)
 split
 · exact aL (eZ0 (hp.le (by omega)) (hs.le (by omega)) h1 (by omega)) fun l s2 h2 m2=>bI h2 (by omega)
 split
 · exact aL (eX0 (hp E d s1 h1 (by omega)) (hs.le (by omega)) h1 (by omega)) fun l s2 h2 m2=>bI h2 (by omega)
 exact bI h1 m1
theorem wX {rec expr:P Tree} {stmts:P (List Tree)} {E d k:Nat} {s:St} (hI:Iv s) (ht:Tot dA E d s k) (hk:k≤M s) (hr:Tl rec (M s)) (hp:Te expr (M s)) (hs:TT stmts (M s)):Tot (lG rec expr stmts) E d s k:=by
 unfold lG
 refine aL ht fun t s1 h1 m1=>aL (hp E d s1 h1 (by omega)) fun x s2 h2 m2=>aL (kW h2 (hs.le (by omega))) fun b s3 h3 m3=>cS ?_
 split
 · rename_i hw
   have hl:=eJ h3 (bR hw)
   refine aL (dU h3 (bR hw)) fun o s4 h4 m4=>cS ?_
   split
   · exact aL (rK h4 fun s5 h5 m5=>(hr E _ s5 h5 (by omega)).le m5) fun n s6 h6 m6=>bI h6 (by omega)
   exact aL (kW h4 (hs.le (by omega))) fun n s5 h5 m5=>bI h5 (by omega)
 exact bI h3 (by omega)
def TB (branch:P Tree) (m:Nat):Prop:=∀ E d s,Iv s→M s≤m→Tot branch E d s (M s)∧((nxt E s).1 ≠ 0→Tot branch E d s (M s - 1))
theorem TB.l {branch:P Tree} {m:Nat} (h:TB branch m):Te branch m:=fun E d s hI hm=>(h E d s hI hm).1
theorem fW0 {E:Nat} {s:St} (h:jH E s = true):(nxt E s).1 ≠ 0:=eN (Bool.and_eq_true_iff.1 h).1
theorem nR0 {branch expr:P Tree} {stmts:P (List Tree)} {f E d:Nat} {s:St} (hb:TB branch (M s)) (hp:TT expr (M s)) (hs:TT stmts (M s)) (hI:Iv s) (hf:M s < f):Tot (iM f branch expr stmts) E d s (M s - 1):=by
 unfold Tot iM
 split
 · exact kW hI hs
 split
 · rename_i hw; exact (hb E d s hI (Nat.le_refl _)).2 (bR hw)
 split
 · exact bM0 hp hs hI hf
 split
 · rename_i hw
   refine aL (dU hI (fW0 hw)) fun l s1 h1 m1=>aL (iU h1) fun _ s2 h2 m2=>(bM0 (hp.le (by omega)) (hs.le (by omega)) h2 (by omega)).le (by omega)
 exact aL (lP0 hp hI hf) fun n s1 h1 m1=>aL (dP h1 fun t=>cJ) fun _ s2 h2 m2=>bI h2 (by omega)
theorem fP0 {stmt:P Tree} {m:Nat} (hp:∀ E d s,Iv s→M s≤m→1≤M s→Tot stmt E d s (M s - 1)):∀ (f:Nat) (acc:List Tree) (E d:Nat) (s:St),Iv s→M s≤m→M s < f→Tot (fZ stmt f acc) E d s (M s):=by
 intro f
 induction f with
 | zero=>intro _ _ _ _ _ _ h; omega
 | succ f ih=>?_
 intro acc E d s hI hm hf
 unfold Tot fZ
 split
 · rename_i hw
   have hl:1≤M s:=by unfold M; rw [if_pos hw.1]; omega
   exact aL (hp E d s hI hm hl) fun n s1 h1 m1=>(ih _ E d s1 h1 (by omega) (by omega)).le (by omega)
 exact ⟨_,_,rfl,hI,Nat.le_refl _⟩
theorem cR0 {typ:P Tree} {m:Nat} (hp:Tl typ m):∀ (f:Nat) (acc:List Tree) (E d:Nat) (s:St),Iv s→M s≤m→M s < f→Tot (jT typ f acc) E d s (M s):=by
 intro f
 induction f with
 | zero=>intro _ _ _ _ _ _ h; omega
 | succ f ih=>?_
 intro acc E d s hI hm hf
 unfold jT
 refine cS ?_
 split
 · rename_i hw
   have hl:=eJ hI (eN hw)
   exact aL (sS hI (hp.e (by omega))) fun n s1 h1 m1=>aL (dP h1 fun t=>cJ) fun _ s2 h2 m2=>(ih _ E d s2 h2 (by omega) (by omega)).le (by omega)
 exact bI hI (Nat.le_refl _)
theorem gC0 {typ:P Tree} {f E d:Nat} {s:St} (hp:Te typ (M s)) (hI:Iv s) (hn:(nxt E s).1 ≠ 0) (hf:M s < f):Tot (jS f typ) E d s (M s - 1):=by
 unfold jS
 refine aL (dU hI hn) fun _ s1 h1 m1=>aL (dP h1 fun t=>eN) fun t s2 h2 m2=>aL (gP (k:=M s) h2 fun s3 h3 m3=>cR0 hp.l f _ E _ s3 h3 (by omega) (by omega)) fun x s4 h4 m4=>bI h4 (by omega)
theorem tE {typ:P Tree} {f E d:Nat} {s:St} (hp:Te typ (M s)) (hI:Iv s) (hf:M s < f):Tot (fH f typ) E d s (M s):=by
 unfold fH
 refine cS ?_
 split
 · exact bI hI (Nat.le_refl _)
 split
 · exact aL (gP (k:=M s) hI fun s1 h1 m1=>nH (hp E _ s1 h1 (by omega)) hp.l (by omega) (by omega)) fun x s2 h2 m2=>bI h2 (by omega)
 exact aL (hp E d s hI (Nat.le_refl _)) fun n s1 h1 m1=>bI h1 m1
theorem zI {typ:P Tree} {stmts:P (List Tree)} {f E d:Nat} {s:St} (hp:Te typ (M s)) (hs:TT stmts (M s)) (hI:Iv s) (hn:(nxt E s).1 ≠ 0) (hf:M s < f):Tot (gB f typ stmts) E d s (M s - 1):=by
 unfold gB
 have hl:=eJ hI hn
 refine aL (dU hI hn) fun _ s1 h1 m1=>aL (dP h1 fun t=>eN) fun t s2 h2 m2=>cS ?_
 refine aL (mM (m:=M s) (fun E d s' hI' h'=>(sS hI' fun E d s3 h3 m3=>hp E d s3 h3 (by omega)).le (by omega)) h2 (by omega) (by omega) (by omega)) fun l s3 h3 m3=>?_
 refine aL (tE (fun E d s' hI' h'=>hp E d s' hI' (by omega)) h3 (by omega)) fun r s4 h4 m4=>aL (kW h4 (hs.le (by omega))) fun k s5 h5 m5=>bI h5 (by omega)
theorem zO {typ:P Tree} {stmts:P (List Tree)} {m g:Nat} (hp:Te typ m) (hs:TT stmts m):∀ (f:Nat) (acc:List Tree) (E d:Nat) (s:St),Iv s→M s≤m→M s < f→M s < g→Tot (dD g typ stmts f acc) E d s (M s):=by
 intro f
 induction f with
 | zero=>intro _ _ _ _ _ _ h; omega
 | succ f ih=>?_
 intro acc E d s hI hm hf hg
 unfold dD
 refine cS ?_
 split
 · rename_i hw
   have hl:=eJ hI (bR hw)
   exact aL (gC0 (fun E d s' hI' h'=>hp E d s' hI' (by omega)) hI (bR hw) hg) fun n s1 h1 m1=>(ih _ E d s1 h1 (by omega) (by omega) (by omega)).le (by omega)
 split
 · rename_i hw
   have hl:=eJ hI (bR hw)
   exact aL (zI (fun E d s' hI' h'=>hp E d s' hI' (by omega)) (hs.le hm) hI (bR hw) hg) fun n s1 h1 m1=>(ih _ E d s1 h1 (by omega) (by omega) (by omega)).le (by omega)
 exact bI hI (Nat.le_refl _)
theorem xP : ∀ f:Nat,(∀ E d s,Iv s→4 * M s + 1≤f→Tot (R f).typ E d s (M s))∧(∀ E d s,Iv s→4 * M s + 2≤f→Tot (R f).unary E d s (M s))∧(∀ E d s,Iv s→4 * M s + 3≤f→Tot (R f).expr E d s (M s)) ∧
    (∀ E d s,Iv s→4 * M s + 4≤f→Tot (R f).branch E d s (M s)∧((nxt E s).1 ≠ 0→Tot (R f).branch E d s (M s - 1)))∧(∀ E d s,Iv s→(4 * M s + 5≤f∨(M s = 0∧2≤f))→Tot (R f).stmts E d s (M s)):=by
 intro f
 induction f with
 | zero=>exact ⟨fun _ _ _ _ h=>by omega,fun _ _ _ _ h=>by omega,fun _ _ _ _ h=>by omega,fun _ _ _ _ h=>by omega,fun _ _ _ _ h=>by omega⟩
 | succ f ih=>?_
 obtain ⟨ht,hu,he,hb,hs⟩:=ih
 refine ⟨fun E d s hI h=>?_,fun E d s hI h=>?_,fun E d s hI h=>?_,fun E d s hI h=>?_,fun E d s hI h=>?_⟩
 · exact lM0 hI fun E d s' hI' h'=>ht E d s' hI' (by omega)
 · exact iY0 hI (fun E d s' hI' h'=>hu E d s' hI' (by omega)) (fun E d s' hI' h'=>ht E d s' hI' (by omega)) (fun E d s' hI' h'=>he E d s' hI' (by omega)) (by omega)
 · exact jA0 (m:=M s) (fun E d s' hI' h'=>hu E d s' hI' (by omega)) (by omega) 5 E d s hI (Nat.le_refl _)
 · have h1:Tl (R f).branch (M s):=fun E d s' hI' h'=>(hb E d s' hI' (by omega)).1
   have h2:Te (R f).expr (M s):=fun E d s' hI' h'=>he E d s' hI' (by omega)
   have h3:TT (R f).stmts (M s):=fun E d s' hI' h'=>hs E d s' hI' (by omega)
   exact ⟨wX hI (iU hI) (Nat.le_refl _) h1 h2 h3,fun hn=>wX hI (dU hI hn) (by omega) h1 h2 h3⟩
 by_cases h0:M s = 0
 · show Tot (fZ _ f []) E d s (M s)
   cases f with
   | zero=>omega
   | succ f=>?_
   unfold Tot fZ
   have hw:¬ s.wrong = 0:=by intro e; unfold M at h0; rw [if_pos e] at h0; omega
   rw [if_neg (fun q=>hw q.1)]
   exact ⟨_,_,rfl,hI,Nat.le_refl _⟩
 refine fP0 (m:=M s) (fun E d s' hI' h' h1=>?_) f [] E d s hI (Nat.le_refl _) (by omega)
 refine nR0 (fun E d s2 hI2 h2=>hb E d s2 hI2 (by omega)) (fun E d s2 hI2 h2=>he E d s2 hI2 (by omega)) (fun E d s2 hI2 h2=>hs E d s2 hI2 (by omega)) hI' (by omega)
theorem vU0 (E:Nat) (ts:List Tok) (f:Nat) (hf:4 * ts.length + 20≤f):∃ n s,(R f).typ E 0 ⟨ts,0,0⟩ = some (n,s)∧Iv s:=by
 obtain ⟨n,s,h1,h2,_⟩:=(xP f).1 E 0 ⟨ts,0,0⟩ (fun h=>absurd rfl h) (by simp [M]; omega)
 exact ⟨n,s,h1,h2⟩
theorem qK0 (E:Nat) (ts:List Tok) (f:Nat) (hf:4 * ts.length + 20≤f):∃ n s,(R f).expr E 0 ⟨ts,0,0⟩ = some (n,s)∧Iv s:=by
 obtain ⟨n,s,h1,h2,_⟩:=(xP f).2.2.1 E 0 ⟨ts,0,0⟩ (fun h=>absurd rfl h) (by simp [M]; omega)
 exact ⟨n,s,h1,h2⟩
theorem dW0 (E:Nat) (ts:List Tok) (f:Nat) (hf:4 * ts.length + 20≤f):∃ n s,kS f E 0 ⟨ts,0,0⟩ = some (n,s)∧Iv s:=by
 obtain ⟨n,s,h1,h2,_⟩:=zO (m:=M ⟨ts,0,0⟩) (g:=f) (fun E d s hI h=>(xP f).1 E d s hI (by simp [M] at h ⊢; omega)) (fun E d s hI h=>(xP f).2.2.2.2 E d s hI (by simp [M] at h ⊢; omega)) f [] E 0 ⟨ts,0,0⟩ (fun h=>absurd rfl h) (Nat.le_refl _) (by simp [M]; omega) (by simp [M]; omega)
 exact ⟨n,s,h1,h2⟩
def Ba {A:Type} (m:P A) (E d:Nat) (s:St) (c:Nat):Prop:=∀ a s',m E d s = some (a,s')→(s.wrong ≠ 0→s'.wrong = s.wrong)∧(s'.wrong = 0→∃ pre,s.rest = pre ++ s'.rest∧c≤pre.length)
def Bs {A:Type} (m:P A) (c:Nat):Prop:=∀ E d s,Ba m E d s c
theorem Ba.le {A:Type} {m:P A} {E d:Nat} {s:St} {c c':Nat} (h:Ba m E d s c) (hc:c'≤c):Ba m E d s c':=fun a s' e =>
 ⟨(h a s' e).1,fun q=>by obtain ⟨p,h1,h2⟩:=(h a s' e).2 q; exact ⟨p,h1,by omega⟩⟩
theorem Bs.le {A:Type} {m:P A} {c c':Nat} (h:Bs m c) (hc:c'≤c):Bs m c':=fun E d s=>(h E d s).le hc
theorem bN {A:Type} {a:A} {E d:Nat} {s:St}:Ba (ret a) E d s 0:=by
 rintro _ _ ⟨⟩
 exact ⟨fun _=>rfl,fun _=>⟨[],rfl,Nat.le_refl _⟩⟩
theorem iB {A:Type} {E d:Nat} {s:St} {c:Nat}:Ba (fun _ _ _=>none:P A) E d s c:=by rintro _ _ ⟨⟩
theorem aT {A C:Type} {m:P A} {f:A→P C} {E d:Nat} {s:St} {c c1 c2:Nat} (h:Ba m E d s c1) (h2:∀ a s',m E d s = some (a,s')→Ba (f a) E d s' c2) (hc:c≤c1 + c2):Ba (bnd m f) E d s c:=by
 intro b s2 e
 unfold bnd at e
 match hm:m E d s,e with
 | some (a,s1),e =>
  obtain ⟨k1,t1⟩:=h a s1 hm
  obtain ⟨k2,t2⟩:=h2 a s1 hm b s2 e
  refine ⟨fun q=>?_,fun q=>?_⟩
  · have e1:=k1 q
    exact (k2 (by rw [e1]; exact q)).trans e1
  obtain ⟨p2,e2,l2⟩:=t2 q
  have hw:s1.wrong = 0:=Classical.byContradiction fun n=>n ((k2 n).symm.trans q)
  obtain ⟨p1,e1,l1⟩:=t1 hw
  exact ⟨p1 ++ p2,by rw [e1,e2,List.append_assoc],by rw [List.length_append]; omega⟩
theorem dB {A:Type} {f:Tok→P A} {E d:Nat} {s:St} {c:Nat} (h:Ba (f (nxt E s)) E d s c):Ba (eT f) E d s c:=h
theorem eY {E d:Nat} {s:St}:Ba dA E d s 0:=by
 rintro _ _ ⟨⟩
 refine ⟨fun _=>rfl,fun _=>?_⟩
 cases h:s.rest with
 | nil=>exact ⟨[],by simp [aS,h],Nat.le_refl _⟩
 | cons t r=>exact ⟨[t],by simp [aS,h],by simp⟩
theorem iX0 {E:Nat} {s:St} (hn:(nxt E s).1 ≠ 0):∃ r,s.rest = nxt E s :: r:=by
 cases h:s.rest with
 | nil=>simp [nxt,bE,h] at hn
 | cons t r=>exact ⟨r,by simp [nxt,bE,h]⟩
theorem jN {E d:Nat} {s:St} (hn:(nxt E s).1 ≠ 0):Ba dA E d s 1:=by
 rintro _ _ ⟨⟩
 obtain ⟨r,hr⟩:=iX0 hn
 exact ⟨fun _=>rfl,fun _=>⟨[nxt E s],by simp [aS,hr],Nat.le_refl _⟩⟩
theorem bS {E:Nat} {s:St}:(bD E s).wrong ≠ 0:=by
 unfold bD eO
 split
 · simp
 assumption
theorem gM {p e:Nat} {s:St} (h:s.wrong ≠ 0):eO p e s = s:=by
 unfold eO; rw [if_neg h]
theorem eS {q:Tok→Bool} {E d:Nat} {s:St} (hq:∀ t,q t = true→t.1 ≠ 0):Ba (cZ q) E d s 1:=by
 unfold cZ eT eQ Ba
 simp only []
 by_cases h:q (nxt E s) = true
 · rw [if_pos h]; exact jN (d:=d) (hq _ h)
 rw [if_neg h]
 rintro _ _ ⟨⟩
 exact ⟨fun n=>by unfold bD; rw [gM n],fun n=>absurd n bS⟩
theorem uI0 {E d:Nat} {s:St} {c:Nat}:Ba pJ0 E d s c:=by
 rintro _ _ ⟨⟩
 exact ⟨fun n=>by unfold bD; rw [gM n],fun n=>absurd n bS⟩
theorem uI {A:Type} {t:Tok} {m:P A} {E d:Nat} {s:St} {c:Nat} (h:∀ s',Ba m E (d + 1) s' c):Ba (eK t m) E d s c:=by
 intro a s' e
 unfold eK eL at e
 split at e
 · by_cases hw:s.wrong = 0
   · refine ⟨fun n=>absurd hw n,fun n=>?_⟩
     have hf:(eO t.2.2.2.1 41 s).wrong = 41:=by unfold eO; rw [if_pos hw]
     have:=(h _ a s' e).1 (by rw [hf]; decide)
     rw [hf] at this; omega
   rw [gM hw] at e
   exact h _ a s' e
 exact h _ a s' e
theorem iZ {A:Type} {x y:List Nat} {m:P A} {E d:Nat} {s:St} {c:Nat} (h:Bs m c):Ba (fM x y m) E d s (c + 2):=by
 unfold fM
 refine aT (eS fun t=>cJ) (fun t s1 _=>aT (uI fun s2=>h E _ s2) (fun a s3 _=>aT (eS fun t=>cJ) (fun _ s4 _=>bN) (c:=1) (by omega)) (c:=c + 1) (by omega)) (by omega)
theorem nJ {part:P Tree} {c:Nat} (hp:Bs part c):∀ (f:Nat) (acc:List Tree),Bs (gJ part f acc) 0:=by
 intro f
 induction f with
 | zero=>intro acc E d s; exact iB
 | succ f ih=>?_
 intro acc E d s
 unfold gJ
 refine dB ?_
 split
 · exact aT eY (fun _ s1 _=>aT (hp E d s1) (fun n s2 _=>ih _ E d s2) (c:=0) (by omega)) (by omega)
 exact bN
theorem mC {part:P Tree} {c:Nat} (hp:Bs part c) (f:Nat):Bs (iF f part) c:=fun E d s=>by
 unfold iF
 exact aT (hp E d s) (fun n s1 _=>nJ hp f _ E d s1) (by omega)
theorem qL {part:P Tree} {c:Nat} (hp:Bs part c) (f:Nat):Bs (eE f part) 2:=fun E d s=>by
 unfold eE
 refine aT (iZ (c:=0) fun E d s1=>dB ?_) (fun x s2 _=>bN) (by omega)
 split
 · exact bN
 exact (mC hp f E d s1).le (by omega)
theorem nI0 {rec:P Tree} {c:Nat} (hp:Bs rec c):Bs (lO rec) 1:=fun E d s=>by
 unfold lO
 refine dB ?_
 split
 · rename_i h
   have hn:(nxt E s).1 ≠ 0:=by rcases Bool.or_eq_true_iff.1 h with h | h; exact eN h; exact wZ h
   exact aT (jN hn) (fun t s1 _=>bN) (by omega)
 split
 · refine aT (iZ (c:=0) fun E d s1=>dB ?_) (fun x s2 _=>aT (uI fun s3=>hp E _ s3) (fun k s4 _=>bN) (c:=0) (by omega)) (by omega)
   split
   · exact aT eY (fun t s1 _=>bN) (by omega)
   exact bN
 exact uI0
theorem uQ {k:Nat} {next:P Tree} {c:Nat} (hp:Bs next c):∀ (f:Nat) (n:Tree),Bs (mB k next f n) 0:=by
 intro f
 induction f with
 | zero=>intro n E d s; exact iB
 | succ f ih=>?_
 intro n E d s
 unfold mB
 refine dB ?_
 split
 · exact bN
 refine aT eY (fun t s1 _=>aT (hp E d s1) (fun x s2 _=>?_) (c:=0) (c2:=0) (by omega)) (by omega)
 split
 · exact bN
 exact ih _ E d s2
theorem dF0 {unary:P Tree} {c:Nat} (hp:Bs unary c) (f:Nat):∀ j:Nat,Bs (lQ unary f j) c:=by
 intro j
 induction j with
 | zero=>exact hp
 | succ j ih=>?_
 intro E d s
 unfold lQ
 exact aT (ih E d s) (fun n s1 _=>uQ ih f n E d s1) (by omega)
theorem iY {expr:P Tree} {c:Nat} (hp:Bs expr c):∀ (f:Nat) (n:Tree),Bs (eH expr f n) 0:=by
 intro f
 induction f with
 | zero=>intro n E d s; exact iB
 | succ f ih=>?_
 intro n E d s
 unfold eH
 refine dB ?_
 split
 · exact aT eY (fun _ s1 _=>aT (eS fun t=>eN) (fun x s2 _=>ih _ E d s2) (c:=0) (by omega)) (by omega)
 split
 · exact aT (iZ hp) (fun x s2 _=>ih _ E d s2) (by omega)
 exact bN
theorem vR : Bs mT 1:=fun E d s=>aT (eS fun t=>hQ0) (fun t s1 _=>bN) (by omega)
theorem iU0 : Bs pG 1:=fun E d s=>aT (eS fun t=>eN) (fun t s1 _=>bN) (by omega)
theorem sQ0 : Bs vW 1:=fun E d s=>aT (eS fun t=>eN) (fun t s1 _=>bN) (by omega)
theorem iQ0 {expr:P Tree} {c:Nat} (hp:Bs expr c) (f:Nat):Bs (lR f expr) 1:=fun E d s=>by
 unfold lR
 refine aT (iU0 E d s) (fun n s1 _=>dB (c:=0) ?_) (by omega)
 split
 · exact aT (qL hp f E d s1) (fun l s2 _=>bN) (by omega)
 exact bN
theorem cX0 {expr:P Tree} {c:Nat} (hp:Bs expr c):∀ (k i:Nat) (acc:List Tree),Bs (kT expr k i acc) 0:=by
 intro k
 induction k with
 | zero=>intro i acc E d s; exact bN
 | succ k ih=>?_
 intro i acc E d s
 unfold kT
 split
 · exact aT (eS fun t=>cJ) (fun _ s1 _=>aT (hp E d s1) (fun n s2 _=>ih _ _ E d s2) (c:=0) (by omega)) (by omega)
 exact aT (hp E d s) (fun n s2 _=>ih _ _ E d s2) (by omega)
theorem oE {expr:P Tree} {c:Nat} (hp:Bs expr c) (k n:Nat):Bs (gI expr k n) 1:=fun E d s=>by
 unfold gI
 exact aT eY (fun t s1 _=>aT (iZ (cX0 hp n 0 [])) (fun x s2 _=>bN) (c:=1) (by omega)) (by omega)
theorem sP0 {expr:P Tree} {c:Nat} (hp:Bs expr c) (f:Nat):Bs (gN f expr) 1:=fun E d s=>by
 unfold gN
 refine dB ?_
 split
 · exact aT (oE hp _ _ E d s) (fun n s1 _=>bN) (by omega)
 split
 · exact oE hp _ _ E d s
 split
 · exact oE hp _ _ E d s
 split
 · exact oE hp _ _ E d s
 split
 · exact oE hp _ _ E d s
 exact iQ0 hp f E d s
theorem fI0 {typ expr:P Tree} {c c2:Nat} (ht:Bs typ c2) (hp:Bs expr c) (f:Nat):Bs (cB f typ expr) 1:=fun E d s=>by
 unfold cB
 refine dB ?_
 split
 · exact vR E d s
 split
 · rename_i h
   exact aT (jN (by have:=beq_iff_eq.1 h; omega)) (fun t s1 _=>bN) (by omega)
 split
 · exact aT (iZ hp) (fun x s2 _=>bN) (by omega)
 split
 · rename_i h; exact aT (jN (bR h)) (fun t s1 _=>bN) (by omega)
 split
 · rename_i h; exact aT (jN (bR h)) (fun t s1 _=>bN) (by omega)
 split
 · rename_i h
   exact aT (jN (bR h)) (fun t s1 _=>aT (ht E d s1) (fun k s2 _=>aT (qL hp f E d s2) (fun l s3 _=>bN) (c:=0) (by omega)) (c:=0) (by omega)) (by omega)
 exact sP0 hp f E d s
theorem tX0 {rec typ expr:P Tree} {c c2 c3:Nat} (hr:Bs rec c3) (ht:Bs typ c2) (hp:Bs expr c) (f:Nat):Bs (kK f rec typ expr) 1:=fun E d s=>by
 unfold kK
 refine dB ?_
 split
 · exact aT (fI0 ht hp f E d s) (fun n s1 _=>iY hp f n E d s1) (by omega)
 rename_i h
 exact aT (jN (qT h)) (fun t s1 _=>aT (uI fun s2=>hr E _ s2) (fun n s3 _=>bN) (c:=0) (by omega)) (by omega)
theorem wG {typ:P Tree} {c:Nat} (ht:Bs typ c):Bs (gD typ) 1:=fun E d s=>by
 unfold gD
 exact aT (eS fun t=>eN) (fun t s1 _=>aT (ht E d s1) (fun k s2 _=>bN) (c:=0) (by omega)) (by omega)
theorem lI {stmts:P (List Tree)} {c:Nat} (hs:Bs stmts c):Bs (cN stmts) 2:=fun E d s=>by
 unfold cN
 exact aT (iZ hs) (fun x s2 _=>bN) (by omega)
theorem gZ0 : ∀ (f:Nat) (go:Bool) (acc:List Tree),Bs (pB f go acc) 0:=by
 intro f
 induction f with
 | zero=>intro go acc E d s; exact iB
 | succ f ih=>?_
 intro go acc E d s
 unfold pB
 refine dB ?_
 split
 · exact aT eY (fun _ s1 _=>aT (iU0 E d s1) (fun n s2 _=>ih _ _ E d s2) (c:=0) (by omega)) (by omega)
 exact bN
theorem sK {expr:P Tree} {c:Nat} (hp:Bs expr c) (f:Nat):Bs (eV f expr) 1:=fun E d s=>by
 unfold eV
 refine dB ?_
 split
 · exact aT (oE hp _ _ E d s) (fun n s1 _=>bN) (by omega)
 refine aT (iQ0 hp f E d s) (fun n s1 _=>aT (iY hp f n E d s1) (fun n2 s2 _=>?_) (c:=0) (c2:=0) (by omega)) (by omega)
 split
 · exact bN
 exact aT (gZ0 f _ _ E d s2) (fun l s3 _=>aT (eS fun t=>cJ) (fun t s4 _=>aT (hp E d s4) (fun x s5 _=>bN) (c:=0) (by omega)) (c:=0) (by omega)) (by omega)
theorem qU0 {expr:P Tree} {c:Nat} (hp:Bs expr c) (f:Nat):Bs (qG f expr) 1:=fun E d s=>by
 unfold qG
 refine dB ?_
 split
 · exact aT eY (fun t s1 _=>aT (mC sQ0 f E d s1) (fun l s3 _=>aT (eS fun t=>cJ) (fun t s4 _=>aT (hp E d s4) (fun x s5 _=>bN) (c:=0) (by omega)) (c:=0) (by omega)) (c:=1) (by omega)) (by omega)
 exact sK hp f E d s
theorem iG0 {k E d:Nat} {s:St} (hn:(nxt E s).1 ≠ 0):Ba (nK k) E d s 1:=by
 unfold nK
 refine aT (jN hn) (fun t s1 _=>dB (c:=0) ?_) (by omega)
 split
 · exact aT eY (fun _ s2 _=>bN) (by omega)
 exact bN
theorem pD0 {expr:P Tree} {c:Nat} (hp:Bs expr c) (f:Nat):Bs (fU f expr) 1:=fun E d s=>by
 unfold fU
 refine dB ?_
 split
 · rename_i h; exact iG0 (bR h)
 split
 · rename_i h; exact iG0 (bR h)
 split
 · rename_i h
   refine aT (jN (bR h)) (fun t s1 _=>dB (c:=0) ?_) (by omega)
   split
   · exact bN
   exact aT (mC hp f E d s1) (fun l s2 _=>bN) (by omega)
 split
 · exact aT eY (fun t s1 _=>aT (eS fun t h=>iR0 (Bool.and_eq_true_iff.1 h).1) (fun c s2 _=>bN) (c:=1) (by omega)) (by omega)
 exact qU0 hp f E d s
theorem pV {x:List Nat} {part:P Tree} {E d:Nat} {s:St} (hp:Ba part E d s 0):Ba (jD x part) E d s 0:=by
 unfold jD
 refine dB ?_
 split
 · exact bN
 exact hp
theorem mF0 {expr:P Tree} {stmts:P (List Tree)} {c c2:Nat} (hp:Bs expr c) (hs:Bs stmts c2) (f:Nat):Bs (jV f expr stmts) 0:=fun E d s=>by
 unfold jV
 refine aT (pV ((qU0 hp f E d s).le (by omega))) (fun a s1 _=>aT (eS fun t=>cJ) (fun _ s2 _=>?_) (c:=0) (c2:=0) (by omega)) (by omega)
 refine aT (pV ((hp E d s2).le (by omega))) (fun a s3 _=>aT (eS fun t=>cJ) (fun _ s4 _=>?_) (c:=0) (c2:=0) (by omega)) (by omega)
 exact aT (pV ((sK hp f E d s4).le (by omega))) (fun a s5 _=>aT (lI hs E d s5) (fun k s6 _=>bN) (c:=0) (by omega)) (by omega)
theorem dE0 : Bs jF 1:=fun E d s=>by
 unfold jF
 refine dB ?_
 split
 · exact aT eY (fun t s1 _=>aT (vR E d s1) (fun n s2 _=>bN) (c:=1) (by omega)) (by omega)
 exact vR E d s
theorem gQ0 {stmts:P (List Tree)} {c:Nat} (hs:Bs stmts c):Bs (pA stmts) 1:=fun E d s=>by
 unfold pA
 exact aT (eS fun t=>cJ) (fun t s1 _=>aT (hs E d s1) (fun l s2 _=>bN) (c:=0) (by omega)) (by omega)
theorem uK {stmts:P (List Tree)} {c g:Nat} (hs:Bs stmts c):∀ (f:Nat) (acc:List Tree),Bs (oO g stmts f acc) 0:=by
 intro f
 induction f with
 | zero=>intro acc E d s; exact iB
 | succ f ih=>?_
 intro acc E d s
 unfold oO
 refine dB ?_
 split
 · exact aT eY (fun t s1 _=>aT (mC dE0 g E d s1) (fun l s2 _=>aT (gQ0 hs E d s2) (fun a s3 _=>ih _ E d s3) (c:=0) (by omega)) (c:=0) (by omega)) (by omega)
 exact bN
theorem kS0 {expr:P Tree} {stmts:P (List Tree)} {c c2:Nat} (hp:Bs expr c) (hs:Bs stmts c2) (f:Nat):Bs (jU f expr stmts) 0:=fun E d s=>by
 unfold jU
 refine aT (hp E d s) (fun x s1 _=>aT (iZ (c:=0) fun E d s2=>?_) (fun y s3 _=>bN) (c:=0) (by omega)) (by omega)
 refine aT (uK hs f _ E d s2) (fun l s3 _=>dB (c:=0) ?_) (by omega)
 split
 · exact aT eY (fun t s4 _=>aT (gQ0 hs E d s4) (fun a s5 _=>bN) (c:=0) (by omega)) (by omega)
 exact bN
theorem iK0 {expr:P Tree} {stmts:P (List Tree)} {c c2:Nat} (hp:Bs expr c) (hs:Bs stmts c2) (f:Nat) (label:List Nat):Bs (iD f label expr stmts) 1:=fun E d s=>by
 unfold iD
 refine aT (eS fun t=>wC) (fun t s1 _=>?_) (c2:=0) (by omega)
 split
 · exact aT (hp E d s1) (fun x s2 _=>aT (lI hs E d s2) (fun k s3 _=>bN) (c:=0) (by omega)) (by omega)
 split
 · exact aT (mF0 hp hs f E d s1) (fun l s2 _=>bN) (by omega)
 split
 · exact aT (kS0 hp hs f E d s1) (fun l s2 _=>bN) (by omega)
 exact bN
theorem yV {rec expr:P Tree} {stmts:P (List Tree)} {c c2 c3 k E d:Nat} {s:St} (ht:Ba dA E d s k) (hr:Bs rec c3) (hp:Bs expr c) (hs:Bs stmts c2):Ba (lG rec expr stmts) E d s k:=by
 unfold lG
 refine aT ht (fun t s1 _=>aT (hp E d s1) (fun x s2 _=>aT (lI hs E d s2) (fun b s3 _=>dB (c:=0) ?_) (c:=0) (by omega)) (c:=0) (by omega)) (by omega)
 split
 · refine aT eY (fun o s4 _=>dB (c:=0) ?_) (by omega)
   split
   · exact aT (uI fun s5=>hr E _ s5) (fun n s6 _=>bN) (by omega)
   exact aT (lI hs E d s4) (fun n s6 _=>bN) (by omega)
 exact bN
def BB (branch:P Tree):Prop:=∀ E d s,Ba branch E d s 0∧((nxt E s).1 ≠ 0→Ba branch E d s 1)
theorem hZ0 {branch expr:P Tree} {stmts:P (List Tree)} {c c2:Nat} (hb:BB branch) (hp:Bs expr c) (hs:Bs stmts c2) (f:Nat):Bs (iM f branch expr stmts) 1:=fun E d s=>by
 unfold Ba iM
 split
 · exact (lI hs E d s).le (by omega)
 split
 · rename_i h; exact (hb E d s).2 (bR h)
 split
 · exact iK0 hp hs f _ E d s
 split
 · exact aT eY (fun l s1 _=>aT eY (fun _ s2 _=>iK0 hp hs f _ E d s2) (c:=1) (by omega)) (by omega)
 exact aT (pD0 hp f E d s) (fun n s1 _=>aT (eS fun t=>cJ) (fun _ s2 _=>bN) (c:=0) (by omega)) (by omega)
theorem xX {stmt:P Tree} {c:Nat} (hp:Bs stmt c):∀ (f:Nat) (acc:List Tree),Bs (fZ stmt f acc) 0:=by
 intro f
 induction f with
 | zero=>intro acc E d s; exact iB
 | succ f ih=>?_
 intro acc E d s
 unfold Ba fZ
 split
 · exact aT (hp E d s) (fun n s1 _=>ih _ E d s1) (by omega)
 rintro _ _ ⟨⟩
 exact ⟨fun _=>rfl,fun _=>⟨[],rfl,Nat.le_refl _⟩⟩
theorem rA {typ:P Tree} {c:Nat} (hp:Bs typ c):∀ (f:Nat) (acc:List Tree),Bs (jT typ f acc) 0:=by
 intro f
 induction f with
 | zero=>intro acc E d s; exact iB
 | succ f ih=>?_
 intro acc E d s
 unfold jT
 refine dB ?_
 split
 · exact aT (wG hp E d s) (fun n s1 _=>aT (eS fun t=>cJ) (fun _ s2 _=>ih _ E d s2) (c:=0) (by omega)) (by omega)
 exact bN
theorem jW0 {typ:P Tree} {c:Nat} (hp:Bs typ c) (f:Nat):Bs (jS f typ) 1:=fun E d s=>by
 unfold jS
 exact aT eY (fun _ s1 _=>aT (eS fun t=>eN) (fun t s2 _=>aT (iZ (rA hp f [])) (fun x s4 _=>bN) (c:=0) (by omega)) (c:=1) (by omega)) (by omega)
theorem vJ {typ:P Tree} {c:Nat} (hp:Bs typ c) (f:Nat):Bs (fH f typ) 0:=fun E d s=>by
 unfold fH
 refine dB ?_
 split
 · exact bN
 split
 · exact aT (iZ (mC hp f)) (fun x s2 _=>bN) (by omega)
 exact aT (hp E d s) (fun n s1 _=>bN) (by omega)
theorem dC0 {typ:P Tree} {stmts:P (List Tree)} {c c2:Nat} (hp:Bs typ c) (hs:Bs stmts c2) (f:Nat):Bs (gB f typ stmts) 1:=fun E d s=>by
 unfold gB
 refine aT eY (fun _ s1 _=>aT (eS fun t=>eN) (fun t s2 _=>dB (c:=0) ?_) (c:=1) (by omega)) (by omega)
 exact aT (qL (wG hp) f E d s2) (fun l s3 _=>aT (vJ hp f E d s3) (fun r s4 _=>aT (lI hs E d s4) (fun k s5 _=>bN) (c:=0) (by omega)) (c:=0) (by omega)) (by omega)
theorem tC {typ:P Tree} {stmts:P (List Tree)} {c c2 g:Nat} (hp:Bs typ c) (hs:Bs stmts c2):∀ (f:Nat) (acc:List Tree),Bs (dD g typ stmts f acc) 0:=by
 intro f
 induction f with
 | zero=>intro acc E d s; exact iB
 | succ f ih=>?_
 intro acc E d s
 unfold dD
 refine dB ?_
 split
 · exact aT (jW0 hp g E d s) (fun n s1 _=>ih _ E d s1) (by omega)
 split
 · exact aT (dC0 hp hs g E d s) (fun n s1 _=>ih _ E d s1) (by omega)
 exact bN
theorem R_bs : ∀ f:Nat,Bs (R f).typ 1∧Bs (R f).unary 1∧Bs (R f).expr 1∧BB (R f).branch∧Bs (R f).stmts 0:=by
 intro f
 induction f with
 | zero=>exact ⟨fun _ _ _=>iB,fun _ _ _=>iB,fun _ _ _=>iB,fun _ _ _=>⟨iB,fun _=>iB⟩,fun _ _ _=>iB⟩
 | succ f ih=>?_
 obtain ⟨ht,hu,he,hb,hs⟩:=ih
 have hb0:Bs (R f).branch 0:=fun E d s=>(hb E d s).1
 exact ⟨nI0 ht,tX0 hu ht he f,dF0 hu f 5,fun E d s=>⟨yV eY hb0 he hs,fun hn=>yV (jN hn) hb0 he hs⟩,xX (hZ0 hb he hs f) f []⟩
end Go.Proofs.YtnipenijihkgdaaGreatDoor
