import Derived.Test.YtnipenijihkgdaaGreatDoorNd
import Derived.Test.YtnipenijihkgdaaGreatDoorQ47
import Derived.Test.YtnipenijihkgdaaGreatDoorQ48
import Derived.Test.YtnipenijihkgdaaGreatDoorZStmt
import Derived.Test.YtnipenijihkgdaaGreatDoorQ44
import Derived.Test.YtnipenijihkgdaaGreatDoorZPrim
import Derived.Test.YtnipenijihkgdaaGreatDoorZUnary
import Derived.Test.YtnipenijihkgdaaGreatDoorQ32
import Derived.Test.YtnipenijihkgdaaGreatDoorQ18
import Derived.Deep.LoopGhost
set_option maxHeartbeats 4000000
set_option maxRecDepth 100000
namespace Go.Proofs.YtnipenijihkgdaaGreatDoor
open Go.RowKit
set_option linter.unusedVariables false
theorem eD0 {m:P Tree} (HP:rQ 39 m) (s:ByteArray) (h:s.size≤1048576) (R:Except (Nat × Nat) Tree) (HR:Hid (dX m (aD s) = some R)) (w:World):Calls Tryz.prog 7 #[.string s] w (iT w R):=by
 go_enter Tryz.func7,Tryz.ntmps7
 go_wp2_with fail
 refine (mT0 HP s h R HR _).mono ?_
 rintro en w1 ⟨hb,hg⟩
 have o:=(Own.new w nZ 25).below hb
 have hb2:Below w.heap.size w w1:=((Below.refl _ _).alloc (Nat.le_refl _) _).trans (hb.mono (by rw [World.size_alloc]; omega))
 have hsx:=hb.size
 rw [World.size_alloc] at hsx
 cases R with
 | error x =>
  obtain ⟨p,e⟩:=x
  obtain rfl:en = .returned (.tuple #[.agg nZ,.int .i64 (p:Int),.int .i64 (e:Int)]):=hg
  go_wp2_with (refine aF rfl (.tmp 2) (.tmp 7) rfl rfl w.heap.size rfl rfl o ⟨rfl,rfl,rfl,rfl,rfl⟩ ?_; intro wz oz gz)
  refine aM (t:=25) rfl rfl rfl oz Tryz.underlying25 rfl (by kernel_rfl) ?_
  exact ⟨hb2.trans ⟨gz.os,gz.tape,gz.output,gz.size,fun k hk=>gz.block k (Nat.lt_of_lt_of_le hk hb2.size) (by intro q; have:=Option.some.inj q; omega)⟩,rfl⟩
 | ok t=>?_
 obtain ⟨k,a,b,n,v,rfl,hN⟩:∃ k a b n v,en = .returned (.tuple #[.agg (nD k a b n v),.int .i64 0,.int .i64 0])∧bV w1 _ t k a b n v:=hg
 rw [World.size_alloc] at hN
 go_wp2_with (refine aF rfl (.tmp 2) (.tmp 7) rfl rfl w.heap.size rfl rfl o ⟨rfl,rfl,rfl,rfl,hN.2.2.2.2.one1⟩ ?_; intro wz oz gz)
 refine aM (t:=25) rfl rfl rfl oz Tryz.underlying25 rfl (by kernel_rfl) ?_
 exact ⟨hb2.trans ⟨gz.os,gz.tape,gz.output,gz.size,fun k hk=>gz.block k (Nat.lt_of_lt_of_le hk hb2.size) (by intro q; have:=Option.some.inj q; omega)⟩,_,_,_,_,_,rfl,(hN.row fun x=>x.grown gz (by omega)).mono (by omega)⟩
theorem tA0 {m:P Tree} (HP:rQ 40 m) (s:ByteArray) (h:s.size≤1048576) (R:Except (Nat × Nat) Tree) (HR:Hid (dX m (aD s) = some R)) (w:World):Calls Tryz.prog 14 #[.string s] w (iT w R):=by
 go_enter Tryz.func14,Tryz.ntmps14
 go_wp2_with fail
 refine (lS0 HP s h R HR _).mono ?_
 rintro en w1 ⟨hb,hg⟩
 have o:=(Own.new w nZ 25).below hb
 have hb2:Below w.heap.size w w1:=((Below.refl _ _).alloc (Nat.le_refl _) _).trans (hb.mono (by rw [World.size_alloc]; omega))
 have hsx:=hb.size
 rw [World.size_alloc] at hsx
 cases R with
 | error x =>
  obtain ⟨p,e⟩:=x
  obtain rfl:en = .returned (.tuple #[.agg nZ,.int .i64 (p:Int),.int .i64 (e:Int)]):=hg
  go_wp2_with (refine aF rfl (.tmp 2) (.tmp 7) rfl rfl w.heap.size rfl rfl o ⟨rfl,rfl,rfl,rfl,rfl⟩ ?_; intro wz oz gz)
  refine aM (t:=25) rfl rfl rfl oz Tryz.underlying25 rfl (by kernel_rfl) ?_
  exact ⟨hb2.trans ⟨gz.os,gz.tape,gz.output,gz.size,fun k hk=>gz.block k (Nat.lt_of_lt_of_le hk hb2.size) (by intro q; have:=Option.some.inj q; omega)⟩,rfl⟩
 | ok t=>?_
 obtain ⟨k,a,b,n,v,rfl,hN⟩:∃ k a b n v,en = .returned (.tuple #[.agg (nD k a b n v),.int .i64 0,.int .i64 0])∧bV w1 _ t k a b n v:=hg
 rw [World.size_alloc] at hN
 go_wp2_with (refine aF rfl (.tmp 2) (.tmp 7) rfl rfl w.heap.size rfl rfl o ⟨rfl,rfl,rfl,rfl,hN.2.2.2.2.one1⟩ ?_; intro wz oz gz)
 refine aM (t:=25) rfl rfl rfl oz Tryz.underlying25 rfl (by kernel_rfl) ?_
 exact ⟨hb2.trans ⟨gz.os,gz.tape,gz.output,gz.size,fun k hk=>gz.block k (Nat.lt_of_lt_of_le hk hb2.size) (by intro q; have:=Option.some.inj q; omega)⟩,_,_,_,_,_,rfl,(hN.row fun x=>x.grown gz (by omega)).mono (by omega)⟩
theorem pK0 {m:P Tree} (HP:rQ 41 m) (s:ByteArray) (h:s.size≤1048576) (R:Except (Nat × Nat) Tree) (HR:Hid (dX m (aD s) = some R)) (w:World):Calls Tryz.prog 15 #[.string s] w (iT w R):=by
 go_enter Tryz.func15,Tryz.ntmps15
 go_wp2_with fail
 refine (jB0 HP s h R HR _).mono ?_
 rintro en w1 ⟨hb,hg⟩
 have o:=(Own.new w nZ 25).below hb
 have hb2:Below w.heap.size w w1:=((Below.refl _ _).alloc (Nat.le_refl _) _).trans (hb.mono (by rw [World.size_alloc]; omega))
 have hsx:=hb.size
 rw [World.size_alloc] at hsx
 cases R with
 | error x =>
  obtain ⟨p,e⟩:=x
  obtain rfl:en = .returned (.tuple #[.agg nZ,.int .i64 (p:Int),.int .i64 (e:Int)]):=hg
  go_wp2_with (refine aF rfl (.tmp 2) (.tmp 7) rfl rfl w.heap.size rfl rfl o ⟨rfl,rfl,rfl,rfl,rfl⟩ ?_; intro wz oz gz)
  refine aM (t:=25) rfl rfl rfl oz Tryz.underlying25 rfl (by kernel_rfl) ?_
  exact ⟨hb2.trans ⟨gz.os,gz.tape,gz.output,gz.size,fun k hk=>gz.block k (Nat.lt_of_lt_of_le hk hb2.size) (by intro q; have:=Option.some.inj q; omega)⟩,rfl⟩
 | ok t=>?_
 obtain ⟨k,a,b,n,v,rfl,hN⟩:∃ k a b n v,en = .returned (.tuple #[.agg (nD k a b n v),.int .i64 0,.int .i64 0])∧bV w1 _ t k a b n v:=hg
 rw [World.size_alloc] at hN
 go_wp2_with (refine aF rfl (.tmp 2) (.tmp 7) rfl rfl w.heap.size rfl rfl o ⟨rfl,rfl,rfl,rfl,hN.2.2.2.2.one1⟩ ?_; intro wz oz gz)
 refine aM (t:=25) rfl rfl rfl oz Tryz.underlying25 rfl (by kernel_rfl) ?_
 exact ⟨hb2.trans ⟨gz.os,gz.tape,gz.output,gz.size,fun k hk=>gz.block k (Nat.lt_of_lt_of_le hk hb2.size) (by intro q; have:=Option.some.inj q; omega)⟩,_,_,_,_,_,rfl,(hN.row fun x=>x.grown gz (by omega)).mono (by omega)⟩
theorem lC0 {stmt:P Tree} (f:Nat) (acc:List Tree):Ds (fZ stmt f acc):=by
 intro E d s a s' hw hr h
 cases f with
 | zero=>cases h
 | succ f=>?_
 unfold fZ at h
 rw [if_neg (fun q=>hw q.1)] at h
 cases h
 rfl
theorem aL1 (f:Nat):Ds (R f).stmts:=by
 cases f with
 | zero=>exact mL
 | succ f=>exact lC0 f []
theorem oD0 : ∀ f:Nat,f≤1000000→cY 41 (R f).typ∧cY 123 (R f).unary∧cY 40 (R f).expr∧wW 142 (R f).stmts∧cW0 177 (R f).branch:=by
 intro f
 induction f with
 | zero =>
  intro _
  refine ⟨?_,?_,?_,?_,?_⟩
  · intro w r E d s t s' h1 h2 h3; cases h3
  · intro w r E d s t s' h1 h2 h3; cases h3
  · intro w r E d s t s' h1 h2 h3; cases h3
  · intro w r E d s t s' h1 h2 h3; cases h3
  intro w r E d s t s' h1 h2 h3 h4; cases h4
 | succ f ih=>?_
 intro hf
 obtain ⟨ht,hu,he,hs,hw⟩:=ih (by omega)
 obtain ⟨bt,bu,be,bb,bs⟩:=R_bs f
 obtain ⟨dt,du,de⟩:=yY0 f
 have hfu:f≤100000000:=by omega
 have bt0:=bt.le (Nat.zero_le 1)
 have bu0:=bu.le (Nat.zero_le 1)
 have be0:=be.le (Nat.zero_le 1)
 have bw0:Bs (R f).branch 0:=fun E d s=>(bb E d s).1
 have hB:=tR hs bs
 have bB:Bs (cN (R f).stmts) 0:=(lI bs).le (Nat.zero_le 2)
 have hA:=lH0 hs bs
 have hPr:=xH ht bt0 dt he be0 de f hfu
 have hSt:=eF0 hw he be0 de f hfu hB bB hA bs
 have bSt:Bs (iM f (R f).branch (R f).expr (R f).stmts) 0:=(hZ0 bb be bs f).le (Nat.zero_le 1)
 exact ⟨kG0 ht bt0,bP0 hu f hPr he be0,lW0 hu bu0 f,cC0 hSt bSt (fun E d s t s' h1 h2 h3=>oJ0 de h1 h2 h3) f hfu,gD0 hw bw0 he be0 hB bB⟩
theorem tM0 {typ:P Tree} (h:Ds typ):Ds (gD typ):=bW lH fun t=>bW h fun k=>dC
theorem eB0 {typ:P Tree} (h:Ds typ) (f:Nat):Ds (fH f typ):=iA fun t=>fV dC (fV (bW (lF (aP0 h f)) fun x=>dC) (bW h fun n=>dC))
theorem qR0 {stmts:P (List Tree)} (h:Ds stmts):Ds (cN stmts):=bW (lF h) fun x=>dC
theorem sZ0 {f:Nat} (hf:2≤f) (E:Nat) (s:St) (hI:Iv s) (hq:wd [102,110] (nxt E s) = false):∃ t,lB f (R f).typ (R f).stmts E 0 s = some (t,bD E s):=by
 have hp:Te (R f).typ 0:=fun E d s hI h=>(xP f).1 E d s hI (by omega)
 have hs:TT (R f).stmts 0:=fun E d s hI h=>(xP f).2.2.2.2 E d s hI (.inr ⟨by omega,hf⟩)
 have hI2:Iv (bD E s):=qY hI
 have hm:M (bD E s) = 0:=qG0
 have ht:Tot (bnd (cZ nm) fun t=>eT fun p=>bnd (eE f (gD (R f).typ)) fun l=>bnd (fH f (R f).typ) fun r=>bnd (cN (R f).stmts) fun k=>ret (⟨4,t.2.2.2.1,t.2.1,0,[⟨5,p.2.2.2.1,[],0,l⟩,r,k]⟩:Tree)) E 0 (bD E s) 0:=by
  refine aL (dP hI2 fun t=>eN) fun t s2 h2 m2=>cS ?_
  refine aL (mM (m:=1) (fun E d s' hI' h'=>(sS hI' fun E d s3 h3 m3=>hp E d s3 h3 (by omega)).le (by omega)) h2 (by omega) (by omega) (by omega)) fun l s3 h3 m3=>?_
  refine aL (tE (fun E d s' hI' h'=>hp E d s' hI' (by omega)) h3 (by omega)) fun r s4 h4 m4=>aL (kW h4 (hs.le (by omega))) fun k s5 h5 m5=>bI h5 (by omega)
 obtain ⟨t,s',h1,_,_⟩:=ht
 obtain ⟨dt,_,_⟩:=yY0 f
 have hd:Ds (bnd (cZ nm) fun t=>eT fun p=>bnd (eE f (gD (R f).typ)) fun l=>bnd (fH f (R f).typ) fun r=>bnd (cN (R f).stmts) fun k=>ret (⟨4,t.2.2.2.1,t.2.1,0,[⟨5,p.2.2.2.1,[],0,l⟩,r,k]⟩:Tree)) :=
  bW lH fun t=>iA fun p=>bW (nP (tM0 dt) f) fun l=>bW (eB0 dt f) fun r=>bW (qR0 (aL1 f)) fun k=>dC
 have e:=hd.go bS (qY hI bS) h1
 rw [e] at h1
 refine ⟨t,?_⟩
 have hn:cZ (wd [102,110]) E 0 s = some (noT,bD E s):=by
  unfold cZ eT eQ
  simp only [hq,Bool.false_eq_true,if_false]
 show bnd (cZ (wd [102,110])) _ E 0 s = _
 unfold bnd
 rw [hn]
 exact h1
theorem bG0 (f:Nat) (hf:f≤1000000) (h2:2≤f):rQ 39 (kS f):=by
 obtain ⟨ht,hu,he,hs,hw⟩:=oD0 f hf
 obtain ⟨bt,bu,be,bb,bs⟩:=R_bs f
 exact xI ht (bt.le (Nat.zero_le 1)) bs f (by omega) (tR hs bs) ((lI bs).le (Nat.zero_le 2)) (fun E s hI hq=>sZ0 h2 E s hI hq)
theorem gS0 (s:ByteArray) (h:s.size≤1048576) (T:Except (Nat × Nat) Tree) (HR:Hid (dX (kS dW) (aD s) = some T)) (w:World):Calls Tryz.prog 7 #[.string s] w (iT w T) :=
 eD0 (bG0 dW (by unfold dW; omega) (by unfold dW; omega)) s h T HR w
theorem mY0 (s:ByteArray) (h:s.size≤1048576) (T:Except (Nat × Nat) Tree) (HR:Hid (dX (R dW).expr (aD s) = some T)) (w:World):Calls Tryz.prog 14 #[.string s] w (iT w T) :=
 tA0 (oD0 dW (by unfold dW; omega)).2.2.1.read s h T HR w
theorem tN0 (s:ByteArray) (h:s.size≤1048576) (T:Except (Nat × Nat) Tree) (HR:Hid (dX (R dW).typ (aD s) = some T)) (w:World):Calls Tryz.prog 15 #[.string s] w (iT w T) :=
 pK0 (oD0 dW (by unfold dW; omega)).1.read s h T HR w
structure FrZ (F:List Nat) (w w':World):Prop where
 os:w'.os = w.os
 tape:w'.tape = w.tape
 output:w'.output = w.output
 size:w.heap.size≤w'.heap.size
 block:∀ g,g < w.heap.size→g ∉ F→w'.heap[g]? = w.heap[g]?
theorem FrZ.below {F:List Nat} {w w':World} (h:Below w.heap.size w w'):FrZ F w w':=⟨h.os,h.tape,h.output,h.size,fun g hg _=>h.block g hg⟩
theorem FrZ.trans {F G:List Nat} {w w' w'':World} (h:FrZ F w w') (h2:FrZ G w' w'') (hG:∀ g ∈ G,g < w.heap.size→g ∈ F):FrZ F w w'' :=
 ⟨h2.os.trans h.os,h2.tape.trans h.tape,h2.output.trans h.output,Nat.le_trans h.size h2.size,fun g hg hn=>(h2.block g (Nat.lt_of_lt_of_le hg h.size) fun q=>hn (hG g q hg)).trans (h.block g hg hn)⟩
theorem FrZ.grown {F:List Nat} {w w' w'':World} {row:Option Nat} (h:FrZ F w w') (h2:w'.grownBy w'' row) (hr:∀ k,row = some k→k ∈ F∨w.heap.size≤k):FrZ F w w'' :=
 ⟨h2.os.trans h.os,h2.tape.trans h.tape,h2.output.trans h.output,Nat.le_trans h.size h2.size,fun g hg hn=>(h2.block g (Nat.lt_of_lt_of_le hg h.size) fun q=>(hr g q.symm).elim (fun q2=>hn q2) (fun q2=>by omega)).trans (h.block g hg hn)⟩
theorem Own.fr {F:List Nat} {w w':World} {g:Nat} {cs:Array Value} {t:TypeId} (h:Own w g cs t) (hf:FrZ F w w') (hn:g ∉ F):Own w' g cs t:=(hf.block g h.lt hn).trans h
theorem xK {W:World} {ops:Array Oper} {rest:List Oper} {o:Oper} {a:Act} {Q:Exit→Act→World→Prop} (hgd:o.guard = none) (x y:Operand) (ho:o.op = .store 25 x y) (hdst:o.dst = none) (g off:Nat) (hx:a.eval x = .pointer (some ⟨g,off,none⟩))
    {b0 b1 b2 b3 b4:Value} (hy:a.eval y = .agg #[b0,b1,b2,b3,b4]) {cs:Array Value} {t:TypeId} (hown:Own W g cs t) (hoff:off + 5≤cs.size) (hb:b0.oneCell' = true∧b1.oneCell' = true∧b2.oneCell' = true∧b3.oneCell' = true∧b4.oneCell' = true)
    (h:∀ w' cs',Own w' g cs' t→cs'.size = cs.size→(∀ j,(j < off∨off + 5≤j)→cs'[j]? = cs[j]?)→W.grownBy w' (some g)→wpList Tryz.prog ops Q rest a w'):wpList Tryz.prog ops Q (o :: rest) a W:=by
 have s0:=hown.set off b0
 have s1:=s0.set (off + 1) b1
 have s2:=s1.set (off + 2) b2
 have s3:=s2.set (off + 3) b3
 have s4:=s3.set (off + 4) b4
 have r0:=fT hown off (by omega) b0 hb.1
 have r1:=fT s0 (off + 1) (by simp; omega) b1 hb.2.1
 have r2:=fT s1 (off + 2) (by simp; omega) b2 hb.2.2.1
 have r3:=fT s2 (off + 3) (by simp; omega) b3 hb.2.2.2.1
 have r4:=fT s3 (off + 4) (by simp; omega) b4 hb.2.2.2.2
 have hgr:W.grownBy (((((W.setCell ⟨g,off,none⟩ b0).setCell ⟨g,off + 1,none⟩ b1).setCell ⟨g,off + 2,none⟩ b2).setCell ⟨g,off + 3,none⟩ b3).setCell ⟨g,off + 4,none⟩ b4) (some g):=(((((Kp.refl g W).set (.inr rfl) off b0).set (.inr rfl) (off + 1) b1).set (.inr rfl) (off + 2) b2).set (.inr rfl) (off + 3) b3).set (.inr rfl) (off + 4) b4
 refine wpList_plain hgd fun K hK=>?_
 unfold Oper.wp execOp
 simp only [ho,hx,hy]
 simp [go_sem]
 rw [r0]
 simp only [Result.andThen_ok]
 rw [r1]
 simp only [Result.andThen_ok]
 rw [r2]
 simp only [Result.andThen_ok]
 rw [r3]
 simp only [Result.andThen_ok]
 rw [r4]
 simp only [Result.andThen_ok]
 rw [Oper.upon_skip]
 have hp:a.put o.dst undef = a:=by rw [hdst]; rfl
 rw [hp]
 refine hK _ _ (h _ _ s4 (by simp) (fun j hj=>?_) hgr)
 rw [Array.getElem?_setIfInBounds_ne (by omega),Array.getElem?_setIfInBounds_ne (by omega),Array.getElem?_setIfInBounds_ne (by omega),Array.getElem?_setIfInBounds_ne (by omega),Array.getElem?_setIfInBounds_ne (by omega)]
theorem iN0 {w w':World} {v:Value} {n:Nat} {xs:List Value} (h:w.ownsRow 0 25 5 v n xs) (hk:∀ g,g < w.heap.size→w'.heap[g]? = w.heap[g]?):w'.ownsRow 0 25 5 v n xs:=by
 refine ⟨h.1,?_⟩
 rcases h.2 with q | ⟨g,cap,cur,rfl,hg,ho,r⟩
 · exact .inl q
 exact .inr ⟨g,cap,cur,rfl,hg,(hk g (Array.getElem?_eq_some_iff.1 ho).1).trans ho,r⟩
def yM0 (w:World) (nB g0 m cap:Nat) (xs:List Value) (ts:List Tree) (C:Array Value) (F:List Nat) (g:Nat) (v:Value) (wr:World):Prop :=
 ∃ (i:Nat) (cur:Array Value) (G:List Nat),i + g = m∧v = .int .i64 (i:Int)∧Own wr nB C 25∧Own wr g0 cur 25∧cur.size = cap * 5∧(∀ j,i * 5≤j→j < m * 5→cur[j]? = xs[j]?)∧bF wr (ts.drop i) (xs.drop (i * 5)) G∧G.Nodup∧(∀ x ∈ G,x ∈ F∧x ≠ g0)∧FrZ F w wr
def dY0 (w:World) (F:List Nat) (g:Nat) (v3 v4:Value) (wr:World):Prop :=
 ∃ (c n3:Nat) (xs3:List Value),c + g = 8∧v4 = .int .i64 (c:Int)∧wr.ownsRow 0 25 5 v3 n3 xs3∧n3≤1000000 + c∧(∀ k,v3.ownBlock = some k→k ∈ F∨w.heap.size≤k)∧FrZ F w wr
theorem wA : ∀ (N:Nat) (t:Tree),fD t≤N→aO t→∀ (w:World) (k a:Int) (b:ByteArray) (n:Int) (v:Value) (xs:List Value) (F0 F1:List Nat),vZ w v t.kids.length xs F0→bF w t.kids xs F1→(F0 ++ F1).Nodup →
    Calls Tryz.prog 9 #[.agg (nD k a b n v)] w fun en w'=>(∃ u,en = .returned u)∧FrZ (F0 ++ F1) w w':=by
 intro N
 induction N with
 | zero=>intro t h; rw [mO] at h; omega
 | succ N ih=>?_
 intro t hN hg w k a b n v xs F0 F1 hrow hcells hnd
 obtain ⟨_,hlen,hgk⟩:=(nX t).1 hg
 have HC:Hid (fD.cntL t.kids≤N):=by unfold Hid; rw [mO] at hN; omega
 have HI:Hid (∀ (t:Tree),fD t≤N→aO t→∀ (w:World) (k a:Int) (b:ByteArray) (n:Int) (v:Value) (xs:List Value) (F0 F1:List Nat),vZ w v t.kids.length xs F0→bF w t.kids xs F1→(F0 ++ F1).Nodup →
  Calls Tryz.prog 9 #[.agg (nD k a b n v)] w fun en w'=>(∃ u,en = .returned u)∧FrZ (F0 ++ F1) w w'):=ih
 have HGK:=hI hgk
 obtain ⟨ts,hts⟩:=iQ (t.kids)
 rw [hts] at hrow hcells hlen HC HGK
 obtain ⟨m,hm⟩:=iQ (ts.length)
 rw [hm] at hrow hlen
 have HTM:=hI hm
 obtain ⟨i8,hi8,hz0,hz1,hz2⟩:=dS tI
 have key:∀ (v3:Value) (n3:Nat) (xs3:List Value) (wr:World),wr.ownsRow 0 25 5 v3 n3 xs3→n3≤1000000→(∀ k,v3.ownBlock = some k→k ∈ F0 ++ F1∨w.heap.size≤k)→FrZ (F0 ++ F1) w wr→dY0 w (F0 ++ F1) 8 v3 (.int .i64 0) wr:=fun v3 n3 xs3 wr h1 h2 h3 h4=>⟨0,n3,xs3,by omega,rfl,h1,by omega,h3,h4⟩
 have KEY:=hI key
 have hfr0:FrZ (F0 ++ F1) w (w.alloc (.cells (nD k a b n v) 25)):=FrZ.below ((Below.refl _ _).alloc (Nat.le_refl _) _)
 have oB:=Own.new w (nD k a b n v) 25
 clear hN hg hgk hts hm ih key
 rcases id hrow.2 with ⟨rfl,h0,hF⟩ | ⟨g0,cap,cur,rfl,hF,ho,hmc,hcm,hcs,hct⟩
 · have hrow9:(w.alloc (.cells (nL k a b n) 25)).ownsRow 0 25 5 (.slice none 0 0) 0 []:=⟨rfl,.inl ⟨rfl,rfl⟩⟩
   have HE:Hid (dY0 w (F0 ++ F1) 8 (.slice none 0 0) (.int .i64 0) (w.alloc (.cells (nL k a b n) 25))):=KEY.out _ 0 [] _ hrow9 (by omega) (fun k hk=>by cases hk) hfr0
   obtain ⟨p0,p1,p2,p3,p4,pf⟩:=oB.five
   clear hrow hcells hnd hfr0 hF h0 HI HC HGK HTM hrow9 KEY
   go_enter Tryz.func9,Tryz.ntmps9
   go_upto_region 2 with fail
   generalize hw1:w.alloc (.cells (nL k a b n) 25) = w1 at HE p0 p1 p2 p3 p4 pf oB ⊢
   clear hw1
   go_wp2_with fail
   go_loopg [2] 0 (fun g v2 wr=>v2 = .int .i64 0∧w1 = wr)
   case atStart=>exact ⟨rfl,rfl⟩
   case round =>
    obtain ⟨rfl,rfl⟩:=hrel
    go_wp2_with fail
    go_loopg [3,4] 8 (fun g v3 v4 wr=>dY0 w (F0 ++ F1) g v3 v4 wr)
    case atStart=>exact HE.out
    case round =>
     clear HE
     obtain ⟨c,n3,xs3,hc,rfl,hown,hn3,hob,hfr⟩:=hrel
     cases gk with
     | zero =>
      have h8:¬ (c:Int) < 8:=by omega
      go_wp2
      refine bodyPost_end (results_none rfl _ _ _) rfl ?_
      exact ⟨⟨_,rfl⟩,hfr⟩
     | succ gk=>?_
     have h8:(c:Int) < 8:=by omega
     have hnews:∀ (j:Nat) (u:Value),[Value.int .u8 176,.int .i64 0,.string ⟨#[]⟩,.int .u64 0,.slice none 0 0][j]? = some u→(wr.alloc (.cells (nL 176 0 ⟨#[]⟩ 0) 25)).cell? ((⟨wr.heap.size,0,none⟩:Addr).add j) = some u:=fun j u hu=>by
      have hadd:(⟨wr.heap.size,0,none⟩:Addr).add j = ⟨wr.heap.size,j,none⟩:=by unfold Addr.add; split <;> simp_all
      rw [hadd,cell_of_row _ _ j _ 25 _ (Own.new wr (nL 176 0 ⟨#[]⟩ 0) 25)]
      simpa using hu
     have hone:∀ u ∈ [Value.int .u8 176,.int .i64 0,.string ⟨#[]⟩,.int .u64 0,.slice none 0 0],u.oneCell' = true:=by
      intro u hu
      simp only [List.mem_cons,List.not_mem_nil,or_false] at hu
      rcases hu with rfl | rfl | rfl | rfl | rfl <;> rfl
     have hown':=iN0 hown (fun g hg=>Below.heap_alloc wr (.cells (nL 176 0 ⟨#[]⟩ 0) 25) g hg)
     have h63:n3 + 1≤maxLen:=by unfold maxLen; omega
     go_wp2_with (at_builtin; (refine wpList_append_own_at _ rfl (.tmp 29) (.tmp 31) 23 rfl 0 25 i8 _ 5 64 Tryz.underlying23 hi8 hz0 hz1 hz2 rfl (by omega) _ n3 xs3 rfl hown' ⟨wr.heap.size,0,none⟩ 1 1 _ rfl rfl hnews hone h63 (by omega) (Nat.zero_le _) ?_); intro v' w' hown2 gz _ hob2)
     have hfr2:FrZ (F0 ++ F1) w w':=(hfr.trans (G:=[]) (FrZ.below ((Below.refl _ _).alloc (Nat.le_refl _) _)) (fun g hg=>by cases hg)).grown gz hob
     have hob3:∀ k,v'.ownBlock = some k→k ∈ F0 ++ F1∨w.heap.size≤k:=fun k hk=>by
      rcases hob2 with q | q
      · exact hob k (q.symm.trans hk)
      rw [q] at hk
      have e:=Option.some.inj hk
      rw [World.size_alloc] at e
      have:=hfr.size
      exact .inr (by omega)
     go_roundg gk
     case rel=>exact ⟨c + 1,n3 + 1,_,by omega,by go_num,hown2,by omega,hob3,hfr2⟩
     case measure=>omega
 subst hF
 have hFlt:∀ x ∈ [g0] ++ F1,x < w.heap.size:=fun x hx=>by
  rcases List.mem_append.1 hx with hx | hx
  · rw [List.mem_singleton.1 hx]; exact ho.lt
  exact bF.lt _ _ _ hcells x hx
 have hg0:g0 ∉ F1:=by
  rw [List.nodup_append] at hnd
  exact fun q=>hnd.2.2 g0 (by simp) g0 q rfl
 have hn1:F1.Nodup:=by rw [List.nodup_append] at hnd; exact hnd.2.1
 have HFL:=hI hFlt
 have HXL:=hI hrow.1
 have HS:Hid (yM0 w w.heap.size g0 m cap xs ts (nD k a b n (.slice (some ⟨g0,0,none⟩) m cap)) ([g0] ++ F1) m (.int .i64 0) (w.alloc (.cells (nD k a b n (.slice (some ⟨g0,0,none⟩) m cap)) 25))) :=
  ⟨0,cur,F1,by omega,rfl,oB,ho.alloc _,hcs,fun j _ hj=>by rw [← hct,List.getElem?_take,if_pos hj]; simp,bF.on _ _ _ hcells fun g _ cur ho=>ho.alloc _,hn1,fun x hx=>⟨by simp [hx],fun e=>hg0 (by rw [← e]; exact hx)⟩,hfr0⟩
 clear hrow hcells hnd hfr0 oB ho hct hcs hn1 hFlt
 go_enter Tryz.func9,Tryz.ntmps9
 go_wp2_with fail
 go_loopg [2] m (fun g v2 wr=>yM0 w w.heap.size g0 m cap xs ts (nD k a b n (.slice (some ⟨g0,0,none⟩) m cap)) ([g0] ++ F1) g v2 wr)
 case atStart=>exact HS.out
 case round =>
  clear HS
  obtain ⟨i,cur,G,hi,rfl,oB,oG,hsz,hcur,hcl,hGn,hGF,hfr⟩:=hrel
  obtain ⟨p0,p1,p2,p3,p4,pf⟩:=oB.five
  have hlB:=oB.lt
  have hlG:=oG.lt
  cases gk with
  | zero =>
   have him:¬ (i:Int) < (m:Int):=by omega
   have hrow9:wr.ownsRow 0 25 5 (.slice (some ⟨g0,0,none⟩) m cap) m (cur.toList.take (m * 5)):=⟨by rw [List.length_take,Array.length_toList,hsz]; omega,.inr ⟨g0,cap,cur,rfl,Nat.zero_le _,oG,hmc,hcm,hsz,rfl⟩⟩
   have HE:Hid (dY0 w ([g0] ++ F1) 8 (.slice (some ⟨g0,0,none⟩) m cap) (.int .i64 0) wr):=KEY.out _ m _ _ hrow9 hlen (fun k hk=>.inl (by have:=Option.some.inj hk; simp [← this])) hfr
   clear hrow9 hcur hcl hGn hGF hfr oB oG HI HC HGK HTM HFL HXL KEY
   go_wp2_with fail
   go_loopg [3,4] 8 (fun g v3 v4 wr=>dY0 w ([g0] ++ F1) g v3 v4 wr)
   case atStart=>exact HE.out
   case round =>
    clear HE
    obtain ⟨c,n3,xs3,hc,rfl,hown,hn3,hob,hfr⟩:=hrel
    cases gk with
    | zero =>
     have h8:¬ (c:Int) < 8:=by omega
     go_wp2
     refine bodyPost_end (results_none rfl _ _ _) rfl ?_
     exact ⟨⟨_,rfl⟩,hfr⟩
    | succ gk=>?_
    have h8:(c:Int) < 8:=by omega
    have hnews:∀ (j:Nat) (u:Value),[Value.int .u8 176,.int .i64 0,.string ⟨#[]⟩,.int .u64 0,.slice none 0 0][j]? = some u→(wr.alloc (.cells (nL 176 0 ⟨#[]⟩ 0) 25)).cell? ((⟨wr.heap.size,0,none⟩:Addr).add j) = some u:=fun j u hu=>by
     have hadd:(⟨wr.heap.size,0,none⟩:Addr).add j = ⟨wr.heap.size,j,none⟩:=by unfold Addr.add; split <;> simp_all
     rw [hadd,cell_of_row _ _ j _ 25 _ (Own.new wr (nL 176 0 ⟨#[]⟩ 0) 25)]
     simpa using hu
    have hone:∀ u ∈ [Value.int .u8 176,.int .i64 0,.string ⟨#[]⟩,.int .u64 0,.slice none 0 0],u.oneCell' = true:=by
     intro u hu
     simp only [List.mem_cons,List.not_mem_nil,or_false] at hu
     rcases hu with rfl | rfl | rfl | rfl | rfl <;> rfl
    have hown':=iN0 hown (fun g hg=>Below.heap_alloc wr (.cells (nL 176 0 ⟨#[]⟩ 0) 25) g hg)
    have h63:n3 + 1≤maxLen:=by unfold maxLen; omega
    go_wp2_with (at_builtin; (refine wpList_append_own_at _ rfl (.tmp 29) (.tmp 31) 23 rfl 0 25 i8 _ 5 64 Tryz.underlying23 hi8 hz0 hz1 hz2 rfl (by omega) _ n3 xs3 rfl hown' ⟨wr.heap.size,0,none⟩ 1 1 _ rfl rfl hnews hone h63 (by omega) (Nat.zero_le _) ?_); intro v' w' hown2 gz _ hob2)
    have hfr2:FrZ ([g0] ++ F1) w w':=(hfr.trans (G:=[]) (FrZ.below ((Below.refl _ _).alloc (Nat.le_refl _) _)) (fun g hg=>by cases hg)).grown gz hob
    have hob3:∀ k,v'.ownBlock = some k→k ∈ [g0] ++ F1∨w.heap.size≤k:=fun k hk=>by
     rcases hob2 with q | q
     · exact hob k (q.symm.trans hk)
     rw [q] at hk
     have e:=Option.some.inj hk
     rw [World.size_alloc] at e
     have:=hfr.size
     exact .inr (by omega)
    go_roundg gk
    case rel=>exact ⟨c + 1,n3 + 1,_,by omega,by go_num,hown2,by omega,hob3,hfr2⟩
    case measure=>omega
  | succ gk=>?_
  have him:(i:Int) < (m:Int):=by omega
  have hi0:(0:Int)≤(i:Int):=by omega
  have hit:i < ts.length:=by rw [HTM.out]; omega
  obtain ⟨ti,hti⟩:∃ ti,ts[i]? = some ti:=⟨_,List.getElem?_eq_getElem hit⟩
  have hdr:ts.drop i = ti :: ts.drop (i + 1):=by
   rw [List.drop_eq_getElem_cons hit]
   rw [List.getElem?_eq_getElem hit] at hti
   rw [Option.some.inj hti]
  have hcnt:fD ti≤N:=Nat.le_trans (iT0 hti) HC.out
  have hgood:aO ti:=eJ0 ts HGK.out i ti hti
  rw [hdr] at hcl
  obtain ⟨kk,aa,tx,nn,ks⟩:=ti
  obtain ⟨vi,xi,rest,H0,H1,H2,hx5,rfl,hK1,hC1,hC2⟩:=eC.1 hcl
  have hxj:∀ j,xs[i * 5 + j]? = (xs.drop (i * 5))[j]?:=fun j=>by rw [List.getElem?_drop]
  have hcell:∀ j u,(xs.drop (i * 5))[j]? = some u→j < 5→wr.cell? ⟨g0,i * 5 + j,none⟩ = some u:=fun j u hu hj=>by
   rw [cell_of_row _ g0 (i * 5 + j) _ 25 _ oG,hcur (i * 5 + j) (by omega) (by omega),hxj]
   exact hu
  rw [hx5] at hcell
  have q0:wr.cell? ⟨g0,i * 5,none⟩ = some (.int .u8 (kk:Int)):=hcell 0 _ rfl (by omega)
  have q1:=hcell 1 _ rfl (by omega)
  have q2:=hcell 2 _ rfl (by omega)
  have q3:=hcell 3 _ rfl (by omega)
  have q4:=hcell 4 _ rfl (by omega)
  have hrest:rest = xs.drop ((i + 1) * 5):=by
   have h9:(xs.drop (i * 5)).drop 5 = rest:=by rw [hx5]; rfl
   rw [List.drop_drop] at h9
   rw [← h9]
   congr 1
   omega
  have HRE:=hI hrest
  obtain ⟨aoi,capi,rfl⟩:∃ ao cap,vi = .slice ao ks.length cap:=by
   rcases hK1.2 with ⟨rfl,h0,_⟩ | ⟨g,cap,cur,rfl,_⟩
   · exact ⟨none,0,by rw [h0]⟩
   exact ⟨_,_,rfl⟩
  have hnd3:(H0 ++ H1).Nodup∧H2.Nodup∧∀ x ∈ H0 ++ H1,∀ y ∈ H2,x ≠ y:=List.nodup_append.1 hGn
  have CL:=HI.out ⟨kk,aa,tx,nn,ks⟩ hcnt hgood wr (kk:Int) aa (bJ tx) (nn:Int) (.slice aoi ks.length capi) xi H0 H1 hK1 hC1 hnd3.1
  obtain ⟨ml,hml⟩:=iQ (ks.length)
  rw [hml] at CL q4
  obtain ⟨st,hst⟩:=iQ (bJ tx)
  rw [hst] at CL q2
  clear hx5 hxj hcell hrest hcl hdr hti hit hcnt hgood hK1 hC1 hml hst
  go_wp2_with fail
  refine CL.mono ?_
  rintro en w2 ⟨⟨_,rfl⟩,hf2⟩
  have hin:∀ x ∈ H0 ++ H1,x ∈ [g0] ++ F1∧x ≠ g0:=fun x hx=>hGF x (List.mem_append.2 (.inl hx))
  have oB2:=oB.fr hf2 (fun q=>by have:=HFL.out _ (hin _ q).1; omega)
  have oG2:=oG.fr hf2 (fun q=>(hin _ q).2 rfl)
  have hC3:bF w2 (ts.drop (i + 1)) rest H2:=bF.on _ _ _ hC2 fun g hg cur ho=>ho.fr hf2 (fun q=>hnd3.2.2 g q g hg rfl)
  have hfr2:FrZ ([g0] ++ F1) w w2:=hfr.trans hf2 (fun g hg _=>(hin g hg).1)
  obtain ⟨r0,r1,r2,r3,r4,rf⟩:=oB2.five
  have hlB2:=oB2.lt
  have hlG2:=oG2.lt
  have hoff:i * 5 + 5≤cur.size:=by rw [hsz]; omega
  clear p0 p1 p2 p3 p4 pf q0 q1 q2 q3 q4 CL hC2 hfr oB
  go_wp2_with (refine xK rfl (.tmp 22) (.tmp 21) rfl rfl g0 (i * 5) rfl rfl oG2 hoff ⟨rfl,rfl,rfl,rfl,rfl⟩ ?_; intro w3 cur3 oG3 hsz3 hcur3 gz3)
  have oB3:=oB2.grown gz3 (aG (fun e=>by have:=HFL.out g0 (by simp); omega))
  have hC4:bF w3 (ts.drop (i + 1)) rest H2:=bF.on _ _ _ hC3 fun g hg cur ho=>ho.grown gz3 (aG (hGF g (List.mem_append.2 (.inr hg))).2)
  have hfr3:FrZ ([g0] ++ F1) w w3:=hfr2.grown gz3 (fun k hk=>.inl (by have:=Option.some.inj hk; simp [← this]))
  rw [HRE.out] at hC4
  go_roundg gk
  case rel=>exact ⟨i + 1,cur3,H2,by omega,by go_num,oB3,oG3,hsz3.trans hsz,fun j h1 h2=>(hcur3 j (.inr (by omega))).trans (hcur j (by omega) h2),hC4,hnd3.2.1,fun x hx=>hGF x (List.mem_append.2 (.inr hx)),hfr3⟩
  case measure=>omega
def tF : Except (Nat × Nat) Tree→Tree
 | .ok t=>t
 | .error _=>noN
def aK0 : Except (Nat × Nat) Tree→Int
 | .ok _=>0
 | .error (p,_)=>(p:Int)
def vZ0 : Except (Nat × Nat) Tree→Int
 | .ok _=>0
 | .error (_,e)=>(e:Int)
theorem tB {w w':World} {T:Except (Nat × Nat) Tree} {en:Ending} (h:iT w T en w'):Below w.heap.size w w'∧∃ k a b n v,en = .returned (.tuple #[.agg #[.int .u8 k,.int .i64 a,.string b,.int .u64 n,v],.int .i64 (aK0 T),.int .i64 (vZ0 T)])∧bV w' w.heap.size (tF T) k a b n v:=by
 refine ⟨h.1,?_⟩
 cases T with
 | ok t=>exact h.2
 | error x=>?_
 obtain ⟨p,e⟩:=x
 exact ⟨_,_,_,_,_,h.2,⟨rfl,rfl,rfl,rfl,Row.nil _ _⟩⟩
theorem qY0 : aO noN:=by
 rw [nX]
 exact ⟨by simp [noN,qI],by simp [noN],by simp [noN,aO.goodTL]⟩
theorem pM {m:P Tree} (hm:Gs m aO) {l:List Nat} (hl:∀ c ∈ l,c < 256) {T:Except (Nat × Nat) Tree} (h:dX m l = some T):aO (tF T):=by
 cases T with
 | ok t=>exact lB0 hm hl h
 | error x=>exact qY0
theorem rD {t:Tree} (w:World) (k a:Int) (b:ByteArray) (n:Int) (v:Value) (k' a':Int) (b':ByteArray) (n':Int) (v':Value) (p e:Int) (ha:lS w t k a b n v) (hb:lS w t k' a' b' n' v') :
    Calls Tryz.prog 8 #[.agg #[.int .u8 k,.int .i64 a,.string b,.int .u64 n,v],.int .i64 p,.int .i64 e,.agg #[.int .u8 k',.int .i64 a',.string b',.int .u64 n',v'],.int .i64 p,.int .i64 e] w fun en w'=>en = .returned (.bool true)∧Below w.heap.size w w':=by
 obtain ⟨ao,cap,rfl,_⟩:=id ha.2.2.2.2
 obtain ⟨bo,cap',rfl,_⟩:=id hb.2.2.2.2
 have hb2:Below w.heap.size w ((w.alloc (.cells #[.int .u8 k,.int .i64 a,.string b,.int .u64 n,.slice ao t.kids.length cap] 25)).alloc (.cells #[.int .u8 k',.int .i64 a',.string b',.int .u64 n',.slice bo t.kids.length cap'] 25)):=((Below.refl _ _).alloc (Nat.le_refl _) _).alloc (by rw [World.size_alloc]; omega) _
 have CL:=nW (wY true t) _ _ _ _ _ _ _ _ _ _ _ (ha.below hb2) (hb.below hb2)
 generalize t.kids.length = m at CL hb2
 clear ha hb
 go_enter Tryz.func8,Tryz.ntmps8
 go_wp2_with fail
 refine CL.mono ?_
 rintro en w1 ⟨rfl,hb3⟩
 go_wp2
 go_ret
 exact ⟨rfl,hb2.trans (hb3.mono hb2.size)⟩
end Go.Proofs.YtnipenijihkgdaaGreatDoor
