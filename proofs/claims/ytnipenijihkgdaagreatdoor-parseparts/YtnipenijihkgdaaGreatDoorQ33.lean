import Derived.Test.YtnipenijihkgdaaGreatDoorNd
import Derived.Test.YtnipenijihkgdaaGreatDoorQ32
import Derived.Test.YtnipenijihkgdaaGreatDoorJPart7
set_option maxHeartbeats 3000000
set_option maxRecDepth 100000
namespace Go.Proofs.YtnipenijihkgdaaGreatDoor
open Go.RowKit
set_option linter.unusedVariables false
def eH0 (w:World) (r E d:Nat) (expr:P Tree) (t:Tree) (s':St) (B C D g3 g4:Nat) (g:Nat) (wr:World):Prop :=
 ∃ (n n':Tree) (sl:St) (k a:Int) (b:ByteArray) (nn:Int) (ao:Option Addr) (cap:Nat),eH expr g n E d sl = some (t,s')∧ZAt wr r E d sl∧Own wr g3 (nQ k a b nn ao n' cap) 25∧Own wr g4 nZ 25 ∧
  aZ wr (fun g=>(B≤g∧(g < C∨D≤g))∧g ≠ g3∧g ≠ g4) n' k a b nn (.slice ao n'.kids.length cap)∧(s'.wrong = 0→n' = n)∧Kp r w wr∧g4 < wr.heap.size
theorem lJ {expr:P Tree} (HP:cY 40 expr) (hbs:Bs expr 0) (f:Nat):∀ (w:World) (r E d:Nat) (s:St) (n n0 t:Tree) (s':St) (B C D:Nat) (k a:Int) (b:ByteArray) (nn:Int) (v:Value),ZAt w r E d s→E≤1048576→r < B→B≤w.heap.size→D≤w.heap.size→aZ w (fun g=>B≤g∧(g < C∨D≤g)) n0 k a b nn v→(s'.wrong = 0→n0 = n)→eH expr f n E d s = some (t,s') →
    Calls Tryz.prog 144 #[.pointer (some ⟨r,0,none⟩),.agg (nD k a b nn v)] w fun en w'=>∃ t' k' a' b' n' v',en = .returned (.agg (nD k' a' b' n' v'))∧aZ w' (fun g=>B≤g∧(g < C∨D≤g)) t' k' a' b' n' v'∧(s'.wrong = 0→t' = t)∧ZAt w' r E d s'∧Kp r w w':=by
 intro w r E d s n n0 t s' B C D k a b nn v hR hE hrB hBw hDw hN hn0 hm
 have hrl:=hR.lt
 have hK:=Kp.refl r w
 obtain ⟨ao,cap,rfl⟩:=hN.shape
 go_enter Tryz.func144,Tryz.ntmps144
 go_wp2_with fail
 have m:=(Own.new w (nQ k a b nn ao n0 cap) 25).alloc (.cells nZ 25)
 have o:=Own.new (w.alloc (.cells (nQ k a b nn ao n0 cap) 25)) nZ 25
 replace hR:=(hR.alloc (.cells (nQ k a b nn ao n0 cap) 25)).alloc (.cells nZ 25)
 replace hK:=(hK.alloc (.cells (nQ k a b nn ao n0 cap) 25)).alloc (.cells nZ 25)
 have nq:aZ ((w.alloc (.cells (nQ k a b nn ao n0 cap) 25)).alloc (.cells nZ 25)) (fun g=>(B≤g∧(g < C∨D≤g))∧g ≠ w.heap.size∧g ≠ w.heap.size + 1) n0 k a b nn (.slice ao n0.kids.length cap):=(hN.imp fun g h1 h2=>⟨h2,by omega,by omega⟩).on fun _ _ _ o=>(o.alloc _).alloc _
 rw [World.size_alloc] at o
 have hsz:w.heap.size + 1 < ((w.alloc (.cells (nQ k a b nn ao n0 cap) 25)).alloc (.cells nZ 25)).heap.size:=by rw [World.size_alloc,World.size_alloc]; omega
 generalize hw:(w.alloc (.cells (nQ k a b nn ao n0 cap) 25)).alloc (.cells nZ 25) = w1 at hR hK m o nq hsz ⊢
 clear hw hN
 go_loopg [] f (fun g wr=>eH0 w r E d expr t s' B C D w.heap.size (w.heap.size + 1) g wr)
 case atStart=>exact ⟨n,n0,s,k,a,b,nn,ao,cap,hm,hR,m,o,nq,hn0,hK,hsz⟩
 case round =>
  clear hR hK m o nq hm hsz hn0
  obtain ⟨n,n2,sl,k,a,b,nn,ao,cap,hm,hR,m,o,nq,hnn,hK,hsz⟩:=hrel
  cases gk with
  | zero=>cases hm
  | succ gk=>?_
  unfold eH at hm
  replace hm:=aN hm
  obtain ⟨q,hq⟩:=iQ (aR [46] (nxt E sl))
  have hq2:sg [46] (nxt E sl) = q:=by rw [← hq]; exact (aX (hR.nxt_wf 0) (fun c r h=>by cases h; rfl)).symm
  rw [hq2] at hm
  clear hq2
  go_wp2_with fail
  refine (fS hR ⟨#[46]⟩ q hq).mono ?_
  rintro en w2 ⟨rfl,hR2,hK2⟩
  have hs2:=hK2.size
  replace m:=m.kp hK2 (by omega)
  replace o:=o.kp hK2 (by omega)
  replace nq:=nq.on fun _ _ _ o=>o.kp hK2 (by omega)
  replace hK:=hK.trans hK2
  replace hR:=hR2
  clear hK2 hR2 hq
  cases q with
  | true =>
   rw [if_pos rfl] at hm hR
   obtain ⟨tk0,s0,h1,h2⟩:=aE hm
   obtain ⟨_,rfl⟩:=aV h1
   obtain ⟨tk,s1,h3,h4⟩:=aE h2
   obtain ⟨q5,hq5⟩:=iQ (nm (nxt E (aS sl)))
   have hs1:(if q5 then aS (aS sl) else bD E (aS sl)) = s1:=by
    rcases cU h3 with ⟨e1,_,e3⟩ | ⟨e1,_,e3⟩
    · rw [hq5] at e1; rw [e1,e3]; rfl
    rw [hq5] at e1; rw [e1,e3]; rfl
   have HTK:Hid (s1.wrong = 0→(aS sl).wrong = 0∧q5 = true∧tk = nxt E (aS sl)):=fun h0=>by
    rcases cU h3 with ⟨e1,e2,e3⟩ | ⟨e1,_,e3⟩
    · exact ⟨by rw [e3] at h0; exact h0,by rw [← hq5]; exact e1,e2⟩
    rw [e3] at h0; exact absurd h0 bS
   have HMO:Hid (s'.wrong = 0→s1.wrong = 0):=bP (iY hbs gk _) h4
   have HL4:=hI h4
   have HNN:=hI hnn
   have HS1:=hI hs1
   clear hm h1 h2 h3 h4 hs1 hnn
   go_wp2_with fail
   refine (bU hR).mono ?_
   rintro en w3 ⟨⟨x,rfl,hx⟩,hb3⟩
   have hs3:=hb3.size
   have HX:=hI hx
   have hR3:ZAt w3 r E d (aS sl):=hR.below hb3
   replace m:=m.below hb3
   replace o:=o.below hb3
   replace nq:=nq.on fun _ _ _ o=>o.below hb3
   replace hK:=hK.trans (Kp.of hb3)
   clear hb3 hx hR
   go_wp2_with fail
   refine (jK hR3 q5 hq5).mono ?_
   rintro en w4 ⟨rfl,hR4,hK4⟩
   have hs4:=hK4.size
   rw [HS1.out] at hR4
   replace m:=m.kp hK4 (by omega)
   replace o:=o.kp hK4 (by omega)
   replace nq:=nq.on fun _ _ _ o=>o.kp hK4 (by omega)
   replace hK:=hK.trans hK4
   obtain ⟨tx,htx⟩:∃ tx:List Nat,(if q5 then (nxt E (aS sl)).2.1 else []) = tx:=⟨_,rfl⟩
   have hst:(if q5 = true then bJ (nxt E (aS sl)).2.1 else ⟨#[]⟩) = bJ tx:=by rw [← htx]; cases q5 <;> rfl
   rw [hst]
   have HTX:=hI htx
   clear hK4 htx hst hR3 hq5
   obtain ⟨m0,m1,m2,m3,m4,mf⟩:=m.five
   have hlm:=m.lt
   have hrow:=bK.one nq (show (B≤w4.heap.size∧(w4.heap.size < C∨D≤w4.heap.size))∧w4.heap.size ≠ w.heap.size∧w4.heap.size ≠ w.heap.size + 1 from ⟨⟨by omega,by omega⟩,by omega,by omega⟩)
   have m5:=m.alloc (.cells (nQ k a b nn ao n2 cap) 25)
   have o5:=o.alloc (.cells (nQ k a b nn ao n2 cap) 25)
   have hR5:=hR4.alloc (.cells (nQ k a b nn ao n2 cap) 25)
   have hK5:=hK.alloc (.cells (nQ k a b nn ao n2 cap) 25)
   have hs5:w4.heap.size < (w4.alloc (.cells (nQ k a b nn ao n2 cap) 25)).heap.size:=by rw [World.size_alloc]; omega
   go_wp2_with fail
   refine (dE _ _ _ _).mono ?_
   rintro en wz ⟨rfl,rfl⟩
   generalize w4.alloc _ = W5 at hrow m5 o5 hR5 hK5 hs5 ⊢
   clear m0 m1 m2 m3 m4 mf m o hR4 hK nq
   go_wp2_with (refine aF rfl (.tmp 3) (.tmp 22) rfl rfl w.heap.size rfl rfl m5 ⟨rfl,rfl,rfl,rfl,rfl⟩ ?_; intro wz oz gz)
   have hR9:=hR5.grown gz (aH (by omega))
   have hK9:=hK5.grown gz (aI (by omega))
   have o9:=o5.grown gz (aG (by omega))
   have hs9:=gz.size
   have hq9:=hrow.on (w':=wz) fun _ _ _ o=>o.grown gz (aG (by omega))
   go_roundg gk
   case rel =>
    refine ⟨⟨48,(tk.2.2.2.1:Nat),tk.2.1,0,[n]⟩,⟨48,(x:Int),tx,0,[n2]⟩,s1,_,_,_,_,_,_,HL4.out,hR9,oz,o9,⟨rfl,rfl,rfl,rfl,hq9⟩,fun h0=>?_,hK9,by omega⟩
    obtain ⟨e1,e2,e3⟩:=HTK.out (HMO.out h0)
    rw [HNN.out h0,HX.out e1,e3,← HTX.out,e2]
    rfl
   case measure=>omega
  | false=>?_
  rw [if_neg (by simp)] at hm hR
  obtain ⟨q,hq⟩:=iQ (aR [91] (nxt E sl))
  have hq2:sg [91] (nxt E sl) = q:=by rw [← hq]; exact (aX (hR.nxt_wf 0) (fun c r h=>by cases h; rfl)).symm
  rw [hq2] at hm
  go_wp2_with fail
  refine (bG hR ⟨#[91]⟩ q hq).mono ?_
  rintro en w3 ⟨rfl,hb3⟩
  have hs3:=hb3.size
  have hR3:ZAt w3 r E d sl:=hR.below hb3
  replace m:=m.below hb3
  replace o:=o.below hb3
  replace nq:=nq.on fun _ _ _ o=>o.below hb3
  replace hK:=hK.trans (Kp.of hb3)
  clear hb3 hR
  cases q with
  | false =>
   rw [if_neg (by simp)] at hm
   obtain ⟨e1,e2⟩:=aJ hm
   subst e1 e2
   obtain ⟨m0,m1,m2,m3,m4,mf⟩:=m.five
   clear hm hq hq2
   go_wp2_with (refine aF rfl (.tmp 4) (.tmp 9) rfl rfl (w.heap.size + 1) rfl rfl o ⟨rfl,rfl,rfl,rfl,rfl⟩ ?_; intro wz oz gz)
   refine aC (t:=25) rfl rfl rfl oz Tryz.underlying25 rfl (by kernel_rfl) ?_
   exact ⟨n2,_,_,_,_,_,rfl,((nq.on fun _ _ _ o=>o.grown gz (aG (by omega))).imp fun g _ h=>h.1),hnn,hR3.grown gz (aH (by omega)),hK.grown gz (aI (by omega))⟩
  | true=>?_
  rw [if_pos rfl] at hm
  obtain ⟨y,s5,h1,h2⟩:=aE hm
  obtain ⟨s2,h5,hs5,hy1⟩:=fA h1
  rw [hq2] at h5 hy1
  obtain ⟨yt,hyt⟩:=iQ (y.2)
  rw [hyt] at h5 h2
  rw [hy1 rfl] at h2
  have HMO:Hid (s'.wrong = 0→s5.wrong = 0):=bP (iY hbs gk _) h2
  have HMO2:Hid (s5.wrong = 0→s2.wrong = 0∧sl.wrong = 0):=fun h0=>by
   have e1:s2.wrong = 0:=by rw [hs5] at h0; exact (gV h0).1
   exact ⟨e1,(mP (bP hbs h5 e1)).1⟩
  have HL4:=hI h2
  have HNN:=hI hnn
  have HS5:=hI hs5
  clear hm h1 h2 hs5 hnn hyt hy1 hq2
  go_wp2_with fail
  refine (bU hR3).mono ?_
  rintro en w4 ⟨⟨x,rfl,hx⟩,hb4⟩
  have hs4:=hb4.size
  have HX:=hI hx
  have hR4:ZAt w4 r E d sl:=hR3.below hb4
  replace m:=m.below hb4
  replace o:=o.below hb4
  replace nq:=nq.on fun _ _ _ o=>o.below hb4
  replace hK:=hK.trans (Kp.of hb4)
  clear hb4 hx hR3
  go_wp2_with fail
  refine (jY hR4 ⟨#[91]⟩ true hq).mono ?_
  rintro en w5 ⟨⟨_,rfl⟩,hR5,hK5⟩
  have hs5:=hK5.size
  replace m:=m.kp hK5 (by omega)
  replace o:=o.kp hK5 (by omega)
  replace nq:=nq.on fun _ _ _ o=>o.kp hK5 (by omega)
  replace hK:=hK.trans hK5
  clear hK5 hR4 hq
  go_wp2_with fail
  refine (HP w5 r E (d + 1) _ yt s2 hR5 hE h5).mono ?_
  rintro en w6 ⟨t1,k1,a1,b1,n1,v1,rfl,hN1,ht1,hR6,hK6⟩
  obtain ⟨ao1,cap1,rfl⟩:=Row.shape hN1.2.2.2.2
  have hs6:=hK6.size
  have HT1:=hI ht1
  obtain ⟨W7,hW7⟩:=iQ (w6.alloc (.cells (nQ k1 a1 b1 n1 ao1 t1 cap1) 25))
  have hb7:Below w6.heap.size w6 W7:=by rw [← hW7]; exact (Below.refl _ _).alloc (Nat.le_refl _) _
  have oY:Own W7 w6.heap.size (nQ k1 a1 b1 n1 ao1 t1 cap1) 25:=by rw [← hW7]; exact Own.new w6 _ _
  have hs7:=hb7.size
  have hK7:Kp r w5 W7:=hK6.trans (Kp.of hb7)
  have hR7:ZAt W7 r E (d + 1) s2:=hR6.below hb7
  have m7:=m.kp hK7 (by omega)
  have o7:=o.kp hK7 (by omega)
  have hQ7:aZ W7 (fun g=>((B≤g∧(g < C∨D≤g))∧g ≠ w.heap.size∧g ≠ w.heap.size + 1)∧g < w5.heap.size) n2 k a b nn (.slice ao n2.kids.length cap):=(nq.imp (Q':=fun g=>((B≤g∧(g < C∨D≤g))∧g ≠ w.heap.size∧g ≠ w.heap.size + 1)∧g < w5.heap.size) fun g h1 h2=>⟨h2,h1⟩).on fun _ _ _ o=>o.kp hK7 (by omega)
  have hN7:aZ W7 (fun g=>((B≤g∧(g < C∨D≤g))∧g ≠ w.heap.size∧g ≠ w.heap.size + 1)∧w5.heap.size≤g) t1 k1 a1 b1 n1 (.slice ao1 t1.kids.length cap1):=(aZ.imp (bV.q hN1) (Q':=fun g=>((B≤g∧(g < C∨D≤g))∧g ≠ w.heap.size∧g ≠ w.heap.size + 1)∧w5.heap.size≤g) fun g _ h=>⟨⟨⟨by omega,by omega⟩,by omega,by omega⟩,h⟩).on fun _ _ _ o=>o.below hb7
  have hKW:=hK.trans hK7
  obtain ⟨q3,hq3⟩:=iQ (aR [93] (nxt E s2))
  have hsg3:sg [93] (nxt E s2) = q3:=by rw [← hq3]; exact (aX (hR7.nxt_wf 0) (fun c r h=>by cases h; rfl)).symm
  rw [hsg3] at HS5
  clear hK6 hR6 hN1 ht1 hR5 h5 m o nq hK hb7 hsg3
  go_upto_region 10 with fail
  try rw [hW7]
  clear hW7
  go_wp2_with fail
  refine (kI hR7 ⟨#[93]⟩ q3 hq3).mono ?_
  rintro en w8 ⟨⟨_,rfl⟩,hR8,hK8⟩
  rw [← HS5.out] at hR8
  have hs8:=hK8.size
  have hlY:=oY.lt
  have m8:=m7.kp hK8 (by omega)
  have o8:=o7.kp hK8 (by omega)
  have oY8:=oY.kp hK8 (by omega)
  have hQ8:=hQ7.on (w':=w8) fun _ _ _ o=>o.kp hK8 (by omega)
  have hN8:=hN7.on (w':=w8) fun _ _ _ o=>o.kp hK8 (by omega)
  have hK9:=hKW.trans hK8
  obtain ⟨m0,m1,m2,m3,m4,mf⟩:=m8.five
  obtain ⟨y0,y1,y2,y3,y4,yf⟩:=oY8.five
  have hlm:=m8.lt
  have hlY8:=oY8.lt
  have hrow:=bK.two w5.heap.size hQ8 hN8 (show (B≤w8.heap.size∧(w8.heap.size < C∨D≤w8.heap.size))∧w8.heap.size ≠ w.heap.size∧w8.heap.size ≠ w.heap.size + 1 from ⟨⟨by omega,by omega⟩,by omega,by omega⟩)
  have m9:=m8.alloc (.cells #[.int .u8 k,.int .i64 a,.string b,.int .u64 nn,.slice ao n2.kids.length cap,.int .u8 k1,.int .i64 a1,.string b1,.int .u64 n1,.slice ao1 t1.kids.length cap1] 25)
  have o9:=o8.alloc (.cells #[.int .u8 k,.int .i64 a,.string b,.int .u64 nn,.slice ao n2.kids.length cap,.int .u8 k1,.int .i64 a1,.string b1,.int .u64 n1,.slice ao1 t1.kids.length cap1] 25)
  have hR9:=hR8.alloc (.cells #[.int .u8 k,.int .i64 a,.string b,.int .u64 nn,.slice ao n2.kids.length cap,.int .u8 k1,.int .i64 a1,.string b1,.int .u64 n1,.slice ao1 t1.kids.length cap1] 25)
  have hK10:=hK9.alloc (.cells #[.int .u8 k,.int .i64 a,.string b,.int .u64 nn,.slice ao n2.kids.length cap,.int .u8 k1,.int .i64 a1,.string b1,.int .u64 n1,.slice ao1 t1.kids.length cap1] 25)
  have hs9:w8.heap.size < (w8.alloc (.cells #[.int .u8 k,.int .i64 a,.string b,.int .u64 nn,.slice ao n2.kids.length cap,.int .u8 k1,.int .i64 a1,.string b1,.int .u64 n1,.slice ao1 t1.kids.length cap1] 25)).heap.size:=by rw [World.size_alloc]; omega
  clear hR7 hK7 m7 o7 oY hQ7 hN7 hK8 hKW hq3 hQ8 hN8 hR8 hK9 oY8 o8 m8
  go_wp2_with fail
  refine (dE _ _ _ _).mono ?_
  rintro en wz ⟨rfl,rfl⟩
  generalize w8.alloc _ = W9 at hrow m9 o9 hR9 hK10 hs9 ⊢
  clear m0 m1 m2 m3 m4 mf y0 y1 y2 y3 y4 yf
  go_wp2_with (refine aF rfl (.tmp 3) (.tmp 39) rfl rfl w.heap.size rfl rfl m9 ⟨rfl,rfl,rfl,rfl,rfl⟩ ?_; intro wz oz gz)
  have hR11:=hR9.grown gz (aH (by omega))
  have hK11:=hK10.grown gz (aI (by omega))
  have o11:=o9.grown gz (aG (by omega))
  have hs11:=gz.size
  have hq11:=hrow.on (w':=wz) fun _ _ _ o=>o.grown gz (aG (by omega))
  go_roundg gk
  case rel =>
   refine ⟨⟨49,((nxt E sl).2.2.2.1:Nat),[],0,[n,yt]⟩,⟨49,(x:Int),[],0,[n2,t1]⟩,s5,_,_,_,_,_,_,HL4.out,hR11,oz,o11,⟨rfl,rfl,rfl,rfl,hq11⟩,fun h0=>?_,hK11,by omega⟩
   obtain ⟨e1,e2⟩:=HMO2.out (HMO.out h0)
   rw [HNN.out h0,HX.out e2,HT1.out e1]
  case measure=>omega
theorem bW0 {expr:P Tree} (HP:cY 40 expr) (hbs:Bs expr 0) (f:Nat):∀ (w:World) (r E d:Nat) (s:St) (n n0 t:Tree) (s':St) (B:Nat) (k a:Int) (b:ByteArray) (nn:Int) (v:Value),ZAt w r E d s→E≤1048576→r < B→B≤w.heap.size→bV w B n0 k a b nn v→(s'.wrong = 0→n0 = n)→eH expr f n E d s = some (t,s') →
    Calls Tryz.prog 144 #[.pointer (some ⟨r,0,none⟩),.agg (nD k a b nn v)] w fun en w'=>∃ t' k' a' b' n' v',en = .returned (.agg (nD k' a' b' n' v'))∧bV w' B t' k' a' b' n' v'∧(s'.wrong = 0→t' = t)∧ZAt w' r E d s'∧Kp r w w':=fun w r E d s n n0 t s' B k a b nn v hR hE hrB hBw hN hn0 hm =>
 (lJ HP hbs f w r E d s n n0 t s' B 0 B k a b nn v hR hE hrB hBw hBw (hN.q.imp fun g _ h=>⟨h,.inr h⟩) hn0 hm).mono fun en w' ⟨t',k',a',b',n',v',he,hq,ht,h1,h2⟩=>⟨t',k',a',b',n',v',he,(hq.imp fun g _ h=>h.1).is,ht,h1,h2⟩
def wI : P Tree:=eT fun t=>ret ⟨24,t.2.2.2.1,[],0,[]⟩
theorem vE : cY 199 wI:=by
 intro w r E d s t s' hR hE hm
 have hrl:=hR.lt
 unfold wI at hm
 replace hm:=aN hm
 obtain ⟨hT,rfl⟩:=aJ hm
 have HT':=hI hT
 have HZ0:Hid (ZAt (w.alloc (.cells nZ 25)) r E d s):=hR.alloc _
 clear hm hT
 go_enter Tryz.func199,Tryz.ntmps199
 go_wp2_with fail
 refine (bU HZ0).mono ?_
 rintro en w1 ⟨⟨x,rfl,hx⟩,hb1⟩
 have HZ1:Hid (ZAt w1 r E d s):=HZ0.out.below hb1
 have o1:=(Own.new w nZ 25).below hb1
 have HK1:Hid (Kp r w w1):=Kp.of (((Below.refl _ _).alloc (Nat.le_refl _) _).trans (hb1.mono (by rw [World.size_alloc]; omega)))
 have HX:=hI hx
 obtain ⟨z0,z1,z2,z3,z4,zf⟩:=o1.five
 have hlR:=o1.lt
 have HR1:=hI o1
 clear hb1 hx HZ0 o1
 go_wp2
 refine aC (t:=25) rfl rfl rfl (Own.set5 HR1.out _ _ _ _ _) Tryz.underlying25 rfl (by kernel_rfl) ?_
 refine ⟨⟨24,(x:Int),[],0,[]⟩,_,_,_,_,_,rfl,⟨rfl,rfl,rfl,rfl,Row.nil _ _⟩,fun h0=>?_,ZAt.set5 HZ1.out hrl _ _ _ _ _,HK1.out.set5 (.inl (Nat.le_refl _)) _ _ _ _ _⟩
 rw [← HT'.out,HX.out h0]
theorem fL0 {E d:Nat} {s s':St} {t:Tree} (h:jF E d s = some (t,s')) :
    let q:=sg [45] (nxt E s)
    let s1:=if q then aS s else s
    (nu (nxt E s1) = true∧s' = aS s1∧t = (if q then ⟨55,((nxt E s).2.2.2.1:Nat),[],0,[⟨40,((nxt E s1).2.2.2.1:Nat),(nxt E s1).2.1,(nxt E s1).2.2.1,[]⟩]⟩ else ⟨40,((nxt E s1).2.2.2.1:Nat),(nxt E s1).2.1,(nxt E s1).2.2.1,[]⟩))∨(nu (nxt E s1) = false∧s' = bD E s1):=by
 intro q s1
 have hw:∀ {sx sy:St} {nT:Tree},mT E d sx = some (nT,sy)→(nu (nxt E sx) = true∧sy = aS sx∧nT = ⟨40,((nxt E sx).2.2.2.1:Nat),(nxt E sx).2.1,(nxt E sx).2.2.1,[]⟩)∨(nu (nxt E sx) = false∧sy = bD E sx):=by
  intro sx sy nT hh
  obtain ⟨tk,s2,e1,e2⟩:=aE hh
  obtain ⟨rfl,rfl⟩:=aJ e2
  rcases cU e1 with ⟨c1,rfl,c3⟩ | ⟨c1,_,c3⟩
  · exact .inl ⟨c1,c3,rfl⟩
  exact .inr ⟨c1,c3⟩
 unfold jF at h
 replace h:=aN h
 cases hq:sg [45] (nxt E s) with
 | true =>
  have e1:s1 = aS s:=by show (if sg [45] (nxt E s) = true then aS s else s) = _; rw [hq]; rfl
  have e2:q = true:=hq
  rw [hq,if_pos rfl] at h
  obtain ⟨tk,s2,g1,g2⟩:=aE h
  obtain ⟨rfl,rfl⟩:=aV g1
  obtain ⟨nT,s3,g3,g4⟩:=aE g2
  obtain ⟨rfl,rfl⟩:=aJ g4
  rw [e1,e2]
  rcases hw g3 with ⟨c1,c2,c3⟩ | ⟨c1,c2⟩
  · exact .inl ⟨c1,c2,by rw [c3]; rfl⟩
  exact .inr ⟨c1,c2⟩
 | false=>?_
 have e1:s1 = s:=by show (if sg [45] (nxt E s) = true then aS s else s) = _; rw [hq]; rfl
 have e2:q = false:=hq
 rw [hq,if_neg (by simp)] at h
 rw [e1,e2]
 rcases hw h with ⟨c1,c2,c3⟩ | ⟨c1,c2⟩
 · exact .inl ⟨c1,c2,by rw [c3]; rfl⟩
 exact .inr ⟨c1,c2⟩
theorem fQ0 : cY 200 jF:=by
 intro w r E d s t s' hR hE hm
 have hrl:=hR.lt
 have hne2:w.heap.size ≠ r:=by omega
 have hc:=fL0 hm
 obtain ⟨q,hq⟩:=iQ (aR [45] (nxt E s))
 have hq2:sg [45] (nxt E s) = q:=by rw [← hq]; exact (aX (hR.nxt_wf 0) (fun c r h=>by cases h; rfl)).symm
 rw [hq2] at hc
 obtain ⟨s1,hs1⟩:=iQ ((if q then aS s else s))
 simp only [hs1] at hc
 have HC:=hI hc
 have HS1:=hI hs1
 have HMO:Hid (s1.wrong = 0→s.wrong = 0):=fun h0=>by rw [← hs1] at h0; cases q <;> exact h0
 have HZ0:Hid (ZAt (w.alloc (.cells nZ 25)) r E d s):=hR.alloc _
 clear hm hc hs1 hq2
 go_enter Tryz.func200,Tryz.ntmps200
 go_wp2_with fail
 refine (bU HZ0).mono ?_
 rintro en w1 ⟨⟨x,rfl,hx⟩,hb1⟩
 have HZ1:Hid (ZAt w1 r E d s):=HZ0.out.below hb1
 have o1:=(Own.new w nZ 25).below hb1
 have HK1:Hid (Kp r w w1):=Kp.of (((Below.refl _ _).alloc (Nat.le_refl _) _).trans (hb1.mono (by rw [World.size_alloc]; omega)))
 have HX:=hI hx
 clear hb1 hx HZ0
 go_wp2_with fail
 refine (fS HZ1 ⟨#[45]⟩ q hq).mono ?_
 rintro en w2 ⟨rfl,hR2,hK2⟩
 rw [HS1.out] at hR2
 have o2:=o1.kp hK2 hne2
 have HK2:Hid (Kp r w w2):=HK1.out.trans hK2
 have HR2:=hI hR2
 clear hK2 o1 HK1 HZ1 hq hR2
 go_wp2_with fail
 refine (fP HR2 0 0 rfl (by omega)).mono ?_
 rintro en w3 ⟨⟨k3,b3,n3,a3,e3,rfl,hA⟩,hb3⟩
 have HZ3:ZAt w3 r E d s1:=HR2.out.below hb3
 have o3:=o2.below hb3
 have HK3:Hid (Kp r w w3):=HK2.out.trans (Kp.of hb3)
 have hk:k3 = ((nxt E s1).1:Int):=hA.1
 obtain ⟨W4,hW4⟩:=iQ (w3.alloc (.cells #[.int .u8 k3,.string b3,.int .u64 n3,.int .i64 a3,.int .i64 e3] 65))
 have hb4:Below w3.heap.size w3 W4:=by rw [← hW4]; exact (Below.refl _ _).alloc (Nat.le_refl _) _
 have oT:Own W4 w3.heap.size #[.int .u8 k3,.string b3,.int .u64 n3,.int .i64 a3,.int .i64 e3] 65:=by rw [← hW4]; exact Own.new w3 _ _
 obtain ⟨t0,t1,t2,t3,t4,tf⟩:=oT.five
 have hlT:=oT.lt
 have HZ4:Hid (ZAt W4 r E d s1):=HZ3.below hb4
 have o4:=o3.below hb4
 have HK4:Hid (Kp r w W4):=HK3.out.trans (Kp.of hb4)
 have hlr:w.heap.size < w3.heap.size:=o3.lt
 have HW4:=hI hW4
 clear hb3 o2 HK2 HR2 hW4 HZ3 o3 HK3 hb4 oT
 rcases HC.out with ⟨c1,c2,c3⟩ | ⟨c1,c2⟩
 · have h2:(nxt E s1).1 = 2:=by simpa [nu] using c1
   have e1:(k3 != 2) = false:=by rw [hk,h2]; rfl
   have ha3:a3 = ((nxt E s1).2.2.2.1:Int):=hA.2.2.2 (by rw [show k3 = ((nxt E s1).1:Int) from hk,h2]; decide)
   have HA:Hid (b3 = bJ (nxt E s1).2.1∧n3 = ((nxt E s1).2.2.1:Int)∧a3 = ((nxt E s1).2.2.2.1:Int)):=⟨hA.2.1,hA.2.2.1,ha3⟩
   have HT':=hI c3
   have HS':=hI c2
   obtain ⟨W5,hW5⟩:=iQ (W4.alloc (.cells (nL 40 a3 b3 n3) 25))
   have hb5:Below W4.heap.size W4 W5:=by rw [← hW5]; exact (Below.refl _ _).alloc (Nat.le_refl _) _
   have oX:Own W5 W4.heap.size (nL 40 a3 b3 n3) 25:=by rw [← hW5]; exact Own.new W4 _ _
   have o5:=o4.below hb5
   have hZ5:ZAt W5 r E d s1:=ZAt.below HZ4.out hb5
   obtain ⟨v,a,dd,pl,ho,ha,hdd,hd,hw,hpop⟩:=hZ5.pop (by rw [h2]; decide)
   obtain ⟨c0,c1',c2',c3',c4,c5,f0⟩:=ho.six
   have hl5:=ho.lt
   obtain ⟨W6,hW6⟩:=iQ (W5.setCell ⟨r,1,none⟩ (.int .i64 ((a:Int) + 1)))
   have HZ6:Hid (ZAt W6 r E d s'):=by
    unfold Hid
    rw [c2,← hW6]
    refine hpop _ (fun g hg=>Below.heap_setCell W5 ⟨r,1,none⟩ _ g (by show g ≠ r; omega)) d d rfl hd ?_
    have:=ho.set 1 (.int .i64 ((a:Int) + 1))
    rw [hdd] at this
    exact this
   have hrX:W4.heap.size ≠ r:=by omega
   have oX6:Own W6 W4.heap.size (nL 40 a3 b3 n3) 25:=by rw [← hW6]; exact oX.other hrX _
   have o6:Own W6 w.heap.size nZ 25:=by rw [← hW6]; exact o5.other hne2 _
   have HK6:Hid (Kp r w W6):=by unfold Hid; rw [← hW6]; exact (HK4.out.trans (Kp.of hb5)).set (.inr rfl) 1 _
   obtain ⟨x0,x1,x2,x3,x4,xf⟩:=oX6.five
   obtain ⟨z0,z1,z2,z3,z4,zf⟩:=o6.five
   have hlX:=oX6.lt
   have hlR:=o6.lt
   have HR6:=hI o6
   have HW5:=hI hW5
   have HW6:=hI hW6
   have HLV:=hI hw
   have hlt6:w.heap.size < W6.heap.size:=o6.lt
   clear hA ha3 hk h2 c1 c2 c3 hW5 hb5 oX o5 hZ5 hpop ho hdd hW6 o6 HZ4 o4 HK4 hw oX6
   go_upto_region 4 with fail
   try rw [HW4.out]
   go_upto_region 8 with fail
   rw [HW5.out]
   go_upto_region 9 with fail
   rw [HW6.out]
   clear HW4 HW5 HW6 c0 c1' c2' c3' c4 c5 f0 t0 t1 t2 t3 t4 tf
   cases q with
   | false =>
    go_wp2
    refine aC (t:=25) rfl rfl rfl (Own.set5 HR6.out _ _ _ _ _) Tryz.underlying25 rfl (by kernel_rfl) ?_
    refine ⟨⟨40,a3,(nxt E s1).2.1,(nxt E s1).2.2.1,[]⟩,_,_,_,_,_,rfl,⟨rfl,rfl,HA.out.1,HA.out.2.1,Row.nil _ _⟩,fun h0=>?_,ZAt.set5 HZ6.out hrl _ _ _ _ _,HK6.out.set5 (.inl (Nat.le_refl _)) _ _ _ _ _⟩
    rw [HT'.out,HA.out.2.2]
    rfl
   | true=>?_
   obtain ⟨W7,hW7⟩:=iQ (W6.alloc (.cells (nL 40 a3 b3 n3) 25))
   have HROW:Hid (Row W7 W6.heap.size (.slice (some ⟨W6.heap.size,0,none⟩) 1 1) [⟨40,a3,(nxt E s1).2.1,(nxt E s1).2.2.1,[]⟩]):=by
    unfold Hid
    rw [← hW7]
    exact Row.one (B:=W6.heap.size) ⟨rfl,rfl,HA.out.1,HA.out.2.1,Row.nil _ _⟩ (Nat.le_refl _) (Nat.le_refl _)
   have oR7:Own W7 w.heap.size nZ 25:=by rw [← hW7]; exact Own.alloc HR6.out _
   have HZ7:Hid (ZAt W7 r E d s'):=by unfold Hid; rw [← hW7]; exact ZAt.alloc HZ6.out _
   have HK7:Hid (Kp r w W7):=by unfold Hid; rw [← hW7]; exact HK6.out.alloc _
   obtain ⟨y0,y1,y2,y3,y4,yf⟩:=oR7.five
   have hlR7:=oR7.lt
   have HR7:=hI oR7
   have HW7:=hI hW7
   clear hW7 oR7 z0 z1 z2 z3 z4 zf
   go_wp2_with fail
   refine (dE _ _ _ _).mono ?_
   rintro en wz ⟨rfl,rfl⟩
   rw [HW7.out]
   clear HW7 x0 x1 x2 x3 x4 xf
   go_wp2
   refine aC (t:=25) rfl rfl rfl (Own.set5 HR7.out _ _ _ _ _) Tryz.underlying25 rfl (by kernel_rfl) ?_
   refine ⟨⟨55,(x:Int),[],0,[⟨40,a3,(nxt E s1).2.1,(nxt E s1).2.2.1,[]⟩]⟩,_,_,_,_,_,rfl,⟨rfl,rfl,rfl,rfl,(HROW.out.set5 hlt6 _ _ _ _ _).mono (Nat.le_of_lt hlt6)⟩,fun h0=>?_,ZAt.set5 HZ7.out hrl _ _ _ _ _,HK7.out.set5 (.inl (Nat.le_refl _)) _ _ _ _ _⟩
   rw [HT'.out,HA.out.2.2,HX.out (HMO.out HLV.out)]
   rfl
 have e1:(k3 != 2) = true:=by
  rw [hk]
  have:(nxt E s1).1 ≠ 2:=by intro h; rw [show nu (nxt E s1) = ((nxt E s1).1 == 2) from rfl,h] at c1; cases c1
  simp; omega
 have HS':=hI c2
 clear hA hk c1 c2
 go_upto_region 4 with fail
 try rw [HW4.out]
 clear HW4
 go_wp2_with fail
 refine (fI HZ4 40 40 rfl (by decide)).mono ?_
 rintro en w6 ⟨⟨_,rfl⟩,hR6,hK6⟩
 have o6:=o4.kp hK6 hne2
 have HO6:=hI o6
 obtain ⟨z0,z1,z2,z3,z4,zf⟩:=o6.five
 have hlz:=o6.lt
 have HR6:=hI hR6
 have HK6:Hid (Kp r w w6):=HK4.out.trans hK6
 clear hR6 hK6 o6 o4 HK4 HZ4
 go_wp2
 refine aC (t:=25) rfl rfl rfl (Own.set5 HO6.out _ _ _ _ _) Tryz.underlying25 rfl (by kernel_rfl) ?_
 refine ⟨noN,_,_,_,_,_,rfl,⟨rfl,rfl,rfl,rfl,Row.nil _ _⟩,fun h0=>?_,by rw [HS'.out]; exact ZAt.set5 HR6.out hrl _ _ _ _ _,HK6.out.set5 (.inl (Nat.le_refl _)) _ _ _ _ _⟩
 rw [HS'.out] at h0
 exact absurd h0 bS
end Go.Proofs.YtnipenijihkgdaaGreatDoor
