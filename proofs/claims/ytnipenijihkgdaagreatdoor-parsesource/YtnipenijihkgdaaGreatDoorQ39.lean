import Derived.Test.YtnipenijihkgdaaGreatDoorNd
import Derived.Test.YtnipenijihkgdaaGreatDoorQ36
import Derived.Deep.LoopGhost
set_option maxHeartbeats 3000000
set_option maxRecDepth 100000
namespace Go.Proofs.YtnipenijihkgdaaGreatDoor
open Go.RowKit
set_option linter.unusedVariables false
def qM0 (w:World) (r E d iR iN:Nat) (x:Nat) (L:List Tree) (sL:St) (g:Nat) (wr:World):Prop :=
 ∃ (acc acc':List Tree) (sl:St) (ao:Option Addr) (cap:Nat),(bnd vW fun n=>gJ vW g (acc ++ [n])) E d sl = some (L,sL)∧ZAt wr r E d sl∧Own wr iN (nD 11 (x:Int) ⟨#[]⟩ 0 (.slice ao acc'.length cap)) 25∧Own wr iR nZ 25∧bK wr (fun g=>iN < g) (.slice ao acc'.length cap) acc'∧(sL.wrong = 0→acc' = acc)∧Kp r w wr∧acc'.length + g≤900000000∧iN < wr.heap.size
theorem rA0 {E d:Nat} {s s':St} {t:Tree} {q:Bool} (h:vW E d s = some (t,s')) (hq:nm (nxt E s) = q):(if q = true then aS s else bD E s) = s'∧(s'.wrong = 0→s.wrong = 0∧q = true∧t = ⟨25,((nxt E s).2.2.2.1:Nat),(nxt E s).2.1,0,[]⟩):=by
 obtain ⟨tk,s1,g1,g2⟩:=aE h
 obtain ⟨hT,rfl⟩:=aJ g2
 obtain ⟨h1,h2⟩:=fR g1 hq
 refine ⟨h1,fun h0=>?_⟩
 obtain ⟨e1,e2,e3⟩:=h2 h0
 exact ⟨e1,e2,by rw [← hT,e3]⟩
theorem xB {expr:P Tree} (HP:cY 40 expr) (hbs:Bs expr 0) (f:Nat) (hf:f≤100000000):∀ (w:World) (r E d:Nat) (s:St) (t:Tree) (s':St),ZAt w r E d s→wd [118,97,114] (nxt E s) = true→E≤1048576→yK0 f expr E d s = some (t,s') →
    Calls Tryz.prog 176 #[.pointer (some ⟨r,0,none⟩)] w (pC w r E d t s'):=by
 intro w r E d s t s' hR hvar hE hm
 have hrl:=hR.lt
 have hK:=Kp.refl r w
 obtain ⟨tk,s0,g1,g2⟩:=aE hm
 obtain ⟨rfl,rfl⟩:=aV g1
 obtain ⟨L,sL,g3,g4⟩:=aE g2
 obtain ⟨tk2,s3,g5,g6⟩:=aE g4
 obtain ⟨x0,s4,g7,g8⟩:=aE g6
 obtain ⟨hT,rfl⟩:=aJ g8
 have hw0:s.wrong = 0:=hR.live (bR hvar)
 have hqv:=hR.wordq (x:=[118,97,114]) (by decide) hvar
 have HL:=hI g3
 have HN:=hI g5
 have HM:=hI g7
 have HMO:Hid (s4.wrong = 0→s3.wrong = 0):=bP hbs g7
 have HT':=hI hT
 have HW0:=hI hw0
 clear hm g1 g2 g3 g4 g5 g6 g7 g8 hT hvar hw0
 go_enter Tryz.func176,Tryz.ntmps176
 go_upto_region 1 with fail
 have oR:=Own.new w nZ 25
 replace hR:=hR.alloc (.cells nZ 25)
 replace hK:=hK.alloc (.cells nZ 25)
 generalize w.alloc _ = w1 at hR hK oR ⊢
 have hs1:=oR.lt
 go_wp2_with fail
 refine (bU hR).mono ?_
 rintro en w2 ⟨⟨x,rfl,hx⟩,hb⟩
 have HX:=hI hx
 clear hx
 have hs2:=hb.size
 replace hR:=hR.below hb
 replace hK:=hK.trans (Kp.of hb)
 replace oR:=oR.below hb
 clear hb
 go_upto_region 2 with fail
 have oN:=Own.new w2 (nL 11 (x:Int) ⟨#[]⟩ 0) 25
 obtain ⟨hR,hK,oR⟩:=(fun y9=>And.intro (hR.alloc y9) (And.intro (hK.alloc y9) (oR.alloc y9))) (.cells (nL 11 (x:Int) ⟨#[]⟩ 0) 25)
 generalize w2.alloc _ = w3 at hR hK oR oN ⊢
 have hs3:=oN.lt
 go_wp2_with fail
 refine (cQ hR ⟨#[118,97,114]⟩ true hqv).mono ?_
 rintro en w4 ⟨⟨_,rfl⟩,hR2,hK2⟩
 rw [if_pos rfl] at hR2
 have hs4:=hK2.size
 replace oR:=oR.kp hK2 (by omega)
 replace oN:=oN.kp hK2 (by omega)
 replace hK:=hK.trans hK2
 replace hR:=hR2
 clear hK2 hR2 hqv
 go_wp2_with fail
 go_loopg [] f (fun g wr=>qM0 w r E d (w.heap.size) (w2.heap.size) x L sL g wr)
 case atStart=>exact ⟨[],[],aS s,none,0,HL.out,hR,oN,oR,(Row.nil _ _).q,fun _=>rfl,hK,by simp; omega,by omega⟩
 case round =>
  clear hR hK oR oN HL
  obtain ⟨acc,acc',sl,ao,cap,hm,hR,oN,oR,ql,hacc,hK,hlen,hiN⟩:=hrel
  replace ql:bK wr (fun g=>w2.heap.size < g∧g < wr.heap.size) (.slice ao acc'.length cap) acc':=ql.imp fun g h1 h2=>⟨h2,h1⟩
  obtain ⟨n,s1,h1,h2⟩:=aE hm
  obtain ⟨q,hq⟩:=iQ (nm (nxt E sl))
  obtain ⟨hs1,hn1⟩:=rA0 h1 hq
  have HS1:=hI hs1
  have HN1:=hI hn1
  have HMO2:Hid (sL.wrong = 0→s1.wrong = 0):=bP (nJ sQ0 gk (acc ++ [n])) h2
  have HACC:=hI hacc
  have HL2:=hI h2
  have hs0:=hK.size
  clear hm h1 h2 hs1 hn1 hacc
  go_wp2_with fail
  refine (bU hR).mono ?_
  rintro en w5 ⟨⟨x2,rfl,hx⟩,hb⟩
  have HX2:=hI hx
  clear hx
  have hs5:=hb.size
  replace hR:=hR.below hb
  replace hK:=hK.trans (Kp.of hb)
  replace oN:=oN.below hb
  replace oR:=oR.below hb
  replace ql:=ql.on fun _ _ _ o=>o.below hb
  clear hb
  go_wp2_with fail
  refine (jK hR q hq).mono ?_
  rintro en w6 ⟨rfl,hR2,hK2⟩
  obtain ⟨tx,httx⟩:∃ tx:List Nat,(if q then (nxt E sl).2.1 else []) = tx:=⟨_,rfl⟩
  have hst:(if q = true then bJ (nxt E sl).2.1 else ⟨#[]⟩) = bJ tx:=by rw [← httx]; first | rfl | (cases q <;> rfl)
  rw [hst]
  have HTtx:=hI httx
  clear hst httx
  rw [HS1.out] at hR2
  have hs6:=hK2.size
  replace oN:=oN.kp hK2 (by omega)
  replace oR:=oR.kp hK2 (by omega)
  replace ql:=ql.on fun _ _ _ o=>o.kp hK2 (by omega)
  replace hK:=hK.trans hK2
  replace hR:=hR2
  clear hK2 hR2 hq
  obtain ⟨oN0,oN1,oN2,oN3,oN4,oNf⟩:=oN.five
  have oNl:=oN.lt
  go_wp2_with (first | (at_builtin; refine cT rfl (.tmp 17) (.tmp 21) rfl (fun g=>w2.heap.size < g∧g < wr.heap.size) (fun g=>g < 0) (fun g=>w2.heap.size < g) _ acc' rfl (ql.on fun g hg cur ho=>ho.alloc _) (⟨25,(x2:Int),tx,0,[]⟩:Tree) 25 (x2:Int) (bJ tx) 0 (.slice none 0 0) w6.heap.size rfl (Own.new w6 _ _) (aZ.leaf _ _ 25 _ _ 0) (fun g h1 h2=>by omega) (fun g h0 h1=>by omega) (fun g h0 h1=>by omega) (by rw [World.size_alloc]; exact by omega) (by omega) ?_; intro aoA7 capA7 wU hrowU gzU hvbU; have oU:=(oN.alloc _).grown gzU (fun e=>by have:=(hvbU _ e.symm).1; omega)) | (refine aQ rfl (.tmp 23) (.tmp 22) rfl rfl (w2.heap.size) 4 rfl rfl oU (by simp) ?_; intro w7 oV gzV))
  clear oN0 oN1 oN2 oN3 oN4 oNf oNl
  have hllU:(acc' ++ [(⟨25,(x2:Int),tx,0,[]⟩:Tree)]).length = acc'.length + 1:=by simp
  rw [hllU] at hrowU
  have hsU:=gzU.size
  rw [World.size_alloc] at hsU
  have hsV:=gzV.size
  replace hR:=((hR.alloc (.cells (nL 25 (x2:Int) (bJ tx) 0) 25)).grown gzU (fun k hk=>by have:=(hvbU k hk).1; omega)).grown gzV (aH (by omega))
  replace hK:=((hK.alloc (.cells (nL 25 (x2:Int) (bJ tx) 0) 25)).grown gzU (fun k hk=>by have:=(hvbU k hk).1; omega)).grown gzV (aI (by omega))
  replace oR:=((oR.alloc (.cells (nL 25 (x2:Int) (bJ tx) 0) 25)).grown gzU (fun e=>by have:=(hvbU _ e.symm).1; omega)).grown gzV (aG (by omega))
  replace oN:Own w7 (w2.heap.size) (nD 11 (x:Int) ⟨#[]⟩ 0 (.slice aoA7 (acc'.length + 1) capA7)) 25:=oV
  clear ql
  have ql:=hrowU.on fun _ _ _ o=>o.grown gzV (aG (by omega))
  have hs7:w6.heap.size < w7.heap.size:=by omega
  clear hrowU gzU hvbU oU oV gzV hllU hsU hsV
  have HACC2:Hid (sL.wrong = 0→acc' ++ [(⟨25,(x2:Int),tx,0,[]⟩:Tree)] = acc ++ [n]):=fun h0=>by
   obtain ⟨e1,e2,e3⟩:=HN1.out (HMO2.out h0)
   rw [HACC.out h0,e3,HX2.out e1,← HTtx.out,e2]
   rfl
  obtain ⟨q2,hq2⟩:=iQ (aR [44] (nxt E s1))
  have hq2m:sg [44] (nxt E s1) = q2:=by rw [← hq2]; exact (aX (hR.nxt_wf 0) (fun c r h=>by cases h; rfl)).symm
  have HQ2:=hI hq2m
  obtain ⟨acc2,ha2⟩:=iQ (acc' ++ [(⟨25,(x2:Int),tx,0,[]⟩:Tree)])
  have hl2:acc'.length + 1 = acc2.length:=by rw [← ha2]; simp
  rw [ha2] at ql HACC2
  rw [hl2] at ql oN
  clear hq2m
  refine (fS hR ⟨#[44]⟩ q2 hq2).mono ?_
  rintro en w8 ⟨rfl,hR2,hK2⟩
  have hs8:=hK2.size
  replace oN:=oN.kp hK2 (by omega)
  replace oR:=oR.kp hK2 (by omega)
  replace ql:=ql.on fun _ _ _ o=>o.kp hK2 (by omega)
  replace hK:=hK.trans hK2
  replace hR:=hR2
  clear hK2 hR2
  cases q2 with
  | true =>
   have hl:=HL2.out
   cases gk with
   | zero=>cases hl
   | succ gk=>?_
   unfold gJ at hl
   replace hl:=aN hl
   rw [HQ2.out,if_pos rfl] at hl
   obtain ⟨tk,s2,e1,e2⟩:=aE hl
   obtain ⟨_,rfl⟩:=aV e1
   rw [if_pos rfl] at hR
   have HE2:=hI e2
   have hlen2:acc2.length + gk≤900000000:=by omega
   clear hl e1 e2 HL2 hq2
   go_wp2
   go_roundg gk
   case rel=>exact ⟨acc ++ [n],acc2,aS s1,_,_,HE2.out,hR,oN,oR,ql.imp fun g _ h=>h,HACC2.out,hK,hlen2,by omega⟩
   case measure=>omega
  | false=>?_
  have hl:=HL2.out
  cases gk with
  | zero=>cases hl
  | succ gk=>?_
  unfold gJ at hl
  replace hl:=aN hl
  rw [HQ2.out,if_neg (by simp)] at hl
  obtain ⟨e1,e2⟩:=aJ hl
  rw [if_neg (by simp)] at hR
  have HE1:=hI e1
  subst e2
  clear hl e1 HL2 hq2
  obtain ⟨q3,hq3⟩:=iQ (aR [61] (nxt E s1))
  have hq3m:sg [61] (nxt E s1) = q3:=by rw [← hq3]; exact (aX (hR.nxt_wf 0) (fun c r h=>by cases h; rfl)).symm
  obtain ⟨hs3,htk⟩:=fR HN.out hq3m
  have HS3:=hI hs3
  have HTK:=hI htk
  replace ql:bK w8 (fun g=>w2.heap.size < g∧g < w8.heap.size) _ acc2:=ql.imp fun g h1 h2=>⟨h2,h1⟩
  clear hs3 htk hq3m
  go_wp2_with fail
  refine (cQ hR ⟨#[61]⟩ q3 hq3).mono ?_
  rintro en w9 ⟨⟨_,rfl⟩,hR2,hK2⟩
  rw [HS3.out] at hR2
  have hs9:=hK2.size
  replace oN:=oN.kp hK2 (by omega)
  replace oR:=oR.kp hK2 (by omega)
  replace ql:=ql.on fun _ _ _ o=>o.kp hK2 (by omega)
  replace hK:=hK.trans hK2
  replace hR:=hR2
  clear hK2 hR2 hq3
  go_wp2_with fail
  refine (HP _ r E d s3 x0 s4 hR hE HM.out).mono ?_
  rintro en w10 ⟨t1,k1,a1,b1,n1,v1,rfl,hN1,ht1,hR2,hK2⟩
  obtain ⟨ao1,cap1,rfl⟩:=Row.shape hN1.2.2.2.2
  have q1:aZ w10 (fun g=>w9.heap.size≤g∧g < w10.heap.size) t1 k1 a1 b1 n1 (.slice ao1 t1.kids.length cap1):=hN1.q.imp fun g h1 h2=>⟨h2,h1⟩
  have HT1:=hI ht1
  clear hN1 ht1
  have hs10:=hK2.size
  replace oN:=oN.kp hK2 (by omega)
  replace oR:=oR.kp hK2 (by omega)
  replace ql:=ql.on fun _ _ _ o=>o.kp hK2 (by omega)
  replace hK:=hK.trans hK2
  replace hR:=hR2
  clear hK2 hR2
  go_upto_region 9 with fail
  have oX:=Own.new w10 (nQ k1 a1 b1 n1 ao1 t1 cap1) 25
  obtain ⟨hR,hK,oN,oR,ql,q1⟩:=(fun y9=>And.intro (hR.alloc y9) (And.intro (hK.alloc y9) (And.intro (oN.alloc y9) (And.intro (oR.alloc y9) (And.intro (ql.on fun _ _ _ h=>h.alloc y9) (q1.on fun _ _ _ h=>h.alloc y9)))))) (.cells (nQ k1 a1 b1 n1 ao1 t1 cap1) 25)
  generalize w10.alloc _ = w11 at hR hK oN oR oX ql q1 ⊢
  have hs11:=oX.lt
  obtain ⟨oN0,oN1,oN2,oN3,oN4,oNf⟩:=oN.five
  have oNl:=oN.lt
  obtain ⟨oX0,oX1,oX2,oX3,oX4,oXf⟩:=oX.five
  have oXl:=oX.lt
  go_wp2_with (first | (at_builtin; refine cT rfl (.tmp 32) (.tmp 34) rfl (fun g=>w2.heap.size < g∧g < w8.heap.size) (fun g=>w9.heap.size≤g∧g < w10.heap.size) (fun g=>w2.heap.size < g) _ acc2 rfl (ql.on fun g hg cur ho=>ho.alloc _) t1 k1 a1 b1 n1 (.slice ao1 t1.kids.length cap1) w11.heap.size rfl (Own.new w11 _ _) (q1.on fun g hg cur ho=>ho.alloc _) (fun g h1 h2=>by omega) (fun g h0 h1=>by omega) (fun g h0 h1=>by omega) (by rw [World.size_alloc]; exact by omega) (by omega) ?_; intro aoA12 capA12 wU hrowU gzU hvbU; have oU:=(oN.alloc _).grown gzU (fun e=>by have:=(hvbU _ e.symm).1; omega); have oRU:=(oR.alloc _).grown gzU (fun e=>by have:=(hvbU _ e.symm).1; omega)) | (refine aQ rfl (.tmp 36) (.tmp 35) rfl rfl (w2.heap.size) 4 rfl rfl oU (by simp) ?_; intro w12 oV gzV; obtain ⟨oV0,oV1,oV2,oV3,oV4,oVf⟩:=oV.five; have oVl:=oV.lt; have oRV:=oRU.grown gzV (aG (by omega))) | (refine aF rfl (.tmp 2) (.tmp 37) rfl rfl (w.heap.size) rfl rfl oRV ⟨rfl,rfl,rfl,rfl,rfl⟩ ?_; intro wz oz gz))
  clear oN0 oN1 oN2 oN3 oN4 oNf oNl oX0 oX1 oX2 oX3 oX4 oXf oXl
  have hllU:(acc2 ++ [t1]).length = acc2.length + 1:=by simp
  rw [hllU] at hrowU
  have hsU:=gzU.size
  rw [World.size_alloc] at hsU
  have hsV:=gzV.size
  replace hR:=((hR.alloc (.cells (nQ k1 a1 b1 n1 ao1 t1 cap1) 25)).grown gzU (fun k hk=>by have:=(hvbU k hk).1; omega)).grown gzV (aH (by omega))
  replace hK:=((hK.alloc (.cells (nQ k1 a1 b1 n1 ao1 t1 cap1) 25)).grown gzU (fun k hk=>by have:=(hvbU k hk).1; omega)).grown gzV (aI (by omega))
  clear oX q1
  replace oR:=((oR.alloc (.cells (nQ k1 a1 b1 n1 ao1 t1 cap1) 25)).grown gzU (fun e=>by have:=(hvbU _ e.symm).1; omega)).grown gzV (aG (by omega))
  replace oN:Own w12 (w2.heap.size) (nD 11 (x:Int) ⟨#[]⟩ 0 (.slice aoA12 (acc2.length + 1) capA12)) 25:=oV
  clear ql
  have ql:=hrowU.on fun _ _ _ o=>o.grown gzV (aG (by omega))
  have hs12:w11.heap.size < w12.heap.size:=by omega
  clear hrowU gzU hvbU oU oV gzV hllU hsU hsV oRU oRV oV0 oV1 oV2 oV3 oV4 oVf oVl
  refine aC (t:=25) rfl rfl rfl oz Tryz.underlying25 rfl (by kernel_rfl) ?_
  refine ⟨⟨11,(x:Int),[],0,acc2 ++ [t1]⟩,_,_,_,_,_,rfl,⟨rfl,rfl,rfl,rfl,bK.row ((ql.on fun _ _ _ o=>o.grown gz (aG (by omega))).imp fun g _ h=>by omega)⟩,fun h0=>?_,hR.grown gz (aH (by omega)),hK.grown gz (aI (by omega))⟩
  obtain ⟨e1,e2,e3⟩:=HTK.out (HMO.out h0)
  rw [← HT'.out,HT1.out h0,HACC2.out e1,HE1.out,HX.out HW0.out]
def hM0 (f:Nat) (label:List Nat) (expr:P Tree) (stmts:P (List Tree)):P Tree:=bnd dA fun t=>bnd (jV f expr stmts) fun l=>ret ⟨16,t.2.2.2.1,label,0,l⟩
def uE (f:Nat) (label:List Nat) (expr:P Tree) (stmts:P (List Tree)):P Tree:=bnd dA fun t=>bnd (jU f expr stmts) fun l=>ret ⟨17,t.2.2.2.1,label,0,l⟩
theorem iV {x:List Nat} {part:P Tree} {E d:Nat} {s s':St} {t:Tree} {q:Bool} (h:jD x part E d s = some (t,s')) (hq:sg x (nxt E s) = q):(q = true∧wI E d s = some (t,s')∧s' = s)∨(q = false∧part E d s = some (t,s')):=by
 unfold jD at h
 replace h:=aN h
 rw [hq] at h
 cases q with
 | true =>
  rw [if_pos rfl] at h
  obtain ⟨rfl,rfl⟩:=aJ h
  exact .inl ⟨rfl,rfl,rfl⟩
 | false=>?_
 rw [if_neg (by simp)] at h
 exact .inr ⟨rfl,h⟩
theorem iI0 {expr:P Tree} {f E d:Nat} {s:St} (h:wd [118,97,114] (nxt E s) = true):qG f expr E d s = yK0 f expr E d s:=by
 unfold qG
 show (if wd [118,97,114] (nxt E s) then _ else _:P Tree) E d s = _
 rw [if_pos h]
 rfl
theorem vQ {expr:P Tree} {f E d:Nat} {s:St} (h:wd [118,97,114] (nxt E s) = false):qG f expr E d s = eV f expr E d s:=by
 unfold qG
 show (if wd [118,97,114] (nxt E s) then _ else _:P Tree) E d s = _
 rw [if_neg (by rw [h]; simp)]
theorem xS {x:List Nat} {part:P Tree} (h:Bs part 0):Bs (jD x part) 0:=fun E d s=>pV (h E d s)
theorem sV {expr:P Tree} {stmts:P (List Tree)} {f E d:Nat} {s s':St} {label:List Nat} {t:Tree} (hq:gU (nxt E s) = true) (h:iD f label expr stmts E d s = some (t,s')) :
    (if (nxt E s).2.1 == [119,104,105,108,101] then bnd expr fun x=>bnd (cN stmts) fun k=>ret ⟨15,((nxt E s).2.2.2.1:Nat),label,0,[x,k]⟩
     else if (nxt E s).2.1 == [102,111,114] then bnd (jV f expr stmts) fun l=>ret ⟨16,((nxt E s).2.2.2.1:Nat),label,0,l⟩
     else if (nxt E s).2.1 == [115,119,105,116,99,104] then bnd (jU f expr stmts) fun l=>ret ⟨17,((nxt E s).2.2.2.1:Nat),label,0,l⟩
     else ret (⟨0,((nxt E s).2.2.2.1:Nat),label,0,[]⟩:Tree)) E d (aS s) = some (t,s'):=by
 unfold iD at h
 obtain ⟨tk,s1,g1,g2⟩:=aE h
 obtain ⟨_,rfl,rfl⟩:=(cU g1).resolve_right fun q=>by rw [hq] at q; exact absurd q.1 (by simp)
 exact g2
theorem pR {x:List Nat} {t:Tok} (h:wd x t = true) (hx:x = [119,104,105,108,101]∨x = [102,111,114]∨x = [115,119,105,116,99,104]):gU t = true:=by
 unfold gU
 rcases hx with rfl | rfl | rfl <;> rw [h] <;> simp
theorem gR0 {expr:P Tree} {stmts:P (List Tree)} {f E d:Nat} {s s':St} {label:List Nat} {t:Tree} (hq:wd [119,104,105,108,101] (nxt E s) = true) (h:iD f label expr stmts E d s = some (t,s')) :
    ∃ x s1 k,expr E d (aS s) = some (x,s1)∧cN stmts E d s1 = some (k,s')∧t = ⟨15,((nxt E s).2.2.2.1:Nat),label,0,[x,k]⟩:=by
 have h2:=sV (pR hq (by simp)) h
 rw [(fW hq).2,if_pos (by decide)] at h2
 obtain ⟨x,s1,g1,g2⟩:=aE h2
 obtain ⟨k,s3,g3,g4⟩:=aE g2
 obtain ⟨hT,rfl⟩:=aJ g4
 exact ⟨x,s1,k,g1,g3,hT.symm⟩
theorem nK0 {expr:P Tree} {stmts:P (List Tree)} {f E d:Nat} {s s':St} {label:List Nat} {t:Tree} (hq:wd [102,111,114] (nxt E s) = true) (h:iD f label expr stmts E d s = some (t,s')):hM0 f label expr stmts E d s = some (t,s'):=by
 have h2:=sV (pR hq (by simp)) h
 rw [(fW hq).2,if_neg (by decide),if_pos (by decide)] at h2
 exact h2
theorem aS0 {expr:P Tree} {stmts:P (List Tree)} {f E d:Nat} {s s':St} {label:List Nat} {t:Tree} (hq:wd [115,119,105,116,99,104] (nxt E s) = true) (h:iD f label expr stmts E d s = some (t,s')):uE f label expr stmts E d s = some (t,s'):=by
 have h2:=sV (pR hq (by simp)) h
 rw [(fW hq).2,if_neg (by decide),if_neg (by decide),if_pos (by decide)] at h2
 exact h2
theorem wV0 {expr:P Tree} {stmts:P (List Tree)} {f E d:Nat} {s s':St} {label:List Nat} {t:Tree} (hq:gU (nxt E s) = false) (h:iD f label expr stmts E d s = some (t,s')):s' = bD E s:=by
 unfold iD at h
 obtain ⟨tk,s1,g1,g2⟩:=aE h
 obtain ⟨_,rfl,rfl⟩:=(cU g1).resolve_left fun q=>by rw [hq] at q; exact absurd q.1 (by simp)
 rw [if_neg (by decide),if_neg (by decide),if_neg (by decide)] at g2
 exact (aJ g2).2.symm
theorem fS0 {branch expr:P Tree} {stmts:P (List Tree)} {f E d:Nat} {s s':St} {t:Tree} (hq:sg [123] (nxt E s) = true) (h:iM f branch expr stmts E d s = some (t,s')):cN stmts E d s = some (t,s'):=by
 unfold iM at h
 rw [if_pos hq] at h
 exact h
theorem vG0 {branch expr:P Tree} {stmts:P (List Tree)} {f E d:Nat} {s s':St} {t:Tree} (hq:wd [105,102] (nxt E s) = true) (h:iM f branch expr stmts E d s = some (t,s')):branch E d s = some (t,s'):=by
 unfold iM at h
 rw [if_neg (by rw [sZ (fW hq).1]; simp),if_pos hq] at h
 exact h
theorem hJ0 {x:List Nat} {t:Tok} (h:wd x t = true) (h1:x ≠ [119,104,105,108,101]) (h2:x ≠ [102,111,114]) (h3:x ≠ [115,119,105,116,99,104]):gU t = false:=by
 unfold gU
 rw [cX h h1,cX h h2,cX h h3]
 rfl
theorem jN0 {t:Tok} (h:gU t = true):t.1 = 1∧(t.2.1 = [119,104,105,108,101]∨t.2.1 = [102,111,114]∨t.2.1 = [115,119,105,116,99,104]):=by
 unfold gU at h
 rcases Bool.or_eq_true_iff.1 h with h | h
 · rcases Bool.or_eq_true_iff.1 h with h | h
   · exact ⟨(fW h).1,.inl (fW h).2⟩
   exact ⟨(fW h).1,.inr (.inl (fW h).2)⟩
 exact ⟨(fW h).1,.inr (.inr (fW h).2)⟩
theorem sE {branch expr:P Tree} {stmts:P (List Tree)} {f E d:Nat} {s s':St} {t:Tree} (hq:gU (nxt E s) = true) (h:iM f branch expr stmts E d s = some (t,s')):iD f [] expr stmts E d s = some (t,s'):=by
 have h1:=(jN0 hq).1
 have h2:wd [105,102] (nxt E s) = false:=by
  cases hb:wd [105,102] (nxt E s) with
  | false=>rfl
  | true=>rw [hJ0 hb (by decide) (by decide) (by decide)] at hq; cases hq
 unfold iM at h
 rw [if_neg (by rw [sZ h1]; simp),if_neg (by rw [h2]; simp),if_pos hq] at h
 exact h
theorem tZ0 {E:Nat} {s:St} (h1:nm (nxt E s) = true) (h2:sg [58] (bE E s 1) = true):jH E s = true:=by unfold jH; rw [h1,h2]; rfl
theorem vV {E:Nat} {s:St} (h:nm (nxt E s) = false):jH E s = false:=by unfold jH; rw [h]; rfl
theorem cY0 {E:Nat} {s:St} (h:sg [58] (bE E s 1) = false):jH E s = false:=by unfold jH; rw [h]; simp
theorem uL0 {t:Tok} (h:nm t = true):gU t = false:=by
 unfold gU
 rw [mN h (by decide),mN h (by decide),mN h (by decide)]
 rfl
theorem eN0 {branch expr:P Tree} {stmts:P (List Tree)} {f E d:Nat} {s s':St} {t:Tree} (h1:nm (nxt E s) = true) (h2:sg [58] (bE E s 1) = true) (h:iM f branch expr stmts E d s = some (t,s')):iD f (nxt E s).2.1 expr stmts E d (aS (aS s)) = some (t,s'):=by
 unfold iM at h
 rw [if_neg (by rw [sZ (pF0 h1)]; simp),if_neg (by rw [mN h1 (by decide)]; simp),if_neg (by rw [uL0 h1]; simp),if_pos (tZ0 h1 h2)] at h
 obtain ⟨l,s1,g1,g2⟩:=aE h
 obtain ⟨rfl,rfl⟩:=aV g1
 obtain ⟨_,s2,g3,g4⟩:=aE g2
 obtain ⟨rfl,rfl⟩:=aV g3
 exact g4
theorem mD {branch expr:P Tree} {stmts:P (List Tree)} {f E d:Nat} {s s':St} {t:Tree} (a:sg [123] (nxt E s) = false) (b:wd [105,102] (nxt E s) = false) (c:gU (nxt E s) = false) (e:jH E s = false) (h:iM f branch expr stmts E d s = some (t,s')) :
    ∃ s1 tk,fU f expr E d s = some (t,s1)∧cZ (sg [59]) E d s1 = some (tk,s'):=by
 unfold iM at h
 rw [if_neg (by rw [a]; simp),if_neg (by rw [b]; simp),if_neg (by rw [c]; simp),if_neg (by rw [e]; simp)] at h
 obtain ⟨n,s1,g1,g2⟩:=aE h
 obtain ⟨tk,s2,g3,g4⟩:=aE g2
 obtain ⟨rfl,rfl⟩:=aJ g4
 exact ⟨s1,tk,g1,g3⟩
theorem pG0 {x:List Nat} {E:Nat} {s:St} (h:wd x (nxt E s) = true) (hx:jZ x = false):jH E s = false:=vV (aR1 h hx)
theorem rF {branch expr:P Tree} {stmts:P (List Tree)} {f E d:Nat} {s s':St} {t:Tree} {x:List Nat} (hq:wd x (nxt E s) = true) (hx:jZ x = false) (h1:x ≠ [105,102]) (h2:x ≠ [119,104,105,108,101]) (h3:x ≠ [102,111,114]) (h4:x ≠ [115,119,105,116,99,104]) (h:iM f branch expr stmts E d s = some (t,s')) :
    ∃ s1 tk,fU f expr E d s = some (t,s1)∧cZ (sg [59]) E d s1 = some (tk,s') :=
 mD (sZ (fW hq).1) (cX hq h1) (hJ0 hq h2 h3 h4) (pG0 hq hx) h
theorem bH0 {expr:P Tree} {f E d:Nat} {s:St} (hq:wd [98,114,101,97,107] (nxt E s) = true):fU f expr E d s = nK 20 E d s:=by
 unfold fU
 show (if wd [98,114,101,97,107] (nxt E s) then _ else _:P Tree) E d s = _
 rw [if_pos hq]
theorem uM {expr:P Tree} {f E d:Nat} {s:St} (hq:wd [99,111,110,116,105,110,117,101] (nxt E s) = true):fU f expr E d s = nK 21 E d s:=by
 unfold fU
 show (if wd [98,114,101,97,107] (nxt E s) then _ else _:P Tree) E d s = _
 rw [if_neg (by rw [cX hq (by decide)]; simp),if_pos hq]
theorem dD0 {kd E d:Nat} {s s1 s':St} {t:Tree} {tk:Tok} (h1:nK kd E d s = some (t,s1)) (h2:cZ (sg [59]) E d s1 = some (tk,s')):rZ kd E d s = some (t,s'):=by
 unfold rZ bnd
 rw [h1]
 simp only []
 rw [h2]
 rfl
theorem aF0 {expr:P Tree} {f E d:Nat} {s s1:St} {t:Tree} (hq:wd [114,101,116,117,114,110] (nxt E s) = true) (h:fU f expr E d s = some (t,s1)):∃ l,uL f expr [59] E d (aS s) = some (l,s1)∧t = ⟨22,((nxt E s).2.2.2.1:Nat),[],0,l⟩:=by
 unfold fU at h
 replace h:=aN h
 rw [if_neg (by rw [cX hq (by decide)]; simp),if_neg (by rw [cX hq (by decide)]; simp),if_pos hq] at h
 obtain ⟨tk,s2,g1,g2⟩:=aE h
 obtain ⟨rfl,rfl⟩:=aV g1
 replace g2:=aN g2
 split at g2
 · rename_i h59
   obtain ⟨rfl,rfl⟩:=aJ g2
   refine ⟨[],?_,rfl⟩
   show (if sg [59] (nxt E (aS s)) then ret [] else iF f expr:P (List Tree)) E d (aS s) = _
   rw [if_pos h59]
   rfl
 rename_i h59
 obtain ⟨l,s3,g3,g4⟩:=aE g2
 obtain ⟨rfl,rfl⟩:=aJ g4
 refine ⟨l,?_,rfl⟩
 show (if sg [59] (nxt E (aS s)) then ret [] else iF f expr:P (List Tree)) E d (aS s) = _
 rw [if_neg h59]
 exact g3
theorem fV0 {expr:P Tree} {f E d:Nat} {s s1:St} {t:Tree} (hq:wd [116,114,97,112] (nxt E s) = true) (h:fU f expr E d s = some (t,s1)):∃ c,cZ (fun c=>cn c && decide (c.2.2.1≤255)) E d (aS s) = some (c,s1)∧t = ⟨23,((nxt E s).2.2.2.1:Nat),[],c.2.2.1,[]⟩:=by
 unfold fU at h
 replace h:=aN h
 rw [if_neg (by rw [cX hq (by decide)]; simp),if_neg (by rw [cX hq (by decide)]; simp),if_neg (by rw [cX hq (by decide)]; simp),if_pos hq] at h
 obtain ⟨tk,s2,g1,g2⟩:=aE h
 obtain ⟨rfl,rfl⟩:=aV g1
 obtain ⟨c,s3,g3,g4⟩:=aE g2
 obtain ⟨rfl,rfl⟩:=aJ g4
 exact ⟨c,g3,rfl⟩
theorem nM {expr:P Tree} {f E d:Nat} {s:St} (a:wd [98,114,101,97,107] (nxt E s) = false) (b:wd [99,111,110,116,105,110,117,101] (nxt E s) = false) (c:wd [114,101,116,117,114,110] (nxt E s) = false) (e:wd [116,114,97,112] (nxt E s) = false):fU f expr E d s = qG f expr E d s:=by
 unfold fU
 show (if wd [98,114,101,97,107] (nxt E s) then _ else _:P Tree) E d s = _
 rw [if_neg (by rw [a]; simp),if_neg (by rw [b]; simp),if_neg (by rw [c]; simp),if_neg (by rw [e]; simp)]
theorem oJ0 {branch expr:P Tree} {stmts:P (List Tree)} (hd:Ds expr) {f E d:Nat} {s s':St} {t:Tree} (hw:s.wrong = 0) (hr:s.rest = []) (h:iM f branch expr stmts E d s = some (t,s')):s' = bD E s:=by
 have e:nxt E s = (0,[],0,E,0):=by show bE E s 0 = _; rw [gS hr 0]
 have hI:Iv s:=fun _=>hr
 have w:∀ x,wd x (nxt E s) = false:=fun x=>by rw [e]; rfl
 have n:nm (nxt E s) = false:=by rw [e]; rfl
 obtain ⟨s1,tk,g1,g2⟩:=mD (by rw [e]; rfl) (w _) (by unfold gU; rw [w,w,w]; rfl) (vV n) h
 rw [nM (w _) (w _) (w _) (w _),vQ (w _)] at g1
 obtain rfl:=xQ hd hI (w _) n g1
 exact lH.go bS (qY hI bS) g2
end Go.Proofs.YtnipenijihkgdaaGreatDoor
