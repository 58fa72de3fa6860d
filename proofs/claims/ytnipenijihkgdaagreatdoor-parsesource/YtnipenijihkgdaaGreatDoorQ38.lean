import Derived.Test.YtnipenijihkgdaaGreatDoorNd
import Derived.Test.YtnipenijihkgdaaGreatDoorQ36
set_option maxHeartbeats 4000000
set_option maxRecDepth 100000
namespace Go.Proofs.YtnipenijihkgdaaGreatDoor
open Go.RowKit
set_option linter.unusedVariables false
def cW0 (fn:Nat) (m:P Tree):Prop:=∀ (w:World) (r E d:Nat) (s:St) (t:Tree) (s':St),ZAt w r E d s→(s.wrong = 0→wd [105,102] (nxt E s) = true)→E≤1048576→m E d s = some (t,s')→Calls Tryz.prog fn #[.pointer (some ⟨r,0,none⟩)] w (pC w r E d t s')
theorem cL0 {x:List Nat} {E:Nat} {s:St} {q:Bool} (hwf:jE (nxt E s)) (hI:Iv s) (hx:x ∉ fY) (hif:s.wrong = 0→wd x (nxt E s) = true) (hq:aR x (nxt E s) = q):(if q = true then aS s else bD E s) = aS s:=by
 by_cases hw:s.wrong = 0
 · rw [cG hwf hx,hif hw] at hq
   subst hq
   rfl
 have hr:=hI hw
 cases q with
 | true=>rfl
 | false=>exact (wR hw).trans (wS hr).symm
theorem gD0 {rec expr:P Tree} {stmts:P (List Tree)} (HW:cW0 177 rec) (hbr:Bs rec 0) (HP:cY 40 expr) (hbs:Bs expr 0) (HB:cY 122 (cN stmts)) (hbb:Bs (cN stmts) 0):cW0 177 (lG rec expr stmts):=by
 intro w r E d s t s' hR hif hE hm
 have hrl:=hR.lt
 have hK:=Kp.refl r w
 unfold lG at hm
 obtain ⟨tk,s1,g1,g2⟩:=aE hm
 obtain ⟨rfl,rfl⟩:=aV g1
 obtain ⟨x0,s2,g3,g4⟩:=aE g2
 obtain ⟨k0,s3,g5,g6⟩:=aE g4
 replace g6:=aN g6
 obtain ⟨q,hq⟩:=iQ (aR [105,102] (nxt E s))
 have HS1:Hid ((if q = true then aS s else bD E s) = aS s):=cL0 (hR.nxt_wf 0) hR.iv (by decide) hif hq
 have HM1:=hI g3
 have HM2:=hI g5
 have HMO2:Hid (s2.wrong = 0→s.wrong = 0):=by have h:=bP hbs g3; exact h
 have HMO3:Hid (s3.wrong = 0→s2.wrong = 0):=bP hbb g5
 have HM3:Hid ((if wd [101,108,115,101] (nxt E s3) then bnd dA fun o=>eT fun i =>
     if wd [105,102] i then bnd (eK o rec) fun n=>ret ⟨14,((nxt E s).2.2.2.1:Nat),[],0,[x0,k0,n]⟩
     else bnd (cN stmts) fun n=>ret ⟨14,((nxt E s).2.2.2.1:Nat),[],0,[x0,k0,n]⟩
  else ret (⟨14,((nxt E s).2.2.2.1:Nat),[],0,[x0,k0]⟩:Tree)) E d s3 = some (t,s')):=g6
 clear hm g1 g2 g3 g4 g5 g6 hif
 go_enter Tryz.func177,Tryz.ntmps177
 go_upto_region 1 with fail
 have oR:=Own.new w nZ 25
 replace hR:=hR.alloc (.cells nZ 25)
 replace hK:=hK.alloc (.cells nZ 25)
 generalize w.alloc _ = w1 at hR hK oR ⊢
 have hs1:=oR.lt
 go_wp2_with fail
 refine (bU hR).mono ?_
 rintro en w2 ⟨⟨x,rfl,hx⟩,hb⟩
 have HX:=hI hx
 clear hx
 have hs2:=hb.size
 replace hR:=hR.below hb
 replace hK:=hK.trans (Kp.of hb)
 replace oR:=oR.below hb
 clear hb
 go_upto_region 2 with fail
 have oN:=Own.new w2 (nL 14 (x:Int) ⟨#[]⟩ 0) 25
 obtain ⟨hR,hK,oR⟩:=(fun y9=>And.intro (hR.alloc y9) (And.intro (hK.alloc y9) (oR.alloc y9))) (.cells (nL 14 (x:Int) ⟨#[]⟩ 0) 25)
 generalize w2.alloc _ = w3 at hR hK oR oN ⊢
 have hs3:=oN.lt
 go_wp2_with fail
 refine (cQ hR ⟨#[105,102]⟩ q hq).mono ?_
 rintro en w4 ⟨⟨_,rfl⟩,hR2,hK2⟩
 rw [HS1.out] at hR2
 have hs4:=hK2.size
 replace oR:=oR.kp hK2 (by omega)
 replace oN:=oN.kp hK2 (by omega)
 replace hK:=hK.trans hK2
 replace hR:=hR2
 clear hK2 hR2 hq
 go_wp2_with fail
 refine (HP _ r E d (aS s) x0 s2 hR hE HM1.out).mono ?_
 rintro en w5 ⟨t1,k1,a1,b1,n1,v1,rfl,hN1,ht1,hR2,hK2⟩
 obtain ⟨ao1,cap1,rfl⟩:=Row.shape hN1.2.2.2.2
 have q1:aZ w5 (fun g=>w4.heap.size≤g∧g < w5.heap.size) t1 k1 a1 b1 n1 (.slice ao1 t1.kids.length cap1):=hN1.q.imp fun g h1 h2=>⟨h2,h1⟩
 have HT1:=hI ht1
 clear hN1 ht1
 have hs5:=hK2.size
 replace oR:=oR.kp hK2 (by omega)
 replace oN:=oN.kp hK2 (by omega)
 replace hK:=hK.trans hK2
 replace hR:=hR2
 clear hK2 hR2
 go_upto_region 4 with fail
 have oC:=Own.new w5 (nQ k1 a1 b1 n1 ao1 t1 cap1) 25
 obtain ⟨hR,hK,oR,oN,q1⟩:=(fun y9=>And.intro (hR.alloc y9) (And.intro (hK.alloc y9) (And.intro (oR.alloc y9) (And.intro (oN.alloc y9) (q1.on fun _ _ _ h=>h.alloc y9))))) (.cells (nQ k1 a1 b1 n1 ao1 t1 cap1) 25)
 generalize w5.alloc _ = w6 at hR hK oR oN oC q1 ⊢
 have hs6:=oC.lt
 go_wp2_with fail
 refine (HB _ r E d s2 k0 s3 hR hE HM2.out).mono ?_
 rintro en w7 ⟨t2,k2,a2,b2,n2,v2,rfl,hN1,ht1,hR2,hK2⟩
 obtain ⟨ao2,cap2,rfl⟩:=Row.shape hN1.2.2.2.2
 have q2:aZ w7 (fun g=>w6.heap.size≤g∧g < w7.heap.size) t2 k2 a2 b2 n2 (.slice ao2 t2.kids.length cap2):=hN1.q.imp fun g h1 h2=>⟨h2,h1⟩
 have HT2:=hI ht1
 clear hN1 ht1
 have hs7:=hK2.size
 replace oR:=oR.kp hK2 (by omega)
 replace oN:=oN.kp hK2 (by omega)
 replace oC:=oC.kp hK2 (by omega)
 replace q1:=q1.on fun _ _ _ o=>o.kp hK2 (by omega)
 replace hK:=hK.trans hK2
 replace hR:=hR2
 clear hK2 hR2
 go_upto_region 5 with fail
 have oB:=Own.new w7 (nQ k2 a2 b2 n2 ao2 t2 cap2) 25
 obtain ⟨hR,hK,oR,oN,oC,q1,q2⟩:=(fun y9=>And.intro (hR.alloc y9) (And.intro (hK.alloc y9) (And.intro (oR.alloc y9) (And.intro (oN.alloc y9) (And.intro (oC.alloc y9) (And.intro (q1.on fun _ _ _ h=>h.alloc y9) (q2.on fun _ _ _ h=>h.alloc y9))))))) (.cells (nQ k2 a2 b2 n2 ao2 t2 cap2) 25)
 generalize w7.alloc _ = w8 at hR hK oR oN oC oB q1 q2 ⊢
 have hs8:=oB.lt
 obtain ⟨oC0,oC1,oC2,oC3,oC4,oCf⟩:=oC.five
 have oCl:=oC.lt
 obtain ⟨oB0,oB1,oB2,oB3,oB4,oBf⟩:=oB.five
 have oBl:=oB.lt
 have qk:=bK.two w6.heap.size  (q1.imp (Q':=fun g=>(w2.heap.size < g)∧g < w6.heap.size) fun g h1 h2=>⟨by omega,by omega⟩) (q2.imp (Q':=fun g=>(w2.heap.size < g)∧w6.heap.size≤g) fun g h1 h2=>⟨by omega,by omega⟩) (show w2.heap.size < w8.heap.size from by omega)
 clear q1 q2
 obtain ⟨hR,hK⟩:=(fun y9=>And.intro (hR.alloc y9) (hK.alloc y9)) (.cells #[.int .u8 k1,.int .i64 a1,.string b1,.int .u64 n1,.slice ao1 t1.kids.length cap1,.int .u8 k2,.int .i64 a2,.string b2,.int .u64 n2,.slice ao2 t2.kids.length cap2] 25)
 clear oC oB
 obtain ⟨oR,oN⟩:=(fun y9=>And.intro (oR.alloc y9) (oN.alloc y9)) (.cells #[.int .u8 k1,.int .i64 a1,.string b1,.int .u64 n1,.slice ao1 t1.kids.length cap1,.int .u8 k2,.int .i64 a2,.string b2,.int .u64 n2,.slice ao2 t2.kids.length cap2] 25)
 have hsx:w8.heap.size < (w8.alloc (.cells #[.int .u8 k1,.int .i64 a1,.string b1,.int .u64 n1,.slice ao1 t1.kids.length cap1,.int .u8 k2,.int .i64 a2,.string b2,.int .u64 n2,.slice ao2 t2.kids.length cap2] 25)).heap.size:=by rw [World.size_alloc]; omega
 go_wp2_with fail
 refine (dE _ _ _ _).mono ?_
 rintro en wz ⟨rfl,rfl⟩
 clear oC0 oC1 oC2 oC3 oC4 oCf oCl oB0 oB1 oB2 oB3 oB4 oBf oBl
 generalize w8.alloc _ = w9 at hsx hR hK oR oN qk ⊢
 have hs9:=hsx
 clear hsx
 go_wp2_with (refine aQ rfl (.tmp 22) (.tmp 21) rfl rfl (w2.heap.size) 4 rfl rfl oN (by simp) ?_; intro w10 oV gzV)
 have hs10:=gzV.size
 replace hR:=hR.grown gzV (aH (by omega))
 replace hK:=hK.grown gzV (aI (by omega))
 replace oR:=oR.grown gzV (aG (by omega))
 replace qk:=qk.on fun _ _ _ o=>o.grown gzV (aG (by omega))
 replace oN:Own w10 (w2.heap.size) (nD 14 (x:Int) ⟨#[]⟩ 0 (.slice (some ⟨w8.heap.size,0,none⟩) 2 2)) 25:=oV
 clear oV gzV
 replace qk:bK w10 (fun g=>w2.heap.size < g∧g < w10.heap.size) _ _:=qk.imp fun g h1 h2=>⟨by omega,by omega⟩
 obtain ⟨qe,hqe⟩:=iQ (aR [101,108,115,101] (nxt E s3))
 have hqem:wd [101,108,115,101] (nxt E s3) = qe:=by rw [← hqe]; exact (cG (hR.nxt_wf 0) (by decide)).symm
 refine (bG hR ⟨#[101,108,115,101]⟩ qe hqe).mono ?_
 rintro en w11 ⟨rfl,hb⟩
 have hs11:=hb.size
 replace hR:=hR.below hb
 replace hK:=hK.trans (Kp.of hb)
 replace oR:=oR.below hb
 replace oN:=oN.below hb
 replace qk:=qk.on fun _ _ _ o=>o.below hb
 clear hb
 cases qe with
 | false =>
  have hm:=HM3.out
  rw [hqem,if_neg (by simp)] at hm
  obtain ⟨hT,rfl⟩:=aJ hm
  have HT':=hI hT
  clear hm hT HM3 hqe hqem
  obtain ⟨oN0,oN1,oN2,oN3,oN4,oNf⟩:=oN.five
  have oNl:=oN.lt
  go_wp2_with (refine aF rfl (.tmp 2) (.tmp 63) rfl rfl (w.heap.size) rfl rfl oR ⟨rfl,rfl,rfl,rfl,rfl⟩ ?_; intro wz oz gz)
  refine aC (t:=25) rfl rfl rfl oz Tryz.underlying25 rfl (by kernel_rfl) ?_
  refine ⟨⟨14,(x:Int),[],0,[t1,t2]⟩,_,_,_,_,_,rfl,⟨rfl,rfl,rfl,rfl,bK.row ((qk.on fun _ _ _ o=>o.grown gz (aG (by omega))).imp fun g _ h=>by omega)⟩,fun h0=>?_,hR.grown gz (aH (by omega)),hK.grown gz (aI (by omega))⟩
  have h2:=HMO3.out h0
  rw [← HT'.out,HT1.out h2,HT2.out h0,HX.out (HMO2.out h2)]
 | true=>?_
 have hm:=HM3.out
 rw [hqem,if_pos rfl] at hm
 obtain ⟨tk,s4,g1,g2⟩:=aE hm
 obtain ⟨rfl,rfl⟩:=aV g1
 replace g2:=aN g2
 have en1:nxt E (aS s3) = bE E s3 1:=uG E s3 0
 rw [en1] at g2
 obtain ⟨q4,hq4⟩:=iQ (wd [105,102] (bE E s3 1))
 rw [hq4] at g2
 have HM4:Hid ((if q4 = true then bnd (eK (nxt E s3) rec) fun n=>ret ⟨14,((nxt E s).2.2.2.1:Nat),[],0,[x0,k0,n]⟩
     else bnd (cN stmts) fun n=>ret (⟨14,((nxt E s).2.2.2.1:Nat),[],0,[x0,k0,n]⟩:Tree)) E d (aS s3) = some (t,s')):=g2
 have HLV:Hid (s3.wrong = 0):=hR.live (bR hqem)
 clear hm g1 g2 HM3 en1 hqem
 go_wp2_with fail
 refine (fP hR 1 1 rfl (by omega)).mono ?_
 rintro en w12 ⟨⟨mk,mb,mn,ma,me,rfl,hm⟩,hb⟩
 have hs12:=hb.size
 replace hR:=hR.below hb
 replace hK:=hK.trans (Kp.of hb)
 replace oR:=oR.below hb
 replace oN:=oN.below hb
 replace qk:=qk.on fun _ _ _ o=>o.below hb
 clear hb
 go_upto_region 8 with fail
 have oA:=Own.new w12 #[.int .u8 mk,.string mb,.int .u64 mn,.int .i64 ma,.int .i64 me] 65
 obtain ⟨hR,hK,oR,oN,qk⟩:=(fun y9=>And.intro (hR.alloc y9) (And.intro (hK.alloc y9) (And.intro (oR.alloc y9) (And.intro (oN.alloc y9) (qk.on fun _ _ _ h=>h.alloc y9))))) (.cells #[.int .u8 mk,.string mb,.int .u64 mn,.int .i64 ma,.int .i64 me] 65)
 generalize w12.alloc _ = w13 at hR hK oR oN oA qk ⊢
 have hs13:=oA.lt
 have hk9:mk = ((bE E s3 1).1:Int):=hm.1
 have h0:(mb.toList == (⟨#[105,102]⟩:ByteArray).toList) = ((bE E s3 1).2.1 == [105,102]):=by rw [hm.2.1]; exact kQ _ (hR.nxt_wf 1).1.1.1 ⟨#[105,102]⟩
 have hb9:(mb.toList == [105,102]) = ((bE E s3 1).2.1 == [105,102]):=by rw [← h0,ByteArray.toList_eq (bs:=⟨#[105,102]⟩)]
 clear h0
 obtain ⟨oA0,oA1,oA2,oA3,oA4,oAf⟩:=oA.five
 have oAl:=oA.lt
 go_upto_region 8 with fail
 go_cut [34] (fun v wx=>v = .bool q4∧w13 = wx)
 case first =>
  by_cases h4:(bE E s3 1).1 = 1
  · have e1:(mk == 1) = true:=by rw [hk9,h4]; rfl
    have e2:(mb.toList == [105,102]) = q4:=by rw [hb9,← hq4]; unfold wd; rw [h4]; rfl
    clear hk9 hb9 h4 hq4 hm
    go_wp2_with fail
    go_meet
    exact ⟨rfl,rfl⟩
  have e1:(mk == 1) = false:=by rw [hk9]; simp; omega
  obtain rfl:q4 = false:=by rw [← hq4]; unfold wd; simp [h4]
  clear hk9 hb9 h4
  go_wp2_with fail
  go_meet
  exact ⟨rfl,rfl⟩
 obtain ⟨rfl,rfl⟩:=hcut
 clear hk9 hb9 oA0 oA1 oA2 oA3 oA4 oAf oAl oA hm
 cases q4 with
 | true =>
  have hm:=HM4.out
  rw [if_pos rfl] at hm
  obtain ⟨n0,s5,g1,g2⟩:=aE hm
  obtain ⟨hT,rfl⟩:=aJ g2
  have HM5:=hI g1
  have HC5:Hid ((inS d E true s3).wrong = 0→wd [105,102] (nxt E (inS d E true s3)) = true):=fun h0=>by rw [(mP h0).2.2.2]; rw [show nxt E (aS s3) = bE E s3 1 from uG E s3 0]; exact hq4
  have HT':=hI hT
  clear hm g1 g2 hT HM4 hq4
  go_wp2_with fail
  refine (jY hR ⟨#[101,108,115,101]⟩ true hqe).mono ?_
  rintro en w14 ⟨⟨_,rfl⟩,hR2,hK2⟩
  have hs14:=hK2.size
  replace oR:=oR.kp hK2 (by omega)
  replace oN:=oN.kp hK2 (by omega)
  replace qk:=qk.on fun _ _ _ o=>o.kp hK2 (by omega)
  replace hK:=hK.trans hK2
  replace hR:=hR2
  clear hK2 hR2 hqe
  go_wp2_with fail
  refine (HW _ r E (d + 1) (inS d E true s3) n0 s5 hR HC5.out hE HM5.out).mono ?_
  rintro en w15 ⟨t3,k3,a3,b3,n3,v3,rfl,hN1,ht1,hR2,hK2⟩
  obtain ⟨ao3,cap3,rfl⟩:=Row.shape hN1.2.2.2.2
  have q3:aZ w15 (fun g=>w14.heap.size≤g∧g < w15.heap.size) t3 k3 a3 b3 n3 (.slice ao3 t3.kids.length cap3):=hN1.q.imp fun g h1 h2=>⟨h2,h1⟩
  have HT3:=hI ht1
  clear hN1 ht1
  have hs15:=hK2.size
  replace oR:=oR.kp hK2 (by omega)
  replace oN:=oN.kp hK2 (by omega)
  replace qk:=qk.on fun _ _ _ o=>o.kp hK2 (by omega)
  replace hK:=hK.trans hK2
  replace hR:=hR2
  clear hK2 hR2
  go_upto_region 11 with fail
  have oW:=Own.new w15 (nQ k3 a3 b3 n3 ao3 t3 cap3) 25
  obtain ⟨hR,hK,oR,oN,qk,q3⟩:=(fun y9=>And.intro (hR.alloc y9) (And.intro (hK.alloc y9) (And.intro (oR.alloc y9) (And.intro (oN.alloc y9) (And.intro (qk.on fun _ _ _ h=>h.alloc y9) (q3.on fun _ _ _ h=>h.alloc y9)))))) (.cells (nQ k3 a3 b3 n3 ao3 t3 cap3) 25)
  generalize w15.alloc _ = w16 at hR hK oR oN oW qk q3 ⊢
  have hs16:=oW.lt
  obtain ⟨vz,az,ddz,plz,hoz,hup⟩:=hR.up
  obtain ⟨c0,c1,c2,c3,c4,c5,f0⟩:=hoz.six
  have hlz:=hoz.lt
  have HUP:=hI hup
  clear hup
  go_upto_region 12 with (refine kM rfl (.tmp 45) (.tmp 43) rfl rfl r 3 rfl rfl hoz (by simp) ?_; intro w17 oV gzV)
  have hR2:ZAt w17 r E d s5:=HUP.out _ (fun g hg=>gzV.block g (by omega) (aG (by omega))) oV
  have hK2:Kp r w16 w17:=gzV
  clear HUP hoz c0 c1 c2 c3 c4 c5 f0 hlz oV gzV
  have hs17:=hK2.size
  replace oR:=oR.kp hK2 (by omega)
  replace oN:=oN.kp hK2 (by omega)
  replace oW:=oW.kp hK2 (by omega)
  replace qk:=qk.on fun _ _ _ o=>o.kp hK2 (by omega)
  replace q3:=q3.on fun _ _ _ o=>o.kp hK2 (by omega)
  replace hK:=hK.trans hK2
  replace hR:=hR2
  clear hK2 hR2
  obtain ⟨oN0,oN1,oN2,oN3,oN4,oNf⟩:=oN.five
  have oNl:=oN.lt
  obtain ⟨oW0,oW1,oW2,oW3,oW4,oWf⟩:=oW.five
  have oWl:=oW.lt
  go_wp2_with (first | (at_builtin; refine cT rfl (.tmp 47) (.tmp 49) rfl (fun g=>w2.heap.size < g∧g < w10.heap.size) (fun g=>w14.heap.size≤g∧g < w15.heap.size) (fun g=>w2.heap.size < g) _ [t1,t2] rfl (qk.on fun g hg cur ho=>ho.alloc _) t3 k3 a3 b3 n3 (.slice ao3 t3.kids.length cap3) w17.heap.size rfl (Own.new w17 _ _) (q3.on fun g hg cur ho=>ho.alloc _) (fun g h1 h2=>by omega) (fun g h0 h1=>by omega) (fun g h0 h1=>by omega) (by rw [World.size_alloc]; exact by omega) (by simp) ?_; intro aoA18 capA18 wU hrowU gzU hvbU; have oU:=(oN.alloc _).grown gzU (fun e=>by have:=(hvbU _ e.symm).1; omega); have oRU:=(oR.alloc _).grown gzU (fun e=>by have:=(hvbU _ e.symm).1; omega)) | (refine aQ rfl (.tmp 51) (.tmp 50) rfl rfl (w2.heap.size) 4 rfl rfl oU (by simp) ?_; intro w18 oV gzV; obtain ⟨oV0,oV1,oV2,oV3,oV4,oVf⟩:=oV.five; have oVl:=oV.lt; have oRV:=oRU.grown gzV (aG (by omega))) | (refine aF rfl (.tmp 2) (.tmp 52) rfl rfl (w.heap.size) rfl rfl oRV ⟨rfl,rfl,rfl,rfl,rfl⟩ ?_; intro wz oz gz))
  clear oN0 oN1 oN2 oN3 oN4 oNf oNl oW0 oW1 oW2 oW3 oW4 oWf oWl
  have hllU:([t1,t2] ++ [t3]).length = 3:=by simp
  rw [hllU] at hrowU
  have hsU:=gzU.size
  rw [World.size_alloc] at hsU
  have hsV:=gzV.size
  replace hR:=((hR.alloc (.cells (nQ k3 a3 b3 n3 ao3 t3 cap3) 25)).grown gzU (fun k hk=>by have:=(hvbU k hk).1; omega)).grown gzV (aH (by omega))
  replace hK:=((hK.alloc (.cells (nQ k3 a3 b3 n3 ao3 t3 cap3) 25)).grown gzU (fun k hk=>by have:=(hvbU k hk).1; omega)).grown gzV (aI (by omega))
  clear oW q3
  replace oR:=((oR.alloc (.cells (nQ k3 a3 b3 n3 ao3 t3 cap3) 25)).grown gzU (fun e=>by have:=(hvbU _ e.symm).1; omega)).grown gzV (aG (by omega))
  replace oN:Own w18 (w2.heap.size) (nD 14 (x:Int) ⟨#[]⟩ 0 (.slice aoA18 (3) capA18)) 25:=oV
  clear qk
  have qk:=hrowU.on fun _ _ _ o=>o.grown gzV (aG (by omega))
  have hs18:w17.heap.size < w18.heap.size:=by omega
  clear hrowU gzU hvbU oU oV gzV hllU hsU hsV oRU oRV oV0 oV1 oV2 oV3 oV4 oVf oVl
  refine aC (t:=25) rfl rfl rfl oz Tryz.underlying25 rfl (by kernel_rfl) ?_
  refine ⟨⟨14,(x:Int),[],0,[t1,t2,t3]⟩,_,_,_,_,_,rfl,⟨rfl,rfl,rfl,rfl,bK.row ((qk.on fun _ _ _ o=>o.grown gz (aG (by omega))).imp fun g _ h=>by omega)⟩,fun h0=>?_,hR.grown gz (aH (by omega)),hK.grown gz (aI (by omega))⟩
  have h2:=HMO3.out HLV.out
  rw [← HT'.out,HT1.out h2,HT2.out HLV.out,HT3.out h0,HX.out (HMO2.out h2)]
 | false=>?_
 have hm:=HM4.out
 rw [if_neg (by simp)] at hm
 obtain ⟨n0,s5,g1,g2⟩:=aE hm
 obtain ⟨hT,rfl⟩:=aJ g2
 have HM5:=hI g1
 have HT':=hI hT
 clear hm g1 g2 hT HM4 hq4
 go_wp2_with fail
 refine (cQ hR ⟨#[101,108,115,101]⟩ true hqe).mono ?_
 rintro en w14 ⟨⟨_,rfl⟩,hR2,hK2⟩
 rw [if_pos rfl] at hR2
 have hs14:=hK2.size
 replace oR:=oR.kp hK2 (by omega)
 replace oN:=oN.kp hK2 (by omega)
 replace qk:=qk.on fun _ _ _ o=>o.kp hK2 (by omega)
 replace hK:=hK.trans hK2
 replace hR:=hR2
 clear hK2 hR2 hqe
 go_wp2_with fail
 refine (HB _ r E d (aS s3) n0 s5 hR hE HM5.out).mono ?_
 rintro en w15 ⟨t3,k3,a3,b3,n3,v3,rfl,hN1,ht1,hR2,hK2⟩
 obtain ⟨ao3,cap3,rfl⟩:=Row.shape hN1.2.2.2.2
 have q3:aZ w15 (fun g=>w14.heap.size≤g∧g < w15.heap.size) t3 k3 a3 b3 n3 (.slice ao3 t3.kids.length cap3):=hN1.q.imp fun g h1 h2=>⟨h2,h1⟩
 have HT3:=hI ht1
 clear hN1 ht1
 have hs15:=hK2.size
 replace oR:=oR.kp hK2 (by omega)
 replace oN:=oN.kp hK2 (by omega)
 replace qk:=qk.on fun _ _ _ o=>o.kp hK2 (by omega)
 replace hK:=hK.trans hK2
 replace hR:=hR2
 clear hK2 hR2
 go_upto_region 16 with fail
 have oW:=Own.new w15 (nQ k3 a3 b3 n3 ao3 t3 cap3) 25
 obtain ⟨hR,hK,oR,oN,qk,q3⟩:=(fun y9=>And.intro (hR.alloc y9) (And.intro (hK.alloc y9) (And.intro (oR.alloc y9) (And.intro (oN.alloc y9) (And.intro (qk.on fun _ _ _ h=>h.alloc y9) (q3.on fun _ _ _ h=>h.alloc y9)))))) (.cells (nQ k3 a3 b3 n3 ao3 t3 cap3) 25)
 generalize w15.alloc _ = w16 at hR hK oR oN oW qk q3 ⊢
 have hs16:=oW.lt
 obtain ⟨oN0,oN1,oN2,oN3,oN4,oNf⟩:=oN.five
 have oNl:=oN.lt
 obtain ⟨oW0,oW1,oW2,oW3,oW4,oWf⟩:=oW.five
 have oWl:=oW.lt
 go_wp2_with (first | (at_builtin; refine cT rfl (.tmp 58) (.tmp 60) rfl (fun g=>w2.heap.size < g∧g < w10.heap.size) (fun g=>w14.heap.size≤g∧g < w15.heap.size) (fun g=>w2.heap.size < g) _ [t1,t2] rfl (qk.on fun g hg cur ho=>ho.alloc _) t3 k3 a3 b3 n3 (.slice ao3 t3.kids.length cap3) w16.heap.size rfl (Own.new w16 _ _) (q3.on fun g hg cur ho=>ho.alloc _) (fun g h1 h2=>by omega) (fun g h0 h1=>by omega) (fun g h0 h1=>by omega) (by rw [World.size_alloc]; exact by omega) (by simp) ?_; intro aoA17 capA17 wU hrowU gzU hvbU; have oU:=(oN.alloc _).grown gzU (fun e=>by have:=(hvbU _ e.symm).1; omega); have oRU:=(oR.alloc _).grown gzU (fun e=>by have:=(hvbU _ e.symm).1; omega)) | (refine aQ rfl (.tmp 62) (.tmp 61) rfl rfl (w2.heap.size) 4 rfl rfl oU (by simp) ?_; intro w17 oV gzV; obtain ⟨oV0,oV1,oV2,oV3,oV4,oVf⟩:=oV.five; have oVl:=oV.lt; have oRV:=oRU.grown gzV (aG (by omega))) | (refine aF rfl (.tmp 2) (.tmp 63) rfl rfl (w.heap.size) rfl rfl oRV ⟨rfl,rfl,rfl,rfl,rfl⟩ ?_; intro wz oz gz))
 clear oN0 oN1 oN2 oN3 oN4 oNf oNl oW0 oW1 oW2 oW3 oW4 oWf oWl
 have hllU:([t1,t2] ++ [t3]).length = 3:=by simp
 rw [hllU] at hrowU
 have hsU:=gzU.size
 rw [World.size_alloc] at hsU
 have hsV:=gzV.size
 replace hR:=((hR.alloc (.cells (nQ k3 a3 b3 n3 ao3 t3 cap3) 25)).grown gzU (fun k hk=>by have:=(hvbU k hk).1; omega)).grown gzV (aH (by omega))
 replace hK:=((hK.alloc (.cells (nQ k3 a3 b3 n3 ao3 t3 cap3) 25)).grown gzU (fun k hk=>by have:=(hvbU k hk).1; omega)).grown gzV (aI (by omega))
 clear oW q3
 replace oR:=((oR.alloc (.cells (nQ k3 a3 b3 n3 ao3 t3 cap3) 25)).grown gzU (fun e=>by have:=(hvbU _ e.symm).1; omega)).grown gzV (aG (by omega))
 replace oN:Own w17 (w2.heap.size) (nD 14 (x:Int) ⟨#[]⟩ 0 (.slice aoA17 (3) capA17)) 25:=oV
 clear qk
 have qk:=hrowU.on fun _ _ _ o=>o.grown gzV (aG (by omega))
 have hs17:w16.heap.size < w17.heap.size:=by omega
 clear hrowU gzU hvbU oU oV gzV hllU hsU hsV oRU oRV oV0 oV1 oV2 oV3 oV4 oVf oVl
 refine aC (t:=25) rfl rfl rfl oz Tryz.underlying25 rfl (by kernel_rfl) ?_
 refine ⟨⟨14,(x:Int),[],0,[t1,t2,t3]⟩,_,_,_,_,_,rfl,⟨rfl,rfl,rfl,rfl,bK.row ((qk.on fun _ _ _ o=>o.grown gz (aG (by omega))).imp fun g _ h=>by omega)⟩,fun h0=>?_,hR.grown gz (aH (by omega)),hK.grown gz (aI (by omega))⟩
 have h2:=HMO3.out HLV.out
 rw [← HT'.out,HT1.out h2,HT2.out HLV.out,HT3.out h0,HX.out (HMO2.out h2)]
def tW0 (w:World) (r E d:Nat) (n:Nat) (next:P Tree) (t:Tree) (s':St) (B g3 g4:Nat) (g:Nat) (v:Value) (wr:World):Prop :=
 ∃ (x x':Tree) (sl:St) (z k a:Int) (b:ByteArray) (nn:Int) (ao:Option Addr) (cap:Nat),mB n next g x E d sl = some (t,s')∧v = .int .u8 z∧z = (nF n (nxt E sl):Int)∧ZAt wr r E d sl∧Own wr g3 (nQ k a b nn ao x' cap) 25∧Own wr g4 nZ 25 ∧
  aZ wr (fun g=>B≤g∧g ≠ g3∧g ≠ g4) x' k a b nn (.slice ao x'.kids.length cap)∧(s'.wrong = 0→x' = x)∧Kp r w wr∧g3 < wr.heap.size
theorem fA0 {n:Nat} {t:Tok} (h:nF n t = 0):(bX t).1 = 0∨(bX t).2 ≠ n:=by
 unfold nF at h
 split at h
 · exact .inl h
 rename_i q; exact .inr q
theorem mV0 {n:Nat} {t:Tok} (h:nF n t ≠ 0):¬ ((bX t).1 = 0∨(bX t).2 ≠ n)∧(bX t).1 = nF n t∧t.1 ≠ 0:=by
 unfold nF at h ⊢
 split at h
 · rename_i q
   refine ⟨fun h0=>h0.elim (fun e=>h e) (fun e=>e q),by rw [if_pos q],fun h0=>h ?_⟩
   unfold bX
   rw [h0]
   rfl
 exact absurd rfl h
theorem gV0 {m:P Tree} (HU:cY 123 m):aU0 84 5 m:=by
 intro w r E d s t s' z hz hR hE hm
 subst hz
 have hrl:=hR.lt
 have hne2:w.heap.size ≠ r:=by omega
 have HM:=hI hm
 have HZ0:Hid (ZAt (w.alloc (.cells nZ 25)) r E d s):=hR.alloc _
 clear hm hR
 go_enter Tryz.func84,Tryz.ntmps84
 go_wp2_with fail
 refine (HU _ r E d s t s' HZ0.out hE HM.out).mono ?_
 rintro en w1 ⟨t1,k1,a1,b1,n1,v1,rfl,hN1,ht1,hR1,hK1⟩
 obtain ⟨ao1,cap1,rfl⟩:=Row.shape hN1.2.2.2.2
 have o1:=(Own.new w nZ 25).kp hK1 hne2
 have hs0:w.heap.size < (w.alloc (.cells nZ 25)).heap.size:=by rw [World.size_alloc]; omega
 have HN:=hI hN1
 have HK:Hid (Kp r w w1):=(Kp.of ((Below.refl _ _).alloc (Nat.le_refl _) _)).trans hK1
 have HT1:=hI ht1
 have HZ1:=hI hR1
 have HR1:=hI o1
 obtain ⟨z0,z1,z2,z3,z4,zf⟩:=o1.five
 have hlR:=o1.lt
 clear hN1 hK1 ht1 hR1 o1 HM HZ0 HU
 go_wp2
 refine aC (t:=25) rfl rfl rfl (Own.set5 HR1.out _ _ _ _ _) Tryz.underlying25 rfl (by kernel_rfl) ?_
 exact ⟨t1,_,_,_,_,_,rfl,⟨HN.out.1,HN.out.2.1,HN.out.2.2.1,HN.out.2.2.2.1,(HN.out.2.2.2.2.set5 hs0 _ _ _ _ _).mono (Nat.le_of_lt hs0)⟩,HT1.out,ZAt.set5 HZ1.out hrl _ _ _ _ _,HK.out.set5 (.inl (Nat.le_refl _)) _ _ _ _ _⟩
theorem fJ0 {next:P Tree} (n:Nat) (hn:n≤4) (HP:aU0 84 (n + 1) next) (hbs:Bs next 0) (f:Nat):aU0 84 n (bnd next fun x=>mB n next f x):=by
 intro w r E d s t s' z hz hR hE hm
 subst hz
 have hrl:=hR.lt
 have hne2:w.heap.size ≠ r:=by omega
 obtain ⟨x0,s1,h1,h2⟩:=aE hm
 have HM1:=hI h1
 have HM2:=hI h2
 have HMO0:Hid (s'.wrong = 0→s1.wrong = 0):=bP (uQ hbs f x0) h2
 have i0:¬ ((n:Int) > 4):=by omega
 have i4:wrap64 ((n:Int) + 1) = ((n + 1:Nat):Int):=by rw [IntWalk.wrap64_in _ ⟨by omega,by omega⟩]; omega
 have i5:IntKind.i64.wrap ((n:Int) + 1) = ((n + 1:Nat):Int):=(zM _).trans i4
 have HZ0:Hid (ZAt (w.alloc (.cells nZ 25)) r E d s):=hR.alloc _
 clear hm hR h1 h2
 go_enter Tryz.func84,Tryz.ntmps84
 go_wp2_with fail
 refine (HP _ r E d s x0 s1 _ (by first | rfl | exact i4 | exact i5 | go_num) HZ0.out hE HM1.out).mono ?_
 rintro en w2 ⟨t1,k1,a1,b1,n1,v1,rfl,hN1,ht1,hR2,hK2⟩
 obtain ⟨ao1,cap1,rfl⟩:=Row.shape hN1.2.2.2.2
 have o2:=(Own.new w nZ 25).kp hK2 hne2
 have hs0:w.heap.size < (w.alloc (.cells nZ 25)).heap.size:=by rw [World.size_alloc]; omega
 have hs2:=hK2.size
 have HT1:=hI ht1
 obtain ⟨W3,hW3⟩:=iQ (w2.alloc (.cells (nQ k1 a1 b1 n1 ao1 t1 cap1) 25))
 have hb3:Below w2.heap.size w2 W3:=by rw [← hW3]; exact (Below.refl _ _).alloc (Nat.le_refl _) _
 have m3:Own W3 w2.heap.size (nQ k1 a1 b1 n1 ao1 t1 cap1) 25:=by rw [← hW3]; exact Own.new w2 _ _
 have o3:=o2.below hb3
 have HZ3:Hid (ZAt W3 r E d s1):=hR2.below hb3
 have nq3:aZ W3 (fun g=>w.heap.size≤g∧g ≠ w2.heap.size∧g ≠ w.heap.size) t1 k1 a1 b1 n1 (.slice ao1 t1.kids.length cap1):=((bV.q hN1).imp (Q':=fun g=>w.heap.size≤g∧g ≠ w2.heap.size∧g ≠ w.heap.size) fun g h1 h2=>⟨by omega,by omega,by omega⟩).on fun _ _ _ o=>o.below hb3
 have hK3:Kp r w W3:=((Kp.of ((Below.refl _ _).alloc (Nat.le_refl _) _)).trans hK2).trans (Kp.of hb3)
 clear hN1 ht1 hR2 hK2 o2 hb3 HM1 HZ0
 go_upto_region 4 with fail
 try rw [hW3]
 clear hW3
 go_wp2_with fail
 refine (aT0 HZ3 n _ rfl hn).mono ?_
 rintro en w4 ⟨rfl,hb4⟩
 have hs4:=hb4.size
 have hR4:ZAt w4 r E d s1:=HZ3.out.below hb4
 have m4:=m3.below hb4
 have o4:=o3.below hb4
 have nq4:=nq3.on (w':=w4) fun _ _ _ o=>o.below hb4
 have hK4:=hK3.trans (Kp.of hb4)
 have hl4:=m4.lt
 obtain ⟨g3,hg3⟩:=iQ (w2.heap.size)
 have hg30:w.heap.size < g3:=by omega
 rw [hg3] at m4 nq4 hl4 ⊢
 clear m3 o3 nq3 hK3 hb4 HZ3 hg3 hs4 hs2 hs0
 go_wp2_with fail
 go_loopg [6] f (fun g v wr=>tW0 w r E d n next t s' w.heap.size g3 w.heap.size g v wr)
 case atStart=>exact ⟨x0,t1,s1,_,_,_,_,_,_,_,HM2.out,rfl,rfl,hR4,m4,o4,nq4,fun h0=>HT1.out (HMO0.out h0),hK4,hl4⟩
 case round =>
  clear hR4 m4 o4 nq4 hK4 hl4 HM2 HT1 HMO0
  obtain ⟨x0,x2,sl,z,k,a,b,nn,ao,cap,hm,rfl,hz,hR,m,o,nq,hnn,hK,hsz⟩:=hrel
  cases gk with
  | zero=>cases hm
  | succ gk=>?_
  unfold mB at hm
  replace hm:=aN hm
  by_cases hc:nF n (nxt E sl) = 0
  · rw [if_pos (fA0 hc)] at hm
    obtain ⟨e1,e2⟩:=aJ hm
    subst e1 e2
    have hz0:z = 0:=by rw [hz,hc]; rfl
    subst hz0
    obtain ⟨m0,m1,m2,m3,m4,mf⟩:=m.five
    have hlm:=m.lt
    clear hm hz hc
    go_wp2_with (refine aF rfl (.tmp 4) (.tmp 48) rfl rfl w.heap.size rfl rfl o ⟨rfl,rfl,rfl,rfl,rfl⟩ ?_; intro wz oz gz)
    refine aC (t:=25) rfl rfl rfl oz Tryz.underlying25 rfl (by kernel_rfl) ?_
    exact ⟨x2,_,_,_,_,_,rfl,((nq.on fun _ _ _ o=>o.grown gz (aG (by omega))).imp fun g _ h=>h.1).is,hnn,hR.grown gz (aH (by omega)),hK.grown gz (aI (by omega))⟩
  obtain ⟨hcn,hbk,hlv⟩:=mV0 hc
  rw [if_neg hcn] at hm
  obtain ⟨tk,s0,e1,e2⟩:=aE hm
  obtain ⟨rfl,rfl⟩:=aV e1
  obtain ⟨y,s2,e3,e4⟩:=aE e2
  have hzne:¬ z = 0:=by rw [hz]; omega
  have HW0:Hid (sl.wrong = 0):=by obtain ⟨_,_,_,_,_,_,_,_,hw,_⟩:=hR.pop hlv; exact hw
  have HZ:Hid (z = ((bX (nxt E sl)).1:Int)):=by unfold Hid; rw [hz,hbk]
  have HE4:=hI e4
  have HMO:Hid (s'.wrong = 0→s2.wrong = 0):=fun h0=>by
   have h9:=e4
   split at h9
   · obtain ⟨_,rfl⟩:=aJ h9; exact h0
   exact bP (uQ hbs gk _) h9 h0
  have HNN:=hI hnn
  have HE3:=hI e3
  clear hm e1 e2 e3 e4 hz hbk hcn hc hnn
  go_wp2_with fail
  refine (bU hR).mono ?_
  rintro en w5 ⟨⟨x,rfl,hx⟩,hb5⟩
  have hs5:=hb5.size
  have HX:Hid (x = (nxt E sl).2.2.2.1):=hx HW0.out
  have hR5:ZAt w5 r E d sl:=hR.below hb5
  replace m:=m.below hb5
  replace o:=o.below hb5
  replace nq:=nq.on fun _ _ _ o=>o.below hb5
  replace hK:=hK.trans (Kp.of hb5)
  clear hb5 hx hR
  obtain ⟨v,aa,dd,pl2,ho,ha,hdd,hd,_,hpop⟩:=hR5.pop hlv
  obtain ⟨c0,c1,c2,c3,c4,c5,f0⟩:=ho.six
  have hl2:=ho.lt
  obtain ⟨W6,hW6⟩:=iQ (w5.setCell ⟨r,1,none⟩ (.int .i64 ((aa:Int) + 1)))
  have hR6:ZAt W6 r E d (aS sl):=by
   rw [← hW6]
   refine hpop _ (fun g hg=>Below.heap_setCell w5 ⟨r,1,none⟩ _ g (by show g ≠ r; omega)) d d rfl hd ?_
   have:=ho.set 1 (.int .i64 ((aa:Int) + 1))
   rw [hdd] at this
   exact this
  have m6:Own W6 g3 (nQ k a b nn ao x2 cap) 25:=by rw [← hW6]; exact m.other (by omega) _
  have o6:Own W6 w.heap.size nZ 25:=by rw [← hW6]; exact o.other hne2 _
  have nq6:aZ W6 (fun g=>w.heap.size≤g∧g ≠ g3∧g ≠ w.heap.size) x2 k a b nn (.slice ao x2.kids.length cap):=by rw [← hW6]; exact nq.on fun _ _ _ o=>o.other (by omega) _
  have hK6:Kp r w W6:=by rw [← hW6]; exact hK.set (.inr rfl) 1 _
  have hs6:w5.heap.size = W6.heap.size:=by rw [← hW6,World.size_setCell]
  have HW6:=hI hW6
  clear hpop ho hdd hR5 m o nq hK hW6
  go_upto_region 9 with fail
  rw [HW6.out]
  clear HW6 c0 c1 c2 c3 c4 c5 f0
  go_wp2_with fail
  refine (HP _ r E d (aS sl) y s2 _ (by first | rfl | exact i4 | exact i5 | go_num) hR6 hE HE3.out).mono ?_
  rintro en w7 ⟨t1,k1,a1,b1,n1,v1,rfl,hN1,ht1,hR7,hK7⟩
  obtain ⟨ao1,cap1,rfl⟩:=Row.shape hN1.2.2.2.2
  have hs7:=hK7.size
  have HT1:=hI ht1
  obtain ⟨W8,hW8⟩:=iQ (w7.alloc (.cells (nQ k1 a1 b1 n1 ao1 t1 cap1) 25))
  have hb8:Below w7.heap.size w7 W8:=by rw [← hW8]; exact (Below.refl _ _).alloc (Nat.le_refl _) _
  have oY:Own W8 w7.heap.size (nQ k1 a1 b1 n1 ao1 t1 cap1) 25:=by rw [← hW8]; exact Own.new w7 _ _
  have hs8:=hb8.size
  have hlY:=oY.lt
  have hK8:Kp r W6 W8:=hK7.trans (Kp.of hb8)
  have hR8:ZAt W8 r E d s2:=hR7.below hb8
  have m8:=m6.kp hK8 (by omega)
  have o8:=o6.kp hK8 (by omega)
  have hQ8:aZ W8 (fun g=>(w.heap.size≤g∧g ≠ g3∧g ≠ w.heap.size)∧g < W6.heap.size) x2 k a b nn (.slice ao x2.kids.length cap):=(nq6.imp (Q':=fun g=>(w.heap.size≤g∧g ≠ g3∧g ≠ w.heap.size)∧g < W6.heap.size) fun g h1 h2=>⟨h2,h1⟩).on fun _ _ _ o=>o.kp hK8 (by omega)
  have hN8:aZ W8 (fun g=>(w.heap.size≤g∧g ≠ g3∧g ≠ w.heap.size)∧W6.heap.size≤g) t1 k1 a1 b1 n1 (.slice ao1 t1.kids.length cap1):=(aZ.imp (bV.q hN1) (Q':=fun g=>(w.heap.size≤g∧g ≠ g3∧g ≠ w.heap.size)∧W6.heap.size≤g) fun g _ h=>⟨⟨by omega,by omega,by omega⟩,h⟩).on fun _ _ _ o=>o.below hb8
  have hKW:=hK6.trans hK8
  obtain ⟨m0,m1,m2,m3,m4,mf⟩:=m8.five
  obtain ⟨y0,y1,y2,y3,y4,yf⟩:=oY.five
  have hlm:=m8.lt
  have hrow:=bK.two W6.heap.size hQ8 hN8 (show w.heap.size≤W8.heap.size∧W8.heap.size ≠ g3∧W8.heap.size ≠ w.heap.size from ⟨by omega,by omega,by omega⟩)
  have m9:=m8.alloc (.cells #[.int .u8 k,.int .i64 a,.string b,.int .u64 nn,.slice ao x2.kids.length cap,.int .u8 k1,.int .i64 a1,.string b1,.int .u64 n1,.slice ao1 t1.kids.length cap1] 25)
  have o9:=o8.alloc (.cells #[.int .u8 k,.int .i64 a,.string b,.int .u64 nn,.slice ao x2.kids.length cap,.int .u8 k1,.int .i64 a1,.string b1,.int .u64 n1,.slice ao1 t1.kids.length cap1] 25)
  have hR9:=hR8.alloc (.cells #[.int .u8 k,.int .i64 a,.string b,.int .u64 nn,.slice ao x2.kids.length cap,.int .u8 k1,.int .i64 a1,.string b1,.int .u64 n1,.slice ao1 t1.kids.length cap1] 25)
  have hK10:=hKW.alloc (.cells #[.int .u8 k,.int .i64 a,.string b,.int .u64 nn,.slice ao x2.kids.length cap,.int .u8 k1,.int .i64 a1,.string b1,.int .u64 n1,.slice ao1 t1.kids.length cap1] 25)
  have hs9:W8.heap.size < (W8.alloc (.cells #[.int .u8 k,.int .i64 a,.string b,.int .u64 nn,.slice ao x2.kids.length cap,.int .u8 k1,.int .i64 a1,.string b1,.int .u64 n1,.slice ao1 t1.kids.length cap1] 25)).heap.size:=by rw [World.size_alloc]; omega
  clear hK7 hR7 hN1 ht1 hR6 m6 o6 nq6 hK6 hb8 hQ8 hN8 hR8 hK8 oY o8 m8 hKW
  go_upto_region 10 with fail
  try rw [hW8]
  clear hW8
  go_wp2_with fail
  refine (dE _ _ _ _).mono ?_
  rintro en wz ⟨rfl,rfl⟩
  generalize W8.alloc _ = W9 at hrow m9 o9 hR9 hK10 hs9 ⊢
  clear m0 m1 m2 m3 m4 mf y0 y1 y2 y3 y4 yf
  have HTT:Hid (s'.wrong = 0→(⟨(bX (nxt E sl)).1,(x:Int),[],0,[x2,t1]⟩:Tree) = ⟨(bX (nxt E sl)).1,((nxt E sl).2.2.2.1:Nat),[],0,[x0,y]⟩):=fun h0=>by
   rw [HNN.out h0,HX.out,HT1.out (HMO.out h0)]
  by_cases h22:n = 2
  · have he:=HE4.out
    rw [if_pos h22] at he
    obtain ⟨e1,e2⟩:=aJ he
    have HTE:=hI e1
    have HSE:=hI e2
    have j2:(n:Int) = 2:=by omega
    clear he e1 e2 HE4
    go_wp2_with (first | (refine aF rfl (.tmp 5) (.tmp 44) rfl rfl g3 rfl rfl m9 ⟨rfl,rfl,rfl,rfl,rfl⟩ ?_; intro wz oz gz; obtain ⟨q0,q1,q2,q3,q4,qf⟩:=oz.five; have hlq:=oz.lt; have o11:=o9.grown gz (aG (by omega))) | (refine aF rfl (.tmp 4) (.tmp 47) rfl rfl w.heap.size rfl rfl o11 ⟨rfl,rfl,rfl,rfl,rfl⟩ ?_; intro wy oy gy))
    have hs11:=gz.size
    have hq11:=hrow.on (w':=wz) fun _ _ _ o=>o.grown gz (aG (by omega))
    have nq11:aZ wz (fun g=>w.heap.size≤g∧g ≠ g3∧g ≠ w.heap.size) ⟨(bX (nxt E sl)).1,(x:Int),[],0,[x2,t1]⟩ z (x:Int) ⟨#[]⟩ 0 _:=⟨by first | exact HZ.out | exact HZ.out.symm,rfl,rfl,rfl,hq11⟩
    refine aC (t:=25) rfl rfl rfl oy Tryz.underlying25 rfl (by kernel_rfl) ?_
    exact ⟨_,_,_,_,_,_,rfl,((nq11.on fun _ _ _ o=>o.grown gy (aG (by omega))).imp fun g _ h=>h.1).is,fun h0=>(HTT.out h0).trans HTE.out,by rw [← HSE.out]; exact (hR9.grown gz (aH (by omega))).grown gy (aH (by omega)),(hK10.grown gz (aI (by omega))).grown gy (aI (by omega))⟩
  have he:=HE4.out
  rw [if_neg h22] at he
  have HL:=hI he
  have j2:¬ (n:Int) = 2:=by omega
  clear he HE4
  go_wp2_with (refine aF rfl (.tmp 5) (.tmp 44) rfl rfl g3 rfl rfl m9 ⟨rfl,rfl,rfl,rfl,rfl⟩ ?_; intro wz oz gz)
  have HR11:Hid (ZAt wz r E d s2):=hR9.grown gz (aH (by omega))
  have hK11:=hK10.grown gz (aI (by omega))
  have o11:=o9.grown gz (aG (by omega))
  have hs11:=gz.size
  have hq11:=hrow.on (w':=wz) fun _ _ _ o=>o.grown gz (aG (by omega))
  have nq11:aZ wz (fun g=>w.heap.size≤g∧g ≠ g3∧g ≠ w.heap.size) ⟨(bX (nxt E sl)).1,(x:Int),[],0,[x2,t1]⟩ z (x:Int) ⟨#[]⟩ 0 _:=⟨by first | exact HZ.out | exact HZ.out.symm,rfl,rfl,rfl,hq11⟩
  refine (aT0 HR11 n _ rfl hn).mono ?_
  rintro en w12 ⟨rfl,hb12⟩
  have hs12:=hb12.size
  have hR12:ZAt w12 r E d s2:=HR11.out.below hb12
  have m12:=oz.below hb12
  have o12:=o11.below hb12
  have nq12:=nq11.on (w':=w12) fun _ _ _ o=>o.below hb12
  have hK12:=hK11.trans (Kp.of hb12)
  have hl12:=m12.lt
  clear HR11 hK11 o11 oz nq11 hq11 hb12 gz
  go_wp2
  go_roundg gk
  case rel=>exact ⟨_,_,s2,_,_,_,_,_,_,_,HL.out,rfl,rfl,hR12,m12,o12,nq12,HTT.out,hK12,hl12⟩
  case measure=>omega
theorem kT0 {unary:P Tree} (HU:cY 123 unary) (hbs:Bs unary 0) (f:Nat):∀ j,j≤5→aU0 84 (5 - j) (lQ unary f j):=by
 intro j
 induction j with
 | zero=>intro _; exact gV0 HU
 | succ j ih=>?_
 intro hj
 have h:=ih (by omega)
 have e1:5 - j = 4 - j + 1:=by omega
 have e2:5 - (j + 1) = 4 - j:=by omega
 rw [e1] at h
 rw [e2]
 exact fJ0 (4 - j) (by omega) h (dF0 hbs f j) f
theorem lW0 {unary:P Tree} (HU:cY 123 unary) (hbs:Bs unary 0) (f:Nat):cY 40 (lQ unary f 5):=fH0 (kT0 HU hbs f 5 (Nat.le_refl _))
end Go.Proofs.YtnipenijihkgdaaGreatDoor
