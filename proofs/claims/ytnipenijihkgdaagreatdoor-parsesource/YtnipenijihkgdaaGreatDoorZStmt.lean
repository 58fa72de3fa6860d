import Derived.Test.YtnipenijihkgdaaGreatDoorNd
import Derived.Test.YtnipenijihkgdaaGreatDoorQ48
set_option maxHeartbeats 8000000
set_option maxRecDepth 100000
namespace Go.Proofs.YtnipenijihkgdaaGreatDoor
open Go.RowKit
set_option linter.unusedVariables false
theorem eF0 {branch expr:P Tree} {stmts:P (List Tree)} (HW:cW0 177 branch) (HP:cY 40 expr) (hbs:Bs expr 0) (hds:Ds expr) (f:Nat) (hf:f≤100000000) (HB:cY 122 (cN stmts)) (hbb:Bs (cN stmts) 0) (HA:zT 201 (pA stmts)) (hbst:Bs stmts 0):cY 160 (iM f branch expr stmts):=by
 intro w r E d s t s' hR hE hm
 have hrl:=hR.lt
 have hK:=Kp.refl r w
 have HM:=hI hm
 clear hm
 go_enter Tryz.func160,Tryz.ntmps160
 go_upto_region 1 with fail
 have oR:=Own.new w nZ 25
 replace hR:=hR.alloc (.cells nZ 25)
 replace hK:=hK.alloc (.cells nZ 25)
 generalize w.alloc _ = w1 at hR hK oR ⊢
 have hs1:=oR.lt
 go_wp2_with fail
 refine (bU hR).mono ?_
 rintro en w2 ⟨⟨x,rfl,hx⟩,hb⟩
 have HX:=hI hx
 clear hx
 have hs2:=hb.size
 replace hR:=hR.below hb
 replace hK:=hK.trans (Kp.of hb)
 replace oR:=oR.below hb
 clear hb
 go_wp2_with fail
 refine (fP hR 1 1 rfl (by omega)).mono ?_
 rintro en w3 ⟨⟨mk,mb,mn,ma,me,rfl,hm⟩,hb⟩
 have hs3:=hb.size
 replace hR:=hR.below hb
 replace hK:=hK.trans (Kp.of hb)
 replace oR:=oR.below hb
 clear hb
 go_upto_region 3 with fail
 have oA:=Own.new w3 #[.int .u8 mk,.string mb,.int .u64 mn,.int .i64 ma,.int .i64 me] 65
 obtain ⟨hR,hK,oR⟩:=(fun y9=>And.intro (hR.alloc y9) (And.intro (hK.alloc y9) (oR.alloc y9))) (.cells #[.int .u8 mk,.string mb,.int .u64 mn,.int .i64 ma,.int .i64 me] 65)
 generalize w3.alloc _ = w4 at hR hK oR oA ⊢
 have hs4:=oA.lt
 obtain ⟨q1,hq1⟩:=iQ (aR [123] (nxt E s))
 have hq1m:sg [123] (nxt E s) = q1:=by rw [← hq1]; exact (aX (hR.nxt_wf 0) (fun c r h=>by cases h; rfl)).symm
 go_wp2_with fail
 refine (bG hR ⟨#[123]⟩ q1 hq1).mono ?_
 rintro en w5 ⟨rfl,hb⟩
 have hs5:=hb.size
 replace hR:=hR.below hb
 replace hK:=hK.trans (Kp.of hb)
 replace oR:=oR.below hb
 replace oA:=oA.below hb
 clear hb
 cases q1 with
 | true =>
  clear oA
  have HM1:Hid (cN stmts E d s = some (t,s')):=fS0 hq1m HM.out
  clear HM hq1 hq1m
  go_wp2_with fail
  refine (HB _ r E d s t s' hR hE HM1.out).mono ?_
  rintro en w6 ⟨t1,k1,a1,b1,n1,v1,rfl,hN1,ht1,hR2,hK2⟩
  obtain ⟨ao1,cap1,rfl⟩:=Row.shape hN1.2.2.2.2
  have q1:aZ w6 (fun g=>w5.heap.size≤g∧g < w6.heap.size) t1 k1 a1 b1 n1 (.slice ao1 t1.kids.length cap1):=hN1.q.imp fun g h1 h2=>⟨h2,h1⟩
  have HT1:=hI ht1
  clear hN1 ht1
  have hs6:=hK2.size
  replace oR:=oR.kp hK2 (by omega)
  replace hK:=hK.trans hK2
  replace hR:=hR2
  clear hK2 hR2
  go_wp2_with (refine aF rfl (.tmp 2) (.tmp 18) rfl rfl (w.heap.size) rfl rfl oR ⟨rfl,rfl,rfl,rfl,rfl⟩ ?_; intro wz oz gz)
  refine aC (t:=25) rfl rfl rfl oz Tryz.underlying25 rfl (by kernel_rfl) ?_
  refine ⟨t1,_,_,_,_,_,rfl,((q1.on fun _ _ _ o=>o.grown gz (aG (by omega))).imp fun g _ h=>by omega).is,fun h0=>?_,hR.grown gz (aH (by omega)),hK.grown gz (aI (by omega))⟩
  exact HT1.out h0
 | false=>?_
 obtain ⟨q2,hq2⟩:=iQ (aR [118,97,114] (nxt E s))
 have hq2m:wd [118,97,114] (nxt E s) = q2:=by rw [← hq2]; exact (cG (hR.nxt_wf 0) (by decide)).symm
 go_wp2_with fail
 refine (bG hR ⟨#[118,97,114]⟩ q2 hq2).mono ?_
 rintro en w6 ⟨rfl,hb⟩
 have hs6:=hb.size
 replace hR:=hR.below hb
 replace hK:=hK.trans (Kp.of hb)
 replace oR:=oR.below hb
 replace oA:=oA.below hb
 clear hb
 cases q2 with
 | true =>
  clear oA
  obtain ⟨s1,tk,g1,g2⟩:=rF hq2m (by decide) (by decide) (by decide) (by decide) (by decide) HM.out
  rw [nM (cX hq2m (by decide)) (cX hq2m (by decide)) (cX hq2m (by decide)) (cX hq2m (by decide)),iI0 hq2m] at g1
  have HM1:=hI g1
  have HM2:=hI g2
  clear g1 g2 HM hq1 hq1m hq2
  go_wp2_with fail
  refine (xB HP hbs f hf _ r E d s t s1 hR hq2m hE HM1.out).mono ?_
  rintro en w7 ⟨t1,k1,a1,b1,n1,v1,rfl,hN1,ht1,hR2,hK2⟩
  obtain ⟨ao1,cap1,rfl⟩:=Row.shape hN1.2.2.2.2
  have q1:aZ w7 (fun g=>w6.heap.size≤g∧g < w7.heap.size) t1 k1 a1 b1 n1 (.slice ao1 t1.kids.length cap1):=hN1.q.imp fun g h1 h2=>⟨h2,h1⟩
  have HT1:=hI ht1
  clear hN1 ht1
  have hs7:=hK2.size
  replace oR:=oR.kp hK2 (by omega)
  replace hK:=hK.trans hK2
  replace hR:=hR2
  clear hK2 hR2
  go_upto_region 7 with fail
  have oX:=Own.new w7 (nQ k1 a1 b1 n1 ao1 t1 cap1) 25
  obtain ⟨hR,hK,oR,q1⟩:=(fun y9=>And.intro (hR.alloc y9) (And.intro (hK.alloc y9) (And.intro (oR.alloc y9) (q1.on fun _ _ _ h=>h.alloc y9)))) (.cells (nQ k1 a1 b1 n1 ao1 t1 cap1) 25)
  generalize w7.alloc _ = w8 at hR hK oR oX q1 ⊢
  have hs8:=oX.lt
  obtain ⟨q9,hq9⟩:=iQ (aR [59] (nxt E s1))
  have hq9m:sg [59] (nxt E s1) = q9:=by rw [← hq9]; exact (aX (hR.nxt_wf 0) (fun c r h=>by cases h; rfl)).symm
  obtain ⟨hs9,ht9⟩:=fR HM2.out hq9m
  have HS9:=hI hs9
  have HMO9:Hid (s'.wrong = 0→s1.wrong = 0):=fun h0=>(ht9 h0).1
  clear hs9 ht9 hq9m
  go_wp2_with fail
  refine (cQ hR ⟨#[59]⟩ q9 hq9).mono ?_
  rintro en w9 ⟨⟨_,rfl⟩,hR2,hK2⟩
  rw [HS9.out] at hR2
  have hs9:=hK2.size
  replace oR:=oR.kp hK2 (by omega)
  replace oX:=oX.kp hK2 (by omega)
  replace q1:=q1.on fun _ _ _ o=>o.kp hK2 (by omega)
  replace hK:=hK.trans hK2
  replace hR:=hR2
  clear hK2 hR2 hq9
  obtain ⟨oX0,oX1,oX2,oX3,oX4,oXf⟩:=oX.five
  have oXl:=oX.lt
  go_wp2_with (refine aF rfl (.tmp 2) (.tmp 26) rfl rfl (w.heap.size) rfl rfl oR ⟨rfl,rfl,rfl,rfl,rfl⟩ ?_; intro wz oz gz)
  refine aC (t:=25) rfl rfl rfl oz Tryz.underlying25 rfl (by kernel_rfl) ?_
  refine ⟨t1,_,_,_,_,_,rfl,((q1.on fun _ _ _ o=>o.grown gz (aG (by omega))).imp fun g _ h=>by omega).is,fun h0=>?_,hR.grown gz (aH (by omega)),hK.grown gz (aI (by omega))⟩
  exact HT1.out (HMO9.out h0)
 | false=>?_
 obtain ⟨q3,hq3⟩:=iQ (aR [105,102] (nxt E s))
 have hq3m:wd [105,102] (nxt E s) = q3:=by rw [← hq3]; exact (cG (hR.nxt_wf 0) (by decide)).symm
 go_wp2_with fail
 refine (bG hR ⟨#[105,102]⟩ q3 hq3).mono ?_
 rintro en w7 ⟨rfl,hb⟩
 have hs7:=hb.size
 replace hR:=hR.below hb
 replace hK:=hK.trans (Kp.of hb)
 replace oR:=oR.below hb
 replace oA:=oA.below hb
 clear hb
 cases q3 with
 | true =>
  clear oA
  have HM1:Hid (branch E d s = some (t,s')):=vG0 hq3m HM.out
  have HC:Hid (s.wrong = 0→wd [105,102] (nxt E s) = true):=fun _=>hq3m
  clear HM hq1 hq1m hq2 hq2m hq3 hq3m
  go_wp2_with fail
  refine (HW _ r E d s t s' hR HC.out hE HM1.out).mono ?_
  rintro en w8 ⟨t1,k1,a1,b1,n1,v1,rfl,hN1,ht1,hR2,hK2⟩
  obtain ⟨ao1,cap1,rfl⟩:=Row.shape hN1.2.2.2.2
  have q1:aZ w8 (fun g=>w7.heap.size≤g∧g < w8.heap.size) t1 k1 a1 b1 n1 (.slice ao1 t1.kids.length cap1):=hN1.q.imp fun g h1 h2=>⟨h2,h1⟩
  have HT1:=hI ht1
  clear hN1 ht1
  have hs8:=hK2.size
  replace oR:=oR.kp hK2 (by omega)
  replace hK:=hK.trans hK2
  replace hR:=hR2
  clear hK2 hR2
  go_wp2_with (refine aF rfl (.tmp 2) (.tmp 31) rfl rfl (w.heap.size) rfl rfl oR ⟨rfl,rfl,rfl,rfl,rfl⟩ ?_; intro wz oz gz)
  refine aC (t:=25) rfl rfl rfl oz Tryz.underlying25 rfl (by kernel_rfl) ?_
  refine ⟨t1,_,_,_,_,_,rfl,((q1.on fun _ _ _ o=>o.grown gz (aG (by omega))).imp fun g _ h=>by omega).is,fun h0=>?_,hR.grown gz (aH (by omega)),hK.grown gz (aI (by omega))⟩
  exact HT1.out h0
 | false=>?_
 obtain ⟨q4,hq4⟩:=iQ (aR [119,104,105,108,101] (nxt E s))
 have hq4m:wd [119,104,105,108,101] (nxt E s) = q4:=by rw [← hq4]; exact (cG (hR.nxt_wf 0) (by decide)).symm
 obtain ⟨q5,hq5⟩:=iQ (aR [102,111,114] (nxt E s))
 have hq5m:wd [102,111,114] (nxt E s) = q5:=by rw [← hq5]; exact (cG (hR.nxt_wf 0) (by decide)).symm
 obtain ⟨q6,hq6⟩:=iQ (aR [115,119,105,116,99,104] (nxt E s))
 have hq6m:wd [115,119,105,116,99,104] (nxt E s) = q6:=by rw [← hq6]; exact (cG (hR.nxt_wf 0) (by decide)).symm
 go_wp2_with fail
 refine (bG hR ⟨#[119,104,105,108,101]⟩ q4 hq4).mono ?_
 rintro en w8 ⟨rfl,hb⟩
 have hs8:=hb.size
 replace hR:=hR.below hb
 replace hK:=hK.trans (Kp.of hb)
 replace oR:=oR.below hb
 replace oA:=oA.below hb
 clear hb
 cases q4 with
 | true =>
  have HM1:Hid (iD f [] expr stmts E d s = some (t,s')):=sE (pR hq4m (by simp)) HM.out
  clear HM oA
  go_wp2_with fail
  refine (kN HP hbs hds f hf HB hbb HA hbst _ r E d s [] t s' hR hE HM1.out).mono ?_
  rintro en w9 ⟨t1,k1,a1,b1,n1,v1,rfl,hN1,ht1,hR2,hK2⟩
  obtain ⟨ao1,cap1,rfl⟩:=Row.shape hN1.2.2.2.2
  have q1:aZ w9 (fun g=>w8.heap.size≤g∧g < w9.heap.size) t1 k1 a1 b1 n1 (.slice ao1 t1.kids.length cap1):=hN1.q.imp fun g h1 h2=>⟨h2,h1⟩
  have HT1:=hI ht1
  clear hN1 ht1
  have hs9:=hK2.size
  replace oR:=oR.kp hK2 (by omega)
  replace hK:=hK.trans hK2
  replace hR:=hR2
  clear hK2 hR2
  go_wp2_with (refine aF rfl (.tmp 2) (.tmp 44) rfl rfl (w.heap.size) rfl rfl oR ⟨rfl,rfl,rfl,rfl,rfl⟩ ?_; intro wz oz gz)
  refine aC (t:=25) rfl rfl rfl oz Tryz.underlying25 rfl (by kernel_rfl) ?_
  refine ⟨t1,_,_,_,_,_,rfl,((q1.on fun _ _ _ o=>o.grown gz (aG (by omega))).imp fun g _ h=>by omega).is,fun h0=>?_,hR.grown gz (aH (by omega)),hK.grown gz (aI (by omega))⟩
  exact HT1.out h0
 | false=>?_
 go_wp2_with fail
 refine (bG hR ⟨#[102,111,114]⟩ q5 hq5).mono ?_
 rintro en w9 ⟨rfl,hb⟩
 have hs9:=hb.size
 replace hR:=hR.below hb
 replace hK:=hK.trans (Kp.of hb)
 replace oR:=oR.below hb
 replace oA:=oA.below hb
 clear hb
 cases q5 with
 | true =>
  have HM1:Hid (iD f [] expr stmts E d s = some (t,s')):=sE (pR hq5m (by simp)) HM.out
  clear HM oA
  go_wp2_with fail
  refine (kN HP hbs hds f hf HB hbb HA hbst _ r E d s [] t s' hR hE HM1.out).mono ?_
  rintro en w10 ⟨t1,k1,a1,b1,n1,v1,rfl,hN1,ht1,hR2,hK2⟩
  obtain ⟨ao1,cap1,rfl⟩:=Row.shape hN1.2.2.2.2
  have q1:aZ w10 (fun g=>w9.heap.size≤g∧g < w10.heap.size) t1 k1 a1 b1 n1 (.slice ao1 t1.kids.length cap1):=hN1.q.imp fun g h1 h2=>⟨h2,h1⟩
  have HT1:=hI ht1
  clear hN1 ht1
  have hs10:=hK2.size
  replace oR:=oR.kp hK2 (by omega)
  replace hK:=hK.trans hK2
  replace hR:=hR2
  clear hK2 hR2
  go_wp2_with (refine aF rfl (.tmp 2) (.tmp 44) rfl rfl (w.heap.size) rfl rfl oR ⟨rfl,rfl,rfl,rfl,rfl⟩ ?_; intro wz oz gz)
  refine aC (t:=25) rfl rfl rfl oz Tryz.underlying25 rfl (by kernel_rfl) ?_
  refine ⟨t1,_,_,_,_,_,rfl,((q1.on fun _ _ _ o=>o.grown gz (aG (by omega))).imp fun g _ h=>by omega).is,fun h0=>?_,hR.grown gz (aH (by omega)),hK.grown gz (aI (by omega))⟩
  exact HT1.out h0
 | false=>?_
 go_wp2_with fail
 refine (bG hR ⟨#[115,119,105,116,99,104]⟩ q6 hq6).mono ?_
 rintro en w10 ⟨rfl,hb⟩
 have hs10:=hb.size
 replace hR:=hR.below hb
 replace hK:=hK.trans (Kp.of hb)
 replace oR:=oR.below hb
 replace oA:=oA.below hb
 clear hb
 cases q6 with
 | true =>
  have HM1:Hid (iD f [] expr stmts E d s = some (t,s')):=sE (pR hq6m (by simp)) HM.out
  clear HM oA
  go_wp2_with fail
  refine (kN HP hbs hds f hf HB hbb HA hbst _ r E d s [] t s' hR hE HM1.out).mono ?_
  rintro en w11 ⟨t1,k1,a1,b1,n1,v1,rfl,hN1,ht1,hR2,hK2⟩
  obtain ⟨ao1,cap1,rfl⟩:=Row.shape hN1.2.2.2.2
  have q1:aZ w11 (fun g=>w10.heap.size≤g∧g < w11.heap.size) t1 k1 a1 b1 n1 (.slice ao1 t1.kids.length cap1):=hN1.q.imp fun g h1 h2=>⟨h2,h1⟩
  have HT1:=hI ht1
  clear hN1 ht1
  have hs11:=hK2.size
  replace oR:=oR.kp hK2 (by omega)
  replace hK:=hK.trans hK2
  replace hR:=hR2
  clear hK2 hR2
  go_wp2_with (refine aF rfl (.tmp 2) (.tmp 44) rfl rfl (w.heap.size) rfl rfl oR ⟨rfl,rfl,rfl,rfl,rfl⟩ ?_; intro wz oz gz)
  refine aC (t:=25) rfl rfl rfl oz Tryz.underlying25 rfl (by kernel_rfl) ?_
  refine ⟨t1,_,_,_,_,_,rfl,((q1.on fun _ _ _ o=>o.grown gz (aG (by omega))).imp fun g _ h=>by omega).is,fun h0=>?_,hR.grown gz (aH (by omega)),hK.grown gz (aI (by omega))⟩
  exact HT1.out h0
 | false=>?_
 have htw:gU (nxt E s) = false:=by unfold gU; rw [hq4m,hq5m,hq6m]; rfl
 clear hq4 hq4m hq5 hq5m hq6 hq6m
 obtain ⟨q7,hq7⟩:=iQ (aR [98,114,101,97,107] (nxt E s))
 have hq7m:wd [98,114,101,97,107] (nxt E s) = q7:=by rw [← hq7]; exact (cG (hR.nxt_wf 0) (by decide)).symm
 go_wp2_with fail
 refine (bG hR ⟨#[98,114,101,97,107]⟩ q7 hq7).mono ?_
 rintro en w11 ⟨rfl,hb⟩
 have hs11:=hb.size
 replace hR:=hR.below hb
 replace hK:=hK.trans (Kp.of hb)
 replace oR:=oR.below hb
 replace oA:=oA.below hb
 clear hb
 cases q7 with
 | true =>
  clear oA
  obtain ⟨s1,tk,g1,g2⟩:=rF hq7m (by decide) (by decide) (by decide) (by decide) (by decide) HM.out
  rw [bH0 hq7m] at g1
  have HM1:Hid (rZ 20 E d s = some (t,s')):=dD0 g1 g2
  have hlv:=bR hq7m
  clear g1 g2 HM
  go_wp2_with fail
  refine (yD 20 (by decide) _ r E d s t s' hR hlv hE HM1.out).mono ?_
  rintro en w12 ⟨t1,k1,a1,b1,n1,v1,rfl,hN1,ht1,hR2,hK2⟩
  obtain ⟨ao1,cap1,rfl⟩:=Row.shape hN1.2.2.2.2
  have q1:aZ w12 (fun g=>w11.heap.size≤g∧g < w12.heap.size) t1 k1 a1 b1 n1 (.slice ao1 t1.kids.length cap1):=hN1.q.imp fun g h1 h2=>⟨h2,h1⟩
  have HT1:=hI ht1
  clear hN1 ht1
  have hs12:=hK2.size
  replace oR:=oR.kp hK2 (by omega)
  replace hK:=hK.trans hK2
  replace hR:=hR2
  clear hK2 hR2
  go_wp2_with (refine aF rfl (.tmp 2) (.tmp 49) rfl rfl (w.heap.size) rfl rfl oR ⟨rfl,rfl,rfl,rfl,rfl⟩ ?_; intro wz oz gz)
  refine aC (t:=25) rfl rfl rfl oz Tryz.underlying25 rfl (by kernel_rfl) ?_
  refine ⟨t1,_,_,_,_,_,rfl,((q1.on fun _ _ _ o=>o.grown gz (aG (by omega))).imp fun g _ h=>by omega).is,fun h0=>?_,hR.grown gz (aH (by omega)),hK.grown gz (aI (by omega))⟩
  exact HT1.out h0
 | false=>?_
 obtain ⟨q8,hq8⟩:=iQ (aR [99,111,110,116,105,110,117,101] (nxt E s))
 have hq8m:wd [99,111,110,116,105,110,117,101] (nxt E s) = q8:=by rw [← hq8]; exact (cG (hR.nxt_wf 0) (by decide)).symm
 go_wp2_with fail
 refine (bG hR ⟨#[99,111,110,116,105,110,117,101]⟩ q8 hq8).mono ?_
 rintro en w12 ⟨rfl,hb⟩
 have hs12:=hb.size
 replace hR:=hR.below hb
 replace hK:=hK.trans (Kp.of hb)
 replace oR:=oR.below hb
 replace oA:=oA.below hb
 clear hb
 cases q8 with
 | true =>
  clear oA
  obtain ⟨s1,tk,g1,g2⟩:=rF hq8m (by decide) (by decide) (by decide) (by decide) (by decide) HM.out
  rw [uM hq8m] at g1
  have HM1:Hid (rZ 21 E d s = some (t,s')):=dD0 g1 g2
  have hlv:=bR hq8m
  clear g1 g2 HM
  go_wp2_with fail
  refine (yD 21 (by decide) _ r E d s t s' hR hlv hE HM1.out).mono ?_
  rintro en w13 ⟨t1,k1,a1,b1,n1,v1,rfl,hN1,ht1,hR2,hK2⟩
  obtain ⟨ao1,cap1,rfl⟩:=Row.shape hN1.2.2.2.2
  have q1:aZ w13 (fun g=>w12.heap.size≤g∧g < w13.heap.size) t1 k1 a1 b1 n1 (.slice ao1 t1.kids.length cap1):=hN1.q.imp fun g h1 h2=>⟨h2,h1⟩
  have HT1:=hI ht1
  clear hN1 ht1
  have hs13:=hK2.size
  replace oR:=oR.kp hK2 (by omega)
  replace hK:=hK.trans hK2
  replace hR:=hR2
  clear hK2 hR2
  go_wp2_with (refine aF rfl (.tmp 2) (.tmp 54) rfl rfl (w.heap.size) rfl rfl oR ⟨rfl,rfl,rfl,rfl,rfl⟩ ?_; intro wz oz gz)
  refine aC (t:=25) rfl rfl rfl oz Tryz.underlying25 rfl (by kernel_rfl) ?_
  refine ⟨t1,_,_,_,_,_,rfl,((q1.on fun _ _ _ o=>o.grown gz (aG (by omega))).imp fun g _ h=>by omega).is,fun h0=>?_,hR.grown gz (aH (by omega)),hK.grown gz (aI (by omega))⟩
  exact HT1.out h0
 | false=>?_
 obtain ⟨qr,hqr⟩:=iQ (aR [114,101,116,117,114,110] (nxt E s))
 have hqrm:wd [114,101,116,117,114,110] (nxt E s) = qr:=by rw [← hqr]; exact (cG (hR.nxt_wf 0) (by decide)).symm
 go_wp2_with fail
 refine (fS hR ⟨#[114,101,116,117,114,110]⟩ qr hqr).mono ?_
 rintro en w13 ⟨rfl,hR2,hK2⟩
 have hs13:=hK2.size
 replace oR:=oR.kp hK2 (by omega)
 replace oA:=oA.kp hK2 (by omega)
 replace hK:=hK.trans hK2
 replace hR:=hR2
 clear hK2 hR2
 cases qr with
 | true =>
  clear oA
  rw [if_pos rfl] at hR
  obtain ⟨s1,tk,g1,g2⟩:=rF hqrm (by decide) (by decide) (by decide) (by decide) (by decide) HM.out
  obtain ⟨l,g3,hT⟩:=aF0 hqrm g1
  have HM1:=hI g3
  have HM2:=hI g2
  have HT':=hI hT
  have HMO:Hid (s1.wrong = 0→s.wrong = 0):=by have h:=bP (wP hbs f [59]) g3; exact h
  clear g1 g2 g3 hT HM
  go_wp2_with fail
  refine (qR HP hbs f hf ⟨#[59]⟩ (fun c r h=>by cases h; rfl) _ r E d (aS s) l s1 hR hE HM1.out).mono ?_
  rintro en w14 ⟨ts',v4,rfl,hrow4,hts,hR2,hK2,hlen4⟩
  obtain ⟨ao4,cap4,rfl⟩:=hrow4.shape
  have HTS:=hI hts
  have qk:bK w14 (fun g=>w13.heap.size≤g∧g < w14.heap.size) (.slice ao4 ts'.length cap4) ts':=hrow4.q.imp fun g h1 h2=>⟨h2,h1⟩
  clear hts hrow4
  have hs14:=hK2.size
  replace oR:=oR.kp hK2 (by omega)
  replace hK:=hK.trans hK2
  replace hR:=hR2
  clear hK2 hR2
  obtain ⟨q9,hq9⟩:=iQ (aR [59] (nxt E s1))
  have hq9m:sg [59] (nxt E s1) = q9:=by rw [← hq9]; exact (aX (hR.nxt_wf 0) (fun c r h=>by cases h; rfl)).symm
  obtain ⟨hs9,ht9⟩:=fR HM2.out hq9m
  have HS9:=hI hs9
  have HMO9:Hid (s'.wrong = 0→s1.wrong = 0):=fun h0=>(ht9 h0).1
  clear hs9 ht9 hq9m
  go_wp2_with fail
  refine (cQ hR ⟨#[59]⟩ q9 hq9).mono ?_
  rintro en w15 ⟨⟨_,rfl⟩,hR2,hK2⟩
  rw [HS9.out] at hR2
  have hs15:=hK2.size
  replace oR:=oR.kp hK2 (by omega)
  replace qk:=qk.on fun _ _ _ o=>o.kp hK2 (by omega)
  replace hK:=hK.trans hK2
  replace hR:=hR2
  clear hK2 hR2 hq9
  go_wp2_with (refine aF rfl (.tmp 2) (.tmp 64) rfl rfl (w.heap.size) rfl rfl oR ⟨rfl,rfl,rfl,rfl,rfl⟩ ?_; intro wz oz gz)
  refine aC (t:=25) rfl rfl rfl oz Tryz.underlying25 rfl (by kernel_rfl) ?_
  refine ⟨⟨22,(x:Int),[],0,ts'⟩,_,_,_,_,_,rfl,⟨rfl,rfl,rfl,rfl,bK.row ((qk.on fun _ _ _ o=>o.grown gz (aG (by omega))).imp fun g _ h=>by omega)⟩,fun h0=>?_,hR.grown gz (aH (by omega)),hK.grown gz (aI (by omega))⟩
  have h1:=HMO9.out h0
  rw [HT'.out,HTS.out h1,HX.out (HMO.out h1)]
 | false=>?_
 rw [if_neg (by simp)] at hR
 obtain ⟨qt,hqt⟩:=iQ (aR [116,114,97,112] (nxt E s))
 have hqtm:wd [116,114,97,112] (nxt E s) = qt:=by rw [← hqt]; exact (cG (hR.nxt_wf 0) (by decide)).symm
 go_wp2_with fail
 refine (fS hR ⟨#[116,114,97,112]⟩ qt hqt).mono ?_
 rintro en w14 ⟨rfl,hR2,hK2⟩
 have hs14:=hK2.size
 replace oR:=oR.kp hK2 (by omega)
 replace oA:=oA.kp hK2 (by omega)
 replace hK:=hK.trans hK2
 replace hR:=hR2
 clear hK2 hR2
 cases qt with
 | true =>
  clear oA
  rw [if_pos rfl] at hR
  obtain ⟨s1,tk,g1,g2⟩:=rF hqtm (by decide) (by decide) (by decide) (by decide) (by decide) HM.out
  obtain ⟨c0,g3,hT⟩:=fV0 hqtm g1
  obtain ⟨qc,hqc⟩:=iQ ((cn (nxt E (aS s)) && decide ((nxt E (aS s)).2.2.1≤255)))
  obtain ⟨hs1,hc1⟩:=fR g3 hqc
  have HS1:=hI hs1
  have HC1:=hI hc1
  have HM2:=hI g2
  have HT':=hI hT
  clear g1 g2 g3 hT HM hs1 hc1
  obtain ⟨nv,hnv⟩:∃ nv:Nat,(if qc then (nxt E (aS s)).2.2.1 else 0) = nv:=⟨_,rfl⟩
  have hni:(if qc = true then ((nxt E (aS s)).2.2.1:Int) else 0) = (nv:Int):=by rw [← hnv]; cases qc <;> rfl
  have HNV:=hI hnv
  clear hnv
  go_wp2_with fail
  refine (xY hR 255 255 rfl qc hqc).mono ?_
  rintro en w15 ⟨rfl,hR2,hK2⟩
  rw [hni]
  rw [HS1.out] at hR2
  clear hni hqc
  have hs15:=hK2.size
  replace oR:=oR.kp hK2 (by omega)
  replace hK:=hK.trans hK2
  replace hR:=hR2
  clear hK2 hR2
  obtain ⟨q9,hq9⟩:=iQ (aR [59] (nxt E s1))
  have hq9m:sg [59] (nxt E s1) = q9:=by rw [← hq9]; exact (aX (hR.nxt_wf 0) (fun c r h=>by cases h; rfl)).symm
  obtain ⟨hs9,ht9⟩:=fR HM2.out hq9m
  have HS9:=hI hs9
  have HMO9:Hid (s'.wrong = 0→s1.wrong = 0):=fun h0=>(ht9 h0).1
  clear hs9 ht9 hq9m
  go_wp2_with fail
  refine (cQ hR ⟨#[59]⟩ q9 hq9).mono ?_
  rintro en w16 ⟨⟨_,rfl⟩,hR2,hK2⟩
  rw [HS9.out] at hR2
  have hs16:=hK2.size
  replace oR:=oR.kp hK2 (by omega)
  replace hK:=hK.trans hK2
  replace hR:=hR2
  clear hK2 hR2 hq9
  go_wp2_with (refine aF rfl (.tmp 2) (.tmp 74) rfl rfl (w.heap.size) rfl rfl oR ⟨rfl,rfl,rfl,rfl,rfl⟩ ?_; intro wz oz gz)
  refine aC (t:=25) rfl rfl rfl oz Tryz.underlying25 rfl (by kernel_rfl) ?_
  refine ⟨⟨23,(x:Int),[],nv,[]⟩,_,_,_,_,_,rfl,⟨rfl,rfl,rfl,rfl,Row.nil _ _⟩,fun h0=>?_,hR.grown gz (aH (by omega)),hK.grown gz (aI (by omega))⟩
  obtain ⟨e1,e2,e3⟩:=HC1.out (HMO9.out h0)
  rw [HT'.out,HX.out e1,e3,← HNV.out,e2]
  rfl
 | false=>?_
 rw [if_neg (by simp)] at hR
 obtain ⟨qn,hqn⟩:=iQ (nm (nxt E s))
 obtain ⟨ql,hql⟩:=iQ (sg [58] (bE E s 1))
 have hk9:mk = ((bE E s 1).1:Int):=hm.1
 have h0:(mb.toList == (⟨#[58]⟩:ByteArray).toList) = ((bE E s 1).2.1 == [58]):=by rw [hm.2.1]; exact kQ _ (hR.nxt_wf 1).1.1.1 ⟨#[58]⟩
 have hb9:(mb.toList == [58]) = ((bE E s 1).2.1 == [58]):=by rw [← h0,ByteArray.toList_eq (bs:=⟨#[58]⟩)]
 clear hm h0
 obtain ⟨oA0,oA1,oA2,oA3,oA4,oAf⟩:=oA.five
 have oAl:=oA.lt
 go_wp2_with fail
 refine (lC hR qn hqn).mono ?_
 rintro en w15 ⟨rfl,hb⟩
 have hs15:=hb.size
 replace hR:=hR.below hb
 replace hK:=hK.trans (Kp.of hb)
 replace oR:=oR.below hb
 replace oA:=oA.below hb
 clear hb oA0 oA1 oA2 oA3 oA4 oAf oAl
 obtain ⟨oA0,oA1,oA2,oA3,oA4,oAf⟩:=oA.five
 have oAl:=oA.lt
 clear hq1 hq2 hq3 hq7 hq8 hqr hqt
 cases qn with
 | false =>
  have hlb:jH E s = false:=vV hqn
  clear hk9 hb9
  obtain ⟨s1,tk,g1,g2⟩:=mD hq1m hq3m htw hlb HM.out
  rw [nM hq7m hq8m hqrm hqtm,vQ hq2m] at g1
  have HM1:=hI g1
  have HM2:=hI g2
  clear g1 g2 HM hlb oA
  go_wp2_with fail
  refine (kL HP hbs hds f hf _ r E d s t s1 hR hE HM1.out).mono ?_
  rintro en w16 ⟨t1,k1,a1,b1,n1,v1,rfl,hN1,ht1,hR2,hK2⟩
  obtain ⟨ao1,cap1,rfl⟩:=Row.shape hN1.2.2.2.2
  have q1:aZ w16 (fun g=>w15.heap.size≤g∧g < w16.heap.size) t1 k1 a1 b1 n1 (.slice ao1 t1.kids.length cap1):=hN1.q.imp fun g h1 h2=>⟨h2,h1⟩
  have HT1:=hI ht1
  clear hN1 ht1
  have hs16:=hK2.size
  replace oR:=oR.kp hK2 (by omega)
  replace hK:=hK.trans hK2
  replace hR:=hR2
  clear hK2 hR2
  go_upto_region 30 with fail
  have oX:=Own.new w16 (nQ k1 a1 b1 n1 ao1 t1 cap1) 25
  obtain ⟨hR,hK,oR,q1⟩:=(fun y9=>And.intro (hR.alloc y9) (And.intro (hK.alloc y9) (And.intro (oR.alloc y9) (q1.on fun _ _ _ h=>h.alloc y9)))) (.cells (nQ k1 a1 b1 n1 ao1 t1 cap1) 25)
  generalize w16.alloc _ = w17 at hR hK oR oX q1 ⊢
  have hs17:=oX.lt
  obtain ⟨q9,hq9⟩:=iQ (aR [59] (nxt E s1))
  have hq9m:sg [59] (nxt E s1) = q9:=by rw [← hq9]; exact (aX (hR.nxt_wf 0) (fun c r h=>by cases h; rfl)).symm
  obtain ⟨hs9,ht9⟩:=fR HM2.out hq9m
  have HS9:=hI hs9
  have HMO9:Hid (s'.wrong = 0→s1.wrong = 0):=fun h0=>(ht9 h0).1
  clear hs9 ht9 hq9m
  go_wp2_with fail
  refine (cQ hR ⟨#[59]⟩ q9 hq9).mono ?_
  rintro en w18 ⟨⟨_,rfl⟩,hR2,hK2⟩
  rw [HS9.out] at hR2
  have hs18:=hK2.size
  replace oR:=oR.kp hK2 (by omega)
  replace oX:=oX.kp hK2 (by omega)
  replace q1:=q1.on fun _ _ _ o=>o.kp hK2 (by omega)
  replace hK:=hK.trans hK2
  replace hR:=hR2
  clear hK2 hR2 hq9
  obtain ⟨oX0,oX1,oX2,oX3,oX4,oXf⟩:=oX.five
  have oXl:=oX.lt
  go_wp2_with (refine aF rfl (.tmp 2) (.tmp 99) rfl rfl (w.heap.size) rfl rfl oR ⟨rfl,rfl,rfl,rfl,rfl⟩ ?_; intro wz oz gz)
  refine aC (t:=25) rfl rfl rfl oz Tryz.underlying25 rfl (by kernel_rfl) ?_
  refine ⟨t1,_,_,_,_,_,rfl,((q1.on fun _ _ _ o=>o.grown gz (aG (by omega))).imp fun g _ h=>by omega).is,fun h0=>?_,hR.grown gz (aH (by omega)),hK.grown gz (aI (by omega))⟩
  exact HT1.out (HMO9.out h0)
 | true=>?_
 by_cases h4:(bE E s 1).1 = 4
 · have e1:(mk == 4) = true:=by rw [hk9,h4]; rfl
   have e2:(mb.toList == [58]) = ql:=by rw [hb9,← hql]; unfold sg; rw [h4]; rfl
   clear hk9 hb9 h4
   cases ql with
   | true =>
    have HM1:Hid (iD f (nxt E s).2.1 expr stmts E d (aS (aS s)) = some (t,s')):=eN0 hqn hql HM.out
    have hq58:aR [58] (nxt E (aS s)) = true:=by
     have e:nxt E (aS s) = bE E s 1:=uG E s 0
     rw [e,aX (hR.nxt_wf 1) (fun c r h=>by cases h; rfl)]
     exact hql
    clear HM hql hq1m hq2m hq3m htw hq7m hq8m hqrm hqtm
    go_wp2_with fail
    refine (jK hR true hqn).mono ?_
    rintro en w16 ⟨rfl,hR2,hK2⟩
    obtain ⟨tx,httx⟩:∃ tx:List Nat,(if true then (nxt E s).2.1 else []) = tx:=⟨_,rfl⟩
    have hst:(if true = true then bJ (nxt E s).2.1 else ⟨#[]⟩) = bJ tx:=by rw [← httx]; first | rfl | (cases hR2 <;> rfl)
    rw [hst]
    have HTtx:=hI httx
    clear hst httx
    rw [if_pos rfl] at hR2
    have hs16:=hK2.size
    replace oR:=oR.kp hK2 (by omega)
    replace oA:=oA.kp hK2 (by omega)
    replace hK:=hK.trans hK2
    replace hR:=hR2
    clear hK2 hR2
    have hlab:(nxt E s).2.1 = tx:=HTtx.out
    rw [hlab] at HM1
    clear hlab hqn e1 e2 oA oA0 oA1 oA2 oA3 oA4 oAf oAl
    go_wp2_with fail
    refine (cQ hR ⟨#[58]⟩ true hq58).mono ?_
    rintro en w17 ⟨⟨_,rfl⟩,hR2,hK2⟩
    rw [if_pos rfl] at hR2
    have hs17:=hK2.size
    replace oR:=oR.kp hK2 (by omega)
    replace hK:=hK.trans hK2
    replace hR:=hR2
    clear hK2 hR2 hq58
    go_wp2_with fail
    refine (kN HP hbs hds f hf HB hbb HA hbst _ r E d (aS (aS s)) tx t s' hR hE HM1.out).mono ?_
    rintro en w18 ⟨t1,k1,a1,b1,n1,v1,rfl,hN1,ht1,hR2,hK2⟩
    obtain ⟨ao1,cap1,rfl⟩:=Row.shape hN1.2.2.2.2
    have q1:aZ w18 (fun g=>w17.heap.size≤g∧g < w18.heap.size) t1 k1 a1 b1 n1 (.slice ao1 t1.kids.length cap1):=hN1.q.imp fun g h1 h2=>⟨h2,h1⟩
    have HT1:=hI ht1
    clear hN1 ht1
    have hs18:=hK2.size
    replace oR:=oR.kp hK2 (by omega)
    replace hK:=hK.trans hK2
    replace hR:=hR2
    clear hK2 hR2
    go_wp2_with (refine aF rfl (.tmp 2) (.tmp 94) rfl rfl (w.heap.size) rfl rfl oR ⟨rfl,rfl,rfl,rfl,rfl⟩ ?_; intro wz oz gz)
    refine aC (t:=25) rfl rfl rfl oz Tryz.underlying25 rfl (by kernel_rfl) ?_
    refine ⟨t1,_,_,_,_,_,rfl,((q1.on fun _ _ _ o=>o.grown gz (aG (by omega))).imp fun g _ h=>by omega).is,fun h0=>?_,hR.grown gz (aH (by omega)),hK.grown gz (aI (by omega))⟩
    exact HT1.out h0
   | false=>?_
   have hlb:jH E s = false:=cY0 hql
   obtain ⟨s1,tk,g1,g2⟩:=mD hq1m hq3m htw hlb HM.out
   rw [nM hq7m hq8m hqrm hqtm,vQ hq2m] at g1
   have HM1:=hI g1
   have HM2:=hI g2
   clear g1 g2 HM hlb oA
   go_wp2_with fail
   refine (kL HP hbs hds f hf _ r E d s t s1 hR hE HM1.out).mono ?_
   rintro en w16 ⟨t1,k1,a1,b1,n1,v1,rfl,hN1,ht1,hR2,hK2⟩
   obtain ⟨ao1,cap1,rfl⟩:=Row.shape hN1.2.2.2.2
   have q1:aZ w16 (fun g=>w15.heap.size≤g∧g < w16.heap.size) t1 k1 a1 b1 n1 (.slice ao1 t1.kids.length cap1):=hN1.q.imp fun g h1 h2=>⟨h2,h1⟩
   have HT1:=hI ht1
   clear hN1 ht1
   have hs16:=hK2.size
   replace oR:=oR.kp hK2 (by omega)
   replace hK:=hK.trans hK2
   replace hR:=hR2
   clear hK2 hR2
   go_upto_region 30 with fail
   have oX:=Own.new w16 (nQ k1 a1 b1 n1 ao1 t1 cap1) 25
   obtain ⟨hR,hK,oR,q1⟩:=(fun y9=>And.intro (hR.alloc y9) (And.intro (hK.alloc y9) (And.intro (oR.alloc y9) (q1.on fun _ _ _ h=>h.alloc y9)))) (.cells (nQ k1 a1 b1 n1 ao1 t1 cap1) 25)
   generalize w16.alloc _ = w17 at hR hK oR oX q1 ⊢
   have hs17:=oX.lt
   obtain ⟨q9,hq9⟩:=iQ (aR [59] (nxt E s1))
   have hq9m:sg [59] (nxt E s1) = q9:=by rw [← hq9]; exact (aX (hR.nxt_wf 0) (fun c r h=>by cases h; rfl)).symm
   obtain ⟨hs9,ht9⟩:=fR HM2.out hq9m
   have HS9:=hI hs9
   have HMO9:Hid (s'.wrong = 0→s1.wrong = 0):=fun h0=>(ht9 h0).1
   clear hs9 ht9 hq9m
   go_wp2_with fail
   refine (cQ hR ⟨#[59]⟩ q9 hq9).mono ?_
   rintro en w18 ⟨⟨_,rfl⟩,hR2,hK2⟩
   rw [HS9.out] at hR2
   have hs18:=hK2.size
   replace oR:=oR.kp hK2 (by omega)
   replace oX:=oX.kp hK2 (by omega)
   replace q1:=q1.on fun _ _ _ o=>o.kp hK2 (by omega)
   replace hK:=hK.trans hK2
   replace hR:=hR2
   clear hK2 hR2 hq9
   obtain ⟨oX0,oX1,oX2,oX3,oX4,oXf⟩:=oX.five
   have oXl:=oX.lt
   go_wp2_with (refine aF rfl (.tmp 2) (.tmp 99) rfl rfl (w.heap.size) rfl rfl oR ⟨rfl,rfl,rfl,rfl,rfl⟩ ?_; intro wz oz gz)
   refine aC (t:=25) rfl rfl rfl oz Tryz.underlying25 rfl (by kernel_rfl) ?_
   refine ⟨t1,_,_,_,_,_,rfl,((q1.on fun _ _ _ o=>o.grown gz (aG (by omega))).imp fun g _ h=>by omega).is,fun h0=>?_,hR.grown gz (aH (by omega)),hK.grown gz (aI (by omega))⟩
   exact HT1.out (HMO9.out h0)
 have e1:(mk == 4) = false:=by rw [hk9]; simp; omega
 have hql2:ql = false:=by rw [← hql]; unfold sg; simp [h4]
 have hlb:jH E s = false:=cY0 (hql.trans hql2)
 clear hk9 hb9 h4 hql2
 obtain ⟨s1,tk,g1,g2⟩:=mD hq1m hq3m htw hlb HM.out
 rw [nM hq7m hq8m hqrm hqtm,vQ hq2m] at g1
 have HM1:=hI g1
 have HM2:=hI g2
 clear g1 g2 HM hlb oA
 go_wp2_with fail
 refine (kL HP hbs hds f hf _ r E d s t s1 hR hE HM1.out).mono ?_
 rintro en w16 ⟨t1,k1,a1,b1,n1,v1,rfl,hN1,ht1,hR2,hK2⟩
 obtain ⟨ao1,cap1,rfl⟩:=Row.shape hN1.2.2.2.2
 have q1:aZ w16 (fun g=>w15.heap.size≤g∧g < w16.heap.size) t1 k1 a1 b1 n1 (.slice ao1 t1.kids.length cap1):=hN1.q.imp fun g h1 h2=>⟨h2,h1⟩
 have HT1:=hI ht1
 clear hN1 ht1
 have hs16:=hK2.size
 replace oR:=oR.kp hK2 (by omega)
 replace hK:=hK.trans hK2
 replace hR:=hR2
 clear hK2 hR2
 go_upto_region 30 with fail
 have oX:=Own.new w16 (nQ k1 a1 b1 n1 ao1 t1 cap1) 25
 obtain ⟨hR,hK,oR,q1⟩:=(fun y9=>And.intro (hR.alloc y9) (And.intro (hK.alloc y9) (And.intro (oR.alloc y9) (q1.on fun _ _ _ h=>h.alloc y9)))) (.cells (nQ k1 a1 b1 n1 ao1 t1 cap1) 25)
 generalize w16.alloc _ = w17 at hR hK oR oX q1 ⊢
 have hs17:=oX.lt
 obtain ⟨q9,hq9⟩:=iQ (aR [59] (nxt E s1))
 have hq9m:sg [59] (nxt E s1) = q9:=by rw [← hq9]; exact (aX (hR.nxt_wf 0) (fun c r h=>by cases h; rfl)).symm
 obtain ⟨hs9,ht9⟩:=fR HM2.out hq9m
 have HS9:=hI hs9
 have HMO9:Hid (s'.wrong = 0→s1.wrong = 0):=fun h0=>(ht9 h0).1
 clear hs9 ht9 hq9m
 go_wp2_with fail
 refine (cQ hR ⟨#[59]⟩ q9 hq9).mono ?_
 rintro en w18 ⟨⟨_,rfl⟩,hR2,hK2⟩
 rw [HS9.out] at hR2
 have hs18:=hK2.size
 replace oR:=oR.kp hK2 (by omega)
 replace oX:=oX.kp hK2 (by omega)
 replace q1:=q1.on fun _ _ _ o=>o.kp hK2 (by omega)
 replace hK:=hK.trans hK2
 replace hR:=hR2
 clear hK2 hR2 hq9
 obtain ⟨oX0,oX1,oX2,oX3,oX4,oXf⟩:=oX.five
 have oXl:=oX.lt
 go_wp2_with (refine aF rfl (.tmp 2) (.tmp 99) rfl rfl (w.heap.size) rfl rfl oR ⟨rfl,rfl,rfl,rfl,rfl⟩ ?_; intro wz oz gz)
 refine aC (t:=25) rfl rfl rfl oz Tryz.underlying25 rfl (by kernel_rfl) ?_
 refine ⟨t1,_,_,_,_,_,rfl,((q1.on fun _ _ _ o=>o.grown gz (aG (by omega))).imp fun g _ h=>by omega).is,fun h0=>?_,hR.grown gz (aH (by omega)),hK.grown gz (aI (by omega))⟩
 exact HT1.out (HMO9.out h0)
end Go.Proofs.YtnipenijihkgdaaGreatDoor
