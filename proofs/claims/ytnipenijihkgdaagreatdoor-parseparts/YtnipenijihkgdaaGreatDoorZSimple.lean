import Derived.Test.YtnipenijihkgdaaGreatDoorNd
import Derived.Test.YtnipenijihkgdaaGreatDoorQ36
import Derived.Test.YtnipenijihkgdaaGreatDoorQ39
import Derived.Test.YtnipenijihkgdaaGreatDoorQ33
set_option maxHeartbeats 6000000
set_option maxRecDepth 100000
namespace Go.Proofs.YtnipenijihkgdaaGreatDoor
open Go.RowKit
set_option linter.unusedVariables false
def vM0 (w:World) (r E d iR:Nat) (L:List Tree) (sL:St) (g:Nat) (vl:Value) (wr:World):Prop :=
 ∃ (acc acc':List Tree) (sl:St) (ao:Option Addr) (cap:Nat),vl = .slice ao acc'.length cap∧pB g true acc E d sl = some (L,sL)∧ZAt wr r E d sl∧Own wr iR nZ 25∧bK wr (fun g=>w.heap.size≤g) (.slice ao acc'.length cap) acc'∧(sL.wrong = 0→acc' = acc)∧Kp r w wr∧acc'.length + g≤900000000∧iR < wr.heap.size
theorem aQ1 {E d:Nat} {s s':St} {t:Tree} {q:Bool} (h:pG E d s = some (t,s')) (hq:nm (nxt E s) = q):(if q = true then aS s else bD E s) = s'∧(s'.wrong = 0→s.wrong = 0∧q = true∧t = ⟨44,((nxt E s).2.2.2.1:Nat),(nxt E s).2.1,0,[]⟩):=by
 obtain ⟨tk,s1,g1,g2⟩:=aE h
 obtain ⟨hT,rfl⟩:=aJ g2
 obtain ⟨h1,h2⟩:=fR g1 hq
 refine ⟨h1,fun h0=>?_⟩
 obtain ⟨e1,e2,e3⟩:=h2 h0
 exact ⟨e1,e2,by rw [← hT,e3]⟩
theorem rM {expr:P Tree} (hbs:Bs expr 0) (l:List Tree):Bs (kR0 l expr) 0:=fun E d s=>aT ((eS fun t=>cJ).le (Nat.zero_le 1)) (fun t s1 _=>aT (hbs E d s1) (fun x s2 _=>bN) (c:=0) (by omega)) (by omega)
theorem kL {expr:P Tree} (HP:cY 40 expr) (hbs:Bs expr 0) (hds:Ds expr) (f:Nat) (hf:f≤100000000):cY 180 (eV f expr):=by
 intro w r E d s t s' hR hE hm
 have hrl:=hR.lt
 have hK:=Kp.refl r w
 have HM:=hI hm
 have HI:=hI hR.iv
 clear hm
 go_enter Tryz.func180,Tryz.ntmps180
 go_upto_region 1 with fail
 have oR:=Own.new w nZ 25
 replace hR:=hR.alloc (.cells nZ 25)
 replace hK:=hK.alloc (.cells nZ 25)
 generalize w.alloc _ = w1 at hR hK oR ⊢
 have hs1:=oR.lt
 have hKR:=hK
 replace hK:=Kp.refl r w1
 have oR1:=oR
 have hrl1:r < w1.heap.size:=by omega
 go_wp2_with fail
 refine (bU hR).mono ?_
 rintro en w2 ⟨⟨x,rfl,hx⟩,hb⟩
 have HX:=hI hx
 clear hx
 have hs2:=hb.size
 replace hR:=hR.below hb
 replace hK:=hK.trans (Kp.of hb)
 replace oR:=oR.below hb
 clear hb
 obtain ⟨qp,hqp⟩:=iQ (aR [112,117,115,104] (nxt E s))
 have hqpm:wd [112,117,115,104] (nxt E s) = qp:=by rw [← hqp]; exact (cG (hR.nxt_wf 0) (by decide)).symm
 go_wp2_with fail
 refine (bG hR ⟨#[112,117,115,104]⟩ qp hqp).mono ?_
 rintro en w3 ⟨rfl,hb⟩
 have hs3:=hb.size
 replace hR:=hR.below hb
 replace hK:=hK.trans (Kp.of hb)
 replace oR:=oR.below hb
 clear hb
 cases qp with
 | true =>
  obtain ⟨n,hw,hT⟩:=bQ0 hqpm HM.out
  have hlv:=bR hqpm
  have HWP:=hI hw
  have HT':=hI hT
  have HMO:Hid (s'.wrong = 0→s.wrong = 0):=bP ((oE hbs 54 2).le (Nat.zero_le 1)) hw
  clear hw hT HM hqp hqpm
  go_wp2_with fail
  refine (kE HP hbs 54 (by decide) 2 (by decide) _ r E d s n s' hR hlv hE HWP.out).mono ?_
  rintro en w4 ⟨t1,k1,a1,b1,n1,v1,rfl,hN1,ht1,hR2,hK2⟩
  obtain ⟨ao1,cap1,rfl⟩:=Row.shape hN1.2.2.2.2
  have q1:aZ w4 (fun g=>w3.heap.size≤g∧g < w4.heap.size) t1 k1 a1 b1 n1 (.slice ao1 t1.kids.length cap1):=hN1.q.imp fun g h1 h2=>⟨h2,h1⟩
  have HT1:=hI ht1
  clear hN1 ht1
  have hs4:=hK2.size
  replace oR:=oR.kp hK2 (by omega)
  replace hK:=hK.trans hK2
  replace hR:=hR2
  clear hK2 hR2
  go_upto_region 4 with fail
  have oX:=Own.new w4 (nQ k1 a1 b1 n1 ao1 t1 cap1) 25
  obtain ⟨hR,hK,oR,q1⟩:=(fun y9=>And.intro (hR.alloc y9) (And.intro (hK.alloc y9) (And.intro (oR.alloc y9) (q1.on fun _ _ _ h=>h.alloc y9)))) (.cells (nQ k1 a1 b1 n1 ao1 t1 cap1) 25)
  generalize w4.alloc _ = w5 at hR hK oR oX q1 ⊢
  have hs5:=oX.lt
  obtain ⟨oX0,oX1,oX2,oX3,oX4,oXf⟩:=oX.five
  have oXl:=oX.lt
  have qk:=bK.one  (q1.imp (Q':=fun g=>w1.heap.size≤g) fun g h1 h2=>by omega) (show w1.heap.size≤w5.heap.size from by omega)
  clear q1
  obtain ⟨hR,hK,oR,oX⟩:=(fun y9=>And.intro (hR.alloc y9) (And.intro (hK.alloc y9) (And.intro (oR.alloc y9) (oX.alloc y9)))) (.cells (nQ k1 a1 b1 n1 ao1 t1 cap1) 25)
  have hsx:w5.heap.size < (w5.alloc (.cells (nQ k1 a1 b1 n1 ao1 t1 cap1) 25)).heap.size:=by rw [World.size_alloc]; omega
  go_wp2_with fail
  refine (dE _ _ _ _).mono ?_
  rintro en wz ⟨rfl,rfl⟩
  generalize w5.alloc _ = w6 at hsx hR hK oR oX qk ⊢
  have hs6:=hsx
  clear hsx
  go_wp2_with (refine aF rfl (.tmp 2) (.tmp 20) rfl rfl (w.heap.size) rfl rfl oR ⟨rfl,rfl,rfl,rfl,rfl⟩ ?_; intro wz oz gz)
  refine aC (t:=25) rfl rfl rfl oz Tryz.underlying25 rfl (by kernel_rfl) ?_
  refine ⟨⟨13,(x:Int),[],0,[t1]⟩,_,_,_,_,_,rfl,⟨rfl,rfl,rfl,rfl,bK.row ((qk.on fun _ _ _ o=>o.grown gz (aG (by omega))).imp fun g _ h=>by omega)⟩,fun h0=>?_,hR.grown gz (aH (by omega)),(hKR.trans hK).grown gz (aI (by omega))⟩
  rw [HT'.out,HX.out (HMO.out h0),HT1.out h0]
 | false=>?_
 obtain ⟨q,hq⟩:=iQ (nm (nxt E s))
 go_wp2_with fail
 refine (lC hR q hq).mono ?_
 rintro en w4 ⟨rfl,hb⟩
 have hs4:=hb.size
 replace hR:=hR.below hb
 replace hK:=hK.trans (Kp.of hb)
 replace oR:=oR.below hb
 clear hb
 cases q with
 | false =>
  have HS:Hid (s' = bD E s):=xQ hds HI.out hqpm hq HM.out
  clear HM hq hqpm hqp
  go_wp2_with fail
  refine (fI hR 40 40 rfl (by decide)).mono ?_
  rintro en w5 ⟨⟨_,rfl⟩,hR2,hK2⟩
  replace hR2:ZAt w5 r E d s':=by rw [HS.out]; exact hR2
  have hs5:=hK2.size
  replace oR:=oR.kp hK2 (by omega)
  replace hK:=hK.trans hK2
  replace hR:=hR2
  clear hK2 hR2
  go_wp2_with (refine aF rfl (.tmp 2) (.tmp 26) rfl rfl (w.heap.size) rfl rfl oR ⟨rfl,rfl,rfl,rfl,rfl⟩ ?_; intro wz oz gz)
  refine aC (t:=25) rfl rfl rfl oz Tryz.underlying25 rfl (by kernel_rfl) ?_
  refine ⟨noN,_,_,_,_,_,rfl,⟨rfl,rfl,rfl,rfl,Row.nil _ _⟩,fun h0=>?_,hR.grown gz (aH (by omega)),(hKR.trans hK).grown gz (aI (by omega))⟩
  rw [HS.out] at h0
  exact absurd h0 bS
 | true=>?_
 obtain ⟨n,s1,hcn,hrest⟩:=jH0 hqpm hq HM.out
 have HCN:=hI hcn
 have HRE:Hid ((sg [46] (nxt E s1) = false∧sg [91] (nxt E s1) = false∧((n.kind = 45∧t = doP n∧s' = s1)∨(n.kind = 44∧∃ l s4,pB f true [n] E d s1 = some (l,s4)∧kR0 l expr E d s4 = some (t,s')))) ∨
      ((sg [46] (nxt E s1) = true∨sg [91] (nxt E s1) = true)∧∃ n2 s3,eH expr f n E d s1 = some (n2,s3)∧kR0 [n2] expr E d s3 = some (t,s'))):=hrest
 have HW0:Hid (s.wrong = 0):=hR.live (eN hq)
 have HQ:=hI hq
 clear hcn hrest HM hqpm hqp hq
 obtain ⟨q4,hq4⟩:=iQ (sg [40] (bE E s 1))
 go_wp2_with fail
 refine (fP hR 1 1 rfl (by omega)).mono ?_
 rintro en w5 ⟨⟨mk,mb,mn,ma,me,rfl,hm⟩,hb⟩
 have hs5:=hb.size
 replace hR:=hR.below hb
 replace hK:=hK.trans (Kp.of hb)
 replace oR:=oR.below hb
 clear hb
 go_upto_region 9 with fail
 have oA:=Own.new w5 #[.int .u8 mk,.string mb,.int .u64 mn,.int .i64 ma,.int .i64 me] 65
 obtain ⟨hR,hK,oR⟩:=(fun y9=>And.intro (hR.alloc y9) (And.intro (hK.alloc y9) (oR.alloc y9))) (.cells #[.int .u8 mk,.string mb,.int .u64 mn,.int .i64 ma,.int .i64 me] 65)
 generalize w5.alloc _ = w6 at hR hK oR oA ⊢
 have hs6:=oA.lt
 have hk9:mk = ((bE E s 1).1:Int):=hm.1
 have h0:(mb.toList == (⟨#[40]⟩:ByteArray).toList) = ((bE E s 1).2.1 == [40]):=by rw [hm.2.1]; exact kQ _ (hR.nxt_wf 1).1.1.1 ⟨#[40]⟩
 have hb9:(mb.toList == [40]) = ((bE E s 1).2.1 == [40]):=by rw [← h0,ByteArray.toList_eq (bs:=⟨#[40]⟩)]
 clear h0
 obtain ⟨oA0,oA1,oA2,oA3,oA4,oAf⟩:=oA.five
 have oAl:=oA.lt
 go_upto_region 9 with fail
 go_cut [36] (fun v wx=>v = .bool q4∧w6 = wx)
 case first =>
  by_cases h4:(bE E s 1).1 = 4
  · have e1:(mk == 4) = true:=by rw [hk9,h4]; rfl
    have e2:(mb.toList == [40]) = q4:=by rw [hb9,← hq4]; unfold sg; rw [h4]; rfl
    clear hk9 hb9 h4 hq4 hm
    go_wp2_with fail
    go_meet
    exact ⟨rfl,rfl⟩
  have e1:(mk == 4) = false:=by rw [hk9]; simp; omega
  obtain rfl:q4 = false:=by rw [← hq4]; unfold sg; simp [h4]
  clear hk9 hb9 h4
  go_wp2_with fail
  go_meet
  exact ⟨rfl,rfl⟩
 obtain ⟨rfl,rfl⟩:=hcut
 clear hk9 hb9 oA0 oA1 oA2 oA3 oA4 oAf oAl oA hm
 cases q4 with
 | true =>
  obtain ⟨_,hc1,hc2,hc3⟩:=HCN.out.resolve_right fun h=>by rw [hq4] at h; exact absurd h.1 (by simp)
  have HC1:=hI hc1
  have HC2:Hid (n.kind = 45∧n.at_ = ((nxt E s).2.2.2.1:Nat)):=⟨hc2,hc3⟩
  clear hc1 hc2 hc3 HCN hq4
  go_wp2_with fail
  refine (vI HP hbs f hf _ r E d s n s1 hR hE HC1.out).mono ?_
  rintro en w7 ⟨t1,k1,a1,b1,n1,v1,rfl,hN1,ht1,hR2,hK2⟩
  obtain ⟨ao1,cap1,rfl⟩:=Row.shape hN1.2.2.2.2
  have q1:aZ w7 (fun g=>w6.heap.size≤g∧g < w7.heap.size) t1 k1 a1 b1 n1 (.slice ao1 t1.kids.length cap1):=hN1.q.imp fun g h1 h2=>⟨h2,h1⟩
  have HT1:=hI ht1
  clear hN1 ht1
  have hs7:=hK2.size
  replace oR:=oR.kp hK2 (by omega)
  replace hK:=hK.trans hK2
  replace hR:=hR2
  clear hK2 hR2
  go_upto_region 11 with fail
  have oX:=Own.new w7 (nQ k1 a1 b1 n1 ao1 t1 cap1) 25
  obtain ⟨hR,hK,oR,q1⟩:=(fun y9=>And.intro (hR.alloc y9) (And.intro (hK.alloc y9) (And.intro (oR.alloc y9) (q1.on fun _ _ _ h=>h.alloc y9)))) (.cells (nQ k1 a1 b1 n1 ao1 t1 cap1) 25)
  generalize w7.alloc _ = w8 at hR hK oR oX q1 ⊢
  have hs8:=oX.lt
  obtain ⟨qa,hqa⟩:=iQ (aR [46] (nxt E s1))
  have hqam:sg [46] (nxt E s1) = qa:=by rw [← hqa]; exact (aX (hR.nxt_wf 0) (fun c r h=>by cases h; rfl)).symm
  go_wp2_with fail
  refine (bG hR ⟨#[46]⟩ qa hqa).mono ?_
  rintro en w9 ⟨rfl,hb⟩
  have hs9:=hb.size
  replace hR:=hR.below hb
  replace hK:=hK.trans (Kp.of hb)
  replace oR:=oR.below hb
  replace oX:=oX.below hb
  replace q1:=q1.on fun _ _ _ o=>o.below hb
  clear hb
  cases qa with
  | true =>
   clear hqa
   obtain ⟨_,n2,s3,hc1,hc2⟩:=HRE.out.resolve_left fun h=>by rw [hqam] at h; exact absurd h.1 (by simp)
   have HTL:=hI hc1
   have HSM:=hI hc2
   have HMT:Hid (s3.wrong = 0→s1.wrong = 0):=bP (iY hbs f n) hc1
   have HMS:Hid (s'.wrong = 0→s3.wrong = 0):=bP (rM hbs [n2]) hc2
   have HNI:Hid (s3.wrong = 0→t1 = n):=fun h0=>HT1.out (HMT.out h0)
   clear hc1 hc2
   obtain ⟨oX0,oX1,oX2,oX3,oX4,oXf⟩:=oX.five
   have oXl:=oX.lt
   go_wp2_with fail
   refine (lJ HP hbs f w9 r E d s1 n t1 n2 s3 (w6.heap.size) (w7.heap.size) (w7.heap.size + 1) _ _ _ _ _ hR hE (by omega) (by omega) (by omega) (q1.imp fun g h1 h2=>⟨by omega,by omega⟩) HNI.out HTL.out).mono ?_
   rintro en w10 ⟨t2,k2,a2,b2,n2x,v2,rfl,hN1,ht1,hR2,hK2⟩
   obtain ⟨ao2,cap2,rfl⟩:=hN1.shape
   have HT2:=hI ht1
   clear ht1 oX0 oX1 oX2 oX3 oX4 oXf oXl q1
   have hs10:=hK2.size
   replace oR:=oR.kp hK2 (by omega)
   replace oX:=oX.kp hK2 (by omega)
   replace hK:=hK.trans hK2
   replace hR:=hR2
   clear hK2 hR2
   have q2:=hN1
   clear hN1
   go_wp2_with (refine aF rfl (.tmp 6) (.tmp 54) rfl rfl (w7.heap.size) rfl rfl oX ⟨rfl,rfl,rfl,rfl,rfl⟩ ?_; intro w11 oV gzV; obtain ⟨oV0,oV1,oV2,oV3,oV4,oVf⟩:=oV.five; have oVl:=oV.lt)
   have hs11:=gzV.size
   replace hR:=hR.grown gzV (aH (by omega))
   replace hK:=hK.grown gzV (aI (by omega))
   replace oR:=oR.grown gzV (aG (by omega))
   replace q2:=q2.on fun _ _ _ o=>o.grown gzV (aG (by omega))
   clear oX oV gzV oV0 oV1 oV2 oV3 oV4 oVf oVl
   have qk:=bK.one (q2.imp (Q':=fun g=>w1.heap.size≤g) fun g h1 h2=>by omega) (show w1.heap.size≤w11.heap.size from by omega)
   clear q2
   obtain ⟨hR,hK⟩:=(fun y9=>And.intro (hR.alloc y9) (hK.alloc y9)) (.cells (nQ k2 a2 b2 n2x ao2 t2 cap2) 25)
   have hsx:w11.heap.size < (w11.alloc (.cells (nQ k2 a2 b2 n2x ao2 t2 cap2) 25)).heap.size:=by rw [World.size_alloc]; omega
   refine (dE _ _ _ _).mono ?_
   rintro en wz ⟨rfl,rfl⟩
   generalize w11.alloc _ = w12 at hsx hR hK qk ⊢
   have hs12:=hsx
   clear hsx
   go_wp2_with fail
   refine (mY HP hbs w1 w12 r E d s3 [n2] [t2] _ t s' hrl1 hK hR hE (qk.imp fun g _ h=>by omega) (fun h0=>by rw [HT2.out (HMS.out h0)]) (by simp) HSM.out).mono ?_
   rintro en w13 ⟨t3,k3,a3,b3,n3,v3,rfl,hN1,ht1,hR2,hK2⟩
   obtain ⟨ao3,cap3,rfl⟩:=Row.shape hN1.2.2.2.2
   replace oR:=oR1.kp hK2 (by omega)
   have hs13:=hK2.size
   have q3:=hN1.q
   replace hR:=hR2
   replace hK:=hK2
   clear hN1 hR2 hK2
   go_wp2_with (refine aF rfl (.tmp 2) (.tmp 59) rfl rfl (w.heap.size) rfl rfl oR ⟨rfl,rfl,rfl,rfl,rfl⟩ ?_; intro wz oz gz)
   refine aC (t:=25) rfl rfl rfl oz Tryz.underlying25 rfl (by kernel_rfl) ?_
   refine ⟨t3,_,_,_,_,_,rfl,((q3.on fun _ _ _ o=>o.grown gz (aG (by omega))).imp fun g _ h=>by omega).is,fun h0=>?_,hR.grown gz (aH (by omega)),(hKR.trans hK).grown gz (aI (by omega))⟩
   exact ht1 h0
  | false=>?_
  obtain ⟨qb,hqb⟩:=iQ (aR [91] (nxt E s1))
  have hqbm:sg [91] (nxt E s1) = qb:=by rw [← hqb]; exact (aX (hR.nxt_wf 0) (fun c r h=>by cases h; rfl)).symm
  go_wp2_with fail
  refine (bG hR ⟨#[91]⟩ qb hqb).mono ?_
  rintro en w10 ⟨rfl,hb⟩
  have hs10:=hb.size
  replace hR:=hR.below hb
  replace hK:=hK.trans (Kp.of hb)
  replace oR:=oR.below hb
  replace oX:=oX.below hb
  replace q1:=q1.on fun _ _ _ o=>o.below hb
  clear hb
  cases qb with
  | true =>
   clear hqa hqb
   obtain ⟨_,n2,s3,hc1,hc2⟩:=HRE.out.resolve_left fun h=>by rw [hqbm] at h; exact absurd h.2.1 (by simp)
   have HTL:=hI hc1
   have HSM:=hI hc2
   have HMT:Hid (s3.wrong = 0→s1.wrong = 0):=bP (iY hbs f n) hc1
   have HMS:Hid (s'.wrong = 0→s3.wrong = 0):=bP (rM hbs [n2]) hc2
   have HNI:Hid (s3.wrong = 0→t1 = n):=fun h0=>HT1.out (HMT.out h0)
   clear hc1 hc2
   obtain ⟨oX0,oX1,oX2,oX3,oX4,oXf⟩:=oX.five
   have oXl:=oX.lt
   go_wp2_with fail
   refine (lJ HP hbs f w10 r E d s1 n t1 n2 s3 (w6.heap.size) (w7.heap.size) (w7.heap.size + 1) _ _ _ _ _ hR hE (by omega) (by omega) (by omega) (q1.imp fun g h1 h2=>⟨by omega,by omega⟩) HNI.out HTL.out).mono ?_
   rintro en w11 ⟨t2,k2,a2,b2,n2x,v2,rfl,hN1,ht1,hR2,hK2⟩
   obtain ⟨ao2,cap2,rfl⟩:=hN1.shape
   have HT2:=hI ht1
   clear ht1 oX0 oX1 oX2 oX3 oX4 oXf oXl q1
   have hs11:=hK2.size
   replace oR:=oR.kp hK2 (by omega)
   replace oX:=oX.kp hK2 (by omega)
   replace hK:=hK.trans hK2
   replace hR:=hR2
   clear hK2 hR2
   have q2:=hN1
   clear hN1
   go_wp2_with (refine aF rfl (.tmp 6) (.tmp 54) rfl rfl (w7.heap.size) rfl rfl oX ⟨rfl,rfl,rfl,rfl,rfl⟩ ?_; intro w12 oV gzV; obtain ⟨oV0,oV1,oV2,oV3,oV4,oVf⟩:=oV.five; have oVl:=oV.lt)
   have hs12:=gzV.size
   replace hR:=hR.grown gzV (aH (by omega))
   replace hK:=hK.grown gzV (aI (by omega))
   replace oR:=oR.grown gzV (aG (by omega))
   replace q2:=q2.on fun _ _ _ o=>o.grown gzV (aG (by omega))
   clear oX oV gzV oV0 oV1 oV2 oV3 oV4 oVf oVl
   have qk:=bK.one (q2.imp (Q':=fun g=>w1.heap.size≤g) fun g h1 h2=>by omega) (show w1.heap.size≤w12.heap.size from by omega)
   clear q2
   obtain ⟨hR,hK⟩:=(fun y9=>And.intro (hR.alloc y9) (hK.alloc y9)) (.cells (nQ k2 a2 b2 n2x ao2 t2 cap2) 25)
   have hsx:w12.heap.size < (w12.alloc (.cells (nQ k2 a2 b2 n2x ao2 t2 cap2) 25)).heap.size:=by rw [World.size_alloc]; omega
   refine (dE _ _ _ _).mono ?_
   rintro en wz ⟨rfl,rfl⟩
   generalize w12.alloc _ = w13 at hsx hR hK qk ⊢
   have hs13:=hsx
   clear hsx
   go_wp2_with fail
   refine (mY HP hbs w1 w13 r E d s3 [n2] [t2] _ t s' hrl1 hK hR hE (qk.imp fun g _ h=>by omega) (fun h0=>by rw [HT2.out (HMS.out h0)]) (by simp) HSM.out).mono ?_
   rintro en w14 ⟨t3,k3,a3,b3,n3,v3,rfl,hN1,ht1,hR2,hK2⟩
   obtain ⟨ao3,cap3,rfl⟩:=Row.shape hN1.2.2.2.2
   replace oR:=oR1.kp hK2 (by omega)
   have hs14:=hK2.size
   have q3:=hN1.q
   replace hR:=hR2
   replace hK:=hK2
   clear hN1 hR2 hK2
   go_wp2_with (refine aF rfl (.tmp 2) (.tmp 59) rfl rfl (w.heap.size) rfl rfl oR ⟨rfl,rfl,rfl,rfl,rfl⟩ ?_; intro wz oz gz)
   refine aC (t:=25) rfl rfl rfl oz Tryz.underlying25 rfl (by kernel_rfl) ?_
   refine ⟨t3,_,_,_,_,_,rfl,((q3.on fun _ _ _ o=>o.grown gz (aG (by omega))).imp fun g _ h=>by omega).is,fun h0=>?_,hR.grown gz (aH (by omega)),(hKR.trans hK).grown gz (aI (by omega))⟩
   exact ht1 h0
  | false=>?_
  obtain ⟨_,_,hc⟩:=HRE.out.resolve_right fun h=>by rw [hqam,hqbm] at h; exact absurd h.1 (by simp)
  obtain ⟨_,hT,hS⟩:=hc.resolve_right fun h=>by have:=h.1; have:=HC2.out.1; omega
  have HT':=hI hT
  have HS':=hI hS
  clear hc hT hS hqa hqb hqam hqbm HRE
  obtain ⟨oX0,oX1,oX2,oX3,oX4,oXf⟩:=oX.five
  have oXl:=oX.lt
  have qk:=bK.one  (q1.imp (Q':=fun g=>w1.heap.size≤g) fun g h1 h2=>by omega) (show w1.heap.size≤w10.heap.size from by omega)
  clear q1
  obtain ⟨hR,hK,oR,oX⟩:=(fun y9=>And.intro (hR.alloc y9) (And.intro (hK.alloc y9) (And.intro (oR.alloc y9) (oX.alloc y9)))) (.cells (nQ k1 a1 b1 n1 ao1 t1 cap1) 25)
  have hsx:w10.heap.size < (w10.alloc (.cells (nQ k1 a1 b1 n1 ao1 t1 cap1) 25)).heap.size:=by rw [World.size_alloc]; omega
  go_wp2_with fail
  refine (dE _ _ _ _).mono ?_
  rintro en wz ⟨rfl,rfl⟩
  generalize w10.alloc _ = w11 at hsx hR hK oR oX qk ⊢
  have hs11:=hsx
  clear hsx
  replace hR:ZAt w11 r E d s':=by rw [HS'.out]; exact hR
  go_wp2_with (refine aF rfl (.tmp 2) (.tmp 51) rfl rfl (w.heap.size) rfl rfl oR ⟨rfl,rfl,rfl,rfl,rfl⟩ ?_; intro wz oz gz)
  refine aC (t:=25) rfl rfl rfl oz Tryz.underlying25 rfl (by kernel_rfl) ?_
  refine ⟨⟨13,(x:Int),[],0,[t1]⟩,_,_,_,_,_,rfl,⟨rfl,rfl,rfl,rfl,bK.row ((qk.on fun _ _ _ o=>o.grown gz (aG (by omega))).imp fun g _ h=>by omega)⟩,fun h0=>?_,hR.grown gz (aH (by omega)),(hKR.trans hK).grown gz (aI (by omega))⟩
  rw [HS'.out] at h0
  rw [HT'.out]
  unfold doP
  rw [HC2.out.2,HX.out HW0.out,HT1.out h0]
 | false=>?_
 obtain ⟨_,hc1,hc2⟩:=HCN.out.resolve_left fun h=>by rw [hq4] at h; exact absurd h.1 (by simp)
 have HC1:=hI hc1
 have HC2:=hI hc2
 have hq:nm (nxt E s) = true:=HQ.out
 clear hc1 hc2 HCN hq4
 go_wp2_with fail
 refine (jK hR true hq).mono ?_
 rintro en w7 ⟨rfl,hR2,hK2⟩
 obtain ⟨tx,httx⟩:∃ tx:List Nat,(if true then (nxt E s).2.1 else []) = tx:=⟨_,rfl⟩
 have hst:(if true = true then bJ (nxt E s).2.1 else ⟨#[]⟩) = bJ tx:=by rw [← httx]; first | rfl | (cases hR2 <;> rfl)
 rw [hst]
 have HTtx:=hI httx
 clear hst httx
 rw [if_pos rfl,← HC2.out] at hR2
 have hs7:=hK2.size
 replace oR:=oR.kp hK2 (by omega)
 replace hK:=hK.trans hK2
 replace hR:=hR2
 clear hK2 hR2 hq
 obtain ⟨t4,ht4⟩:∃ t4:Tree,⟨44,(x:Int),tx,0,[]⟩ = t4:=⟨_,rfl⟩
 have HT4:Hid (t4 = n):=by unfold Hid; rw [← ht4,HC1.out,HX.out HW0.out,← HTtx.out]; rfl
 have q4:aZ w7 (fun g=>w1.heap.size≤g∧g < w1.heap.size) t4 44 (x:Int) (bJ tx) 0 (.slice none t4.kids.length 0):=by rw [← ht4]; exact aZ.leaf _ _ 44 _ _ 0
 have hk4:t4.kids.length = 0:=by rw [← ht4]; rfl
 go_upto_region 17 with fail
 have oX:=Own.new w7 (nL 44 (x:Int) (bJ tx) 0) 25
 obtain ⟨hR,hK,oR,q4⟩:=(fun y9=>And.intro (hR.alloc y9) (And.intro (hK.alloc y9) (And.intro (oR.alloc y9) (q4.on fun _ _ _ h=>h.alloc y9)))) (.cells (nL 44 (x:Int) (bJ tx) 0) 25)
 generalize w7.alloc _ = w8 at hR hK oR oX q4 ⊢
 have hs8:=oX.lt
 rw [hk4] at q4
 clear ht4
 obtain ⟨qa,hqa⟩:=iQ (aR [46] (nxt E s1))
 have hqam:sg [46] (nxt E s1) = qa:=by rw [← hqa]; exact (aX (hR.nxt_wf 0) (fun c r h=>by cases h; rfl)).symm
 go_wp2_with fail
 refine (bG hR ⟨#[46]⟩ qa hqa).mono ?_
 rintro en w9 ⟨rfl,hb⟩
 have hs9:=hb.size
 replace hR:=hR.below hb
 replace hK:=hK.trans (Kp.of hb)
 replace oR:=oR.below hb
 replace oX:=oX.below hb
 replace q4:=q4.on fun _ _ _ o=>o.below hb
 clear hb
 cases qa with
 | true =>
  clear hqa
  obtain ⟨_,n2,s3,hc1,hc2⟩:=HRE.out.resolve_left fun h=>by rw [hqam] at h; exact absurd h.1 (by simp)
  have HTL:=hI hc1
  have HSM:=hI hc2
  have HMT:Hid (s3.wrong = 0→s1.wrong = 0):=bP (iY hbs f n) hc1
  have HMS:Hid (s'.wrong = 0→s3.wrong = 0):=bP (rM hbs [n2]) hc2
  have HNI:Hid (s3.wrong = 0→t4 = n):=fun h0=>HT4.out
  clear hc1 hc2
  obtain ⟨oX0,oX1,oX2,oX3,oX4,oXf⟩:=oX.five
  have oXl:=oX.lt
  go_wp2_with fail
  refine (lJ HP hbs f w9 r E d s1 n t4 n2 s3 (w1.heap.size) (w7.heap.size) (w7.heap.size + 1) _ _ _ _ _ hR hE (by omega) (by omega) (by omega) (q4.imp fun g h1 h2=>⟨by omega,by omega⟩) HNI.out HTL.out).mono ?_
  rintro en w10 ⟨t2,k2,a2,b2,n2x,v2,rfl,hN1,ht1,hR2,hK2⟩
  obtain ⟨ao2,cap2,rfl⟩:=hN1.shape
  have HT2:=hI ht1
  clear ht1 oX0 oX1 oX2 oX3 oX4 oXf oXl q4
  have hs10:=hK2.size
  replace oR:=oR.kp hK2 (by omega)
  replace oX:=oX.kp hK2 (by omega)
  replace hK:=hK.trans hK2
  replace hR:=hR2
  clear hK2 hR2
  have q2:=hN1
  clear hN1
  go_wp2_with (refine aF rfl (.tmp 8) (.tmp 73) rfl rfl (w7.heap.size) rfl rfl oX ⟨rfl,rfl,rfl,rfl,rfl⟩ ?_; intro w11 oV gzV; obtain ⟨oV0,oV1,oV2,oV3,oV4,oVf⟩:=oV.five; have oVl:=oV.lt)
  have hs11:=gzV.size
  replace hR:=hR.grown gzV (aH (by omega))
  replace hK:=hK.grown gzV (aI (by omega))
  replace oR:=oR.grown gzV (aG (by omega))
  replace q2:=q2.on fun _ _ _ o=>o.grown gzV (aG (by omega))
  clear oX oV gzV oV0 oV1 oV2 oV3 oV4 oVf oVl
  have qk:=bK.one (q2.imp (Q':=fun g=>w1.heap.size≤g) fun g h1 h2=>by omega) (show w1.heap.size≤w11.heap.size from by omega)
  clear q2
  obtain ⟨hR,hK⟩:=(fun y9=>And.intro (hR.alloc y9) (hK.alloc y9)) (.cells (nQ k2 a2 b2 n2x ao2 t2 cap2) 25)
  have hsx:w11.heap.size < (w11.alloc (.cells (nQ k2 a2 b2 n2x ao2 t2 cap2) 25)).heap.size:=by rw [World.size_alloc]; omega
  refine (dE _ _ _ _).mono ?_
  rintro en wz ⟨rfl,rfl⟩
  generalize w11.alloc _ = w12 at hsx hR hK qk ⊢
  have hs12:=hsx
  clear hsx
  go_wp2_with fail
  refine (mY HP hbs w1 w12 r E d s3 [n2] [t2] _ t s' hrl1 hK hR hE (qk.imp fun g _ h=>by omega) (fun h0=>by rw [HT2.out (HMS.out h0)]) (by simp) HSM.out).mono ?_
  rintro en w13 ⟨t3,k3,a3,b3,n3,v3,rfl,hN1,ht1,hR2,hK2⟩
  obtain ⟨ao3,cap3,rfl⟩:=Row.shape hN1.2.2.2.2
  replace oR:=oR1.kp hK2 (by omega)
  have hs13:=hK2.size
  have q3:=hN1.q
  replace hR:=hR2
  replace hK:=hK2
  clear hN1 hR2 hK2
  go_wp2_with (refine aF rfl (.tmp 2) (.tmp 78) rfl rfl (w.heap.size) rfl rfl oR ⟨rfl,rfl,rfl,rfl,rfl⟩ ?_; intro wz oz gz)
  refine aC (t:=25) rfl rfl rfl oz Tryz.underlying25 rfl (by kernel_rfl) ?_
  refine ⟨t3,_,_,_,_,_,rfl,((q3.on fun _ _ _ o=>o.grown gz (aG (by omega))).imp fun g _ h=>by omega).is,fun h0=>?_,hR.grown gz (aH (by omega)),(hKR.trans hK).grown gz (aI (by omega))⟩
  exact ht1 h0
 | false=>?_
 obtain ⟨qb,hqb⟩:=iQ (aR [91] (nxt E s1))
 have hqbm:sg [91] (nxt E s1) = qb:=by rw [← hqb]; exact (aX (hR.nxt_wf 0) (fun c r h=>by cases h; rfl)).symm
 go_wp2_with fail
 refine (bG hR ⟨#[91]⟩ qb hqb).mono ?_
 rintro en w10 ⟨rfl,hb⟩
 have hs10:=hb.size
 replace hR:=hR.below hb
 replace hK:=hK.trans (Kp.of hb)
 replace oR:=oR.below hb
 replace oX:=oX.below hb
 replace q4:=q4.on fun _ _ _ o=>o.below hb
 clear hb
 cases qb with
 | true =>
  clear hqa hqb
  obtain ⟨_,n2,s3,hc1,hc2⟩:=HRE.out.resolve_left fun h=>by rw [hqbm] at h; exact absurd h.2.1 (by simp)
  have HTL:=hI hc1
  have HSM:=hI hc2
  have HMT:Hid (s3.wrong = 0→s1.wrong = 0):=bP (iY hbs f n) hc1
  have HMS:Hid (s'.wrong = 0→s3.wrong = 0):=bP (rM hbs [n2]) hc2
  have HNI:Hid (s3.wrong = 0→t4 = n):=fun h0=>HT4.out
  clear hc1 hc2
  obtain ⟨oX0,oX1,oX2,oX3,oX4,oXf⟩:=oX.five
  have oXl:=oX.lt
  go_wp2_with fail
  refine (lJ HP hbs f w10 r E d s1 n t4 n2 s3 (w1.heap.size) (w7.heap.size) (w7.heap.size + 1) _ _ _ _ _ hR hE (by omega) (by omega) (by omega) (q4.imp fun g h1 h2=>⟨by omega,by omega⟩) HNI.out HTL.out).mono ?_
  rintro en w11 ⟨t2,k2,a2,b2,n2x,v2,rfl,hN1,ht1,hR2,hK2⟩
  obtain ⟨ao2,cap2,rfl⟩:=hN1.shape
  have HT2:=hI ht1
  clear ht1 oX0 oX1 oX2 oX3 oX4 oXf oXl q4
  have hs11:=hK2.size
  replace oR:=oR.kp hK2 (by omega)
  replace oX:=oX.kp hK2 (by omega)
  replace hK:=hK.trans hK2
  replace hR:=hR2
  clear hK2 hR2
  have q2:=hN1
  clear hN1
  go_wp2_with (refine aF rfl (.tmp 8) (.tmp 73) rfl rfl (w7.heap.size) rfl rfl oX ⟨rfl,rfl,rfl,rfl,rfl⟩ ?_; intro w12 oV gzV; obtain ⟨oV0,oV1,oV2,oV3,oV4,oVf⟩:=oV.five; have oVl:=oV.lt)
  have hs12:=gzV.size
  replace hR:=hR.grown gzV (aH (by omega))
  replace hK:=hK.grown gzV (aI (by omega))
  replace oR:=oR.grown gzV (aG (by omega))
  replace q2:=q2.on fun _ _ _ o=>o.grown gzV (aG (by omega))
  clear oX oV gzV oV0 oV1 oV2 oV3 oV4 oVf oVl
  have qk:=bK.one (q2.imp (Q':=fun g=>w1.heap.size≤g) fun g h1 h2=>by omega) (show w1.heap.size≤w12.heap.size from by omega)
  clear q2
  obtain ⟨hR,hK⟩:=(fun y9=>And.intro (hR.alloc y9) (hK.alloc y9)) (.cells (nQ k2 a2 b2 n2x ao2 t2 cap2) 25)
  have hsx:w12.heap.size < (w12.alloc (.cells (nQ k2 a2 b2 n2x ao2 t2 cap2) 25)).heap.size:=by rw [World.size_alloc]; omega
  refine (dE _ _ _ _).mono ?_
  rintro en wz ⟨rfl,rfl⟩
  generalize w12.alloc _ = w13 at hsx hR hK qk ⊢
  have hs13:=hsx
  clear hsx
  go_wp2_with fail
  refine (mY HP hbs w1 w13 r E d s3 [n2] [t2] _ t s' hrl1 hK hR hE (qk.imp fun g _ h=>by omega) (fun h0=>by rw [HT2.out (HMS.out h0)]) (by simp) HSM.out).mono ?_
  rintro en w14 ⟨t3,k3,a3,b3,n3,v3,rfl,hN1,ht1,hR2,hK2⟩
  obtain ⟨ao3,cap3,rfl⟩:=Row.shape hN1.2.2.2.2
  replace oR:=oR1.kp hK2 (by omega)
  have hs14:=hK2.size
  have q3:=hN1.q
  replace hR:=hR2
  replace hK:=hK2
  clear hN1 hR2 hK2
  go_wp2_with (refine aF rfl (.tmp 2) (.tmp 78) rfl rfl (w.heap.size) rfl rfl oR ⟨rfl,rfl,rfl,rfl,rfl⟩ ?_; intro wz oz gz)
  refine aC (t:=25) rfl rfl rfl oz Tryz.underlying25 rfl (by kernel_rfl) ?_
  refine ⟨t3,_,_,_,_,_,rfl,((q3.on fun _ _ _ o=>o.grown gz (aG (by omega))).imp fun g _ h=>by omega).is,fun h0=>?_,hR.grown gz (aH (by omega)),(hKR.trans hK).grown gz (aI (by omega))⟩
  exact ht1 h0
 | false=>?_
 obtain ⟨_,_,hc⟩:=HRE.out.resolve_right fun h=>by rw [hqam,hqbm] at h; exact absurd h.1 (by simp)
 obtain ⟨_,L,sL,hc1,hc2⟩:=hc.resolve_left fun h=>by have:=h.1; rw [HC1.out] at this; exact absurd this (by simp)
 have HL:=hI hc1
 have HSM:=hI hc2
 have HMS:Hid (s'.wrong = 0→sL.wrong = 0):=bP (rM hbs L) hc2
 clear hc hc1 hc2 hqa hqb hqam hqbm HRE
 obtain ⟨oX0,oX1,oX2,oX3,oX4,oXf⟩:=oX.five
 have oXl:=oX.lt
 have qk:=bK.one (q4.imp (Q':=fun g=>w1.heap.size≤g) fun g h1 h2=>by omega) (show w1.heap.size≤w10.heap.size from by omega)
 obtain ⟨hR,hK,oR⟩:=(fun y9=>And.intro (hR.alloc y9) (And.intro (hK.alloc y9) (oR.alloc y9))) (.cells (nL 44 (x:Int) (bJ tx) 0) 25)
 clear q4
 have hsx:w10.heap.size < (w10.alloc (.cells (nL 44 (x:Int) (bJ tx) 0) 25)).heap.size:=by rw [World.size_alloc]; omega
 go_wp2_with fail
 refine (dE _ _ _ _).mono ?_
 rintro en wz ⟨rfl,rfl⟩
 clear oX oX0 oX1 oX2 oX3 oX4 oXf oXl
 generalize w10.alloc _ = w11 at hsx hR hK oR qk ⊢
 have hs11:=hsx
 clear hsx
 go_wp2_with fail
 go_loopg [9] f (fun g vl wr=>vM0 w1 r E d (w.heap.size) L sL g vl wr)
 case atStart=>exact ⟨[n],[t4],s1,_,_,rfl,HL.out,hR,oR,qk,fun _=>by rw [HT4.out],hK,by simp; omega,by omega⟩
 case round =>
  clear hR hK oR qk HL
  obtain ⟨acc,acc',sl,ao,cap,rfl,hm,hR,oR,ql,hacc,hK,hlen,hiR⟩:=hrel
  replace ql:bK wr (fun g=>w1.heap.size≤g∧g < wr.heap.size) (.slice ao acc'.length cap) acc':=ql.imp fun g h1 h2=>⟨h2,h1⟩
  have hs0:=hK.size
  cases gk with
  | zero=>cases hm
  | succ gk=>?_
  unfold pB at hm
  replace hm:=aN hm
  obtain ⟨qc,hqc⟩:=iQ (aR [44] (nxt E sl))
  have hqcm:sg [44] (nxt E sl) = qc:=by rw [← hqc]; exact (aX (hR.nxt_wf 0) (fun c r h=>by cases h; rfl)).symm
  rw [hqcm,Bool.true_and] at hm
  have HACC:=hI hacc
  have HM2:=hI hm
  clear hm hqcm hacc
  go_wp2_with fail
  refine (fS hR ⟨#[44]⟩ qc hqc).mono ?_
  rintro en w12 ⟨rfl,hR2,hK2⟩
  have hs12:=hK2.size
  replace oR:=oR.kp hK2 (by omega)
  replace ql:=ql.on fun _ _ _ o=>o.kp hK2 (by omega)
  replace hK:=hK.trans hK2
  replace hR:=hR2
  clear hK2 hR2 hqc
  cases qc with
  | false =>
   have hm:=HM2.out
   rw [if_neg (by simp)] at hm hR
   obtain ⟨e1,e2⟩:=aJ hm
   subst e1 e2
   clear hm HM2
   go_wp2_with fail
   refine (mY HP hbs w1 w12 r E d sl acc acc' _ t s' hrl1 hK hR hE (ql.imp fun g _ h=>by omega) (fun h0=>HACC.out (HMS.out h0)) (by omega) HSM.out).mono ?_
   rintro en w13 ⟨t3,k3,a3,b3,n3,v3,rfl,hN1,ht1,hR2,hK2⟩
   obtain ⟨ao3,cap3,rfl⟩:=Row.shape hN1.2.2.2.2
   replace oR:=oR1.kp hK2 (by omega)
   have hs13:=hK2.size
   have q3:=hN1.q
   replace hR:=hR2
   replace hK:=hK2
   clear hN1 hR2 hK2
   go_wp2_with (refine aF rfl (.tmp 2) (.tmp 96) rfl rfl (w.heap.size) rfl rfl oR ⟨rfl,rfl,rfl,rfl,rfl⟩ ?_; intro wz oz gz)
   refine aC (t:=25) rfl rfl rfl oz Tryz.underlying25 rfl (by kernel_rfl) ?_
   refine ⟨t3,_,_,_,_,_,rfl,((q3.on fun _ _ _ o=>o.grown gz (aG (by omega))).imp fun g _ h=>by omega).is,fun h0=>?_,hR.grown gz (aH (by omega)),(hKR.trans hK).grown gz (aI (by omega))⟩
   exact ht1 h0
  | true=>?_
  have hm:=HM2.out
  rw [if_pos rfl] at hm hR
  obtain ⟨tk,s5,e1,e2⟩:=aE hm
  obtain ⟨_,rfl⟩:=aV e1
  obtain ⟨n5,s6,e3,e4⟩:=aE e2
  obtain ⟨q5,hq5⟩:=iQ (nm (nxt E (aS sl)))
  obtain ⟨hs6,hn6⟩:=aQ1 e3 hq5
  have HS6:=hI hs6
  have HN6:=hI hn6
  have HMO6:Hid (sL.wrong = 0→s6.wrong = 0):=bP (gZ0 gk true (acc ++ [n5])) e4
  have HL6:=hI e4
  clear hm HM2 e1 e2 e3 e4 hs6 hn6
  go_wp2_with fail
  refine (bU hR).mono ?_
  rintro en w13 ⟨⟨x2,rfl,hx⟩,hb⟩
  have HX2:=hI hx
  clear hx
  have hs13:=hb.size
  replace hR:=hR.below hb
  replace hK:=hK.trans (Kp.of hb)
  replace oR:=oR.below hb
  replace ql:=ql.on fun _ _ _ o=>o.below hb
  clear hb
  go_wp2_with fail
  refine (jK hR q5 hq5).mono ?_
  rintro en w14 ⟨rfl,hR2,hK2⟩
  obtain ⟨tx2,httx2⟩:∃ tx2:List Nat,(if q5 then (nxt E (aS sl)).2.1 else []) = tx2:=⟨_,rfl⟩
  have hst:(if q5 = true then bJ (nxt E (aS sl)).2.1 else ⟨#[]⟩) = bJ tx2:=by rw [← httx2]; first | rfl | (cases q5 <;> rfl)
  rw [hst]
  have HTtx2:=hI httx2
  clear hst httx2
  rw [HS6.out] at hR2
  have hs14:=hK2.size
  replace oR:=oR.kp hK2 (by omega)
  replace ql:=ql.on fun _ _ _ o=>o.kp hK2 (by omega)
  replace hK:=hK.trans hK2
  replace hR:=hR2
  clear hK2 hR2 hq5
  go_wp2_with (at_builtin; refine cT rfl (.tmp 88) (.tmp 92) rfl (fun g=>w1.heap.size≤g∧g < wr.heap.size) (fun g=>g < 0) (fun g=>w1.heap.size≤g) _ acc' rfl (ql.on fun g hg cur ho=>ho.alloc _) ⟨44,(x2:Int),tx2,0,[]⟩ 44 (x2:Int) (bJ tx2) 0 (.slice none 0 0) w14.heap.size rfl (Own.new w14 _ _) (aZ.leaf _ _ 44 _ _ 0) (fun g h1 h2=>by omega) (fun g h0 h1=>by omega) (fun g h0 h1=>by omega) (by rw [World.size_alloc]; omega) (by omega) ?_; intro aoA capA wU hrowU gzU hvbU)
  have hsU:=gzU.size
  rw [World.size_alloc] at hsU
  have hR9:=(hR.alloc (.cells (nL 44 (x2:Int) (bJ tx2) 0) 25)).grown gzU (fun k hk=>by have:=(hvbU k hk).1; omega)
  have hK9:=(hK.alloc (.cells (nL 44 (x2:Int) (bJ tx2) 0) 25)).grown gzU (fun k hk=>by have:=(hvbU k hk).1; omega)
  have oR9:=(oR.alloc (.cells (nL 44 (x2:Int) (bJ tx2) 0) 25)).grown gzU (fun e=>by have:=(hvbU _ e.symm).1; omega)
  have hll:(acc' ++ [(⟨44,(x2:Int),tx2,0,[]⟩:Tree)]).length = acc'.length + 1:=by simp
  have hrow9:bK wU (fun g=>w1.heap.size≤g) (.slice aoA (acc'.length + 1) capA) (acc' ++ [⟨44,(x2:Int),tx2,0,[]⟩]):=by rw [← hll]; exact hrowU
  go_roundg gk
  case rel =>
   obtain ⟨acc2,ha2⟩:=iQ (acc' ++ [(⟨44,(x2:Int),tx2,0,[]⟩:Tree)])
   have hl2:acc'.length + 1 = acc2.length:=by rw [← ha2,hll]
   rw [ha2,hl2] at hrow9
   rw [hl2]
   refine ⟨acc ++ [n5],acc2,s6,_,_,rfl,HL6.out,hR9,oR9,hrow9,fun h0=>?_,hK9,by omega,by omega⟩
   obtain ⟨e1,e2,e3⟩:=HN6.out (HMO6.out h0)
   rw [← ha2,HACC.out h0,e3,HX2.out e1,← HTtx2.out,e2]
   rfl
  case measure=>omega
end Go.Proofs.YtnipenijihkgdaaGreatDoor
