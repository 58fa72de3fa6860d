import Derived.Test.YtnipenijihkgdaaGreatDoorNd
import Derived.Test.YtnipenijihkgdaaGreatDoorQ36
set_option maxHeartbeats 8000000
set_option maxRecDepth 100000
namespace Go.Proofs.YtnipenijihkgdaaGreatDoor
open Go.RowKit
set_option linter.unusedVariables false
theorem xH {typ expr:P Tree} (HT:cY 41 typ) (hbt:Bs typ 0) (hdt:Ds typ) (HP:cY 40 expr) (hbs:Bs expr 0) (hds:Ds expr) (f:Nat) (hf:f≤100000000):cY 143 (cB f typ expr):=by
 intro w r E d s t s' hR hE hm
 have hrl:=hR.lt
 have hK:=Kp.refl r w
 have HM:=hI hm
 have HI:=hI hR.iv
 clear hm
 go_enter Tryz.func143,Tryz.ntmps143
 go_upto_region 1 with fail
 have oR:=Own.new w nZ 25
 replace hR:=hR.alloc (.cells nZ 25)
 replace hK:=hK.alloc (.cells nZ 25)
 generalize w.alloc _ = w1 at hR hK oR ⊢
 have hs1:=oR.lt
 go_wp2_with fail
 refine (fP hR 0 0 rfl (by omega)).mono ?_
 rintro en w2 ⟨⟨mk,mb,mn,ma,me,rfl,hm⟩,hb⟩
 have hs2:=hb.size
 replace hR:=hR.below hb
 replace hK:=hK.trans (Kp.of hb)
 replace oR:=oR.below hb
 clear hb
 go_upto_region 2 with fail
 have oA:=Own.new w2 #[.int .u8 mk,.string mb,.int .u64 mn,.int .i64 ma,.int .i64 me] 65
 obtain ⟨hR,hK,oR⟩:=(fun y9=>And.intro (hR.alloc y9) (And.intro (hK.alloc y9) (oR.alloc y9))) (.cells #[.int .u8 mk,.string mb,.int .u64 mn,.int .i64 ma,.int .i64 me] 65)
 generalize w2.alloc _ = w3 at hR hK oR oA ⊢
 have hs3:=oA.lt
 go_wp2_with fail
 refine (bU hR).mono ?_
 rintro en w4 ⟨⟨x,rfl,hx⟩,hb⟩
 have HX:=hI hx
 clear hx
 have hs4:=hb.size
 replace hR:=hR.below hb
 replace hK:=hK.trans (Kp.of hb)
 replace oR:=oR.below hb
 replace oA:=oA.below hb
 clear hb
 have hk9:mk = ((nxt E s).1:Int):=hm.1
 have hbx:mb = bJ (nxt E s).2.1:=hm.2.1
 have hnx:mn = ((nxt E s).2.2.1:Int):=hm.2.2.1
 have HBX:=hI hbx
 have HNX:=hI hnx
 clear hm hbx hnx
 have hc4:=hR.wrongc
 by_cases hw:s.wrong ≠ 0
 · have hne:((s.wrong:Int) != 0) = true:=by simp; omega
   have HS:Hid (s' = s):=vF hdt hds f E d s t s' hw (HI.out hw) HM.out
   have HNW:=hI hw
   generalize (s.wrong:Int) = no at hc4 hne
   clear hw
   replace hR:ZAt w4 r E d s':=by rw [HS.out]; exact hR
   go_wp2_with (refine aF rfl (.tmp 2) (.tmp 21) rfl rfl (w.heap.size) rfl rfl oR ⟨rfl,rfl,rfl,rfl,rfl⟩ ?_; intro wz oz gz)
   refine aC (t:=25) rfl rfl rfl oz Tryz.underlying25 rfl (by kernel_rfl) ?_
   refine ⟨noN,_,_,_,_,_,rfl,⟨rfl,rfl,rfl,rfl,Row.nil _ _⟩,fun h0=>?_,hR.grown gz (aH (by omega)),hK.grown gz (aI (by omega))⟩
   rw [HS.out] at h0
   exact absurd h0 HNW.out
 replace hw:s.wrong = 0:=by omega
 rw [hw] at hc4
 have HW0:=hI hw
 have HXX:Hid (x = (nxt E s).2.2.2.1):=HX.out hw
 clear hw HX
 have hc4':w4.cell? ⟨r,4,none⟩ = some (.int .i64 0):=hc4
 clear hc4
 by_cases h2:(nxt E s).1 = 2
 · have e2:(mk == 2) = true:=by rw [hk9,h2]; rfl
   obtain ⟨hT,hS⟩:=wO0 h2 HM.out
   have HT':=hI hT
   have HS':=hI hS
   have hlv:(nxt E s).1 ≠ 0:=by omega
   clear hT hS HM hk9 h2
   obtain ⟨vz,az,ddz,plz,hoz,haz,hddz,hdz,_,hpz⟩:=hR.pop hlv
   obtain ⟨c0,c1,c2,c3,c4,c5,f0⟩:=hoz.six
   have hlz:=hoz.lt
   have HPZ:=hI hpz
   have HDZ:=hI hddz
   clear hpz hddz c4 c0 c2 c3 c5
   obtain ⟨oA0,oA1,oA2,oA3,oA4,oAf⟩:=oA.five
   have oAl:=oA.lt
   go_wp2_with (first | (refine kM rfl (.tmp 32) (.tmp 30) rfl rfl r 1 rfl rfl hoz (by simp) ?_; intro w5 oV gzV; have oA9:=oA.grown gzV (aG (by omega)); obtain ⟨p0,p1,p2,p3,p4,pf⟩:=oA9.five; have pl9:=oA9.lt; have oR9:=oR.grown gzV (aG (by omega))) | (refine aF rfl (.tmp 2) (.tmp 38) rfl rfl (w.heap.size) rfl rfl oR9 ⟨rfl,rfl,rfl,rfl,rfl⟩ ?_; intro wz oz gz))
   have hs5:=gzV.size
   have hR9:ZAt w5 r E d (aS s):=by
    refine HPZ.out _ (fun g hg=>gzV.block g (by omega) (aG (by omega))) d d rfl hdz ?_
    have h9:=oV
    rw [HDZ.out] at h9
    exact h9
   refine aC (t:=25) rfl rfl rfl oz Tryz.underlying25 rfl (by kernel_rfl) ?_
   refine ⟨⟨40,(x:Int),(nxt E s).2.1,(nxt E s).2.2.1,[]⟩,_,_,_,_,_,rfl,⟨rfl,rfl,HBX.out,HNX.out,Row.nil _ _⟩,fun h0=>?_,by rw [HS'.out]; exact hR9.grown gz (aH (by omega)),(hK.trans (show Kp r w4 w5 from gzV)).grown gz (aI (by omega))⟩
   rw [HT'.out,HXX.out]
 have e2:(mk == 2) = false:=by rw [hk9]; simp; omega
 by_cases h3:(nxt E s).1 = 3
 · have e3:(mk == 3) = true:=by rw [hk9,h3]; rfl
   obtain ⟨hT,hS⟩:=uJ0 h3 HM.out
   have HT':=hI hT
   have HS':=hI hS
   have hlv:(nxt E s).1 ≠ 0:=by omega
   clear hT hS HM hk9 h2 h3
   obtain ⟨vz,az,ddz,plz,hoz,haz,hddz,hdz,_,hpz⟩:=hR.pop hlv
   obtain ⟨c0,c1,c2,c3,c4,c5,f0⟩:=hoz.six
   have hlz:=hoz.lt
   have HPZ:=hI hpz
   have HDZ:=hI hddz
   clear hpz hddz c4 c0 c2 c3 c5
   obtain ⟨oA0,oA1,oA2,oA3,oA4,oAf⟩:=oA.five
   have oAl:=oA.lt
   go_wp2_with (first | (refine kM rfl (.tmp 49) (.tmp 47) rfl rfl r 1 rfl rfl hoz (by simp) ?_; intro w5 oV gzV; have oA9:=oA.grown gzV (aG (by omega)); obtain ⟨p0,p1,p2,p3,p4,pf⟩:=oA9.five; have pl9:=oA9.lt; have oR9:=oR.grown gzV (aG (by omega))) | (refine aF rfl (.tmp 2) (.tmp 53) rfl rfl (w.heap.size) rfl rfl oR9 ⟨rfl,rfl,rfl,rfl,rfl⟩ ?_; intro wz oz gz))
   have hs5:=gzV.size
   have hR9:ZAt w5 r E d (aS s):=by
    refine HPZ.out _ (fun g hg=>gzV.block g (by omega) (aG (by omega))) d d rfl hdz ?_
    have h9:=oV
    rw [HDZ.out] at h9
    exact h9
   refine aC (t:=25) rfl rfl rfl oz Tryz.underlying25 rfl (by kernel_rfl) ?_
   refine ⟨⟨41,(x:Int),(nxt E s).2.1,0,[]⟩,_,_,_,_,_,rfl,⟨rfl,rfl,HBX.out,rfl,Row.nil _ _⟩,fun h0=>?_,by rw [HS'.out]; exact hR9.grown gz (aH (by omega)),(hK.trans (show Kp r w4 w5 from gzV)).grown gz (aI (by omega))⟩
   rw [HT'.out,HXX.out]
 have e3:(mk == 3) = false:=by rw [hk9]; simp; omega
 have H2:=hI h2
 have H3:=hI h3
 clear h2 h3 hk9
 obtain ⟨oA0,oA1,oA2,oA3,oA4,oAf⟩:=oA.five
 have oAl:=oA.lt
 obtain ⟨q1,hq1⟩:=iQ (aR [116,114,117,101] (nxt E s))
 have hq1m:wd [116,114,117,101] (nxt E s) = q1:=by rw [← hq1]; exact (cG (hR.nxt_wf 0) (by decide)).symm
 go_wp2_with fail
 refine (fS hR ⟨#[116,114,117,101]⟩ q1 hq1).mono ?_
 rintro en w5 ⟨rfl,hR2,hK2⟩
 clear oA0 oA1 oA2 oA3 oA4 oAf oAl hc4' e2 e3
 have hs5:=hK2.size
 replace oR:=oR.kp hK2 (by omega)
 replace oA:=oA.kp hK2 (by omega)
 replace hK:=hK.trans hK2
 replace hR:=hR2
 clear hK2 hR2
 cases q1 with
 | true =>
  rw [if_pos rfl] at hR
  obtain ⟨hT,hS⟩:=mN0 hq1m HM.out
  have HT':=hI hT
  have HS':=hI hS
  replace hR:ZAt w5 r E d s':=by rw [hS]; exact hR
  clear hT hS HM
  go_wp2_with (refine aF rfl (.tmp 2) (.tmp 58) rfl rfl (w.heap.size) rfl rfl oR ⟨rfl,rfl,rfl,rfl,rfl⟩ ?_; intro wz oz gz)
  refine aC (t:=25) rfl rfl rfl oz Tryz.underlying25 rfl (by kernel_rfl) ?_
  refine ⟨⟨42,(x:Int),[],0,[]⟩,_,_,_,_,_,rfl,⟨rfl,rfl,rfl,rfl,Row.nil _ _⟩,fun h0=>?_,hR.grown gz (aH (by omega)),hK.grown gz (aI (by omega))⟩
  rw [HT'.out,HXX.out]
 | false=>?_
 rw [if_neg (by simp)] at hR
 obtain ⟨q2,hq2⟩:=iQ (aR [102,97,108,115,101] (nxt E s))
 have hq2m:wd [102,97,108,115,101] (nxt E s) = q2:=by rw [← hq2]; exact (cG (hR.nxt_wf 0) (by decide)).symm
 go_wp2_with fail
 refine (fS hR ⟨#[102,97,108,115,101]⟩ q2 hq2).mono ?_
 rintro en w6 ⟨rfl,hR2,hK2⟩
 have hs6:=hK2.size
 replace oR:=oR.kp hK2 (by omega)
 replace oA:=oA.kp hK2 (by omega)
 replace hK:=hK.trans hK2
 replace hR:=hR2
 clear hK2 hR2
 cases q2 with
 | true =>
  rw [if_pos rfl] at hR
  obtain ⟨hT,hS⟩:=eE0 hq2m HM.out
  have HT':=hI hT
  have HS':=hI hS
  replace hR:ZAt w6 r E d s':=by rw [hS]; exact hR
  clear hT hS HM
  go_wp2_with (refine aF rfl (.tmp 2) (.tmp 63) rfl rfl (w.heap.size) rfl rfl oR ⟨rfl,rfl,rfl,rfl,rfl⟩ ?_; intro wz oz gz)
  refine aC (t:=25) rfl rfl rfl oz Tryz.underlying25 rfl (by kernel_rfl) ?_
  refine ⟨⟨43,(x:Int),[],0,[]⟩,_,_,_,_,_,rfl,⟨rfl,rfl,rfl,rfl,Row.nil _ _⟩,fun h0=>?_,hR.grown gz (aH (by omega)),hK.grown gz (aI (by omega))⟩
  rw [HT'.out,HXX.out]
 | false=>?_
 rw [if_neg (by simp)] at hR
 obtain ⟨q3,hq3⟩:=iQ (nm (nxt E s))
 go_wp2_with fail
 refine (lC hR q3 hq3).mono ?_
 rintro en w7 ⟨rfl,hb⟩
 have hs7:=hb.size
 replace hR:=hR.below hb
 replace hK:=hK.trans (Kp.of hb)
 replace oR:=oR.below hb
 replace oA:=oA.below hb
 clear hb
 cases q3 with
 | true =>
  have hm9:=HM.out
  rw [yC0 hq3] at hm9
  have HC:Hid ((sg [40] (bE E s 1) = true∧aN0 f expr E d s = some (t,s')∧t.kind = 45∧t.at_ = ((nxt E s).2.2.2.1:Nat))∨(sg [40] (bE E s 1) = false∧t = ⟨44,((nxt E s).2.2.2.1:Nat),(nxt E s).2.1,0,[]⟩∧s' = aS s)):=rX hq3 hm9
  have hlv:=eN hq3
  obtain ⟨q4,hq4⟩:=iQ (sg [40] (bE E s 1))
  clear hm9 HM hq1 hq1m hq2 hq2m hq3
  go_wp2_with fail
  refine (fP hR 1 1 rfl (by omega)).mono ?_
  rintro en w8 ⟨⟨m2k,m2b,m2n,m2a,m2e,rfl,hm2⟩,hb⟩
  have hs8:=hb.size
  replace hR:=hR.below hb
  replace hK:=hK.trans (Kp.of hb)
  replace oR:=oR.below hb
  replace oA:=oA.below hb
  clear hb
  go_upto_region 17 with fail
  have oA2:=Own.new w8 #[.int .u8 m2k,.string m2b,.int .u64 m2n,.int .i64 m2a,.int .i64 m2e] 65
  obtain ⟨hR,hK,oR,oA⟩:=(fun y9=>And.intro (hR.alloc y9) (And.intro (hK.alloc y9) (And.intro (oR.alloc y9) (oA.alloc y9)))) (.cells #[.int .u8 m2k,.string m2b,.int .u64 m2n,.int .i64 m2a,.int .i64 m2e] 65)
  generalize w8.alloc _ = w9 at hR hK oR oA oA2 ⊢
  have hs9:=oA2.lt
  have hk9:m2k = ((bE E s 1).1:Int):=hm2.1
  have h0:(m2b.toList == (⟨#[40]⟩:ByteArray).toList) = ((bE E s 1).2.1 == [40]):=by rw [hm2.2.1]; exact kQ _ (hR.nxt_wf 1).1.1.1 ⟨#[40]⟩
  have hb9:(m2b.toList == [40]) = ((bE E s 1).2.1 == [40]):=by rw [← h0,ByteArray.toList_eq (bs:=⟨#[40]⟩)]
  clear h0
  obtain ⟨oA20,oA21,oA22,oA23,oA24,oA2f⟩:=oA2.five
  have oA2l:=oA2.lt
  go_upto_region 17 with fail
  go_cut [76] (fun v wx=>v = .bool q4∧w9 = wx)
  case first =>
   by_cases h4:(bE E s 1).1 = 4
   · have e1:(m2k == 4) = true:=by rw [hk9,h4]; rfl
     have e2:(m2b.toList == [40]) = q4:=by rw [hb9,← hq4]; unfold sg; rw [h4]; rfl
     clear hk9 hb9 h4 hq4 hm2
     go_wp2_with fail
     go_meet
     exact ⟨rfl,rfl⟩
   have e1:(m2k == 4) = false:=by rw [hk9]; simp; omega
   obtain rfl:q4 = false:=by rw [← hq4]; unfold sg; simp [h4]
   clear hk9 hb9 h4
   go_wp2_with fail
   go_meet
   exact ⟨rfl,rfl⟩
  obtain ⟨rfl,rfl⟩:=hcut
  clear hk9 hb9 oA20 oA21 oA22 oA23 oA24 oA2f oA2l oA2 hm2
  cases q4 with
  | true =>
   obtain ⟨_,hc1,_⟩:=HC.out.resolve_right fun h=>by rw [hq4] at h; exact absurd h.1 (by simp)
   have HC1:=hI hc1
   clear hc1 HC hq4
   go_wp2_with fail
   refine (vI HP hbs f hf _ r E d s t s' hR hE HC1.out).mono ?_
   rintro en w10 ⟨t1,k1,a1,b1,n1,v1,rfl,hN1,ht1,hR2,hK2⟩
   obtain ⟨ao1,cap1,rfl⟩:=Row.shape hN1.2.2.2.2
   have q1:aZ w10 (fun g=>w9.heap.size≤g∧g < w10.heap.size) t1 k1 a1 b1 n1 (.slice ao1 t1.kids.length cap1):=hN1.q.imp fun g h1 h2=>⟨h2,h1⟩
   have HT1:=hI ht1
   clear hN1 ht1
   have hs10:=hK2.size
   replace oR:=oR.kp hK2 (by omega)
   replace oA:=oA.kp hK2 (by omega)
   replace hK:=hK.trans hK2
   replace hR:=hR2
   clear hK2 hR2
   go_wp2_with (refine aF rfl (.tmp 2) (.tmp 78) rfl rfl (w.heap.size) rfl rfl oR ⟨rfl,rfl,rfl,rfl,rfl⟩ ?_; intro wz oz gz)
   refine aC (t:=25) rfl rfl rfl oz Tryz.underlying25 rfl (by kernel_rfl) ?_
   refine ⟨t1,_,_,_,_,_,rfl,((q1.on fun _ _ _ o=>o.grown gz (aG (by omega))).imp fun g _ h=>by omega).is,fun h0=>?_,hR.grown gz (aH (by omega)),hK.grown gz (aI (by omega))⟩
   exact HT1.out h0
  | false=>?_
  obtain ⟨_,hT,hS⟩:=HC.out.resolve_left fun h=>by rw [hq4] at h; exact absurd h.1 (by simp)
  have HT':=hI hT
  have HS':=hI hS
  clear hT hS HC hq4
  obtain ⟨vz,az,ddz,plz,hoz,haz,hddz,hdz,_,hpz⟩:=hR.pop hlv
  obtain ⟨c0,c1,c2,c3,c4,c5,f0⟩:=hoz.six
  have hlz:=hoz.lt
  have HPZ:=hI hpz
  have HDZ:=hI hddz
  clear hpz hddz c4 c0 c2 c3 c5
  obtain ⟨oA0,oA1,oA2,oA3,oA4,oAf⟩:=oA.five
  have oAl:=oA.lt
  go_wp2_with (first | (refine kM rfl (.tmp 85) (.tmp 83) rfl rfl r 1 rfl rfl hoz (by simp) ?_; intro w10 oV gzV; have oA9:=oA.grown gzV (aG (by omega)); obtain ⟨p0,p1,p2,p3,p4,pf⟩:=oA9.five; have pl9:=oA9.lt; have oR9:=oR.grown gzV (aG (by omega))) | (refine aF rfl (.tmp 2) (.tmp 89) rfl rfl (w.heap.size) rfl rfl oR9 ⟨rfl,rfl,rfl,rfl,rfl⟩ ?_; intro wz oz gz))
  have hs10:=gzV.size
  have hR9:ZAt w10 r E d (aS s):=by
   refine HPZ.out _ (fun g hg=>gzV.block g (by omega) (aG (by omega))) d d rfl hdz ?_
   have h9:=oV
   rw [HDZ.out] at h9
   exact h9
  refine aC (t:=25) rfl rfl rfl oz Tryz.underlying25 rfl (by kernel_rfl) ?_
  refine ⟨⟨44,(x:Int),(nxt E s).2.1,0,[]⟩,_,_,_,_,_,rfl,⟨rfl,rfl,HBX.out,rfl,Row.nil _ _⟩,fun h0=>?_,by rw [HS'.out]; exact hR9.grown gz (aH (by omega)),(hK.trans (show Kp r w9 w10 from gzV)).grown gz (aI (by omega))⟩
  rw [HT'.out,HXX.out]
 | false=>?_
 obtain ⟨qi,hqi⟩:=iQ (nC (nxt E s))
 have hqia:(cP0.any fun x=>aR (aD x) (nxt E s)) = qi:=by rw [← hqi]; exact sW0 (hR.nxt_wf 0)
 go_wp2_with fail
 refine (tV0 _).mono ?_
 rintro en w8 ⟨rfl,hstr,hb⟩
 have hs8:=hb.size
 replace hR:=hR.below hb
 replace hK:=hK.trans (Kp.of hb)
 replace oR:=oR.below hb
 replace oA:=oA.below hb
 clear hb
 go_wp2_with fail
 refine (cG0 hR w7.heap.size cP0 hstr 3 rfl (by omega) qi hqia).mono ?_
 rintro en w9 ⟨rfl,hb⟩
 clear hstr hqia
 have hs9:=hb.size
 replace hR:=hR.below hb
 replace hK:=hK.trans (Kp.of hb)
 replace oR:=oR.below hb
 replace oA:=oA.below hb
 clear hb
 cases qi with
 | true =>
  obtain ⟨n0,hwp,hT⟩:=qO0 hqi HM.out
  have HWP:=hI hwp
  have HT':=hI hT
  have hlv:=zA hqi
  clear hwp hT HM hq1 hq1m hq2 hq2m hq3 hqi
  go_wp2_with fail
  refine (kE HP hbs 46 (by decide) 1 (by decide) _ r E d s n0 s' hR hlv hE HWP.out).mono ?_
  rintro en w10 ⟨t1,k1,a1,b1,n1,v1,rfl,hN1,ht1,hR2,hK2⟩
  obtain ⟨ao1,cap1,rfl⟩:=Row.shape hN1.2.2.2.2
  have q1:aZ w10 (fun g=>w9.heap.size≤g∧g < w10.heap.size) t1 k1 a1 b1 n1 (.slice ao1 t1.kids.length cap1):=hN1.q.imp fun g h1 h2=>⟨h2,h1⟩
  have HT1:=hI ht1
  clear hN1 ht1
  have hs10:=hK2.size
  replace oR:=oR.kp hK2 (by omega)
  replace oA:=oA.kp hK2 (by omega)
  replace hK:=hK.trans hK2
  replace hR:=hR2
  clear hK2 hR2
  go_upto_region 23 with fail
  have oX:=Own.new w10 (nQ k1 a1 b1 n1 ao1 t1 cap1) 25
  obtain ⟨hR,hK,oR,oA,q1⟩:=(fun y9=>And.intro (hR.alloc y9) (And.intro (hK.alloc y9) (And.intro (oR.alloc y9) (And.intro (oA.alloc y9) (q1.on fun _ _ _ h=>h.alloc y9))))) (.cells (nQ k1 a1 b1 n1 ao1 t1 cap1) 25)
  generalize w10.alloc _ = w11 at hR hK oR oA oX q1 ⊢
  have hs11:=oX.lt
  obtain ⟨oA0,oA1,oA2,oA3,oA4,oAf⟩:=oA.five
  have oAl:=oA.lt
  go_wp2_with (first | (refine iW rfl (.tmp 98) (.tmp 97) rfl rfl (w10.heap.size) 2 rfl rfl oX (by simp) ?_; intro w12 oV gzV; obtain ⟨p0,p1,p2,p3,p4,pf⟩:=oV.five; have pl9:=oV.lt; have oR9:=oR.grown gzV (aG (by omega))) | (refine aF rfl (.tmp 2) (.tmp 99) rfl rfl (w.heap.size) rfl rfl oR9 ⟨rfl,rfl,rfl,rfl,rfl⟩ ?_; intro wz oz gz))
  have hs12:=gzV.size
  refine aC (t:=25) rfl rfl rfl oz Tryz.underlying25 rfl (by kernel_rfl) ?_
  have q9:=(q1.on fun _ _ _ o=>(o.grown gzV (aG (by omega))).grown gz (aG (by omega)))
  refine ⟨⟨t1.kind,t1.at_,(nxt E s).2.1,t1.n,t1.kids⟩,_,_,_,_,_,rfl,⟨q9.1,q9.2.1,HBX.out,q9.2.2.2.1,bK.row (q9.2.2.2.2.imp fun g _ h=>by omega)⟩,fun h0=>?_,(hR.grown gzV (aH (by omega))).grown gz (aH (by omega)),(hK.grown gzV (aI (by omega))).grown gz (aI (by omega))⟩
  rw [HT'.out,HT1.out h0]
 | false=>?_
 clear hq1 hq2
 obtain ⟨q5,hq5⟩:=iQ (aR [108,101,110] (nxt E s))
 have hq5m:wd [108,101,110] (nxt E s) = q5:=by rw [← hq5]; exact (cG (hR.nxt_wf 0) (by decide)).symm
 go_wp2_with fail
 refine (bG hR ⟨#[108,101,110]⟩ q5 hq5).mono ?_
 rintro en w10 ⟨rfl,hb⟩
 have hs10:=hb.size
 replace hR:=hR.below hb
 replace hK:=hK.trans (Kp.of hb)
 replace oR:=oR.below hb
 replace oA:=oA.below hb
 clear hb
 cases q5 with
 | true =>
  have HWP:Hid (gI expr 50 1 E d s = some (t,s')):=tQ0 hq5m HM.out
  have hlv:=bR hq5m
  clear HM hq5 hq5m
  go_wp2_with fail
  refine (kE HP hbs 50 (by decide) 1 (by decide) _ r E d s t s' hR hlv hE HWP.out).mono ?_
  rintro en w11 ⟨t1,k1,a1,b1,n1,v1,rfl,hN1,ht1,hR2,hK2⟩
  obtain ⟨ao1,cap1,rfl⟩:=Row.shape hN1.2.2.2.2
  have q1:aZ w11 (fun g=>w10.heap.size≤g∧g < w11.heap.size) t1 k1 a1 b1 n1 (.slice ao1 t1.kids.length cap1):=hN1.q.imp fun g h1 h2=>⟨h2,h1⟩
  have HT1:=hI ht1
  clear hN1 ht1
  have hs11:=hK2.size
  replace oR:=oR.kp hK2 (by omega)
  replace oA:=oA.kp hK2 (by omega)
  replace hK:=hK.trans hK2
  replace hR:=hR2
  clear hK2 hR2
  go_wp2_with (refine aF rfl (.tmp 2) (.tmp 104) rfl rfl (w.heap.size) rfl rfl oR ⟨rfl,rfl,rfl,rfl,rfl⟩ ?_; intro wz oz gz)
  refine aC (t:=25) rfl rfl rfl oz Tryz.underlying25 rfl (by kernel_rfl) ?_
  refine ⟨t1,_,_,_,_,_,rfl,((q1.on fun _ _ _ o=>o.grown gz (aG (by omega))).imp fun g _ h=>by omega).is,fun h0=>?_,hR.grown gz (aH (by omega)),hK.grown gz (aI (by omega))⟩
  exact HT1.out h0
 | false=>?_
 clear hq5
 obtain ⟨q6,hq6⟩:=iQ (aR [99,117,116] (nxt E s))
 have hq6m:wd [99,117,116] (nxt E s) = q6:=by rw [← hq6]; exact (cG (hR.nxt_wf 0) (by decide)).symm
 go_wp2_with fail
 refine (bG hR ⟨#[99,117,116]⟩ q6 hq6).mono ?_
 rintro en w11 ⟨rfl,hb⟩
 have hs11:=hb.size
 replace hR:=hR.below hb
 replace hK:=hK.trans (Kp.of hb)
 replace oR:=oR.below hb
 replace oA:=oA.below hb
 clear hb
 cases q6 with
 | true =>
  have HWP:Hid (gI expr 51 3 E d s = some (t,s')):=tD0 hq6m HM.out
  have hlv:=bR hq6m
  clear HM hq6 hq6m
  go_wp2_with fail
  refine (kE HP hbs 51 (by decide) 3 (by decide) _ r E d s t s' hR hlv hE HWP.out).mono ?_
  rintro en w12 ⟨t1,k1,a1,b1,n1,v1,rfl,hN1,ht1,hR2,hK2⟩
  obtain ⟨ao1,cap1,rfl⟩:=Row.shape hN1.2.2.2.2
  have q1:aZ w12 (fun g=>w11.heap.size≤g∧g < w12.heap.size) t1 k1 a1 b1 n1 (.slice ao1 t1.kids.length cap1):=hN1.q.imp fun g h1 h2=>⟨h2,h1⟩
  have HT1:=hI ht1
  clear hN1 ht1
  have hs12:=hK2.size
  replace oR:=oR.kp hK2 (by omega)
  replace oA:=oA.kp hK2 (by omega)
  replace hK:=hK.trans hK2
  replace hR:=hR2
  clear hK2 hR2
  go_wp2_with (refine aF rfl (.tmp 2) (.tmp 109) rfl rfl (w.heap.size) rfl rfl oR ⟨rfl,rfl,rfl,rfl,rfl⟩ ?_; intro wz oz gz)
  refine aC (t:=25) rfl rfl rfl oz Tryz.underlying25 rfl (by kernel_rfl) ?_
  refine ⟨t1,_,_,_,_,_,rfl,((q1.on fun _ _ _ o=>o.grown gz (aG (by omega))).imp fun g _ h=>by omega).is,fun h0=>?_,hR.grown gz (aH (by omega)),hK.grown gz (aI (by omega))⟩
  exact HT1.out h0
 | false=>?_
 clear hq6
 obtain ⟨q7,hq7⟩:=iQ (aR [98,121,116,101] (nxt E s))
 have hq7m:wd [98,121,116,101] (nxt E s) = q7:=by rw [← hq7]; exact (cG (hR.nxt_wf 0) (by decide)).symm
 go_wp2_with fail
 refine (bG hR ⟨#[98,121,116,101]⟩ q7 hq7).mono ?_
 rintro en w12 ⟨rfl,hb⟩
 have hs12:=hb.size
 replace hR:=hR.below hb
 replace hK:=hK.trans (Kp.of hb)
 replace oR:=oR.below hb
 replace oA:=oA.below hb
 clear hb
 cases q7 with
 | true =>
  have HWP:Hid (gI expr 52 1 E d s = some (t,s')):=lE0 hq7m HM.out
  have hlv:=bR hq7m
  clear HM hq7 hq7m
  go_wp2_with fail
  refine (kE HP hbs 52 (by decide) 1 (by decide) _ r E d s t s' hR hlv hE HWP.out).mono ?_
  rintro en w13 ⟨t1,k1,a1,b1,n1,v1,rfl,hN1,ht1,hR2,hK2⟩
  obtain ⟨ao1,cap1,rfl⟩:=Row.shape hN1.2.2.2.2
  have q1:aZ w13 (fun g=>w12.heap.size≤g∧g < w13.heap.size) t1 k1 a1 b1 n1 (.slice ao1 t1.kids.length cap1):=hN1.q.imp fun g h1 h2=>⟨h2,h1⟩
  have HT1:=hI ht1
  clear hN1 ht1
  have hs13:=hK2.size
  replace oR:=oR.kp hK2 (by omega)
  replace oA:=oA.kp hK2 (by omega)
  replace hK:=hK.trans hK2
  replace hR:=hR2
  clear hK2 hR2
  go_wp2_with (refine aF rfl (.tmp 2) (.tmp 114) rfl rfl (w.heap.size) rfl rfl oR ⟨rfl,rfl,rfl,rfl,rfl⟩ ?_; intro wz oz gz)
  refine aC (t:=25) rfl rfl rfl oz Tryz.underlying25 rfl (by kernel_rfl) ?_
  refine ⟨t1,_,_,_,_,_,rfl,((q1.on fun _ _ _ o=>o.grown gz (aG (by omega))).imp fun g _ h=>by omega).is,fun h0=>?_,hR.grown gz (aH (by omega)),hK.grown gz (aI (by omega))⟩
  exact HT1.out h0
 | false=>?_
 clear hq7
 obtain ⟨q8,hq8⟩:=iQ (aR [112,111,112] (nxt E s))
 have hq8m:wd [112,111,112] (nxt E s) = q8:=by rw [← hq8]; exact (cG (hR.nxt_wf 0) (by decide)).symm
 go_wp2_with fail
 refine (bG hR ⟨#[112,111,112]⟩ q8 hq8).mono ?_
 rintro en w13 ⟨rfl,hb⟩
 have hs13:=hb.size
 replace hR:=hR.below hb
 replace hK:=hK.trans (Kp.of hb)
 replace oR:=oR.below hb
 replace oA:=oA.below hb
 clear hb
 cases q8 with
 | true =>
  have HWP:Hid (gI expr 53 1 E d s = some (t,s')):=sL0 hq8m HM.out
  have hlv:=bR hq8m
  clear HM hq8 hq8m
  go_wp2_with fail
  refine (kE HP hbs 53 (by decide) 1 (by decide) _ r E d s t s' hR hlv hE HWP.out).mono ?_
  rintro en w14 ⟨t1,k1,a1,b1,n1,v1,rfl,hN1,ht1,hR2,hK2⟩
  obtain ⟨ao1,cap1,rfl⟩:=Row.shape hN1.2.2.2.2
  have q1:aZ w14 (fun g=>w13.heap.size≤g∧g < w14.heap.size) t1 k1 a1 b1 n1 (.slice ao1 t1.kids.length cap1):=hN1.q.imp fun g h1 h2=>⟨h2,h1⟩
  have HT1:=hI ht1
  clear hN1 ht1
  have hs14:=hK2.size
  replace oR:=oR.kp hK2 (by omega)
  replace oA:=oA.kp hK2 (by omega)
  replace hK:=hK.trans hK2
  replace hR:=hR2
  clear hK2 hR2
  go_wp2_with (refine aF rfl (.tmp 2) (.tmp 119) rfl rfl (w.heap.size) rfl rfl oR ⟨rfl,rfl,rfl,rfl,rfl⟩ ?_; intro wz oz gz)
  refine aC (t:=25) rfl rfl rfl oz Tryz.underlying25 rfl (by kernel_rfl) ?_
  refine ⟨t1,_,_,_,_,_,rfl,((q1.on fun _ _ _ o=>o.grown gz (aG (by omega))).imp fun g _ h=>by omega).is,fun h0=>?_,hR.grown gz (aH (by omega)),hK.grown gz (aI (by omega))⟩
  exact HT1.out h0
 | false=>?_
 clear hq8
 obtain ⟨q9,hq9⟩:=iQ (aR [110,101,119] (nxt E s))
 have hq9m:wd [110,101,119] (nxt E s) = q9:=by rw [← hq9]; exact (cG (hR.nxt_wf 0) (by decide)).symm
 go_wp2_with fail
 refine (fS hR ⟨#[110,101,119]⟩ q9 hq9).mono ?_
 rintro en w14 ⟨rfl,hR2,hK2⟩
 have hs14:=hK2.size
 replace oR:=oR.kp hK2 (by omega)
 replace oA:=oA.kp hK2 (by omega)
 replace hK:=hK.trans hK2
 replace hR:=hR2
 clear hK2 hR2
 cases q9 with
 | true =>
  rw [if_pos rfl] at hR
  obtain ⟨k0,s1,l,g1,g2,hT⟩:=pC0 hq9m HM.out
  unfold eE at g2
  obtain ⟨pl,s6,g5,g6⟩:=aE g2
  obtain ⟨hl,rfl⟩:=aJ g6
  obtain ⟨s2,g7,hs5,_⟩:=fA g5
  have hw2:(eT fun t=>if sg [41] t then ret [] else iF f expr) = uL f expr [41]:=rfl
  rw [hw2,hl] at g7
  have HM1:=hI g1
  have HMO:Hid (s6.wrong = 0→s2.wrong = 0∧s1.wrong = 0):=fun h0=>by
   have h1:s2.wrong = 0:=by rw [hs5] at h0; exact (gV h0).1
   exact ⟨h1,(mP (bP (wP hbs f [41]) g7 h1)).1⟩
  have HG7:=hI g7
  have HS5:=hI hs5
  have HT':=hI hT
  clear g1 g2 g5 g6 g7 hs5 hT hw2 hl HM hq9 hq9m
  go_wp2_with fail
  refine (HT _ r E d (aS s) k0 s1 hR hE HM1.out).mono ?_
  rintro en w15 ⟨t1,k1,a1,b1,n1,v1,rfl,hN1,ht1,hR2,hK2⟩
  obtain ⟨ao1,cap1,rfl⟩:=Row.shape hN1.2.2.2.2
  have q1:aZ w15 (fun g=>w14.heap.size≤g∧g < w15.heap.size) t1 k1 a1 b1 n1 (.slice ao1 t1.kids.length cap1):=hN1.q.imp fun g h1 h2=>⟨h2,h1⟩
  have HT1:=hI ht1
  clear hN1 ht1
  have hs15:=hK2.size
  replace oR:=oR.kp hK2 (by omega)
  replace oA:=oA.kp hK2 (by omega)
  replace hK:=hK.trans hK2
  replace hR:=hR2
  clear hK2 hR2
  go_upto_region 35 with fail
  have oX:=Own.new w15 (nQ k1 a1 b1 n1 ao1 t1 cap1) 25
  obtain ⟨hR,hK,oR,oA,q1⟩:=(fun y9=>And.intro (hR.alloc y9) (And.intro (hK.alloc y9) (And.intro (oR.alloc y9) (And.intro (oA.alloc y9) (q1.on fun _ _ _ h=>h.alloc y9))))) (.cells (nQ k1 a1 b1 n1 ao1 t1 cap1) 25)
  generalize w15.alloc _ = w16 at hR hK oR oA oX q1 ⊢
  have hs16:=oX.lt
  obtain ⟨qo,hqo⟩:=iQ (aR [40] (nxt E s1))
  have hqom:sg [40] (nxt E s1) = qo:=by rw [← hqo]; exact (aX (hR.nxt_wf 0) (fun c r h=>by cases h; rfl)).symm
  rw [hqom] at HG7
  clear hqom
  go_wp2_with fail
  refine (jY hR ⟨#[40]⟩ qo hqo).mono ?_
  rintro en w17 ⟨⟨_,rfl⟩,hR2,hK2⟩
  have hs17:=hK2.size
  replace oR:=oR.kp hK2 (by omega)
  replace oA:=oA.kp hK2 (by omega)
  replace oX:=oX.kp hK2 (by omega)
  replace q1:=q1.on fun _ _ _ o=>o.kp hK2 (by omega)
  replace hK:=hK.trans hK2
  replace hR:=hR2
  clear hK2 hR2 hqo
  go_wp2_with fail
  refine (qR HP hbs f hf ⟨#[41]⟩ (fun c r h=>by cases h; rfl) _ r E (d + 1) _ l s2 hR hE HG7.out).mono ?_
  rintro en w18 ⟨ts',v4,rfl,hrow4,hts,hR2,hK2,hlen4⟩
  obtain ⟨ao4,cap4,rfl⟩:=hrow4.shape
  have HTS:=hI hts
  have ql:bK w18 (fun g=>w17.heap.size≤g∧g < w18.heap.size) (.slice ao4 ts'.length cap4) ts':=hrow4.q.imp fun g h1 h2=>⟨h2,h1⟩
  clear hts hrow4
  have hs18:=hK2.size
  replace oR:=oR.kp hK2 (by omega)
  replace oA:=oA.kp hK2 (by omega)
  replace oX:=oX.kp hK2 (by omega)
  replace q1:=q1.on fun _ _ _ o=>o.kp hK2 (by omega)
  replace hK:=hK.trans hK2
  replace hR:=hR2
  clear hK2 hR2
  obtain ⟨qz,hqz⟩:=iQ (aR [41] (nxt E s2))
  have hqzm:sg [41] (nxt E s2) = qz:=by rw [← hqz]; exact (aX (hR.nxt_wf 0) (fun c r h=>by cases h; rfl)).symm
  rw [hqzm] at HS5
  have HS6:=hI HS5.out.symm
  clear hqzm
  go_wp2_with fail
  refine (kI hR ⟨#[41]⟩ qz hqz).mono ?_
  rintro en w19 ⟨⟨_,rfl⟩,hR2,hK2⟩
  rw [HS6.out] at hR2
  have hs19:=hK2.size
  replace oR:=oR.kp hK2 (by omega)
  replace oA:=oA.kp hK2 (by omega)
  replace oX:=oX.kp hK2 (by omega)
  replace q1:=q1.on fun _ _ _ o=>o.kp hK2 (by omega)
  replace ql:=ql.on fun _ _ _ o=>o.kp hK2 (by omega)
  replace hK:=hK.trans hK2
  replace hR:=hR2
  clear hK2 hR2 hqz
  obtain ⟨oX0,oX1,oX2,oX3,oX4,oXf⟩:=oX.five
  have oXl:=oX.lt
  have qk:=bK.one  (q1.imp (Q':=fun g=>w.heap.size < g∧(g < w17.heap.size∨w18.heap.size≤g)) fun g h1 h2=>⟨by omega,by omega⟩) (show w.heap.size < w19.heap.size∧(w19.heap.size < w17.heap.size∨w18.heap.size≤w19.heap.size) from ⟨by omega,by omega⟩)
  clear q1
  obtain ⟨hR,hK⟩:=(fun y9=>And.intro (hR.alloc y9) (hK.alloc y9)) (.cells (nQ k1 a1 b1 n1 ao1 t1 cap1) 25)
  clear oX
  obtain ⟨oR,oA,ql⟩:=(fun y9=>And.intro (oR.alloc y9) (And.intro (oA.alloc y9) (ql.on fun _ _ _ h=>h.alloc y9))) (.cells (nQ k1 a1 b1 n1 ao1 t1 cap1) 25)
  have hsx:w19.heap.size < (w19.alloc (.cells (nQ k1 a1 b1 n1 ao1 t1 cap1) 25)).heap.size:=by rw [World.size_alloc]; omega
  go_wp2_with fail
  refine (dE _ _ _ _).mono ?_
  rintro en wz ⟨rfl,rfl⟩
  clear oX0 oX1 oX2 oX3 oX4 oXf oXl
  generalize w19.alloc _ = w20 at hsx hR hK oR oA ql qk ⊢
  have hs20:=hsx
  clear hsx
  go_wp2_with (first | (at_builtin; refine vO rfl (.tmp 134) (.tmp 135) rfl (fun g=>w.heap.size < g∧(g < w17.heap.size∨w18.heap.size≤g)) (fun g=>w17.heap.size≤g∧g < w18.heap.size) (fun g=>w.heap.size < g) _ [t1] rfl qk ts' _ rfl ql (fun g h1 h2=>by omega) (fun g h0 h1=>by omega) (fun g h0 h1=>by omega) (by omega) (by simp; omega) ?_; intro aoA capA wU hrowU gzU hvbU; have oR9:=oR.grown gzU (fun e=>by have:=(hvbU _ e.symm).1; omega)) | (refine aF rfl (.tmp 2) (.tmp 139) rfl rfl (w.heap.size) rfl rfl oR9 ⟨rfl,rfl,rfl,rfl,rfl⟩ ?_; intro wz oz gz))
  have hsU:=gzU.size
  refine aC (t:=25) rfl rfl rfl oz Tryz.underlying25 rfl (by kernel_rfl) ?_
  have hR9:=hR.grown gzU (fun k hk=>by have:=(hvbU k hk).1; omega)
  have hK9:=hK.grown gzU (fun k hk=>by have:=(hvbU k hk).1; omega)
  refine ⟨⟨47,(x:Int),[],0,t1 :: ts'⟩,_,_,_,_,_,rfl,⟨rfl,rfl,rfl,rfl,bK.row ((hrowU.on fun _ _ _ o=>o.grown gz (aG (by omega))).imp fun g _ h=>by omega)⟩,fun h0=>?_,hR9.grown gz (aH (by omega)),hK9.grown gz (aI (by omega))⟩
  obtain ⟨e1,e2⟩:=HMO.out h0
  rw [HT'.out,HT1.out e2,HTS.out e1,HXX.out]
 | false=>?_
 rw [if_neg (by simp)] at hR
 clear hq9
 obtain ⟨qp,hqp⟩:=iQ (aR [40] (nxt E s))
 have hqpm:sg [40] (nxt E s) = qp:=by rw [← hqp]; exact (aX (hR.nxt_wf 0) (fun c r h=>by cases h; rfl)).symm
 go_wp2_with fail
 refine (bG hR ⟨#[40]⟩ qp hqp).mono ?_
 rintro en w15 ⟨rfl,hb⟩
 have hs15:=hb.size
 replace hR:=hR.below hb
 replace hK:=hK.trans (Kp.of hb)
 replace oR:=oR.below hb
 replace oA:=oA.below hb
 clear hb
 cases qp with
 | true =>
  obtain ⟨pp,g5,hT⟩:=uV0 hqpm HM.out
  obtain ⟨s2,g7,hs5,_⟩:=fA g5
  obtain ⟨n0,hn0⟩:=iQ (pp.2)
  rw [hn0] at g7 hT
  rw [hqpm] at g7
  have HG7:=hI g7
  have HS5:=hI hs5
  have HT':=hI hT
  have HMO:Hid (s'.wrong = 0→s2.wrong = 0):=fun h0=>by rw [hs5] at h0; exact (gV h0).1
  clear g5 g7 hs5 hT hn0 HM hqpm
  go_wp2_with fail
  refine (jY hR ⟨#[40]⟩ true hqp).mono ?_
  rintro en w16 ⟨⟨_,rfl⟩,hR2,hK2⟩
  have hs16:=hK2.size
  replace oR:=oR.kp hK2 (by omega)
  replace oA:=oA.kp hK2 (by omega)
  replace hK:=hK.trans hK2
  replace hR:=hR2
  clear hK2 hR2 hqp
  go_wp2_with fail
  refine (HP _ r E (d + 1) _ n0 s2 hR hE HG7.out).mono ?_
  rintro en w17 ⟨t1,k1,a1,b1,n1,v1,rfl,hN1,ht1,hR2,hK2⟩
  obtain ⟨ao1,cap1,rfl⟩:=Row.shape hN1.2.2.2.2
  have q1:aZ w17 (fun g=>w16.heap.size≤g∧g < w17.heap.size) t1 k1 a1 b1 n1 (.slice ao1 t1.kids.length cap1):=hN1.q.imp fun g h1 h2=>⟨h2,h1⟩
  have HT1:=hI ht1
  clear hN1 ht1
  have hs17:=hK2.size
  replace oR:=oR.kp hK2 (by omega)
  replace oA:=oA.kp hK2 (by omega)
  replace hK:=hK.trans hK2
  replace hR:=hR2
  clear hK2 hR2
  go_upto_region 44 with fail
  have oX:=Own.new w17 (nQ k1 a1 b1 n1 ao1 t1 cap1) 25
  obtain ⟨hR,hK,oR,oA,q1⟩:=(fun y9=>And.intro (hR.alloc y9) (And.intro (hK.alloc y9) (And.intro (oR.alloc y9) (And.intro (oA.alloc y9) (q1.on fun _ _ _ h=>h.alloc y9))))) (.cells (nQ k1 a1 b1 n1 ao1 t1 cap1) 25)
  generalize w17.alloc _ = w18 at hR hK oR oA oX q1 ⊢
  have hs18:=oX.lt
  obtain ⟨qz,hqz⟩:=iQ (aR [41] (nxt E s2))
  have hqzm:sg [41] (nxt E s2) = qz:=by rw [← hqz]; exact (aX (hR.nxt_wf 0) (fun c r h=>by cases h; rfl)).symm
  rw [hqzm] at HS5
  have HS6:=hI HS5.out.symm
  clear hqzm
  go_wp2_with fail
  refine (kI hR ⟨#[41]⟩ qz hqz).mono ?_
  rintro en w19 ⟨⟨_,rfl⟩,hR2,hK2⟩
  rw [HS6.out] at hR2
  have hs19:=hK2.size
  replace oR:=oR.kp hK2 (by omega)
  replace oA:=oA.kp hK2 (by omega)
  replace oX:=oX.kp hK2 (by omega)
  replace q1:=q1.on fun _ _ _ o=>o.kp hK2 (by omega)
  replace hK:=hK.trans hK2
  replace hR:=hR2
  clear hK2 hR2 hqz
  obtain ⟨oX0,oX1,oX2,oX3,oX4,oXf⟩:=oX.five
  have oXl:=oX.lt
  go_wp2_with (refine aF rfl (.tmp 2) (.tmp 149) rfl rfl (w.heap.size) rfl rfl oR ⟨rfl,rfl,rfl,rfl,rfl⟩ ?_; intro wz oz gz)
  refine aC (t:=25) rfl rfl rfl oz Tryz.underlying25 rfl (by kernel_rfl) ?_
  refine ⟨t1,_,_,_,_,_,rfl,((q1.on fun _ _ _ o=>o.grown gz (aG (by omega))).imp fun g _ h=>by omega).is,fun h0=>?_,hR.grown gz (aH (by omega)),hK.grown gz (aI (by omega))⟩
  rw [HT'.out]
  exact HT1.out (HMO.out h0)
 | false=>?_
 have HS:Hid (s' = bD E s):=wE0 hds HI.out H2.out H3.out hq1m hq2m hq3 hqi hq5m hq6m hq7m hq8m hq9m hqpm HM.out
 clear HM hqp hq1m hq2m hq3 hqi hq5m hq6m hq7m hq8m hq9m hqpm
 go_wp2_with fail
 refine (fI hR 40 40 rfl (by decide)).mono ?_
 rintro en w16 ⟨⟨_,rfl⟩,hR2,hK2⟩
 replace hR2:ZAt w16 r E d s':=by rw [HS.out]; exact hR2
 have hs16:=hK2.size
 replace oR:=oR.kp hK2 (by omega)
 replace oA:=oA.kp hK2 (by omega)
 replace hK:=hK.trans hK2
 replace hR:=hR2
 clear hK2 hR2
 go_wp2_with (refine aF rfl (.tmp 2) (.tmp 152) rfl rfl (w.heap.size) rfl rfl oR ⟨rfl,rfl,rfl,rfl,rfl⟩ ?_; intro wz oz gz)
 refine aC (t:=25) rfl rfl rfl oz Tryz.underlying25 rfl (by kernel_rfl) ?_
 refine ⟨noN,_,_,_,_,_,rfl,⟨rfl,rfl,rfl,rfl,Row.nil _ _⟩,fun h0=>?_,hR.grown gz (aH (by omega)),hK.grown gz (aI (by omega))⟩
 rw [HS.out] at h0
 exact absurd h0 bS
end Go.Proofs.YtnipenijihkgdaaGreatDoor
