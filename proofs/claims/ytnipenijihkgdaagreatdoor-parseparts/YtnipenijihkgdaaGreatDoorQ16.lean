import Derived.Test.YtnipenijihkgdaaGreatDoorNd
import Derived.Test.YtnipenijihkgdaaGreatDoorQ12
import Derived.Deep.RegionHeld3
import Derived.Test.YtnipenijihkgdaaGreatDoorJLow
import Derived.Test.YtnipenijihkgdaaGreatDoorJTot
set_option maxHeartbeats 1000000
set_option maxRecDepth 100000
namespace Go.Proofs.YtnipenijihkgdaaGreatDoor
open Go.RowKit
set_option linter.unusedVariables false
theorem yN {typ:P Tree} {c:Nat} (HP:bH 26 typ c):bH 75 (gD typ) c:=by
 intro w r E d s t s' hR hE hd hm
 obtain ⟨tk,s1,h1,h2⟩:=aE hm
 obtain ⟨n,s2,h3,h4⟩:=aE h2
 obtain ⟨rfl,rfl⟩:=aJ h4
 obtain ⟨q,hq⟩:=iQ (nm (nxt E s))
 have hn:eQ q E d s = some (tk,s1):=by rw [← hq]; exact h1
 obtain ⟨k,tx,nn,a,e,ht⟩:=bZ tk
 have hrl:=hR.lt
 have hK:=Kp.refl r w
 clear hm h1 h2 h4
 go_enter Tryz.func75,Tryz.ntmps75
 go_upto_region 1 with fail
 have hzo:=hR.lt
 have hko:=hK.size
 have o:=Own.new w nZ 25
 replace hR:=hR.alloc (.cells nZ 25)
 replace hK:=hK.alloc (.cells nZ 25)
 generalize w.alloc _ = w1 at hR hK o ⊢
 have hs1:=o.lt
 go_wp2_with fail
 refine (iI hR hE q hq).mono ?_
 rintro en w2 ⟨rfl,hR2,hb⟩
 have hs2:=(((Kp.refl r w1)).trans (Kp.of hb)).size
 replace o:=o.below hb
 replace hK:=hK.trans (Kp.of hb)
 replace hR:=hR2
 clear hb hR2 hq
 go_wp2_with fail
 refine (dK hR hE q hn ht).mono ?_
 rintro en w3 ⟨rfl,hR2,hK2⟩
 have hs3:=(((Kp.refl r w2)).trans hK2).size
 replace o:=o.kp hK2 (by omega)
 replace hK:=hK.trans hK2
 replace hR:=hR2
 clear hK2 hR2 hn
 go_upto_region 2 with fail
 have hzp:=hR.lt
 have hkp:=hK.size
 have p:=Own.new w3 #[.int .u8 k, .string tx, .int .u64 nn, .int .i64 a, .int .i64 e] 65
 obtain ⟨hR,hK,o⟩:=(fun y9=>And.intro (hR.alloc y9) (And.intro (hK.alloc y9) (o.alloc y9))) (.cells #[.int .u8 k, .string tx, .int .u64 nn, .int .i64 a, .int .i64 e] 65)
 generalize w3.alloc _ = w4 at hR hK p o ⊢
 have hs4:=p.lt
 obtain ⟨p0,p1,p2,p3,p4,pf⟩:=p.five
 have hne:w3.heap.size ≠ w.heap.size:=by omega
 have hne2:w.heap.size ≠ w3.heap.size:=by omega
 go_region_held3 (fun w'=>w'.cell? ⟨w3.heap.size,3,none⟩ = some (.int .i64 a)∧w'.cell? ⟨w3.heap.size,1,none⟩ = some (.string tx)) (go_keep) (first | (go_at_call 26; refine (HP w4.drew r E d s1 n s2 hR.drew hE hd h3).mono ?_; rintro en w5 ⟨k1,a1,b1,n1,v1,rfl,hN,hR2,hK2⟩; have p':=p.drew.kp hK2 (by omega); obtain ⟨q0,q1,q2,q3,q4,qf⟩:=p'.five; have o':=o.drew.kp hK2 (by omega); obtain ⟨r0,r1,r2,r3,r4,rf⟩:=o'.five; have hs5:=hK2.size; rw [World.size_drew] at hs5; have hl5:=o'.lt; have hp5:=p'.lt; clear p'))
 all_goals
  have hrow:=Row.one (hN.row fun x=>x.set5 (g:=w.heap.size) (by rw [World.size_drew]; omega) (.int .u8 3) (.int .i64 a) (.string tx) (.int .u64 0) (.slice (some ⟨w5.heap.size,0,none⟩) 1 1)) (Nat.le_refl _) (by rw [cR,World.size_drew]; exact hs5)
  rw [cR] at hrow
  go_wp2
  refine aC (t:=25) rfl rfl rfl ((o'.set5 _ _ _ _ _).alloc _) Tryz.underlying25 rfl (by kernel_rfl) ?_
  exact ⟨_,_,_,_,_,rfl,⟨rfl,ht.2.2.2.1,ht.2.1,rfl,hrow.mono (by rw [World.size_drew]; omega)⟩,(hR2.set5 (by omega) _ _ _ _ _).alloc _,(((hK.drew.trans hK2).set5 (.inl (Nat.le_refl _)) _ _ _ _ _).alloc _)⟩
theorem aL0 : bH 190 jF 0:=by
 intro w r E d s t s' hR hE hd hm
 have hrl:=hR.lt
 have hK:=Kp.refl r w
 obtain ⟨q,hq⟩:=iQ (isT 4 [⟨#[45]⟩] (nxt E s))
 have hq2:sg [45] (nxt E s) = q:=(dQ _ _).symm.trans hq
 go_enter Tryz.func190,Tryz.ntmps190
 go_upto_region 1 with fail
 have hzo:=hR.lt
 have hko:=hK.size
 have o:=Own.new w nZ 25
 replace hR:=hR.alloc (.cells nZ 25)
 replace hK:=hK.alloc (.cells nZ 25)
 generalize w.alloc _ = w1 at hR hK o ⊢
 have hs1:=o.lt
 go_wp2_with fail
 refine (cI (hR.alloc _) hE (xs:=[⟨#[45]⟩]) (Own.new w1 _ _) 1 rfl (by omega) q hq).mono ?_
 rintro en w2 ⟨rfl,hR2,hb⟩
 have hs2:=(((Kp.refl r w1).alloc _).trans (Kp.of hb)).size
 replace o:=(o.alloc _).below hb
 replace hK:=(hK.alloc _).trans (Kp.of hb)
 replace hR:=hR2
 clear hb hR2
 unfold jF at hm
 replace hm:=aN hm
 clear hq
 cases q with
 | false =>
  rw [hq2,if_neg (by simp)] at hm
  clear hq2
  go_wp2_with fail
  refine (sW _ _ _ _ _ _ _ hR hE (by omega) hm).mono ?_
  rintro en w3 ⟨k1,a1,b1,n1x,v1,rfl,n1,hR2,hK2⟩
  have hs3:=(((Kp.refl r w2)).trans hK2).size
  replace o:=o.kp hK2 (by omega)
  replace hK:=hK.trans hK2
  replace hR:=hR2
  clear hK2 hR2
  go_wp2_with (refine aF rfl (.tmp 2) (.tmp 11) rfl rfl w.heap.size rfl rfl (o) ⟨rfl,rfl,rfl,rfl,n1.2.2.2.2.one1⟩ ?_; intro wz oz gz)
  refine aC (t:=25) rfl rfl rfl oz Tryz.underlying25 rfl (by kernel_rfl) ?_
  exact ⟨_,_,_,_,_,rfl,n1.row fun x=>(x.grown gz (by omega)).mono (by omega),hR.grown gz (aH (by omega)),hK.grown gz (aI (by omega))⟩
 | true=>?_
 rw [hq2,if_pos rfl] at hm
 clear hq2
 obtain ⟨tk,s1,h1,h2⟩:=aE hm
 obtain ⟨rfl,rfl⟩:=aV h1
 obtain ⟨n,s2,h3,h4⟩:=aE h2
 obtain ⟨rfl,rfl⟩:=aJ h4
 obtain ⟨k,tx,nn,a,e,ht⟩:=bZ (nxt E s)
 clear hm h1 h2 h4
 go_wp2_with fail
 refine (cH hR hE ht).mono ?_
 rintro en w3 ⟨rfl,hR2,hK2⟩
 have hs3:=(((Kp.refl r w2)).trans hK2).size
 replace o:=o.kp hK2 (by omega)
 replace hK:=hK.trans hK2
 replace hR:=hR2
 clear hK2 hR2
 go_wp2_with fail
 refine (sW _ _ _ _ _ _ _ hR hE (by omega) h3).mono ?_
 rintro en w4 ⟨k1,a1,b1,n1x,v1,rfl,n1,hR2,hK2⟩
 have hs4:=(((Kp.refl r w3)).trans hK2).size
 replace o:=o.kp hK2 (by omega)
 replace hK:=hK.trans hK2
 replace hR:=hR2
 clear hK2 hR2
 go_wp2_with (refine aF rfl (.tmp 2) (.tmp 21) rfl rfl w.heap.size rfl rfl (o.alloc _) ⟨rfl,rfl,rfl,rfl,rfl⟩ ?_; intro wz oz gz)
 refine aC (t:=25) rfl rfl rfl oz Tryz.underlying25 rfl (by kernel_rfl) ?_
 exact ⟨_,_,_,_,_,rfl,⟨rfl,ht.2.2.2.1,rfl,rfl,((Row.one n1 (Nat.le_refl _) (by omega)).grown gz (by omega)).mono (by omega)⟩,(hR.alloc _).grown gz (aH (by omega)),(hK.alloc _).grown gz (aI (by omega))⟩
theorem iW0 (t:Tok):isT 1 [⟨#[105,56]⟩,⟨#[105,51,50]⟩,⟨#[105,54,52]⟩,⟨#[98,111,111,108]⟩,⟨#[98,121,116,101,115]⟩] t = mQ t:=by
 simp only [isT,List.any_cons,List.any_nil,mQ,wd,Bool.or_false,Bool.and_or_distrib_left,Bool.or_assoc]
 rfl
theorem bH.le {fn:Nat} {m:P Tree} {c c':Nat} (h:bH fn m c) (hc:c≤c'):bH fn m c':=fun w r E d s t s' hR hE hd hm=>h w r E d s t s' hR hE (by omega) hm
theorem fF0 {rec:P Tree} {c:Nat} (HP:bH 26 rec c):bH 26 (lO rec) (c + 1):=by
 intro w r E d s t s' hR hE hd hm
 have hrl:=hR.lt
 have hK:=Kp.refl r w
 obtain ⟨q,hq⟩:=iQ (nm (nxt E s))
 obtain ⟨q2,hq2⟩:=iQ (mQ (nxt E s))
 obtain ⟨q3,hq3⟩:=iQ (sg [91] (nxt E s))
 unfold lO at hm
 replace hm:=aN hm
 rw [hq,hq2,hq3] at hm
 have hq2':=(iW0 _).trans hq2
 have hq3':isT 4 [⟨#[91]⟩] (nxt E s) = q3:=(dQ _ _).trans hq3
 clear hq2 hq3
 go_enter Tryz.func26,Tryz.ntmps26
 go_upto_region 1 with fail
 have hzo:=hR.lt
 have hko:=hK.size
 have o:=Own.new w nZ 25
 replace hR:=hR.alloc (.cells nZ 25)
 replace hK:=hK.alloc (.cells nZ 25)
 generalize w.alloc _ = w1 at hR hK o ⊢
 have hs1:=o.lt
 go_wp2_with fail
 refine (iI hR hE q hq).mono ?_
 rintro en w2 ⟨rfl,hR2,hb⟩
 have hs2:=(((Kp.refl r w1)).trans (Kp.of hb)).size
 replace o:=o.below hb
 replace hK:=hK.trans (Kp.of hb)
 replace hR:=hR2
 clear hb hR2 hq
 cases q with
 | true =>
  rw [Bool.true_or,if_pos rfl] at hm
  obtain ⟨tk,s1,h1,h2⟩:=aE hm
  obtain ⟨rfl,rfl⟩:=aV h1
  obtain ⟨rfl,rfl⟩:=aJ h2
  obtain ⟨k,tx,nn,a,e,ht⟩:=bZ (nxt E s)
  clear hm h1 h2
  go_wp2_with fail
  refine (cH hR hE ht).mono ?_
  rintro en w3 ⟨rfl,hR2,hK2⟩
  have hs3:=(((Kp.refl r w2)).trans hK2).size
  replace o:=o.kp hK2 (by omega)
  replace hK:=hK.trans hK2
  replace hR:=hR2
  clear hK2 hR2
  go_upto_region 3 with fail
  have hzp:=hR.lt
  have hkp:=hK.size
  have p:=Own.new w3 #[.int .u8 k, .string tx, .int .u64 nn, .int .i64 a, .int .i64 e] 65
  obtain ⟨hR,hK,o⟩:=(fun y9=>And.intro (hR.alloc y9) (And.intro (hK.alloc y9) (o.alloc y9))) (.cells #[.int .u8 k, .string tx, .int .u64 nn, .int .i64 a, .int .i64 e] 65)
  generalize w3.alloc _ = w4 at hR hK p o ⊢
  have hs4:=p.lt
  obtain ⟨p0,p1,p2,p3,p4,pf⟩:=p.five
  go_wp2_with (refine aF rfl (.tmp 2) (.tmp 25) rfl rfl w.heap.size rfl rfl (o) ⟨rfl,rfl,rfl,rfl,rfl⟩ ?_; intro wz oz gz)
  refine aC (t:=25) rfl rfl rfl oz Tryz.underlying25 rfl (by kernel_rfl) ?_
  exact ⟨_,_,_,_,_,rfl,⟨rfl,ht.2.2.2.1,ht.2.1,rfl,Row.nil _ _⟩,hR.grown gz (aH (by omega)),hK.grown gz (aI (by omega))⟩
 | false=>?_
 go_wp2_with fail
 refine (cW (hR.alloc _) hE (xs:=[⟨#[105,56]⟩,⟨#[105,51,50]⟩,⟨#[105,54,52]⟩,⟨#[98,111,111,108]⟩,⟨#[98,121,116,101,115]⟩]) (Own.new w2 _ _) 5 rfl (by omega) q2 hq2').mono ?_
 rintro en w3 ⟨rfl,hR2,hb⟩
 have hs3:=(((Kp.refl r w2).alloc _).trans (Kp.of hb)).size
 replace o:=(o.alloc _).below hb
 replace hK:=(hK.alloc _).trans (Kp.of hb)
 replace hR:=hR2
 clear hb hR2
 cases q2 with
 | true =>
  rw [if_pos (by rfl)] at hm
  obtain ⟨tk,s1,h1,h2⟩:=aE hm
  obtain ⟨rfl,rfl⟩:=aV h1
  obtain ⟨rfl,rfl⟩:=aJ h2
  obtain ⟨k,tx,nn,a,e,ht⟩:=bZ (nxt E s)
  clear hm h1 h2
  go_wp2_with fail
  refine (cH hR hE ht).mono ?_
  rintro en w4 ⟨rfl,hR2,hK2⟩
  have hs4:=(((Kp.refl r w3)).trans hK2).size
  replace o:=o.kp hK2 (by omega)
  replace hK:=hK.trans hK2
  replace hR:=hR2
  clear hK2 hR2
  go_upto_region 3 with fail
  have hzp:=hR.lt
  have hkp:=hK.size
  have p:=Own.new w4 #[.int .u8 k, .string tx, .int .u64 nn, .int .i64 a, .int .i64 e] 65
  obtain ⟨hR,hK,o⟩:=(fun y9=>And.intro (hR.alloc y9) (And.intro (hK.alloc y9) (o.alloc y9))) (.cells #[.int .u8 k, .string tx, .int .u64 nn, .int .i64 a, .int .i64 e] 65)
  generalize w4.alloc _ = w5 at hR hK p o ⊢
  have hs5:=p.lt
  obtain ⟨p0,p1,p2,p3,p4,pf⟩:=p.five
  go_wp2_with (refine aF rfl (.tmp 2) (.tmp 25) rfl rfl w.heap.size rfl rfl (o) ⟨rfl,rfl,rfl,rfl,rfl⟩ ?_; intro wz oz gz)
  refine aC (t:=25) rfl rfl rfl oz Tryz.underlying25 rfl (by kernel_rfl) ?_
  exact ⟨_,_,_,_,_,rfl,⟨rfl,ht.2.2.2.1,ht.2.1,rfl,Row.nil _ _⟩,hR.grown gz (aH (by omega)),hK.grown gz (aI (by omega))⟩
 | false=>?_
 rw [if_neg (by simp)] at hm
 go_wp2_with fail
 refine (cI (hR.alloc _) hE (xs:=[⟨#[91]⟩]) (Own.new w3 _ _) 1 rfl (by omega) q3 hq3').mono ?_
 rintro en w4 ⟨rfl,hR2,hb⟩
 have hs4:=(((Kp.refl r w3).alloc _).trans (Kp.of hb)).size
 replace o:=(o.alloc _).below hb
 replace hK:=(hK.alloc _).trans (Kp.of hb)
 replace hR:=hR2
 clear hb hR2
 cases q3 with
 | false =>
  rw [if_neg (by simp)] at hm
  obtain ⟨rfl,rfl⟩:noN = t∧bD E s = s':=by simpa [pJ0] using hm
  clear hm
  go_wp2_with fail
  refine (qK hR hE).mono ?_
  rintro en w5 ⟨⟨_,rfl⟩,hR2,hK2⟩
  have hs5:=(((Kp.refl r w4)).trans hK2).size
  replace o:=o.kp hK2 (by omega)
  replace hK:=hK.trans hK2
  replace hR:=hR2
  clear hK2 hR2
  go_wp2_with (refine aF rfl (.tmp 2) (.tmp 34) rfl rfl w.heap.size rfl rfl (o) ⟨rfl,rfl,rfl,rfl,rfl⟩ ?_; intro wz oz gz)
  refine aC (t:=25) rfl rfl rfl oz Tryz.underlying25 rfl (by kernel_rfl) ?_
  exact ⟨_,_,_,_,_,rfl,⟨rfl,rfl,rfl,rfl,Row.nil _ _⟩,hR.grown gz (aH (by omega)),hK.grown gz (aI (by omega))⟩
 | true=>?_
 rw [if_pos rfl] at hm
 obtain ⟨y,s1,h1,h2⟩:=aE hm
 obtain ⟨tk,s2,h3,h4⟩:=aE h1
 obtain ⟨z,s3,h5,h6⟩:=aE h4
 obtain ⟨tk2,s4,h7,h8⟩:=aE h6
 obtain ⟨rfl,rfl⟩:=aJ h8
 obtain ⟨m,s5,h9,h10⟩:=aE h2
 obtain ⟨rfl,rfl⟩:=aJ h10
 obtain ⟨k,tx,nn,a,e,ht⟩:=bZ tk
 obtain ⟨c,hc⟩:=iQ (cn (nxt E (eL d tk s2)))
 unfold eK at h5
 replace h5:=aN h5
 rw [hc] at h5
 clear hm h1 h2 h4 h6 h8 h10
 go_wp2_with fail
 refine (kR hR hE (by omega) ⟨#[91]⟩ h3 ht).mono ?_
 rintro en w5 ⟨rfl,hR2,hK2⟩
 have hs5:=(((Kp.refl r w4)).trans hK2).size
 replace o:=o.kp hK2 (by omega)
 replace hK:=hK.trans hK2
 replace hR:=hR2
 clear hK2 hR2 h3
 go_upto_region 8 with fail
 have hzp:=hR.lt
 have hkp:=hK.size
 have p:=Own.new w5 #[.int .u8 k, .string tx, .int .u64 nn, .int .i64 a, .int .i64 e] 65
 obtain ⟨hR,hK,o⟩:=(fun y9=>And.intro (hR.alloc y9) (And.intro (hK.alloc y9) (o.alloc y9))) (.cells #[.int .u8 k, .string tx, .int .u64 nn, .int .i64 a, .int .i64 e] 65)
 generalize w5.alloc _ = w6 at hR hK p o ⊢
 have hs6:=p.lt
 obtain ⟨p0,p1,p2,p3,p4,pf⟩:=p.five
 go_upto_region 9 with fail
 have hzn:=hR.lt
 have hkn:=hK.size
 have n:=Own.new w6 (nL 9 a ⟨#[]⟩ 0) 25
 obtain ⟨hR,hK,o,p⟩:=(fun y9=>And.intro (hR.alloc y9) (And.intro (hK.alloc y9) (And.intro (o.alloc y9) (p.alloc y9)))) (.cells (nL 9 a ⟨#[]⟩ 0) 25)
 generalize w6.alloc _ = w7 at hR hK n o p ⊢
 have hs7:=n.lt
 clear p0 p1 p2 p3 p4 pf
 go_wp2_with fail
 refine (xO hR hE c hc).mono ?_
 rintro en w8 ⟨rfl,hR2,hb⟩
 have hs8:=(((Kp.refl r w7)).trans (Kp.of hb)).size
 replace o:=o.below hb
 replace p:=p.below hb
 replace n:=n.below hb
 replace hK:=hK.trans (Kp.of hb)
 replace hR:=hR2
 clear hb hR2 hc
 cases c with
 | false =>
  rw [if_neg (by simp)] at h5
  obtain ⟨rfl,rfl⟩:=aJ h5
  clear h5
  go_wp2_with fail
  refine (gR hR hE (by omega) ⟨#[93]⟩ h7).mono ?_
  rintro en w9 ⟨⟨_,rfl⟩,hR2,hK2⟩
  have hs9:=(((Kp.refl r w8)).trans hK2).size
  replace o:=o.kp hK2 (by omega)
  replace p:=p.kp hK2 (by omega)
  replace n:=n.kp hK2 (by omega)
  replace hK:=hK.trans hK2
  replace hR:=hR2
  clear hK2 hR2 h7
  obtain ⟨p0,p1,p2,p3,p4,pf⟩:=p.five
  go_wp2_with fail
  refine (lA hR (by omega) ht).mono ?_
  rintro en w10 ⟨⟨_,rfl⟩,hR2,hK2⟩
  have hs10:=(((Kp.refl r w9)).trans hK2).size
  replace o:=o.kp hK2 (by omega)
  replace p:=p.kp hK2 (by omega)
  replace n:=n.kp hK2 (by omega)
  replace hK:=hK.trans hK2
  replace hR:=hR2
  clear hK2 hR2 p0 p1 p2 p3 p4 pf
  go_wp2_with fail
  refine (HP _ _ _ _ _ _ _ hR hE (by omega) h9).mono ?_
  rintro en w11 ⟨k1,a1,b1,n1x,v1,rfl,n1,hR2,hK2⟩
  have hs11:=(((Kp.refl r w10)).trans hK2).size
  replace o:=o.kp hK2 (by omega)
  replace p:=p.kp hK2 (by omega)
  replace n:=n.kp hK2 (by omega)
  replace hK:=hK.trans hK2
  replace hR:=hR2
  clear hK2 hR2 h9
  have hrow:=Row.one n1 (Nat.le_refl _) (by omega)
  obtain ⟨hR,hK,o,n⟩:=(fun y9=>And.intro (hR.alloc y9) (And.intro (hK.alloc y9) (And.intro (o.alloc y9) (n.alloc y9)))) (.cells (nD k1 a1 b1 n1x v1) 25)
  go_upto_region 14 with (first | (refine aQ rfl (.tmp 59) (.tmp 58) rfl rfl w6.heap.size 4 rfl rfl n (by simp) ?_; intro wq0 nq0 gq0))
  have hs12:=gq0.size
  replace o:=o.grown gq0 (aG (by omega))
  replace hrow:=hrow.grown gq0 (by omega)
  replace hR:=hR.grown gq0 (aH (by omega))
  replace hK:=hK.grown gq0 (aI (by omega))
  replace n:Own wq0 w6.heap.size (nD 9 a ⟨#[]⟩ 0 (.slice (some ⟨w11.heap.size,0,none⟩) 1 1)) 25:=nq0
  clear nq0 gq0
  generalize hw:wq0 = w12 at *
  clear hw
  go_wp2_with fail
  refine (fE hR (by omega)).mono ?_
  rintro en w13 ⟨⟨_,rfl⟩,hR2,hK2⟩
  have hs13:=(((Kp.refl r w12)).trans hK2).size
  replace o:=o.kp hK2 (by omega)
  replace n:=n.kp hK2 (by omega)
  replace hrow:=hrow.kp hK2 (by omega)
  replace hK:=hK.trans hK2
  replace hR:=hR2
  clear hK2 hR2
  obtain ⟨n0,n1,n2,n3,n4,nf⟩:=n.five
  go_wp2_with (refine aF rfl (.tmp 2) (.tmp 62) rfl rfl w.heap.size rfl rfl (o) ⟨rfl,rfl,rfl,rfl,rfl⟩ ?_; intro wz oz gz)
  refine aC (t:=25) rfl rfl rfl oz Tryz.underlying25 rfl (by kernel_rfl) ?_
  exact ⟨_,_,_,_,_,rfl,⟨rfl,ht.2.2.2.1,rfl,rfl,(hrow.grown gz (by omega)).mono (by omega)⟩,hR.grown gz (aH (by omega)),hK.grown gz (aI (by omega))⟩
 | true=>?_
 rw [if_pos rfl] at h5
 obtain ⟨c2,s6,h11,h12⟩:=aE h5
 obtain ⟨rfl,rfl⟩:=aV h11
 obtain ⟨rfl,rfl⟩:=aJ h12
 obtain ⟨k',tx',nn',a',e',ht'⟩:=bZ (nxt E (eL d tk s2))
 clear h5 h11 h12
 go_wp2_with fail
 refine (cH hR hE ht').mono ?_
 rintro en w9 ⟨rfl,hR2,hK2⟩
 have hs9:=(((Kp.refl r w8)).trans hK2).size
 replace o:=o.kp hK2 (by omega)
 replace p:=p.kp hK2 (by omega)
 replace n:=n.kp hK2 (by omega)
 replace hK:=hK.trans hK2
 replace hR:=hR2
 clear hK2 hR2
 go_upto_region 11 with (first | (refine jO rfl (.tmp 49) _ rfl rfl w6.heap.size 0 rfl rfl n (by simp) ?_; intro wq0 nq0 gq0) | (refine uO rfl (.tmp 50) (.tmp 48) rfl rfl w6.heap.size 3 rfl rfl nq0 (by simp) ?_; intro wq1 nq1 gq1))
 have hs10:=gq0.size
 replace o:=o.grown gq0 (aG (by omega))
 replace p:=p.grown gq0 (aG (by omega))
 replace hR:=hR.grown gq0 (aH (by omega))
 replace hK:=hK.grown gq0 (aI (by omega))
 have hs11:=gq1.size
 replace o:=o.grown gq1 (aG (by omega))
 replace p:=p.grown gq1 (aG (by omega))
 replace hR:=hR.grown gq1 (aH (by omega))
 replace hK:=hK.grown gq1 (aI (by omega))
 replace n:Own wq1 w6.heap.size (nL 8 a ⟨#[]⟩ nn') 25:=nq1
 clear nq0 nq1 gq0 gq1
 generalize hw:wq1 = w11 at *
 clear hw
 go_wp2_with fail
 refine (gR hR hE (by omega) ⟨#[93]⟩ h7).mono ?_
 rintro en w12 ⟨⟨_,rfl⟩,hR2,hK2⟩
 have hs12:=(((Kp.refl r w11)).trans hK2).size
 replace o:=o.kp hK2 (by omega)
 replace p:=p.kp hK2 (by omega)
 replace n:=n.kp hK2 (by omega)
 replace hK:=hK.trans hK2
 replace hR:=hR2
 clear hK2 hR2 h7
 obtain ⟨p0,p1,p2,p3,p4,pf⟩:=p.five
 go_wp2_with fail
 refine (lA hR (by omega) ht).mono ?_
 rintro en w13 ⟨⟨_,rfl⟩,hR2,hK2⟩
 have hs13:=(((Kp.refl r w12)).trans hK2).size
 replace o:=o.kp hK2 (by omega)
 replace p:=p.kp hK2 (by omega)
 replace n:=n.kp hK2 (by omega)
 replace hK:=hK.trans hK2
 replace hR:=hR2
 clear hK2 hR2 p0 p1 p2 p3 p4 pf
 go_wp2_with fail
 refine (HP _ _ _ _ _ _ _ hR hE (by omega) h9).mono ?_
 rintro en w14 ⟨k1,a1,b1,n1x,v1,rfl,n1,hR2,hK2⟩
 have hs14:=(((Kp.refl r w13)).trans hK2).size
 replace o:=o.kp hK2 (by omega)
 replace p:=p.kp hK2 (by omega)
 replace n:=n.kp hK2 (by omega)
 replace hK:=hK.trans hK2
 replace hR:=hR2
 clear hK2 hR2 h9
 have hrow:=Row.one n1 (Nat.le_refl _) (by omega)
 obtain ⟨hR,hK,o,n⟩:=(fun y9=>And.intro (hR.alloc y9) (And.intro (hK.alloc y9) (And.intro (o.alloc y9) (n.alloc y9)))) (.cells (nD k1 a1 b1 n1x v1) 25)
 go_upto_region 14 with (first | (refine aQ rfl (.tmp 59) (.tmp 58) rfl rfl w6.heap.size 4 rfl rfl n (by simp) ?_; intro wq0 nq0 gq0))
 have hs15:=gq0.size
 replace o:=o.grown gq0 (aG (by omega))
 replace hrow:=hrow.grown gq0 (by omega)
 replace hR:=hR.grown gq0 (aH (by omega))
 replace hK:=hK.grown gq0 (aI (by omega))
 replace n:Own wq0 w6.heap.size (nD 8 a ⟨#[]⟩ nn' (.slice (some ⟨w14.heap.size,0,none⟩) 1 1)) 25:=nq0
 clear nq0 gq0
 generalize hw:wq0 = w15 at *
 clear hw
 go_wp2_with fail
 refine (fE hR (by omega)).mono ?_
 rintro en w16 ⟨⟨_,rfl⟩,hR2,hK2⟩
 have hs16:=(((Kp.refl r w15)).trans hK2).size
 replace o:=o.kp hK2 (by omega)
 replace n:=n.kp hK2 (by omega)
 replace hrow:=hrow.kp hK2 (by omega)
 replace hK:=hK.trans hK2
 replace hR:=hR2
 clear hK2 hR2
 obtain ⟨n0,n1,n2,n3,n4,nf⟩:=n.five
 go_wp2_with (refine aF rfl (.tmp 2) (.tmp 62) rfl rfl w.heap.size rfl rfl (o) ⟨rfl,rfl,rfl,rfl,rfl⟩ ?_; intro wz oz gz)
 refine aC (t:=25) rfl rfl rfl oz Tryz.underlying25 rfl (by kernel_rfl) ?_
 exact ⟨_,_,_,_,_,rfl,⟨rfl,ht.2.2.2.1,rfl,ht'.2.2.1,(hrow.grown gz (by omega)).mono (by omega)⟩,hR.grown gz (aH (by omega)),hK.grown gz (aI (by omega))⟩
def jE (t:Tok):Prop:=(dN t∧t.2.2.1≤18446744073709551615)∧(t.1 = 1→∃ c r,t.2.1 = c :: r∧bO c = true∧fL t.2.1 = t.2.1.length)∧(t.1 = 4→t.2.1 ∈ fY)
theorem yX0 (E:Nat):jE (0,[],0,E,0):=⟨⟨⟨by simp,by simp⟩,by simp⟩,fun h=>absurd h (by decide:¬ (0:Nat) = 1),fun h=>absurd h (by decide:¬ (0:Nat) = 4)⟩
def aR (x:List Nat) (t:Tok):Bool:=(t.2.1 == x) && (t.1 == 4 || t.1 == 1)
theorem aX {x:List Nat} {t:Tok} (h:jE t) (hx:∀ c r,x = c :: r→bO c = false):aR x t = sg x t:=by
 unfold aR sg
 cases hb:(t.2.1 == x) with
 | false=>simp
 | true=>?_
 have hb:t.2.1 = x:=by simpa using hb
 by_cases h1:t.1 = 1
 · obtain ⟨c,r,e,hl,_⟩:=h.2.1 h1
   rw [hb] at e
   rw [hx c r e] at hl
   cases hl
 have:(t.1 == 1) = false:=by simpa using h1
 simp [this]
theorem cG {x:List Nat} {t:Tok} (h:jE t) (hx:x ∉ fY):aR x t = wd x t:=by
 unfold aR wd
 cases hb:(t.2.1 == x) with
 | false=>simp
 | true=>?_
 have hb:t.2.1 = x:=by simpa using hb
 by_cases h4:t.1 = 4
 · have:=h.2.2 h4
   rw [hb] at this
   exact absurd this hx
 have:(t.1 == 4) = false:=by simpa using h4
 simp [this]
theorem vO0 {t:Tok} (h:jE t):(t.1 == 1 && !kC t.2.1) = nm t:=by
 unfold nm
 cases hb:(t.1 == 1) with
 | false=>rfl
 | true=>?_
 have h1:t.1 = 1:=by simpa using hb
 obtain ⟨c,r,e,hl,hw⟩:=h.2.1 h1
 have:jZ t.2.1 = !kC t.2.1:=by
  rw [e] at hw ⊢
  unfold jZ
  simp only [hl,hw,decide_true,Bool.true_and]
 rw [this]
def ZAt (w:World) (r E d:Nat) (s:St):Prop:=∃ (v:Value) (L:List Tok) (a:Nat) (dd pl:Int),Own w r #[v,.int .i64 (a:Int),.int .i64 (E:Int),.int .i64 dd,.int .i64 (s.wrong:Int),.int .i64 pl] 61∧iH w r v L∧(∀ t ∈ L,jE t)∧a≤L.length ∧
 ((s.wrong = 0∧s.rest = L.drop a∧dd = (d:Int)∧d≤64)∨(s.wrong ≠ 0∧s.rest = []∧pl = (s.place:Int)))
theorem Own.six {w:World} {g:Nat} {a0 a1 a2 a3 a4 a5:Value} {t:TypeId} (h:Own w g #[a0,a1,a2,a3,a4,a5] t):w.cell? ⟨g,0,none⟩ = some a0∧w.cell? ⟨g,1,none⟩ = some a1∧w.cell? ⟨g,2,none⟩ = some a2∧w.cell? ⟨g,3,none⟩ = some a3∧w.cell? ⟨g,4,none⟩ = some a4∧w.cell? ⟨g,5,none⟩ = some a5∧∀ j,w.frozen? ⟨g,j,none⟩ = false :=
 ⟨cell_of_row _ g 0 _ _ _ h,cell_of_row _ g 1 _ _ _ h,cell_of_row _ g 2 _ _ _ h,cell_of_row _ g 3 _ _ _ h,cell_of_row _ g 4 _ _ _ h,cell_of_row _ g 5 _ _ _ h,fun j=>by unfold Own at h; simp [World.frozen?,h]⟩
theorem ZAt.lt {w:World} {r E d:Nat} {s:St} (h:ZAt w r E d s):r < w.heap.size:=by
 obtain ⟨v,L,a,dd,pl,ho,_⟩:=h
 exact ho.lt
theorem iH.kp {w w':World} {r r':Nat} {v:Value} {ts:List Tok} (h:iH w r v ts) (hk:∀ g,g < r→w'.heap[g]? = w.heap[g]?):iH w' r v ts:=h.on hk
theorem ZAt.on {w w':World} {r E d:Nat} {s:St} (h:ZAt w r E d s) (hk:∀ g,g < w.heap.size→w'.heap[g]? = w.heap[g]?):ZAt w' r E d s:=by
 obtain ⟨v,L,a,dd,pl,ho,ht,hr⟩:=h
 exact ⟨v,L,a,dd,pl,(hk r ho.lt).trans ho,ht.on fun g hg=>hk g (Nat.lt_trans hg ho.lt),hr⟩
theorem ZAt.below {w w':World} {r E d:Nat} {s:St} (h:ZAt w r E d s) (hb:Below w.heap.size w w'):ZAt w' r E d s:=h.on hb.block
theorem ZAt.alloc {w:World} {r E d:Nat} {s:St} (h:ZAt w r E d s) (o:Obj):ZAt (w.alloc o) r E d s:=h.below ((Below.refl _ _).alloc (Nat.le_refl _) o)
theorem ZAt.dead {w:World} {r E d d':Nat} {s:St} (h:ZAt w r E d s) (hw:s.wrong ≠ 0):ZAt w r E d' s:=by
 obtain ⟨v,L,a,dd,pl,ho,ht,hwf,ha,hs⟩:=h
 rcases hs with hs | hs
 · exact absurd hs.1 hw
 exact ⟨v,L,a,dd,pl,ho,ht,hwf,ha,.inr hs⟩
theorem ZAt.iv {w:World} {r E d:Nat} {s:St} (h:ZAt w r E d s):Iv s:=by
 obtain ⟨v,L,a,dd,pl,ho,ht,hw,ha,h⟩:=h
 intro hne
 rcases h with h | h
 · exact absurd h.1 hne
 exact h.2.1
theorem ZAt.nxt_wf {w:World} {r E d:Nat} {s:St} (h:ZAt w r E d s) (i:Nat):jE (bE E s i):=by
 obtain ⟨v,L,a,dd,pl,ho,ht,hw,ha,h⟩:=h
 unfold bE
 rw [List.getD_eq_getElem?_getD]
 cases hq:s.rest[i]? with
 | none=>exact yX0 E
 | some t=>?_
 have hm:=List.mem_of_getElem? hq
 rcases h with h | h
 · rw [h.2.1] at hm; exact hw t (List.mem_of_mem_drop hm)
 rw [h.2.1] at hm; cases hm
end Go.Proofs.YtnipenijihkgdaaGreatDoor
