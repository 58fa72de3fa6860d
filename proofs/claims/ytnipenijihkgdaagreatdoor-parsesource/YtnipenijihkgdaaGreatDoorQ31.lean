import Derived.Test.YtnipenijihkgdaaGreatDoorNd
import Derived.Test.YtnipenijihkgdaaGreatDoorQ26
set_option maxHeartbeats 2000000
set_option maxRecDepth 100000
namespace Go.Proofs.YtnipenijihkgdaaGreatDoor
open Go.RowKit
set_option linter.unusedVariables false
theorem eL0 {rec expr:P Tree} {stmts:P (List Tree)} {c:Nat} (HR:bH 155 rec c) (HP:bH 25 expr c) (HB:bH 78 (cN stmts) c):bH 155 (lG rec expr stmts) (c + 1):=by
 intro w r E d s t s' hR hE hd hm
 have hrl:=hR.lt
 have hK:=Kp.refl r w
 obtain ⟨tk,s1,h1,h2⟩:=aE hm
 obtain ⟨rfl,rfl⟩:=aV h1
 obtain ⟨x1,s2,h3,h4⟩:=aE h2
 obtain ⟨x2,s3,h5,h6⟩:=aE h4
 replace h6:=aN h6
 obtain ⟨k,tx,nn,a,e,ht⟩:=bZ (nxt E s)
 obtain ⟨q,hq⟩:=iQ (isT 1 [⟨#[101,108,115,101]⟩] (nxt E s3))
 have hq2:wd [101,108,115,101] (nxt E s3) = q:=(gG _ _).symm.trans hq
 rw [hq2] at h6
 clear hq2 hm h1 h2 h4
 go_enter Tryz.func155,Tryz.ntmps155
 go_upto_region 1 with fail
 have hzo:=hR.lt
 have hko:=hK.size
 have o:=Own.new w nZ 25
 replace hR:=hR.alloc (.cells nZ 25)
 replace hK:=hK.alloc (.cells nZ 25)
 generalize w.alloc _ = w1 at hR hK o ⊢
 have hs1:=o.lt
 go_wp2_with fail
 refine (cH hR hE ht).mono ?_
 rintro en w2 ⟨rfl,hR2,hK2⟩
 have hs2:=(((Kp.refl r w1)).trans hK2).size
 replace o:=o.kp hK2 (by omega)
 replace hK:=hK.trans hK2
 replace hR:=hR2
 clear hK2 hR2
 go_wp2_with fail
 refine (HP _ _ _ _ _ _ _ hR hE (by omega) h3).mono ?_
 rintro en w3 ⟨k1,a1,b1,n1x,v1,rfl,n1,hR2,hK2⟩
 have hs3:=(((Kp.refl r w2)).trans hK2).size
 replace o:=o.kp hK2 (by omega)
 replace hK:=hK.trans hK2
 replace hR:=hR2
 clear hK2 hR2
 have n1i:=KI.refl w2.heap.size w3.heap.size w3
 go_wp2_with fail
 refine (HB _ _ _ _ _ _ _ hR hE (by omega) h5).mono ?_
 rintro en w4 ⟨k2,a2,b2,n2x,v2,rfl,n2,hR2,hK2⟩
 have hs4:=(((Kp.refl r w3)).trans hK2).size
 replace o:=o.kp hK2 (by omega)
 replace n1i:=n1i.kp (by omega) (((Kp.refl r _)).trans hK2) (by omega)
 replace hK:=hK.trans hK2
 replace hR:=hR2
 clear hK2 hR2
 have n2i:=KI.refl w3.heap.size w4.heap.size w4
 have hA:=(n1.q.imp (Q':=fun g=>w2.heap.size≤g∧g < w3.heap.size) fun g g1 g2=>⟨g2,g1⟩).on fun g hg cur ho=>(n1i g hg.1 hg.2).trans ho
 have hC:=n2.q.imp (Q':=fun g=>w2.heap.size≤g∧w3.heap.size≤g) fun g _ g2=>⟨by omega,g2⟩
 have hrow:Row (w4.alloc (.cells #[.int .u8 k1,.int .i64 a1,.string b1,.int .u64 n1x,v1,.int .u8 k2,.int .i64 a2,.string b2,.int .u64 n2x,v2] 25)) w2.heap.size _ [x1,x2]:=bK.two w3.heap.size hA hC (by omega)
 clear n1i n2i n1 n2 hA hC
 go_upto_region 3 with fail
 have hsz0:(w4.alloc (.cells #[.int .u8 k1,.int .i64 a1,.string b1,.int .u64 n1x,v1,.int .u8 k2,.int .i64 a2,.string b2,.int .u64 n2x,v2] 25)).heap.size = w4.heap.size + 1:=World.size_alloc _ _
 obtain ⟨hR,hK,o⟩:=(fun y9=>And.intro (hR.alloc y9) (And.intro (hK.alloc y9) (o.alloc y9))) (.cells #[.int .u8 k1,.int .i64 a1,.string b1,.int .u64 n1x,v1,.int .u8 k2,.int .i64 a2,.string b2,.int .u64 n2x,v2] 25)
 have m:=Own.new (w4.alloc (.cells #[.int .u8 k1,.int .i64 a1,.string b1,.int .u64 n1x,v1,.int .u8 k2,.int .i64 a2,.string b2,.int .u64 n2x,v2] 25)) (nD 14 a ⟨#[]⟩ 0 (.slice (some ⟨w4.heap.size,0,none⟩) 2 2)) 25
 rw [hsz0] at m
 generalize w4.alloc _ = wb0 at hR hK o hrow hsz0 m ⊢
 have hsx:wb0.heap.size < (wb0.alloc (.cells (nD 14 a ⟨#[]⟩ 0 (.slice (some ⟨w4.heap.size,0,none⟩) 2 2)) 25)).heap.size:=by rw [World.size_alloc]; omega
 obtain ⟨hR,hK,o⟩:=(fun y9=>And.intro (hR.alloc y9) (And.intro (hK.alloc y9) (o.alloc y9))) (.cells (nD 14 a ⟨#[]⟩ 0 (.slice (some ⟨w4.heap.size,0,none⟩) 2 2)) 25)
 have hrowi:=(KI.refl w2.heap.size wb0.heap.size wb0).alloc (Nat.le_refl _) (.cells (nD 14 a ⟨#[]⟩ 0 (.slice (some ⟨w4.heap.size,0,none⟩) 2 2)) 25)
 generalize wb0.alloc _ = wb at hR hK o hrowi hsx m ⊢
 clear h3 h5
 go_wp2_with fail
 refine (cW (hR.alloc _) hE (xs:=[⟨#[101,108,115,101]⟩]) (Own.new wb _ _) 1 rfl (by omega) q hq).mono ?_
 rintro en w5 ⟨rfl,hR2,hb⟩
 have hs5:=(((Kp.refl r wb).alloc _).trans (Kp.of hb)).size
 replace o:=(o.alloc _).below hb
 replace m:=(m.alloc _).below hb
 replace hrowi:=hrowi.kp (by omega) (((Kp.refl r _).alloc _).trans (Kp.of hb)) (by omega)
 replace hK:=(hK.alloc _).trans (Kp.of hb)
 replace hR:=hR2
 clear hb hR2 hq
 cases q with
 | false =>
  rw [if_neg (by simp)] at h6
  obtain ⟨rfl,rfl⟩:=aJ h6
  obtain ⟨m0,m1,m2,m3,m4,mf⟩:=m.five
  go_wp2_with (refine aF rfl (.tmp 2) (.tmp 24) rfl rfl w.heap.size rfl rfl (o) ⟨rfl,rfl,rfl,rfl,rfl⟩ ?_; intro wz oz gz)
  refine aC (t:=25) rfl rfl rfl oz Tryz.underlying25 rfl (by kernel_rfl) ?_
  exact ⟨_,_,_,_,_,rfl,⟨rfl,ht.2.2.2.1,rfl,rfl,((hrow.ki (hrowi.grown (by omega) gz (by omega)) (Nat.le_refl _)).mono (by omega))⟩,hR.grown gz (aH (by omega)),hK.grown gz (aI (by omega))⟩
 | true=>?_
 rw [if_pos rfl] at h6
 obtain ⟨tk2,s4,h7,h8⟩:=aE h6
 obtain ⟨rfl,rfl⟩:=aV h7
 replace h8:=aN h8
 obtain ⟨k',tx',nn',a',e',ht'⟩:=bZ (nxt E s3)
 obtain ⟨q,hq⟩:=iQ (isT 1 [⟨#[105,102]⟩] (nxt E (aS s3)))
 have hq2:wd [105,102] (nxt E (aS s3)) = q:=(gG _ _).symm.trans hq
 rw [hq2] at h8
 clear hq2 h6 h7
 go_wp2_with fail
 refine (cH hR hE ht').mono ?_
 rintro en w6 ⟨rfl,hR2,hK2⟩
 have hs6:=(((Kp.refl r w5)).trans hK2).size
 replace o:=o.kp hK2 (by omega)
 replace m:=m.kp hK2 (by omega)
 replace hrowi:=hrowi.kp (by omega) (((Kp.refl r _)).trans hK2) (by omega)
 replace hK:=hK.trans hK2
 replace hR:=hR2
 clear hK2 hR2
 go_upto_region 6 with fail
 have hzp:=hR.lt
 have hkp:=hK.size
 have p:=Own.new w6 #[.int .u8 k',.string tx',.int .u64 nn',.int .i64 a',.int .i64 e'] 65
 obtain ⟨hR,hK,o,m⟩:=(fun y9=>And.intro (hR.alloc y9) (And.intro (hK.alloc y9) (And.intro (o.alloc y9) (m.alloc y9)))) (.cells #[.int .u8 k',.string tx',.int .u64 nn',.int .i64 a',.int .i64 e'] 65)
 replace hrowi:=hrowi.alloc (by omega) (.cells #[.int .u8 k',.string tx',.int .u64 nn',.int .i64 a',.int .i64 e'] 65)
 generalize w6.alloc _ = w7 at hR hK p o m hrowi ⊢
 have hs7:=p.lt
 go_wp2_with fail
 refine (cW (hR.alloc _) hE (xs:=[⟨#[105,102]⟩]) (Own.new w7 _ _) 1 rfl (by omega) q hq).mono ?_
 rintro en w8 ⟨rfl,hR2,hb⟩
 have hs8:=(((Kp.refl r w7).alloc _).trans (Kp.of hb)).size
 replace o:=(o.alloc _).below hb
 replace m:=(m.alloc _).below hb
 replace p:=(p.alloc _).below hb
 replace hrowi:=hrowi.kp (by omega) (((Kp.refl r _).alloc _).trans (Kp.of hb)) (by omega)
 replace hK:=(hK.alloc _).trans (Kp.of hb)
 replace hR:=hR2
 clear hb hR2 hq
 cases q with
 | false =>
  rw [if_neg (by simp)] at h8
  obtain ⟨x3,s5,h9,h10⟩:=aE h8
  obtain ⟨rfl,rfl⟩:=aJ h10
  clear h8 h10
  have hnb:=m.lt
  obtain ⟨m0,m1,m2,m3,m4,mf⟩:=m.five
  have hrow2:=hrow.q_ki (x:=(w4.heap.size + 1)) hrowi (Nat.le_refl _) (by omega)
  go_wp2_with fail
  have hfx:=dU0
  go_region_law (first | (refine fG (by rfl) 78 (.tmp 37) 41 (by rfl) hfx _ (by rfl) (HB _ r E d _ x3 s5 hR.drew hE (by omega) h9) ?_; rintro en wa7 ⟨k1,a1,b1,n1x,v1,rfl,hN,hR7,hK7⟩; refine ⟨_,rfl,?_⟩; have n7:=m.drew.kp hK7 (by omega); obtain ⟨nq0,nq1,nq2,nq3,nq4,nqf⟩:=n7.five; have hs7:=hK7.size; rw [World.size_drew] at hs7; have hl7:=n7.lt) | (refine mA (by rfl) (.tmp 36) (.tmp 39) (by rfl) (fun g=>w2.heap.size≤g∧g ≠ (w4.heap.size + 1)) _ [x1,x2] (by rfl) _ (hrow2.on fun g hg cur ho=>ho.drew) (fun g cur hg ho=>ho.kp (hK7.alloc _) (by omega)) x3 k1 a1 b1 n1x v1 wa7.heap.size (by rfl) (Own.new wa7 _ _) ((hN.q.imp fun g g1 g2=>⟨g2,by rw [World.size_drew] at g2; exact ⟨by omega,by omega⟩⟩).on fun g hg cur ho=>ho.alloc _) (by simp) (by rw [World.size_drew,World.size_alloc]; omega) (by rw [World.size_alloc]; exact ⟨by omega,by omega⟩) ?_; intro ao8 cap8 wa8 hrow8 gz8 hvb8; rw [World.size_drew] at hvb8; have n8:=(n7.alloc _).grown gz8 (fun e=>(hvb8 _ e.symm).1.2 rfl); obtain ⟨p0,p1,p2,p3,p4,pf⟩:=n8.five))
  all_goals
   have hll9:([x1,x2] ++ [x3]).length = 3:=by simp
   rw [hll9] at hrow8
   have hR9:=((hR7.alloc (.cells (nD k1 a1 b1 n1x v1) 25)).grown gz8 (fun k hk=>by have:=(hvb8 k hk).1; omega)).set (i:=4) (g:=(w4.heap.size + 1)) (by omega) (.slice ao8 (3) cap8)
   have hK9:=(((hK.drew.trans (hK7.alloc (.cells (nD k1 a1 b1 n1x v1) 25))).grown gz8 (fun k hk=>by have:=(hvb8 k hk).1; omega)).set (g:=(w4.heap.size + 1)) (.inl (by omega)) 4 (.slice ao8 (3) cap8))
   have o9:=(((o.drew.kp hK7 (by omega)).alloc (.cells (nD k1 a1 b1 n1x v1) 25)).grown gz8 (fun e=>by have:=(hvb8 _ e.symm).1; omega)).other (g':=(w4.heap.size + 1)) (i:=4) (by omega) (.slice ao8 (3) cap8)
   have m9:=n8.set 4 (.slice ao8 (3) cap8)
   have hrow9:Row _ w2.heap.size _ _:=bK.row ((hrow8.on fun g hg cur ho=>ho.other (g':=(w4.heap.size + 1)) (i:=4) hg.2 (.slice ao8 (3) cap8)).imp fun g _ h=>h.1)
   have hs8:=gz8.size
   rw [World.size_alloc] at hs8
   have hs9:wa7.heap.size < (wa8.setCell ⟨(w4.heap.size + 1),4,none⟩ (.slice ao8 (3) cap8)).heap.size:=by rw [World.size_setCell]; omega
   generalize hw:wa8.setCell ⟨(w4.heap.size + 1),4,none⟩ (.slice ao8 (3) cap8) = wa9 at hR9 hK9 hrow9 hs9 m9 o9 ⊢
   clear hw hrow8 gz8 hvb8 n8 p0 p1 p2 p3 p4 pf hN hR7 hK7 n7 nq0 nq1 nq2 nq3 nq4 nqf hrow2 m0 m1 m2 m3 m4 mf
   replace hR:=hR9
   replace hK:=hK9
   clear hR9 hK9
   replace o:=o9
   clear o9
   replace m:Own wa9 (w4.heap.size + 1) (nD 14 a ⟨#[]⟩ 0 (.slice ao8 (3) cap8)) 25:=m9
   clear m9 hrow hrowi
   have hrow:=hrow9
   clear hrow9
   have hrowi:=KI.refl w2.heap.size wa9.heap.size wa9
   obtain ⟨m0,m1,m2,m3,m4,mf⟩:=m.five
   go_wp2_with (refine aF rfl (.tmp 2) (.tmp 42) rfl rfl w.heap.size rfl rfl (o) ⟨rfl,rfl,rfl,rfl,rfl⟩ ?_; intro wz oz gz)
   refine aC (t:=25) rfl rfl rfl oz Tryz.underlying25 rfl (by kernel_rfl) ?_
   exact ⟨_,_,_,_,_,rfl,⟨rfl,ht.2.2.2.1,rfl,rfl,((hrow.ki (hrowi.grown (by omega) gz (by omega)) (Nat.le_refl _)).mono (by omega))⟩,hR.grown gz (aH (by omega)),hK.grown gz (aI (by omega))⟩
 | true=>?_
 rw [if_pos rfl] at h8
 obtain ⟨x3,s5,h9,h10⟩:=aE h8
 obtain ⟨rfl,rfl⟩:=aJ h10
 unfold eK at h9
 clear h8 h10
 obtain ⟨p0,p1,p2,p3,p4,pf⟩:=p.five
 go_wp2_with fail
 refine (lA hR (by omega) ht').mono ?_
 rintro en w9 ⟨⟨_,rfl⟩,hR2,hK2⟩
 have hs9:=(((Kp.refl r w8)).trans hK2).size
 replace o:=o.kp hK2 (by omega)
 replace m:=m.kp hK2 (by omega)
 replace p:=p.kp hK2 (by omega)
 replace hrowi:=hrowi.kp (by omega) (((Kp.refl r _)).trans hK2) (by omega)
 replace hK:=hK.trans hK2
 replace hR:=hR2
 clear hK2 hR2 p0 p1 p2 p3 p4 pf
 have hnb:=m.lt
 obtain ⟨m0,m1,m2,m3,m4,mf⟩:=m.five
 have hrow2:=hrow.q_ki (x:=(w4.heap.size + 1)) hrowi (Nat.le_refl _) (by omega)
 go_wp2_with fail
 have hfx:=kK0
 go_region_law (first | (refine fG (by rfl) 155 (.tmp 48) 41 (by rfl) hfx _ (by rfl) (HR _ r E (d + 1) _ x3 s5 hR.drew hE (by omega) h9) ?_; rintro en wa7 ⟨k1,a1,b1,n1x,v1,rfl,hN,hR7,hK7⟩; refine ⟨_,rfl,?_⟩; have n7:=m.drew.kp hK7 (by omega); obtain ⟨nq0,nq1,nq2,nq3,nq4,nqf⟩:=n7.five; have hs7:=hK7.size; rw [World.size_drew] at hs7; have hl7:=n7.lt) | (refine mA (by rfl) (.tmp 47) (.tmp 50) (by rfl) (fun g=>w2.heap.size≤g∧g ≠ (w4.heap.size + 1)) _ [x1,x2] (by rfl) _ (hrow2.on fun g hg cur ho=>ho.drew) (fun g cur hg ho=>ho.kp (hK7.alloc _) (by omega)) x3 k1 a1 b1 n1x v1 wa7.heap.size (by rfl) (Own.new wa7 _ _) ((hN.q.imp fun g g1 g2=>⟨g2,by rw [World.size_drew] at g2; exact ⟨by omega,by omega⟩⟩).on fun g hg cur ho=>ho.alloc _) (by simp) (by rw [World.size_drew,World.size_alloc]; omega) (by rw [World.size_alloc]; exact ⟨by omega,by omega⟩) ?_; intro ao8 cap8 wa8 hrow8 gz8 hvb8; rw [World.size_drew] at hvb8; have n8:=(n7.alloc _).grown gz8 (fun e=>(hvb8 _ e.symm).1.2 rfl); obtain ⟨p0,p1,p2,p3,p4,pf⟩:=n8.five))
 all_goals
  have hll9:([x1,x2] ++ [x3]).length = 3:=by simp
  rw [hll9] at hrow8
  have hR9:=((hR7.alloc (.cells (nD k1 a1 b1 n1x v1) 25)).grown gz8 (fun k hk=>by have:=(hvb8 k hk).1; omega)).set (i:=4) (g:=(w4.heap.size + 1)) (by omega) (.slice ao8 (3) cap8)
  have hK9:=(((hK.drew.trans (hK7.alloc (.cells (nD k1 a1 b1 n1x v1) 25))).grown gz8 (fun k hk=>by have:=(hvb8 k hk).1; omega)).set (g:=(w4.heap.size + 1)) (.inl (by omega)) 4 (.slice ao8 (3) cap8))
  have o9:=(((o.drew.kp hK7 (by omega)).alloc (.cells (nD k1 a1 b1 n1x v1) 25)).grown gz8 (fun e=>by have:=(hvb8 _ e.symm).1; omega)).other (g':=(w4.heap.size + 1)) (i:=4) (by omega) (.slice ao8 (3) cap8)
  have m9:=n8.set 4 (.slice ao8 (3) cap8)
  have hrow9:Row _ w2.heap.size _ _:=bK.row ((hrow8.on fun g hg cur ho=>ho.other (g':=(w4.heap.size + 1)) (i:=4) hg.2 (.slice ao8 (3) cap8)).imp fun g _ h=>h.1)
  have hs8:=gz8.size
  rw [World.size_alloc] at hs8
  have hs9:wa7.heap.size < (wa8.setCell ⟨(w4.heap.size + 1),4,none⟩ (.slice ao8 (3) cap8)).heap.size:=by rw [World.size_setCell]; omega
  generalize hw:wa8.setCell ⟨(w4.heap.size + 1),4,none⟩ (.slice ao8 (3) cap8) = wa9 at hR9 hK9 hrow9 hs9 m9 o9 ⊢
  clear hw hrow8 gz8 hvb8 n8 p0 p1 p2 p3 p4 pf hN hR7 hK7 n7 nq0 nq1 nq2 nq3 nq4 nqf hrow2 m0 m1 m2 m3 m4 mf
  replace hR:=hR9
  replace hK:=hK9
  clear hR9 hK9
  replace o:=o9
  clear o9
  replace m:Own wa9 (w4.heap.size + 1) (nD 14 a ⟨#[]⟩ 0 (.slice ao8 (3) cap8)) 25:=m9
  clear m9 hrow hrowi
  have hrow:=hrow9
  clear hrow9
  have hrowi:=KI.refl w2.heap.size wa9.heap.size wa9
  go_wp2_with fail
  refine (fE hR (by omega)).mono ?_
  rintro en w10 ⟨⟨_,rfl⟩,hR2,hK2⟩
  have hs10:=(((Kp.refl r wa9)).trans hK2).size
  replace o:=o.kp hK2 (by omega)
  replace m:=m.kp hK2 (by omega)
  replace hrowi:=hrowi.kp (by omega) (((Kp.refl r _)).trans hK2) (by omega)
  replace hK:=hK.trans hK2
  replace hR:=hR2
  clear hK2 hR2
  obtain ⟨m0,m1,m2,m3,m4,mf⟩:=m.five
  go_wp2_with (refine aF rfl (.tmp 2) (.tmp 55) rfl rfl w.heap.size rfl rfl (o) ⟨rfl,rfl,rfl,rfl,rfl⟩ ?_; intro wz oz gz)
  refine aC (t:=25) rfl rfl rfl oz Tryz.underlying25 rfl (by kernel_rfl) ?_
  exact ⟨_,_,_,_,_,rfl,⟨rfl,ht.2.2.2.1,rfl,rfl,((hrow.ki (hrowi.grown (by omega) gz (by omega)) (Nat.le_refl _)).mono (by omega))⟩,hR.grown gz (aH (by omega)),hK.grown gz (aI (by omega))⟩
def nD0 (m:P Tree) (j c:Nat):Prop:=∀ (z:Int),z = 5 - (j:Int)→∀ (w:World) (r E d:Nat) (s:St) (t:Tree) (s':St),cF w r E d s→E≤1048576→d + c≤1000000000→m E d s = some (t,s')→Calls Tryz.prog 43 #[.pointer (some ⟨r,0,none⟩),.int .i64 z] w (lX w r E d t s')
def uZ0 (w:World) (r E d:Nat) (k:Nat) (next:P Tree) (t:Tree) (s':St) (B g4 g5:Nat) (g:Nat) (wr:World):Prop :=
 ∃ (n:Tree) (sl:St) (kk a:Int) (b:ByteArray) (nn:Int) (ao:Option Addr) (cap:Nat),mB k next g n E d sl = some (t,s')∧cF wr r E d sl∧Own wr g5 (nQ kk a b nn ao n cap) 25∧Own wr g4 nZ 25 ∧
  aZ wr (fun g=>B≤g∧g ≠ g5) n kk a b nn (.slice ao n.kids.length cap)∧Kp r w wr∧g5 < wr.heap.size
theorem oR0 {unary:P Tree} {c:Nat} (HU:bH 93 unary c) (f:Nat) (hf:f≤100000000):∀ j:Nat,j≤5→nD0 (lQ unary f j) j c:=by
 intro j
 induction j with
 | zero =>
  intro hj z hz w r E d s t s' hR hE hd hm
  have hrl:=hR.lt
  have hK:=Kp.refl r w
  have hz5:z = 5:=by omega
  subst hz5
  clear hz
  go_enter Tryz.func43,Tryz.ntmps43
  go_upto_region 1 with fail
  have hzo:=hR.lt
  have hko:=hK.size
  have o:=Own.new w nZ 25
  replace hR:=hR.alloc (.cells nZ 25)
  replace hK:=hK.alloc (.cells nZ 25)
  generalize w.alloc _ = w1 at hR hK o ⊢
  have hs1:=o.lt
  go_wp2_with fail
  refine (HU _ _ _ _ _ _ _ hR hE hd hm).mono ?_
  rintro en w2 ⟨k1,a1,b1,n1x,v1,rfl,n1,hR2,hK2⟩
  have hs2:=(((Kp.refl r w1)).trans hK2).size
  replace o:=o.kp hK2 (by omega)
  replace hK:=hK.trans hK2
  replace hR:=hR2
  clear hK2 hR2
  have n1i:=KI.refl w1.heap.size w2.heap.size w2
  go_wp2_with (refine aF rfl (.tmp 4) (.tmp 12) rfl rfl w.heap.size rfl rfl (o) ⟨rfl,rfl,rfl,rfl,n1.2.2.2.2.one1⟩ ?_; intro wz oz gz)
  refine aC (t:=25) rfl rfl rfl oz Tryz.underlying25 rfl (by kernel_rfl) ?_
  exact ⟨_,_,_,_,_,rfl,(n1.ki (n1i.grown (by omega) gz (by omega)) (Nat.le_refl _)).mono (by omega),hR.grown gz (aH (by omega)),hK.grown gz (aI (by omega))⟩
 | succ j ih=>?_
 intro hj z hz w r E d s t s' hR hE hd hm
 have hrl:=hR.lt
 have hK:=Kp.refl r w
 have hz0:0≤z∧z≤4:=by omega
 have hz5:(z == 5) = false:=by simp; omega
 have HZ1:Hid (z + 1 = 5 - (j:Int)):=by unfold Hid; omega
 have HWZ:Hid (IntKind.i64.wrap (z + 1) = z + 1):=by unfold Hid; rw [IntWalk.i64_left]; unfold wrap64; omega
 have HZ:Hid (z = ((4 - j:Nat):Int)):=by unfold Hid; omega
 have HI:Hid (nD0 (lQ unary f j) j c):=ih (by omega)
 clear ih hz
 obtain ⟨n0,s1,h1,h2⟩:=aE hm
 clear hm
 go_enter Tryz.func43,Tryz.ntmps43
 go_upto_region 1 with fail
 have hzo:=hR.lt
 have hko:=hK.size
 have o:=Own.new w nZ 25
 replace hR:=hR.alloc (.cells nZ 25)
 replace hK:=hK.alloc (.cells nZ 25)
 generalize w.alloc _ = w1 at hR hK o ⊢
 have hs1:=o.lt
 go_wp2_with fail
 refine (HI.out (z + 1) HZ1.out _ _ _ _ _ _ _ hR hE hd h1).mono ?_
 rintro en w2 ⟨k1,a1,b1,n1x,v1,rfl,n1,hR2,hK2⟩
 obtain ⟨ao_n1,cap_n1,rfl⟩:=n1.2.2.2.2.shape
 have hs2:=(((Kp.refl r w1)).trans hK2).size
 replace o:=o.kp hK2 (by omega)
 replace hK:=hK.trans hK2
 replace hR:=hR2
 clear hK2 hR2
 have n1i:=KI.refl w1.heap.size w2.heap.size w2
 clear h1
 go_wp2_with fail
 have m:=Own.new w2 (nQ k1 a1 b1 n1x ao_n1 n0 cap_n1) 25
 obtain ⟨hR,hK,o⟩:=(fun y9=>And.intro (hR.alloc y9) (And.intro (hK.alloc y9) (o.alloc y9))) (.cells (nQ k1 a1 b1 n1x ao_n1 n0 cap_n1) 25)
 have hsm:=m.lt
 have nq:aZ (w2.alloc (.cells (nQ k1 a1 b1 n1x ao_n1 n0 cap_n1) 25)) (fun g=>w1.heap.size≤g∧g ≠ w2.heap.size) n0 k1 a1 b1 n1x (.slice ao_n1 n0.kids.length cap_n1):=(n1.q.imp fun g h1 h2=>⟨h2,by omega⟩).on fun _ _ _ o=>o.alloc _
 generalize hw:w2.alloc (.cells (nQ k1 a1 b1 n1x ao_n1 n0 cap_n1) 25) = w3 at hR hK m o nq hsm ⊢
 clear hw n1 n1i
 go_loopg [] f (fun g wr=>uZ0 w r E d (4 - j) (lQ unary f j) t s' w1.heap.size w.heap.size w2.heap.size g wr)
 case atStart=>exact ⟨n0,s1,k1,a1,b1,n1x,ao_n1,cap_n1,h2,hR,m,o,nq,hK,hsm⟩
 case round =>
  clear hR hK m o nq h2 hsm
  obtain ⟨n,sl,k,a,b,nn,ao,cap,hm,hR,m,o,nq,hK,hsz⟩:=hrel
  cases gk with
  | zero=>cases hm
  | succ gk=>?_
  unfold mB at hm
  replace hm:=aN hm
  obtain ⟨k0,tx0,nn0,a0,e0,ht0⟩:=bZ (nxt E sl)
  have hgt:dN (nxt E sl):=mF hR 0
  obtain ⟨kb,hkb⟩:∃ kb:Int,((bX (nxt E sl)).1:Int) = kb:=⟨_,rfl⟩
  obtain ⟨ob,hob⟩:∃ ob:Int,((bX (nxt E sl)).2:Int) = ob:=⟨_,rfl⟩
  have HKB:=hI hkb
  have HOB:=hI hob
  go_wp2_with fail
  refine (fQ hR hE ht0).mono ?_
  rintro en w4 ⟨rfl,hb⟩
  have hR2:=hR.below hb
  have hs4:=(((Kp.refl r wr)).trans (Kp.of hb)).size
  replace o:=o.below hb
  replace m:=m.below hb
  replace nq:=nq.on fun _ _ _ o=>o.below hb
  replace hK:=hK.trans (Kp.of hb)
  replace hR:=hR2
  clear hb hR2
  have hpb:=aV0 w4 hgt ht0
  rw [hkb,hob] at hpb
  clear hkb hob
  go_wp2_with fail
  refine hpb.mono ?_
  clear hpb
  rintro en w5 ⟨rfl,hb⟩
  have hR2:=hR.below hb
  have hs5:=(((Kp.refl r w4)).trans (Kp.of hb)).size
  replace o:=o.below hb
  replace m:=m.below hb
  replace nq:=nq.on fun _ _ _ o=>o.below hb
  replace hK:=hK.trans (Kp.of hb)
  replace hR:=hR2
  clear hb hR2
  by_cases hb0:kb = 0
  · subst hb0
    rw [if_pos (.inl (by have:=HKB.out; omega))] at hm
    obtain ⟨rfl,rfl⟩:=aJ hm
    obtain ⟨m0,m1,m2,m3,m4,mf⟩:=m.five
    go_wp2_with (refine aF rfl (.tmp 4) (.tmp 32) rfl rfl w.heap.size rfl rfl (o) ⟨rfl,rfl,rfl,rfl,rfl⟩ ?_; intro wz oz gz)
    refine aC (t:=25) rfl rfl rfl oz Tryz.underlying25 rfl (by kernel_rfl) ?_
    exact ⟨_,_,_,_,_,rfl,((nq.on fun _ _ _ o=>o.grown gz (aG (by omega))).imp fun g _ h=>(by omega:w.heap.size≤g)).is,hR.grown gz (aH (by omega)),hK.grown gz (aI (by omega))⟩
  have hkb0:(kb == 0) = false:=by simpa using hb0
  by_cases hb1:ob = z
  · have hoz:(ob != z) = false:=by simpa using hb1
    rw [if_neg (by have:=HKB.out; have:=HOB.out; have:=HZ.out; omega)] at hm
    obtain ⟨tk,s2,h3,h4⟩:=aE hm
    obtain ⟨rfl,rfl⟩:=aV h3
    obtain ⟨t1,s3,h5,h6⟩:=aE h4
    clear hm h3 h4 hb0
    go_wp2_with fail
    refine (cH hR hE ht0).mono ?_
    rintro en w6 ⟨rfl,hR2,hK2⟩
    have hs6:=(((Kp.refl r w5)).trans hK2).size
    replace o:=o.kp hK2 (by omega)
    replace m:=m.kp hK2 (by omega)
    replace nq:=nq.on fun _ _ _ o=>o.kp hK2 (by omega)
    replace hK:=hK.trans hK2
    replace hR:=hR2
    clear hK2 hR2
    have hfx:=wF0
    have hms:=m.lt
    have HI2:=HI.out
    obtain ⟨m0,m1,m2,m3,m4,mf⟩:=m.five
    go_wp2_with fail
    go_region_law (refine xE (by rfl) 43 (.tmp 41) (.tmp 43) 41 3 (by rfl) hfx _ (.int .i64 (z + 1)) (by rfl) (Eq.trans (b:=Value.int .i64 (IntKind.i64.wrap (z + 1))) (by rfl) (by rw [HWZ.out])) (HI2 (z + 1) HZ1.out _ r E d _ t1 s3 hR.drew hE hd h5) ?_; rintro en w7 ⟨k2,a2,b2,n2,v2,rfl,hN2,hR7,hK7⟩; refine ⟨_,rfl,?_⟩; obtain ⟨ao2,cap2,rfl⟩:=hN2.q.shape; have m7:=m.drew.kp hK7 (by omega); obtain ⟨y0,y1,y2,y3,y4,yf⟩:=m7.five; have hs7:=hK7.size; rw [World.size_drew] at hs7; have hl7:=m7.lt)
    all_goals
     have hQ7:=((nq.imp (Q':=fun g=>(w1.heap.size≤g∧g ≠ w2.heap.size)∧g < w6.heap.size) fun g h1 h2=>⟨h2,h1⟩).on fun g hg cur ho=>(ho.drew.kp hK7 (by omega))).on fun g hg cur ho=>ho.other5 (g':=w2.heap.size) (by omega) (.int .u8 kb) (.int .i64 a0) (.string ⟨#[]⟩) (.int .u64 0) (.slice (some ⟨w7.heap.size,0,none⟩) 2 2)
     have hN7:=(hN2.q.imp (Q':=fun g=>(w1.heap.size≤g∧g ≠ w2.heap.size)∧w6.heap.size≤g) fun g _ h=>by rw [World.size_drew] at h; exact ⟨⟨by omega,by omega⟩,h⟩).on fun g hg cur ho=>ho.other5 (g':=w2.heap.size) (by omega) (.int .u8 kb) (.int .i64 a0) (.string ⟨#[]⟩) (.int .u64 0) (.slice (some ⟨w7.heap.size,0,none⟩) 2 2)
     have hrow:=bK.two w6.heap.size hQ7 hN7 (by rw [cR]; exact ⟨by omega,by omega⟩)
     rw [cR] at hrow
     have hR8:=(hR7.set5 (g:=w2.heap.size) (by omega) (.int .u8 kb) (.int .i64 a0) (.string ⟨#[]⟩) (.int .u64 0) (.slice (some ⟨w7.heap.size,0,none⟩) 2 2)).alloc (.cells #[.int .u8 k,.int .i64 a,.string b,.int .u64 nn,.slice ao n.kids.length cap,.int .u8 k2,.int .i64 a2,.string b2,.int .u64 n2,.slice ao2 t1.kids.length cap2] 25)
     have hK8:=((hK.drew.trans hK7).set5 (g:=w2.heap.size) (.inl (by omega)) (.int .u8 kb) (.int .i64 a0) (.string ⟨#[]⟩) (.int .u64 0) (.slice (some ⟨w7.heap.size,0,none⟩) 2 2)).alloc (.cells #[.int .u8 k,.int .i64 a,.string b,.int .u64 nn,.slice ao n.kids.length cap,.int .u8 k2,.int .i64 a2,.string b2,.int .u64 n2,.slice ao2 t1.kids.length cap2] 25)
     have m8:=(m7.set5 (.int .u8 kb) (.int .i64 a0) (.string ⟨#[]⟩) (.int .u64 0) (.slice (some ⟨w7.heap.size,0,none⟩) 2 2)).alloc (.cells #[.int .u8 k,.int .i64 a,.string b,.int .u64 nn,.slice ao n.kids.length cap,.int .u8 k2,.int .i64 a2,.string b2,.int .u64 n2,.slice ao2 t1.kids.length cap2] 25)
     have o8:=((o.drew.kp hK7 (by omega)).other5 (g':=w2.heap.size) (by omega) (.int .u8 kb) (.int .i64 a0) (.string ⟨#[]⟩) (.int .u64 0) (.slice (some ⟨w7.heap.size,0,none⟩) 2 2)).alloc (.cells #[.int .u8 k,.int .i64 a,.string b,.int .u64 nn,.slice ao n.kids.length cap,.int .u8 k2,.int .i64 a2,.string b2,.int .u64 n2,.slice ao2 t1.kids.length cap2] 25)
     have hs8:w7.heap.size≤(World.alloc (((((w7.setCell ⟨w2.heap.size,0,none⟩ (.int .u8 kb)).setCell ⟨w2.heap.size,1,none⟩ (.int .i64 a0)).setCell ⟨w2.heap.size,2,none⟩ (.string ⟨#[]⟩)).setCell ⟨w2.heap.size,3,none⟩ (.int .u64 0)).setCell ⟨w2.heap.size,4,none⟩ (.slice (some ⟨w7.heap.size,0,none⟩) 2 2)) (.cells #[.int .u8 k,.int .i64 a,.string b,.int .u64 nn,.slice ao n.kids.length cap,.int .u8 k2,.int .i64 a2,.string b2,.int .u64 n2,.slice ao2 t1.kids.length cap2] 25)).heap.size:=by rw [World.size_alloc,cR]; omega
     generalize hw:World.alloc (((((w7.setCell ⟨w2.heap.size,0,none⟩ (.int .u8 kb)).setCell ⟨w2.heap.size,1,none⟩ (.int .i64 a0)).setCell ⟨w2.heap.size,2,none⟩ (.string ⟨#[]⟩)).setCell ⟨w2.heap.size,3,none⟩ (.int .u64 0)).setCell ⟨w2.heap.size,4,none⟩ (.slice (some ⟨w7.heap.size,0,none⟩) 2 2)) (.cells #[.int .u8 k,.int .i64 a,.string b,.int .u64 nn,.slice ao n.kids.length cap,.int .u8 k2,.int .i64 a2,.string b2,.int .u64 n2,.slice ao2 t1.kids.length cap2] 25) = w8 at hrow hR8 hK8 m8 o8 hs8 ⊢
     clear hw hQ7 hN7 hR7 hK7 m7 y0 y1 y2 y3 y4 yf m0 m1 m2 m3 m4 mf
     have hNew:aZ w8 (fun g=>w1.heap.size≤g∧g ≠ w2.heap.size) ⟨(bX (nxt E sl)).1,(nxt E sl).2.2.2.1,[],0,[n,t1]⟩ kb a0 ⟨#[]⟩ 0 (.slice (some ⟨w7.heap.size,0,none⟩) 2 2):=⟨HKB.out.symm,ht0.2.2.2.1,rfl,rfl,hrow⟩
     by_cases hz2:z = 2
     · subst hz2
       rw [if_pos (by have:=HZ.out; omega)] at h6
       obtain ⟨rfl,rfl⟩:=aJ h6
       obtain ⟨q0,q1,q2,q3,q4,qf⟩:=m8.five
       go_wp2_with (refine aF rfl (.tmp 4) (.tmp 49) rfl rfl w.heap.size rfl rfl o8 ⟨rfl,rfl,rfl,rfl,rfl⟩ ?_; intro wz oz gz)
       refine aC (t:=25) rfl rfl rfl oz Tryz.underlying25 rfl (by kernel_rfl) ?_
       exact ⟨_,_,_,_,_,rfl,((hNew.on fun _ _ _ o=>o.grown gz (aG (by omega))).imp fun g _ h=>(by omega:w.heap.size≤g)).is,hR8.grown gz (aH (by omega)),hK8.grown gz (aI (by omega))⟩
     have hz2b:(z == 2) = false:=by simpa using hz2
     rw [if_neg (by have:=HZ.out; omega)] at h6
     go_wp2
     go_roundg gk
     case rel=>exact ⟨_,s3,_,_,_,_,_,_,h6,hR8,m8,o8,hNew,hK8,by omega⟩
     case measure=>omega
  have hoz:(ob != z) = true:=by simpa using hb1
  rw [if_pos (.inr (by have:=HOB.out; have:=HZ.out; omega))] at hm
  obtain ⟨rfl,rfl⟩:=aJ hm
  obtain ⟨m0,m1,m2,m3,m4,mf⟩:=m.five
  go_wp2_with (refine aF rfl (.tmp 4) (.tmp 32) rfl rfl w.heap.size rfl rfl (o) ⟨rfl,rfl,rfl,rfl,rfl⟩ ?_; intro wz oz gz)
  refine aC (t:=25) rfl rfl rfl oz Tryz.underlying25 rfl (by kernel_rfl) ?_
  exact ⟨_,_,_,_,_,rfl,((nq.on fun _ _ _ o=>o.grown gz (aG (by omega))).imp fun g _ h=>(by omega:w.heap.size≤g)).is,hR.grown gz (aH (by omega)),hK.grown gz (aI (by omega))⟩
theorem sX0 {unary:P Tree} {c:Nat} (HU:bH 93 unary c) (f:Nat) (hf:f≤100000000):bH 25 (lQ unary f 5) c:=by
 intro w r E d s t s' hR hE hd hm
 have hrl:=hR.lt
 have hK:=Kp.refl r w
 have HL:=oR0 HU f hf 5 (Nat.le_refl _)
 go_enter Tryz.func25,Tryz.ntmps25
 go_upto_region 1 with fail
 have hzo:=hR.lt
 have hko:=hK.size
 have o:=Own.new w nZ 25
 replace hR:=hR.alloc (.cells nZ 25)
 replace hK:=hK.alloc (.cells nZ 25)
 generalize w.alloc _ = w1 at hR hK o ⊢
 have hs1:=o.lt
 go_wp2_with fail
 refine (HL 0 (by omega) _ _ _ _ _ _ _ hR hE hd hm).mono ?_
 rintro en w2 ⟨k1,a1,b1,n1x,v1,rfl,n1,hR2,hK2⟩
 have hs2:=(((Kp.refl r w1)).trans hK2).size
 replace o:=o.kp hK2 (by omega)
 replace hK:=hK.trans hK2
 replace hR:=hR2
 clear hK2 hR2
 have n1i:=KI.refl w1.heap.size w2.heap.size w2
 go_wp2_with (refine aF rfl (.tmp 2) (.tmp 4) rfl rfl w.heap.size rfl rfl (o) ⟨rfl,rfl,rfl,rfl,n1.2.2.2.2.one1⟩ ?_; intro wz oz gz)
 refine aC (t:=25) rfl rfl rfl oz Tryz.underlying25 rfl (by kernel_rfl) ?_
 exact ⟨_,_,_,_,_,rfl,(n1.ki (n1i.grown (by omega) gz (by omega)) (Nat.le_refl _)).mono (by omega),hR.grown gz (aH (by omega)),hK.grown gz (aI (by omega))⟩
theorem fA {A:Type} {x y:List Nat} {m:P A} {E d:Nat} {s s':St} {p:Tok × A} (h:fM x y m E d s = some (p,s')) :
    ∃ s2,m E (d + 1) (inS d E (sg x (nxt E s)) s) = some (p.2,s2)∧s' = (if sg y (nxt E s2) then aS s2 else bD E s2)∧(sg x (nxt E s) = true→p.1 = nxt E s):=by
 unfold fM at h
 obtain ⟨t0,s0,g1,g2⟩:=aE h
 obtain ⟨a,s2,g3,g4⟩:=aE g2
 obtain ⟨t1,s5,g5,g6⟩:=aE g4
 obtain ⟨rfl,rfl⟩:=aJ g6
 refine ⟨s2,?_,?_,?_⟩
 · have g3':m E (d + 1) (eL d t0 s0) = some (a,s2):=g3
   rcases cU g1 with ⟨e1,rfl,rfl⟩ | ⟨e1,rfl,rfl⟩
   · rw [e1]; exact g3'
   rw [e1]
   have:eL d noT (bD E s) = bD E s:=uV fun h0=>absurd h0 bS
   rw [this] at g3'
   exact g3'
 · rcases cU g5 with ⟨q,_,rfl⟩ | ⟨q,_,rfl⟩
   · rw [q]; rfl
   rw [q]; rfl
 intro e
 rcases cU g1 with ⟨e1,e2,_⟩ | ⟨e1,_,_⟩
 · exact e2
 rw [e] at e1; cases e1
theorem mP {d E:Nat} {q:Bool} {s:St} (h:(inS d E q s).wrong = 0):s.wrong = 0∧q = true∧d ≠ 64∧inS d E q s = aS s:=by
 unfold inS at h ⊢
 cases q with
 | false=>exact absurd h bS
 | true=>?_
 simp only [if_true] at h ⊢
 unfold eL at h ⊢
 by_cases hd:d = 64
 · rw [if_pos hd] at h
   unfold eO at h
   split at h
   · simp at h
   rename_i hn; exact absurd h hn
 rw [if_neg hd] at h ⊢
 exact ⟨h,trivial,hd,rfl⟩
theorem gV {E:Nat} {q:Bool} {s:St} (h:(if q = true then aS s else bD E s).wrong = 0):s.wrong = 0∧q = true:=by
 cases q with
 | false=>exact absurd h bS
 | true=>exact ⟨h,rfl⟩
theorem wP {expr:P Tree} (hbs:Bs expr 0) (f:Nat) (e:List Nat):Bs (uL f expr e) 0:=fun E d s=>by
 unfold uL
 refine dB ?_
 split
 · exact bN
 exact (mC hbs f) E d s
def aN0 (f:Nat) (expr:P Tree):P Tree:=bnd (cZ nm) fun t=>bnd (eE f expr) fun l=>ret ⟨45,t.2.2.2.1,t.2.1,0,l⟩
theorem vI {expr:P Tree} (HP:cY 40 expr) (hbs:Bs expr 0) (f:Nat) (hf:f≤100000000):cY 161 (aN0 f expr):=by
 intro w r E d s t s' hR hE hm
 have hrl:=hR.lt
 have hne2:w.heap.size ≠ r:=by omega
 obtain ⟨tk,s1,g1,g2⟩:=aE hm
 obtain ⟨l,s5,g3,g4⟩:=aE g2
 obtain ⟨hT,rfl⟩:=aJ g4
 unfold eE at g3
 obtain ⟨pl,s6,g5,g6⟩:=aE g3
 obtain ⟨hl,rfl⟩:=aJ g6
 obtain ⟨s2,g7,hs5,_⟩:=fA g5
 have hw2:(eT fun t=>if sg [41] t then ret [] else iF f expr) = uL f expr [41]:=rfl
 rw [hw2,hl] at g7
 obtain ⟨q,hq⟩:=iQ (nm (nxt E s))
 have hs1:(if q then aS s else bD E s) = s1:=by
  rcases cU g1 with ⟨e1,_,e3⟩ | ⟨e1,_,e3⟩
  · rw [hq] at e1; rw [e1,e3]; rfl
  rw [hq] at e1; rw [e1,e3]; rfl
 have htk:s1.wrong = 0→s.wrong = 0∧q = true∧tk = nxt E s:=fun h0=>by
  rcases cU g1 with ⟨e1,e2,e3⟩ | ⟨e1,_,e3⟩
  · exact ⟨by rw [e3] at h0; exact h0,by rw [← hq]; exact e1,e2⟩
  rw [e3] at h0; exact absurd h0 bS
 have HTK:=hI htk
 have HS1:=hI hs1
 have HMO:Hid (s6.wrong = 0→s2.wrong = 0∧s1.wrong = 0):=fun h0=>by
  have h1:s2.wrong = 0:=by rw [hs5] at h0; exact (gV h0).1
  exact ⟨h1,(mP (bP (wP hbs f [41]) g7 h1)).1⟩
 have HG7:=hI g7
 have HS5:=hI hs5
 have HT':=hI hT
 have HZ0:Hid (ZAt (w.alloc (.cells nZ 25)) r E d s):=hR.alloc _
 clear hm g1 g2 g3 g4 g5 g6 g7 hT hs1 htk hw2 hs5 hl
 go_enter Tryz.func161,Tryz.ntmps161
 go_wp2_with fail
 refine (bU HZ0).mono ?_
 rintro en w1 ⟨⟨x,rfl,hx⟩,hb1⟩
 have HZ1:Hid (ZAt w1 r E d s):=HZ0.out.below hb1
 have o1:=(Own.new w nZ 25).below hb1
 have HK1:Hid (Kp r w w1):=Kp.of (((Below.refl _ _).alloc (Nat.le_refl _) _).trans (hb1.mono (by rw [World.size_alloc]; omega)))
 have HX:=hI hx
 clear hb1 hx HZ0
 go_wp2_with fail
 refine (jK HZ1 q hq).mono ?_
 rintro en w2 ⟨rfl,hR2,hK2⟩
 rw [HS1.out] at hR2
 have o2:=o1.kp hK2 hne2
 have HK2:Hid (Kp r w w2):=HK1.out.trans hK2
 obtain ⟨tx,htx⟩:∃ tx:List Nat,(if q then (nxt E s).2.1 else []) = tx:=⟨_,rfl⟩
 have hst:(if q = true then bJ (nxt E s).2.1 else ⟨#[]⟩) = bJ tx:=by rw [← htx]; cases q <;> rfl
 rw [hst]
 have HTX:=hI htx
 obtain ⟨q2,hq2⟩:=iQ (aR [40] (nxt E s1))
 have hsg2:sg [40] (nxt E s1) = q2:=by rw [← hq2]; exact (aX (hR2.nxt_wf 0) (fun c r h=>by cases h; rfl)).symm
 rw [hsg2] at HG7
 have HR2:=hI hR2
 clear hK2 o1 HK1 HZ1 htx hst hsg2 hR2
 go_wp2_with fail
 refine (jY HR2 ⟨#[40]⟩ q2 hq2).mono ?_
 rintro en w3 ⟨⟨_,rfl⟩,hR3,hK3⟩
 have o3:=o2.kp hK3 hne2
 have HK3:Hid (Kp r w w3):=HK2.out.trans hK3
 clear hK3 o2 HK2 HR2 hq2
 go_wp2_with fail
 refine (qR HP hbs f hf ⟨#[41]⟩ (fun c r h=>by cases h; rfl) w3 r E (d + 1) _ l s2 hR3 hE HG7.out).mono ?_
 rintro en w4 ⟨ts',v4,rfl,hrow4,hts,hR4,hK4,_⟩
 obtain ⟨ao4,cap4,rfl⟩:=hrow4.shape
 have o4:=o3.kp hK4 hne2
 have hr3:w.heap.size < w3.heap.size:=o3.lt
 have HK4:Hid (Kp r w w4):=HK3.out.trans hK4
 have HTS:=hI hts
 obtain ⟨q3,hq3⟩:=iQ (aR [41] (nxt E s2))
 have hsg3:sg [41] (nxt E s2) = q3:=by rw [← hq3]; exact (aX (hR4.nxt_wf 0) (fun c r h=>by cases h; rfl)).symm
 rw [hsg3] at HS5
 have HR4:=hI hR4
 clear hK4 o3 HK3 hts hsg3 hR3 hR4 HG7
 go_wp2_with fail
 refine (kI HR4 ⟨#[41]⟩ q3 hq3).mono ?_
 rintro en w5 ⟨⟨_,rfl⟩,hR5,hK5⟩
 rw [← HS5.out] at hR5
 have o5:=o4.kp hK5 hne2
 have hrow5:=hrow4.kp hK5 (by omega)
 have HK5:Hid (Kp r w w5):=HK4.out.trans hK5
 have HROW:=hI hrow5
 have HZ5:=hI hR5
 obtain ⟨z0,z1,z2,z3,z4,zf⟩:=o5.five
 have hlR:=o5.lt
 have HR5:=hI o5
 clear hK5 o4 o5 HK4 hrow4 hrow5 hR5 HR4 hq3 HP
 go_wp2
 refine aC (t:=25) rfl rfl rfl (Own.set5 HR5.out _ _ _ _ _) Tryz.underlying25 rfl (by kernel_rfl) ?_
 refine ⟨⟨45,(x:Int),tx,0,ts'⟩,_,_,_,_,_,rfl,⟨rfl,rfl,rfl,rfl,(HROW.out.set5 hr3 _ _ _ _ _).mono (Nat.le_of_lt hr3)⟩,fun h0=>?_,ZAt.set5 HZ5.out hrl _ _ _ _ _,HK5.out.set5 (.inl (Nat.le_refl _)) _ _ _ _ _⟩
 obtain ⟨e1,e2,e3⟩:=HTK.out (HMO.out h0).2
 rw [← HT'.out,HTS.out (HMO.out h0).1,HX.out e1,e3,← HTX.out,e2]
 rfl
end Go.Proofs.YtnipenijihkgdaaGreatDoor
