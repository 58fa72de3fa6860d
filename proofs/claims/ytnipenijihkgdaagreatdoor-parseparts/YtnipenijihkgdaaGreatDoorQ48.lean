import Derived.Test.YtnipenijihkgdaaGreatDoorNd
import Derived.Test.YtnipenijihkgdaaGreatDoorZProg
import Derived.Test.YtnipenijihkgdaaGreatDoorQ22
import Derived.Test.YtnipenijihkgdaaGreatDoorQ20
import Derived.Test.YtnipenijihkgdaaGreatDoorJOne
import Derived.Deep.RegionHeld3
import Derived.Test.YtnipenijihkgdaaGreatDoorZLoop
import Derived.Test.YtnipenijihkgdaaGreatDoorZChoose
set_option maxHeartbeats 4000000
set_option maxRecDepth 100000
namespace Go.Proofs.YtnipenijihkgdaaGreatDoor
open Go.RowKit
set_option linter.unusedVariables false
theorem jB0 {m:P Tree} (HP:rQ 41 m) (s:ByteArray) (h:s.size≤1048576) (R:Except (Nat × Nat) Tree) (HR:Hid (dX m (aD s) = some R)) (w:World):Calls Tryz.prog 23 #[.string s,.int .i64 2] w (iT w R):=by
 cases htk:gC (aD s) with
 | error x =>
  obtain ⟨p,e⟩:=x
  have HRR:Hid (R = .error (p,e)):=by have:=HR.out; unfold dX at this; rw [htk] at this; exact (Option.some.inj this).symm
  have HT:=hI htk
  have hen:((e:Int) != 0) = true:=by have:=nU _ _ _ htk; simp; omega
  clear htk HR
  go_enter Tryz.func23,Tryz.ntmps23
  go_wp2_with fail
  refine (kF s h _ HT _).mono ?_
  rintro en w1 hg
  obtain ⟨rfl,hb⟩:en = .returned (.tuple #[.slice none 0 0,.int .i64 (p:Int),.int .i64 (e:Int)])∧Below _ _ w1:=hg
  have o:=(Own.new w nZ 25).below hb
  have hb2:Below w.heap.size w w1:=((Below.refl _ _).alloc (Nat.le_refl _) _).trans (hb.mono (by rw [World.size_alloc]; omega))
  go_wp2_with (refine aF rfl (.tmp 4) (.tmp 20) rfl rfl w.heap.size rfl rfl o ⟨rfl,rfl,rfl,rfl,rfl⟩ ?_; intro wz oz gz)
  refine aM (t:=25) rfl rfl rfl oz Tryz.underlying25 rfl (by kernel_rfl) ?_
  refine ⟨hb2.trans ⟨gz.os,gz.tape,gz.output,gz.size,fun k hk=>gz.block k (Nat.lt_of_lt_of_le hk hb2.size) (by intro q; have:=Option.some.inj q; omega)⟩,?_⟩
  rw [HRR.out]
  rfl
 | ok ts=>?_
 have HT:=hI htk
 obtain ⟨hgl,hgt⟩:=iO _ _ htk (dO s)
 have hwf:=rW htk (dO s)
 have hRd:nG m s.size ts = some R:=by have:=HR.out; unfold dX at this; rw [htk,aK] at this; exact this
 unfold nG at hRd
 match hm:m s.size 0 ⟨ts,0,0⟩,hRd with
 | some (t,s'),hRd =>
 have HR2:Hid ((if (jL s.size s').wrong = 0 then Except.ok t else .error ((jL s.size s').place,(jL s.size s').wrong)) = R):=Option.some.inj hRd
 have HM:=hI hm
 clear htk HR hRd hm
 go_enter Tryz.func23,Tryz.ntmps23
 go_wp2_with fail
 refine (kF s h _ HT _).mono ?_
 rintro en w1 hg
 obtain ⟨v,rfl,hown,hb⟩:∃ v,en = .returned (.tuple #[v,.int .i64 0,.int .i64 0])∧w1.ownsRow _ 65 5 v ts.length (gH ts)∧Below _ _ w1:=hg
 have o:=(Own.new w nZ 25).below hb
 have hb2:Below w.heap.size w w1:=((Below.refl _ _).alloc (Nat.le_refl _) _).trans (hb.mono (by rw [World.size_alloc]; omega))
 have hsw:=hb2.size
 have hol:=o.lt
 have hTI:iH w1 w1.heap.size v ts:=by
  rcases hown.2 with ⟨rfl,h0⟩ | ⟨g,cap,cur,rfl,hg,ho,r1,r2,r3,r4⟩
  · exact ⟨none,0,by rw [h0],by omega,by omega,by omega,hgt,.inl (List.eq_nil_of_length_eq_zero h0)⟩
  refine ⟨_,cap,rfl,r1,by unfold maxLen at r2; omega,by omega,hgt,.inr ⟨g,0,cur,(0,0),rfl,(Array.getElem?_eq_some_iff.1 ho).1,ho,fun j hj=>?_⟩⟩
  rw [Nat.zero_add,← r4,List.getElem?_take,if_pos hj,Array.getElem?_toList]
 obtain ⟨ao,cap,rfl⟩:∃ ao cap,v = .slice ao ts.length cap:=by obtain ⟨ao,cap,q,_⟩:=hTI; exact ⟨ao,cap,q⟩
 have hz:(s.size:Int)≤1048576:=by omega
 clear hown HT
 go_upto_region 5 with fail
 have hR:ZAt (w1.alloc (.cells #[.slice ao ts.length cap,.int .i64 0,.int .i64 (s.size:Int),.int .i64 0,.int .i64 0,.int .i64 0] 61)) w1.heap.size s.size 0 ⟨ts,0,0⟩:=⟨_,ts,0,0,0,Own.new w1 _ _,hTI.on fun g hg=>Below.heap_alloc w1 _ g hg,hwf,by omega,.inl ⟨rfl,rfl,rfl,by omega⟩⟩
 replace o:=o.alloc (.cells #[.slice ao ts.length cap,.int .i64 0,.int .i64 (s.size:Int),.int .i64 0,.int .i64 0,.int .i64 0] 61)
 have hb3:Below w.heap.size w (w1.alloc (.cells #[.slice ao ts.length cap,.int .i64 0,.int .i64 (s.size:Int),.int .i64 0,.int .i64 0,.int .i64 0] 61)):=hb2.alloc hsw _
 have hs2:w1.heap.size < (w1.alloc (.cells #[.slice ao ts.length cap,.int .i64 0,.int .i64 (s.size:Int),.int .i64 0,.int .i64 0,.int .i64 0] 61)).heap.size:=by rw [World.size_alloc]; omega
 generalize hw:w1.alloc (.cells #[.slice ao ts.length cap,.int .i64 0,.int .i64 (s.size:Int),.int .i64 0,.int .i64 0,.int .i64 0] 61) = w2 at hR o hb3 hs2 ⊢
 clear hw hTI hb hb2
 have hK:=Kp.refl w1.heap.size w2
 obtain ⟨r,hr⟩:=iQ (w1.heap.size)
 rw [hr] at hR hK hs2 hsw hol ⊢
 clear hr
 have hrl:=hR.lt
 have oR:=o
 clear o
 go_upto_region 6 with fail
 have oX:=Own.new w2 nZ 25
 obtain ⟨hR,hK,oR⟩:=(fun y9=>And.intro (hR.alloc y9) (And.intro (hK.alloc y9) (oR.alloc y9))) (.cells nZ 25)
 generalize w2.alloc _ = w3 at hR hK oR oX ⊢
 have hs3:=oX.lt
 go_wp2_with fail
 refine (HP _ r s.size _ t s' hR (by omega) HM.out).mono ?_
 rintro en w4 ⟨t1,k1,a1,b1,n1,v1,sz,rfl,hN1,hR2,hfz,ht1,hK2⟩
 obtain ⟨ao1,cap1,rfl⟩:=Row.shape hN1.2.2.2.2
 have q1:aZ w4 (fun g=>w3.heap.size≤g∧g < w4.heap.size) t1 k1 a1 b1 n1 (.slice ao1 t1.kids.length cap1):=hN1.q.imp fun g h1 h2=>⟨h2,h1⟩
 have HT1:=hI ht1
 have HFZ:=hI hfz
 clear hN1 ht1 hfz HM
 have hs4:=hK2.size
 replace oR:=oR.kp hK2 (by omega)
 replace oX:=oX.kp hK2 (by omega)
 replace hK:=hK.trans hK2
 replace hR:=hR2
 clear hK2 hR2
 go_upto_region 13 with (refine aF rfl (.tmp 11) (.tmp 41) rfl rfl (w2.heap.size) rfl rfl oX ⟨rfl,rfl,rfl,rfl,rfl⟩ ?_; intro w5 oV gzV)
 have hs5:=gzV.size
 replace hR:=hR.grown gzV (aH (by omega))
 replace hK:=hK.grown gzV (aI (by omega))
 replace oR:=oR.grown gzV (aG (by omega))
 replace q1:=q1.on fun _ _ _ o=>o.grown gzV (aG (by omega))
 replace oX:Own w5 (w2.heap.size) (nQ k1 a1 b1 n1 ao1 t1 cap1) 25:=oV
 clear oV gzV
 obtain ⟨b,hb⟩:=iQ ((decide (sz.wrong = 0) && !sz.rest.isEmpty))
 have HBD:=hI hb
 have hR9:=hR
 obtain ⟨vv,LL,aa,dd,pl,ho,ht,hwf2,ha,hst⟩:=hR9
 obtain ⟨c0,c1,c2,c3,c4,c5,f0⟩:=ho.six
 have hll:=ho.lt
 obtain ⟨aoL,capL,rfl,_,_,hLl,_,_⟩:=ht
 have d0:∀ t:dZ w5,t.1.cell? ⟨r,0,none⟩ = some (.slice aoL LL.length capL):=fun t=>(t.2.cell (p:=⟨r,0,none⟩) hll).trans c0
 have d1:∀ t:dZ w5,t.1.cell? ⟨r,1,none⟩ = some (.int .i64 (aa:Int)):=fun t=>(t.2.cell (p:=⟨r,1,none⟩) hll).trans c1
 have d4:∀ t:dZ w5,t.1.cell? ⟨r,4,none⟩ = some (.int .i64 (sz.wrong:Int)):=fun t=>(t.2.cell (p:=⟨r,4,none⟩) hll).trans c4
 have HEM:Hid (sz.wrong = 0→(sz.rest.isEmpty = true ↔ LL.length≤aa)):=fun h0=>by
  rcases hst with hst | hst
  · rw [hst.2.1]; simp
  exact absurd h0 hst.1
 clear hb hst ho hwf2 ha c2 c3 c5 f0 c0 c1 c4
 go_cut [58] (fun v wx=>v = .bool b∧Below w5.heap.size w5 wx)
 case first =>
  clear hK oX oR q1 hR
  by_cases hw:sz.wrong = 0
  · have d4':∀ t:dZ w5,t.1.cell? ⟨r,4,none⟩ = some (.int .i64 0):=fun t=>by rw [d4 t,hw]; rfl
    have hbx:decide ((aa:Int) < (LL.length:Int)) = b:=by
     rw [← HBD.out,hw]
     have:=HEM.out hw
     cases he:sz.rest.isEmpty with
     | true=>have:=this.1 he; simp; omega
     | false=>?_
     have:¬ LL.length≤aa:=fun q=>by rw [this.2 q] at he; cases he
     simp; omega
    clear d4
    generalize LL.length = ml at d0 hbx
    refine cC (by kernel_rfl) (by kernel_rfl) ?_
    repeat (go_big_quiet_step (with_reducible exact rfl))
    refine wpQuiet_nil ?_
    intro _ hw'
    obtain ⟨t,rfl⟩:=hw'
    go_wp2_with fail
    go_meet
    have hbn:decide (aa < ml) = b:=by rw [← hbx]; simp
    exact ⟨by first | rw [hbx] | rw [hbn],t.2⟩
  have e4:((sz.wrong:Int) == 0) = false:=by simp; omega
  obtain rfl:b = false:=by rw [← HBD.out]; simp [hw]
  generalize (sz.wrong:Int) = no at d4 e4
  clear hw
  refine cC (by kernel_rfl) (by kernel_rfl) ?_
  repeat (go_big_quiet_step (with_reducible exact rfl))
  refine wpQuiet_nil ?_
  intro _ hw'
  obtain ⟨t,rfl⟩:=hw'
  go_wp2_with fail
  go_meet
  exact ⟨rfl,t.2⟩
 obtain ⟨rfl,hbw⟩:=hcut
 have hsw9:=hbw.size
 replace hR:=hR.below hbw
 replace hK:=hK.trans (Kp.of hbw)
 replace oX:=oX.below hbw
 replace oR:=oR.below hbw
 replace q1:=q1.on fun _ _ _ o=>o.below hbw
 clear hbw d0 d1 d4 hLl hll HEM
 cases b with
 | false =>
  have HF1:Hid (sz = jL s.size s'):=by
   have hr:sz.rest = []:=by
    by_cases hw:sz.wrong = 0
    · have:=HBD.out
      rw [hw] at this
      simpa using this
    exact hR.iv hw
   unfold Hid
   rw [← HFZ.out,aA0 hr]
  clear HBD HFZ
  obtain ⟨vv,LL,aa,dd,pl,ho,ht,hwf2,ha,hst⟩:=id hR
  obtain ⟨c0,c1,c2,c3,c4,c5,f0⟩:=ho.six
  have hll:=ho.lt
  have HST:Hid (sz.wrong ≠ 0→pl = (sz.place:Int)):=fun h0=>hst.elim (fun q=>absurd q.1 h0) fun q=>q.2.2
  clear ho ht hwf2 ha hst c0 c1 c2 c3
  by_cases hw0:sz.wrong = 0
  · rw [hw0] at c4
    have HR4:Hid (Except.ok t = R):=by have:=HR2.out; rw [← HF1.out,if_pos hw0] at this; exact this
    have HT9:Hid (t1 = t):=HT1.out (by rw [← HF1.out]; exact hw0)
    clear hw0
    obtain ⟨oX0,oX1,oX2,oX3,oX4,oXf⟩:=oX.five
    have oXl:=oX.lt
    have c4':wc.cell? ⟨r,4,none⟩ = some (.int .i64 0):=c4
    clear c4
    go_wp2_with (refine aF rfl (.tmp 4) (.tmp 75) rfl rfl w.heap.size rfl rfl oR ⟨rfl,rfl,rfl,rfl,rfl⟩ ?_; intro wz oz gz)
    refine aM (t:=25) rfl rfl rfl oz Tryz.underlying25 rfl (by kernel_rfl) ?_
    have hb4:=Below.kp hb3 (by omega) hK
    refine ⟨hb4.trans ⟨gz.os,gz.tape,gz.output,gz.size,fun k hk=>gz.block k (Nat.lt_of_lt_of_le hk hb4.size) (by intro q; have:=Option.some.inj q; omega)⟩,?_⟩
    rw [← HR4.out,← HT9.out]
    exact ⟨_,_,_,_,_,rfl,((q1.on fun _ _ _ o=>o.grown gz (aG (by omega))).imp fun g _ h=>by omega).is⟩
  have HR4:Hid (Except.error (sz.place,sz.wrong) = R):=by have:=HR2.out; rw [← HF1.out,if_neg hw0] at this; exact this
  have hwn:((sz.wrong:Int) != 0) = true:=by simp; omega
  obtain ⟨wi,hwi⟩:∃ wi:Int,(sz.wrong:Int) = wi:=⟨_,rfl⟩
  have HWI:=hI hwi
  have HPI:Hid (pl = (sz.place:Int)):=HST.out hw0
  rw [hwi] at c4 hwn
  clear hwi hw0 HST
  have hob:=oR.lt
  obtain ⟨o0,o1,o2,o3,o4,of⟩:=oR.five
  have hne1:r ≠ w.heap.size:=by omega
  have hne2:w.heap.size ≠ r:=by omega
  go_wp2_with fail
  go_region_held3 (fun w'=>w'.cell? ⟨r,5,none⟩ = some (.int .i64 pl)∧w'.cell? ⟨r,4,none⟩ = some (.int .i64 wi)) (go_keep) (fail)
  all_goals
   go_wp2
   refine aM (t:=25) rfl rfl rfl ((oR.set5 _ _ _ _ _).drew) Tryz.underlying25 rfl (by kernel_rfl) ?_
   have hb4:=Below.kp hb3 (by omega) hK
   refine ⟨(cA hb4 (Nat.le_refl _)).drew,?_⟩
   rw [← HR4.out]
   show _ = Ending.returned (.tuple #[.agg _,.int .i64 (sz.place:Int),.int .i64 (sz.wrong:Int)])
   rw [HWI.out,← HPI.out]
   rfl
 | true=>?_
 have HF1:Hid (bD s.size sz = jL s.size s'):=by
  have hr:sz.rest ≠ []:=fun h=>by
   have:=HBD.out
   rw [h] at this
   simp at this
  unfold Hid
  rw [← HFZ.out,tW hr]
 clear HBD HFZ
 go_wp2_with fail
 refine (fI hR 40 40 rfl (by decide)).mono ?_
 rintro en w6 ⟨⟨_,rfl⟩,hR2,hK2⟩
 replace hR2:ZAt w6 r s.size 0 (bD s.size sz):=hR2
 have hs6:=hK2.size
 replace oR:=oR.kp hK2 (by omega)
 replace oX:=oX.kp hK2 (by omega)
 replace q1:=q1.on fun _ _ _ o=>o.kp hK2 (by omega)
 replace hK:=hK.trans hK2
 replace hR:=hR2
 clear hK2 hR2
 obtain ⟨vv,LL,aa,dd,pl,ho,ht,hwf2,ha,hst⟩:=id hR
 obtain ⟨c0,c1,c2,c3,c4,c5,f0⟩:=ho.six
 have hll:=ho.lt
 have HST:Hid ((bD s.size sz).wrong ≠ 0→pl = ((bD s.size sz).place:Int)):=fun h0=>hst.elim (fun q=>absurd q.1 h0) fun q=>q.2.2
 clear ho ht hwf2 ha hst c0 c1 c2 c3
 by_cases hw0:(bD s.size sz).wrong = 0
 · rw [hw0] at c4
   have HR4:Hid (Except.ok t = R):=by have:=HR2.out; rw [← HF1.out,if_pos hw0] at this; exact this
   have HT9:Hid (t1 = t):=HT1.out (by rw [← HF1.out]; exact hw0)
   clear hw0
   obtain ⟨oX0,oX1,oX2,oX3,oX4,oXf⟩:=oX.five
   have oXl:=oX.lt
   have c4':w6.cell? ⟨r,4,none⟩ = some (.int .i64 0):=c4
   clear c4
   go_wp2_with (refine aF rfl (.tmp 4) (.tmp 75) rfl rfl w.heap.size rfl rfl oR ⟨rfl,rfl,rfl,rfl,rfl⟩ ?_; intro wz oz gz)
   refine aM (t:=25) rfl rfl rfl oz Tryz.underlying25 rfl (by kernel_rfl) ?_
   have hb4:=Below.kp hb3 (by omega) hK
   refine ⟨hb4.trans ⟨gz.os,gz.tape,gz.output,gz.size,fun k hk=>gz.block k (Nat.lt_of_lt_of_le hk hb4.size) (by intro q; have:=Option.some.inj q; omega)⟩,?_⟩
   rw [← HR4.out,← HT9.out]
   exact ⟨_,_,_,_,_,rfl,((q1.on fun _ _ _ o=>o.grown gz (aG (by omega))).imp fun g _ h=>by omega).is⟩
 have HR4:Hid (Except.error ((bD s.size sz).place,(bD s.size sz).wrong) = R):=by have:=HR2.out; rw [← HF1.out,if_neg hw0] at this; exact this
 have hwn:(((bD s.size sz).wrong:Int) != 0) = true:=by simp; omega
 obtain ⟨wi,hwi⟩:∃ wi:Int,((bD s.size sz).wrong:Int) = wi:=⟨_,rfl⟩
 have HWI:=hI hwi
 have HPI:Hid (pl = ((bD s.size sz).place:Int)):=HST.out hw0
 rw [hwi] at c4 hwn
 clear hwi hw0 HST
 have hob:=oR.lt
 obtain ⟨o0,o1,o2,o3,o4,of⟩:=oR.five
 have hne1:r ≠ w.heap.size:=by omega
 have hne2:w.heap.size ≠ r:=by omega
 go_wp2_with fail
 go_region_held3 (fun w'=>w'.cell? ⟨r,5,none⟩ = some (.int .i64 pl)∧w'.cell? ⟨r,4,none⟩ = some (.int .i64 wi)) (go_keep) (fail)
 all_goals
  go_wp2
  refine aM (t:=25) rfl rfl rfl ((oR.set5 _ _ _ _ _).drew) Tryz.underlying25 rfl (by kernel_rfl) ?_
  have hb4:=Below.kp hb3 (by omega) hK
  refine ⟨(cA hb4 (Nat.le_refl _)).drew,?_⟩
  rw [← HR4.out]
  show _ = Ending.returned (.tuple #[.agg _,.int .i64 ((bD s.size sz).place:Int),.int .i64 ((bD s.size sz).wrong:Int)])
  rw [HWI.out,← HPI.out]
  rfl
theorem kN {expr:P Tree} {stmts:P (List Tree)} (HP:cY 40 expr) (hbs:Bs expr 0) (hds:Ds expr) (f:Nat) (hf:f≤100000000) (HB:cY 122 (cN stmts)) (hbb:Bs (cN stmts) 0) (HA:zT 201 (pA stmts)) (hbst:Bs stmts 0):∀ (w:World) (r E d:Nat) (s:St) (label:List Nat) (t:Tree) (s':St),ZAt w r E d s→E≤1048576→iD f label expr stmts E d s = some (t,s') →
    Calls Tryz.prog 178 #[.pointer (some ⟨r,0,none⟩),.string (bJ label)] w (pC w r E d t s'):=by
 intro w r E d s label t s' hR hE hm
 have hrl:=hR.lt
 have hK:=Kp.refl r w
 have HM:=hI hm
 clear hm
 go_enter Tryz.func178,Tryz.ntmps178
 go_upto_region 1 with fail
 have oR:=Own.new w nZ 25
 replace hR:=hR.alloc (.cells nZ 25)
 replace hK:=hK.alloc (.cells nZ 25)
 generalize w.alloc _ = w1 at hR hK oR ⊢
 have hs1:=oR.lt
 obtain ⟨qw,hqw⟩:=iQ (aR [119,104,105,108,101] (nxt E s))
 have hqwm:wd [119,104,105,108,101] (nxt E s) = qw:=by rw [← hqw]; exact (cG (hR.nxt_wf 0) (by decide)).symm
 go_wp2_with fail
 refine (bG hR ⟨#[119,104,105,108,101]⟩ qw hqw).mono ?_
 rintro en w2 ⟨rfl,hb⟩
 have hs2:=hb.size
 replace hR:=hR.below hb
 replace hK:=hK.trans (Kp.of hb)
 replace oR:=oR.below hb
 clear hb
 cases qw with
 | true =>
  obtain ⟨x0,s1,k0,g1,g2,hT⟩:=gR0 hqwm HM.out
  have HM1:=hI g1
  have HM2:=hI g2
  have HMO:Hid (s'.wrong = 0→s1.wrong = 0):=bP hbb g2
  have HT':=hI hT
  have HW0:Hid (s.wrong = 0):=hR.live (bR hqwm)
  clear g1 g2 hT HM hqwm
  go_wp2_with fail
  refine (bU hR).mono ?_
  rintro en w3 ⟨⟨x,rfl,hx⟩,hb⟩
  have HX:=hI hx
  clear hx
  have hs3:=hb.size
  replace hR:=hR.below hb
  replace hK:=hK.trans (Kp.of hb)
  replace oR:=oR.below hb
  clear hb
  go_upto_region 3 with fail
  have oN:=Own.new w3 (nL 15 (x:Int) (bJ label) 0) 25
  obtain ⟨hR,hK,oR⟩:=(fun y9=>And.intro (hR.alloc y9) (And.intro (hK.alloc y9) (oR.alloc y9))) (.cells (nL 15 (x:Int) (bJ label) 0) 25)
  generalize w3.alloc _ = w4 at hR hK oR oN ⊢
  have hs4:=oN.lt
  go_wp2_with fail
  refine (cQ hR ⟨#[119,104,105,108,101]⟩ true hqw).mono ?_
  rintro en w5 ⟨⟨_,rfl⟩,hR2,hK2⟩
  rw [if_pos rfl] at hR2
  have hs5:=hK2.size
  replace oR:=oR.kp hK2 (by omega)
  replace oN:=oN.kp hK2 (by omega)
  replace hK:=hK.trans hK2
  replace hR:=hR2
  clear hK2 hR2 hqw
  go_wp2_with fail
  refine (HP _ r E d (aS s) x0 s1 hR hE HM1.out).mono ?_
  rintro en w6 ⟨t1,k1,a1,b1,n1,v1,rfl,hN1,ht1,hR2,hK2⟩
  obtain ⟨ao1,cap1,rfl⟩:=Row.shape hN1.2.2.2.2
  have q1:aZ w6 (fun g=>w5.heap.size≤g∧g < w6.heap.size) t1 k1 a1 b1 n1 (.slice ao1 t1.kids.length cap1):=hN1.q.imp fun g h1 h2=>⟨h2,h1⟩
  have HT1:=hI ht1
  clear hN1 ht1
  have hs6:=hK2.size
  replace oR:=oR.kp hK2 (by omega)
  replace oN:=oN.kp hK2 (by omega)
  replace hK:=hK.trans hK2
  replace hR:=hR2
  clear hK2 hR2
  go_upto_region 5 with fail
  have oC:=Own.new w6 (nQ k1 a1 b1 n1 ao1 t1 cap1) 25
  obtain ⟨hR,hK,oR,oN,q1⟩:=(fun y9=>And.intro (hR.alloc y9) (And.intro (hK.alloc y9) (And.intro (oR.alloc y9) (And.intro (oN.alloc y9) (q1.on fun _ _ _ h=>h.alloc y9))))) (.cells (nQ k1 a1 b1 n1 ao1 t1 cap1) 25)
  generalize w6.alloc _ = w7 at hR hK oR oN oC q1 ⊢
  have hs7:=oC.lt
  go_wp2_with fail
  refine (HB _ r E d s1 k0 s' hR hE HM2.out).mono ?_
  rintro en w8 ⟨t2,k2,a2,b2,n2,v2,rfl,hN1,ht1,hR2,hK2⟩
  obtain ⟨ao2,cap2,rfl⟩:=Row.shape hN1.2.2.2.2
  have q2:aZ w8 (fun g=>w7.heap.size≤g∧g < w8.heap.size) t2 k2 a2 b2 n2 (.slice ao2 t2.kids.length cap2):=hN1.q.imp fun g h1 h2=>⟨h2,h1⟩
  have HT2:=hI ht1
  clear hN1 ht1
  have hs8:=hK2.size
  replace oR:=oR.kp hK2 (by omega)
  replace oN:=oN.kp hK2 (by omega)
  replace oC:=oC.kp hK2 (by omega)
  replace q1:=q1.on fun _ _ _ o=>o.kp hK2 (by omega)
  replace hK:=hK.trans hK2
  replace hR:=hR2
  clear hK2 hR2
  go_upto_region 6 with fail
  have oB:=Own.new w8 (nQ k2 a2 b2 n2 ao2 t2 cap2) 25
  obtain ⟨hR,hK,oR,oN,oC,q1,q2⟩:=(fun y9=>And.intro (hR.alloc y9) (And.intro (hK.alloc y9) (And.intro (oR.alloc y9) (And.intro (oN.alloc y9) (And.intro (oC.alloc y9) (And.intro (q1.on fun _ _ _ h=>h.alloc y9) (q2.on fun _ _ _ h=>h.alloc y9))))))) (.cells (nQ k2 a2 b2 n2 ao2 t2 cap2) 25)
  generalize w8.alloc _ = w9 at hR hK oR oN oC oB q1 q2 ⊢
  have hs9:=oB.lt
  obtain ⟨oC0,oC1,oC2,oC3,oC4,oCf⟩:=oC.five
  have oCl:=oC.lt
  obtain ⟨oB0,oB1,oB2,oB3,oB4,oBf⟩:=oB.five
  have oBl:=oB.lt
  have qk:=bK.two w7.heap.size  (q1.imp (Q':=fun g=>(w3.heap.size < g)∧g < w7.heap.size) fun g h1 h2=>⟨by omega,by omega⟩) (q2.imp (Q':=fun g=>(w3.heap.size < g)∧w7.heap.size≤g) fun g h1 h2=>⟨by omega,by omega⟩) (show w3.heap.size < w9.heap.size from by omega)
  clear q1 q2
  obtain ⟨hR,hK⟩:=(fun y9=>And.intro (hR.alloc y9) (hK.alloc y9)) (.cells #[.int .u8 k1,.int .i64 a1,.string b1,.int .u64 n1,.slice ao1 t1.kids.length cap1,.int .u8 k2,.int .i64 a2,.string b2,.int .u64 n2,.slice ao2 t2.kids.length cap2] 25)
  clear oC oB
  obtain ⟨oR,oN⟩:=(fun y9=>And.intro (oR.alloc y9) (oN.alloc y9)) (.cells #[.int .u8 k1,.int .i64 a1,.string b1,.int .u64 n1,.slice ao1 t1.kids.length cap1,.int .u8 k2,.int .i64 a2,.string b2,.int .u64 n2,.slice ao2 t2.kids.length cap2] 25)
  have hsx:w9.heap.size < (w9.alloc (.cells #[.int .u8 k1,.int .i64 a1,.string b1,.int .u64 n1,.slice ao1 t1.kids.length cap1,.int .u8 k2,.int .i64 a2,.string b2,.int .u64 n2,.slice ao2 t2.kids.length cap2] 25)).heap.size:=by rw [World.size_alloc]; omega
  go_wp2_with fail
  refine (dE _ _ _ _).mono ?_
  rintro en wz ⟨rfl,rfl⟩
  clear oC0 oC1 oC2 oC3 oC4 oCf oCl oB0 oB1 oB2 oB3 oB4 oBf oBl
  generalize w9.alloc _ = w10 at hsx hR hK oR oN qk ⊢
  have hs10:=hsx
  clear hsx
  go_wp2_with (first | (refine aQ rfl (.tmp 25) (.tmp 24) rfl rfl (w3.heap.size) 4 rfl rfl oN (by simp) ?_; intro w11 oV gzV; obtain ⟨oV0,oV1,oV2,oV3,oV4,oVf⟩:=oV.five; have oVl:=oV.lt; have oR9:=oR.grown gzV (aG (by omega))) | (refine aF rfl (.tmp 4) (.tmp 26) rfl rfl (w.heap.size) rfl rfl oR9 ⟨rfl,rfl,rfl,rfl,rfl⟩ ?_; intro wz oz gz))
  have hs11:=gzV.size
  refine aC (t:=25) rfl rfl rfl oz Tryz.underlying25 rfl (by kernel_rfl) ?_
  refine ⟨⟨15,(x:Int),label,0,[t1,t2]⟩,_,_,_,_,_,rfl,⟨rfl,rfl,rfl,rfl,bK.row ((qk.on fun _ _ _ o=>(o.grown gzV (aG (by omega))).grown gz (aG (by omega))).imp fun g _ h=>by omega)⟩,fun h0=>?_,(hR.grown gzV (aH (by omega))).grown gz (aH (by omega)),(hK.grown gzV (aI (by omega))).grown gz (aI (by omega))⟩
  rw [HT'.out,HT2.out h0,HT1.out (HMO.out h0),HX.out HW0.out]
 | false=>?_
 obtain ⟨qf,hqf⟩:=iQ (aR [102,111,114] (nxt E s))
 have hqfm:wd [102,111,114] (nxt E s) = qf:=by rw [← hqf]; exact (cG (hR.nxt_wf 0) (by decide)).symm
 go_wp2_with fail
 refine (bG hR ⟨#[102,111,114]⟩ qf hqf).mono ?_
 rintro en w3 ⟨rfl,hb⟩
 have hs3:=hb.size
 replace hR:=hR.below hb
 replace hK:=hK.trans (Kp.of hb)
 replace oR:=oR.below hb
 clear hb
 cases qf with
 | true =>
  have HM1:Hid (hM0 f label expr stmts E d s = some (t,s')):=nK0 hqfm HM.out
  clear HM hqw hqwm hqf
  go_wp2_with fail
  refine (eI0 HP hbs hds f hf HB hbb _ r E d s label t s' hR hqfm hE HM1.out).mono ?_
  rintro en w4 ⟨t1,k1,a1,b1,n1,v1,rfl,hN1,ht1,hR2,hK2⟩
  obtain ⟨ao1,cap1,rfl⟩:=Row.shape hN1.2.2.2.2
  have q1:aZ w4 (fun g=>w3.heap.size≤g∧g < w4.heap.size) t1 k1 a1 b1 n1 (.slice ao1 t1.kids.length cap1):=hN1.q.imp fun g h1 h2=>⟨h2,h1⟩
  have HT1:=hI ht1
  clear hN1 ht1
  have hs4:=hK2.size
  replace oR:=oR.kp hK2 (by omega)
  replace hK:=hK.trans hK2
  replace hR:=hR2
  clear hK2 hR2
  go_wp2_with (refine aF rfl (.tmp 4) (.tmp 32) rfl rfl (w.heap.size) rfl rfl oR ⟨rfl,rfl,rfl,rfl,rfl⟩ ?_; intro wz oz gz)
  refine aC (t:=25) rfl rfl rfl oz Tryz.underlying25 rfl (by kernel_rfl) ?_
  refine ⟨t1,_,_,_,_,_,rfl,((q1.on fun _ _ _ o=>o.grown gz (aG (by omega))).imp fun g _ h=>by omega).is,fun h0=>?_,hR.grown gz (aH (by omega)),hK.grown gz (aI (by omega))⟩
  exact HT1.out h0
 | false=>?_
 obtain ⟨qs,hqs⟩:=iQ (aR [115,119,105,116,99,104] (nxt E s))
 have hqsm:wd [115,119,105,116,99,104] (nxt E s) = qs:=by rw [← hqs]; exact (cG (hR.nxt_wf 0) (by decide)).symm
 go_wp2_with fail
 refine (bG hR ⟨#[115,119,105,116,99,104]⟩ qs hqs).mono ?_
 rintro en w4 ⟨rfl,hb⟩
 have hs4:=hb.size
 replace hR:=hR.below hb
 replace hK:=hK.trans (Kp.of hb)
 replace oR:=oR.below hb
 clear hb
 cases qs with
 | true =>
  have HM1:Hid (uE f label expr stmts E d s = some (t,s')):=aS0 hqsm HM.out
  clear HM hqw hqwm hqf hqfm hqs
  go_wp2_with fail
  refine (zR HP hbs f hf HA hbst _ r E d s label t s' hR hqsm hE HM1.out).mono ?_
  rintro en w5 ⟨t1,k1,a1,b1,n1,v1,rfl,hN1,ht1,hR2,hK2⟩
  obtain ⟨ao1,cap1,rfl⟩:=Row.shape hN1.2.2.2.2
  have q1:aZ w5 (fun g=>w4.heap.size≤g∧g < w5.heap.size) t1 k1 a1 b1 n1 (.slice ao1 t1.kids.length cap1):=hN1.q.imp fun g h1 h2=>⟨h2,h1⟩
  have HT1:=hI ht1
  clear hN1 ht1
  have hs5:=hK2.size
  replace oR:=oR.kp hK2 (by omega)
  replace hK:=hK.trans hK2
  replace hR:=hR2
  clear hK2 hR2
  go_wp2_with (refine aF rfl (.tmp 4) (.tmp 38) rfl rfl (w.heap.size) rfl rfl oR ⟨rfl,rfl,rfl,rfl,rfl⟩ ?_; intro wz oz gz)
  refine aC (t:=25) rfl rfl rfl oz Tryz.underlying25 rfl (by kernel_rfl) ?_
  refine ⟨t1,_,_,_,_,_,rfl,((q1.on fun _ _ _ o=>o.grown gz (aG (by omega))).imp fun g _ h=>by omega).is,fun h0=>?_,hR.grown gz (aH (by omega)),hK.grown gz (aI (by omega))⟩
  exact HT1.out h0
 | false=>?_
 have HS:Hid (s' = bD E s):=wV0 (by unfold gU; rw [hqwm,hqfm,hqsm]; rfl) HM.out
 clear HM hqw hqwm hqf hqfm hqs hqsm
 go_wp2_with fail
 refine (fI hR 40 40 rfl (by decide)).mono ?_
 rintro en w5 ⟨⟨_,rfl⟩,hR2,hK2⟩
 replace hR2:ZAt w5 r E d s':=by rw [HS.out]; exact hR2
 have hs5:=hK2.size
 replace oR:=oR.kp hK2 (by omega)
 replace hK:=hK.trans hK2
 replace hR:=hR2
 clear hK2 hR2
 go_wp2_with (refine aF rfl (.tmp 4) (.tmp 41) rfl rfl (w.heap.size) rfl rfl oR ⟨rfl,rfl,rfl,rfl,rfl⟩ ?_; intro wz oz gz)
 refine aC (t:=25) rfl rfl rfl oz Tryz.underlying25 rfl (by kernel_rfl) ?_
 refine ⟨noN,_,_,_,_,_,rfl,⟨rfl,rfl,rfl,rfl,Row.nil _ _⟩,fun h0=>?_,hR.grown gz (aH (by omega)),hK.grown gz (aI (by omega))⟩
 rw [HS.out] at h0
 exact absurd h0 bS
end Go.Proofs.YtnipenijihkgdaaGreatDoor
