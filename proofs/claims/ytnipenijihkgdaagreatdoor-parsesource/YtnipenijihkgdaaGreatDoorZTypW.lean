import Derived.Test.YtnipenijihkgdaaGreatDoorNd
import Derived.Test.YtnipenijihkgdaaGreatDoorQ22
set_option maxHeartbeats 2000000
set_option maxRecDepth 100000
namespace Go.Proofs.YtnipenijihkgdaaGreatDoor
open Go.RowKit
set_option linter.unusedVariables false
theorem kG0 {rec:P Tree} (HP:cY 41 rec) (hbs:Bs rec 0):cY 41 (lO rec):=by
 intro w r E d s t s' hR hE hm
 have hrl:=hR.lt
 have hwf:jE (nxt E s):=hR.nxt_wf 0
 obtain ⟨q1,hq1⟩:=iQ (aR [91] (nxt E s))
 have hs1:sg [91] (nxt E s) = q1:=by rw [← hq1]; exact (aX hwf (fun c r h=>by cases h; rfl)).symm
 have HZ0:Hid (ZAt (w.alloc (.cells nZ 25)) r E d s):=hR.alloc _
 have HM:=hI hm
 clear hm
 go_enter Tryz.func41,Tryz.ntmps41
 go_wp2_with fail
 refine (bU HZ0).mono ?_
 rintro en w1 ⟨⟨x,rfl,hx⟩,hb1⟩
 have HZ1:Hid (ZAt w1 r E d s):=HZ0.out.below hb1
 have o1:=(Own.new w nZ 25).below hb1
 have HB1:Hid (Below w.heap.size w w1):=((Below.refl _ _).alloc (Nat.le_refl _) _).trans (hb1.mono (by rw [World.size_alloc]; omega))
 have HX:=hI hx
 clear hb1 hx HZ0
 go_wp2_with fail
 refine (bG HZ1 ⟨#[91]⟩ q1 hq1).mono ?_
 rintro en w2 ⟨rfl,hb2⟩
 have HZ2:Hid (ZAt w2 r E d s):=HZ1.out.below hb2
 have o2:=o1.below hb2
 have HB2:Hid (Below w.heap.size w w2):=HB1.out.trans (hb2.mono HB1.out.size)
 clear hb2 o1 HB1 HZ1
 cases q1 with
 | true =>
  obtain ⟨p,s2,s3,k,hps,hs3,hrec,hT⟩:=yU0 hs1 HM.out
  have hlive:s.wrong = 0:=by
   have h1:ZAt w2 r E d s:=HZ2.out
   obtain ⟨_,_,_,_,_,_,_,_,hw,_⟩:=h1.pop (cJ hs1)
   exact hw
  have hd64:d = 64→s3.wrong ≠ 0:=fun hd=>by
   have h1:=xA0 (E:=E) hlive hd
   have h2:s2 = inS d E true s:=by
    have h3:(nxt E (inS d E true s)).1 = 0:=by
     have hz:(inS d E true s).rest = []:=by
      unfold inS eL eO aS
      simp [hd,hlive]
     show (bE E (inS d E true s) 0).1 = 0
     rw [gS hz 0]
    have h4:cn (nxt E (inS d E true s)) = false:=by unfold cn; rw [h3]; rfl
    rw [h4] at hps
    exact (Prod.mk.inj hps).2
   rw [hs3,h2]
   have h5:sg [93] (nxt E (inS d E true s)) = false:=by
    have hz:(inS d E true s).rest = []:=by
     unfold inS eL eO aS
     simp [hd,hlive]
    show sg [93] (bE E (inS d E true s) 0) = false
    rw [gS hz 0]
    rfl
   rw [h5]
   exact bS
  have hrec2:rec E (d + 1) s3 = some (k,s'):=by
   rw [uV (t:=nxt E s) (s:=s3) (d:=d) fun h0 hd=>hd64 hd h0] at hrec
   exact hrec
  have HREC:=hI hrec2
  have HMO:Hid (s'.wrong = 0→s3.wrong = 0):=fun h0=>Classical.byContradiction fun hn=>hn (((hbs E (d + 1) s3 k s' hrec2).1 hn).symm.trans h0)
  have HT':=hI hT
  have HXX:Hid (x = (nxt E s).2.2.2.1):=HX.out hlive
  obtain ⟨S1,hS1⟩:=iQ (inS d E true s)
  rw [hS1] at hps
  have HPS:=hI hps
  have HS3:=hI hs3
  have hne2:w.heap.size ≠ r:=by omega
  clear HM hrec hrec2 hT hps hs3 hd64 hlive HX hs1
  go_wp2_with fail
  refine (jY HZ2 ⟨#[91]⟩ true hq1).mono ?_
  rintro en w3 ⟨⟨_,rfl⟩,hR3,hK3⟩
  rw [hS1] at hR3
  have o3:=o2.kp hK3 hne2
  have HK3:Hid (Kp r w w3):=(Kp.of HB2.out).trans hK3
  have hsz3:w.heap.size < w3.heap.size:=o3.lt
  have HZ4:Hid (ZAt (w3.alloc (.cells (nL 9 (x:Int) ⟨#[]⟩ 0) 25)) r E (d + 1) S1):=hR3.alloc _
  have hwf1:jE (nxt E S1):=hR3.nxt_wf 0
  obtain ⟨q2,hq2⟩:=iQ (aR [93] (nxt E S1))
  clear hR3 hK3 o2 HB2 HZ2 hS1 hq1
  go_wp2_with fail
  refine (bG HZ4 ⟨#[93]⟩ q2 hq2).mono ?_
  rintro en w5 ⟨rfl,hb5⟩
  have HZ5:Hid (ZAt w5 r E (d + 1) S1):=HZ4.out.below hb5
  have oN5:=(Own.new w3 (nL 9 (x:Int) ⟨#[]⟩ 0) 25).below hb5
  have o5:=(o3.alloc (.cells (nL 9 (x:Int) ⟨#[]⟩ 0) 25)).below hb5
  have HK5:Hid (Kp r w w5):=(HK3.out.alloc _).trans (Kp.of hb5)
  have hsz5:w3.heap.size < w5.heap.size:=oN5.lt
  have hne3:w3.heap.size ≠ r:=by omega
  clear hb5 o3 HK3 HZ4
  go_upto_if 17 with fail
  go_cut [4] (fun v wx=>∃ (kd nn:Nat) (sz:St),v = .pointer (some ⟨w3.heap.size,0,none⟩)∧Own wx w3.heap.size (nL (kd:Int) (x:Int) ⟨#[]⟩ (nn:Int)) 25∧Own wx w.heap.size nZ 25∧ZAt wx r E (d + 1) sz∧Kp r w wx∧(if aR [93] (nxt E sz) then aS sz else bD E sz) = s3∧(s3.wrong = 0→kd = p.1∧nn = p.2))
  case first =>
   cases q2 with
   | true =>
    have HF:Hid ((if aR [93] (nxt E S1) then aS S1 else bD E S1) = s3∧(s3.wrong = 0→9 = p.1∧0 = p.2)):=by
     have e1:sg [93] (nxt E S1) = true:=by rw [← hq2]; exact (aX hwf1 (fun c r h=>by cases h; rfl)).symm
     have e2:cn (nxt E S1) = false:=by
      simp only [sg,Bool.and_eq_true,beq_iff_eq] at e1
      unfold cn; rw [e1.1]; rfl
     have h:=HPS.out
     rw [e2] at h
     obtain ⟨h1,h2⟩:=Prod.mk.inj h
     exact ⟨by rw [HS3.out,h2,hq2,e1],fun _=>by rw [h1]; exact ⟨rfl,rfl⟩⟩
    clear hq2
    go_wp2_with fail
    go_meet
    exact ⟨9,0,S1,rfl,oN5,o5,HZ5.out,HK5.out,HF.out.1,HF.out.2⟩
   | false=>?_
   obtain ⟨q3,hq3⟩:=iQ (cn (nxt E S1))
   have hq4:(cn (nxt E S1) && decide ((nxt E S1).2.2.1≤18446744073709551615)) = q3:=by rw [hq3]; simp [hwf1.1.2]
   have HF:Hid ((if aR [93] (nxt E (if q3 then aS S1 else bD E S1)) then aS (if q3 then aS S1 else bD E S1) else bD E (if q3 then aS S1 else bD E S1)) = s3∧(s3.wrong = 0→8 = p.1∧(if q3 then (nxt E S1).2.2.1 else 0) = p.2)):=by
    have h:=HPS.out
    rw [hq3] at h
    cases q3 with
    | true =>
     obtain ⟨h1,h2⟩:=Prod.mk.inj h
     have hw2:jE (nxt E (aS S1)):=by
      have hZ:ZAt w5 r E (d + 1) S1:=HZ5.out
      have:nxt E (aS S1) = bE E S1 1:=by
       unfold nxt bE aS
       cases S1.rest with
       | nil=>rfl
       | cons t r=>simp
      rw [this]
      exact hZ.nxt_wf 1
     refine ⟨?_,fun _=>by rw [h1]; exact ⟨rfl,rfl⟩⟩
     rw [HS3.out,h2]
     simp only [if_true]
     rw [aX hw2 (fun c r h=>by cases h; rfl)]
    | false=>?_
    obtain ⟨h1,h2⟩:=Prod.mk.inj h
    have e1:sg [93] (nxt E S1) = false:=by rw [← hq2]; exact (aX hwf1 (fun c r h=>by cases h; rfl)).symm
    have e3:s3 = bD E S1:=by rw [HS3.out,h2,e1]; rfl
    have e4:aR [93] (nxt E (bD E S1)) = false:=by
     have hZ:ZAt w5 r E (d + 1) S1:=HZ5.out
     have hr:(bD E S1).rest = []:=by
      unfold bD eO
      split
      · rfl
      rename_i h0; exact hZ.iv h0
     show aR [93] (bE E (bD E S1) 0) = false
     rw [gS hr 0]
     rfl
    refine ⟨?_,fun h0=>?_⟩
    · show (if aR [93] (nxt E (bD E S1)) = true then aS (bD E S1) else bD E (bD E S1)) = s3
      rw [e4,e3]
      exact sN E S1
    rw [e3] at h0; exact absurd h0 bS
   obtain ⟨z0,z1,z2,z3,z4,zf⟩:=oN5.five
   have hlN:=oN5.lt
   have hZ6:ZAt (w5.setCell ⟨w3.heap.size,0,none⟩ (.int .u8 8)) r E (d + 1) S1:=ZAt.set HZ5.out (by omega) 0 _
   have oN6:Own (w5.setCell ⟨w3.heap.size,0,none⟩ (.int .u8 8)) w3.heap.size (nL 8 (x:Int) ⟨#[]⟩ 0) 25:=oN5.set 0 _
   have o6:Own (w5.setCell ⟨w3.heap.size,0,none⟩ (.int .u8 8)) w.heap.size nZ 25:=o5.other (by omega) _
   have hK6:Kp r w (w5.setCell ⟨w3.heap.size,0,none⟩ (.int .u8 8)):=HK5.out.set (.inl (by omega)) 0 _
   have HZ6:=hI hZ6
   clear hq2 hZ6 hq3
   go_wp2_with fail
   refine (xY HZ6 18446744073709551615 _ rfl q3 hq4).mono ?_
   rintro en w7 ⟨rfl,hR7,hK7⟩
   have oN7:=oN6.kp hK7 hne3
   have o7:=o6.kp hK7 hne2
   have HK7:Hid (Kp r w w7):=hK6.trans hK7
   obtain ⟨y0,y1,y2,y3,y4,yf⟩:=oN7.five
   have hlN7:=oN7.lt
   obtain ⟨NN,hNN⟩:∃ NN:Nat,(if q3 then (nxt E S1).2.2.1 else 0) = NN:=⟨_,rfl⟩
   have hNI:(if q3 = true then ((nxt E S1).2.2.1:Int) else 0) = (NN:Int):=by rw [← hNN]; cases q3 <;> rfl
   rw [hNI]
   have HF2:Hid ((if aR [93] (nxt E (if q3 then aS S1 else bD E S1)) then aS (if q3 then aS S1 else bD E S1) else bD E (if q3 then aS S1 else bD E S1)) = s3∧(s3.wrong = 0→8 = p.1∧NN = p.2)):=by rw [← hNN]; exact HF.out
   have HR7:=hI hR7
   clear HF hNN hNI hq4 hR7 hK7 hK6 oN6 o6 HZ6 z0 z1 z2 z3 z4 zf
   go_wp2_with fail
   go_meet
   exact ⟨8,NN,_,rfl,oN7.set 3 _,o7.other (by omega) _,ZAt.set HR7.out (by omega) 3 _,HK7.out.set (.inl (by omega)) 3 _,HF2.out.1,HF2.out.2⟩
  obtain ⟨kd,nn,sz,rfl,oN,oR,hZ,hK,hfin,hpn⟩:=hcut
  obtain ⟨q4,hq4⟩:=iQ (aR [93] (nxt E sz))
  rw [hq4] at hfin
  have HFIN:=hI hfin
  have HPN:=hI hpn
  have HZ:=hI hZ
  have HK:=hI hK
  clear hfin hpn hZ hK HPS HS3 HZ5 HK5 o5 oN5 hq2 hwf1
  go_wp2_with fail
  refine (cQ HZ ⟨#[93]⟩ q4 hq4).mono ?_
  rintro en w8 ⟨⟨_,rfl⟩,hR8,hK8⟩
  rw [HFIN.out] at hR8
  have oN8:=oN.kp hK8 hne3
  have oR8:=oR.kp hK8 hne2
  have HK8:Hid (Kp r w w8):=HK.out.trans hK8
  clear hK8 oN oR HK HZ HFIN hq4
  go_wp2_with fail
  refine (HP w8 r E (d + 1) s3 k s' hR8 hE HREC.out).mono ?_
  rintro en w9 ⟨t1,k1,a1,b1,n1,v1,rfl,hN1,ht1,hR9,hK9⟩
  obtain ⟨ao1,cap1,rfl⟩:=Row.shape hN1.2.2.2.2
  have hn8:w3.heap.size < w8.heap.size:=oN8.lt
  have hr8:w.heap.size < w8.heap.size:=oR8.lt
  have oN9:=oN8.kp hK9 hne3
  have oR9:=oR8.kp hK9 hne2
  have HK9:Hid (Kp r w w9):=HK8.out.trans hK9
  have hs89:=hK9.size
  have HN1:=hI hN1
  have HT1:=hI ht1
  obtain ⟨v,a,dd,pl,ho9,hup⟩:=hR9.up
  obtain ⟨W10,hW10⟩:=iQ (w9.alloc (.cells (nQ k1 a1 b1 n1 ao1 t1 cap1) 25))
  have hb10:Below w9.heap.size w9 W10:=by rw [← hW10]; exact (Below.refl _ _).alloc (Nat.le_refl _) _
  have oX:Own W10 w9.heap.size (nQ k1 a1 b1 n1 ao1 t1 cap1) 25:=by rw [← hW10]; exact Own.new w9 _ _
  have ho10:=ho9.below hb10
  have oN10:=oN9.below hb10
  have oR10:=oR9.below hb10
  have HUP:=hI hup
  have HO10:=hI ho10
  have HN10:=hI oN10
  have HR10:=hI oR10
  have HB10:=hI hb10
  obtain ⟨c0,c1,c2,c3,c4,c5,f0⟩:=ho10.six
  obtain ⟨x0,x1,x2,x3,x4,xf⟩:=oX.five
  have hlr:=ho10.lt
  have hlX:=oX.lt
  have hq1:r ≠ w9.heap.size:=by omega
  have hq2:w9.heap.size ≠ r:=by omega
  have hq6:w.heap.size ≠ w3.heap.size:=by omega
  obtain ⟨W11,hW11⟩:=iQ ((W10.setCell ⟨r,3,none⟩ (.int .i64 (wrap64 (dd - 1)))).alloc (.cells (nQ k1 a1 b1 n1 ao1 t1 cap1) 25))
  have hsq:(W10.setCell ⟨r,3,none⟩ (.int .i64 (wrap64 (dd - 1)))).heap.size = W10.heap.size:=by simp [World.setCell]
  have HROW:Hid (Row W11 w8.heap.size (.slice (some ⟨W10.heap.size,0,none⟩) 1 1) [t1]):=by
   unfold Hid
   rw [← hW11,← hsq]
   exact Row.one (HN1.out.row fun y=>((y.below HB10.out).set (by omega) _)) (Nat.le_refl _) (by rw [hsq]; have:=HB10.out.size; omega)
  have oN11:Own W11 w3.heap.size (nL (kd:Int) (x:Int) ⟨#[]⟩ (nn:Int)) 25:=by rw [← hW11]; exact Own.alloc (Own.other HN10.out hne3 _) _
  have oR11:Own W11 w.heap.size nZ 25:=by rw [← hW11]; exact Own.alloc (Own.other HR10.out hne2 _) _
  have HZ11:Hid (ZAt W11 r E d s'):=by
   unfold Hid
   rw [← hW11]
   refine ZAt.alloc (HUP.out _ (fun g hg=>?_) (Own.set HO10.out 3 _)) _
   rw [Below.heap_setCell W10 ⟨r,3,none⟩ _ g (by show g ≠ r; omega)]
   exact HB10.out.block g (by omega)
  have HK11:Hid (Kp r w W11):=by
   unfold Hid
   rw [← hW11]
   exact ((HK9.out.trans (Kp.of HB10.out)).set (.inr rfl) 3 _).alloc _
  have hlN:=oN11.lt
  have hlR:=oR11.lt
  obtain ⟨y0,y1,y2,y3,y4,yf⟩:=oN11.five
  obtain ⟨z0,z1,z2,z3,z4,zf⟩:=oR11.five
  have HN11:=hI oN11
  have HR11:=hI oR11
  clear hR8 HREC HP hN1 ht1 hR9 hK9 oN8 oR8 HK8 oN9 oR9 hup ho9 hb10 oN10 oR10 ho10 oN11 oR11 hsq HN10 HR10 HO10 HUP HB10 HK9 HN1 oX hbs
  go_upto_region 10 with fail
  try rw [hW10]
  clear hW10
  go_wp2_with fail
  refine (dE _ _ _ _).mono ?_
  rintro en wz ⟨rfl,rfl⟩
  try rw [hW11]
  clear hW11 c0 c1 c2 c3 c4 c5 f0 x0 x1 x2 x3 x4 xf
  go_wp2
  refine aC (t:=25) rfl rfl rfl (Own.set5 (Own.other HR11.out hq6 _) _ _ _ _ _) Tryz.underlying25 rfl (by kernel_rfl) ?_
  refine ⟨⟨kd,(x:Int),[],nn,[t1]⟩,_,_,_,_,_,rfl,⟨rfl,rfl,rfl,rfl,((HROW.out.set hn8 _).set5 hr8 _ _ _ _ _).mono (Nat.le_of_lt hr8)⟩,fun h0=>?_,(ZAt.set HZ11.out (by omega) 4 _).set5 hrl _ _ _ _ _,(HK11.out.set (.inl (Nat.le_of_lt hsz3)) 4 _).set5 (.inl (Nat.le_refl _)) _ _ _ _ _⟩
  rw [HT'.out,HT1.out h0,(HPN.out (HMO.out h0)).1,(HPN.out (HMO.out h0)).2,HXX.out]
 | false=>?_
 have hto:=yF0 hs1 HM.out
 clear HM
 go_wp2_with fail
 refine (kW0 w2).mono ?_
 rintro en w3 ⟨rfl,hstr,hb3⟩
 have HZ3:Hid (ZAt w3 r E d s):=HZ2.out.below hb3
 have o3:=o2.below hb3
 have HB3:Hid (Below w.heap.size w w3):=HB2.out.trans (hb3.mono HB2.out.size)
 obtain ⟨q2,hq2⟩:=iQ (mQ (nxt E s))
 have hk2:=(iV0 hwf).trans hq2
 clear hb3 o2 HB2 HZ2 hq1 hs1
 go_wp2_with fail
 refine (cG0 HZ3 _ _ hstr 5 rfl (by omega) q2 hk2).mono ?_
 rintro en w4 ⟨rfl,hb4⟩
 have HZ4:Hid (ZAt w4 r E d s):=HZ3.out.below hb4
 have o4:=o3.below hb4
 have HB4:Hid (Below w.heap.size w w4):=HB3.out.trans (hb4.mono HB3.out.size)
 clear hb4 o3 HB3 HZ3 hstr hk2
 cases q2 with
 | true =>
  have hlive:(nxt E s).1 ≠ 0:=wZ hq2
  obtain ⟨_,hT,hS⟩:=hto.resolve_right fun q=>by rw [hq2] at q; simp at q
  have HT':=hI hT
  have HS':=hI hS
  have HZ5:=HZ4
  have o5:=o4
  have HB5:=HB4
  clear hto hT hS hq2 HZ4 o4 HB4
  go_wp2_with fail
  refine (fP HZ5 0 0 rfl (by omega)).mono ?_
  rintro en w6 ⟨⟨k6,b6,n6,a6,e6,rfl,hA6⟩,hb6⟩
  have HZ6:ZAt w6 r E d s:=HZ5.out.below hb6
  have o6:=o5.below hb6
  have HB6:Hid (Below w.heap.size w w6):=HB5.out.trans (hb6.mono HB5.out.size)
  have hbx:=hI hA6.2.1
  obtain ⟨v7,a7,dd7,pl7,ho7,ha7,hdd7,hd7,hw7,hpop7⟩:=HZ6.pop hlive
  obtain ⟨c0,c1,c2,c3,c4,c5,f0⟩:=ho7.six
  obtain ⟨z0,z1,z2,z3,z4,zf⟩:=o6.five
  have hl7:=ho7.lt
  have hlz:=o6.lt
  have hrz:r < w.heap.size:=hrl
  have hne1:r ≠ w.heap.size:=by omega
  have hne2:w.heap.size ≠ r:=by omega
  have HP7:=hI hpop7
  have HO7:=hI ho7
  have HD7:=hI hdd7
  have HO6:=hI o6
  have HW7:=hI hw7
  clear hpop7 ho7 hdd7 hA6 HZ6 o6 o5 HZ5 HB5 hb6 hw7
  go_wp2
  refine aC (t:=25) rfl rfl rfl (Own.set5 (Own.other (g':=r) HO6.out hne2 _) _ _ _ _ _) Tryz.underlying25 rfl (by kernel_rfl) ?_
  have hpz:ZAt (w6.setCell ⟨r,1,none⟩ (.int .i64 ((a7:Int) + 1))) r E d (aS s):=by
   refine HP7.out _ (fun g hg=>Below.heap_setCell w6 ⟨r,1,none⟩ _ g (by show g ≠ r; omega)) d d rfl hd7 ?_
   have:=HO7.out.set 1 (.int .i64 ((a7:Int) + 1))
   rw [HD7.out] at this
   exact this
  refine ⟨⟨7,(x:Int),(nxt E s).2.1,0,[]⟩,_,_,_,_,_,rfl,⟨rfl,rfl,hbx.out,rfl,Row.nil _ _⟩,fun _=>?_,by rw [HS'.out]; exact hpz.set5 hrz _ _ _ _ _,?_⟩
  · rw [HT'.out,HX.out HW7.out]
  exact (((Kp.of HB6.out).set (.inr rfl) 1 _).set5 (.inl (Nat.le_refl _)) _ _ _ _ _)
 | false=>?_
 obtain ⟨q3,hq3⟩:=iQ (nm (nxt E s))
 go_wp2_with fail
 refine (lC HZ4 q3 hq3).mono ?_
 rintro en w5 ⟨rfl,hb5⟩
 have HZ5:Hid (ZAt w5 r E d s):=HZ4.out.below hb5
 have o5:=o4.below hb5
 have HB5:Hid (Below w.heap.size w w5):=HB4.out.trans (hb5.mono HB4.out.size)
 clear hb5 o4 HB4 HZ4
 cases q3 with
 | true =>
  have hlive:(nxt E s).1 ≠ 0:=eN hq3
  obtain ⟨_,hT,hS⟩:=hto.resolve_right fun q=>by rw [hq3] at q; simp at q
  have HT':=hI hT
  have HS':=hI hS
  clear hto hT hS hq2 hq3
  go_wp2_with fail
  refine (fP HZ5 0 0 rfl (by omega)).mono ?_
  rintro en w6 ⟨⟨k6,b6,n6,a6,e6,rfl,hA6⟩,hb6⟩
  have HZ6:ZAt w6 r E d s:=HZ5.out.below hb6
  have o6:=o5.below hb6
  have HB6:Hid (Below w.heap.size w w6):=HB5.out.trans (hb6.mono HB5.out.size)
  have hbx:=hI hA6.2.1
  obtain ⟨v7,a7,dd7,pl7,ho7,ha7,hdd7,hd7,hw7,hpop7⟩:=HZ6.pop hlive
  obtain ⟨c0,c1,c2,c3,c4,c5,f0⟩:=ho7.six
  obtain ⟨z0,z1,z2,z3,z4,zf⟩:=o6.five
  have hl7:=ho7.lt
  have hlz:=o6.lt
  have hrz:r < w.heap.size:=hrl
  have hne1:r ≠ w.heap.size:=by omega
  have hne2:w.heap.size ≠ r:=by omega
  have HP7:=hI hpop7
  have HO7:=hI ho7
  have HD7:=hI hdd7
  have HO6:=hI o6
  have HW7:=hI hw7
  clear hpop7 ho7 hdd7 hA6 HZ6 o6 o5 HZ5 HB5 hb6 hw7
  go_wp2
  refine aC (t:=25) rfl rfl rfl (Own.set5 (Own.other (g':=r) HO6.out hne2 _) _ _ _ _ _) Tryz.underlying25 rfl (by kernel_rfl) ?_
  have hpz:ZAt (w6.setCell ⟨r,1,none⟩ (.int .i64 ((a7:Int) + 1))) r E d (aS s):=by
   refine HP7.out _ (fun g hg=>Below.heap_setCell w6 ⟨r,1,none⟩ _ g (by show g ≠ r; omega)) d d rfl hd7 ?_
   have:=HO7.out.set 1 (.int .i64 ((a7:Int) + 1))
   rw [HD7.out] at this
   exact this
  refine ⟨⟨7,(x:Int),(nxt E s).2.1,0,[]⟩,_,_,_,_,_,rfl,⟨rfl,rfl,hbx.out,rfl,Row.nil _ _⟩,fun _=>?_,by rw [HS'.out]; exact hpz.set5 hrz _ _ _ _ _,?_⟩
  · rw [HT'.out,HX.out HW7.out]
  exact (((Kp.of HB6.out).set (.inr rfl) 1 _).set5 (.inl (Nat.le_refl _)) _ _ _ _ _)
 | false=>?_
 obtain ⟨_,hT,hS⟩:=hto.resolve_left fun q=>by rw [hq3,hq2] at q; simp at q
 have HS':=hI hS
 clear hto hT hS hq2 hq3
 go_wp2_with fail
 refine (fI HZ5 40 40 rfl (by decide)).mono ?_
 rintro en w6 ⟨⟨_,rfl⟩,hR6,hK6⟩
 have hne2:w.heap.size ≠ r:=by omega
 have o6:=o5.kp hK6 hne2
 have HO6:=hI o6
 obtain ⟨z0,z1,z2,z3,z4,zf⟩:=o6.five
 have hlz:=o6.lt
 have HR6:=hI hR6
 have HK6:Hid (Kp r w w6):=(Kp.of HB5.out).trans hK6
 clear hR6 hK6 o6 o5 HB5 HZ5
 go_wp2
 refine aC (t:=25) rfl rfl rfl (Own.set5 HO6.out _ _ _ _ _) Tryz.underlying25 rfl (by kernel_rfl) ?_
 refine ⟨noN,_,_,_,_,_,rfl,⟨rfl,rfl,rfl,rfl,Row.nil _ _⟩,fun h0=>?_,by rw [HS'.out]; exact HR6.out.set5 hrl _ _ _ _ _,HK6.out.set5 (.inl (Nat.le_refl _)) _ _ _ _ _⟩
 rw [HS'.out] at h0
 exact absurd h0 bS
end Go.Proofs.YtnipenijihkgdaaGreatDoor
