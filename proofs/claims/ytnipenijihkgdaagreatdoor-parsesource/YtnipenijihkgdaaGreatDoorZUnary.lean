import Derived.Test.YtnipenijihkgdaaGreatDoorNd
import Derived.Test.YtnipenijihkgdaaGreatDoorQ38
import Derived.Test.YtnipenijihkgdaaGreatDoorQ33
set_option maxHeartbeats 8000000
set_option maxRecDepth 100000
namespace Go.Proofs.YtnipenijihkgdaaGreatDoor
open Go.RowKit
set_option linter.unusedVariables false
def zG : List ByteArray:=[⟨#[45]⟩,⟨#[126]⟩,⟨#[33]⟩]
theorem xD0 {t:Tok} (h:sg [45] t = true):iE t = 55:=by unfold iE; rw [if_pos h]
theorem eW0 {x y:List Nat} {t:Tok} (h:sg x t = true) (hn:x ≠ y):sg y t = false:=by
 simp only [sg,Bool.and_eq_true,beq_iff_eq] at h
 unfold sg
 rw [h.2]
 have:(x == y) = false:=by simpa using hn
 rw [this]; simp
theorem wN0 {t:Tok} (h:sg [126] t = true):iE t = 56:=by unfold iE; rw [eW0 h (by decide),if_neg (by simp),if_pos h]
theorem wW0 {t:Tok} (h:sg [33] t = true):iE t = 57:=by unfold iE; rw [eW0 (y:=[45]) h (by decide),if_neg (by simp),eW0 (y:=[126]) h (by decide),if_neg (by simp),if_pos h]
theorem wE {f kd E d:Nat} {rec typ expr:P Tree} {s s':St} {t:Tree} (hk:iE (nxt E s) = kd) (h0:kd ≠ 0) (hm:kK f rec typ expr E d s = some (t,s')) :
    ∃ k,rec E (d + 1) (inS d E true s) = some (k,s')∧t = ⟨kd,((nxt E s).2.2.2.1:Nat),[],0,[k]⟩:=by
 unfold kK at hm
 replace hm:=aN hm
 rw [if_neg (by rw [hk]; exact h0)] at hm
 obtain ⟨tk,s1,g1,g2⟩:=aE hm
 obtain ⟨rfl,rfl⟩:=aV g1
 obtain ⟨k,s2,g3,g4⟩:=aE g2
 obtain ⟨g5,rfl⟩:=aJ g4
 exact ⟨k,g3,by rw [← g5,hk]⟩
def aG1 (W:World) (E:Nat) (s:St) (b g:Nat) (v:Value) (wr:World):Prop:=∃ k:Nat,k + g = 3∧v = .int .i64 (k:Int)∧Below W.heap.size W wr∧jG wr b zG∧∀ j y,j < k→zG[j]? = some y→aR (aD y) (nxt E s) = false
theorem bP0 {rec typ expr:P Tree} (HP:cY 123 rec) (f:Nat) (HPr:cY 143 (cB f typ expr)) (HE:cY 40 expr) (hbs:Bs expr 0):cY 123 (kK f rec typ expr):=by
 intro w r E d s t s' hR hE hm
 have hrl:=hR.lt
 have hne2:w.heap.size ≠ r:=by omega
 have HWF:Hid (jE (nxt E s)):=hR.nxt_wf 0
 have HM:=hI hm
 obtain ⟨W0,hW0⟩:=iQ (w.alloc (.cells nZ 25))
 have HZ0:Hid (ZAt W0 r E d s):=by unfold Hid; rw [← hW0]; exact hR.alloc _
 have HO0:Hid (Own W0 w.heap.size nZ 25):=by unfold Hid; rw [← hW0]; exact Own.new w _ _
 have HK0:Hid (Kp r w W0):=by unfold Hid; rw [← hW0]; exact (Kp.refl r w).alloc _
 have hs0:w.heap.size < W0.heap.size:=by rw [← hW0,World.size_alloc]; omega
 have HW0:=hI hW0
 clear hm hR hW0
 go_enter Tryz.func123,Tryz.ntmps123
 go_upto_region 1 with fail
 rw [HW0.out]
 clear HW0
 go_wp2_with fail
 go_loopg [10] 3 (fun g v wr=>aG1 W0 E s W0.heap.size g v wr)
 case atStart=>exact ⟨0,by omega,rfl,(Below.refl _ _).alloc (Nat.le_refl _) _,Own.new W0 _ _,fun j x h=>by omega⟩
 case round =>
  obtain ⟨kk,hk,rfl,hb,hS,hno⟩:=hrel
  have HNO:=hI hno
  have HS:=hI hS
  have HRr:Hid (ZAt wr r E d s):=HZ0.out.below hb
  have o1:=HO0.out.below hb
  have HK1:Hid (Kp r w wr):=HK0.out.trans (Kp.of hb)
  have hbl:=hS.lt
  have hcell:∀ j x,zG[j]? = some x→wr.cell? ⟨W0.heap.size,j,none⟩ = some (.string x):=fun j x hx=>(cell_of_row _ _ j _ _ _ hS).trans (by simp [hx])
  clear hno hS
  rcases (show kk = 0∨kk = 1∨kk = 2∨kk = 3 by omega) with rfl | rfl | rfl | rfl
  · have hc:=hcell 0 _ rfl
    obtain ⟨q1,hq1⟩:=iQ (aR [45] (nxt E s))
    clear hcell
    go_wp2_with fail
    refine (bG HRr ⟨#[45]⟩ q1 hq1).mono ?_
    rintro en w2 ⟨rfl,hb2⟩
    have HZ2:Hid (ZAt w2 r E d s):=HRr.out.below hb2
    have o2:=o1.below hb2
    have HK2:Hid (Kp r w w2):=HK1.out.trans (Kp.of hb2)
    have hS2:jG w2 W0.heap.size zG:=(hb2.block _ hbl).trans HS.out
    have hbb:Below W0.heap.size W0 w2:=hb.trans (hb2.mono hb.size)
    clear hb2 hb o1 HK1 HRr hc
    cases q1 with
    | true =>
     have hsg:sg [45] (nxt E s) = true:=by rw [← hq1]; exact (aX HWF.out (fun c r h=>by cases h; rfl)).symm
     have hkd:iE (nxt E s) = 55:=xD0 hsg
     obtain ⟨k,hrec,hT⟩:=wE hkd (by decide) HM.out
     have hlive:s.wrong = 0:=by
      have h1:ZAt w2 r E d s:=HZ2.out
      obtain ⟨_,_,_,_,_,_,_,_,hw,_⟩:=h1.pop (cJ hsg)
      exact hw
     have HREC:=hI hrec
     have HT':=hI hT
     have HLV:=hI hlive
     clear hrec hT hkd hsg HM hlive HNO HS
     go_wp2_with fail
     refine (bU HZ2).mono ?_
     rintro en w3 ⟨⟨x,rfl,hx⟩,hb3⟩
     have HXX:Hid (x = (nxt E s).2.2.2.1):=hx HLV.out
     have hR3:ZAt w3 r E d s:=HZ2.out.below hb3
     have o3:=o2.below hb3
     have hK3:Kp r w w3:=HK2.out.trans (Kp.of hb3)
     have hsz3:w.heap.size < w3.heap.size:=o3.lt
     obtain ⟨W4,hW4⟩:=iQ (w3.alloc (.cells (nL 55 (x:Int) ⟨#[]⟩ 0) 25))
     have oN4:Own W4 w3.heap.size (nL 55 (x:Int) ⟨#[]⟩ 0) 25:=by rw [← hW4]; exact Own.new w3 _ _
     have hne3:w3.heap.size ≠ r:=by omega
     have o4:Own W4 w.heap.size nZ 25:=by rw [← hW4]; exact o3.alloc _
     have HZ4:Hid (ZAt W4 r E d s):=by unfold Hid; rw [← hW4]; exact hR3.alloc _
     have HK4:Hid (Kp r w W4):=by unfold Hid; rw [← hW4]; exact hK3.alloc _
     have HW4:=hI hW4
     have hl4:=oN4.lt
     clear hb3 hx hR3 o3 hK3 hW4 o2 HK2 HZ2
     go_upto_region 11 with fail
     rw [HW4.out]
     clear HW4
     go_wp2_with fail
     refine (jY HZ4 ⟨#[45]⟩ true hq1).mono ?_
     rintro en w8 ⟨⟨_,rfl⟩,hR8,hK8⟩
     have oN8:=oN4.kp hK8 hne3
     have oR8:=o4.kp hK8 hne2
     have HK8:Hid (Kp r w w8):=HK4.out.trans hK8
     clear hK8 oN4 o4 HK4 HZ4 hq1
     go_wp2_with fail
     refine (HP w8 r E (d + 1) _ k s' hR8 hE HREC.out).mono ?_
     rintro en w9 ⟨t1,k1,a1,b1,n1,v1,rfl,hN1,ht1,hR9,hK9⟩
     obtain ⟨ao1,cap1,rfl⟩:=Row.shape hN1.2.2.2.2
     have hn8:w3.heap.size < w8.heap.size:=oN8.lt
     have hr8:w.heap.size < w8.heap.size:=oR8.lt
     have oN9:=oN8.kp hK9 hne3
     have oR9:=oR8.kp hK9 hne2
     have HK9:Hid (Kp r w w9):=HK8.out.trans hK9
     have hs89:=hK9.size
     have HN1:=hI hN1
     have HT1:=hI ht1
     obtain ⟨v,a,dd,pl,ho9,hup⟩:=hR9.up
     obtain ⟨W10,hW10⟩:=iQ (w9.alloc (.cells (nQ k1 a1 b1 n1 ao1 t1 cap1) 25))
     have hb10:Below w9.heap.size w9 W10:=by rw [← hW10]; exact (Below.refl _ _).alloc (Nat.le_refl _) _
     have oX:Own W10 w9.heap.size (nQ k1 a1 b1 n1 ao1 t1 cap1) 25:=by rw [← hW10]; exact Own.new w9 _ _
     have ho10:=ho9.below hb10
     have oN10:=oN9.below hb10
     have oR10:=oR9.below hb10
     have HUP:=hI hup
     have HO10:=hI ho10
     have HN10:=hI oN10
     have HR10:=hI oR10
     have HB10:=hI hb10
     obtain ⟨c0,c1,c2,c3,c4,c5,f0⟩:=ho10.six
     obtain ⟨x0,x1,x2,x3,x4,xf⟩:=oX.five
     have hlr:=ho10.lt
     have hlX:=oX.lt
     have hq1:r ≠ w9.heap.size:=by omega
     have hq2:w9.heap.size ≠ r:=by omega
     have hq6:w.heap.size ≠ w3.heap.size:=by omega
     obtain ⟨W11,hW11⟩:=iQ ((W10.setCell ⟨r,3,none⟩ (.int .i64 (wrap64 (dd - 1)))).alloc (.cells (nQ k1 a1 b1 n1 ao1 t1 cap1) 25))
     have hsq:(W10.setCell ⟨r,3,none⟩ (.int .i64 (wrap64 (dd - 1)))).heap.size = W10.heap.size:=by simp [World.setCell]
     have HROW:Hid (Row W11 w8.heap.size (.slice (some ⟨W10.heap.size,0,none⟩) 1 1) [t1]):=by
      unfold Hid
      rw [← hW11,← hsq]
      exact Row.one (HN1.out.row fun y=>((y.below HB10.out).set (by omega) _)) (Nat.le_refl _) (by rw [hsq]; have:=HB10.out.size; omega)
     have oN11:Own W11 w3.heap.size (nL 55 (x:Int) ⟨#[]⟩ 0) 25:=by rw [← hW11]; exact Own.alloc (Own.other HN10.out hne3 _) _
     have oR11:Own W11 w.heap.size nZ 25:=by rw [← hW11]; exact Own.alloc (Own.other HR10.out hne2 _) _
     have HZ11:Hid (ZAt W11 r E d s'):=by
      unfold Hid
      rw [← hW11]
      refine ZAt.alloc (HUP.out _ (fun g hg=>?_) (Own.set HO10.out 3 _)) _
      rw [Below.heap_setCell W10 ⟨r,3,none⟩ _ g (by show g ≠ r; omega)]
      exact HB10.out.block g (by omega)
     have HK11:Hid (Kp r w W11):=by
      unfold Hid
      rw [← hW11]
      exact ((HK9.out.trans (Kp.of HB10.out)).set (.inr rfl) 3 _).alloc _
     have hlN:=oN11.lt
     have hlR:=oR11.lt
     obtain ⟨y0,y1,y2,y3,y4,yf⟩:=oN11.five
     obtain ⟨z0,z1,z2,z3,z4,zf⟩:=oR11.five
     have HR11:=hI oR11
     clear hR8 HREC HP hN1 ht1 hR9 hK9 oN8 oR8 HK8 oN9 oR9 hup ho9 hb10 oN10 oR10 ho10 oN11 oR11 hsq HN10 HR10 HO10 HUP HB10 HK9 HN1 oX
     go_upto_region 13 with fail
     try rw [hW10]
     clear hW10
     go_wp2_with fail
     refine (dE _ _ _ _).mono ?_
     rintro en wz ⟨rfl,rfl⟩
     try rw [hW11]
     clear hW11 c0 c1 c2 c3 c4 c5 f0 x0 x1 x2 x3 x4 xf
     go_wp2
     refine aC (t:=25) rfl rfl rfl (Own.set5 (Own.other HR11.out hq6 _) _ _ _ _ _) Tryz.underlying25 rfl (by kernel_rfl) ?_
     refine ⟨⟨55,(x:Int),[],0,[t1]⟩,_,_,_,_,_,rfl,⟨rfl,rfl,rfl,rfl,((HROW.out.set hn8 _).set5 hr8 _ _ _ _ _).mono (Nat.le_of_lt hr8)⟩,fun h0=>?_,(ZAt.set HZ11.out (by omega) 4 _).set5 hrl _ _ _ _ _,(HK11.out.set (.inl (Nat.le_of_lt hsz3)) 4 _).set5 (.inl (Nat.le_refl _)) _ _ _ _ _⟩
     rw [HT'.out,HT1.out h0,HXX.out]
    | false=>?_
    have HN2:Hid (∀ j y,j < 0 + 1→zG[j]? = some y→aR (aD y) (nxt E s) = false):=fun j y hj hy=>by
     by_cases e:j = 0
     · subst e; cases hy; exact hq1
     exact HNO.out j y (by omega) hy
    clear hq1
    go_wp2
    go_roundg (gk - 1)
    case rel=>exact ⟨0 + 1,by omega,rfl,hbb,hS2,HN2.out⟩
    case measure=>omega
  · have hc:=hcell 1 _ rfl
    obtain ⟨q1,hq1⟩:=iQ (aR [126] (nxt E s))
    clear hcell
    go_wp2_with fail
    refine (bG HRr ⟨#[126]⟩ q1 hq1).mono ?_
    rintro en w2 ⟨rfl,hb2⟩
    have HZ2:Hid (ZAt w2 r E d s):=HRr.out.below hb2
    have o2:=o1.below hb2
    have HK2:Hid (Kp r w w2):=HK1.out.trans (Kp.of hb2)
    have hS2:jG w2 W0.heap.size zG:=(hb2.block _ hbl).trans HS.out
    have hbb:Below W0.heap.size W0 w2:=hb.trans (hb2.mono hb.size)
    clear hb2 hb o1 HK1 HRr hc
    cases q1 with
    | true =>
     have hsg:sg [126] (nxt E s) = true:=by rw [← hq1]; exact (aX HWF.out (fun c r h=>by cases h; rfl)).symm
     have hkd:iE (nxt E s) = 56:=wN0 hsg
     obtain ⟨k,hrec,hT⟩:=wE hkd (by decide) HM.out
     have hlive:s.wrong = 0:=by
      have h1:ZAt w2 r E d s:=HZ2.out
      obtain ⟨_,_,_,_,_,_,_,_,hw,_⟩:=h1.pop (cJ hsg)
      exact hw
     have HREC:=hI hrec
     have HT':=hI hT
     have HLV:=hI hlive
     clear hrec hT hkd hsg HM hlive HNO HS
     go_wp2_with fail
     refine (bU HZ2).mono ?_
     rintro en w3 ⟨⟨x,rfl,hx⟩,hb3⟩
     have HXX:Hid (x = (nxt E s).2.2.2.1):=hx HLV.out
     have hR3:ZAt w3 r E d s:=HZ2.out.below hb3
     have o3:=o2.below hb3
     have hK3:Kp r w w3:=HK2.out.trans (Kp.of hb3)
     have hsz3:w.heap.size < w3.heap.size:=o3.lt
     obtain ⟨W4,hW4⟩:=iQ (w3.alloc (.cells (nL 56 (x:Int) ⟨#[]⟩ 0) 25))
     have oN4:Own W4 w3.heap.size (nL 56 (x:Int) ⟨#[]⟩ 0) 25:=by rw [← hW4]; exact Own.new w3 _ _
     have hne3:w3.heap.size ≠ r:=by omega
     have o4:Own W4 w.heap.size nZ 25:=by rw [← hW4]; exact o3.alloc _
     have HZ4:Hid (ZAt W4 r E d s):=by unfold Hid; rw [← hW4]; exact hR3.alloc _
     have HK4:Hid (Kp r w W4):=by unfold Hid; rw [← hW4]; exact hK3.alloc _
     have HW4:=hI hW4
     have hl4:=oN4.lt
     clear hb3 hx hR3 o3 hK3 hW4 o2 HK2 HZ2
     go_upto_region 11 with fail
     rw [HW4.out]
     clear HW4
     go_wp2_with fail
     refine (jY HZ4 ⟨#[126]⟩ true hq1).mono ?_
     rintro en w8 ⟨⟨_,rfl⟩,hR8,hK8⟩
     have oN8:=oN4.kp hK8 hne3
     have oR8:=o4.kp hK8 hne2
     have HK8:Hid (Kp r w w8):=HK4.out.trans hK8
     clear hK8 oN4 o4 HK4 HZ4 hq1
     go_wp2_with fail
     refine (HP w8 r E (d + 1) _ k s' hR8 hE HREC.out).mono ?_
     rintro en w9 ⟨t1,k1,a1,b1,n1,v1,rfl,hN1,ht1,hR9,hK9⟩
     obtain ⟨ao1,cap1,rfl⟩:=Row.shape hN1.2.2.2.2
     have hn8:w3.heap.size < w8.heap.size:=oN8.lt
     have hr8:w.heap.size < w8.heap.size:=oR8.lt
     have oN9:=oN8.kp hK9 hne3
     have oR9:=oR8.kp hK9 hne2
     have HK9:Hid (Kp r w w9):=HK8.out.trans hK9
     have hs89:=hK9.size
     have HN1:=hI hN1
     have HT1:=hI ht1
     obtain ⟨v,a,dd,pl,ho9,hup⟩:=hR9.up
     obtain ⟨W10,hW10⟩:=iQ (w9.alloc (.cells (nQ k1 a1 b1 n1 ao1 t1 cap1) 25))
     have hb10:Below w9.heap.size w9 W10:=by rw [← hW10]; exact (Below.refl _ _).alloc (Nat.le_refl _) _
     have oX:Own W10 w9.heap.size (nQ k1 a1 b1 n1 ao1 t1 cap1) 25:=by rw [← hW10]; exact Own.new w9 _ _
     have ho10:=ho9.below hb10
     have oN10:=oN9.below hb10
     have oR10:=oR9.below hb10
     have HUP:=hI hup
     have HO10:=hI ho10
     have HN10:=hI oN10
     have HR10:=hI oR10
     have HB10:=hI hb10
     obtain ⟨c0,c1,c2,c3,c4,c5,f0⟩:=ho10.six
     obtain ⟨x0,x1,x2,x3,x4,xf⟩:=oX.five
     have hlr:=ho10.lt
     have hlX:=oX.lt
     have hq1:r ≠ w9.heap.size:=by omega
     have hq2:w9.heap.size ≠ r:=by omega
     have hq6:w.heap.size ≠ w3.heap.size:=by omega
     obtain ⟨W11,hW11⟩:=iQ ((W10.setCell ⟨r,3,none⟩ (.int .i64 (wrap64 (dd - 1)))).alloc (.cells (nQ k1 a1 b1 n1 ao1 t1 cap1) 25))
     have hsq:(W10.setCell ⟨r,3,none⟩ (.int .i64 (wrap64 (dd - 1)))).heap.size = W10.heap.size:=by simp [World.setCell]
     have HROW:Hid (Row W11 w8.heap.size (.slice (some ⟨W10.heap.size,0,none⟩) 1 1) [t1]):=by
      unfold Hid
      rw [← hW11,← hsq]
      exact Row.one (HN1.out.row fun y=>((y.below HB10.out).set (by omega) _)) (Nat.le_refl _) (by rw [hsq]; have:=HB10.out.size; omega)
     have oN11:Own W11 w3.heap.size (nL 56 (x:Int) ⟨#[]⟩ 0) 25:=by rw [← hW11]; exact Own.alloc (Own.other HN10.out hne3 _) _
     have oR11:Own W11 w.heap.size nZ 25:=by rw [← hW11]; exact Own.alloc (Own.other HR10.out hne2 _) _
     have HZ11:Hid (ZAt W11 r E d s'):=by
      unfold Hid
      rw [← hW11]
      refine ZAt.alloc (HUP.out _ (fun g hg=>?_) (Own.set HO10.out 3 _)) _
      rw [Below.heap_setCell W10 ⟨r,3,none⟩ _ g (by show g ≠ r; omega)]
      exact HB10.out.block g (by omega)
     have HK11:Hid (Kp r w W11):=by
      unfold Hid
      rw [← hW11]
      exact ((HK9.out.trans (Kp.of HB10.out)).set (.inr rfl) 3 _).alloc _
     have hlN:=oN11.lt
     have hlR:=oR11.lt
     obtain ⟨y0,y1,y2,y3,y4,yf⟩:=oN11.five
     obtain ⟨z0,z1,z2,z3,z4,zf⟩:=oR11.five
     have HR11:=hI oR11
     clear hR8 HREC HP hN1 ht1 hR9 hK9 oN8 oR8 HK8 oN9 oR9 hup ho9 hb10 oN10 oR10 ho10 oN11 oR11 hsq HN10 HR10 HO10 HUP HB10 HK9 HN1 oX
     go_upto_region 13 with fail
     try rw [hW10]
     clear hW10
     go_wp2_with fail
     refine (dE _ _ _ _).mono ?_
     rintro en wz ⟨rfl,rfl⟩
     try rw [hW11]
     clear hW11 c0 c1 c2 c3 c4 c5 f0 x0 x1 x2 x3 x4 xf
     go_wp2
     refine aC (t:=25) rfl rfl rfl (Own.set5 (Own.other HR11.out hq6 _) _ _ _ _ _) Tryz.underlying25 rfl (by kernel_rfl) ?_
     refine ⟨⟨56,(x:Int),[],0,[t1]⟩,_,_,_,_,_,rfl,⟨rfl,rfl,rfl,rfl,((HROW.out.set hn8 _).set5 hr8 _ _ _ _ _).mono (Nat.le_of_lt hr8)⟩,fun h0=>?_,(ZAt.set HZ11.out (by omega) 4 _).set5 hrl _ _ _ _ _,(HK11.out.set (.inl (Nat.le_of_lt hsz3)) 4 _).set5 (.inl (Nat.le_refl _)) _ _ _ _ _⟩
     rw [HT'.out,HT1.out h0,HXX.out]
    | false=>?_
    have HN2:Hid (∀ j y,j < 1 + 1→zG[j]? = some y→aR (aD y) (nxt E s) = false):=fun j y hj hy=>by
     by_cases e:j = 1
     · subst e; cases hy; exact hq1
     exact HNO.out j y (by omega) hy
    clear hq1
    go_wp2
    go_roundg (gk - 1)
    case rel=>exact ⟨1 + 1,by omega,rfl,hbb,hS2,HN2.out⟩
    case measure=>omega
  · have hc:=hcell 2 _ rfl
    obtain ⟨q1,hq1⟩:=iQ (aR [33] (nxt E s))
    clear hcell
    go_wp2_with fail
    refine (bG HRr ⟨#[33]⟩ q1 hq1).mono ?_
    rintro en w2 ⟨rfl,hb2⟩
    have HZ2:Hid (ZAt w2 r E d s):=HRr.out.below hb2
    have o2:=o1.below hb2
    have HK2:Hid (Kp r w w2):=HK1.out.trans (Kp.of hb2)
    have hS2:jG w2 W0.heap.size zG:=(hb2.block _ hbl).trans HS.out
    have hbb:Below W0.heap.size W0 w2:=hb.trans (hb2.mono hb.size)
    clear hb2 hb o1 HK1 HRr hc
    cases q1 with
    | true =>
     have hsg:sg [33] (nxt E s) = true:=by rw [← hq1]; exact (aX HWF.out (fun c r h=>by cases h; rfl)).symm
     have hkd:iE (nxt E s) = 57:=wW0 hsg
     obtain ⟨k,hrec,hT⟩:=wE hkd (by decide) HM.out
     have hlive:s.wrong = 0:=by
      have h1:ZAt w2 r E d s:=HZ2.out
      obtain ⟨_,_,_,_,_,_,_,_,hw,_⟩:=h1.pop (cJ hsg)
      exact hw
     have HREC:=hI hrec
     have HT':=hI hT
     have HLV:=hI hlive
     clear hrec hT hkd hsg HM hlive HNO HS
     go_wp2_with fail
     refine (bU HZ2).mono ?_
     rintro en w3 ⟨⟨x,rfl,hx⟩,hb3⟩
     have HXX:Hid (x = (nxt E s).2.2.2.1):=hx HLV.out
     have hR3:ZAt w3 r E d s:=HZ2.out.below hb3
     have o3:=o2.below hb3
     have hK3:Kp r w w3:=HK2.out.trans (Kp.of hb3)
     have hsz3:w.heap.size < w3.heap.size:=o3.lt
     obtain ⟨W4,hW4⟩:=iQ (w3.alloc (.cells (nL 57 (x:Int) ⟨#[]⟩ 0) 25))
     have oN4:Own W4 w3.heap.size (nL 57 (x:Int) ⟨#[]⟩ 0) 25:=by rw [← hW4]; exact Own.new w3 _ _
     have hne3:w3.heap.size ≠ r:=by omega
     have o4:Own W4 w.heap.size nZ 25:=by rw [← hW4]; exact o3.alloc _
     have HZ4:Hid (ZAt W4 r E d s):=by unfold Hid; rw [← hW4]; exact hR3.alloc _
     have HK4:Hid (Kp r w W4):=by unfold Hid; rw [← hW4]; exact hK3.alloc _
     have HW4:=hI hW4
     have hl4:=oN4.lt
     clear hb3 hx hR3 o3 hK3 hW4 o2 HK2 HZ2
     go_upto_region 11 with fail
     rw [HW4.out]
     clear HW4
     go_wp2_with fail
     refine (jY HZ4 ⟨#[33]⟩ true hq1).mono ?_
     rintro en w8 ⟨⟨_,rfl⟩,hR8,hK8⟩
     have oN8:=oN4.kp hK8 hne3
     have oR8:=o4.kp hK8 hne2
     have HK8:Hid (Kp r w w8):=HK4.out.trans hK8
     clear hK8 oN4 o4 HK4 HZ4 hq1
     go_wp2_with fail
     refine (HP w8 r E (d + 1) _ k s' hR8 hE HREC.out).mono ?_
     rintro en w9 ⟨t1,k1,a1,b1,n1,v1,rfl,hN1,ht1,hR9,hK9⟩
     obtain ⟨ao1,cap1,rfl⟩:=Row.shape hN1.2.2.2.2
     have hn8:w3.heap.size < w8.heap.size:=oN8.lt
     have hr8:w.heap.size < w8.heap.size:=oR8.lt
     have oN9:=oN8.kp hK9 hne3
     have oR9:=oR8.kp hK9 hne2
     have HK9:Hid (Kp r w w9):=HK8.out.trans hK9
     have hs89:=hK9.size
     have HN1:=hI hN1
     have HT1:=hI ht1
     obtain ⟨v,a,dd,pl,ho9,hup⟩:=hR9.up
     obtain ⟨W10,hW10⟩:=iQ (w9.alloc (.cells (nQ k1 a1 b1 n1 ao1 t1 cap1) 25))
     have hb10:Below w9.heap.size w9 W10:=by rw [← hW10]; exact (Below.refl _ _).alloc (Nat.le_refl _) _
     have oX:Own W10 w9.heap.size (nQ k1 a1 b1 n1 ao1 t1 cap1) 25:=by rw [← hW10]; exact Own.new w9 _ _
     have ho10:=ho9.below hb10
     have oN10:=oN9.below hb10
     have oR10:=oR9.below hb10
     have HUP:=hI hup
     have HO10:=hI ho10
     have HN10:=hI oN10
     have HR10:=hI oR10
     have HB10:=hI hb10
     obtain ⟨c0,c1,c2,c3,c4,c5,f0⟩:=ho10.six
     obtain ⟨x0,x1,x2,x3,x4,xf⟩:=oX.five
     have hlr:=ho10.lt
     have hlX:=oX.lt
     have hq1:r ≠ w9.heap.size:=by omega
     have hq2:w9.heap.size ≠ r:=by omega
     have hq6:w.heap.size ≠ w3.heap.size:=by omega
     obtain ⟨W11,hW11⟩:=iQ ((W10.setCell ⟨r,3,none⟩ (.int .i64 (wrap64 (dd - 1)))).alloc (.cells (nQ k1 a1 b1 n1 ao1 t1 cap1) 25))
     have hsq:(W10.setCell ⟨r,3,none⟩ (.int .i64 (wrap64 (dd - 1)))).heap.size = W10.heap.size:=by simp [World.setCell]
     have HROW:Hid (Row W11 w8.heap.size (.slice (some ⟨W10.heap.size,0,none⟩) 1 1) [t1]):=by
      unfold Hid
      rw [← hW11,← hsq]
      exact Row.one (HN1.out.row fun y=>((y.below HB10.out).set (by omega) _)) (Nat.le_refl _) (by rw [hsq]; have:=HB10.out.size; omega)
     have oN11:Own W11 w3.heap.size (nL 57 (x:Int) ⟨#[]⟩ 0) 25:=by rw [← hW11]; exact Own.alloc (Own.other HN10.out hne3 _) _
     have oR11:Own W11 w.heap.size nZ 25:=by rw [← hW11]; exact Own.alloc (Own.other HR10.out hne2 _) _
     have HZ11:Hid (ZAt W11 r E d s'):=by
      unfold Hid
      rw [← hW11]
      refine ZAt.alloc (HUP.out _ (fun g hg=>?_) (Own.set HO10.out 3 _)) _
      rw [Below.heap_setCell W10 ⟨r,3,none⟩ _ g (by show g ≠ r; omega)]
      exact HB10.out.block g (by omega)
     have HK11:Hid (Kp r w W11):=by
      unfold Hid
      rw [← hW11]
      exact ((HK9.out.trans (Kp.of HB10.out)).set (.inr rfl) 3 _).alloc _
     have hlN:=oN11.lt
     have hlR:=oR11.lt
     obtain ⟨y0,y1,y2,y3,y4,yf⟩:=oN11.five
     obtain ⟨z0,z1,z2,z3,z4,zf⟩:=oR11.five
     have HR11:=hI oR11
     clear hR8 HREC HP hN1 ht1 hR9 hK9 oN8 oR8 HK8 oN9 oR9 hup ho9 hb10 oN10 oR10 ho10 oN11 oR11 hsq HN10 HR10 HO10 HUP HB10 HK9 HN1 oX
     go_upto_region 13 with fail
     try rw [hW10]
     clear hW10
     go_wp2_with fail
     refine (dE _ _ _ _).mono ?_
     rintro en wz ⟨rfl,rfl⟩
     try rw [hW11]
     clear hW11 c0 c1 c2 c3 c4 c5 f0 x0 x1 x2 x3 x4 xf
     go_wp2
     refine aC (t:=25) rfl rfl rfl (Own.set5 (Own.other HR11.out hq6 _) _ _ _ _ _) Tryz.underlying25 rfl (by kernel_rfl) ?_
     refine ⟨⟨57,(x:Int),[],0,[t1]⟩,_,_,_,_,_,rfl,⟨rfl,rfl,rfl,rfl,((HROW.out.set hn8 _).set5 hr8 _ _ _ _ _).mono (Nat.le_of_lt hr8)⟩,fun h0=>?_,(ZAt.set HZ11.out (by omega) 4 _).set5 hrl _ _ _ _ _,(HK11.out.set (.inl (Nat.le_of_lt hsz3)) 4 _).set5 (.inl (Nat.le_refl _)) _ _ _ _ _⟩
     rw [HT'.out,HT1.out h0,HXX.out]
    | false=>?_
    have HN2:Hid (∀ j y,j < 2 + 1→zG[j]? = some y→aR (aD y) (nxt E s) = false):=fun j y hj hy=>by
     by_cases e:j = 2
     · subst e; cases hy; exact hq1
     exact HNO.out j y (by omega) hy
    clear hq1
    go_wp2
    go_roundg (gk - 1)
    case rel=>exact ⟨2 + 1,by omega,rfl,hbb,hS2,HN2.out⟩
    case measure=>omega
  have hk0:iE (nxt E s) = 0:=by
   have e1:sg [45] (nxt E s) = false:=by rw [← aX HWF.out (fun c r h=>by cases h; rfl)]; exact HNO.out 0 ⟨#[45]⟩ (by omega) rfl
   have e2:sg [126] (nxt E s) = false:=by rw [← aX HWF.out (fun c r h=>by cases h; rfl)]; exact HNO.out 1 ⟨#[126]⟩ (by omega) rfl
   have e3:sg [33] (nxt E s) = false:=by rw [← aX HWF.out (fun c r h=>by cases h; rfl)]; exact HNO.out 2 ⟨#[33]⟩ (by omega) rfl
   unfold iE
   rw [e1,e2,e3]
   rfl
  have hm:=HM.out
  unfold kK at hm
  replace hm:=aN hm
  rw [if_pos hk0] at hm
  obtain ⟨n1,s1,h1,h2⟩:=aE hm
  have HM1:=hI h1
  have HM2:=hI h2
  have HMO:Hid (s'.wrong = 0→s1.wrong = 0):=bP (iY hbs f n1) h2
  have hbs0:=hb.size
  clear hm h1 h2 hk0 HM HNO HS hcell hb HP
  go_wp2_with fail
  refine (HPr wr r E d s n1 s1 HRr.out hE HM1.out).mono ?_
  rintro en w3 ⟨t1,k1,a1,b1,c1,v1,rfl,hN1,ht1,hR3,hK3⟩
  obtain ⟨ao1,cap1,rfl⟩:=Row.shape hN1.2.2.2.2
  have hs3:=hK3.size
  have HT1:=hI ht1
  have o3:=o1.kp hK3 hne2
  obtain ⟨W4,hW4⟩:=iQ (w3.alloc (.cells (nQ k1 a1 b1 c1 ao1 t1 cap1) 25))
  have hb4:Below w3.heap.size w3 W4:=by rw [← hW4]; exact (Below.refl _ _).alloc (Nat.le_refl _) _
  have oX:Own W4 w3.heap.size (nQ k1 a1 b1 c1 ao1 t1 cap1) 25:=by rw [← hW4]; exact Own.new w3 _ _
  have hR4:ZAt W4 r E d s1:=hR3.below hb4
  have o4:=o3.below hb4
  have hN4:bV W4 wr.heap.size t1 k1 a1 b1 c1 (.slice ao1 t1.kids.length cap1):=hN1.row fun y=>y.below hb4
  have HK4:Hid (Kp r w W4):=(HK1.out.trans hK3).trans (Kp.of hb4)
  have hs4:=hb4.size
  obtain ⟨x0,x1,x2,x3,x4,xf⟩:=oX.five
  have hlX:=oX.lt
  clear hN1 ht1 hR3 hK3 o3 o1 hb4 oX HK1 HRr HM1 HPr
  go_upto_region 18 with fail
  try rw [hW4]
  clear hW4
  go_wp2_with fail
  refine (bW0 HE hbs f W4 r E d s1 n1 t1 t s' wr.heap.size k1 a1 b1 c1 _ hR4 hE (by omega) (by omega) hN4 (fun h0=>HT1.out (HMO.out h0)) HM2.out).mono ?_
  rintro en w5 ⟨t2,k2,a2,b2,c2,v2,rfl,hN2,ht2,hR5,hK5⟩
  obtain ⟨ao2,cap2,rfl⟩:=Row.shape hN2.2.2.2.2
  have o5:=o4.kp hK5 hne2
  have HK5:Hid (Kp r w w5):=HK4.out.trans hK5
  have HN:=hI hN2
  have HZ5:=hI hR5
  have HR5:=hI o5
  have HT2:=hI ht2
  have hwr:w.heap.size < wr.heap.size:=by omega
  obtain ⟨z0,z1,z2,z3,z4,zf⟩:=o5.five
  have hlR:=o5.lt
  clear hN2 ht2 hR5 hK5 o5 o4 hR4 hN4 HK4 HM2 x0 x1 x2 x3 x4 xf HE
  go_wp2
  refine aC (t:=25) rfl rfl rfl (Own.set5 HR5.out _ _ _ _ _) Tryz.underlying25 rfl (by kernel_rfl) ?_
  exact ⟨t2,_,_,_,_,_,rfl,⟨HN.out.1,HN.out.2.1,HN.out.2.2.1,HN.out.2.2.2.1,(HN.out.2.2.2.2.set5 hwr _ _ _ _ _).mono (Nat.le_of_lt hwr)⟩,HT2.out,ZAt.set5 HZ5.out hrl _ _ _ _ _,HK5.out.set5 (.inl (Nat.le_refl _)) _ _ _ _ _⟩
end Go.Proofs.YtnipenijihkgdaaGreatDoor
