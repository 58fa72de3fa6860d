import Derived.Test.YtnipenijihkgdaaGreatDoorNd
import Derived.Test.YtnipenijihkgdaaGreatDoorQ33
set_option maxHeartbeats 3000000
set_option maxRecDepth 100000
namespace Go.Proofs.YtnipenijihkgdaaGreatDoor
open Go.RowKit
set_option linter.unusedVariables false
def aW0 (E:Nat) (s' sz:St):Prop:=sz = s'∨(sz.wrong = 0∧sz.rest = []∧s' = bD E sz)
def wW (fn:Nat) (m:P (List Tree)):Prop:=∀ (w:World) (r E d:Nat) (s:St) (ts:List Tree) (s':St),ZAt w r E d s→E≤1048576→m E d s = some (ts,s')→Calls Tryz.prog fn #[.pointer (some ⟨r,0,none⟩)] w fun en w'=>∃ ts' v sz,en = .returned v∧Row w' w.heap.size v ts'∧(s'.wrong = 0→ts' = ts)∧ZAt w' r E d sz∧aW0 E s' sz∧Kp r w w'
theorem vY {E:Nat} {x:List Nat} {s sz:St} (h:aW0 E s sz) (hx:∀ c r,x = c :: r→bO c = false) (hwf:jE (nxt E sz)):(if aR x (nxt E sz) = true then aS sz else bD E sz) = (if sg x (nxt E s) = true then aS s else bD E s):=by
 rcases h with rfl | ⟨h1,h2,rfl⟩
 · rw [aX hwf hx]
 have e1:aR x (nxt E sz) = false:=by
  show aR x (bE E sz 0) = false
  rw [gS h2 0]
  unfold aR
  simp
 have e2:sg x (nxt E (bD E sz)) = false:=by
  have hr:(bD E sz).rest = []:=by unfold bD eO; rw [if_pos h1]
  show sg x (bE E (bD E sz) 0) = false
  rw [gS hr 0]
  rfl
 rw [e1,e2]
 exact (sN E sz).symm
theorem tR {stmts:P (List Tree)} (HP:wW 142 stmts) (hbs:Bs stmts 0):cY 122 (cN stmts):=by
 intro w r E d s t s' hR hE hm
 have hrl:=hR.lt
 have hne2:w.heap.size ≠ r:=by omega
 unfold cN at hm
 obtain ⟨pl,s6,g5,g6⟩:=aE hm
 obtain ⟨hT,rfl⟩:=aJ g6
 obtain ⟨s2,g7,hs5,hp1⟩:=fA g5
 obtain ⟨l,hl⟩:=iQ (pl.2)
 rw [hl] at g7 hT
 obtain ⟨q2,hq2⟩:=iQ (aR [123] (nxt E s))
 have hsg2:sg [123] (nxt E s) = q2:=by rw [← hq2]; exact (aX (hR.nxt_wf 0) (fun c r h=>by cases h; rfl)).symm
 rw [hsg2] at g7 hp1
 have HMO:Hid (s6.wrong = 0→s2.wrong = 0∧s.wrong = 0∧pl.1 = nxt E s):=fun h0=>by
  have h1:s2.wrong = 0:=by rw [hs5] at h0; exact (gV h0).1
  have h2:=mP (bP hbs g7 h1)
  exact ⟨h1,h2.1,hp1 h2.2.1⟩
 have HG7:=hI g7
 have HS5:=hI hs5
 have HT':=hI hT
 have HZ0:Hid (ZAt (w.alloc (.cells nZ 25)) r E d s):=hR.alloc _
 clear hm g5 g6 g7 hT hs5 hl hp1 hsg2
 go_enter Tryz.func122,Tryz.ntmps122
 go_wp2_with fail
 refine (bU HZ0).mono ?_
 rintro en w1 ⟨⟨x,rfl,hx⟩,hb1⟩
 have hZ1:ZAt w1 r E d s:=HZ0.out.below hb1
 have o1:=(Own.new w nZ 25).below hb1
 have HK1:Hid (Kp r w w1):=Kp.of (((Below.refl _ _).alloc (Nat.le_refl _) _).trans (hb1.mono (by rw [World.size_alloc]; omega)))
 have HX:=hI hx
 have hsz1:w.heap.size < w1.heap.size:=o1.lt
 obtain ⟨W2,hW2⟩:=iQ (w1.alloc (.cells (nL 10 (x:Int) ⟨#[]⟩ 0) 25))
 have hb2:Below w1.heap.size w1 W2:=by rw [← hW2]; exact (Below.refl _ _).alloc (Nat.le_refl _) _
 have oX2:Own W2 w1.heap.size (nL 10 (x:Int) ⟨#[]⟩ 0) 25:=by rw [← hW2]; exact Own.new w1 _ _
 have o2:=o1.below hb2
 have HZ2:Hid (ZAt W2 r E d s):=hZ1.below hb2
 have HK2:Hid (Kp r w W2):=HK1.out.trans (Kp.of hb2)
 have hne3:w1.heap.size ≠ r:=by omega
 have HW2:=hI hW2
 clear hx hb1 hb2 HK1 hZ1 HZ0 hR hW2 o1
 go_upto_region 2 with fail
 rw [HW2.out]
 clear HW2
 go_wp2_with fail
 refine (jY HZ2 ⟨#[123]⟩ q2 hq2).mono ?_
 rintro en w3 ⟨⟨_,rfl⟩,hR3,hK3⟩
 have oX3:=oX2.kp hK3 hne3
 have o3:=o2.kp hK3 hne2
 have HK3:Hid (Kp r w w3):=HK2.out.trans hK3
 have hx3:w1.heap.size < w3.heap.size:=oX3.lt
 clear hK3 oX2 o2 HK2 HZ2 hq2
 go_wp2_with fail
 refine (HP w3 r E (d + 1) _ l s2 hR3 hE HG7.out).mono ?_
 rintro en w4 ⟨ts',v4,sz,rfl,hrow4,hts,hR4,hze,hK4⟩
 obtain ⟨ao4,cap4,rfl⟩:=hrow4.shape
 have oX4:=oX3.kp hK4 hne3
 have o4:=o3.kp hK4 hne2
 have HK4:Hid (Kp r w w4):=HK3.out.trans hK4
 have HTS:=hI hts
 have hs34:=hK4.size
 obtain ⟨W5,hW5⟩:=iQ (w4.setCell ⟨w1.heap.size,4,none⟩ (.slice ao4 ts'.length cap4))
 have oX5:Own W5 w1.heap.size (nD 10 (x:Int) ⟨#[]⟩ 0 (.slice ao4 ts'.length cap4)) 25:=by rw [← hW5]; exact oX4.set 4 _
 have o5:Own W5 w.heap.size nZ 25:=by rw [← hW5]; exact o4.other (by omega) _
 have hZ5:ZAt W5 r E (d + 1) sz:=by rw [← hW5]; exact hR4.set (by omega) 4 _
 have hrow5:Row W5 w3.heap.size (.slice ao4 ts'.length cap4) ts':=by rw [← hW5]; exact hrow4.set hx3 _
 have HK5:Hid (Kp r w W5):=by unfold Hid; rw [← hW5]; exact HK4.out.set (.inl (by omega)) 4 _
 obtain ⟨q3,hq3⟩:=iQ (aR [125] (nxt E sz))
 have hen:=vY (x:=[125]) hze (fun c r h=>by cases h; rfl) (hZ5.nxt_wf 0)
 rw [hq3,← HS5.out] at hen
 have HEN:=hI hen
 have HZ5:=hI hZ5
 have HW5:=hI hW5
 obtain ⟨c0,c1,c2,c3,c4,cf⟩:=oX4.five
 have hlX4:=oX4.lt
 clear hK4 oX3 o3 HK3 hts hze hR3 hR4 HG7 hen hZ5 hW5 oX4 o4 hrow4 HK4
 go_upto_region 4 with fail
 rw [HW5.out]
 clear HW5 c0 c1 c2 c3 c4 cf
 go_wp2_with fail
 refine (kI HZ5 ⟨#[125]⟩ q3 hq3).mono ?_
 rintro en w6 ⟨⟨_,rfl⟩,hR6,hK6⟩
 rw [HEN.out] at hR6
 have oX6:=oX5.kp hK6 hne3
 have o6:=o5.kp hK6 hne2
 have hrow6:=hrow5.kp hK6 (by omega)
 have HK6:Hid (Kp r w w6):=HK5.out.trans hK6
 have HROW:=hI hrow6
 have HZ6:=hI hR6
 obtain ⟨x0,x1,x2,x3,x4,xf⟩:=oX6.five
 obtain ⟨z0,z1,z2,z3,z4,zf⟩:=o6.five
 have hlX:=oX6.lt
 have hlR:=o6.lt
 have HR6:=hI o6
 have hw3:w.heap.size < w3.heap.size:=by omega
 clear hK6 oX5 o5 hrow5 hR6 hrow6 HZ5 hq3 HP oX6 o6 HK5 HEN
 go_wp2
 refine aC (t:=25) rfl rfl rfl (Own.set5 HR6.out _ _ _ _ _) Tryz.underlying25 rfl (by kernel_rfl) ?_
 refine ⟨⟨10,(x:Int),[],0,ts'⟩,_,_,_,_,_,rfl,⟨rfl,rfl,rfl,rfl,(HROW.out.set5 hw3 _ _ _ _ _).mono (Nat.le_of_lt hw3)⟩,fun h0=>?_,ZAt.set5 HZ6.out hrl _ _ _ _ _,HK6.out.set5 (.inl (Nat.le_refl _)) _ _ _ _ _⟩
 obtain ⟨e1,e2,e3⟩:=HMO.out h0
 rw [← HT'.out,HTS.out e1,HX.out e2,e3]
def zT (fn:Nat) (m:P Tree):Prop:=∀ (w:World) (r E d:Nat) (s:St) (t:Tree) (s':St),ZAt w r E d s→E≤1048576→m E d s = some (t,s')→Calls Tryz.prog fn #[.pointer (some ⟨r,0,none⟩)] w fun en w'=>∃ t' k a b n v sz,en = .returned (.agg (nD k a b n v))∧bV w' w.heap.size t' k a b n v∧(s'.wrong = 0→t' = t)∧ZAt w' r E d sz∧aW0 E s' sz∧Kp r w w'
theorem lH0 {stmts:P (List Tree)} (HP:wW 142 stmts) (hbs:Bs stmts 0):zT 201 (pA stmts):=by
 intro w r E d s t s' hR hE hm
 have hrl:=hR.lt
 have hne2:w.heap.size ≠ r:=by omega
 unfold pA at hm
 obtain ⟨tk,s1,g1,g2⟩:=aE hm
 obtain ⟨l,s2,g3,g4⟩:=aE g2
 obtain ⟨hT,rfl⟩:=aJ g4
 obtain ⟨q2,hq2⟩:=iQ (aR [58] (nxt E s))
 have hsg2:sg [58] (nxt E s) = q2:=by rw [← hq2]; exact (aX (hR.nxt_wf 0) (fun c r h=>by cases h; rfl)).symm
 have hs1:(if q2 = true then aS s else bD E s) = s1:=by
  rcases cU g1 with ⟨e1,_,e3⟩ | ⟨e1,_,e3⟩
  · rw [hsg2] at e1; rw [e1,e3]; rfl
  rw [hsg2] at e1; rw [e1,e3]; rfl
 have HS1:=hI hs1
 have HMO:Hid (s2.wrong = 0→s.wrong = 0∧tk = nxt E s):=fun h0=>by
  have h1:=bP hbs g3 h0
  rcases cU g1 with ⟨e1,e2,e3⟩ | ⟨e1,_,e3⟩
  · exact ⟨by rw [e3] at h1; exact h1,e2⟩
  rw [e3] at h1; exact absurd h1 bS
 have HG7:=hI g3
 have HT':=hI hT
 have HZ0:Hid (ZAt (w.alloc (.cells nZ 25)) r E d s):=hR.alloc _
 clear hm g1 g2 g3 g4 hT hs1 hsg2
 go_enter Tryz.func201,Tryz.ntmps201
 go_wp2_with fail
 refine (bU HZ0).mono ?_
 rintro en w1 ⟨⟨x,rfl,hx⟩,hb1⟩
 have hZ1:ZAt w1 r E d s:=HZ0.out.below hb1
 have o1:=(Own.new w nZ 25).below hb1
 have HK1:Hid (Kp r w w1):=Kp.of (((Below.refl _ _).alloc (Nat.le_refl _) _).trans (hb1.mono (by rw [World.size_alloc]; omega)))
 have HX:=hI hx
 have hsz1:w.heap.size < w1.heap.size:=o1.lt
 obtain ⟨W2,hW2⟩:=iQ (w1.alloc (.cells (nL 10 (x:Int) ⟨#[]⟩ 0) 25))
 have hb2:Below w1.heap.size w1 W2:=by rw [← hW2]; exact (Below.refl _ _).alloc (Nat.le_refl _) _
 have oX2:Own W2 w1.heap.size (nL 10 (x:Int) ⟨#[]⟩ 0) 25:=by rw [← hW2]; exact Own.new w1 _ _
 have o2:=o1.below hb2
 have HZ2:Hid (ZAt W2 r E d s):=hZ1.below hb2
 have HK2:Hid (Kp r w W2):=HK1.out.trans (Kp.of hb2)
 have hne3:w1.heap.size ≠ r:=by omega
 have HW2:=hI hW2
 clear hx hb1 hb2 HK1 hZ1 HZ0 hR hW2 o1
 go_upto_region 2 with fail
 rw [HW2.out]
 clear HW2
 go_wp2_with fail
 refine (cQ HZ2 ⟨#[58]⟩ q2 hq2).mono ?_
 rintro en w3 ⟨⟨_,rfl⟩,hR3,hK3⟩
 rw [HS1.out] at hR3
 have oX3:=oX2.kp hK3 hne3
 have o3:=o2.kp hK3 hne2
 have HK3:Hid (Kp r w w3):=HK2.out.trans hK3
 have hx3:w1.heap.size < w3.heap.size:=oX3.lt
 clear hK3 oX2 o2 HK2 HZ2 hq2
 go_wp2_with fail
 refine (HP w3 r E d s1 l s2 hR3 hE HG7.out).mono ?_
 rintro en w4 ⟨ts',v4,sz,rfl,hrow4,hts,hR4,hze,hK4⟩
 obtain ⟨ao4,cap4,rfl⟩:=hrow4.shape
 have oX4:=oX3.kp hK4 hne3
 have o4:=o3.kp hK4 hne2
 have HK4:Hid (Kp r w w4):=HK3.out.trans hK4
 have HTS:=hI hts
 have hs34:=hK4.size
 obtain ⟨W5,hW5⟩:=iQ (w4.setCell ⟨w1.heap.size,4,none⟩ (.slice ao4 ts'.length cap4))
 have oX5:Own W5 w1.heap.size (nD 10 (x:Int) ⟨#[]⟩ 0 (.slice ao4 ts'.length cap4)) 25:=by rw [← hW5]; exact oX4.set 4 _
 have o5:Own W5 w.heap.size nZ 25:=by rw [← hW5]; exact o4.other (by omega) _
 have hZ5:ZAt W5 r E d sz:=by rw [← hW5]; exact hR4.set (by omega) 4 _
 have hrow5:Row W5 w3.heap.size (.slice ao4 ts'.length cap4) ts':=by rw [← hW5]; exact hrow4.set hx3 _
 have HK5:Hid (Kp r w W5):=by unfold Hid; rw [← hW5]; exact HK4.out.set (.inl (by omega)) 4 _
 have HZ5:=hI hZ5
 have HZE:=hI hze
 have HW5:=hI hW5
 obtain ⟨c0,c1,c2,c3,c4,cf⟩:=oX4.five
 have hlX4:=oX4.lt
 clear hK4 oX3 o3 HK3 hts hze hR3 hR4 HG7 hZ5 hW5 oX4 o4 hrow4 HK4
 go_upto_region 4 with fail
 rw [HW5.out]
 clear HW5 c0 c1 c2 c3 c4 cf
 obtain ⟨x0,x1,x2,x3,x4,xf⟩:=oX5.five
 obtain ⟨z0,z1,z2,z3,z4,zf⟩:=o5.five
 have hlX:=oX5.lt
 have hlR:=o5.lt
 have HR5:=hI o5
 have HROW:=hI hrow5
 have hw3:w.heap.size < w3.heap.size:=by omega
 clear oX5 o5 hrow5 HP
 go_wp2
 refine aC (t:=25) rfl rfl rfl (Own.set5 HR5.out _ _ _ _ _) Tryz.underlying25 rfl (by kernel_rfl) ?_
 refine ⟨⟨10,(x:Int),[],0,ts'⟩,_,_,_,_,_,sz,rfl,⟨rfl,rfl,rfl,rfl,(HROW.out.set5 hw3 _ _ _ _ _).mono (Nat.le_of_lt hw3)⟩,fun h0=>?_,ZAt.set5 HZ5.out hrl _ _ _ _ _,HZE.out,HK5.out.set5 (.inl (Nat.le_refl _)) _ _ _ _ _⟩
 obtain ⟨e2,e3⟩:=HMO.out h0
 rw [← HT'.out,HTS.out h0,HX.out e2,e3]
def rZ (kd:Nat):P Tree:=bnd (nK kd) fun n=>bnd (cZ (sg [59])) fun _=>ret n
theorem gU0 {kd E d:Nat} {s s':St} {t:Tree} (h:rZ kd E d s = some (t,s')) :
    ∃ (tx:List Nat) (s2:St),(tx,s2) = (if nm (nxt E (aS s)) then ((nxt E (aS s)).2.1,aS (aS s)) else ([],aS s))∧s' = (if sg [59] (nxt E s2) then aS s2 else bD E s2)∧t = ⟨kd,((nxt E s).2.2.2.1:Nat),tx,0,[]⟩:=by
 obtain ⟨n,s2,g1,g2⟩:=aE h
 obtain ⟨_,s3,g3,g4⟩:=aE g2
 obtain ⟨rfl,rfl⟩:=aJ g4
 obtain ⟨tk,s1,e1,e2⟩:=aE g1
 obtain ⟨rfl,rfl⟩:=aV e1
 replace e2:=aN e2
 have hs3:s3 = (if sg [59] (nxt E s2) then aS s2 else bD E s2):=by
  rcases cU g3 with ⟨q,_,rfl⟩ | ⟨q,_,rfl⟩
  · rw [q]; rfl
  rw [q]; rfl
 split at e2
 · rename_i hn
   obtain ⟨tk2,s4,c1,c2⟩:=aE e2
   obtain ⟨rfl,rfl⟩:=aV c1
   obtain ⟨rfl,rfl⟩:=aJ c2
   exact ⟨_,_,by rw [if_pos hn],hs3,rfl⟩
 rename_i hn
 obtain ⟨rfl,rfl⟩:=aJ e2
 exact ⟨_,_,by rw [if_neg hn],hs3,rfl⟩
theorem yD (kd:Nat) (hkd:kd < 256):∀ (w:World) (r E d:Nat) (s:St) (t:Tree) (s':St),ZAt w r E d s→(nxt E s).1 ≠ 0→E≤1048576→rZ kd E d s = some (t,s') →
    Calls Tryz.prog 179 #[.pointer (some ⟨r,0,none⟩),.int .u8 (kd:Int)] w (pC w r E d t s'):=by
 intro w r E d s t s' hR hlv hE hm
 have hrl:=hR.lt
 have hne2:w.heap.size ≠ r:=by omega
 obtain ⟨tx,s2,hts,hs',hT⟩:=gU0 hm
 have hw:s.wrong = 0:=by obtain ⟨_,_,_,_,_,_,_,_,hw,_⟩:=hR.pop hlv; exact hw
 have HTS:=hI hts
 have HS':=hI hs'
 have HT':=hI hT
 have HZ0:Hid (ZAt (w.alloc (.cells nZ 25)) r E d s):=hR.alloc _
 clear hm hts hs' hT
 go_enter Tryz.func179,Tryz.ntmps179
 go_wp2_with fail
 refine (bU HZ0).mono ?_
 rintro en w1 ⟨⟨x,rfl,hx⟩,hb1⟩
 have hZ1:ZAt w1 r E d s:=HZ0.out.below hb1
 have o1:=(Own.new w nZ 25).below hb1
 have HK1:Hid (Kp r w w1):=Kp.of (((Below.refl _ _).alloc (Nat.le_refl _) _).trans (hb1.mono (by rw [World.size_alloc]; omega)))
 have HX:Hid (x = (nxt E s).2.2.2.1):=hx hw
 have hsz1:w.heap.size < w1.heap.size:=o1.lt
 obtain ⟨W2,hW2⟩:=iQ (w1.alloc (.cells (nL (kd:Int) (x:Int) ⟨#[]⟩ 0) 25))
 have hb2:Below w1.heap.size w1 W2:=by rw [← hW2]; exact (Below.refl _ _).alloc (Nat.le_refl _) _
 have oX2:Own W2 w1.heap.size (nL (kd:Int) (x:Int) ⟨#[]⟩ 0) 25:=by rw [← hW2]; exact Own.new w1 _ _
 have o2:=o1.below hb2
 have hZ2:=hZ1.below hb2
 obtain ⟨v,a,dd,pl2,ho,ha,hdd,hd,_,hpop⟩:=hZ2.pop hlv
 obtain ⟨c0,c1,c2,c3,c4,c5,f0⟩:=ho.six
 have hl2:=ho.lt
 obtain ⟨W3,hW3⟩:=iQ (W2.setCell ⟨r,1,none⟩ (.int .i64 ((a:Int) + 1)))
 have hZ3:ZAt W3 r E d (aS s):=by
  rw [← hW3]
  refine hpop _ (fun g hg=>Below.heap_setCell W2 ⟨r,1,none⟩ _ g (by show g ≠ r; omega)) d d rfl hd ?_
  have:=ho.set 1 (.int .i64 ((a:Int) + 1))
  rw [hdd] at this
  exact this
 have hne3:w1.heap.size ≠ r:=by omega
 have oX3:Own W3 w1.heap.size (nL (kd:Int) (x:Int) ⟨#[]⟩ 0) 25:=by rw [← hW3]; exact oX2.other hne3 _
 have o3:Own W3 w.heap.size nZ 25:=by rw [← hW3]; exact o2.other hne2 _
 have HK3:Hid (Kp r w W3):=by unfold Hid; rw [← hW3]; exact (HK1.out.trans (Kp.of hb2)).set (.inr rfl) 1 _
 obtain ⟨q1,hq1⟩:=iQ (aR [59] (nxt E (aS s)))
 have hwf1:jE (nxt E (aS s)):=hZ3.nxt_wf 0
 have hwf2:jE (nxt E (aS (aS s))):=by
  have e9:nxt E (aS (aS s)) = bE E (aS s) 1:=by
   unfold nxt bE aS
   cases s.rest.tail with
   | nil=>rfl
   | cons t r=>simp
  rw [e9]
  exact hZ3.nxt_wf 1
 have hsg2:True:=trivial
 have HZ3:=hI hZ3
 have HW2:=hI hW2
 have HW3:=hI hW3
 clear hx hb1 hb2 HK1 hZ1 hZ2 hpop ho hdd oX2 o1 o2 hsg2 HZ0 hR hw hlv hZ3 hW2 hW3
 go_upto_region 2 with fail
 rw [HW2.out]
 go_upto_region 3 with fail
 rw [HW3.out]
 clear HW2 HW3 c0 c1 c2 c3 c4 c5 f0
 go_wp2_with fail
 refine (bG HZ3 ⟨#[59]⟩ q1 hq1).mono ?_
 rintro en w4 ⟨rfl,hb4⟩
 have HZ4:Hid (ZAt w4 r E d (aS s)):=HZ3.out.below hb4
 have oX4:=oX3.below hb4
 have o4:=o3.below hb4
 have HK4:Hid (Kp r w w4):=HK3.out.trans (Kp.of hb4)
 have hX4:w1.heap.size < w4.heap.size:=oX4.lt
 clear hb4 oX3 o3 HK3 HZ3
 go_upto_if 19 with fail
 go_cut [5] (fun v wx=>∃ (ty:List Nat) (sz:St),v = .pointer (some ⟨w1.heap.size,0,none⟩)∧Own wx w1.heap.size (nL (kd:Int) (x:Int) (bJ ty) 0) 25∧Own wx w.heap.size nZ 25∧ZAt wx r E d sz∧Kp r w wx∧(if aR [59] (nxt E sz) then aS sz else bD E sz) = s'∧(s'.wrong = 0→ty = tx))
 case first =>
  cases q1 with
  | true =>
   have HF:Hid ((if aR [59] (nxt E (aS s)) then aS (aS s) else bD E (aS s)) = s'∧(s'.wrong = 0→[] = tx)):=by
    have e1:sg [59] (nxt E (aS s)) = true:=by rw [← hq1]; exact (aX hwf1 (fun c r h=>by cases h; rfl)).symm
    have e2:nm (nxt E (aS s)) = false:=by
     simp only [sg,Bool.and_eq_true,beq_iff_eq] at e1
     unfold nm; rw [e1.1]; rfl
    have h:=HTS.out
    rw [e2] at h
    obtain ⟨h1,h2⟩:=Prod.mk.inj h
    exact ⟨by rw [HS'.out,h2,hq1,e1],fun _=>by rw [h1]⟩
   clear hq1
   go_wp2_with fail
   go_meet
   exact ⟨[],aS s,rfl,oX4,o4,HZ4.out,HK4.out,HF.out.1,HF.out.2⟩
  | false=>?_
  obtain ⟨q2,hq2⟩:=iQ (nm (nxt E (aS s)))
  obtain ⟨ty,hty⟩:∃ ty:List Nat,(if q2 then (nxt E (aS s)).2.1 else []) = ty:=⟨_,rfl⟩
  have hst:(if q2 = true then bJ (nxt E (aS s)).2.1 else ⟨#[]⟩) = bJ ty:=by rw [← hty]; cases q2 <;> rfl
  have HF:Hid ((if aR [59] (nxt E (if q2 then aS (aS s) else bD E (aS s))) then aS (if q2 then aS (aS s) else bD E (aS s)) else bD E (if q2 then aS (aS s) else bD E (aS s))) = s'∧(s'.wrong = 0→ty = tx)):=by
   have h:=HTS.out
   rw [hq2] at h
   cases q2 with
   | true =>
    obtain ⟨h1,h2⟩:=Prod.mk.inj h
    refine ⟨?_,fun _=>by rw [h1,← hty]; rfl⟩
    rw [HS'.out,h2]
    simp only [if_true]
    rw [aX hwf2 (fun c r h=>by cases h; rfl)]
   | false=>?_
   obtain ⟨h1,h2⟩:=Prod.mk.inj h
   have e1:sg [59] (nxt E (aS s)) = false:=by rw [← hq1]; exact (aX hwf1 (fun c r h=>by cases h; rfl)).symm
   have e3:s' = bD E (aS s):=by rw [HS'.out,h2,e1]; rfl
   have e4:aR [59] (nxt E (bD E (aS s))) = false:=by
    have hZ:ZAt w4 r E d (aS s):=HZ4.out
    have hr:(bD E (aS s)).rest = []:=by
     unfold bD eO
     split
     · rfl
     rename_i h0; exact hZ.iv h0
    show aR [59] (bE E (bD E (aS s)) 0) = false
    rw [gS hr 0]
    rfl
   refine ⟨?_,fun h0=>?_⟩
   · show (if aR [59] (nxt E (bD E (aS s))) = true then aS (bD E (aS s)) else bD E (bD E (aS s))) = s'
     rw [e4,e3]
     exact sN E (aS s)
   rw [e3] at h0; exact absurd h0 bS
  clear hq1 hty
  go_wp2_with fail
  refine (jK HZ4 q2 hq2).mono ?_
  rintro en w7 ⟨rfl,hR7,hK7⟩
  rw [hst]
  have oX7:=oX4.kp hK7 hne3
  have o7:=o4.kp hK7 hne2
  have HK7:Hid (Kp r w w7):=HK4.out.trans hK7
  obtain ⟨y0,y1,y2,y3,y4,yf⟩:=oX7.five
  have hlX7:=oX7.lt
  have HR7:=hI hR7
  clear hK7 hR7 hq2 hst
  go_wp2_with fail
  go_meet
  exact ⟨ty,_,rfl,oX7.set 2 _,o7.other (by omega) _,ZAt.set HR7.out (by omega) 2 _,HK7.out.set (.inl (by omega)) 2 _,HF.out.1,HF.out.2⟩
 obtain ⟨ty,sz,rfl,oX,oR,hZ,hK,hfin,hty⟩:=hcut
 obtain ⟨q4,hq4⟩:=iQ (aR [59] (nxt E sz))
 rw [hq4] at hfin
 have HFIN:=hI hfin
 have HTY:=hI hty
 have HZ:=hI hZ
 have HK:=hI hK
 clear hfin hty hZ hK HTS HS' HZ4 HK4 o4 oX4 hq1 hwf1 hwf2
 go_wp2_with fail
 refine (cQ HZ ⟨#[59]⟩ q4 hq4).mono ?_
 rintro en w8 ⟨⟨_,rfl⟩,hR8,hK8⟩
 rw [HFIN.out] at hR8
 have oX8:=oX.kp hK8 hne3
 have oR8:=oR.kp hK8 hne2
 have HK8:Hid (Kp r w w8):=HK.out.trans hK8
 have HZ8:=hI hR8
 obtain ⟨x0,x1,x2,x3,x4,xf⟩:=oX8.five
 obtain ⟨z0,z1,z2,z3,z4,zf⟩:=oR8.five
 have hlX:=oX8.lt
 have hlR:=oR8.lt
 have HR8:=hI oR8
 clear hK8 oX oR HK HZ HFIN hq4 hR8 oX8 oR8
 go_wp2
 refine aC (t:=25) rfl rfl rfl (Own.set5 HR8.out _ _ _ _ _) Tryz.underlying25 rfl (by kernel_rfl) ?_
 refine ⟨⟨kd,(x:Int),ty,0,[]⟩,_,_,_,_,_,rfl,⟨rfl,rfl,rfl,rfl,Row.nil _ _⟩,fun h0=>?_,ZAt.set5 HZ8.out hrl _ _ _ _ _,HK8.out.set5 (.inl (Nat.le_refl _)) _ _ _ _ _⟩
 rw [HT'.out,HTY.out h0,HX.out]
end Go.Proofs.YtnipenijihkgdaaGreatDoor
