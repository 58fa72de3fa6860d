import Derived.Test.YtnipenijihkgdaaGreatDoorNd
import Derived.Test.YtnipenijihkgdaaGreatDoorQ39
import Derived.Test.YtnipenijihkgdaaGreatDoorQ33
import Derived.Test.YtnipenijihkgdaaGreatDoorQ34
import Derived.Deep.LoopGhost
import Derived.Deep.DeepCutAuto
import Derived.Deep.RegionLaw
set_option maxHeartbeats 8000000
set_option maxRecDepth 100000
namespace Go.Proofs.YtnipenijihkgdaaGreatDoor
open Go.RowKit
set_option linter.unusedVariables false
theorem vH0 : mE 89:=fun a w=>by kernel_rfl
theorem mB0 {W:World} {ops:Array Oper} {o:Oper} {a:Act} {K:Act→World→Prop} {Q:Exit→Act→World→Prop} {X:Prop} (hgd:o.guard = none) (s x:Operand)
    (ho:o.op = .call { callee:=.builtin .append,args:=#[s,x],argTypes:=#[23,23] })
    (R1 R2 R:Nat→Prop) (v:Value) (ts:List Tree) (hs:a.eval s = v) (hrow:bK W R1 v ts) (t:Tree) (k x1:Int) (b1:ByteArray) (n1:Int) (v1:Value)
    (b:Nat) (hx:a.eval x = .slice (some ⟨b,0,none⟩) 1 1) (hb:Own W b (nD k x1 b1 n1 v1) 25) (hcs:aZ W R2 t k x1 b1 n1 v1)
    (hdis:∀ g,R1 g→R2 g→False) (hR1:∀ g,g < W.heap.size→R1 g→R g) (hR2:∀ g,g < W.heap.size→R2 g→R g) (hQ:R W.heap.size) (h63:ts.length + 1≤1000000000)
    (h:∀ ao cap w',bK w' R (.slice ao (ts ++ [t]).length cap) (ts ++ [t])→W.grownBy w' v.ownBlock→(∀ k,v.ownBlock = some k→R1 k∧k < W.heap.size)→K (a.put o.dst (.slice ao (ts ++ [t]).length cap)) w') :
    if Region.wanted o (yielded ops a.tmps) = true then Oper.wp Tryz.prog o a W K Q else X:=by
 have hw:Region.wanted o (yielded ops a.tmps) = true:=by simp [Region.wanted,hgd]
 rw [if_pos hw]
 obtain ⟨v',w',hr,h1,h2,h3⟩:=xD W o.type R1 R2 R v ts hrow [t] 1 1 rfl b 0 (nD k x1 b1 n1 v1) (fun j u hu=>by rw [Nat.zero_add,cell_of_row _ b j _ 25 _ hb]; simpa using hu) hcs.cells hdis hR1 hR2 hQ h63
 obtain ⟨ao,cap,rfl⟩:=h1.shapeZ
 unfold Oper.wp execOp
 simp only [ho,resolve,invoke,builtin,Sem.run_bind,Sem.run_pure,Result.andThen_ok,List.map_toArray,List.map_cons,List.map_nil,hs,hx,hr]
 exact h ao cap w' h1 h2 h3
def Five (w:World) (g:Nat):Prop:=∃ c0 c1 c2 c3 c4:Value,Own w g #[c0,c1,c2,c3,c4] 25
theorem nX0 {E:Nat} {x:List Nat} {s sz:St} {q:Bool} (h:aW0 E s sz) (hx:x ∉ fY) (hwf:jE (nxt E sz)) (hq:aR x (nxt E sz) = q):wd x (nxt E s) = q∧(q = true→sz = s):=by
 rcases h with rfl | ⟨h1,h2,rfl⟩
 · exact ⟨by rw [← hq]; exact (cG hwf hx).symm,fun _=>rfl⟩
 have e1:aR x (nxt E sz) = false:=by
  show aR x (bE E sz 0) = false
  rw [gS h2 0]
  unfold aR
  simp
 have e2:wd x (nxt E (bD E sz)) = false:=by
  have hr:(bD E sz).rest = []:=by unfold bD eO; rw [if_pos h1]
  show wd x (bE E (bD E sz) 0) = false
  rw [gS hr 0]
  rfl
 rw [e1] at hq
 subst hq
 exact ⟨e2,fun q=>by cases q⟩
theorem aW0.live {E:Nat} {s sz:St} (h:aW0 E s sz) (h0:s.wrong = 0):sz = s:=by
 rcases h with rfl | ⟨h1,h2,rfl⟩
 · rfl
 exact absurd h0 bS
def nG0 (w:World) (r E d iR iN iX f:Nat) (x:Nat) (label:List Nat) (stmts:P (List Tree)) (L:List Tree) (sL:St) (g:Nat) (wr:World):Prop :=
 ∃ (acc acc':List Tree) (sl sz:St) (ao:Option Addr) (cap:Nat),oO f stmts g acc E (d + 1) sl = some (L,sL)∧ZAt wr r E (d + 1) sz∧aW0 E sl sz∧Own wr iN (nD 17 (x:Int) (bJ label) 0 (.slice ao acc'.length cap)) 25∧Own wr iR nZ 25∧Five wr iX∧bK wr (fun g=>iN < g∧g ≠ iX) (.slice ao acc'.length cap) acc'∧(sL.wrong = 0→acc' = acc)∧Kp r w wr∧acc'.length + g≤900000000∧iX < wr.heap.size
def wZ0 (w:World) (r E d iR iN iX iC:Nat) (N:Array Value) (x2:Nat) (W0:World) (vN:Value) (accN:List Tree) (L:List Tree) (sL:St) (g:Nat) (wr:World):Prop :=
 ∃ (acc acc':List Tree) (sl:St) (ao:Option Addr) (cap:Nat),(bnd jF fun n=>gJ jF g (acc ++ [n])) E (d + 1) sl = some (L,sL)∧ZAt wr r E (d + 1) sl∧Own wr iC (nD 18 (x2:Int) ⟨#[]⟩ 0 (.slice ao acc'.length cap)) 25∧Own wr iN N 25∧Own wr iR nZ 25∧Five wr iX∧bK wr (fun g=>iC < g) (.slice ao acc'.length cap) acc'∧bK wr (fun g=>(iN < g∧g ≠ iX)∧g < W0.heap.size) vN accN∧(sL.wrong = 0→acc' = acc)∧Kp r w wr∧acc'.length + g≤900000000∧iC < wr.heap.size
theorem zR {expr:P Tree} {stmts:P (List Tree)} (HP:cY 40 expr) (hbs:Bs expr 0) (f:Nat) (hf:f≤100000000) (HA:zT 201 (pA stmts)) (hbst:Bs stmts 0):∀ (w:World) (r E d:Nat) (s:St) (label:List Nat) (t:Tree) (s':St),ZAt w r E d s→wd [115,119,105,116,99,104] (nxt E s) = true→E≤1048576→uE f label expr stmts E d s = some (t,s') →
    Calls Tryz.prog 194 #[.pointer (some ⟨r,0,none⟩),.string (bJ label)] w (pC w r E d t s'):=by
 intro w r E d s label t s' hR hsw hE hm
 have hrl:=hR.lt
 have hK:=Kp.refl r w
 have hqv:=hR.wordq (x:=[115,119,105,116,99,104]) (by decide) hsw
 have HW0:Hid (s.wrong = 0):=hR.live (bR hsw)
 have hba:Bs (pA stmts) 0:=(gQ0 hbst).le (Nat.zero_le 1)
 have hbc:Bs jF 0:=dE0.le (Nat.zero_le 1)
 unfold uE at hm
 obtain ⟨tk,s1,g1,g2⟩:=aE hm
 obtain ⟨rfl,rfl⟩:=aV g1
 obtain ⟨l,s9,g3,g4⟩:=aE g2
 obtain ⟨hT,rfl⟩:=aJ g4
 unfold jU at g3
 obtain ⟨x0,s2,g5,g6⟩:=aE g3
 obtain ⟨pp,s9b,g7,g8⟩:=aE g6
 obtain ⟨hl,rfl⟩:=aJ g8
 obtain ⟨sM,g9,hs9,_⟩:=fA g7
 rw [hl] at g9
 obtain ⟨LC,sC,g10,g11⟩:=aE g9
 replace g11:=aN g11
 have HM1:=hI g5
 have HCL:=hI g10
 have HDF:=hI g11
 have HS9:=hI hs9
 have HMO9:Hid (s9b.wrong = 0→sM.wrong = 0):=fun h0=>by rw [hs9] at h0; exact (gV h0).1
 have HMOC:Hid (sM.wrong = 0→sC.wrong = 0):=by
  refine bP (m:=if wd [100,101,102,97,117,108,116] (nxt E sC) then bnd dA fun t=>bnd (pA stmts) fun a=>ret (LC ++ [(⟨19,(t.2.2.2.1:Nat),[],0,[a]⟩:Tree)]) else ret LC) (fun E d s=>?_) g11
  split
  · exact aT eY (fun t s1 _=>aT (hba E d s1) (fun a s2 _=>bN) (c:=0) (by omega)) (by omega)
  exact bN
 have HMO2:Hid (sC.wrong = 0→s2.wrong = 0):=fun h0=>(mP (bP (uK hbst f [x0]) g10 h0)).1
 have HT':=hI hT
 clear hm g1 g2 g3 g4 g5 g6 g7 g8 g9 g10 g11 hs9 hT hl hsw
 go_enter Tryz.func194,Tryz.ntmps194
 go_upto_region 1 with fail
 have oR:=Own.new w nZ 25
 replace hR:=hR.alloc (.cells nZ 25)
 replace hK:=hK.alloc (.cells nZ 25)
 generalize w.alloc _ = w1 at hR hK oR ⊢
 have hs1:=oR.lt
 go_wp2_with fail
 refine (bU hR).mono ?_
 rintro en w2 ⟨⟨x,rfl,hx⟩,hb⟩
 have HX:=hI hx
 clear hx
 have hs2:=hb.size
 replace hR:=hR.below hb
 replace hK:=hK.trans (Kp.of hb)
 replace oR:=oR.below hb
 clear hb
 go_upto_region 2 with fail
 have oN:=Own.new w2 (nL 17 (x:Int) (bJ label) 0) 25
 obtain ⟨hR,hK,oR⟩:=(fun y9=>And.intro (hR.alloc y9) (And.intro (hK.alloc y9) (oR.alloc y9))) (.cells (nL 17 (x:Int) (bJ label) 0) 25)
 generalize w2.alloc _ = w3 at hR hK oR oN ⊢
 have hs3:=oN.lt
 go_wp2_with fail
 refine (cQ hR ⟨#[115,119,105,116,99,104]⟩ true hqv).mono ?_
 rintro en w4 ⟨⟨_,rfl⟩,hR2,hK2⟩
 rw [if_pos rfl] at hR2
 have hs4:=hK2.size
 replace oR:=oR.kp hK2 (by omega)
 replace oN:=oN.kp hK2 (by omega)
 replace hK:=hK.trans hK2
 replace hR:=hR2
 clear hK2 hR2 hqv
 go_wp2_with fail
 refine (HP _ r E d (aS s) x0 s2 hR hE HM1.out).mono ?_
 rintro en w5 ⟨t1,k1,a1,b1,n1,v1,rfl,hN1,ht1,hR2,hK2⟩
 obtain ⟨ao1,cap1,rfl⟩:=Row.shape hN1.2.2.2.2
 have q1:aZ w5 (fun g=>w4.heap.size≤g∧g < w5.heap.size) t1 k1 a1 b1 n1 (.slice ao1 t1.kids.length cap1):=hN1.q.imp fun g h1 h2=>⟨h2,h1⟩
 have HT1:=hI ht1
 clear hN1 ht1
 have hs5:=hK2.size
 replace oR:=oR.kp hK2 (by omega)
 replace oN:=oN.kp hK2 (by omega)
 replace hK:=hK.trans hK2
 replace hR:=hR2
 clear hK2 hR2
 go_upto_region 4 with fail
 have oX:=Own.new w5 (nQ k1 a1 b1 n1 ao1 t1 cap1) 25
 obtain ⟨hR,hK,oR,oN,q1⟩:=(fun y9=>And.intro (hR.alloc y9) (And.intro (hK.alloc y9) (And.intro (oR.alloc y9) (And.intro (oN.alloc y9) (q1.on fun _ _ _ h=>h.alloc y9))))) (.cells (nQ k1 a1 b1 n1 ao1 t1 cap1) 25)
 generalize w5.alloc _ = w6 at hR hK oR oN oX q1 ⊢
 have hs6:=oX.lt
 obtain ⟨oX0,oX1,oX2,oX3,oX4,oXf⟩:=oX.five
 have oXl:=oX.lt
 have qn:=bK.one  (q1.imp (Q':=fun g=>w2.heap.size < g∧g ≠ w5.heap.size) fun g h1 h2=>⟨by omega,by omega⟩) (show w2.heap.size < w6.heap.size∧w6.heap.size ≠ w5.heap.size from ⟨by omega,by omega⟩)
 clear q1
 obtain ⟨hR,hK,oR,oN,oX⟩:=(fun y9=>And.intro (hR.alloc y9) (And.intro (hK.alloc y9) (And.intro (oR.alloc y9) (And.intro (oN.alloc y9) (oX.alloc y9))))) (.cells (nQ k1 a1 b1 n1 ao1 t1 cap1) 25)
 have hsx:w6.heap.size < (w6.alloc (.cells (nQ k1 a1 b1 n1 ao1 t1 cap1) 25)).heap.size:=by rw [World.size_alloc]; omega
 go_wp2_with fail
 refine (dE _ _ _ _).mono ?_
 rintro en wz ⟨rfl,rfl⟩
 generalize w6.alloc _ = w7 at hsx hR hK oR oN oX qn ⊢
 have hs7:=hsx
 clear hsx oX0 oX1 oX2 oX3 oX4 oXf oXl
 go_wp2_with (refine aQ rfl (.tmp 20) (.tmp 19) rfl rfl (w2.heap.size) 4 rfl rfl oN (by simp) ?_; intro w8 oV gzV)
 have hs8:=gzV.size
 replace hR:=hR.grown gzV (aH (by omega))
 replace hK:=hK.grown gzV (aI (by omega))
 replace oR:=oR.grown gzV (aG (by omega))
 replace oX:=oX.grown gzV (aG (by omega))
 replace qn:=qn.on fun _ _ _ o=>o.grown gzV (aG (by omega))
 replace oN:Own w8 (w2.heap.size) (nD 17 (x:Int) (bJ label) 0 (.slice (some ⟨w6.heap.size,0,none⟩) 1 1)) 25:=oV
 clear oV gzV
 obtain ⟨qo,hqo⟩:=iQ (aR [123] (nxt E s2))
 have hqom:sg [123] (nxt E s2) = qo:=by rw [← hqo]; exact (aX (hR.nxt_wf 0) (fun c r h=>by cases h; rfl)).symm
 rw [hqom] at HCL
 clear hqom
 refine (jY hR ⟨#[123]⟩ qo hqo).mono ?_
 rintro en w9 ⟨⟨_,rfl⟩,hR2,hK2⟩
 clear hqo
 have hs9:=hK2.size
 replace oR:=oR.kp hK2 (by omega)
 replace oN:=oN.kp hK2 (by omega)
 replace oX:=oX.kp hK2 (by omega)
 replace qn:=qn.on fun _ _ _ o=>o.kp hK2 (by omega)
 replace hK:=hK.trans hK2
 replace hR:=hR2
 clear hK2 hR2
 go_wp2_with fail
 go_loopg [] f (fun g wr=>nG0 w r E d (w.heap.size) (w2.heap.size) (w5.heap.size) f x label stmts LC sC g wr)
 case atStart=>exact ⟨[x0],[t1],_,_,_,_,HCL.out,hR,.inl rfl,oN,oR,⟨_,_,_,_,_,oX⟩,qn,fun h0=>by rw [HT1.out (HMO2.out h0)],hK,by simp; omega,by omega⟩
 case round =>
  clear hR hK oR oN oX qn HCL
  obtain ⟨acc,acc',sl,sz,ao,cap,hm,hR,hze,oN,oR,⟨xc0,xc1,xc2,xc3,xc4,oX⟩,qn,hacc,hK,hlen,hiX⟩:=hrel
  replace qn:bK wr (fun g=>(w2.heap.size < g∧g ≠ w5.heap.size)∧g < wr.heap.size) (.slice ao acc'.length cap) acc':=qn.imp fun g h1 h2=>⟨h2,h1⟩
  have HACC:=hI hacc
  have hs0:=hK.size
  have HZE:=hI hze
  clear hacc
  cases gk with
  | zero=>cases hm
  | succ gk=>?_
  obtain ⟨wO,rfl⟩:∃ wO,wO = wr:=⟨_,rfl⟩
  obtain ⟨gO,rfl⟩:∃ gO,gO = gk:=⟨_,rfl⟩
  obtain ⟨qc,hqc⟩:=iQ (aR [99,97,115,101] (nxt E sz))
  obtain ⟨hqcm,hsz⟩:=nX0 hze (by decide) (hR.nxt_wf 0) hqc
  unfold oO at hm
  replace hm:=aN hm
  rw [hqcm] at hm
  have HM2:=hI hm
  have HSZ:=hI hsz
  have HQCM:=hI hqcm
  clear hm hze hqcm hsz
  go_wp2_with fail
  refine (bG hR ⟨#[99,97,115,101]⟩ qc hqc).mono ?_
  rintro en w10 ⟨rfl,hb⟩
  have hs10:=hb.size
  replace hR:=hR.below hb
  replace hK:=hK.trans (Kp.of hb)
  replace oN:=oN.below hb
  replace oR:=oR.below hb
  replace oX:=oX.below hb
  replace qn:=qn.on fun _ _ _ o=>o.below hb
  clear hb
  cases qc with
  | true =>
   obtain rfl:sz = sl:=HSZ.out rfl
   have hm:=HM2.out
   rw [if_pos rfl] at hm
   obtain ⟨tkc,s3,e1,e2⟩:=aE hm
   obtain ⟨rfl,rfl⟩:=aV e1
   obtain ⟨lc,s4,e3,e4⟩:=aE e2
   obtain ⟨ac,s5,e5,e6⟩:=aE e4
   have HNL:=hI e3
   have HAR:=hI e5
   have HL2:=hI e6
   have HMOL:Hid (sC.wrong = 0→s5.wrong = 0):=bP (uK hbst gO _) e6
   have HMOA:Hid (s5.wrong = 0→s4.wrong = 0):=bP hba e5
   have HLV:Hid (sz.wrong = 0):=hR.live (bR HQCM.out)
   clear hm e1 e2 e3 e4 e5 e6 HM2 HSZ HZE
   go_wp2_with fail
   refine (bU hR).mono ?_
   rintro en w11 ⟨⟨x2,rfl,hx⟩,hb⟩
   have HX2:=hI hx
   clear hx
   have hs11:=hb.size
   replace hR:=hR.below hb
   replace hK:=hK.trans (Kp.of hb)
   replace oN:=oN.below hb
   replace oR:=oR.below hb
   replace oX:=oX.below hb
   replace qn:=qn.on fun _ _ _ o=>o.below hb
   clear hb
   go_upto_region 8 with fail
   have oC:=Own.new w11 (nL 18 (x2:Int) ⟨#[]⟩ 0) 25
   obtain ⟨hR,hK,oN,oR,oX,qn⟩:=(fun y9=>And.intro (hR.alloc y9) (And.intro (hK.alloc y9) (And.intro (oN.alloc y9) (And.intro (oR.alloc y9) (And.intro (oX.alloc y9) (qn.on fun _ _ _ h=>h.alloc y9)))))) (.cells (nL 18 (x2:Int) ⟨#[]⟩ 0) 25)
   generalize w11.alloc _ = w12 at hR hK oN oR oX oC qn ⊢
   have hs12:=oC.lt
   go_wp2_with fail
   refine (cQ hR ⟨#[99,97,115,101]⟩ true hqc).mono ?_
   rintro en w13 ⟨⟨_,rfl⟩,hR2,hK2⟩
   rw [if_pos rfl] at hR2
   have hs13:=hK2.size
   replace oN:=oN.kp hK2 (by omega)
   replace oR:=oR.kp hK2 (by omega)
   replace oX:=oX.kp hK2 (by omega)
   replace oC:=oC.kp hK2 (by omega)
   replace qn:=qn.on fun _ _ _ o=>o.kp hK2 (by omega)
   replace hK:=hK.trans hK2
   replace hR:=hR2
   clear hK2 hR2 hqc
   go_wp2_with fail
   go_loopg [] f (fun g wq=>wZ0 w r E d (w.heap.size) (w2.heap.size) (w5.heap.size) (w11.heap.size) (nD 17 (x:Int) (bJ label) 0 (.slice ao acc'.length cap)) x2 wO (.slice ao acc'.length cap) acc' lc s4 g wq)
   case atStart=>exact ⟨[],[],aS sz,none,0,HNL.out,hR,oC,oN,oR,⟨_,_,_,_,_,oX⟩,(Row.nil _ _).q,qn,fun _=>rfl,hK,by simp; omega,by omega⟩
   case round =>
    clear hR hK oR oN oX oC qn HNL
    obtain ⟨acc3,acc4,sl2,ao2,cap2,hm,hR,oC,oN,oR,⟨yc0,yc1,yc2,yc3,yc4,oX⟩,qc,qn,hacc,hK,hlen2,hiC⟩:=hrel
    replace qc:bK wr (fun g=>w11.heap.size < g∧g < wr.heap.size) (.slice ao2 acc4.length cap2) acc4:=qc.imp fun g h1 h2=>⟨h2,h1⟩
    obtain ⟨n,s6,e1,e2⟩:=aE hm
    have HNM:=hI e1
    have HL3:=hI e2
    have HMO6:Hid (s4.wrong = 0→s6.wrong = 0):=bP (nJ hbc gk (acc3 ++ [n])) e2
    have HACC3:=hI hacc
    have hs00:=hK.size
    clear hm e1 e2 hacc
    go_wp2_with fail
    refine (fQ0 _ r E (d + 1) sl2 n s6 hR hE HNM.out).mono ?_
    rintro en w34 ⟨t2,k2,a2,b2,n2,v2,rfl,hN1,ht1,hR2,hK2⟩
    obtain ⟨ao2,cap2,rfl⟩:=Row.shape hN1.2.2.2.2
    have q2:aZ w34 (fun g=>wr.heap.size≤g∧g < w34.heap.size) t2 k2 a2 b2 n2 (.slice ao2 t2.kids.length cap2):=hN1.q.imp fun g h1 h2=>⟨h2,h1⟩
    have HT2:=hI ht1
    clear hN1 ht1
    have hs34:=hK2.size
    replace oC:=oC.kp hK2 (by omega)
    replace oN:=oN.kp hK2 (by omega)
    replace oR:=oR.kp hK2 (by omega)
    replace oX:=oX.kp hK2 (by omega)
    replace qc:=qc.on fun _ _ _ o=>o.kp hK2 (by omega)
    replace qn:=qn.on fun _ _ _ o=>o.kp hK2 (by omega)
    replace hK:=hK.trans hK2
    replace hR:=hR2
    clear hK2 hR2
    go_upto_region 10 with (refine aF rfl (.tmp 6) (.tmp 31) rfl rfl (w5.heap.size) rfl rfl oX ⟨rfl,rfl,rfl,rfl,rfl⟩ ?_; intro w35 oV gzV)
    have hs35:=gzV.size
    replace hR:=hR.grown gzV (aH (by omega))
    replace hK:=hK.grown gzV (aI (by omega))
    replace oC:=oC.grown gzV (aG (by omega))
    replace oN:=oN.grown gzV (aG (by omega))
    replace oR:=oR.grown gzV (aG (by omega))
    replace qc:=qc.on fun _ _ _ o=>o.grown gzV (aG (by omega))
    replace qn:=qn.on fun _ _ _ o=>o.grown gzV (aG (by omega))
    replace q2:=q2.on fun _ _ _ o=>o.grown gzV (aG (by omega))
    replace oX:Own w35 (w5.heap.size) (nQ k2 a2 b2 n2 ao2 t2 cap2) 25:=oV
    clear oV gzV
    obtain ⟨oC0,oC1,oC2,oC3,oC4,oCf⟩:=oC.five
    have oCl:=oC.lt
    obtain ⟨oX0,oX1,oX2,oX3,oX4,oXf⟩:=oX.five
    have oXl:=oX.lt
    go_wp2_with (first | (at_builtin; refine cT rfl (.tmp 33) (.tmp 35) rfl (fun g=>w11.heap.size < g∧g < wr.heap.size) (fun g=>wr.heap.size≤g∧g < w34.heap.size) (fun g=>w11.heap.size < g) _ acc4 rfl (qc.on fun g hg cur ho=>ho.alloc _) t2 k2 a2 b2 n2 (.slice ao2 t2.kids.length cap2) w35.heap.size rfl (Own.new w35 _ _) (q2.on fun g hg cur ho=>ho.alloc _) (fun g h1 h2=>by omega) (fun g h0 h1=>by omega) (fun g h0 h1=>by omega) (by rw [World.size_alloc]; exact by omega) (by omega) ?_; intro aoA36 capA36 wU hrowU gzU hvbU; have oU:=(oC.alloc _).grown gzU (fun e=>by have:=(hvbU _ e.symm).1; omega)) | (refine aQ rfl (.tmp 37) (.tmp 36) rfl rfl (w11.heap.size) 4 rfl rfl oU (by simp) ?_; intro w36 oV gzV))
    clear oC0 oC1 oC2 oC3 oC4 oCf oCl oX0 oX1 oX2 oX3 oX4 oXf oXl
    have hllU:(acc4 ++ [t2]).length = acc4.length + 1:=by simp
    rw [hllU] at hrowU
    have hsU:=gzU.size
    rw [World.size_alloc] at hsU
    have hsV:=gzV.size
    replace hR:=((hR.alloc (.cells (nQ k2 a2 b2 n2 ao2 t2 cap2) 25)).grown gzU (fun k hk=>by have:=(hvbU k hk).1; omega)).grown gzV (aH (by omega))
    replace hK:=((hK.alloc (.cells (nQ k2 a2 b2 n2 ao2 t2 cap2) 25)).grown gzU (fun k hk=>by have:=(hvbU k hk).1; omega)).grown gzV (aI (by omega))
    clear q2
    replace oN:=((oN.alloc (.cells (nQ k2 a2 b2 n2 ao2 t2 cap2) 25)).grown gzU (fun e=>by have:=(hvbU _ e.symm).1; omega)).grown gzV (aG (by omega))
    replace oR:=((oR.alloc (.cells (nQ k2 a2 b2 n2 ao2 t2 cap2) 25)).grown gzU (fun e=>by have:=(hvbU _ e.symm).1; omega)).grown gzV (aG (by omega))
    replace oX:=((oX.alloc (.cells (nQ k2 a2 b2 n2 ao2 t2 cap2) 25)).grown gzU (fun e=>by have:=(hvbU _ e.symm).1; omega)).grown gzV (aG (by omega))
    replace qn:=qn.on fun _ _ _ o=>((o.alloc (.cells (nQ k2 a2 b2 n2 ao2 t2 cap2) 25)).grown gzU (fun e=>by have:=(hvbU _ e.symm).1; omega)).grown gzV (aG (by omega))
    replace oC:Own w36 (w11.heap.size) (nD 18 (x2:Int) ⟨#[]⟩ 0 (.slice aoA36 (acc4.length + 1) capA36)) 25:=oV
    clear qc
    have qc:=hrowU.on fun _ _ _ o=>o.grown gzV (aG (by omega))
    have hs36:w35.heap.size < w36.heap.size:=by omega
    clear hrowU gzU hvbU oU oV gzV hllU hsU hsV
    obtain ⟨acc5,ha2⟩:=iQ (acc4 ++ [t2])
    have hl2:acc4.length + 1 = acc5.length:=by rw [← ha2]; simp
    rw [ha2] at qc
    rw [hl2] at qc oC
    have HACC5:Hid (s4.wrong = 0→acc5 = acc3 ++ [n]):=fun h0=>by rw [← ha2,HACC3.out h0,HT2.out (HMO6.out h0)]
    clear ha2
    obtain ⟨q9,hq9⟩:=iQ (aR [44] (nxt E s6))
    have hq9m:sg [44] (nxt E s6) = q9:=by rw [← hq9]; exact (aX (hR.nxt_wf 0) (fun c r h=>by cases h; rfl)).symm
    have HQ9:=hI hq9m
    clear hq9m
    refine (fS hR ⟨#[44]⟩ q9 hq9).mono ?_
    rintro en w37 ⟨rfl,hR2,hK2⟩
    clear hq9
    have hs37:=hK2.size
    replace oC:=oC.kp hK2 (by omega)
    replace oN:=oN.kp hK2 (by omega)
    replace oR:=oR.kp hK2 (by omega)
    replace oX:=oX.kp hK2 (by omega)
    replace qc:=qc.on fun _ _ _ o=>o.kp hK2 (by omega)
    replace qn:=qn.on fun _ _ _ o=>o.kp hK2 (by omega)
    replace hK:=hK.trans hK2
    replace hR:=hR2
    clear hK2 hR2
    cases q9 with
    | true =>
     have hl:=HL3.out
     cases gk with
     | zero=>cases hl
     | succ gk=>?_
     unfold gJ at hl
     replace hl:=aN hl
     rw [HQ9.out,if_pos rfl] at hl
     obtain ⟨tk,s2,e1,e2⟩:=aE hl
     obtain ⟨_,rfl⟩:=aV e1
     rw [if_pos rfl] at hR
     have HE2:=hI e2
     have hlen3:acc5.length + gk≤900000000:=by omega
     clear hl e1 e2 HL3
     go_wp2
     go_roundg gk
     case rel=>exact ⟨acc3 ++ [n],acc5,aS s6,_,_,HE2.out,hR,oC,oN,oR,⟨_,_,_,_,_,oX⟩,qc.imp fun g _ h=>h,qn,HACC5.out,hK,hlen3,by omega⟩
     case measure=>omega
    | false=>?_
    have hl:=HL3.out
    cases gk with
    | zero=>cases hl
    | succ gk=>?_
    unfold gJ at hl
    replace hl:=aN hl
    rw [HQ9.out,if_neg (by simp)] at hl
    obtain ⟨e1,e2⟩:=aJ hl
    rw [if_neg (by simp)] at hR
    have HE1:=hI e1
    subst e2
    clear hl e1 HL3
    replace qc:bK w37 (fun g=>w11.heap.size < g∧g < w37.heap.size) _ acc5:=qc.imp fun g h1 h2=>⟨h2,h1⟩
    go_wp2_with fail
    refine (HA _ r E (d + 1) s6 ac s5 hR hE HAR.out).mono ?_
    rintro en w38 ⟨t3,k3,a3,b3,n3,v3,sz5,rfl,hN1,ht1,hR2,hze,hK2⟩
    obtain ⟨ao3,cap3,rfl⟩:=Row.shape hN1.2.2.2.2
    have q3:aZ w38 (fun g=>w37.heap.size≤g∧g < w38.heap.size) t3 k3 a3 b3 n3 (.slice ao3 t3.kids.length cap3):=hN1.q.imp fun g h1 h2=>⟨h2,h1⟩
    have HT3:=hI ht1
    have HZ3:=hI hze
    clear hN1 ht1 hze
    have hs38:=hK2.size
    replace oC:=oC.kp hK2 (by omega)
    replace oN:=oN.kp hK2 (by omega)
    replace oR:=oR.kp hK2 (by omega)
    replace oX:=oX.kp hK2 (by omega)
    replace qc:=qc.on fun _ _ _ o=>o.kp hK2 (by omega)
    replace qn:=qn.on fun _ _ _ o=>o.kp hK2 (by omega)
    replace hK:=hK.trans hK2
    replace hR:=hR2
    clear hK2 hR2
    go_upto_region 13 with (refine aF rfl (.tmp 6) (.tmp 42) rfl rfl (w5.heap.size) rfl rfl oX ⟨rfl,rfl,rfl,rfl,rfl⟩ ?_; intro w39 oV gzV)
    have hs39:=gzV.size
    replace hR:=hR.grown gzV (aH (by omega))
    replace hK:=hK.grown gzV (aI (by omega))
    replace oC:=oC.grown gzV (aG (by omega))
    replace oN:=oN.grown gzV (aG (by omega))
    replace oR:=oR.grown gzV (aG (by omega))
    replace qc:=qc.on fun _ _ _ o=>o.grown gzV (aG (by omega))
    replace qn:=qn.on fun _ _ _ o=>o.grown gzV (aG (by omega))
    replace q3:=q3.on fun _ _ _ o=>o.grown gzV (aG (by omega))
    replace oX:Own w39 (w5.heap.size) (nQ k3 a3 b3 n3 ao3 t3 cap3) 25:=oV
    clear oV gzV
    obtain ⟨oC0,oC1,oC2,oC3,oC4,oCf⟩:=oC.five
    have oCl:=oC.lt
    obtain ⟨oX0,oX1,oX2,oX3,oX4,oXf⟩:=oX.five
    have oXl:=oX.lt
    go_upto_region 14 with (first | (at_builtin; refine cT rfl (.tmp 44) (.tmp 46) rfl (fun g=>w11.heap.size < g∧g < w37.heap.size) (fun g=>w37.heap.size≤g∧g < w38.heap.size) (fun g=>w11.heap.size < g) _ acc5 rfl (qc.on fun g hg cur ho=>ho.alloc _) t3 k3 a3 b3 n3 (.slice ao3 t3.kids.length cap3) w39.heap.size rfl (Own.new w39 _ _) (q3.on fun g hg cur ho=>ho.alloc _) (fun g h1 h2=>by omega) (fun g h0 h1=>by omega) (fun g h0 h1=>by omega) (by rw [World.size_alloc]; exact by omega) (by omega) ?_; intro aoA40 capA40 wU hrowU gzU hvbU; have oU:=(oC.alloc _).grown gzU (fun e=>by have:=(hvbU _ e.symm).1; omega)) | (refine aQ rfl (.tmp 48) (.tmp 47) rfl rfl (w11.heap.size) 4 rfl rfl oU (by simp) ?_; intro w40 oV gzV))
    clear oC0 oC1 oC2 oC3 oC4 oCf oCl oX0 oX1 oX2 oX3 oX4 oXf oXl
    have hllU:(acc5 ++ [t3]).length = acc5.length + 1:=by simp
    rw [hllU] at hrowU
    have hsU:=gzU.size
    rw [World.size_alloc] at hsU
    have hsV:=gzV.size
    replace hR:=((hR.alloc (.cells (nQ k3 a3 b3 n3 ao3 t3 cap3) 25)).grown gzU (fun k hk=>by have:=(hvbU k hk).1; omega)).grown gzV (aH (by omega))
    replace hK:=((hK.alloc (.cells (nQ k3 a3 b3 n3 ao3 t3 cap3) 25)).grown gzU (fun k hk=>by have:=(hvbU k hk).1; omega)).grown gzV (aI (by omega))
    clear q3
    replace oN:=((oN.alloc (.cells (nQ k3 a3 b3 n3 ao3 t3 cap3) 25)).grown gzU (fun e=>by have:=(hvbU _ e.symm).1; omega)).grown gzV (aG (by omega))
    replace oR:=((oR.alloc (.cells (nQ k3 a3 b3 n3 ao3 t3 cap3) 25)).grown gzU (fun e=>by have:=(hvbU _ e.symm).1; omega)).grown gzV (aG (by omega))
    replace oX:=((oX.alloc (.cells (nQ k3 a3 b3 n3 ao3 t3 cap3) 25)).grown gzU (fun e=>by have:=(hvbU _ e.symm).1; omega)).grown gzV (aG (by omega))
    replace qn:=qn.on fun _ _ _ o=>((o.alloc (.cells (nQ k3 a3 b3 n3 ao3 t3 cap3) 25)).grown gzU (fun e=>by have:=(hvbU _ e.symm).1; omega)).grown gzV (aG (by omega))
    replace oC:Own w40 (w11.heap.size) (nD 18 (x2:Int) ⟨#[]⟩ 0 (.slice aoA40 (acc5.length + 1) capA40)) 25:=oV
    clear qc
    have qc:=hrowU.on fun _ _ _ o=>o.grown gzV (aG (by omega))
    have hs40:w39.heap.size < w40.heap.size:=by omega
    clear hrowU gzU hvbU oU oV gzV hllU hsU hsV
    replace qc:bK w40 (fun g=>w11.heap.size < g∧g < w40.heap.size) _ (acc5 ++ [t3]):=qc.imp fun g h1 h2=>⟨h2,h1⟩
    obtain ⟨acc6,ha6⟩:=iQ (acc5 ++ [t3])
    have hl6:acc5.length + 1 = acc6.length:=by rw [← ha6]; simp
    rw [ha6] at qc
    rw [hl6] at qc oC
    obtain ⟨oN0,oN1,oN2,oN3,oN4,oNf⟩:=oN.five
    have oNl:=oN.lt
    obtain ⟨oC0,oC1,oC2,oC3,oC4,oCf⟩:=oC.five
    have oCl:=oC.lt
    go_wp2_with (first | (at_builtin; refine cT rfl (.tmp 50) (.tmp 52) rfl (fun g=>(w2.heap.size < g∧g ≠ w5.heap.size)∧g < wO.heap.size) (fun g=>w11.heap.size < g∧g < w40.heap.size) (fun g=>w2.heap.size < g∧g ≠ w5.heap.size) _ acc' rfl (qn.on fun g hg cur ho=>ho.alloc _) (⟨18,(x2:Int),[],0,acc6⟩:Tree) 18 (x2:Int) ⟨#[]⟩ 0 (.slice aoA40 acc6.length capA40) w40.heap.size rfl (Own.new w40 _ _) ⟨rfl,rfl,rfl,rfl,qc.on fun g hg cur ho=>ho.alloc _⟩ (fun g h1 h2=>by omega) (fun g h0 h1=>⟨by omega,by omega⟩) (fun g h0 h1=>⟨by omega,by omega⟩) (by rw [World.size_alloc]; exact ⟨by omega,by omega⟩) (by omega) ?_; intro aoA41 capA41 wU hrowU gzU hvbU; have oU:=(oN.alloc _).grown gzU (fun e=>by have:=(hvbU _ e.symm).1; omega)) | (refine aQ rfl (.tmp 54) (.tmp 53) rfl rfl (w2.heap.size) 4 rfl rfl oU (by simp) ?_; intro w41 oV gzV))
    clear oN0 oN1 oN2 oN3 oN4 oNf oNl oC0 oC1 oC2 oC3 oC4 oCf oCl
    have hllU:(acc' ++ [(⟨18,(x2:Int),[],0,acc6⟩:Tree)]).length = acc'.length + 1:=by simp
    rw [hllU] at hrowU
    have hsU:=gzU.size
    rw [World.size_alloc] at hsU
    have hsV:=gzV.size
    replace hR:=((hR.alloc (.cells (nD 18 (x2:Int) ⟨#[]⟩ 0 (.slice aoA40 acc6.length capA40)) 25)).grown gzU (fun k hk=>by have:=(hvbU k hk).1; omega)).grown gzV (aH (by omega))
    replace hK:=((hK.alloc (.cells (nD 18 (x2:Int) ⟨#[]⟩ 0 (.slice aoA40 acc6.length capA40)) 25)).grown gzU (fun k hk=>by have:=(hvbU k hk).1; omega)).grown gzV (aI (by omega))
    clear oC qc
    replace oR:=((oR.alloc (.cells (nD 18 (x2:Int) ⟨#[]⟩ 0 (.slice aoA40 acc6.length capA40)) 25)).grown gzU (fun e=>by have:=(hvbU _ e.symm).1; omega)).grown gzV (aG (by omega))
    replace oX:=((oX.alloc (.cells (nD 18 (x2:Int) ⟨#[]⟩ 0 (.slice aoA40 acc6.length capA40)) 25)).grown gzU (fun e=>by have:=(hvbU _ e.symm).1; omega)).grown gzV (aG (by omega))
    replace oN:Own w41 (w2.heap.size) (nD 17 (x:Int) (bJ label) 0 (.slice aoA41 (acc'.length + 1) capA41)) 25:=oV
    clear qn
    have qn:=hrowU.on fun _ _ _ o=>o.grown gzV (aG (by omega))
    have hs41:w40.heap.size < w41.heap.size:=by omega
    clear hrowU gzU hvbU oU oV gzV hllU hsU hsV
    obtain ⟨acc7,ha7⟩:=iQ (acc' ++ [(⟨18,(x2:Int),[],0,acc6⟩:Tree)])
    have hl7:acc'.length + 1 = acc7.length:=by rw [← ha7]; simp
    rw [ha7] at qn
    rw [hl7] at qn oN
    have HACC7:Hid (sC.wrong = 0→acc7 = acc ++ [⟨18,((nxt E sz).2.2.2.1:Nat),[],0,lc ++ [ac]⟩]):=fun h0=>by
     have h5:=HMOL.out h0
     have h6:=HMOA.out h5
     rw [← ha7,HACC.out h0,← ha6,HT3.out h5,HACC5.out h6,HE1.out,HX2.out HLV.out]
    clear ha6 ha7
    go_roundg gO
    case rel=>exact ⟨_,acc7,s5,sz5,_,_,HL2.out,hR,HZ3.out,oN,oR,⟨_,_,_,_,_,oX⟩,qn,HACC7.out,hK,by omega,by omega⟩
    case measure=>omega
  | false=>?_
  have hm:=HM2.out
  rw [if_neg (by simp)] at hm
  obtain ⟨e1,e2⟩:=aJ hm
  subst e2
  have HE1:=hI e1
  clear hm e1 HM2 HSZ hqc
  obtain ⟨qd,hqd⟩:=iQ (aR [100,101,102,97,117,108,116] (nxt E sz))
  obtain ⟨hqdm,hsz2⟩:=nX0 HZE.out (by decide) (hR.nxt_wf 0) hqd
  have HSZ2:=hI hsz2
  have HD2:Hid ((if qd = true then bnd dA fun t=>bnd (pA stmts) fun a=>ret (LC ++ [(⟨19,(t.2.2.2.1:Nat),[],0,[a]⟩:Tree)]) else ret LC) E (d + 1) sl = some (l,sM)):=by have h9:=HDF.out; rw [hqdm] at h9; exact h9
  have HQDM:=hI hqdm
  clear hqdm hsz2 HDF HQCM
  go_wp2_with fail
  refine (bG hR ⟨#[100,101,102,97,117,108,116]⟩ qd hqd).mono ?_
  rintro en w11 ⟨rfl,hb⟩
  have hs11:=hb.size
  replace hR:=hR.below hb
  replace hK:=hK.trans (Kp.of hb)
  replace oN:=oN.below hb
  replace oR:=oR.below hb
  replace oX:=oX.below hb
  replace qn:=qn.on fun _ _ _ o=>o.below hb
  clear hb
  cases qd with
  | false =>
   have hm:=HD2.out
   rw [if_neg (by simp)] at hm
   obtain ⟨e1,e2⟩:=aJ hm
   subst e2
   have HE2:=hI e1
   clear hm e1 HD2 HSZ2 hqd
   obtain ⟨qz,hqz⟩:=iQ (aR [125] (nxt E sz))
   have hen:=vY (x:=[125]) HZE.out (fun c r h=>by cases h; rfl) (hR.nxt_wf 0)
   rw [hqz,← HS9.out] at hen
   have HEN:=hI hen
   clear hen
   go_wp2_with fail
   refine (kI hR ⟨#[125]⟩ qz hqz).mono ?_
   rintro en w12 ⟨⟨_,rfl⟩,hR2,hK2⟩
   rw [HEN.out] at hR2
   have hs12:=hK2.size
   replace oN:=oN.kp hK2 (by omega)
   replace oR:=oR.kp hK2 (by omega)
   replace oX:=oX.kp hK2 (by omega)
   replace qn:=qn.on fun _ _ _ o=>o.kp hK2 (by omega)
   replace hK:=hK.trans hK2
   replace hR:=hR2
   clear hK2 hR2 hqz
   obtain ⟨oN0,oN1,oN2,oN3,oN4,oNf⟩:=oN.five
   have oNl:=oN.lt
   go_wp2_with (refine aF rfl (.tmp 4) (.tmp 75) rfl rfl (w.heap.size) rfl rfl oR ⟨rfl,rfl,rfl,rfl,rfl⟩ ?_; intro wz oz gz)
   refine aC (t:=25) rfl rfl rfl oz Tryz.underlying25 rfl (by kernel_rfl) ?_
   refine ⟨⟨17,(x:Int),label,0,acc'⟩,_,_,_,_,_,rfl,⟨rfl,rfl,rfl,rfl,bK.row ((qn.on fun _ _ _ o=>o.grown gz (aG (by omega))).imp fun g _ h=>by omega)⟩,fun h0=>?_,hR.grown gz (aH (by omega)),hK.grown gz (aI (by omega))⟩
   have h1:=HMO9.out h0
   rw [← HT'.out,HACC.out h1,HE1.out,HE2.out,HX.out HW0.out]
  | true=>?_
  obtain rfl:sz = sl:=HSZ2.out rfl
  have hm:=HD2.out
  rw [if_pos rfl] at hm
  obtain ⟨tkd,s3,e1,e2⟩:=aE hm
  obtain ⟨rfl,rfl⟩:=aV e1
  obtain ⟨ad,s4,e3,e4⟩:=aE e2
  obtain ⟨hl9,rfl⟩:=aJ e4
  have HAR:=hI e3
  have HE2:=hI hl9
  have HLV:Hid (sz.wrong = 0):=hR.live (bR HQDM.out)
  clear hm e1 e2 e3 e4 hl9 HD2 HSZ2 HZE
  go_wp2_with fail
  refine (bU hR).mono ?_
  rintro en w12 ⟨⟨x4,rfl,hx⟩,hb⟩
  have HX4:=hI hx
  clear hx
  have hs12:=hb.size
  replace hR:=hR.below hb
  replace hK:=hK.trans (Kp.of hb)
  replace oN:=oN.below hb
  replace oR:=oR.below hb
  replace oX:=oX.below hb
  replace qn:=qn.on fun _ _ _ o=>o.below hb
  clear hb
  go_wp2_with fail
  refine (cQ hR ⟨#[100,101,102,97,117,108,116]⟩ true hqd).mono ?_
  rintro en w13 ⟨⟨_,rfl⟩,hR2,hK2⟩
  rw [if_pos rfl] at hR2
  have hs13:=hK2.size
  replace oN:=oN.kp hK2 (by omega)
  replace oR:=oR.kp hK2 (by omega)
  replace oX:=oX.kp hK2 (by omega)
  replace qn:=qn.on fun _ _ _ o=>o.kp hK2 (by omega)
  replace hK:=hK.trans hK2
  replace hR:=hR2
  clear hK2 hR2 hqd
  go_wp2_with fail
  refine (HA _ r E (d + 1) (aS sz) ad s4 hR hE HAR.out).mono ?_
  rintro en w14 ⟨t5,k5,a5,b5,n5,v5,sz5,rfl,hN1,ht1,hR2,hze,hK2⟩
  obtain ⟨ao5,cap5,rfl⟩:=Row.shape hN1.2.2.2.2
  have q5:aZ w14 (fun g=>w13.heap.size≤g∧g < w14.heap.size) t5 k5 a5 b5 n5 (.slice ao5 t5.kids.length cap5):=hN1.q.imp fun g h1 h2=>⟨h2,h1⟩
  have HT5:=hI ht1
  have HZ5:=hI hze
  clear hN1 ht1 hze
  have hs14:=hK2.size
  replace oN:=oN.kp hK2 (by omega)
  replace oR:=oR.kp hK2 (by omega)
  replace oX:=oX.kp hK2 (by omega)
  replace qn:=qn.on fun _ _ _ o=>o.kp hK2 (by omega)
  replace hK:=hK.trans hK2
  replace hR:=hR2
  clear hK2 hR2
  go_upto_region 19 with (refine aF rfl (.tmp 6) (.tmp 62) rfl rfl (w5.heap.size) rfl rfl oX ⟨rfl,rfl,rfl,rfl,rfl⟩ ?_; intro w15 oV gzV)
  have hs15:=gzV.size
  replace hR:=hR.grown gzV (aH (by omega))
  replace hK:=hK.grown gzV (aI (by omega))
  replace oN:=oN.grown gzV (aG (by omega))
  replace oR:=oR.grown gzV (aG (by omega))
  replace qn:=qn.on fun _ _ _ o=>o.grown gzV (aG (by omega))
  replace q5:=q5.on fun _ _ _ o=>o.grown gzV (aG (by omega))
  replace oX:Own w15 (w5.heap.size) (nQ k5 a5 b5 n5 ao5 t5 cap5) 25:=oV
  clear oV gzV
  go_cut [5] (fun v wx=>v = .pointer (some ⟨w2.heap.size,0,none⟩)∧∃ (aoD:Option Addr) (capD:Nat),Own wx (w2.heap.size) (nD 17 (x:Int) (bJ label) 0 (.slice aoD (acc'.length + 1) capD)) 25∧Own wx (w.heap.size) nZ 25∧bK wx (fun g=>w2.heap.size < g) (.slice aoD (acc'.length + 1) capD) (acc' ++ [⟨19,(x4:Int),[],0,[t5]⟩])∧ZAt wx r E (d + 1) sz5∧Kp r w wx∧w15.heap.size≤wx.heap.size)
  case first =>
   obtain ⟨oN0,oN1,oN2,oN3,oN4,oNf⟩:=oN.five
   have oNl:=oN.lt
   obtain ⟨oX0,oX1,oX2,oX3,oX4,oXf⟩:=oX.five
   have oXl:=oX.lt
   have hfx:=vH0
   have qk:=(bK.one (q5.imp (Q':=fun g=>w13.heap.size≤g∧g ≠ w5.heap.size) fun g h1 h2=>⟨by omega,by omega⟩) (show w13.heap.size≤w15.heap.size∧w15.heap.size ≠ w5.heap.size from ⟨by omega,by omega⟩))
   have q19:aZ (w15.alloc (.cells (nQ k5 a5 b5 n5 ao5 t5 cap5) 25)) (fun g=>w13.heap.size≤g∧g ≠ w5.heap.size) ⟨19,(x4:Int),[],0,[t5]⟩ 19 (x4:Int) ⟨#[]⟩ 0 (.slice (some ⟨w15.heap.size,0,none⟩) 1 1):=⟨rfl,rfl,rfl,rfl,qk⟩
   have on19:Own ((w15.alloc (.cells (nQ k5 a5 b5 n5 ao5 t5 cap5) 25)).alloc (.cells (nD 19 (x4:Int) ⟨#[]⟩ 0 (.slice (some ⟨w15.heap.size,0,none⟩) 1 1)) 25)) (w15.heap.size + 1) (nD 19 (x4:Int) ⟨#[]⟩ 0 (.slice (some ⟨w15.heap.size,0,none⟩) 1 1)) 25:=by
    have h9:=Own.new (w15.alloc (.cells (nQ k5 a5 b5 n5 ao5 t5 cap5) 25)) (nD 19 (x4:Int) ⟨#[]⟩ 0 (.slice (some ⟨w15.heap.size,0,none⟩) 1 1)) 25
    rw [World.size_alloc] at h9
    exact h9
   have oN6:=(((oN.alloc (.cells (nQ k5 a5 b5 n5 ao5 t5 cap5) 25)).alloc (.cells (nD 19 (x4:Int) ⟨#[]⟩ 0 (.slice (some ⟨w15.heap.size,0,none⟩) 1 1)) 25)).drew)
   have oR6:=(((oR.alloc (.cells (nQ k5 a5 b5 n5 ao5 t5 cap5) 25)).alloc (.cells (nD 19 (x4:Int) ⟨#[]⟩ 0 (.slice (some ⟨w15.heap.size,0,none⟩) 1 1)) 25)).drew)
   have hR6:ZAt ((w15.alloc (.cells (nQ k5 a5 b5 n5 ao5 t5 cap5) 25)).alloc (.cells (nD 19 (x4:Int) ⟨#[]⟩ 0 (.slice (some ⟨w15.heap.size,0,none⟩) 1 1)) 25)).drew r E (d + 1) sz5:=((hR.alloc (.cells (nQ k5 a5 b5 n5 ao5 t5 cap5) 25)).alloc (.cells (nD 19 (x4:Int) ⟨#[]⟩ 0 (.slice (some ⟨w15.heap.size,0,none⟩) 1 1)) 25)).low fun g _=>rfl
   have hK6:=((hK.alloc (.cells (nQ k5 a5 b5 n5 ao5 t5 cap5) 25)).alloc (.cells (nD 19 (x4:Int) ⟨#[]⟩ 0 (.slice (some ⟨w15.heap.size,0,none⟩) 1 1)) 25)).drew
   have qn6:=qn.on fun _ _ _ o=>((o.alloc (.cells (nQ k5 a5 b5 n5 ao5 t5 cap5) 25)).alloc (.cells (nD 19 (x4:Int) ⟨#[]⟩ 0 (.slice (some ⟨w15.heap.size,0,none⟩) 1 1)) 25)).drew
   have q196:=q19.on fun _ _ _ o=>(o.alloc (.cells (nD 19 (x4:Int) ⟨#[]⟩ 0 (.slice (some ⟨w15.heap.size,0,none⟩) 1 1)) 25)).drew
   have on6:=on19.drew
   clear q19 on19 qk
   go_region_law (first | (refine fG (by rfl) 89 (.tmp 67) 23 (by rfl) hfx _ (by rfl) (dE _ _ _ _) ?_; rintro en wz ⟨rfl,rfl⟩; refine ⟨_,rfl,?_⟩) | (refine mB0 (by rfl) (.tmp 64) (.tmp 70) (by rfl) (fun g=>(w2.heap.size < g∧g ≠ w5.heap.size)∧g < wO.heap.size) (fun g=>w13.heap.size≤g∧g ≠ w5.heap.size) (fun g=>w2.heap.size < g∧g ≠ w5.heap.size) _ acc' (by rfl) qn6 ⟨19,(x4:Int),[],0,[t5]⟩ 19 (x4:Int) ⟨#[]⟩ 0 _ (w15.heap.size + 1) (by rfl) on6 q196 (fun g h1 h2=>by omega) (fun g h0 h1=>⟨by omega,by omega⟩) (fun g h0 h1=>⟨by omega,by omega⟩) (by simp only [World.size_alloc,World.size_drew]; exact ⟨by omega,by omega⟩) (by omega) ?_; intro aoD capD wU hrowU gzU hvbU; have oN8:=oN6.grown gzU (fun e=>by have:=(hvbU _ e.symm).1; omega); obtain ⟨p0,p1,p2,p3,p4,pf⟩:=oN8.five; have pl8:=oN8.lt))
   all_goals (
    have hll9:(acc' ++ [(⟨19,(x4:Int),[],0,[t5]⟩:Tree)]).length = acc'.length + 1:=by simp
    rw [hll9] at hrowU
    have hsU:=gzU.size
    simp only [World.size_alloc,World.size_drew] at hsU
    go_wp2_with fail
    go_meet
    exact ⟨rfl,aoD,capD,oN8.set 4 _,(oR6.grown gzU (fun e=>by have:=(hvbU _ e.symm).1; omega)).other (by omega) _,(hrowU.on fun _ _ _ o=>o.other (by omega) _).imp fun g _ h=>h.1,(hR6.grown gzU (fun k hk=>by have:=(hvbU k hk).1; omega)).set (by omega) 4 _,(hK6.grown gzU (fun k hk=>by have:=(hvbU k hk).1; omega)).set (.inl (by omega)) 4 _,by rw [World.size_setCell]; omega⟩)
  clear hR hK oR oN oX qn q5
  obtain ⟨rfl,aoD,capD,oN,oR,qn,hR,hK,hs56⟩:=hcut
  generalize wc = w56 at oN oR qn hR hK hs56 ⊢
  obtain ⟨qz,hqz⟩:=iQ (aR [125] (nxt E sz5))
  have hen:=vY (x:=[125]) HZ5.out (fun c r h=>by cases h; rfl) (hR.nxt_wf 0)
  rw [hqz,← HS9.out] at hen
  have HEN:=hI hen
  clear hen
  go_wp2_with fail
  refine (kI hR ⟨#[125]⟩ qz hqz).mono ?_
  rintro en w57 ⟨⟨_,rfl⟩,hR2,hK2⟩
  rw [HEN.out] at hR2
  have hs57:=hK2.size
  replace oN:=oN.kp hK2 (by omega)
  replace oR:=oR.kp hK2 (by omega)
  replace qn:=qn.on fun _ _ _ o=>o.kp hK2 (by omega)
  replace hK:=hK.trans hK2
  replace hR:=hR2
  clear hK2 hR2 hqz
  obtain ⟨oN0,oN1,oN2,oN3,oN4,oNf⟩:=oN.five
  have oNl:=oN.lt
  go_wp2_with (refine aF rfl (.tmp 4) (.tmp 75) rfl rfl (w.heap.size) rfl rfl oR ⟨rfl,rfl,rfl,rfl,rfl⟩ ?_; intro wz oz gz)
  refine aC (t:=25) rfl rfl rfl oz Tryz.underlying25 rfl (by kernel_rfl) ?_
  refine ⟨⟨17,(x:Int),label,0,acc' ++ [⟨19,(x4:Int),[],0,[t5]⟩]⟩,_,_,_,_,_,rfl,⟨rfl,rfl,rfl,rfl,bK.row ((qn.on fun _ _ _ o=>o.grown gz (aG (by omega))).imp fun g _ h=>by omega)⟩,fun h0=>?_,hR.grown gz (aH (by omega)),hK.grown gz (aI (by omega))⟩
  have h1:=HMO9.out h0
  have h2:=HMOC.out h1
  rw [← HT'.out,← HE2.out,HACC.out h2,HE1.out,HT5.out h1,HX4.out HLV.out,HX.out HW0.out]
end Go.Proofs.YtnipenijihkgdaaGreatDoor
