import Derived.Test.YtnipenijihkgdaaGreatDoorNd
import Derived.Test.YtnipenijihkgdaaGreatDoorZSimple
import Derived.Test.YtnipenijihkgdaaGreatDoorQ38
import Derived.Test.YtnipenijihkgdaaGreatDoorQ39
import Derived.Deep.DeepCutAuto
import Derived.Deep.CutBlock
set_option maxHeartbeats 6000000
set_option maxRecDepth 100000
namespace Go.Proofs.YtnipenijihkgdaaGreatDoor
open Go.RowKit
set_option linter.unusedVariables false
theorem aD0 {E d:Nat} {s s':St} {t:Tree} (h:wI E d s = some (t,s')):t = ⟨24,((nxt E s).2.2.2.1:Nat),[],0,[]⟩:=by cases h; rfl
def tJ0 (w:World) (r E d lo iX:Nat) (t:Tree) (s':St) (wx:World):Prop:=∃ (t1:Tree) (k1 a1:Int) (b1:ByteArray) (n1:Int) (ao1:Option Addr) (cap1:Nat),Own wx iX (nQ k1 a1 b1 n1 ao1 t1 cap1) 25∧aZ wx (fun g=>lo≤g∧g ≠ iX) t1 k1 a1 b1 n1 (.slice ao1 t1.kids.length cap1)∧(s'.wrong = 0→t1 = t)∧ZAt wx r E d s'∧Kp r w wx
theorem eI0 {expr:P Tree} {stmts:P (List Tree)} (HP:cY 40 expr) (hbs:Bs expr 0) (hds:Ds expr) (f:Nat) (hf:f≤100000000) (HB:cY 122 (cN stmts)) (hbb:Bs (cN stmts) 0):∀ (w:World) (r E d:Nat) (s:St) (label:List Nat) (t:Tree) (s':St),ZAt w r E d s→wd [102,111,114] (nxt E s) = true→E≤1048576→hM0 f label expr stmts E d s = some (t,s') →
    Calls Tryz.prog 193 #[.pointer (some ⟨r,0,none⟩),.string (bJ label)] w (pC w r E d t s'):=by
 intro w r E d s label t s' hR hfor hE hm
 have hrl:=hR.lt
 have hK:=Kp.refl r w
 have hqv:=hR.wordq (x:=[102,111,114]) (by decide) hfor
 have HW0:Hid (s.wrong = 0):=hR.live (bR hfor)
 unfold hM0 at hm
 obtain ⟨tk,s1,g1,g2⟩:=aE hm
 obtain ⟨rfl,rfl⟩:=aV g1
 obtain ⟨l,s9,g3,g4⟩:=aE g2
 obtain ⟨hT,rfl⟩:=aJ g4
 unfold jV at g3
 obtain ⟨xA,sA,e1,g5⟩:=aE g3
 obtain ⟨tk1,sB,e2,g6⟩:=aE g5
 obtain ⟨xC,sC,e3,g7⟩:=aE g6
 obtain ⟨tk2,sD,e4,g8⟩:=aE g7
 obtain ⟨xF,sF,e5,g9⟩:=aE g8
 obtain ⟨kk,sG,e6,g10⟩:=aE g9
 obtain ⟨hl,rfl⟩:=aJ g10
 have HA:=hI e1
 have HNB:=hI e2
 have HC:=hI e3
 have HND:=hI e4
 have HF:=hI e5
 have HG:=hI e6
 have HMF:Hid (sG.wrong = 0→sF.wrong = 0):=bP hbb e6
 have HMD:Hid (sF.wrong = 0→sD.wrong = 0):=bP (xS ((sK hbs f).le (Nat.zero_le 1))) e5
 have HMB:Hid (sC.wrong = 0→sB.wrong = 0):=bP (xS hbs) e3
 have HT':Hid (⟨16,((nxt E s).2.2.2.1:Nat),label,0,[xA,xC,xF,kk]⟩ = t):=by rw [hl]; exact hT
 clear hm g1 g2 g3 g4 g5 g6 g7 g8 g9 g10 e1 e2 e3 e4 e5 e6 hT hl hfor
 go_enter Tryz.func193,Tryz.ntmps193
 go_upto_region 1 with fail
 have oR:=Own.new w nZ 25
 replace hR:=hR.alloc (.cells nZ 25)
 replace hK:=hK.alloc (.cells nZ 25)
 generalize w.alloc _ = w1 at hR hK oR ⊢
 have hs1:=oR.lt
 go_wp2_with fail
 refine (bU hR).mono ?_
 rintro en w2 ⟨⟨x,rfl,hx⟩,hb⟩
 have HX:=hI hx
 clear hx
 have hs2:=hb.size
 replace hR:=hR.below hb
 replace hK:=hK.trans (Kp.of hb)
 replace oR:=oR.below hb
 clear hb
 go_upto_region 2 with fail
 have oN:=Own.new w2 (nL 16 (x:Int) (bJ label) 0) 25
 obtain ⟨hR,hK,oR⟩:=(fun y9=>And.intro (hR.alloc y9) (And.intro (hK.alloc y9) (oR.alloc y9))) (.cells (nL 16 (x:Int) (bJ label) 0) 25)
 generalize w2.alloc _ = w3 at hR hK oR oN ⊢
 have hs3:=oN.lt
 go_wp2_with fail
 refine (cQ hR ⟨#[102,111,114]⟩ true hqv).mono ?_
 rintro en w4 ⟨⟨_,rfl⟩,hR2,hK2⟩
 rw [if_pos rfl] at hR2
 have hs4:=hK2.size
 replace oR:=oR.kp hK2 (by omega)
 replace oN:=oN.kp hK2 (by omega)
 replace hK:=hK.trans hK2
 replace hR:=hR2
 clear hK2 hR2 hqv
 have HN1:Hid (wI E d (aS s) = some ((⟨24,((nxt E (aS s)).2.2.2.1:Nat),[],0,[]⟩:Tree),(aS s))):=rfl
 go_wp2_with fail
 refine (vE _ r E d (aS s) _ (aS s) hR hE HN1.out).mono ?_
 rintro en w5 ⟨t1,k1,a1,b1,n1,v1,rfl,hN1,ht1,hR2,hK2⟩
 obtain ⟨ao1,cap1,rfl⟩:=Row.shape hN1.2.2.2.2
 have q1:aZ w5 (fun g=>w4.heap.size≤g∧g < w5.heap.size) t1 k1 a1 b1 n1 (.slice ao1 t1.kids.length cap1):=hN1.q.imp fun g h1 h2=>⟨h2,h1⟩
 have HT1:=hI ht1
 clear hN1 ht1
 have hs5:=hK2.size
 replace oR:=oR.kp hK2 (by omega)
 replace oN:=oN.kp hK2 (by omega)
 replace hK:=hK.trans hK2
 replace hR:=hR2
 clear hK2 hR2
 go_upto_block 0 with fail
 have oX1:=Own.new w5 (nQ k1 a1 b1 n1 ao1 t1 cap1) 25
 obtain ⟨hR,hK,oR,oN,q1⟩:=(fun y9=>And.intro (hR.alloc y9) (And.intro (hK.alloc y9) (And.intro (oR.alloc y9) (And.intro (oN.alloc y9) (q1.on fun _ _ _ h=>h.alloc y9))))) (.cells (nQ k1 a1 b1 n1 ao1 t1 cap1) 25)
 generalize w5.alloc _ = w6 at hR hK oR oN oX1 q1 ⊢
 have hs6:=oX1.lt
 go_cut [6] (fun v wx=>v = .pointer (some ⟨w5.heap.size,0,none⟩)∧tJ0 w r E d (w4.heap.size) (w5.heap.size) xA sA wx∧Own wx (w.heap.size) nZ 25∧Own wx (w2.heap.size) (nL 16 (x:Int) (bJ label) 0) 25∧w6.heap.size≤wx.heap.size)
 case first =>
  obtain ⟨qv,hqv⟩:=iQ (aR [118,97,114] (nxt E (aS s)))
  have hqvm:wd [118,97,114] (nxt E (aS s)) = qv:=by rw [← hqv]; exact (cG (hR.nxt_wf 0) (by decide)).symm
  go_wp2_with fail
  refine (bG hR ⟨#[118,97,114]⟩ qv hqv).mono ?_
  rintro en w7 ⟨rfl,hb⟩
  have hs7:=hb.size
  replace hR:=hR.below hb
  replace hK:=hK.trans (Kp.of hb)
  replace oR:=oR.below hb
  replace oN:=oN.below hb
  replace oX1:=oX1.below hb
  replace q1:=q1.on fun _ _ _ o=>o.below hb
  clear hb
  cases qv with
  | true =>
   obtain ⟨_,hv⟩:=(iV (q:=false) HA.out (by rw [sZ (fW hqvm).1])).resolve_left fun h=>absurd h.1 (by simp)
   rw [iI0 hqvm] at hv
   have HV:=hI hv
   clear hv HA hqv q1
   go_wp2_with fail
   refine (xB HP hbs f hf _ r E d (aS s) xA sA hR hqvm hE HV.out).mono ?_
   rintro en w8 ⟨t5,k5,a5,b5,n5,v5,rfl,hN1,ht1,hR2,hK2⟩
   obtain ⟨ao5,cap5,rfl⟩:=Row.shape hN1.2.2.2.2
   have q5:aZ w8 (fun g=>w7.heap.size≤g∧g < w8.heap.size) t5 k5 a5 b5 n5 (.slice ao5 t5.kids.length cap5):=hN1.q.imp fun g h1 h2=>⟨h2,h1⟩
   have HT5:=hI ht1
   clear hN1 ht1
   have hs8:=hK2.size
   replace oR:=oR.kp hK2 (by omega)
   replace oN:=oN.kp hK2 (by omega)
   replace oX1:=oX1.kp hK2 (by omega)
   replace hK:=hK.trans hK2
   replace hR:=hR2
   clear hK2 hR2
   go_wp2_with (refine aF rfl (.tmp 6) (.tmp 22) rfl rfl (w5.heap.size) rfl rfl oX1 ⟨rfl,rfl,rfl,rfl,rfl⟩ ?_; intro w9 oV gzV)
   have hs9:=gzV.size
   replace hR:=hR.grown gzV (aH (by omega))
   replace hK:=hK.grown gzV (aI (by omega))
   replace oR:=oR.grown gzV (aG (by omega))
   replace oN:=oN.grown gzV (aG (by omega))
   replace q5:=q5.on fun _ _ _ o=>o.grown gzV (aG (by omega))
   go_meet
   exact ⟨rfl,⟨t5,_,_,_,_,_,_,oV,q5.imp fun g h1 h2=>⟨by omega,by omega⟩,HT5.out,hR,hK⟩,oR,oN,by omega⟩
  | false=>?_
  obtain ⟨qs,hqs⟩:=iQ (aR [59] (nxt E (aS s)))
  have hqsm:sg [59] (nxt E (aS s)) = qs:=by rw [← hqs]; exact (aX (hR.nxt_wf 0) (fun c r h=>by cases h; rfl)).symm
  go_wp2_with fail
  refine (bG hR ⟨#[59]⟩ qs hqs).mono ?_
  rintro en w8 ⟨rfl,hb⟩
  have hs8:=hb.size
  replace hR:=hR.below hb
  replace hK:=hK.trans (Kp.of hb)
  replace oR:=oR.below hb
  replace oN:=oN.below hb
  replace oX1:=oX1.below hb
  replace q1:=q1.on fun _ _ _ o=>o.below hb
  clear hb
  cases qs with
  | true =>
   obtain ⟨_,hn,hS⟩:=(iV HA.out hqsm).resolve_right fun h=>absurd h.1 (by simp)
   have hT1:xA = ⟨24,((nxt E (aS s)).2.2.2.1:Nat),[],0,[]⟩:=aD0 hn
   have HT9:Hid (sA.wrong = 0→t1 = xA):=fun h0=>by rw [hT1]; rw [hS] at h0; exact HT1.out h0
   replace hR:ZAt w8 r E d sA:=by rw [hS]; exact hR
   clear hn hS hT1 hqs hqsm hqv hqvm HA
   go_wp2_with fail
   go_meet
   exact ⟨rfl,⟨t1,_,_,_,_,_,_,oX1,q1.imp fun g h1 h2=>⟨by omega,by omega⟩,HT9.out,hR,hK⟩,oR,oN,by omega⟩
  | false=>?_
  obtain ⟨_,hv⟩:=(iV HA.out hqsm).resolve_left fun h=>absurd h.1 (by simp)
  rw [vQ hqvm] at hv
  have HV:=hI hv
  clear hv HA hqv hqvm hqs hqsm q1
  go_wp2_with fail
  refine (kL HP hbs hds f hf _ r E d (aS s) xA sA hR hE HV.out).mono ?_
  rintro en w9 ⟨t5,k5,a5,b5,n5,v5,rfl,hN1,ht1,hR2,hK2⟩
  obtain ⟨ao5,cap5,rfl⟩:=Row.shape hN1.2.2.2.2
  have q5:aZ w9 (fun g=>w8.heap.size≤g∧g < w9.heap.size) t5 k5 a5 b5 n5 (.slice ao5 t5.kids.length cap5):=hN1.q.imp fun g h1 h2=>⟨h2,h1⟩
  have HT5:=hI ht1
  clear hN1 ht1
  have hs9:=hK2.size
  replace oR:=oR.kp hK2 (by omega)
  replace oN:=oN.kp hK2 (by omega)
  replace oX1:=oX1.kp hK2 (by omega)
  replace hK:=hK.trans hK2
  replace hR:=hR2
  clear hK2 hR2
  go_wp2_with (refine aF rfl (.tmp 6) (.tmp 28) rfl rfl (w5.heap.size) rfl rfl oX1 ⟨rfl,rfl,rfl,rfl,rfl⟩ ?_; intro w10 oV gzV)
  have hs10:=gzV.size
  replace hR:=hR.grown gzV (aH (by omega))
  replace hK:=hK.grown gzV (aI (by omega))
  replace oR:=oR.grown gzV (aG (by omega))
  replace oN:=oN.grown gzV (aG (by omega))
  replace q5:=q5.on fun _ _ _ o=>o.grown gzV (aG (by omega))
  go_meet
  exact ⟨rfl,⟨t5,_,_,_,_,_,_,oV,q5.imp fun g h1 h2=>⟨by omega,by omega⟩,HT5.out,hR,hK⟩,oR,oN,by omega⟩
 clear hR hK oX1 q1 oR oN
 obtain ⟨rfl,⟨t1,k1,a1,b1,n1,ao1,cap1,oX1,q1,ht1,hR,hK⟩,oR,oN,hs17⟩:=hcut
 have HTx1:=hI ht1
 clear ht1
 generalize wc = w17 at hR hK oX1 q1 hs17 oR oN ⊢
 have hsq1:=oX1.lt
 replace q1:aZ w17 (fun g=>(w4.heap.size≤g∧g ≠ w5.heap.size)∧g < w17.heap.size) t1 k1 a1 b1 n1 (.slice ao1 t1.kids.length cap1):=q1.imp fun g h1 h2=>⟨h2,h1⟩
 obtain ⟨q1b,hq1b⟩:=iQ (aR [59] (nxt E sA))
 have hq1bm:sg [59] (nxt E sA) = q1b:=by rw [← hq1b]; exact (aX (hR.nxt_wf 0) (fun c r h=>by cases h; rfl)).symm
 obtain ⟨hs_q1b,ht_q1b⟩:=fR HNB.out hq1bm
 have HS_q1b:=hI hs_q1b
 have HM_q1b:Hid (sB.wrong = 0→sA.wrong = 0):=fun h0=>(ht_q1b h0).1
 clear hs_q1b ht_q1b hq1bm
 go_wp2_with fail
 refine (cQ hR ⟨#[59]⟩ q1b hq1b).mono ?_
 rintro en w18 ⟨⟨_,rfl⟩,hR2,hK2⟩
 rw [HS_q1b.out] at hR2
 have hs18:=hK2.size
 replace oX1:=oX1.kp hK2 (by omega)
 replace oR:=oR.kp hK2 (by omega)
 replace oN:=oN.kp hK2 (by omega)
 replace q1:=q1.on fun _ _ _ o=>o.kp hK2 (by omega)
 replace hK:=hK.trans hK2
 replace hR:=hR2
 clear hK2 hR2 hq1b
 have HN2:Hid (wI E d sB = some ((⟨24,((nxt E sB).2.2.2.1:Nat),[],0,[]⟩:Tree),sB)):=rfl
 go_wp2_with fail
 refine (vE _ r E d sB _ sB hR hE HN2.out).mono ?_
 rintro en w19 ⟨t2,k2,a2,b2,n2,v2,rfl,hN1,ht1,hR2,hK2⟩
 obtain ⟨ao2,cap2,rfl⟩:=Row.shape hN1.2.2.2.2
 have q2:aZ w19 (fun g=>w18.heap.size≤g∧g < w19.heap.size) t2 k2 a2 b2 n2 (.slice ao2 t2.kids.length cap2):=hN1.q.imp fun g h1 h2=>⟨h2,h1⟩
 have HT2:=hI ht1
 clear hN1 ht1
 have hs19:=hK2.size
 replace oX1:=oX1.kp hK2 (by omega)
 replace oR:=oR.kp hK2 (by omega)
 replace oN:=oN.kp hK2 (by omega)
 replace q1:=q1.on fun _ _ _ o=>o.kp hK2 (by omega)
 replace hK:=hK.trans hK2
 replace hR:=hR2
 clear hK2 hR2
 go_upto_region 10 with fail
 have oX2:=Own.new w19 (nQ k2 a2 b2 n2 ao2 t2 cap2) 25
 obtain ⟨hR,hK,oX1,oR,oN,q1,q2⟩:=(fun y9=>And.intro (hR.alloc y9) (And.intro (hK.alloc y9) (And.intro (oX1.alloc y9) (And.intro (oR.alloc y9) (And.intro (oN.alloc y9) (And.intro (q1.on fun _ _ _ h=>h.alloc y9) (q2.on fun _ _ _ h=>h.alloc y9))))))) (.cells (nQ k2 a2 b2 n2 ao2 t2 cap2) 25)
 generalize w19.alloc _ = w20 at hR hK oX1 oR oN oX2 q1 q2 ⊢
 have hs20:=oX2.lt
 obtain ⟨qs2,hqs2⟩:=iQ (aR [59] (nxt E sB))
 have hqs2m:sg [59] (nxt E sB) = qs2:=by rw [← hqs2]; exact (aX (hR.nxt_wf 0) (fun c r h=>by cases h; rfl)).symm
 go_wp2_with fail
 refine (bG hR ⟨#[59]⟩ qs2 hqs2).mono ?_
 rintro en w21 ⟨rfl,hb⟩
 have hs21:=hb.size
 replace hR:=hR.below hb
 replace hK:=hK.trans (Kp.of hb)
 replace oX1:=oX1.below hb
 replace oR:=oR.below hb
 replace oN:=oN.below hb
 replace oX2:=oX2.below hb
 replace q1:=q1.on fun _ _ _ o=>o.below hb
 replace q2:=q2.on fun _ _ _ o=>o.below hb
 clear hb
 go_upto_if 35 with fail
 go_cut [7] (fun v wx=>v = .pointer (some ⟨w19.heap.size,0,none⟩)∧tJ0 w r E d (w18.heap.size) (w19.heap.size) xC sC wx∧Own wx (w5.heap.size) (nQ k1 a1 b1 n1 ao1 t1 cap1) 25∧Own wx (w.heap.size) nZ 25∧Own wx (w2.heap.size) (nL 16 (x:Int) (bJ label) 0) 25∧aZ wx (fun g=>(w4.heap.size≤g∧g ≠ w5.heap.size)∧g < w17.heap.size) t1 k1 a1 b1 n1 (.slice ao1 t1.kids.length cap1)∧w21.heap.size≤wx.heap.size)
 case first =>
  cases qs2 with
  | true =>
   obtain ⟨_,hn,hS⟩:=(iV HC.out hqs2m).resolve_right fun h=>absurd h.1 (by simp)
   have hT1:xC = ⟨24,((nxt E sB).2.2.2.1:Nat),[],0,[]⟩:=aD0 hn
   have HT9:Hid (sC.wrong = 0→t2 = xC):=fun h0=>by rw [hT1]; rw [hS] at h0; exact HT2.out h0
   replace hR:ZAt w21 r E d sC:=by rw [hS]; exact hR
   clear hn hS hT1 hqs2 hqs2m HC
   go_wp2_with fail
   go_meet
   exact ⟨rfl,⟨t2,_,_,_,_,_,_,oX2,q2.imp fun g h1 h2=>⟨by omega,by omega⟩,HT9.out,hR,hK⟩,oX1,oR,oN,q1,by omega⟩
  | false=>?_
  obtain ⟨_,hv⟩:=(iV HC.out hqs2m).resolve_left fun h=>absurd h.1 (by simp)
  have HV:=hI hv
  clear hv HC hqs2 hqs2m q2
  go_wp2_with fail
  refine (HP _ r E d sB xC sC hR hE HV.out).mono ?_
  rintro en w22 ⟨t5,k5,a5,b5,n5,v5,rfl,hN1,ht1,hR2,hK2⟩
  obtain ⟨ao5,cap5,rfl⟩:=Row.shape hN1.2.2.2.2
  have q5:aZ w22 (fun g=>w21.heap.size≤g∧g < w22.heap.size) t5 k5 a5 b5 n5 (.slice ao5 t5.kids.length cap5):=hN1.q.imp fun g h1 h2=>⟨h2,h1⟩
  have HT5:=hI ht1
  clear hN1 ht1
  have hs22:=hK2.size
  replace oX1:=oX1.kp hK2 (by omega)
  replace oR:=oR.kp hK2 (by omega)
  replace oN:=oN.kp hK2 (by omega)
  replace oX2:=oX2.kp hK2 (by omega)
  replace q1:=q1.on fun _ _ _ o=>o.kp hK2 (by omega)
  replace hK:=hK.trans hK2
  replace hR:=hR2
  clear hK2 hR2
  go_wp2_with (refine aF rfl (.tmp 7) (.tmp 37) rfl rfl (w19.heap.size) rfl rfl oX2 ⟨rfl,rfl,rfl,rfl,rfl⟩ ?_; intro w23 oV gzV)
  have hs23:=gzV.size
  replace hR:=hR.grown gzV (aH (by omega))
  replace hK:=hK.grown gzV (aI (by omega))
  replace oX1:=oX1.grown gzV (aG (by omega))
  replace oR:=oR.grown gzV (aG (by omega))
  replace oN:=oN.grown gzV (aG (by omega))
  replace q1:=q1.on fun _ _ _ o=>o.grown gzV (aG (by omega))
  replace q5:=q5.on fun _ _ _ o=>o.grown gzV (aG (by omega))
  go_meet
  exact ⟨rfl,⟨t5,_,_,_,_,_,_,oV,q5.imp fun g h1 h2=>⟨by omega,by omega⟩,HT5.out,hR,hK⟩,oX1,oR,oN,q1,by omega⟩
 clear hR hK oX2 q2 oX1 oR oN q1
 obtain ⟨rfl,⟨t2,k2,a2,b2,n2,ao2,cap2,oX2,q2,ht2,hR,hK⟩,oX1,oR,oN,q1,hs32⟩:=hcut
 have HTx2:=hI ht2
 clear ht2
 generalize wc = w32 at hR hK oX2 q2 hs32 oX1 oR oN q1 ⊢
 have hsq2:=oX2.lt
 replace q2:aZ w32 (fun g=>(w18.heap.size≤g∧g ≠ w19.heap.size)∧g < w32.heap.size) t2 k2 a2 b2 n2 (.slice ao2 t2.kids.length cap2):=q2.imp fun g h1 h2=>⟨h2,h1⟩
 obtain ⟨q2b,hq2b⟩:=iQ (aR [59] (nxt E sC))
 have hq2bm:sg [59] (nxt E sC) = q2b:=by rw [← hq2b]; exact (aX (hR.nxt_wf 0) (fun c r h=>by cases h; rfl)).symm
 obtain ⟨hs_q2b,ht_q2b⟩:=fR HND.out hq2bm
 have HS_q2b:=hI hs_q2b
 have HM_q2b:Hid (sD.wrong = 0→sC.wrong = 0):=fun h0=>(ht_q2b h0).1
 clear hs_q2b ht_q2b hq2bm
 go_wp2_with fail
 refine (cQ hR ⟨#[59]⟩ q2b hq2b).mono ?_
 rintro en w33 ⟨⟨_,rfl⟩,hR2,hK2⟩
 rw [HS_q2b.out] at hR2
 have hs33:=hK2.size
 replace oX2:=oX2.kp hK2 (by omega)
 replace oX1:=oX1.kp hK2 (by omega)
 replace oR:=oR.kp hK2 (by omega)
 replace oN:=oN.kp hK2 (by omega)
 replace q1:=q1.on fun _ _ _ o=>o.kp hK2 (by omega)
 replace q2:=q2.on fun _ _ _ o=>o.kp hK2 (by omega)
 replace hK:=hK.trans hK2
 replace hR:=hR2
 clear hK2 hR2 hq2b
 have HN3:Hid (wI E d sD = some ((⟨24,((nxt E sD).2.2.2.1:Nat),[],0,[]⟩:Tree),sD)):=rfl
 go_wp2_with fail
 refine (vE _ r E d sD _ sD hR hE HN3.out).mono ?_
 rintro en w34 ⟨t3,k3,a3,b3,n3,v3,rfl,hN1,ht1,hR2,hK2⟩
 obtain ⟨ao3,cap3,rfl⟩:=Row.shape hN1.2.2.2.2
 have q3:aZ w34 (fun g=>w33.heap.size≤g∧g < w34.heap.size) t3 k3 a3 b3 n3 (.slice ao3 t3.kids.length cap3):=hN1.q.imp fun g h1 h2=>⟨h2,h1⟩
 have HT3:=hI ht1
 clear hN1 ht1
 have hs34:=hK2.size
 replace oX2:=oX2.kp hK2 (by omega)
 replace oX1:=oX1.kp hK2 (by omega)
 replace oR:=oR.kp hK2 (by omega)
 replace oN:=oN.kp hK2 (by omega)
 replace q1:=q1.on fun _ _ _ o=>o.kp hK2 (by omega)
 replace q2:=q2.on fun _ _ _ o=>o.kp hK2 (by omega)
 replace hK:=hK.trans hK2
 replace hR:=hR2
 clear hK2 hR2
 go_upto_region 14 with fail
 have oX3:=Own.new w34 (nQ k3 a3 b3 n3 ao3 t3 cap3) 25
 obtain ⟨hR,hK,oX2,oX1,oR,oN,q1,q2,q3⟩:=(fun y9=>And.intro (hR.alloc y9) (And.intro (hK.alloc y9) (And.intro (oX2.alloc y9) (And.intro (oX1.alloc y9) (And.intro (oR.alloc y9) (And.intro (oN.alloc y9) (And.intro (q1.on fun _ _ _ h=>h.alloc y9) (And.intro (q2.on fun _ _ _ h=>h.alloc y9) (q3.on fun _ _ _ h=>h.alloc y9))))))))) (.cells (nQ k3 a3 b3 n3 ao3 t3 cap3) 25)
 generalize w34.alloc _ = w35 at hR hK oX2 oX1 oR oN oX3 q1 q2 q3 ⊢
 have hs35:=oX3.lt
 obtain ⟨qs3,hqs3⟩:=iQ (aR [123] (nxt E sD))
 have hqs3m:sg [123] (nxt E sD) = qs3:=by rw [← hqs3]; exact (aX (hR.nxt_wf 0) (fun c r h=>by cases h; rfl)).symm
 go_wp2_with fail
 refine (bG hR ⟨#[123]⟩ qs3 hqs3).mono ?_
 rintro en w36 ⟨rfl,hb⟩
 have hs36:=hb.size
 replace hR:=hR.below hb
 replace hK:=hK.trans (Kp.of hb)
 replace oX2:=oX2.below hb
 replace oX1:=oX1.below hb
 replace oR:=oR.below hb
 replace oN:=oN.below hb
 replace oX3:=oX3.below hb
 replace q1:=q1.on fun _ _ _ o=>o.below hb
 replace q2:=q2.on fun _ _ _ o=>o.below hb
 replace q3:=q3.on fun _ _ _ o=>o.below hb
 clear hb
 go_upto_if 44 with fail
 go_cut [8] (fun v wx=>v = .pointer (some ⟨w34.heap.size,0,none⟩)∧tJ0 w r E d (w33.heap.size) (w34.heap.size) xF sF wx∧Own wx (w19.heap.size) (nQ k2 a2 b2 n2 ao2 t2 cap2) 25∧Own wx (w5.heap.size) (nQ k1 a1 b1 n1 ao1 t1 cap1) 25∧Own wx (w.heap.size) nZ 25∧Own wx (w2.heap.size) (nL 16 (x:Int) (bJ label) 0) 25∧aZ wx (fun g=>(w4.heap.size≤g∧g ≠ w5.heap.size)∧g < w17.heap.size) t1 k1 a1 b1 n1 (.slice ao1 t1.kids.length cap1)∧aZ wx (fun g=>(w18.heap.size≤g∧g ≠ w19.heap.size)∧g < w32.heap.size) t2 k2 a2 b2 n2 (.slice ao2 t2.kids.length cap2)∧w36.heap.size≤wx.heap.size)
 case first =>
  cases qs3 with
  | true =>
   obtain ⟨_,hn,hS⟩:=(iV HF.out hqs3m).resolve_right fun h=>absurd h.1 (by simp)
   have hT1:xF = ⟨24,((nxt E sD).2.2.2.1:Nat),[],0,[]⟩:=aD0 hn
   have HT9:Hid (sF.wrong = 0→t3 = xF):=fun h0=>by rw [hT1]; rw [hS] at h0; exact HT3.out h0
   replace hR:ZAt w36 r E d sF:=by rw [hS]; exact hR
   clear hn hS hT1 hqs3 hqs3m HF
   go_wp2_with fail
   go_meet
   exact ⟨rfl,⟨t3,_,_,_,_,_,_,oX3,q3.imp fun g h1 h2=>⟨by omega,by omega⟩,HT9.out,hR,hK⟩,oX2,oX1,oR,oN,q1,q2,by omega⟩
  | false=>?_
  obtain ⟨_,hv⟩:=(iV HF.out hqs3m).resolve_left fun h=>absurd h.1 (by simp)
  have HV:=hI hv
  clear hv HF hqs3 hqs3m q3
  go_wp2_with fail
  refine (kL HP hbs hds f hf _ r E d sD xF sF hR hE HV.out).mono ?_
  rintro en w37 ⟨t5,k5,a5,b5,n5,v5,rfl,hN1,ht1,hR2,hK2⟩
  obtain ⟨ao5,cap5,rfl⟩:=Row.shape hN1.2.2.2.2
  have q5:aZ w37 (fun g=>w36.heap.size≤g∧g < w37.heap.size) t5 k5 a5 b5 n5 (.slice ao5 t5.kids.length cap5):=hN1.q.imp fun g h1 h2=>⟨h2,h1⟩
  have HT5:=hI ht1
  clear hN1 ht1
  have hs37:=hK2.size
  replace oX2:=oX2.kp hK2 (by omega)
  replace oX1:=oX1.kp hK2 (by omega)
  replace oR:=oR.kp hK2 (by omega)
  replace oN:=oN.kp hK2 (by omega)
  replace oX3:=oX3.kp hK2 (by omega)
  replace q1:=q1.on fun _ _ _ o=>o.kp hK2 (by omega)
  replace q2:=q2.on fun _ _ _ o=>o.kp hK2 (by omega)
  replace hK:=hK.trans hK2
  replace hR:=hR2
  clear hK2 hR2
  go_wp2_with (refine aF rfl (.tmp 8) (.tmp 46) rfl rfl (w34.heap.size) rfl rfl oX3 ⟨rfl,rfl,rfl,rfl,rfl⟩ ?_; intro w38 oV gzV)
  have hs38:=gzV.size
  replace hR:=hR.grown gzV (aH (by omega))
  replace hK:=hK.grown gzV (aI (by omega))
  replace oX2:=oX2.grown gzV (aG (by omega))
  replace oX1:=oX1.grown gzV (aG (by omega))
  replace oR:=oR.grown gzV (aG (by omega))
  replace oN:=oN.grown gzV (aG (by omega))
  replace q1:=q1.on fun _ _ _ o=>o.grown gzV (aG (by omega))
  replace q2:=q2.on fun _ _ _ o=>o.grown gzV (aG (by omega))
  replace q5:=q5.on fun _ _ _ o=>o.grown gzV (aG (by omega))
  go_meet
  exact ⟨rfl,⟨t5,_,_,_,_,_,_,oV,q5.imp fun g h1 h2=>⟨by omega,by omega⟩,HT5.out,hR,hK⟩,oX2,oX1,oR,oN,q1,q2,by omega⟩
 clear hR hK oX3 q3 oX2 oX1 oR oN q1 q2
 obtain ⟨rfl,⟨t3,k3,a3,b3,n3,ao3,cap3,oX3,q3,ht3,hR,hK⟩,oX2,oX1,oR,oN,q1,q2,hs47⟩:=hcut
 have HTx3:=hI ht3
 clear ht3
 generalize wc = w47 at hR hK oX3 q3 hs47 oX2 oX1 oR oN q1 q2 ⊢
 have hsq3:=oX3.lt
 replace q3:aZ w47 (fun g=>(w33.heap.size≤g∧g ≠ w34.heap.size)∧g < w47.heap.size) t3 k3 a3 b3 n3 (.slice ao3 t3.kids.length cap3):=q3.imp fun g h1 h2=>⟨h2,h1⟩
 go_wp2_with fail
 refine (HB _ r E d sF kk sG hR hE HG.out).mono ?_
 rintro en w48 ⟨t4,k4,a4,b4,n4,v4,rfl,hN1,ht1,hR2,hK2⟩
 obtain ⟨ao4,cap4,rfl⟩:=Row.shape hN1.2.2.2.2
 have q4:aZ w48 (fun g=>w47.heap.size≤g∧g < w48.heap.size) t4 k4 a4 b4 n4 (.slice ao4 t4.kids.length cap4):=hN1.q.imp fun g h1 h2=>⟨h2,h1⟩
 have HT4:=hI ht1
 clear hN1 ht1
 have hs48:=hK2.size
 replace oX3:=oX3.kp hK2 (by omega)
 replace oX2:=oX2.kp hK2 (by omega)
 replace oX1:=oX1.kp hK2 (by omega)
 replace oR:=oR.kp hK2 (by omega)
 replace oN:=oN.kp hK2 (by omega)
 replace q1:=q1.on fun _ _ _ o=>o.kp hK2 (by omega)
 replace q2:=q2.on fun _ _ _ o=>o.kp hK2 (by omega)
 replace q3:=q3.on fun _ _ _ o=>o.kp hK2 (by omega)
 replace hK:=hK.trans hK2
 replace hR:=hR2
 clear hK2 hR2
 go_upto_region 17 with fail
 have oX4:=Own.new w48 (nQ k4 a4 b4 n4 ao4 t4 cap4) 25
 obtain ⟨hR,hK,oX3,oX2,oX1,oR,oN,q1,q2,q3,q4⟩:=(fun y9=>And.intro (hR.alloc y9) (And.intro (hK.alloc y9) (And.intro (oX3.alloc y9) (And.intro (oX2.alloc y9) (And.intro (oX1.alloc y9) (And.intro (oR.alloc y9) (And.intro (oN.alloc y9) (And.intro (q1.on fun _ _ _ h=>h.alloc y9) (And.intro (q2.on fun _ _ _ h=>h.alloc y9) (And.intro (q3.on fun _ _ _ h=>h.alloc y9) (q4.on fun _ _ _ h=>h.alloc y9))))))))))) (.cells (nQ k4 a4 b4 n4 ao4 t4 cap4) 25)
 generalize w48.alloc _ = w49 at hR hK oX3 oX2 oX1 oR oN oX4 q1 q2 q3 q4 ⊢
 have hs49:=oX4.lt
 obtain ⟨oX10,oX11,oX12,oX13,oX14,oX1f⟩:=oX1.five
 have oX1l:=oX1.lt
 obtain ⟨oX20,oX21,oX22,oX23,oX24,oX2f⟩:=oX2.five
 have oX2l:=oX2.lt
 obtain ⟨oX30,oX31,oX32,oX33,oX34,oX3f⟩:=oX3.five
 have oX3l:=oX3.lt
 obtain ⟨oX40,oX41,oX42,oX43,oX44,oX4f⟩:=oX4.five
 have oX4l:=oX4.lt
 have qk:=bK.four w18.heap.size w33.heap.size w47.heap.size (by omega) (by omega) (q1.imp (Q':=fun g=>(w2.heap.size < g)∧g < w18.heap.size) fun g h1 h2=>⟨by omega,by omega⟩) (q2.imp (Q':=fun g=>(w2.heap.size < g)∧w18.heap.size≤g∧g < w33.heap.size) fun g h1 h2=>⟨by omega,by omega,by omega⟩) (q3.imp (Q':=fun g=>(w2.heap.size < g)∧w33.heap.size≤g∧g < w47.heap.size) fun g h1 h2=>⟨by omega,by omega,by omega⟩) (q4.imp (Q':=fun g=>(w2.heap.size < g)∧w47.heap.size≤g) fun g h1 h2=>⟨by omega,by omega⟩) (show w2.heap.size < w49.heap.size from by omega)
 clear q1 q2 q3 q4
 obtain ⟨hR,hK⟩:=(fun y9=>And.intro (hR.alloc y9) (hK.alloc y9)) (.cells #[.int .u8 k1,.int .i64 a1,.string b1,.int .u64 n1,.slice ao1 t1.kids.length cap1,.int .u8 k2,.int .i64 a2,.string b2,.int .u64 n2,.slice ao2 t2.kids.length cap2,.int .u8 k3,.int .i64 a3,.string b3,.int .u64 n3,.slice ao3 t3.kids.length cap3,.int .u8 k4,.int .i64 a4,.string b4,.int .u64 n4,.slice ao4 t4.kids.length cap4] 25)
 clear oX1 oX2 oX3 oX4
 obtain ⟨oR,oN⟩:=(fun y9=>And.intro (oR.alloc y9) (oN.alloc y9)) (.cells #[.int .u8 k1,.int .i64 a1,.string b1,.int .u64 n1,.slice ao1 t1.kids.length cap1,.int .u8 k2,.int .i64 a2,.string b2,.int .u64 n2,.slice ao2 t2.kids.length cap2,.int .u8 k3,.int .i64 a3,.string b3,.int .u64 n3,.slice ao3 t3.kids.length cap3,.int .u8 k4,.int .i64 a4,.string b4,.int .u64 n4,.slice ao4 t4.kids.length cap4] 25)
 have hsx:w49.heap.size < (w49.alloc (.cells #[.int .u8 k1,.int .i64 a1,.string b1,.int .u64 n1,.slice ao1 t1.kids.length cap1,.int .u8 k2,.int .i64 a2,.string b2,.int .u64 n2,.slice ao2 t2.kids.length cap2,.int .u8 k3,.int .i64 a3,.string b3,.int .u64 n3,.slice ao3 t3.kids.length cap3,.int .u8 k4,.int .i64 a4,.string b4,.int .u64 n4,.slice ao4 t4.kids.length cap4] 25)).heap.size:=by rw [World.size_alloc]; omega
 go_wp2_with fail
 refine (dE _ _ _ _).mono ?_
 rintro en wz ⟨rfl,rfl⟩
 clear oX10 oX11 oX12 oX13 oX14 oX1f oX1l oX20 oX21 oX22 oX23 oX24 oX2f oX2l oX30 oX31 oX32 oX33 oX34 oX3f oX3l oX40 oX41 oX42 oX43 oX44 oX4f oX4l
 generalize w49.alloc _ = w50 at hsx hR hK oR oN qk ⊢
 have hs50:=hsx
 clear hsx
 go_wp2_with (first | (refine aQ rfl (.tmp 55) (.tmp 54) rfl rfl (w2.heap.size) 4 rfl rfl oN (by simp) ?_; intro w51 oV gzV; obtain ⟨oV0,oV1,oV2,oV3,oV4,oVf⟩:=oV.five; have oVl:=oV.lt; have oR9:=oR.grown gzV (aG (by omega))) | (refine aF rfl (.tmp 4) (.tmp 56) rfl rfl (w.heap.size) rfl rfl oR9 ⟨rfl,rfl,rfl,rfl,rfl⟩ ?_; intro wz oz gz))
 have hs51:=gzV.size
 refine aC (t:=25) rfl rfl rfl oz Tryz.underlying25 rfl (by kernel_rfl) ?_
 refine ⟨⟨16,(x:Int),label,0,[t1,t2,t3,t4]⟩,_,_,_,_,_,rfl,⟨rfl,rfl,rfl,rfl,bK.row ((qk.on fun _ _ _ o=>(o.grown gzV (aG (by omega))).grown gz (aG (by omega))).imp fun g _ h=>by omega)⟩,fun h0=>?_,(hR.grown gzV (aH (by omega))).grown gz (aH (by omega)),(hK.grown gzV (aI (by omega))).grown gz (aI (by omega))⟩
 have hF:=HMF.out h0
 have hC:=HM_q2b.out (HMD.out hF)
 have hA:=HM_q1b.out (HMB.out hC)
 rw [← HT'.out,HT4.out h0,HTx3.out hF,HTx2.out hC,HTx1.out hA,HX.out HW0.out]
end Go.Proofs.YtnipenijihkgdaaGreatDoor
