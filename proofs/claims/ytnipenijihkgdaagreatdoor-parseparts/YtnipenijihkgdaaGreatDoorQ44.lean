import Derived.Test.YtnipenijihkgdaaGreatDoorNd
import Derived.Test.YtnipenijihkgdaaGreatDoorQ39
import Derived.Deep.LoopGhost
import Derived.Deep.DeepCutAuto
set_option maxHeartbeats 8000000
set_option maxRecDepth 100000
namespace Go.Proofs.YtnipenijihkgdaaGreatDoor
open Go.RowKit
set_option linter.unusedVariables false
def jE0 (w:World) (r E d:Nat) (stmt:P Tree) (ts:List Tree) (s':St) (g:Nat) (v:Value) (wr:World):Prop :=
 ∃ (acc acc':List Tree) (sl:St) (ao:Option Addr) (cap:Nat),v = .slice ao acc'.length cap∧fZ stmt g acc E d sl = some (ts,s')∧ZAt wr r E d sl∧bK wr (fun g=>w.heap.size≤g) (.slice ao acc'.length cap) acc'∧(s'.wrong = 0→acc' = acc)∧Kp r w wr∧acc'.length + g≤900000000
theorem cC0 {stmt:P Tree} (HS:cY 160 stmt) (hbs:Bs stmt 0) (hend:∀ (E d:Nat) (s:St) (t:Tree) (s':St),s.wrong = 0→s.rest = []→stmt E d s = some (t,s')→s' = bD E s) (f:Nat) (hf:f≤100000000):wW 142 (fZ stmt f []):=by
 intro w r E d s ts s' hR hE hm
 have hrl:=hR.lt
 have HM:=hI hm
 have HR0:=hI hR
 clear hm hR
 go_enter Tryz.func142,Tryz.ntmps142
 go_wp2_with fail
 go_loopg [3] f (fun g v wr=>jE0 w r E d stmt ts s' g v wr)
 case atStart=>exact ⟨[],[],s,none,0,rfl,HM.out,HR0.out,(Row.nil _ _).q,fun _=>rfl,Kp.refl r w,by simp; omega⟩
 case round =>
  clear HM HR0
  obtain ⟨acc,acc',sl,ao,cap,rfl,hm,hR,ql,hacc,hK,hlen⟩:=hrel
  cases gk with
  | zero=>cases hm
  | succ gk=>?_
  have hs0:=hK.size
  obtain ⟨q1,hq1⟩:=iQ (aR [125] (nxt E sl))
  obtain ⟨q2,hq2⟩:=iQ (aR [99,97,115,101] (nxt E sl))
  obtain ⟨q3,hq3⟩:=iQ (aR [100,101,102,97,117,108,116] (nxt E sl))
  have hq1m:sg [125] (nxt E sl) = q1:=by rw [← hq1]; exact (aX (hR.nxt_wf 0) (fun c r h=>by cases h; rfl)).symm
  have hq2m:wd [99,97,115,101] (nxt E sl) = q2:=by rw [← hq2]; exact (cG (hR.nxt_wf 0) (by decide)).symm
  have hq3m:wd [100,101,102,97,117,108,116] (nxt E sl) = q3:=by rw [← hq3]; exact (cG (hR.nxt_wf 0) (by decide)).symm
  unfold fZ at hm
  rw [hq1m,hq2m,hq3m] at hm
  have HM2:=hI hm
  have HACC:=hI hacc
  obtain ⟨b,hb⟩:=iQ ((decide (sl.wrong = 0) && !q1 && !q2 && !q3 && !sl.rest.isEmpty))
  have HBD:=hI hb
  have HR:=hI hR
  have hR9:=hR
  obtain ⟨vv,LL,aa,dd,pl,ho,ht,hwf,ha,hst⟩:=hR9
  obtain ⟨c0,c1,c2,c3,c4,c5,f0⟩:=ho.six
  have hll:=ho.lt
  obtain ⟨aoL,capL,rfl,_,_,hLl,_,_⟩:=ht
  have d0:∀ t:dZ wr,t.1.cell? ⟨r,0,none⟩ = some (.slice aoL LL.length capL):=fun t=>(t.2.cell (p:=⟨r,0,none⟩) hll).trans c0
  have d1:∀ t:dZ wr,t.1.cell? ⟨r,1,none⟩ = some (.int .i64 (aa:Int)):=fun t=>(t.2.cell (p:=⟨r,1,none⟩) hll).trans c1
  have d4:∀ t:dZ wr,t.1.cell? ⟨r,4,none⟩ = some (.int .i64 (sl.wrong:Int)):=fun t=>(t.2.cell (p:=⟨r,4,none⟩) hll).trans c4
  have HRQ:Hid (∀ t:dZ wr,ZAt t.1 r E d sl):=fun t=>HR.out.below t.2
  have HEM:Hid (sl.wrong = 0→(sl.rest.isEmpty = true ↔ LL.length≤aa)):=fun h0=>by
   rcases hst with hst | hst
   · rw [hst.2.1]; simp
   exact absurd h0 hst.1
  clear hm hacc hb hR hst ho hwf ha c2 c3 c5 f0 c0 c1 c4
  go_upto_region 2 with fail
  go_cut [36,3] (fun v v3 wx=>v = .bool b∧v3 = .slice ao acc'.length cap∧Below wr.heap.size wr wx)
  case first =>
   clear ql hK
   by_cases hw:sl.wrong = 0
   · have e4:((sl.wrong:Int) == 0) = true:=by rw [hw]; rfl
     have d4':∀ t:dZ wr,t.1.cell? ⟨r,4,none⟩ = some (.int .i64 0):=fun t=>by rw [d4 t,hw]; rfl
     clear d4 e4
     cases q1 with
     | true =>
      obtain rfl:b = false:=by rw [← HBD.out]; simp
      refine cC (by kernel_rfl) (by kernel_rfl) ?_
      repeat (go_big_quiet_step (with_reducible exact rfl))
      go_big_quiet_step (exact gQ _ (bG (HRQ.out _) ⟨#[125]⟩ true hq1))
      repeat (go_big_quiet_step (with_reducible exact rfl))
      refine wpQuiet_nil ?_
      intro _ hw'
      obtain ⟨t,rfl⟩:=hw'
      go_wp2_with fail
      go_meet
      exact ⟨rfl,rfl,t.2⟩
     | false=>?_
     cases q2 with
     | true =>
      obtain rfl:b = false:=by rw [← HBD.out]; simp
      refine cC (by kernel_rfl) (by kernel_rfl) ?_
      repeat (go_big_quiet_step (with_reducible exact rfl))
      go_big_quiet_step (exact gQ _ (bG (HRQ.out _) ⟨#[125]⟩ false hq1))
      repeat (go_big_quiet_step (with_reducible exact rfl))
      go_big_quiet_step (exact gQ _ (bG (HRQ.out _) ⟨#[99,97,115,101]⟩ true hq2))
      repeat (go_big_quiet_step (with_reducible exact rfl))
      refine wpQuiet_nil ?_
      intro _ hw'
      obtain ⟨t,rfl⟩:=hw'
      go_wp2_with fail
      go_meet
      exact ⟨rfl,rfl,t.2⟩
     | false=>?_
     cases q3 with
     | true =>
      obtain rfl:b = false:=by rw [← HBD.out]; simp
      refine cC (by kernel_rfl) (by kernel_rfl) ?_
      repeat (go_big_quiet_step (with_reducible exact rfl))
      go_big_quiet_step (exact gQ _ (bG (HRQ.out _) ⟨#[125]⟩ false hq1))
      repeat (go_big_quiet_step (with_reducible exact rfl))
      go_big_quiet_step (exact gQ _ (bG (HRQ.out _) ⟨#[99,97,115,101]⟩ false hq2))
      repeat (go_big_quiet_step (with_reducible exact rfl))
      go_big_quiet_step (exact gQ _ (bG (HRQ.out _) ⟨#[100,101,102,97,117,108,116]⟩ true hq3))
      repeat (go_big_quiet_step (with_reducible exact rfl))
      refine wpQuiet_nil ?_
      intro _ hw'
      obtain ⟨t,rfl⟩:=hw'
      go_wp2_with fail
      go_meet
      exact ⟨rfl,rfl,t.2⟩
     | false=>?_
     have hbx:decide ((aa:Int) < (LL.length:Int)) = b:=by
      rw [← HBD.out,hw]
      have:=HEM.out hw
      cases he:sl.rest.isEmpty with
      | true=>have:=this.1 he; simp; omega
      | false=>?_
      have:¬ LL.length≤aa:=fun q=>by rw [this.2 q] at he; cases he
      simp; omega
     generalize LL.length = ml at d0 hbx
     refine cC (by kernel_rfl) (by kernel_rfl) ?_
     repeat (go_big_quiet_step (with_reducible exact rfl))
     go_big_quiet_step (exact gQ _ (bG (HRQ.out _) ⟨#[125]⟩ false hq1))
     repeat (go_big_quiet_step (with_reducible exact rfl))
     go_big_quiet_step (exact gQ _ (bG (HRQ.out _) ⟨#[99,97,115,101]⟩ false hq2))
     repeat (go_big_quiet_step (with_reducible exact rfl))
     go_big_quiet_step (exact gQ _ (bG (HRQ.out _) ⟨#[100,101,102,97,117,108,116]⟩ false hq3))
     repeat (go_big_quiet_step (with_reducible exact rfl))
     refine wpQuiet_nil ?_
     intro _ hw'
     obtain ⟨t,rfl⟩:=hw'
     go_wp2_with fail
     go_meet
     have hbn:decide (aa < ml) = b:=by rw [← hbx]; simp
     exact ⟨by first | rw [hbx] | rw [hbn],rfl,t.2⟩
   have e4:((sl.wrong:Int) == 0) = false:=by simp; omega
   obtain rfl:b = false:=by rw [← HBD.out]; simp [hw]
   generalize (sl.wrong:Int) = no at d4 e4
   clear hw
   refine cC (by kernel_rfl) (by kernel_rfl) ?_
   repeat (go_big_quiet_step (with_reducible exact rfl))
   refine wpQuiet_nil ?_
   intro _ hw'
   obtain ⟨t,rfl⟩:=hw'
   go_wp2_with fail
   go_meet
   exact ⟨rfl,rfl,t.2⟩
  obtain ⟨rfl,rfl,hbw⟩:=hcut
  have hsw:=hbw.size
  have hR:ZAt wc r E d sl:=HR.out.below hbw
  replace hK:=hK.trans (Kp.of hbw)
  replace ql:bK wc (fun g=>w.heap.size≤g∧g < wc.heap.size) (.slice ao acc'.length cap) acc':=(ql.on fun _ _ _ o=>o.below hbw).imp fun g h1 h2=>⟨h2,h1⟩
  clear hbw HR d0 d1 d4 HRQ hLl hll hq1 hq2 hq3 hq1m hq2m hq3m
  cases b with
  | false =>
   have hz:(s'.wrong = 0→acc' = ts)∧aW0 E s' sl:=by
    have hm:=HM2.out
    split at hm
    · rename_i hc
      obtain ⟨h1,h2,h3⟩:=hc
      have he:sl.rest = []:=by
       have:=HBD.out
       rw [h2] at this
       have h4:q2 = false∧q3 = false:=by simpa using h3
       rw [h4.1,h4.2] at this
       simpa [h1] using this
      obtain ⟨n,s1,e1,e2⟩:=aE hm
      have e3:=hend E d sl n s1 h1 he e1
      have hs':s' = bD E sl:=by
       cases gk with
       | zero=>cases e2
       | succ gk=>?_
       unfold fZ at e2
       rw [if_neg (by rw [e3]; intro q; exact bS q.1)] at e2
       cases e2
       exact e3
      exact ⟨fun h0=>absurd h0 (by rw [hs']; exact bS),.inr ⟨h1,he,hs'⟩⟩
    cases hm
    exact ⟨fun h0=>HACC.out h0,.inl rfl⟩
   obtain ⟨hz1,hz2⟩:=hz
   have HZ1:=hI hz1
   have HZ2:=hI hz2
   clear hz1 hz2 HM2 HBD HEM
   go_wp2
   go_ret
   exact ⟨acc',_,sl,rfl,bK.row (ql.imp fun g _ h=>h.1),HZ1.out,hR,HZ2.out,hK⟩
  | true=>?_
  have hm:=HM2.out
  have hcond:sl.wrong = 0∧q1 = false∧(q2 || q3) = false:=by
   have:=HBD.out
   simp only [Bool.and_eq_true,decide_eq_true_eq,Bool.not_eq_true'] at this
   obtain ⟨⟨⟨⟨h1,h2⟩,h3⟩,h4⟩,_⟩:=this
   exact ⟨h1,h2,by rw [h3,h4]; rfl⟩
  rw [if_pos hcond] at hm
  obtain ⟨n,s1,e1,e2⟩:=aE hm
  have HMS:=hI e1
  have HL2:=hI e2
  have HMO:Hid (s'.wrong = 0→s1.wrong = 0):=bP (xX hbs gk (acc ++ [n])) e2
  clear hm hcond e1 e2 HM2 HBD HEM
  go_wp2_with fail
  refine (HS _ r E d sl n s1 hR hE HMS.out).mono ?_
  rintro en w1 ⟨t1,k1,a1,b1,n1,v1,rfl,hN1,ht1,hR2,hK2⟩
  obtain ⟨ao1,cap1,rfl⟩:=Row.shape hN1.2.2.2.2
  have q1:aZ w1 (fun g=>wc.heap.size≤g∧g < w1.heap.size) t1 k1 a1 b1 n1 (.slice ao1 t1.kids.length cap1):=hN1.q.imp fun g h1 h2=>⟨h2,h1⟩
  have HT1:=hI ht1
  clear hN1 ht1
  have hs1:=hK2.size
  replace ql:=ql.on fun _ _ _ o=>o.kp hK2 (by omega)
  replace hK:=hK.trans hK2
  replace hR:=hR2
  clear hK2 hR2
  go_upto_region 4 with fail
  have oX:=Own.new w1 (nQ k1 a1 b1 n1 ao1 t1 cap1) 25
  obtain ⟨hR,hK,ql,q1⟩:=(fun y9=>And.intro (hR.alloc y9) (And.intro (hK.alloc y9) (And.intro (ql.on fun _ _ _ h=>h.alloc y9) (q1.on fun _ _ _ h=>h.alloc y9)))) (.cells (nQ k1 a1 b1 n1 ao1 t1 cap1) 25)
  generalize w1.alloc _ = w2 at hR hK oX ql q1 ⊢
  have hs2:=oX.lt
  obtain ⟨oX0,oX1,oX2,oX3,oX4,oXf⟩:=oX.five
  have oXl:=oX.lt
  go_wp2_with (at_builtin; refine cT rfl (.tmp 39) (.tmp 41) rfl (fun g=>w.heap.size≤g∧g < wc.heap.size) (fun g=>wc.heap.size≤g∧g < w1.heap.size) (fun g=>w.heap.size≤g) _ acc' rfl (ql.on fun g hg cur ho=>ho.alloc _) t1 k1 a1 b1 n1 (.slice ao1 t1.kids.length cap1) w2.heap.size rfl (Own.new w2 _ _) (q1.on fun g hg cur ho=>ho.alloc _) (fun g h1 h2=>by omega) (fun g h0 h1=>by omega) (fun g h0 h1=>by omega) (by rw [World.size_alloc]; omega) (by omega) ?_; intro aoA capA wU hrowU gzU hvbU)
  have hsU:=gzU.size
  rw [World.size_alloc] at hsU
  have hR9:=(hR.alloc (.cells (nQ k1 a1 b1 n1 ao1 t1 cap1) 25)).grown gzU (fun k hk=>by have:=(hvbU k hk).1; omega)
  have hK9:=(hK.alloc (.cells (nQ k1 a1 b1 n1 ao1 t1 cap1) 25)).grown gzU (fun k hk=>by have:=(hvbU k hk).1; omega)
  have hll:(acc' ++ [t1]).length = acc'.length + 1:=by simp
  have hrow9:bK wU (fun g=>w.heap.size≤g) (.slice aoA (acc'.length + 1) capA) (acc' ++ [t1]):=by rw [← hll]; exact hrowU
  go_roundg gk
  case rel =>
   obtain ⟨acc2,ha2⟩:=iQ (acc' ++ [t1])
   have hl2:acc'.length + 1 = acc2.length:=by rw [← ha2,hll]
   rw [ha2,hl2] at hrow9
   rw [hl2]
   refine ⟨acc ++ [n],acc2,s1,_,_,rfl,HL2.out,hR9,hrow9,fun h0=>?_,hK9,by omega⟩
   rw [← ha2,HACC.out h0,HT1.out (HMO.out h0)]
  case measure=>omega
def wR0 (w:World) (r E d iR iN:Nat) (x:Nat) (tx:List Nat) (typ:P Tree) (L:List Tree) (sL:St) (g:Nat) (wr:World):Prop :=
 ∃ (acc acc':List Tree) (sl:St) (ao:Option Addr) (cap:Nat),jT typ g acc E (d + 1) sl = some (L,sL)∧ZAt wr r E (d + 1) sl∧Own wr iN (nD 2 (x:Int) (bJ tx) 0 (.slice ao acc'.length cap)) 25∧Own wr iR nZ 25∧bK wr (fun g=>iN < g) (.slice ao acc'.length cap) acc'∧(sL.wrong = 0→acc' = acc)∧Kp r w wr∧acc'.length + g≤900000000∧iN < wr.heap.size
theorem zN {typ:P Tree} (HT:cY 41 typ) (hbt:Bs typ 0) (f:Nat) (hf:f≤100000000):∀ (w:World) (r E d:Nat) (s:St) (t:Tree) (s':St),ZAt w r E d s→wd [114,101,99,111,114,100] (nxt E s) = true→E≤1048576→jS f typ E d s = some (t,s') →
    Calls Tryz.prog 82 #[.pointer (some ⟨r,0,none⟩)] w (pC w r E d t s'):=by
 intro w r E d s t s' hR hrec hE hm
 have hrl:=hR.lt
 have hK:=Kp.refl r w
 have hqv:=hR.wordq (x:=[114,101,99,111,114,100]) (by decide) hrec
 unfold jS at hm
 obtain ⟨tk0,s0,g1,g2⟩:=aE hm
 obtain ⟨_,rfl⟩:=aV g1
 obtain ⟨tk,s1,g3,g4⟩:=aE g2
 obtain ⟨pp,s9,g5,g6⟩:=aE g4
 obtain ⟨hT,rfl⟩:=aJ g6
 obtain ⟨sL,g7,hs5,_⟩:=fA g5
 obtain ⟨L,hL⟩:=iQ (pp.2)
 rw [hL] at g7 hT
 obtain ⟨q,hq⟩:=iQ (nm (nxt E (aS s)))
 obtain ⟨hs1,htk⟩:=fR g3 hq
 have HS1:=hI hs1
 have HTK:=hI htk
 have HG7:=hI g7
 have HS5:=hI hs5
 have HMO:Hid (s9.wrong = 0→sL.wrong = 0):=fun h0=>by rw [hs5] at h0; exact (gV h0).1
 have HMO1:Hid (sL.wrong = 0→s1.wrong = 0):=fun h0=>(mP (bP (rA hbt f []) g7 h0)).1
 have HT':=hI hT
 clear hm g1 g2 g3 g4 g5 g6 g7 hT hs1 htk hs5 hL hrec
 go_enter Tryz.func82,Tryz.ntmps82
 go_upto_region 1 with fail
 have oR:=Own.new w nZ 25
 replace hR:=hR.alloc (.cells nZ 25)
 replace hK:=hK.alloc (.cells nZ 25)
 generalize w.alloc _ = w1 at hR hK oR ⊢
 have hs1:=oR.lt
 go_wp2_with fail
 refine (cQ hR ⟨#[114,101,99,111,114,100]⟩ true hqv).mono ?_
 rintro en w2 ⟨⟨_,rfl⟩,hR2,hK2⟩
 rw [if_pos rfl] at hR2
 have hs2:=hK2.size
 replace oR:=oR.kp hK2 (by omega)
 replace hK:=hK.trans hK2
 replace hR:=hR2
 clear hK2 hR2 hqv
 go_wp2_with fail
 refine (bU hR).mono ?_
 rintro en w3 ⟨⟨x,rfl,hx⟩,hb⟩
 have HX:=hI hx
 clear hx
 have hs3:=hb.size
 replace hR:=hR.below hb
 replace hK:=hK.trans (Kp.of hb)
 replace oR:=oR.below hb
 clear hb
 go_upto_region 3 with fail
 have oN:=Own.new w3 (nL 2 (x:Int) ⟨#[]⟩ 0) 25
 obtain ⟨hR,hK,oR⟩:=(fun y9=>And.intro (hR.alloc y9) (And.intro (hK.alloc y9) (oR.alloc y9))) (.cells (nL 2 (x:Int) ⟨#[]⟩ 0) 25)
 generalize w3.alloc _ = w4 at hR hK oR oN ⊢
 have hs4:=oN.lt
 go_wp2_with fail
 refine (jK hR q hq).mono ?_
 rintro en w5 ⟨rfl,hR2,hK2⟩
 obtain ⟨tx,httx⟩:∃ tx:List Nat,(if q then (nxt E (aS s)).2.1 else []) = tx:=⟨_,rfl⟩
 have hst:(if q = true then bJ (nxt E (aS s)).2.1 else ⟨#[]⟩) = bJ tx:=by rw [← httx]; first | rfl | (cases q <;> rfl)
 rw [hst]
 have HTtx:=hI httx
 clear hst httx
 rw [HS1.out] at hR2
 have hs5:=hK2.size
 replace oR:=oR.kp hK2 (by omega)
 replace oN:=oN.kp hK2 (by omega)
 replace hK:=hK.trans hK2
 replace hR:=hR2
 clear hK2 hR2 hq
 go_wp2_with (refine iW rfl (.tmp 12) (.tmp 11) rfl rfl (w3.heap.size) 2 rfl rfl oN (by simp) ?_; intro w6 oV gzV)
 have hs6:=gzV.size
 replace hR:=hR.grown gzV (aH (by omega))
 replace hK:=hK.grown gzV (aI (by omega))
 replace oR:=oR.grown gzV (aG (by omega))
 replace oN:Own w6 (w3.heap.size) (nL 2 (x:Int) (bJ tx) 0) 25:=oV
 clear oV gzV
 obtain ⟨qo,hqo⟩:=iQ (aR [123] (nxt E s1))
 have hqom:sg [123] (nxt E s1) = qo:=by rw [← hqo]; exact (aX (hR.nxt_wf 0) (fun c r h=>by cases h; rfl)).symm
 rw [hqom] at HG7
 clear hqom
 refine (jY hR ⟨#[123]⟩ qo hqo).mono ?_
 rintro en w7 ⟨⟨_,rfl⟩,hR2,hK2⟩
 clear hqo
 have hs7:=hK2.size
 replace oR:=oR.kp hK2 (by omega)
 replace oN:=oN.kp hK2 (by omega)
 replace hK:=hK.trans hK2
 replace hR:=hR2
 clear hK2 hR2
 go_wp2_with fail
 go_loopg [] f (fun g wr=>wR0 w r E d (w.heap.size) (w3.heap.size) x tx typ L sL g wr)
 case atStart=>exact ⟨[],[],_,none,0,HG7.out,hR,oN,oR,(Row.nil _ _).q,fun _=>rfl,hK,by simp; omega,by omega⟩
 case round =>
  clear hR hK oR oN HG7
  obtain ⟨acc,acc',sl,ao,cap,hm,hR,oN,oR,ql,hacc,hK,hlen,hiN⟩:=hrel
  replace ql:bK wr (fun g=>w3.heap.size < g∧g < wr.heap.size) (.slice ao acc'.length cap) acc':=ql.imp fun g h1 h2=>⟨h2,h1⟩
  have HACC:=hI hacc
  have hs0:=hK.size
  clear hacc
  cases gk with
  | zero=>cases hm
  | succ gk=>?_
  unfold jT at hm
  replace hm:=aN hm
  obtain ⟨qn,hqn⟩:=iQ (nm (nxt E sl))
  rw [hqn] at hm
  have HM2:=hI hm
  clear hm
  go_wp2_with fail
  refine (lC hR qn hqn).mono ?_
  rintro en w8 ⟨rfl,hb⟩
  have hs8:=hb.size
  replace hR:=hR.below hb
  replace hK:=hK.trans (Kp.of hb)
  replace oN:=oN.below hb
  replace oR:=oR.below hb
  replace ql:=ql.on fun _ _ _ o=>o.below hb
  clear hb
  cases qn with
  | false =>
   have hm:=HM2.out
   rw [if_neg (by simp)] at hm
   obtain ⟨e1,e2⟩:=aJ hm
   subst e2
   have HE1:=hI e1
   clear hm e1 HM2 hqn
   obtain ⟨qz,hqz⟩:=iQ (aR [125] (nxt E sl))
   have hqzm:sg [125] (nxt E sl) = qz:=by rw [← hqz]; exact (aX (hR.nxt_wf 0) (fun c r h=>by cases h; rfl)).symm
   rw [hqzm] at HS5
   have HS6:=hI HS5.out.symm
   clear hqzm
   go_wp2_with fail
   refine (kI hR ⟨#[125]⟩ qz hqz).mono ?_
   rintro en w9 ⟨⟨_,rfl⟩,hR2,hK2⟩
   rw [HS6.out] at hR2
   have hs9:=hK2.size
   replace oN:=oN.kp hK2 (by omega)
   replace oR:=oR.kp hK2 (by omega)
   replace ql:=ql.on fun _ _ _ o=>o.kp hK2 (by omega)
   replace hK:=hK.trans hK2
   replace hR:=hR2
   clear hK2 hR2 hqz
   obtain ⟨oN0,oN1,oN2,oN3,oN4,oNf⟩:=oN.five
   have oNl:=oN.lt
   go_wp2_with (refine aF rfl (.tmp 2) (.tmp 29) rfl rfl (w.heap.size) rfl rfl oR ⟨rfl,rfl,rfl,rfl,rfl⟩ ?_; intro wz oz gz)
   refine aC (t:=25) rfl rfl rfl oz Tryz.underlying25 rfl (by kernel_rfl) ?_
   refine ⟨⟨2,(x:Int),tx,0,acc'⟩,_,_,_,_,_,rfl,⟨rfl,rfl,rfl,rfl,bK.row ((ql.on fun _ _ _ o=>o.grown gz (aG (by omega))).imp fun g _ h=>by omega)⟩,fun h0=>?_,hR.grown gz (aH (by omega)),hK.grown gz (aI (by omega))⟩
   have h1:=HMO.out h0
   obtain ⟨e1,e2,e3⟩:=HTK.out (HMO1.out h1)
   rw [← HT'.out,HACC.out h1,HE1.out,HX.out e1,e3,← HTtx.out,e2]
   rfl
  | true=>?_
  have hm:=HM2.out
  rw [if_pos rfl] at hm
  obtain ⟨n,s2,e1,e2⟩:=aE hm
  obtain ⟨tk5,s3,e3,e4⟩:=aE e2
  have HF:=hI e1
  have HN:=hI e3
  have HL2:=hI e4
  have HMO2:Hid (sL.wrong = 0→s3.wrong = 0):=bP (rA hbt gk (acc ++ [n])) e4
  clear hm e1 e2 e3 e4 HM2 hqn
  go_wp2_with fail
  refine (tN HT hbt _ r E (d + 1) sl n s2 hR hE HF.out).mono ?_
  rintro en w9 ⟨t1,k1,a1,b1,n1,v1,rfl,hN1,ht1,hR2,hK2⟩
  obtain ⟨ao1,cap1,rfl⟩:=Row.shape hN1.2.2.2.2
  have q1:aZ w9 (fun g=>w8.heap.size≤g∧g < w9.heap.size) t1 k1 a1 b1 n1 (.slice ao1 t1.kids.length cap1):=hN1.q.imp fun g h1 h2=>⟨h2,h1⟩
  have HT1:=hI ht1
  clear hN1 ht1
  have hs9:=hK2.size
  replace oN:=oN.kp hK2 (by omega)
  replace oR:=oR.kp hK2 (by omega)
  replace ql:=ql.on fun _ _ _ o=>o.kp hK2 (by omega)
  replace hK:=hK.trans hK2
  replace hR:=hR2
  clear hK2 hR2
  go_upto_region 7 with fail
  have oX:=Own.new w9 (nQ k1 a1 b1 n1 ao1 t1 cap1) 25
  obtain ⟨hR,hK,oN,oR,ql,q1⟩:=(fun y9=>And.intro (hR.alloc y9) (And.intro (hK.alloc y9) (And.intro (oN.alloc y9) (And.intro (oR.alloc y9) (And.intro (ql.on fun _ _ _ h=>h.alloc y9) (q1.on fun _ _ _ h=>h.alloc y9)))))) (.cells (nQ k1 a1 b1 n1 ao1 t1 cap1) 25)
  generalize w9.alloc _ = w10 at hR hK oN oR oX ql q1 ⊢
  have hs10:=oX.lt
  obtain ⟨oN0,oN1,oN2,oN3,oN4,oNf⟩:=oN.five
  have oNl:=oN.lt
  obtain ⟨oX0,oX1,oX2,oX3,oX4,oXf⟩:=oX.five
  have oXl:=oX.lt
  go_wp2_with (first | (at_builtin; refine cT rfl (.tmp 20) (.tmp 22) rfl (fun g=>w3.heap.size < g∧g < wr.heap.size) (fun g=>w8.heap.size≤g∧g < w9.heap.size) (fun g=>w3.heap.size < g) _ acc' rfl (ql.on fun g hg cur ho=>ho.alloc _) t1 k1 a1 b1 n1 (.slice ao1 t1.kids.length cap1) w10.heap.size rfl (Own.new w10 _ _) (q1.on fun g hg cur ho=>ho.alloc _) (fun g h1 h2=>by omega) (fun g h0 h1=>by omega) (fun g h0 h1=>by omega) (by rw [World.size_alloc]; exact by omega) (by omega) ?_; intro aoA11 capA11 wU hrowU gzU hvbU; have oU:=(oN.alloc _).grown gzU (fun e=>by have:=(hvbU _ e.symm).1; omega)) | (refine aQ rfl (.tmp 24) (.tmp 23) rfl rfl (w3.heap.size) 4 rfl rfl oU (by simp) ?_; intro w11 oV gzV))
  clear oN0 oN1 oN2 oN3 oN4 oNf oNl oX0 oX1 oX2 oX3 oX4 oXf oXl
  have hllU:(acc' ++ [t1]).length = acc'.length + 1:=by simp
  rw [hllU] at hrowU
  have hsU:=gzU.size
  rw [World.size_alloc] at hsU
  have hsV:=gzV.size
  replace hR:=((hR.alloc (.cells (nQ k1 a1 b1 n1 ao1 t1 cap1) 25)).grown gzU (fun k hk=>by have:=(hvbU k hk).1; omega)).grown gzV (aH (by omega))
  replace hK:=((hK.alloc (.cells (nQ k1 a1 b1 n1 ao1 t1 cap1) 25)).grown gzU (fun k hk=>by have:=(hvbU k hk).1; omega)).grown gzV (aI (by omega))
  clear oX q1
  replace oR:=((oR.alloc (.cells (nQ k1 a1 b1 n1 ao1 t1 cap1) 25)).grown gzU (fun e=>by have:=(hvbU _ e.symm).1; omega)).grown gzV (aG (by omega))
  replace oN:Own w11 (w3.heap.size) (nD 2 (x:Int) (bJ tx) 0 (.slice aoA11 (acc'.length + 1) capA11)) 25:=oV
  clear ql
  have ql:=hrowU.on fun _ _ _ o=>o.grown gzV (aG (by omega))
  have hs11:w10.heap.size < w11.heap.size:=by omega
  clear hrowU gzU hvbU oU oV gzV hllU hsU hsV
  obtain ⟨acc2,ha2⟩:=iQ (acc' ++ [t1])
  have hl2:acc'.length + 1 = acc2.length:=by rw [← ha2]; simp
  rw [ha2] at ql
  rw [hl2] at ql oN
  obtain ⟨q9,hq9⟩:=iQ (aR [59] (nxt E s2))
  have hq9m:sg [59] (nxt E s2) = q9:=by rw [← hq9]; exact (aX (hR.nxt_wf 0) (fun c r h=>by cases h; rfl)).symm
  obtain ⟨hs9,ht9⟩:=fR HN.out hq9m
  have HS9:=hI hs9
  have HACC2:Hid (sL.wrong = 0→acc2 = acc ++ [n]):=fun h0=>by
   rw [← ha2,HACC.out h0,HT1.out (ht9 (HMO2.out h0)).1]
  clear hs9 ht9 hq9m ha2
  refine (cQ hR ⟨#[59]⟩ q9 hq9).mono ?_
  rintro en w12 ⟨⟨_,rfl⟩,hR2,hK2⟩
  rw [HS9.out] at hR2
  clear hq9
  have hs12:=hK2.size
  replace oN:=oN.kp hK2 (by omega)
  replace oR:=oR.kp hK2 (by omega)
  replace ql:=ql.on fun _ _ _ o=>o.kp hK2 (by omega)
  replace hK:=hK.trans hK2
  replace hR:=hR2
  clear hK2 hR2
  go_wp2
  go_roundg gk
  case rel=>exact ⟨acc ++ [n],acc2,s3,_,_,HL2.out,hR,oN,oR,ql.imp fun g _ h=>h,HACC2.out,hK,by omega,by omega⟩
  case measure=>omega
end Go.Proofs.YtnipenijihkgdaaGreatDoor
