import Derived.Test.YtnipenijihkgdaaGreatDoorNd
import Derived.Test.YtnipenijihkgdaaGreatDoorQ20
import Derived.Deep.LoopGhost
import Derived.Test.YtnipenijihkgdaaGreatDoorQ16
import Derived.Test.YtnipenijihkgdaaGreatDoorQ4
import Derived.Test.YtnipenijihkgdaaGreatDoorJPart7
import Derived.Test.YtnipenijihkgdaaGreatDoorQ12
import Derived.Deep.DeepCutAuto
set_option maxHeartbeats 1000000
set_option maxRecDepth 100000
namespace Go.Proofs.YtnipenijihkgdaaGreatDoor
open Go.RowKit
set_option linter.unusedVariables false
theorem dE (w:World) (ao:Option Addr) (n cap:Nat):Calls Tryz.prog 89 #[.slice ao n cap] w fun en w'=>en = .returned (.slice ao n cap)∧w' = w:=by
 go_enter Tryz.func89,Tryz.ntmps89
 go_wp2
 go_ret
 exact ⟨rfl,rfl⟩
def eT0 : List ByteArray:=[⟨#[105,56]⟩,⟨#[105,51,50]⟩,⟨#[105,54,52]⟩,⟨#[98,111,111,108]⟩,⟨#[98,121,116,101,115]⟩]
def cP0 : List ByteArray:=[⟨#[105,56]⟩,⟨#[105,51,50]⟩,⟨#[105,54,52]⟩]
theorem kW0 (w:World):Calls Tryz.prog 59 #[] w fun en w'=>en = .returned (.slice (some ⟨w.heap.size,0,none⟩) 5 5)∧jG w' w.heap.size eT0∧Below w.heap.size w w':=by
 go_enter Tryz.func59,Tryz.ntmps59
 go_wp2
 go_ret
 exact ⟨rfl,Own.new w _ _,(Below.refl _ _).alloc (Nat.le_refl _) _⟩
theorem tV0 (w:World):Calls Tryz.prog 66 #[] w fun en w'=>en = .returned (.slice (some ⟨w.heap.size,0,none⟩) 3 3)∧jG w' w.heap.size cP0∧Below w.heap.size w w':=by
 go_enter Tryz.func66,Tryz.ntmps66
 go_wp2
 go_ret
 exact ⟨rfl,Own.new w _ _,(Below.refl _ _).alloc (Nat.le_refl _) _⟩
def wY0 (w:World) (E:Nat) (s:St) (xs:List ByteArray) (n g:Nat) (v:Value) (wr:World):Prop:=∃ k:Nat,k + g = n∧v = .int .i64 (k:Int)∧Below w.heap.size w wr∧∀ j x,j < k→xs[j]? = some x→aR (aD x) (nxt E s) = false
theorem cG0 {w:World} {r E d:Nat} {s:St} (HR:Hid (ZAt w r E d s)) (b:Nat) (xs:List ByteArray) (hs:jG w b xs) (n:Nat) (hn:xs.length = n) (hl:n≤100) (q:Bool) (hq:(xs.any fun x=>aR (aD x) (nxt E s)) = q):Calls Tryz.prog 90 #[.pointer (some ⟨r,0,none⟩),.slice (some ⟨b,0,none⟩) n n] w fun en w'=>en = .returned (.bool q)∧Below w.heap.size w w':=by
 have HQ:=hI hq
 have HS:=hI hs
 have HN:=hI hn
 clear hq hs hn
 go_enter Tryz.func90,Tryz.ntmps90
 go_wp2_with fail
 go_loopg [5] n (fun g v wr=>wY0 w E s xs n g v wr)
 case atStart=>exact ⟨0,by omega,rfl,Below.refl _ _,fun j x h=>by omega⟩
 case round =>
  obtain ⟨k,hk,rfl,hb,hno⟩:=hrel
  have HNO:=hI hno
  clear hno
  by_cases hlt:k < n
  · obtain ⟨x,hx⟩:∃ x,xs[k]? = some x:=⟨xs[k]'(by rw [HN.out]; exact hlt),List.getElem?_eq_getElem _⟩
    have hown:Own wr b (xs.map Value.string).toArray 9:=(hb.block b HS.out.lt).trans HS.out
    have hcell:wr.cell? ⟨b,k,none⟩ = some (.string x):=(cell_of_row _ _ k _ _ _ hown).trans (by simp [hx])
    have hbl:=hown.lt
    have i1:(k:Int) < (n:Int):=by omega
    have i2:(0:Int)≤(k:Int):=by omega
    obtain ⟨q1,hq1⟩:=iQ (aR (aD x) (nxt E s))
    have HX:=hI hx
    have HRr:Hid (ZAt wr r E d s):=HR.out.below hb
    have HK:=hI hk
    clear hx hown hk
    go_wp2_with fail
    refine (bG HRr x q1 hq1).mono ?_
    rintro en w1 ⟨rfl,hb1⟩
    have hb2:Below w.heap.size w w1:=hb.trans (hb1.mono hb.size)
    cases q1 with
    | true =>
     have hqt:q = true:=by
      rw [← HQ.out,List.any_eq_true]
      exact ⟨x,List.mem_of_getElem? HX.out,hq1⟩
     subst hqt
     clear hq1
     go_wp2
     go_ret
     exact ⟨rfl,hb2⟩
    | false=>?_
    have HN2:Hid (∀ j y,j < k + 1→xs[j]? = some y→aR (aD y) (nxt E s) = false):=fun j y hj hy=>by
     by_cases e:j = k
     · subst e; rw [HX.out] at hy; cases hy; exact hq1
     exact HNO.out j y (by omega) hy
    have hg1:1≤gk:=by have:=HK.out; omega
    clear hq1
    go_wp2
    go_roundg (gk - 1)
    case rel=>exact ⟨k + 1,by have:=HK.out; omega,by go_num,hb2,HN2.out⟩
    case measure=>omega
  have i1:¬ (k:Int) < (n:Int):=by omega
  have hqf:q = false:=by
   rw [← HQ.out]
   cases h:(xs.any fun x=>aR (aD x) (nxt E s)) with
   | false=>rfl
   | true=>?_
   obtain ⟨x,hx,hx2⟩:=List.any_eq_true.1 h
   obtain ⟨j,hj⟩:=List.getElem?_of_mem hx
   have hjl:j < xs.length:=by
    refine Classical.byContradiction fun z=>?_
    rw [List.getElem?_eq_none (by omega)] at hj; cases hj
   rw [HNO.out j x (by rw [HN.out] at hjl; omega) hj] at hx2
   cases hx2
  subst hqf
  go_wp2
  go_ret
  exact ⟨rfl,hb⟩
theorem xY {w:World} {r E d:Nat} {s:St} (HR:Hid (ZAt w r E d s)) (most:Nat) (z:Int) (hz:z = (most:Int)) (q:Bool) (hq:(cn (nxt E s) && decide ((nxt E s).2.2.1≤most)) = q):Calls Tryz.prog 87 #[.pointer (some ⟨r,0,none⟩),.int .u64 z] w fun en w'=>en = .returned (.int .u64 (if q then ((nxt E s).2.2.1:Int) else 0))∧ZAt w' r E d (if q then aS s else bD E s)∧Kp r w w':=by
 have hg:=(HR.out.nxt_wf 0).1.1
 go_enter Tryz.func87,Tryz.ntmps87
 go_wp2_with fail
 refine (fP HR 0 0 rfl (by omega)).mono ?_
 rintro en w1 ⟨⟨k,b,n,a2,e,rfl,hA⟩,hb⟩
 have e0:(b.toList == (⟨#[]⟩:ByteArray).toList) = ((nxt E s).2.1 == []):=by rw [hA.2.1]; exact kQ _ hg.1 ⟨#[]⟩
 have e1:(b.toList == []) = ((nxt E s).2.1 == []):=by rw [← e0,ByteArray.toList_eq (bs:=⟨#[]⟩)]
 clear e0
 have hk:k = ((nxt E s).1:Int):=hA.1
 have hn:n = ((nxt E s).2.2.1:Int):=hA.2.2.1
 have HR1:Hid (ZAt w1 r E d s):=HR.out.below hb
 have HZ2:ZAt (w1.alloc (.cells #[.int .u8 k,.string b,.int .u64 n,.int .i64 a2,.int .i64 e] 65)) r E d s:=ZAt.alloc HR1.out _
 have HZ3:=hI HZ2
 have HK2:Hid (Kp r w (w1.alloc (.cells #[.int .u8 k,.string b,.int .u64 n,.int .i64 a2,.int .i64 e] 65))):=(Kp.of hb).alloc _
 have HQ:=hI hq
 clear hA hg hq HR HZ2
 by_cases h2:(nxt E s).1 = 2
 · have e2:(k != 2) = false:=by rw [hk,h2]; rfl
   cases h3:((nxt E s).2.1 == []) with
   | false =>
    rw [h3] at e1
    have e6:¬ b.toList = []:=by simpa using e1
    obtain rfl:q = false:=by rw [← HQ.out]; unfold cn; rw [h3]; simp
    clear hk hn h2 h3
    go_wp2_with fail
    refine (fI HZ3 40 40 rfl (by decide)).mono ?_
    rintro en w2 ⟨⟨_,rfl⟩,hR2,hK2⟩
    go_wp2
    go_ret
    exact ⟨rfl,hR2,HK2.out.trans hK2⟩
   | true=>?_
   rw [h3] at e1
   have e6:b.toList = []:=by simpa using e1
   by_cases h4:(nxt E s).2.2.1≤most
   · have hq1:q = true:=by rw [← HQ.out]; unfold cn; rw [h3,h2]; simp [h4]
     subst hq1
     have e4:decide (z < n) = false:=by rw [hz,hn]; simp; omega
     have e5:¬ (z < n):=by rw [hz,hn]; omega
     have e7:n≤z:=by omega
     have hnl:(nxt E s).1 ≠ 0:=by omega
     have HZ4:ZAt (w1.alloc (.cells #[.int .u8 k,.string b,.int .u64 n,.int .i64 a2,.int .i64 e] 65)) r E d s:=HZ3.out
     obtain ⟨W2,hW2⟩:=iQ (w1.alloc (.cells #[.int .u8 k,.string b,.int .u64 n,.int .i64 a2,.int .i64 e] 65))
     have oT:Own W2 w1.heap.size #[.int .u8 k,.string b,.int .u64 n,.int .i64 a2,.int .i64 e] 65:=by rw [← hW2]; exact Own.new w1 _ _
     rw [hW2] at HZ4 HK2
     obtain ⟨t0,t1,t2,t3,t4,tf⟩:=oT.five
     have hlT:=oT.lt
     obtain ⟨v,a,dd,pl,ho,ha,hdd,hd,hw,hpop⟩:=HZ4.pop hnl
     obtain ⟨c0,c1,c2,c3,c4,c5,f0⟩:=ho.six
     have hl:=ho.lt
     have hrT:r ≠ w1.heap.size:=by have h9:r < w1.heap.size:=ZAt.lt HR1.out; omega
     have HP:=hI hpop
     have HO:=hI ho
     have HD:=hI hdd
     have HNN:=hI hn
     have hrT2:w1.heap.size ≠ r:=fun z=>hrT z.symm
     clear hpop ho hdd hk hn h2 h3 h4 hnl HZ3 HZ4 HR1 hb hz
     go_upto_region 5 with fail
     try rw [hW2]
     clear hW2
     go_wp2
     go_ret
     refine ⟨by show Ending.returned (.int .u64 n) = _; rw [HNN.out],?_,HK2.out.trans ((Kp.refl r W2).set (.inr rfl) 1 _)⟩
     refine HP.out _ (fun g hg=>Below.heap_setCell W2 ⟨r,1,none⟩ _ g (by show g ≠ r; omega)) d d rfl hd ?_
     have:=HO.out.set 1 (.int .i64 ((a:Int) + 1))
     rw [HD.out] at this
     exact this
   obtain rfl:q = false:=by rw [← HQ.out]; simp [h4]
   have e4:decide (z < n) = true:=by rw [hz,hn]; simp; omega
   have e5:z < n:=by rw [hz,hn]; omega
   clear hk hn h2 h3 h4
   go_wp2_with fail
   refine (fI HZ3 40 40 rfl (by decide)).mono ?_
   rintro en w2 ⟨⟨_,rfl⟩,hR2,hK2⟩
   go_wp2
   go_ret
   exact ⟨rfl,hR2,HK2.out.trans hK2⟩
 have e2:(k != 2) = true:=by rw [hk]; simp; omega
 obtain rfl:q = false:=by rw [← HQ.out]; unfold cn; (have:((nxt E s).1 == 2) = false:=by simpa using h2); rw [this]; rfl
 clear hk hn h2
 go_wp2_with fail
 refine (fI HZ3 40 40 rfl (by decide)).mono ?_
 rintro en w2 ⟨⟨_,rfl⟩,hR2,hK2⟩
 go_wp2
 go_ret
 exact ⟨rfl,hR2,HK2.out.trans hK2⟩
theorem uY (q:Nat→Bool) (l:List Nat):(l.takeWhile q).takeWhile q = l.takeWhile q:=by
 induction l with
 | nil=>rfl
 | cons c r ih=>?_
 by_cases h:q c = true
 · rw [List.takeWhile_cons_of_pos h,List.takeWhile_cons_of_pos h,ih]
 rw [List.takeWhile_cons_of_neg h]; rfl
theorem zN0 (l:List Nat) (kd:Nat) (tx:List Nat) (n len:Nat) (h:eU l = .ok (kd,tx,n,len)):(kd = 1→∃ c r,tx = c :: r∧bO c = true∧fL tx = tx.length)∧(kd = 4→tx ∈ fY)∧n≤18446744073709551615:=by
 cases l with
 | nil=>simp [eU] at h
 | cons c r=>?_
 unfold eU at h
 simp only at h
 split at h
 · rename_i hc
   cases h
   refine ⟨fun _=>?_,fun q=>absurd q (by decide),by omega⟩
   have hw:cO c = true:=by unfold cO; rw [hc]; rfl
   refine ⟨c,r.takeWhile cO,by rw [List.takeWhile_cons_of_pos hw],hc,?_⟩
   unfold fL
   rw [uY]
 split at h
 · split at h
   · rename_i hq
     cases h
     refine ⟨fun q=>absurd q (by decide),fun q=>absurd q (by decide),?_⟩
     have h1:=hq.2
     have h2:∀ x,lL x≤18446744073709551615:=fun x=>by
      unfold lL
      split
      · omega
      split <;> omega
     exact Nat.le_trans h1 (h2 _)
   cases h
 split at h
 · cases hr:dV (r.length + 1) r with
   | error x=>rw [hr] at h; obtain ⟨p,e⟩:=x; cases p <;> cases h
   | ok x=>?_
   obtain ⟨o1,n1⟩:=x
   rw [hr] at h
   cases h
   exact ⟨fun q=>absurd q (by decide),fun q=>absurd q (by decide),by omega⟩
 cases hs:kD (c :: r) with
 | none=>rw [hs] at h; cases h
 | some x=>?_
 rw [hs] at h
 cases h
 exact ⟨fun q=>absurd q (by decide),fun _=>List.mem_of_find?_eq_some hs,by omega⟩
theorem xZ0 : ∀ (f k at0:Nat) (l:List Nat) (ts:List (Nat × List Nat × Nat × Nat × Nat)),iS f k at0 l = .ok ts→∀ t ∈ ts,(t.1 = 1→∃ c r,t.2.1 = c :: r∧bO c = true∧fL t.2.1 = t.2.1.length)∧(t.1 = 4→t.2.1 ∈ fY)∧t.2.2.1≤18446744073709551615:=by
 intro f
 induction f with
 | zero=>intro k at0 l ts h; simp [iS] at h; subst h; simp
 | succ f ih=>?_
 intro k at0 l ts h
 unfold iS at h
 simp only at h
 split at h
 · cases h; simp
 split at h
 · cases h
 cases ho:eU (l.drop (aP false l)) with
 | error x=>rw [ho] at h; cases h
 | ok x=>?_
 obtain ⟨kd,tx,n,len⟩:=x
 rw [ho] at h
 simp only at h
 cases hr:iS f (k + 1) (at0 + aP false l + len) (l.drop (aP false l + len)) with
 | error x=>rw [hr] at h; cases h
 | ok us=>?_
 rw [hr] at h
 cases h
 intro t ht
 rcases List.mem_cons.1 ht with rfl | ht
 · exact zN0 _ _ _ _ _ ho
 exact ih _ _ _ _ hr t ht
theorem rW {l:List Nat} {ts:List (Nat × List Nat × Nat × Nat × Nat)} (h:gC l = .ok ts) (hl:∀ c ∈ l,c < 256):∀ t ∈ ts,jE t:=by
 have hg:=(iO l ts h hl).2
 unfold gC at h
 split at h
 · cases h
 intro t ht
 have h1:=xZ0 _ _ _ _ _ h t ht
 exact ⟨⟨hg t ht,h1.2.2⟩,h1.1,h1.2.1⟩
theorem zC {stmts:P (List Tree)} {c:Nat} (HS:mI 112 stmts c):bH 78 (cN stmts) (c + 1):=by
 intro w r E d s t s' hR hE hd hm
 have hrl:=hR.lt
 have hK:=Kp.refl r w
 obtain ⟨y,s1,h1,h2⟩:=aE hm
 obtain ⟨rfl,rfl⟩:=aJ h2
 obtain ⟨tk,s2,h3,h4⟩:=aE h1
 obtain ⟨l,s3,h5,h6⟩:=aE h4
 obtain ⟨tk2,s4,h7,h8⟩:=aE h6
 obtain ⟨rfl,rfl⟩:=aJ h8
 unfold eK at h5
 obtain ⟨k,tx,nn,a,e,ht⟩:=bZ tk
 clear hm h1 h2 h4 h6 h8
 go_enter Tryz.func78,Tryz.ntmps78
 go_upto_region 1 with fail
 have hzo:=hR.lt
 have hko:=hK.size
 have o:=Own.new w nZ 25
 replace hR:=hR.alloc (.cells nZ 25)
 replace hK:=hK.alloc (.cells nZ 25)
 generalize w.alloc _ = w1 at hR hK o ⊢
 have hs1:=o.lt
 go_wp2_with fail
 refine (kR hR hE (by omega) ⟨#[123]⟩ h3 ht).mono ?_
 rintro en w2 ⟨rfl,hR2,hK2⟩
 have hs2:=(((Kp.refl r w1)).trans hK2).size
 replace o:=o.kp hK2 (by omega)
 replace hK:=hK.trans hK2
 replace hR:=hR2
 clear hK2 hR2
 go_upto_region 2 with fail
 have hzm1:=hR.lt
 have hkm1:=hK.size
 have m1:=Own.new w2 (nL 10 a ⟨#[]⟩ 0) 25
 obtain ⟨hR,hK,o⟩:=(fun y9=>And.intro (hR.alloc y9) (And.intro (hK.alloc y9) (o.alloc y9))) (.cells (nL 10 a ⟨#[]⟩ 0) 25)
 generalize w2.alloc _ = w3 at hR hK m1 o ⊢
 have hs3:=m1.lt
 go_wp2_with fail
 refine (HS _ _ _ _ _ _ _ hR hE (by omega) h5).mono ?_
 rintro en w4 ⟨v2,rfl,hrow,hR2,hK2⟩
 have hs4:=(((Kp.refl r w3)).trans hK2).size
 replace o:=o.kp hK2 (by omega)
 replace m1:=m1.kp hK2 (by omega)
 replace hK:=hK.trans hK2
 replace hR:=hR2
 clear hK2 hR2
 have hrowi:=KI.refl w3.heap.size w4.heap.size w4
 obtain ⟨ao,cap,rfl⟩:=hrow.shape
 go_upto_region 3 with (first | (refine aQ rfl (.tmp 10) (.tmp 9) rfl rfl w2.heap.size 4 rfl rfl m1 (by simp) ?_; intro wq0 m1q0 gq0))
 have hs5:=gq0.size
 replace o:=o.grown gq0 (aG (by omega))
 replace hrowi:=hrowi.grown (by omega) gq0 (by omega)
 replace hR:=hR.grown gq0 (aH (by omega))
 replace hK:=hK.grown gq0 (aI (by omega))
 replace m1:Own wq0 w2.heap.size (nD 10 a ⟨#[]⟩ 0 (.slice ao l.length cap)) 25:=m1q0
 clear m1q0 gq0
 generalize hw:wq0 = w5 at *
 clear hw
 go_wp2_with fail
 refine (gR hR hE (by omega) ⟨#[125]⟩ h7).mono ?_
 rintro en w6 ⟨⟨_,rfl⟩,hR2,hK2⟩
 have hs6:=(((Kp.refl r w5)).trans hK2).size
 replace o:=o.kp hK2 (by omega)
 replace m1:=m1.kp hK2 (by omega)
 replace hrowi:=hrowi.kp (by omega) (((Kp.refl r _)).trans hK2) (by omega)
 replace hK:=hK.trans hK2
 replace hR:=hR2
 clear hK2 hR2
 obtain ⟨m10,m11,m12,m13,m14,m1f⟩:=m1.five
 go_wp2_with (refine aF rfl (.tmp 2) (.tmp 13) rfl rfl w.heap.size rfl rfl (o) ⟨rfl,rfl,rfl,rfl,rfl⟩ ?_; intro wz oz gz)
 refine aC (t:=25) rfl rfl rfl oz Tryz.underlying25 rfl (by kernel_rfl) ?_
 exact ⟨_,_,_,_,_,rfl,⟨rfl,ht.2.2.2.1,rfl,rfl,((hrow.ki (hrowi.grown (by omega) gz (by omega)) (Nat.le_refl _)).mono (by omega))⟩,hR.grown gz (aH (by omega)),hK.grown gz (aI (by omega))⟩
theorem hK0 {stmts:P (List Tree)} {c:Nat} (HS:mI 112 stmts c):bH 191 (pA stmts) c:=by
 intro w r E d s t s' hR hE hd hm
 have hrl:=hR.lt
 have hK:=Kp.refl r w
 obtain ⟨tk,s1,h1,h2⟩:=aE hm
 obtain ⟨l,s2,h3,h4⟩:=aE h2
 obtain ⟨rfl,rfl⟩:=aJ h4
 obtain ⟨q,hq⟩:=iQ (isT 4 [⟨#[58]⟩] (nxt E s))
 have hq2:sg [58] (nxt E s) = q:=(dQ _ _).symm.trans hq
 have hn:eQ q E d s = some (tk,s1):=by rw [← hq2]; exact h1
 obtain ⟨k,tx,nn,a,e,ht⟩:=bZ tk
 clear hm h1 h2 h4 hq2
 go_enter Tryz.func191,Tryz.ntmps191
 go_upto_region 1 with fail
 have hzo:=hR.lt
 have hko:=hK.size
 have o:=Own.new w nZ 25
 replace hR:=hR.alloc (.cells nZ 25)
 replace hK:=hK.alloc (.cells nZ 25)
 generalize w.alloc _ = w1 at hR hK o ⊢
 have hs1:=o.lt
 go_wp2_with fail
 refine (cI (hR.alloc _) hE (xs:=[⟨#[58]⟩]) (Own.new w1 _ _) 1 rfl (by omega) q hq).mono ?_
 rintro en w2 ⟨rfl,hR2,hb⟩
 have hs2:=(((Kp.refl r w1).alloc _).trans (Kp.of hb)).size
 replace o:=(o.alloc _).below hb
 replace hK:=(hK.alloc _).trans (Kp.of hb)
 replace hR:=hR2
 clear hb hR2
 go_wp2_with fail
 refine (dK hR hE q hn ht).mono ?_
 rintro en w3 ⟨rfl,hR2,hK2⟩
 have hs3:=(((Kp.refl r w2)).trans hK2).size
 replace o:=o.kp hK2 (by omega)
 replace hK:=hK.trans hK2
 replace hR:=hR2
 clear hK2 hR2 hq hn
 go_upto_region 2 with fail
 have hzm1:=hR.lt
 have hkm1:=hK.size
 have m1:=Own.new w3 (nL 10 a ⟨#[]⟩ 0) 25
 obtain ⟨hR,hK,o⟩:=(fun y9=>And.intro (hR.alloc y9) (And.intro (hK.alloc y9) (o.alloc y9))) (.cells (nL 10 a ⟨#[]⟩ 0) 25)
 generalize w3.alloc _ = w4 at hR hK m1 o ⊢
 have hs4:=m1.lt
 go_wp2_with fail
 refine (HS _ _ _ _ _ _ _ hR hE hd h3).mono ?_
 rintro en w5 ⟨v2,rfl,hrow,hR2,hK2⟩
 have hs5:=(((Kp.refl r w4)).trans hK2).size
 replace o:=o.kp hK2 (by omega)
 replace m1:=m1.kp hK2 (by omega)
 replace hK:=hK.trans hK2
 replace hR:=hR2
 clear hK2 hR2
 have hrowi:=KI.refl w4.heap.size w5.heap.size w5
 obtain ⟨ao,cap,rfl⟩:=hrow.shape
 go_upto_region 3 with (first | (refine aQ rfl (.tmp 15) (.tmp 14) rfl rfl w3.heap.size 4 rfl rfl m1 (by simp) ?_; intro wq0 m1q0 gq0))
 have hs6:=gq0.size
 replace o:=o.grown gq0 (aG (by omega))
 replace hrowi:=hrowi.grown (by omega) gq0 (by omega)
 replace hR:=hR.grown gq0 (aH (by omega))
 replace hK:=hK.grown gq0 (aI (by omega))
 replace m1:Own wq0 w3.heap.size (nD 10 a ⟨#[]⟩ 0 (.slice ao l.length cap)) 25:=m1q0
 clear m1q0 gq0
 generalize hw:wq0 = w6 at *
 clear hw
 obtain ⟨m10,m11,m12,m13,m14,m1f⟩:=m1.five
 go_wp2_with (refine aF rfl (.tmp 2) (.tmp 16) rfl rfl w.heap.size rfl rfl (o) ⟨rfl,rfl,rfl,rfl,rfl⟩ ?_; intro wz oz gz)
 refine aC (t:=25) rfl rfl rfl oz Tryz.underlying25 rfl (by kernel_rfl) ?_
 exact ⟨_,_,_,_,_,rfl,⟨rfl,ht.2.2.2.1,rfl,rfl,((hrow.ki (hrowi.grown (by omega) gz (by omega)) (Nat.le_refl _)).mono (by omega))⟩,hR.grown gz (aH (by omega)),hK.grown gz (aI (by omega))⟩
theorem bK0 (kd:Int) (kk:Nat) (hkd:kd = kk):∀ (w:World) (r E d:Nat) (s:St) (t:Tree) (s':St),cF w r E d s→E≤1048576→d≤1000000000→nK kk E d s = some (t,s') →
    Calls Tryz.prog 174 #[.pointer (some ⟨r,0,none⟩),.int .u8 kd] w (lX w r E d t s'):=by
 subst hkd
 intro w r E d s t s' hR hE hd hm
 have hrl:=hR.lt
 have hK:=Kp.refl r w
 obtain ⟨tk,s1,h1,h2⟩:=aE hm
 obtain ⟨rfl,rfl⟩:=aV h1
 replace h2:=aN h2
 obtain ⟨q,hq⟩:=iQ (nm (nxt E (aS s)))
 rw [hq] at h2
 obtain ⟨k,tx,nn,a,e,ht⟩:=bZ (nxt E s)
 clear hm h1
 go_enter Tryz.func174,Tryz.ntmps174
 go_upto_region 1 with fail
 have hzo:=hR.lt
 have hko:=hK.size
 have o:=Own.new w nZ 25
 replace hR:=hR.alloc (.cells nZ 25)
 replace hK:=hK.alloc (.cells nZ 25)
 generalize w.alloc _ = w1 at hR hK o ⊢
 have hs1:=o.lt
 go_wp2_with fail
 refine (cH hR hE ht).mono ?_
 rintro en w2 ⟨rfl,hR2,hK2⟩
 have hs2:=(((Kp.refl r w1)).trans hK2).size
 replace o:=o.kp hK2 (by omega)
 replace hK:=hK.trans hK2
 replace hR:=hR2
 clear hK2 hR2
 go_upto_region 2 with fail
 have hzm1:=hR.lt
 have hkm1:=hK.size
 have m1:=Own.new w2 (nL (kk:Int) a ⟨#[]⟩ 0) 25
 obtain ⟨hR,hK,o⟩:=(fun y9=>And.intro (hR.alloc y9) (And.intro (hK.alloc y9) (o.alloc y9))) (.cells (nL (kk:Int) a ⟨#[]⟩ 0) 25)
 generalize w2.alloc _ = w3 at hR hK m1 o ⊢
 have hs3:=m1.lt
 go_wp2_with fail
 refine (iI hR hE q hq).mono ?_
 rintro en w4 ⟨rfl,hR2,hb⟩
 have hs4:=(((Kp.refl r w3)).trans (Kp.of hb)).size
 replace o:=o.below hb
 replace m1:=m1.below hb
 replace hK:=hK.trans (Kp.of hb)
 replace hR:=hR2
 clear hb hR2 hq
 cases q with
 | false =>
  rw [if_neg (by simp)] at h2
  obtain ⟨rfl,rfl⟩:=aJ h2
  obtain ⟨m10,m11,m12,m13,m14,m1f⟩:=m1.five
  go_wp2_with (refine aF rfl (.tmp 4) (.tmp 23) rfl rfl w.heap.size rfl rfl (o) ⟨rfl,rfl,rfl,rfl,rfl⟩ ?_; intro wz oz gz)
  refine aC (t:=25) rfl rfl rfl oz Tryz.underlying25 rfl (by kernel_rfl) ?_
  exact ⟨_,_,_,_,_,rfl,⟨rfl,ht.2.2.2.1,rfl,rfl,Row.nil _ _⟩,hR.grown gz (aH (by omega)),hK.grown gz (aI (by omega))⟩
 | true=>?_
 rw [if_pos rfl] at h2
 obtain ⟨tk2,s2,h3,h4⟩:=aE h2
 obtain ⟨rfl,rfl⟩:=aV h3
 obtain ⟨rfl,rfl⟩:=aJ h4
 obtain ⟨k',tx',nn',a',e',ht'⟩:=bZ (nxt E (aS s))
 clear h2 h3 h4
 go_wp2_with fail
 refine (cH hR hE ht').mono ?_
 rintro en w5 ⟨rfl,hR2,hK2⟩
 have hs5:=(((Kp.refl r w4)).trans hK2).size
 replace o:=o.kp hK2 (by omega)
 replace m1:=m1.kp hK2 (by omega)
 replace hK:=hK.trans hK2
 replace hR:=hR2
 clear hK2 hR2
 go_upto_region 4 with (first | (refine iW rfl (.tmp 22) (.tmp 21) rfl rfl w2.heap.size 2 rfl rfl m1 (by simp) ?_; intro wq0 m1q0 gq0))
 have hs6:=gq0.size
 replace o:=o.grown gq0 (aG (by omega))
 replace hR:=hR.grown gq0 (aH (by omega))
 replace hK:=hK.grown gq0 (aI (by omega))
 replace m1:Own wq0 w2.heap.size (nL (kk:Int) a tx' 0) 25:=m1q0
 clear m1q0 gq0
 generalize hw:wq0 = w6 at *
 clear hw
 obtain ⟨m10,m11,m12,m13,m14,m1f⟩:=m1.five
 go_wp2_with (refine aF rfl (.tmp 4) (.tmp 23) rfl rfl w.heap.size rfl rfl (o) ⟨rfl,rfl,rfl,rfl,rfl⟩ ?_; intro wz oz gz)
 refine aC (t:=25) rfl rfl rfl oz Tryz.underlying25 rfl (by kernel_rfl) ?_
 exact ⟨_,_,_,_,_,rfl,⟨rfl,ht.2.2.2.1,ht'.2.1,rfl,Row.nil _ _⟩,hR.grown gz (aH (by omega)),hK.grown gz (aI (by omega))⟩
theorem qP (x:ByteArray) {fn:Nat} {m:P Tree} {c:Nat} (hfn:mE fn) (HP:bH fn m c):∀ (w:World) (r E d:Nat) (s:St) (t:Tree) (s':St),cF w r E d s→E≤1048576→d + c≤1000000000→jD (aD x) m E d s = some (t,s') →
    Calls Tryz.prog 188 #[.pointer (some ⟨r,0,none⟩),.string x,.func (.func fn) #[] #[]] w (lX w r E d t s'):=by
 intro w r E d s t s' hR hE hd hm
 have hrl:=hR.lt
 have hK:=Kp.refl r w
 replace hm:=aN hm
 obtain ⟨q,hq⟩:=iQ (isT 4 [x] (nxt E s))
 have hq2:sg (aD x) (nxt E s) = q:=(dQ _ _).symm.trans hq
 rw [hq2] at hm
 obtain ⟨k,tx,nn,a,e,ht⟩:=bZ (nxt E s)
 have hfn2:∀ (a:Array Value) (w:World),(callFunc fn a).run Tryz.prog w = .ok (.enter fn a) w:=hfn
 clear hq2
 go_enter Tryz.func188,Tryz.ntmps188
 go_upto_region 1 with fail
 have hzo:=hR.lt
 have hko:=hK.size
 have o:=Own.new w nZ 25
 replace hR:=hR.alloc (.cells nZ 25)
 replace hK:=hK.alloc (.cells nZ 25)
 generalize w.alloc _ = w1 at hR hK o ⊢
 have hs1:=o.lt
 go_wp2_with fail
 refine (cI (hR.alloc _) hE (xs:=[x]) (Own.new w1 _ _) 1 rfl (by omega) q hq).mono ?_
 rintro en w2 ⟨rfl,hR2,hb⟩
 have hs2:=(((Kp.refl r w1).alloc _).trans (Kp.of hb)).size
 replace o:=(o.alloc _).below hb
 replace hK:=(hK.alloc _).trans (Kp.of hb)
 replace hR:=hR2
 clear hb hR2 hq
 cases q with
 | false =>
  rw [if_neg (by simp)] at hm
  go_wp2_with fail
  refine (HP _ _ _ _ _ _ _ hR hE hd hm).mono ?_
  rintro en w3 ⟨k1,a1,b1,n1x,v1,rfl,n1,hR2,hK2⟩
  have hs3:=(((Kp.refl r w2)).trans hK2).size
  replace o:=o.kp hK2 (by omega)
  replace hK:=hK.trans hK2
  replace hR:=hR2
  clear hK2 hR2
  have n1i:=KI.refl w2.heap.size w3.heap.size w3
  go_wp2_with (refine aF rfl (.tmp 6) (.tmp 21) rfl rfl w.heap.size rfl rfl (o) ⟨rfl,rfl,rfl,rfl,n1.2.2.2.2.one1⟩ ?_; intro wz oz gz)
  refine aC (t:=25) rfl rfl rfl oz Tryz.underlying25 rfl (by kernel_rfl) ?_
  exact ⟨_,_,_,_,_,rfl,(n1.ki (n1i.grown (by omega) gz (by omega)) (Nat.le_refl _)).mono (by omega),hR.grown gz (aH (by omega)),hK.grown gz (aI (by omega))⟩
 | true=>?_
 rw [if_pos rfl] at hm
 obtain ⟨rfl,rfl⟩:=aJ hm
 go_wp2_with fail
 refine (fQ hR hE ht).mono ?_
 rintro en w3 ⟨rfl,hb⟩
 have hR2:=hR.below hb
 have hs3:=(((Kp.refl r w2)).trans (Kp.of hb)).size
 replace o:=o.below hb
 replace hK:=hK.trans (Kp.of hb)
 replace hR:=hR2
 clear hb hR2
 go_wp2_with (refine aF rfl (.tmp 6) (.tmp 18) rfl rfl w.heap.size rfl rfl (o) ⟨rfl,rfl,rfl,rfl,rfl⟩ ?_; intro wz oz gz)
 refine aC (t:=25) rfl rfl rfl oz Tryz.underlying25 rfl (by kernel_rfl) ?_
 exact ⟨_,_,_,_,_,rfl,⟨rfl,ht.2.2.2.1,rfl,rfl,Row.nil _ _⟩,hR.grown gz (aH (by omega)),hK.grown gz (aI (by omega))⟩
def rW0 (w:World) (r E d:Nat) (m:P Tree) (ts:List Tree) (s':St) (f:Nat) (v:Value) (wr:World):Prop :=
 ∃ acc sl,fZ m f acc E d sl = some (ts,s')∧cF wr r E d sl∧Row wr w.heap.size v acc∧Kp r w wr∧acc.length + f≤900000000
theorem qS0 (t:Tok):isT 1 [⟨#[99,97,115,101]⟩,⟨#[100,101,102,97,117,108,116]⟩] t = (wd [99,97,115,101] t || wd [100,101,102,97,117,108,116] t):=by
 simp only [isT,List.any_cons,List.any_nil,wd,Bool.or_false,Bool.and_or_distrib_left]
 rfl
theorem yA (t:Tok):isT 1 [⟨#[119,104,105,108,101]⟩,⟨#[102,111,114]⟩,⟨#[115,119,105,116,99,104]⟩] t = gU t:=by
 simp only [isT,List.any_cons,List.any_nil,gU,wd,Bool.or_false,Bool.and_or_distrib_left,Bool.or_assoc]
 rfl
def tO0 (m:List Nat→P Tree) (c:Nat):Prop:=∀ (lb:List Nat) (b:ByteArray),b = bJ lb→∀ (w:World) (r E d:Nat) (s:St) (t:Tree) (s':St),cF w r E d s→E≤1048576→d + c≤1000000000→m lb E d s = some (t,s')→Calls Tryz.prog 156 #[.pointer (some ⟨r,0,none⟩),.string b] w (lX w r E d t s')
theorem jQ0 {m:P Tree} {c:Nat} (HP:bH 138 m c) (f:Nat) (hf:f≤100000000):mI 112 (fZ m f []) c:=by
 intro w r E d s ts s' hR hE hd hm
 have hrl:=hR.lt
 have hK:=Kp.refl r w
 have hrow:Row w w.heap.size (.slice none 0 0) []:=Row.nil _ _
 go_enter Tryz.func112,Tryz.ntmps112
 go_wp2_with fail
 go_loopg [3] f (fun g v wr=>rW0 w r E d m ts s' g v wr)
 case atStart=>exact ⟨[],s,hm,hR,hrow,hK,by simp; omega⟩
 case round =>
  clear hR hK hrow hm
  obtain ⟨acc,sl,hm,hR,hrow,hK,hlen⟩:=hrel
  cases gk with
  | zero=>cases hm
  | succ gk=>?_
  unfold fZ at hm
  obtain ⟨ao,cap,rfl⟩:=hrow.shape
  have hw0:=hK.size
  by_cases hwr:sl.wrong = 0
  · obtain ⟨q,hq⟩:=iQ (isT 4 [⟨#[125]⟩] (nxt E sl))
    have hq2:sg [125] (nxt E sl) = q:=(dQ _ _).symm.trans hq
    obtain ⟨q2,hq3⟩:=iQ (isT 1 [⟨#[99,97,115,101]⟩,⟨#[100,101,102,97,117,108,116]⟩] (nxt E sl))
    have hq4:(wd [99,97,115,101] (nxt E sl) || wd [100,101,102,97,117,108,116] (nxt E sl)) = q2:=(qS0 _).symm.trans hq3
    rw [hq2,hq4,hwr] at hm
    have hrd:=hR
    obtain ⟨rv,r1,r2⟩:=hrd
    obtain ⟨c0,c1,c2,c3,c4,f0⟩:=r1.five
    rw [hwr] at c3
    have hrowi:=KI.refl w.heap.size wr.heap.size wr
    clear hq2 hq4 r1 r2
    go_wp2_with fail
    refine (cI (hR.alloc _) hE (xs:=[⟨#[125]⟩]) (Own.new wr _ _) 1 rfl (by omega) q hq).mono ?_
    rintro en w1 ⟨rfl,hR2,hb⟩
    have hs1:=(((Kp.refl r wr).alloc _).trans (Kp.of hb)).size
    replace hrowi:=hrowi.kp (by omega) (((Kp.refl r _).alloc _).trans (Kp.of hb)) (by omega)
    replace hK:=(hK.alloc _).trans (Kp.of hb)
    replace hR:=hR2
    clear hb hR2 hq c0 c1 c2 c3 c4 f0
    cases q with
    | true =>
     rw [if_neg (fun h=>by simp at h)] at hm
     cases hm
     go_wp2
     go_ret
     exact ⟨_,rfl,hrow.ki hrowi (Nat.le_refl _),hR,hK⟩
    | false=>?_
    go_wp2_with fail
    refine (cW (hR.alloc _) hE (xs:=[⟨#[99,97,115,101]⟩,⟨#[100,101,102,97,117,108,116]⟩]) (Own.new w1 _ _) 2 rfl (by omega) q2 hq3).mono ?_
    rintro en w2 ⟨rfl,hR2,hb⟩
    have hs2:=(((Kp.refl r w1).alloc _).trans (Kp.of hb)).size
    replace hrowi:=hrowi.kp (by omega) (((Kp.refl r _).alloc _).trans (Kp.of hb)) (by omega)
    replace hK:=(hK.alloc _).trans (Kp.of hb)
    replace hR:=hR2
    clear hb hR2 hq3
    cases q2 with
    | true =>
     rw [if_neg (fun h=>by simp at h)] at hm
     cases hm
     go_wp2
     go_ret
     exact ⟨_,rfl,hrow.ki hrowi (Nat.le_refl _),hR,hK⟩
    | false=>?_
    rw [if_pos (by simp)] at hm
    obtain ⟨t1,s3,h3,h4⟩:=aE hm
    have hrow0:=hrow.ki hrowi (Nat.le_refl _)
    clear hm hrowi
    go_wp2_with fail
    refine (HP _ _ _ _ _ _ _ hR hE hd h3).mono ?_
    rintro en w5 ⟨k1,a1,b1,n1x,v1,rfl,n1,hR2,hK2⟩
    have hs5:=hK2.size
    replace hR:=hR2.alloc (.cells (nD k1 a1 b1 n1x v1) 25)
    have hK4:=hK2.alloc (.cells (nD k1 a1 b1 n1x v1) 25)
    replace hK:=hK.trans hK4
    have hcs:=(n1.row fun x=>x.alloc (.cells (nD k1 a1 b1 n1x v1) 25)).cells
    have hb:=Own.new w5 (nD k1 a1 b1 n1x v1) 25
    have hal:acc.length + 1≤1000000000:=by omega
    have hww:w2.heap.size≤(w5.alloc (.cells (nD k1 a1 b1 n1x v1) 25)).heap.size:=by rw [World.size_alloc]; omega
    have hkeep:∀ (g:Nat) (cur:Array Value),w.heap.size≤g→Own w2 g cur 25→Own (w5.alloc (.cells (nD k1 a1 b1 n1x v1) 25)) g cur 25:=fun g cur hg ho=>ho.kp hK4 (by omega)
    have hbs:w.heap.size≤w2.heap.size:=by omega
    have hwg:∀ k:Nat,w.heap.size≤k→r < k:=fun k hk=>by omega
    clear hK2 hR2 h3 hK4 hs5
    go_wp2_with (at_builtin; refine fB rfl (.tmp 25) (.tmp 28) rfl w.heap.size _ acc rfl w2 hrow0 hkeep [t1] 1 1 rfl w5.heap.size rfl _ hb hcs hal hbs hww ?_; intro v' w6 hrow' gz hvb)
    have hR6:=hR.grown gz (fun k hk=>hwg k (hvb k hk).1)
    have hK6:=hK.grown gz (fun k hk=>(hvb k hk).1)
    go_roundg gk
    case rel=>exact ⟨acc ++ [t1],s3,h4,hR6,hrow',hK6,by rw [List.length_append]; simp; omega⟩
    case measure=>omega
  rw [if_neg (fun h=>hwr h.1)] at hm
  have hrd:=hR
  obtain ⟨rv,r1,r2⟩:=hrd
  obtain ⟨c0,c1,c2,c3,c4,f0⟩:=r1.five
  have hf:((sl.wrong:Int) == 0) = false:=by simp; omega
  generalize hgq:(sl.wrong:Int) = wq at c3 hf
  clear r1 r2 hgq hwr
  cases hm
  go_wp2
  go_ret
  exact ⟨_,rfl,hrow,hR,hK⟩
def pC (w:World) (r E d:Nat) (t:Tree) (s':St) (en:Ending) (w':World):Prop:=∃ t' k a b n v,en = .returned (.agg (nD k a b n v))∧bV w' w.heap.size t' k a b n v∧(s'.wrong = 0→t' = t)∧ZAt w' r E d s'∧Kp r w w'
def cY (fn:Nat) (m:P Tree):Prop:=∀ (w:World) (r E d:Nat) (s:St) (t:Tree) (s':St),ZAt w r E d s→E≤1048576→m E d s = some (t,s')→Calls Tryz.prog fn #[.pointer (some ⟨r,0,none⟩)] w (pC w r E d t s')
theorem cU {q:Tok→Bool} {E d:Nat} {s s':St} {t:Tok} (h:cZ q E d s = some (t,s')):(q (nxt E s) = true∧t = nxt E s∧s' = aS s)∨(q (nxt E s) = false∧t = noT∧s' = bD E s):=by
 unfold cZ eT eQ at h
 simp only [] at h
 cases hq:q (nxt E s) with
 | true=>rw [hq] at h; cases h; exact .inl ⟨rfl,rfl,rfl⟩
 | false=>rw [hq] at h; cases h; exact .inr ⟨rfl,rfl,rfl⟩
theorem uV {d:Nat} {t:Tok} {s:St} (h:s.wrong = 0→d ≠ 64):eL d t s = s:=by
 unfold eL
 split
 · rename_i hd
   exact gM fun h0=>h h0 hd
 rfl
theorem sN (E:Nat) (s:St):bD E (bD E s) = bD E s:=by
 show eO _ 40 (bD E s) = bD E s
 exact gM bS
theorem ZAt.low {w w':World} {r E d:Nat} {s:St} (h:ZAt w r E d s) (hk:∀ g,g≤r→w'.heap[g]? = w.heap[g]?):ZAt w' r E d s:=by
 obtain ⟨v,L,a,dd,pl,ho,ht,hr⟩:=h
 exact ⟨v,L,a,dd,pl,(hk r (Nat.le_refl _)).trans ho,ht.on fun g hg=>hk g (Nat.le_of_lt hg),hr⟩
theorem ZAt.set {w:World} {r E d g:Nat} {s:St} (h:ZAt w r E d s) (hg:r < g) (i:Nat) (u:Value):ZAt (w.setCell ⟨g,i,none⟩ u) r E d s:=h.low fun b hb=>Below.heap_setCell w ⟨g,i,none⟩ u b (by show b ≠ g; omega)
theorem ZAt.set5 {w:World} {r E d g:Nat} {s:St} (h:ZAt w r E d s) (hg:r < g) (b0 b1 b2 b3 b4:Value):ZAt (((((w.setCell ⟨g,0,none⟩ b0).setCell ⟨g,1,none⟩ b1).setCell ⟨g,2,none⟩ b2).setCell ⟨g,3,none⟩ b3).setCell ⟨g,4,none⟩ b4) r E d s:=((((h.set hg 0 b0).set hg 1 b1).set hg 2 b2).set hg 3 b3).set hg 4 b4
theorem ZAt.up {w:World} {r E d:Nat} {s:St} (h:ZAt w r E (d + 1) s):∃ (v:Value) (a:Nat) (dd pl:Int),Own w r #[v,.int .i64 (a:Int),.int .i64 (E:Int),.int .i64 dd,.int .i64 (s.wrong:Int),.int .i64 pl] 61∧∀ w',(∀ g,g < r→w'.heap[g]? = w.heap[g]?)→Own w' r #[v,.int .i64 (a:Int),.int .i64 (E:Int),.int .i64 (wrap64 (dd - 1)),.int .i64 (s.wrong:Int),.int .i64 pl] 61→ZAt w' r E d s:=by
 obtain ⟨v,L,a,dd,pl,ho,ht,hwf,ha,hs⟩:=h
 refine ⟨v,a,dd,pl,ho,fun w' hk ho'=>⟨v,L,a,wrap64 (dd - 1),pl,ho',ht.on hk,hwf,ha,?_⟩⟩
 rcases hs with h | h
 · refine .inl ⟨h.1,h.2.1,?_,by omega⟩
   rw [IntWalk.wrap64_in _ ⟨by omega,by omega⟩]
   omega
 exact .inr h
theorem xA0 {d E:Nat} {s:St} (hw:s.wrong = 0) (hd:d = 64):(inS d E true s).wrong ≠ 0:=by
 unfold inS eL eO aS
 simp [hd,hw]
theorem iV0 {t:Tok} (h:jE t):(eT0.any fun x=>aR (aD x) t) = mQ t:=by
 have e:∀ x:ByteArray,aD x ∉ fY→aR (aD x) t = wd (aD x) t:=fun x hx=>cG h hx
 unfold eT0 mQ
 simp only [List.any_cons,List.any_nil,Bool.or_false]
 rw [e _ (by decide),e _ (by decide),e _ (by decide),e _ (by decide),e _ (by decide)]
 simp only [Bool.or_assoc]
 rfl
theorem sW0 {t:Tok} (h:jE t):(cP0.any fun x=>aR (aD x) t) = nC t:=by
 have e:∀ x:ByteArray,aD x ∉ fY→aR (aD x) t = wd (aD x) t:=fun x hx=>cG h hx
 unfold cP0 nC
 simp only [List.any_cons,List.any_nil,Bool.or_false]
 rw [e _ (by decide),e _ (by decide),e _ (by decide)]
 simp only [Bool.or_assoc]
 rfl
theorem yF0 {rec:P Tree} {E d:Nat} {s s':St} {t:Tree} (hs:sg [91] (nxt E s) = false) (hm:lO rec E d s = some (t,s')) :
    ((nm (nxt E s) || mQ (nxt E s)) = true∧t = ⟨7,((nxt E s).2.2.2.1:Nat),(nxt E s).2.1,0,[]⟩∧s' = aS s)∨((nm (nxt E s) || mQ (nxt E s)) = false∧t = noN∧s' = bD E s):=by
 unfold lO at hm
 replace hm:=aN hm
 cases hn:(nm (nxt E s) || mQ (nxt E s)) with
 | true =>
  rw [hn,if_pos rfl] at hm
  obtain ⟨t0,s0,h1,h2⟩:=aE hm
  obtain ⟨rfl,rfl⟩:=aV h1
  obtain ⟨rfl,rfl⟩:=aJ h2
  exact .inl ⟨rfl,rfl,rfl⟩
 | false=>?_
 rw [hn,if_neg (by simp),hs,if_neg (by simp)] at hm
 cases hm
 exact .inr ⟨rfl,rfl,rfl⟩
theorem yU0 {rec:P Tree} {E d:Nat} {s s':St} {t:Tree} (hs:sg [91] (nxt E s) = true) (hm:lO rec E d s = some (t,s')) :
    ∃ (p:Nat × Nat) (s2 s3:St) (k:Tree),(p,s2) = (if cn (nxt E (inS d E true s)) then ((8,(nxt E (inS d E true s)).2.2.1),aS (inS d E true s)) else ((9,0),inS d E true s))∧s3 = (if sg [93] (nxt E s2) then aS s2 else bD E s2)∧rec E (d + 1) (eL d (nxt E s) s3) = some (k,s')∧t = ⟨p.1,((nxt E s).2.2.2.1:Nat),[],p.2,[k]⟩:=by
 have h4:(nxt E s).1 = 4:=by simp only [sg,Bool.and_eq_true,beq_iff_eq] at hs; exact hs.1
 have hn:(nm (nxt E s) || mQ (nxt E s)) = false:=by
  have:((nxt E s).1 == 1) = false:=by rw [h4]; rfl
  simp [nm,mQ,wd,this]
 unfold lO at hm
 replace hm:=aN hm
 rw [hn,if_neg (by simp),if_pos hs] at hm
 obtain ⟨x,s3,h1,h2⟩:=aE hm
 obtain ⟨k,s4,h3,h5⟩:=aE h2
 obtain ⟨rfl,rfl⟩:=aJ h5
 unfold fM at h1
 obtain ⟨t0,s0,g1,g2⟩:=aE h1
 obtain ⟨_,rfl,rfl⟩:=(cU g1).resolve_right fun q=>by rw [hs] at q; exact absurd q.1 (by simp)
 obtain ⟨p,s2,g3,g4⟩:=aE g2
 obtain ⟨t1,s5,g5,g6⟩:=aE g4
 obtain ⟨rfl,rfl⟩:=aJ g6
 have g3':(eT fun c=>if cn c then bnd dA fun c=>ret (8,c.2.2.1) else ret (9,0)) E (d + 1) (inS d E true s) = some (p,s2):=g3
 refine ⟨p,s2,s5,k,?_,?_,h3,rfl⟩
 · replace g3':=aN g3'
   split at g3'
   · rename_i hc
     obtain ⟨t2,s6,e1,e2⟩:=aE g3'
     obtain ⟨rfl,rfl⟩:=aV e1
     obtain ⟨rfl,rfl⟩:=aJ e2
     rw [if_pos hc]
   rename_i hc
   obtain ⟨rfl,rfl⟩:=aJ g3'
   rw [if_neg hc]
 rcases cU g5 with ⟨q,_,rfl⟩ | ⟨q,_,rfl⟩
 · rw [q]; rfl
 rw [q]; rfl
end Go.Proofs.YtnipenijihkgdaaGreatDoor
