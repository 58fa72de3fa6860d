import Derived.Test.YtnipenijihkgdaaGreatDoorNd
import Derived.Test.YtnipenijihkgdaaGreatDoorJPart3
import Derived.Test.YtnipenijihkgdaaGreatDoorJXEnd
import Derived.Test.YtnipenijihkgdaaGreatDoorQ8
import Derived.Test.YtnipenijihkgdaaGreatDoorQ18
import Derived.Test.YtnipenijihkgdaaGreatDoorQ12
set_option maxHeartbeats 4000000
set_option maxRecDepth 100000
namespace Go.Proofs.YtnipenijihkgdaaGreatDoor
open Go.RowKit
set_option linter.unusedVariables false
def dX (m:P Tree) (l:List Nat):Option (Except (Nat × Nat) Tree):=match gC l with
 | .error e=>some (.error e)
 | .ok ts=>nG m l.length ts
def iT (w:World) (R:Except (Nat × Nat) Tree) (en:Ending) (w':World):Prop:=Below w.heap.size w w'∧match R with
 | .error (p,e)=>en = .returned (.tuple #[.agg nZ,.int .i64 (p:Int),.int .i64 (e:Int)])
 | .ok t=>∃ k a b n v,en = .returned (.tuple #[.agg (nD k a b n v),.int .i64 0,.int .i64 0])∧bV w' w.heap.size t k a b n v
theorem vV0 {r:List Nat} {e:Nat} (h:jI r = .error e):e ≠ 0:=by
 unfold jI at h
 repeat' (first | (cases h; decide; done) | (cases h; done) | split at h)
theorem qZ0 : ∀ (f:Nat) (l:List Nat) (p:Option Nat) (e:Nat),dV f l = .error (p,e)→e ≠ 0:=by
 intro f
 induction f with
 | zero=>intro l p e h; simp [dV] at h; omega
 | succ f ih=>?_
 intro l p e h
 cases l with
 | nil=>simp [dV] at h; omega
 | cons c r=>?_
 unfold dV at h
 split at h
 · cases h; decide
 split at h
 · cases h
 split at h
 · cases hr:dV f r with
   | error x =>
    obtain ⟨q,e2⟩:=x
    have:=ih _ _ _ hr
    rw [hr] at h
    cases q <;> cases h <;> exact this
   | ok x=>obtain ⟨o1,n1⟩:=x; rw [hr] at h; cases h
 cases he:jI r with
 | error e2 =>
  have:=vV0 he
  rw [he] at h
  simp only at h
  split at h
  · cases h; decide
  cases h; exact this
 | ok x=>?_
 obtain ⟨b,k⟩:=x
 rw [he] at h
 simp only at h
 cases hr:dV f (r.drop (k - 1)) with
 | error x =>
  obtain ⟨q,e2⟩:=x
  have:=ih _ _ _ hr
  rw [hr] at h
  cases q <;> cases h <;> exact this
 | ok x=>obtain ⟨o1,n1⟩:=x; rw [hr] at h; cases h
theorem uM0 (l:List Nat) (p e:Nat) (h:eU l = .error (p,e)):e ≠ 0:=by
 cases l with
 | nil=>simp [eU] at h; omega
 | cons c r=>?_
 unfold eU at h
 simp only at h
 split at h
 · cases h
 split at h
 · split at h
   · cases h
   cases h; decide
 split at h
 · cases hr:dV (r.length + 1) r with
   | error x =>
    obtain ⟨q,e2⟩:=x
    have:=qZ0 _ _ _ _ hr
    rw [hr] at h
    cases q <;> cases h <;> exact this
   | ok x=>obtain ⟨o1,n1⟩:=x; rw [hr] at h; cases h
 cases hs:kD (c :: r) with
 | none=>rw [hs] at h; cases h; decide
 | some x=>rw [hs] at h; cases h
theorem uA0 : ∀ (f k at0:Nat) (l:List Nat) (p e:Nat),iS f k at0 l = .error (p,e)→e ≠ 0:=by
 intro f
 induction f with
 | zero=>intro k at0 l p e h; simp [iS] at h
 | succ f ih=>?_
 intro k at0 l p e h
 unfold iS at h
 simp only at h
 split at h
 · cases h
 split at h
 · cases h; decide
 cases ho:eU (l.drop (aP false l)) with
 | error x =>
  obtain ⟨q,e2⟩:=x
  have:=uM0 _ _ _ ho
  rw [ho] at h
  cases h; exact this
 | ok x=>?_
 obtain ⟨kd,tx,n,len⟩:=x
 rw [ho] at h
 simp only at h
 cases hr:iS f (k + 1) (at0 + aP false l + len) (l.drop (aP false l + len)) with
 | error x=>rw [hr] at h; cases h; exact ih _ _ _ _ _ hr
 | ok us=>rw [hr] at h; cases h
theorem nU (l:List Nat) (p e:Nat) (h:gC l = .error (p,e)):e ≠ 0:=by
 unfold gC at h
 split at h
 · cases h; decide
 exact uA0 _ _ _ _ _ _ h
theorem wT {fn:Nat} {m:P Tree} {c:Nat} (hc:c≤1000000000) (hfn:mE fn) (HP:bH fn m c) (s:ByteArray) (h:s.size≤1048576) (R:Except (Nat × Nat) Tree) (HR:Hid (dX m (aD s) = some R)) (w:World) (hL:jM w) :
    Calls Tryz.prog 21 #[.string s,.func (.func fn) #[] #[]] w (iT w R):=by
 cases htk:gC (aD s) with
 | error x =>
  obtain ⟨p,e⟩:=x
  have HRR:Hid (R = .error (p,e)):=by have:=HR.out; unfold dX at this; rw [htk] at this; exact (Option.some.inj this).symm
  have hne:((e:Int) != 0) = true:=by have:=nU _ _ _ htk; simp; omega
  have HT:=hI htk
  clear htk HR
  go_enter Tryz.func21,Tryz.ntmps21
  go_wp2_with fail
  refine (tG s h _ HT _ (hL.on ((Below.refl _ _).alloc (Nat.le_refl _) _))).mono ?_
  rintro en w1 hg
  obtain ⟨rfl,hb⟩:en = .returned (.tuple #[.slice none 0 0,.int .i64 (p:Int),.int .i64 (e:Int)])∧Below _ _ w1:=hg
  have o:=(Own.new w nZ 25).below hb
  obtain ⟨o0,o1,o2,o3,o4,of⟩:=o.five
  have hb2:Below w.heap.size w w1:=((Below.refl _ _).alloc (Nat.le_refl _) _).trans (hb.mono (by rw [World.size_alloc]; omega))
  go_wp2_with (refine aF rfl (.tmp 4) (.tmp 20) rfl rfl w.heap.size rfl rfl o ⟨rfl,rfl,rfl,rfl,rfl⟩ ?_; intro wz oz gz)
  refine aM (t:=25) rfl rfl rfl oz Tryz.underlying25 rfl (by kernel_rfl) ?_
  refine ⟨hb2.trans ⟨gz.os,gz.tape,gz.output,gz.size,fun k hk=>gz.block k (Nat.lt_of_lt_of_le hk hb2.size) (by intro q; have:=Option.some.inj q; omega)⟩,?_⟩
  rw [HRR.out]
  rfl
 | ok ts=>?_
 have HT:=hI htk
 obtain ⟨hgl,hgt⟩:=iO _ _ htk (dO s)
 have hRd:nG m s.size ts = some R:=by have:=HR.out; unfold dX at this; rw [htk,aK] at this; exact this
 unfold nG at hRd
 match hm:m s.size 0 ⟨ts,0,0⟩,hRd with
 | some (t,s'),hRd =>
 have HR2:Hid ((let s1:=if s'.rest.isEmpty then s' else bD s.size s'; if s1.wrong = 0 then Except.ok t else .error (s1.place,s1.wrong)) = R):=Option.some.inj hRd
 clear htk HR hRd
 have hfn2:∀ (a:Array Value) (w:World),(callFunc fn a).run Tryz.prog w = .ok (.enter fn a) w:=hfn
 go_enter Tryz.func21,Tryz.ntmps21
 go_wp2_with fail
 refine (tG s h _ HT _ (hL.on ((Below.refl _ _).alloc (Nat.le_refl _) _))).mono ?_
 rintro en w1 hg
 obtain ⟨v,rfl,hown,hb⟩:∃ v,en = .returned (.tuple #[v,.int .i64 0,.int .i64 0])∧w1.ownsRow _ 65 5 v ts.length (gH ts)∧Below _ _ w1:=hg
 have o:=(Own.new w nZ 25).below hb
 have hb2:Below w.heap.size w w1:=((Below.refl _ _).alloc (Nat.le_refl _) _).trans (hb.mono (by rw [World.size_alloc]; omega))
 have hsw:=hb2.size
 have hol:=o.lt
 have hTI:iH w1 w1.heap.size v ts:=by
  rcases hown.2 with ⟨rfl,h0⟩ | ⟨g,cap,cur,rfl,hg,ho,r1,r2,r3,r4⟩
  · exact ⟨none,0,by rw [h0],by omega,by omega,by omega,hgt,.inl (List.eq_nil_of_length_eq_zero h0)⟩
  refine ⟨_,cap,rfl,r1,by unfold maxLen at r2; omega,by omega,hgt,.inr ⟨g,0,cur,(0,0),rfl,(Array.getElem?_eq_some_iff.1 ho).1,ho,fun j hj=>?_⟩⟩
  rw [Nat.zero_add,← r4,List.getElem?_take,if_pos hj,Array.getElem?_toList]
 obtain ⟨ao,cap,rfl⟩:∃ ao cap,v = .slice ao ts.length cap:=by obtain ⟨ao,cap,q,_⟩:=hTI; exact ⟨ao,cap,q⟩
 have hz:(s.size:Int)≤1048576:=by omega
 clear hown HT
 go_upto_region 5 with fail
 have hR:cF (w1.alloc (.cells #[.slice ao ts.length cap,.int .i64 (s.size:Int),.int .i64 0,.int .i64 0,.int .i64 0] 57)) w1.heap.size s.size 0 ⟨ts,0,0⟩:=⟨_,Own.new w1 _ _,hTI.on fun g hg=>Below.heap_alloc w1 _ g hg⟩
 replace o:=o.alloc (.cells #[.slice ao ts.length cap,.int .i64 (s.size:Int),.int .i64 0,.int .i64 0,.int .i64 0] 57)
 have hb3:Below w.heap.size w (w1.alloc (.cells #[.slice ao ts.length cap,.int .i64 (s.size:Int),.int .i64 0,.int .i64 0,.int .i64 0] 57)):=hb2.alloc hsw _
 have hs2:w1.heap.size < (w1.alloc (.cells #[.slice ao ts.length cap,.int .i64 (s.size:Int),.int .i64 0,.int .i64 0,.int .i64 0] 57)).heap.size:=by rw [World.size_alloc]; omega
 generalize hw:w1.alloc (.cells #[.slice ao ts.length cap,.int .i64 (s.size:Int),.int .i64 0,.int .i64 0,.int .i64 0] 57) = w2 at hR o hb3 hs2 ⊢
 clear hw hTI hb hb2
 have hK:=Kp.refl w1.heap.size w2
 obtain ⟨r,hr⟩:=iQ (w1.heap.size)
 rw [hr] at hR hK hs2 hsw hol ⊢
 clear hr
 have hrl:=hR.lt
 go_wp2_with fail
 refine (HP _ _ _ _ _ _ _ hR (by omega) (by omega) hm).mono ?_
 rintro en w3 ⟨k1,a1,b1,n1x,v1,rfl,n1,hR2,hK2⟩
 obtain ⟨ao_n1,cap_n1,rfl⟩:=n1.2.2.2.2.shape
 have hs3:=(((Kp.refl r w2)).trans hK2).size
 replace o:=o.kp hK2 (by omega)
 replace hK:=hK.trans hK2
 replace hR:=hR2
 clear hK2 hR2
 have n1i:=KI.refl w2.heap.size w3.heap.size w3
 go_upto_region 6 with fail
 have hznd:=hR.lt
 have hknd:=hK.size
 have nd:=Own.new w3 (nQ k1 a1 b1 n1x ao_n1 t cap_n1) 25
 obtain ⟨hR,hK,o⟩:=(fun y9=>And.intro (hR.alloc y9) (And.intro (hK.alloc y9) (o.alloc y9))) (.cells (nQ k1 a1 b1 n1x ao_n1 t cap_n1) 25)
 replace n1i:=n1i.alloc (by omega) (.cells (nQ k1 a1 b1 n1x ao_n1 t cap_n1) 25)
 generalize w3.alloc _ = w4 at hR hK nd o n1i ⊢
 have hs4:=nd.lt
 go_wp2_with fail
 refine (qP0 hR).mono ?_
 rintro en _ ⟨rfl,rfl⟩
 cases hie:s'.rest.isEmpty with
 | false =>
  have HR3:Hid ((if (bD s.size s').wrong = 0 then Except.ok t else .error ((bD s.size s').place,(bD s.size s').wrong)) = R):=by have:=HR2.out; rw [hie] at this; exact this
  clear hie HR2
  go_wp2_with fail
  refine (qK hR (by omega)).mono ?_
  rintro en w5 ⟨⟨_,rfl⟩,hR2,hK2⟩
  have hs5:=(((Kp.refl r w4)).trans hK2).size
  replace o:=o.kp hK2 (by omega)
  replace nd:=nd.kp hK2 (by omega)
  replace n1i:=n1i.kp (by omega) (((Kp.refl r _)).trans hK2) (by omega)
  replace hK:=hK.trans hK2
  replace hR:=hR2
  clear hK2 hR2
  obtain ⟨vv,hv1,hv2⟩:=id hR
  obtain ⟨y0,y1,y2,y3,y4,yf⟩:=hv1.five
  clear hv1 hv2
  by_cases hw0:(bD s.size s').wrong = 0
  · rw [hw0] at y3
    have HR4:Hid (Except.ok t = R):=by have:=HR3.out; rw [if_pos hw0] at this; exact this
    clear hw0
    obtain ⟨nd0,nd1,nd2,nd3,nd4,ndf⟩:=nd.five
    go_wp2_with (refine aF rfl (.tmp 4) (.tmp 53) rfl rfl w.heap.size rfl rfl o ⟨rfl,rfl,rfl,rfl,rfl⟩ ?_; intro wz oz gz)
    refine aM (t:=25) rfl rfl rfl oz Tryz.underlying25 rfl (by kernel_rfl) ?_
    have hb4:=Below.kp hb3 (by omega) hK
    refine ⟨hb4.trans ⟨gz.os,gz.tape,gz.output,gz.size,fun k hk=>gz.block k (Nat.lt_of_lt_of_le hk hb4.size) (by intro q; have:=Option.some.inj q; omega)⟩,?_⟩
    rw [← HR4.out]
    exact ⟨_,_,_,_,_,rfl,(n1.ki (n1i.grown (by omega) gz (by omega)) (Nat.le_refl _)).mono (by omega)⟩
  have HR4:Hid (Except.error ((bD s.size s').place,(bD s.size s').wrong) = R):=by have:=HR3.out; rw [if_neg hw0] at this; exact this
  have hwn:(((bD s.size s').wrong:Int) != 0) = true:=by simp; omega
  obtain ⟨wi,hwi⟩:∃ wi:Int,((bD s.size s').wrong:Int) = wi:=⟨_,rfl⟩
  obtain ⟨pi,hpi⟩:∃ pi:Int,((bD s.size s').place:Int) = pi:=⟨_,rfl⟩
  have HWI:=hI hwi
  have HPI:=hI hpi
  rw [hwi] at y3 hwn
  rw [hpi] at y4
  clear hwi hpi hw0
  have hob:=o.lt
  obtain ⟨o0,o1,o2,o3,o4,of⟩:=o.five
  go_wp2_with fail
  go_region
  all_goals
   go_wp2
   refine aM (t:=25) rfl rfl rfl (o.drew.set5 _ _ _ _ _) Tryz.underlying25 rfl (by kernel_rfl) ?_
   have hb4:=Below.kp hb3 (by omega) hK.drew
   refine ⟨cA hb4 (Nat.le_refl _),?_⟩
   rw [← HR4.out]
   show _ = Ending.returned (.tuple #[.agg _,.int .i64 ((bD s.size s').place:Int),.int .i64 ((bD s.size s').wrong:Int)])
   rw [HWI.out,HPI.out]
   rfl
 | true=>?_
 have HR3:Hid ((if s'.wrong = 0 then Except.ok t else .error (s'.place,s'.wrong)) = R):=by have:=HR2.out; rw [hie] at this; exact this
 clear hie HR2
 obtain ⟨vv,hv1,hv2⟩:=id hR
 obtain ⟨y0,y1,y2,y3,y4,yf⟩:=hv1.five
 clear hv1 hv2
 by_cases hw0:s'.wrong = 0
 · rw [hw0] at y3
   have HR4:Hid (Except.ok t = R):=by have:=HR3.out; rw [if_pos hw0] at this; exact this
   clear hw0
   obtain ⟨nd0,nd1,nd2,nd3,nd4,ndf⟩:=nd.five
   go_wp2_with (refine aF rfl (.tmp 4) (.tmp 53) rfl rfl w.heap.size rfl rfl o ⟨rfl,rfl,rfl,rfl,rfl⟩ ?_; intro wz oz gz)
   refine aM (t:=25) rfl rfl rfl oz Tryz.underlying25 rfl (by kernel_rfl) ?_
   have hb4:=Below.kp hb3 (by omega) hK
   refine ⟨hb4.trans ⟨gz.os,gz.tape,gz.output,gz.size,fun k hk=>gz.block k (Nat.lt_of_lt_of_le hk hb4.size) (by intro q; have:=Option.some.inj q; omega)⟩,?_⟩
   rw [← HR4.out]
   exact ⟨_,_,_,_,_,rfl,(n1.ki (n1i.grown (by omega) gz (by omega)) (Nat.le_refl _)).mono (by omega)⟩
 have HR4:Hid (Except.error (s'.place,s'.wrong) = R):=by have:=HR3.out; rw [if_neg hw0] at this; exact this
 have hwn:((s'.wrong:Int) != 0) = true:=by simp; omega
 obtain ⟨wi,hwi⟩:∃ wi:Int,(s'.wrong:Int) = wi:=⟨_,rfl⟩
 obtain ⟨pi,hpi⟩:∃ pi:Int,(s'.place:Int) = pi:=⟨_,rfl⟩
 have HWI:=hI hwi
 have HPI:=hI hpi
 rw [hwi] at y3 hwn
 rw [hpi] at y4
 clear hwi hpi hw0
 have hob:=o.lt
 obtain ⟨o0,o1,o2,o3,o4,of⟩:=o.five
 go_wp2_with fail
 go_region
 all_goals
  go_wp2
  refine aM (t:=25) rfl rfl rfl (o.drew.set5 _ _ _ _ _) Tryz.underlying25 rfl (by kernel_rfl) ?_
  have hb4:=Below.kp hb3 (by omega) hK.drew
  refine ⟨cA hb4 (Nat.le_refl _),?_⟩
  rw [← HR4.out]
  show _ = Ending.returned (.tuple #[.agg _,.int .i64 (s'.place:Int),.int .i64 (s'.wrong:Int)])
  rw [HWI.out,HPI.out]
  rfl
theorem eQ0 {m:P Tree} {c:Nat} (hc:c≤1000000000) (HP:bH 22 m c) (s:ByteArray) (h:s.size≤1048576) (R:Except (Nat × Nat) Tree) (HR:Hid (dX m (aD s) = some R)) (w:World) (hL:jM w) :
    Calls Tryz.prog 6 #[.string s] w (iT w R):=by
 have hf:=gE0
 go_enter Tryz.func6,Tryz.ntmps6
 go_wp2_with fail
 refine (wT hc hf HP s h R HR _ (hL.on ((Below.refl _ _).alloc (Nat.le_refl _) _))).mono ?_
 rintro en w1 ⟨hb,hg⟩
 have o:=(Own.new w nZ 25).below hb
 have hb2:Below w.heap.size w w1:=((Below.refl _ _).alloc (Nat.le_refl _) _).trans (hb.mono (by rw [World.size_alloc]; omega))
 have hsx:=hb.size
 rw [World.size_alloc] at hsx
 cases R with
 | error x =>
  obtain ⟨p,e⟩:=x
  obtain rfl:en = .returned (.tuple #[.agg nZ,.int .i64 (p:Int),.int .i64 (e:Int)]):=hg
  go_wp2_with (refine aF rfl (.tmp 2) (.tmp 7) rfl rfl w.heap.size rfl rfl o ⟨rfl,rfl,rfl,rfl,rfl⟩ ?_; intro wz oz gz)
  refine aM (t:=25) rfl rfl rfl oz Tryz.underlying25 rfl (by kernel_rfl) ?_
  exact ⟨hb2.trans ⟨gz.os,gz.tape,gz.output,gz.size,fun k hk=>gz.block k (Nat.lt_of_lt_of_le hk hb2.size) (by intro q; have:=Option.some.inj q; omega)⟩,rfl⟩
 | ok t=>?_
 obtain ⟨k,a,b,n,v,rfl,hN⟩:∃ k a b n v,en = .returned (.tuple #[.agg (nD k a b n v),.int .i64 0,.int .i64 0])∧bV w1 _ t k a b n v:=hg
 rw [World.size_alloc] at hN
 go_wp2_with (refine aF rfl (.tmp 2) (.tmp 7) rfl rfl w.heap.size rfl rfl o ⟨rfl,rfl,rfl,rfl,hN.2.2.2.2.one1⟩ ?_; intro wz oz gz)
 refine aM (t:=25) rfl rfl rfl oz Tryz.underlying25 rfl (by kernel_rfl) ?_
 exact ⟨hb2.trans ⟨gz.os,gz.tape,gz.output,gz.size,fun k hk=>gz.block k (Nat.lt_of_lt_of_le hk hb2.size) (by intro q; have:=Option.some.inj q; omega)⟩,_,_,_,_,_,rfl,(hN.row fun x=>x.grown gz (by omega)).mono (by omega)⟩
theorem sV0 {m:P Tree} {c:Nat} (hc:c≤1000000000) (HP:bH 25 m c) (s:ByteArray) (h:s.size≤1048576) (R:Except (Nat × Nat) Tree) (HR:Hid (dX m (aD s) = some R)) (w:World) (hL:jM w) :
    Calls Tryz.prog 12 #[.string s] w (iT w R):=by
 have hf:=mR
 go_enter Tryz.func12,Tryz.ntmps12
 go_wp2_with fail
 refine (wT hc hf HP s h R HR _ (hL.on ((Below.refl _ _).alloc (Nat.le_refl _) _))).mono ?_
 rintro en w1 ⟨hb,hg⟩
 have o:=(Own.new w nZ 25).below hb
 have hb2:Below w.heap.size w w1:=((Below.refl _ _).alloc (Nat.le_refl _) _).trans (hb.mono (by rw [World.size_alloc]; omega))
 have hsx:=hb.size
 rw [World.size_alloc] at hsx
 cases R with
 | error x =>
  obtain ⟨p,e⟩:=x
  obtain rfl:en = .returned (.tuple #[.agg nZ,.int .i64 (p:Int),.int .i64 (e:Int)]):=hg
  go_wp2_with (refine aF rfl (.tmp 2) (.tmp 7) rfl rfl w.heap.size rfl rfl o ⟨rfl,rfl,rfl,rfl,rfl⟩ ?_; intro wz oz gz)
  refine aM (t:=25) rfl rfl rfl oz Tryz.underlying25 rfl (by kernel_rfl) ?_
  exact ⟨hb2.trans ⟨gz.os,gz.tape,gz.output,gz.size,fun k hk=>gz.block k (Nat.lt_of_lt_of_le hk hb2.size) (by intro q; have:=Option.some.inj q; omega)⟩,rfl⟩
 | ok t=>?_
 obtain ⟨k,a,b,n,v,rfl,hN⟩:∃ k a b n v,en = .returned (.tuple #[.agg (nD k a b n v),.int .i64 0,.int .i64 0])∧bV w1 _ t k a b n v:=hg
 rw [World.size_alloc] at hN
 go_wp2_with (refine aF rfl (.tmp 2) (.tmp 7) rfl rfl w.heap.size rfl rfl o ⟨rfl,rfl,rfl,rfl,hN.2.2.2.2.one1⟩ ?_; intro wz oz gz)
 refine aM (t:=25) rfl rfl rfl oz Tryz.underlying25 rfl (by kernel_rfl) ?_
 exact ⟨hb2.trans ⟨gz.os,gz.tape,gz.output,gz.size,fun k hk=>gz.block k (Nat.lt_of_lt_of_le hk hb2.size) (by intro q; have:=Option.some.inj q; omega)⟩,_,_,_,_,_,rfl,(hN.row fun x=>x.grown gz (by omega)).mono (by omega)⟩
theorem sO0 {m:P Tree} {c:Nat} (hc:c≤1000000000) (HP:bH 26 m c) (s:ByteArray) (h:s.size≤1048576) (R:Except (Nat × Nat) Tree) (HR:Hid (dX m (aD s) = some R)) (w:World) (hL:jM w) :
    Calls Tryz.prog 13 #[.string s] w (iT w R):=by
 have hf:=xT
 go_enter Tryz.func13,Tryz.ntmps13
 go_wp2_with fail
 refine (wT hc hf HP s h R HR _ (hL.on ((Below.refl _ _).alloc (Nat.le_refl _) _))).mono ?_
 rintro en w1 ⟨hb,hg⟩
 have o:=(Own.new w nZ 25).below hb
 have hb2:Below w.heap.size w w1:=((Below.refl _ _).alloc (Nat.le_refl _) _).trans (hb.mono (by rw [World.size_alloc]; omega))
 have hsx:=hb.size
 rw [World.size_alloc] at hsx
 cases R with
 | error x =>
  obtain ⟨p,e⟩:=x
  obtain rfl:en = .returned (.tuple #[.agg nZ,.int .i64 (p:Int),.int .i64 (e:Int)]):=hg
  go_wp2_with (refine aF rfl (.tmp 2) (.tmp 7) rfl rfl w.heap.size rfl rfl o ⟨rfl,rfl,rfl,rfl,rfl⟩ ?_; intro wz oz gz)
  refine aM (t:=25) rfl rfl rfl oz Tryz.underlying25 rfl (by kernel_rfl) ?_
  exact ⟨hb2.trans ⟨gz.os,gz.tape,gz.output,gz.size,fun k hk=>gz.block k (Nat.lt_of_lt_of_le hk hb2.size) (by intro q; have:=Option.some.inj q; omega)⟩,rfl⟩
 | ok t=>?_
 obtain ⟨k,a,b,n,v,rfl,hN⟩:∃ k a b n v,en = .returned (.tuple #[.agg (nD k a b n v),.int .i64 0,.int .i64 0])∧bV w1 _ t k a b n v:=hg
 rw [World.size_alloc] at hN
 go_wp2_with (refine aF rfl (.tmp 2) (.tmp 7) rfl rfl w.heap.size rfl rfl o ⟨rfl,rfl,rfl,rfl,hN.2.2.2.2.one1⟩ ?_; intro wz oz gz)
 refine aM (t:=25) rfl rfl rfl oz Tryz.underlying25 rfl (by kernel_rfl) ?_
 exact ⟨hb2.trans ⟨gz.os,gz.tape,gz.output,gz.size,fun k hk=>gz.block k (Nat.lt_of_lt_of_le hk hb2.size) (by intro q; have:=Option.some.inj q; omega)⟩,_,_,_,_,_,rfl,(hN.row fun x=>x.grown gz (by omega)).mono (by omega)⟩
theorem bG {w:World} {r E d:Nat} {s:St} (HR:Hid (ZAt w r E d s)) (x:ByteArray) (q:Bool) (hq:aR (aD x) (nxt E s) = q):Calls Tryz.prog 81 #[.pointer (some ⟨r,0,none⟩),.string x] w fun en w'=>en = .returned (.bool q)∧Below w.heap.size w w':=by
 have hg:=(HR.out.nxt_wf 0).1.1
 have HQ:=hI hq
 clear hq
 go_enter Tryz.func81,Tryz.ntmps81
 go_wp2_with fail
 refine (fP HR 0 0 rfl (by omega)).mono ?_
 rintro en w1 ⟨⟨k,b,n,a,e,rfl,hA⟩,hb⟩
 have e1:(b.toList == x.toList) = ((nxt E s).2.1 == aD x):=by rw [hA.2.1]; exact kQ _ hg.1 x
 have hk:=hA.1
 have hB:Below w.heap.size w (w1.alloc (.cells #[.int .u8 k,.string b,.int .u64 n,.int .i64 a,.int .i64 e] 65)):=hb.alloc hb.size _
 clear hA hg
 cases h1:((nxt E s).2.1 == aD x) with
 | false =>
  rw [h1] at e1
  obtain rfl:q = false:=by rw [← HQ.out]; unfold aR; rw [h1]; rfl
  clear h1 hk
  go_wp2
  go_ret
  exact ⟨rfl,hB⟩
 | true=>?_
 rw [h1] at e1
 have hk2:k = ((nxt E s).1:Int):=hk
 by_cases h4:(nxt E s).1 = 4
 · obtain rfl:q = true:=by rw [← HQ.out]; unfold aR; rw [h1,h4]; rfl
   have e2:(k == 4) = true:=by rw [hk2,h4]; rfl
   clear h1 hk hk2 h4
   go_wp2
   go_ret
   exact ⟨rfl,hB⟩
 have e2:(k == 4) = false:=by rw [hk2]; simp; omega
 by_cases h5:(nxt E s).1 = 1
 · obtain rfl:q = true:=by rw [← HQ.out]; unfold aR; rw [h1,h5]; rfl
   have e3:(k == 1) = true:=by rw [hk2,h5]; rfl
   clear h1 hk hk2 h4 h5
   go_wp2
   go_ret
   exact ⟨rfl,hB⟩
 obtain rfl:q = false:=by rw [← HQ.out]; unfold aR; rw [h1]; simp; omega
 have e3:(k == 1) = false:=by rw [hk2]; simp; omega
 clear h1 hk hk2 h4 h5
 go_wp2
 go_ret
 exact ⟨rfl,hB⟩
theorem uZ {x:List Nat} {t:Tok} (h:aR x t = true):t.1 ≠ 0:=by
 unfold aR at h
 simp only [Bool.and_eq_true,Bool.or_eq_true,beq_iff_eq] at h
 omega
theorem ZAt.pop {w:World} {r E d:Nat} {s:St} (h:ZAt w r E d s) (hn:(nxt E s).1 ≠ 0):∃ (v:Value) (a:Nat) (dd pl:Int),Own w r #[v,.int .i64 (a:Int),.int .i64 (E:Int),.int .i64 dd,.int .i64 (s.wrong:Int),.int .i64 pl] 61∧a < 1048576∧dd = (d:Int)∧d≤64∧s.wrong = 0∧∀ w',(∀ g,g < r→w'.heap[g]? = w.heap[g]?)→∀ dd' d':Nat,dd' = d'→d'≤64→Own w' r #[v,.int .i64 ((a:Int) + 1),.int .i64 (E:Int),.int .i64 (dd':Int),.int .i64 (s.wrong:Int),.int .i64 pl] 61→ZAt w' r E d' (aS s):=by
 obtain ⟨v,L,a,dd,pl,ho,ht,hwf,ha,hs⟩:=h
 rcases hs with hs | hs
 · have hlt:a < L.length:=by
    refine Classical.byContradiction fun q=>hn ?_
    rw [show nxt E s = bE E s 0 from rfl,aE0 hs.2.1 0 (by omega)]
   have hlen:L.length≤1048576:=by obtain ⟨ao,cap,_,_,_,hl,_⟩:=ht; exact hl
   refine ⟨v,a,dd,pl,ho,by omega,hs.2.2.1,hs.2.2.2,hs.1,fun w' hk dd' d' hd hd2 ho'=>⟨v,L,a + 1,dd',pl,?_,ht.on hk,hwf,by omega,.inl ⟨hs.1,?_,by rw [hd],hd2⟩⟩⟩
   · rw [show ((a + 1:Nat):Int) = (a:Int) + 1 by omega]; exact ho'
   show s.rest.tail = _
   rw [hs.2.1,List.tail_drop]
 exfalso
 apply hn
 rw [show nxt E s = bE E s 0 from rfl,gS hs.2.1 0]
theorem fS {w:World} {r E d:Nat} {s:St} (HR:Hid (ZAt w r E d s)) (x:ByteArray) (q:Bool) (hq:aR (aD x) (nxt E s) = q):Calls Tryz.prog 121 #[.pointer (some ⟨r,0,none⟩),.string x] w fun en w'=>en = .returned (.bool q)∧ZAt w' r E d (if q then aS s else s)∧Kp r w w':=by
 go_enter Tryz.func121,Tryz.ntmps121
 go_wp2_with fail
 refine (bG HR x q hq).mono ?_
 rintro en w1 ⟨rfl,hb⟩
 have HR1:Hid (ZAt w1 r E d s):=HR.out.below hb
 cases q with
 | false =>
  go_wp2
  go_ret
  exact ⟨rfl,HR1.out,Kp.of hb⟩
 | true=>?_
 have HZ1:ZAt w1 r E d s:=HR1.out
 obtain ⟨v,a,dd,pl,ho,ha,hdd,hd,hw,hpop⟩:=HZ1.pop (uZ hq)
 clear HZ1
 obtain ⟨c0,c1,c2,c3,c4,c5,f0⟩:=ho.six
 have hl:=ho.lt
 have HP:=hI hpop
 have HO:=hI ho
 have HD:=hI hdd
 clear hpop ho hdd hq
 go_wp2
 go_ret
 refine ⟨rfl,?_,((Kp.of hb).trans ((Kp.refl r w1).set (.inr rfl) 1 _))⟩
 refine HP.out _ (fun g hg=>Below.heap_setCell w1 ⟨r,1,none⟩ _ g (by show g ≠ r; omega)) d d rfl hd ?_
 have:=HO.out.set 1 (.int .i64 ((a:Int) + 1))
 rw [HD.out] at this
 exact this
theorem cQ {w:World} {r E d:Nat} {s:St} (HR:Hid (ZAt w r E d s)) (x:ByteArray) (q:Bool) (hq:aR (aD x) (nxt E s) = q):Calls Tryz.prog 88 #[.pointer (some ⟨r,0,none⟩),.string x] w fun en w'=>(∃ v,en = .returned v)∧ZAt w' r E d (if q then aS s else bD E s)∧Kp r w w':=by
 go_enter Tryz.func88,Tryz.ntmps88
 go_wp2_with fail
 refine (fS HR x q hq).mono ?_
 rintro en w1 ⟨rfl,hR1,hK1⟩
 cases q with
 | true =>
  go_wp2
  refine bodyPost_end (results_none rfl _ _ _) rfl ?_
  exact ⟨⟨_,rfl⟩,hR1,hK1⟩
 | false=>?_
 rw [if_neg (by simp)] at hR1
 go_wp2_with fail
 refine (fI hR1 40 40 rfl (by decide)).mono ?_
 rintro en w2 ⟨⟨_,rfl⟩,hR2,hK2⟩
 go_wp2
 refine bodyPost_end (results_none rfl _ _ _) rfl ?_
 exact ⟨⟨_,rfl⟩,hR2,hK1.trans hK2⟩
theorem lC {w:World} {r E d:Nat} {s:St} (HR:Hid (ZAt w r E d s)) (q:Bool) (hq:nm (nxt E s) = q):Calls Tryz.prog 91 #[.pointer (some ⟨r,0,none⟩)] w fun en w'=>en = .returned (.bool q)∧Below w.heap.size w w':=by
 have hwf:jE (nxt E s):=HR.out.nxt_wf 0
 have HQ:=hI hq
 clear hq
 go_enter Tryz.func91,Tryz.ntmps91
 go_wp2_with fail
 refine (fP HR 0 0 rfl (by omega)).mono ?_
 rintro en w1 ⟨⟨k,b,n,a,e,rfl,hA⟩,hb⟩
 have hB:Below w.heap.size w (w1.alloc (.cells #[.int .u8 k,.string b,.int .u64 n,.int .i64 a,.int .i64 e] 65)):=hb.alloc hb.size _
 have hk2:k = ((nxt E s).1:Int):=hA.1
 have hkept:kC (aD b) = kC (nxt E s).2.1:=by rw [hA.2.1]; show kC (aD (bJ (nxt E s).2.1)) = _; rw [gK _ hwf.1.1.1]
 have hN:=vO0 hwf
 clear hA hwf
 by_cases h1:(nxt E s).1 = 1
 · have e2:(k == 1) = true:=by rw [hk2,h1]; rfl
   obtain ⟨c,hc⟩:=iQ (kC (nxt E s).2.1)
   rw [hc] at hkept hN
   obtain rfl:q = !c:=by rw [← HQ.out,← hN,h1]; rfl
   clear hk2 h1 hc hN
   go_wp2_with fail
   refine (sT0 b c hkept _).mono ?_
   rintro en w2 ⟨rfl,hb2⟩
   go_wp2
   go_ret
   exact ⟨rfl,hB.trans (hb2.mono hB.size)⟩
 have e2:(k == 1) = false:=by rw [hk2]; simp; omega
 obtain rfl:q = false:=by rw [← HQ.out,← hN]; (have:((nxt E s).1 == 1) = false:=by simpa using h1); rw [this]; rfl
 clear hk2 h1 hN hkept
 go_wp2
 go_ret
 exact ⟨rfl,hB⟩
theorem jK {w:World} {r E d:Nat} {s:St} (HR:Hid (ZAt w r E d s)) (q:Bool) (hq:nm (nxt E s) = q):Calls Tryz.prog 118 #[.pointer (some ⟨r,0,none⟩)] w fun en w'=>en = .returned (.string (if q then bJ (nxt E s).2.1 else ⟨#[]⟩))∧ZAt w' r E d (if q then aS s else bD E s)∧Kp r w w':=by
 go_enter Tryz.func118,Tryz.ntmps118
 go_wp2_with fail
 refine (lC HR q hq).mono ?_
 rintro en w1 ⟨rfl,hb⟩
 have HR1:Hid (ZAt w1 r E d s):=HR.out.below hb
 cases q with
 | false =>
  go_wp2_with fail
  refine (fI HR1 40 40 rfl (by decide)).mono ?_
  rintro en w2 ⟨⟨_,rfl⟩,hR2,hK2⟩
  go_wp2
  go_ret
  exact ⟨rfl,hR2,(Kp.of hb).trans hK2⟩
 | true=>?_
 go_wp2_with fail
 refine (fP HR1 0 0 rfl (by omega)).mono ?_
 rintro en w2 ⟨⟨k,b,n,a2,e,rfl,hA⟩,hb2⟩
 have HZ2:ZAt w2 r E d s:=ZAt.below HR1.out hb2
 obtain ⟨v,a,dd,pl,ho,ha,hdd,hd,hw,hpop⟩:=HZ2.pop (eN hq)
 obtain ⟨c0,c1,c2,c3,c4,c5,f0⟩:=ho.six
 have hl:=ho.lt
 have HP:=hI hpop
 have HO:=hI ho
 have HD:=hI hdd
 have hbx:b = bJ (nxt E s).2.1:=hA.2.1
 have HB:=hI hbx
 have HK:Hid (Kp r w w2):=(Kp.of hb).trans (Kp.of hb2)
 clear hpop ho hdd hq hA HZ2 hbx
 go_wp2
 go_ret
 refine ⟨by show Ending.returned (.string b) = _; rw [HB.out],?_,HK.out.trans ((Kp.refl r w2).set (.inr rfl) 1 _)⟩
 refine HP.out _ (fun g hg=>Below.heap_setCell w2 ⟨r,1,none⟩ _ g (by show g ≠ r; omega)) d d rfl hd ?_
 have:=HO.out.set 1 (.int .i64 ((a:Int) + 1))
 rw [HD.out] at this
 exact this
def inS (d E:Nat) (q:Bool) (s:St):St:=if q then eL d (nxt E s) (aS s) else bD E s
theorem jY {w:World} {r E d:Nat} {s:St} (HR:Hid (ZAt w r E d s)) (x:ByteArray) (q:Bool) (hq:aR (aD x) (nxt E s) = q):Calls Tryz.prog 86 #[.pointer (some ⟨r,0,none⟩),.string x] w fun en w'=>(∃ v,en = .returned v)∧ZAt w' r E (d + 1) (inS d E q s)∧Kp r w w':=by
 go_enter Tryz.func86,Tryz.ntmps86
 go_wp2_with fail
 refine (bG HR x q hq).mono ?_
 rintro en w1 ⟨rfl,hb⟩
 have HR1:Hid (ZAt w1 r E d s):=HR.out.below hb
 cases q with
 | false =>
  go_wp2_with fail
  refine (fI HR1 40 40 rfl (by decide)).mono ?_
  rintro en w2 ⟨⟨_,rfl⟩,hR2,hK2⟩
  go_wp2
  refine bodyPost_ret (results_none rfl _ _ _) rfl ?_
  exact ⟨⟨_,rfl⟩,hR2.dead bS,(Kp.of hb).trans hK2⟩
 | true=>?_
 have HZ1:ZAt w1 r E d s:=HR1.out
 obtain ⟨v,a,dd,pl,ho,ha,hdd,hd,hw,hpop⟩:=HZ1.pop (uZ hq)
 obtain ⟨c0,c1,c2,c3,c4,c5,f0⟩:=ho.six
 have hl:=ho.lt
 rw [hdd] at c3
 by_cases h64:d = 64
 · have e1:((d:Int) == 64) = true:=by rw [h64]; rfl
   have HS:Hid (inS d E true s = eO (nxt E s).2.2.2.1 41 s):=by
    unfold Hid inS eL eO
    rw [if_pos rfl,if_pos h64,if_pos hw]
    show (if s.wrong = 0 then _ else _) = _
    rw [if_pos hw]
   have H64:=hI h64
   clear hpop ho hdd hq HZ1 h64
   go_wp2_with fail
   refine (fI HR1 41 41 rfl (by decide)).mono ?_
   rintro en w2 ⟨⟨_,rfl⟩,hR2,hK2⟩
   go_wp2
   refine bodyPost_ret (results_none rfl _ _ _) rfl ?_
   refine ⟨⟨_,rfl⟩,?_,(Kp.of hb).trans hK2⟩
   rw [HS.out]
   refine hR2.dead ?_
   unfold eO
   rw [if_pos hw]
   simp
 have e1:((d:Int) == 64) = false:=by simp; omega
 have HS:Hid (inS d E true s = aS s):=by unfold Hid inS eL; rw [if_pos rfl,if_neg h64]
 have HP:=hI hpop
 have HO:=hI ho
 have HD:=hI hdd
 have hd63:d + 1≤64:=by omega
 clear hpop ho hdd hq HZ1 h64
 go_wp2
 refine bodyPost_end (results_none rfl _ _ _) rfl ?_
 refine ⟨⟨_,rfl⟩,?_,(Kp.of hb).trans (((Kp.refl r w1).set (.inr rfl) 3 _).set (.inr rfl) 1 _)⟩
 rw [HS.out]
 refine HP.out _ (fun g hg=>?_) (d + 1) (d + 1) rfl hd63 ?_
 · rw [Below.heap_setCell _ ⟨r,1,none⟩ _ g (by show g ≠ r; omega)]
   exact Below.heap_setCell w1 ⟨r,3,none⟩ _ g (by show g ≠ r; omega)
 have:=(HO.out.set 3 (.int .i64 ((d:Int) + 1))).set 1 (.int .i64 ((a:Int) + 1))
 exact this
theorem kI {w:World} {r E d:Nat} {s:St} (HR:Hid (ZAt w r E (d + 1) s)) (x:ByteArray) (q:Bool) (hq:aR (aD x) (nxt E s) = q):Calls Tryz.prog 120 #[.pointer (some ⟨r,0,none⟩),.string x] w fun en w'=>(∃ v,en = .returned v)∧ZAt w' r E d (if q then aS s else bD E s)∧Kp r w w':=by
 obtain ⟨s1,hs1⟩:=iQ ((if q = true then aS s else bD E s))
 rw [hs1]
 have HS1:=hI hs1
 clear hs1
 go_enter Tryz.func120,Tryz.ntmps120
 go_wp2_with fail
 refine (cQ HR x q hq).mono ?_
 rintro en w1 ⟨⟨_,rfl⟩,hR1,hK1⟩
 rw [HS1.out] at hR1
 clear hq
 obtain ⟨v,L,a,dd,pl,ho,ht,hwf,ha,hs⟩:=hR1
 obtain ⟨c0,c1,c2,c3,c4,c5,f0⟩:=ho.six
 have hl:=ho.lt
 have HO:=hI ho
 have HT:=hI ht
 have HS:=hI hs
 clear ho ht hs
 go_wp2
 refine bodyPost_end (results_none rfl _ _ _) rfl ?_
 refine ⟨⟨_,rfl⟩,⟨v,L,a,wrap64 (dd - 1),pl,HO.out.set 3 _,HT.out.on fun g hg=>Below.heap_setCell w1 ⟨r,3,none⟩ _ g (by show g ≠ r; omega),hwf,ha,?_⟩,hK1.trans ((Kp.refl r w1).set (.inr rfl) 3 _)⟩
 rcases HS.out with h | h
 · refine .inl ⟨h.1,h.2.1,?_,by omega⟩
   rw [IntWalk.wrap64_in _ ⟨by omega,by omega⟩]
   omega
 exact .inr h
theorem gZ (b:ByteArray) (x:List Nat) (HX:Hid (b = bJ x∧(∀ c ∈ x,c < 256)∧x.length≤1048576)) (y:ByteArray):(b.toList == y.data.toList) = (x == aD y) :=
 bL (t:=(0,x,0,0,0)) ⟨HX.out.2.1,HX.out.2.2⟩ (k:=0) (n:=0) (a:=0) (e:=0) ⟨rfl,HX.out.1,rfl,rfl,rfl⟩ y
theorem mJ0 (w:World) (b:ByteArray) (x:List Nat) (HX:Hid (b = bJ x∧(∀ c ∈ x,c < 256)∧x.length≤1048576)):Calls Tryz.prog 101 #[.string b] w fun en w'=>en = .returned (.bool (nS x))∧w = w':=by
 have e1:(b.toList == [105,56]) = (x == [105,56]):=gZ b x HX ⟨#[105,56]⟩
 have e2:(b.toList == [105,51,50]) = (x == [105,51,50]):=gZ b x HX ⟨#[105,51,50]⟩
 have e3:(b.toList == [105,54,52]) = (x == [105,54,52]):=gZ b x HX ⟨#[105,54,52]⟩
 have HI:Hid (nS x = (x == [105,56] || x == [105,51,50] || x == [105,54,52])):=rfl
 generalize (x == [105,56]) = q1 at e1 HI
 generalize (x == [105,51,50]) = q2 at e2 HI
 generalize (x == [105,54,52]) = q3 at e3 HI
 cases q1 <;> cases q2 <;> cases q3
 all_goals
  go_enter Tryz.func101,Tryz.ntmps101
  go_wp2
  go_ret
  exact ⟨aW (by rw [HI.out]; rfl),rfl⟩
theorem vK (w:World) (r k a n:Int) (b:ByteArray) (v:Value) (hv:v.oneCell' = true) (x:List Nat) (HX:Hid (b = bJ x∧(∀ c ∈ x,c < 256)∧x.length≤1048576)):Calls Tryz.prog 55 #[.agg #[.int .u8 k,.int .i64 a,.string b,.int .u64 n,v,.int .u8 r]] w fun en w'=>en = .returned (.bool (yG0 k x n))∧Below w.heap.size w w':=by
 have e1:(b.toList == [105,56]) = (x == [105,56]):=gZ b x HX ⟨#[105,56]⟩
 have e2:(b.toList == [105,51,50]) = (x == [105,51,50]):=gZ b x HX ⟨#[105,51,50]⟩
 have e3:(b.toList == [105,54,52]) = (x == [105,54,52]):=gZ b x HX ⟨#[105,54,52]⟩
 have e4:(b.toList == []) = (x == []):=gZ b x HX ⟨#[]⟩
 have HI:Hid (yG0 k x n = if k == 8 then true else if k == 23 then decide (n≤255) else if k == 40 then (x == [105,56] && decide (n≤255)) || (x == [105,51,50] && decide (n≤4294967295)) || x == [105,54,52] || x == [] else n == 0):=rfl
 generalize (x == [105,56]) = q1 at e1 HI
 generalize (x == [105,51,50]) = q2 at e2 HI
 generalize (x == [105,54,52]) = q3 at e3 HI
 generalize (x == []) = q4 at e4 HI
 cases h8:(k == 8) with
 | true =>
  go_enter Tryz.func55,Tryz.ntmps55
  go_wp2
  go_ret
  exact ⟨aW (by rw [HI.out]; simp [h8]),(Below.refl _ _).alloc (Nat.le_refl _) _⟩
 | false=>?_
 cases h23:(k == 23) with
 | true =>
  go_enter Tryz.func55,Tryz.ntmps55
  go_wp2
  go_ret
  exact ⟨aW (by rw [HI.out]; simp [h8,h23]),(Below.refl _ _).alloc (Nat.le_refl _) _⟩
 | false=>?_
 cases h40:(k == 40) with
 | false =>
  go_enter Tryz.func55,Tryz.ntmps55
  go_wp2
  go_ret
  exact ⟨aW (by rw [HI.out]; simp [h8,h23,h40]),(Below.refl _ _).alloc (Nat.le_refl _) _⟩
 | true=>?_
 cases q1 <;> cases q2 <;> cases q3 <;> cases q4
 all_goals
  go_enter Tryz.func55,Tryz.ntmps55
  go_wp2
  all_goals (go_ret; exact ⟨aW (by rw [HI.out]; simp [*]),(Below.refl _ _).alloc (Nat.le_refl _) _⟩)
theorem aH0 (w:World) (r k a n:Int) (b:ByteArray) (v:Value) (hv:v.oneCell' = true) (x:List Nat) (HX:Hid (b = bJ x∧(∀ c ∈ x,c < 256)∧x.length≤1048576)):Calls Tryz.prog 54 #[.agg #[.int .u8 k,.int .i64 a,.string b,.int .u64 n,v,.int .u8 r]] w fun en w'=>en = .returned (.bool (hF0 k x))∧Below w.heap.size w w':=by
 have hbn:aD b = x:=by rw [HX.out.1]; exact gK _ HX.out.2.1
 have hsz:b.size≤1048576:=by rw [← aK b,hbn]; exact HX.out.2.2
 have HN:Hid (jZ (aD b) = jZ x):=by unfold Hid; rw [hbn]
 clear hbn
 have e4:(b.toList == []) = (x == []):=gZ b x HX ⟨#[]⟩
 have e5:(b.toList == [98,111,111,108]) = (x == [98,111,111,108]):=gZ b x HX ⟨#[98,111,111,108]⟩
 have e6:(b.toList == [98,121,116,101,115]) = (x == [98,121,116,101,115]):=gZ b x HX ⟨#[98,121,116,101,115]⟩
 have HI:Hid (hF0 k x = if k == 2 || k == 3 || k == 4 || k == 25 || k == 44 || k == 45 || k == 48 then jZ x
  else if k == 15 || k == 16 || k == 17 || k == 20 || k == 21 then x == [] || jZ x
  else if k == 7 then nS x || x == [98,111,111,108] || x == [98,121,116,101,115] || jZ x
  else if k == 46 then nS x
  else if k == 40 then x == [] || nS x
  else if k == 41 then true
  else x == []):=rfl
 obtain ⟨qn,hqn⟩:=iQ (jZ x)
 obtain ⟨qi,hqi⟩:=iQ (nS x)
 have hN2:jZ (aD b) = qn:=HN.out.trans hqn
 have HQI:=hI hqi
 rw [hqn,hqi] at HI
 generalize (x == []) = q4 at e4 HI
 generalize (x == [98,111,111,108]) = q5 at e5 HI
 generalize (x == [98,121,116,101,115]) = q6 at e6 HI
 have HNN:=hI hN2
 have CN:∀ W:World,Calls Tryz.prog 100 #[.string b] W fun en w'=>en = .returned (.bool qn)∧Below W.heap.size W w':=fun W=>cV0 b qn hsz HNN.out W
 have CI:∀ W:World,Calls Tryz.prog 101 #[.string b] W fun en w'=>en = .returned (.bool qi)∧W = w':=fun W=>by have:=mJ0 W b x HX; rw [HQI.out] at this; exact this
 clear hN2 hqn hqi
 go_enter Tryz.func54,Tryz.ntmps54
 go_wp2_with (first | (go_at_call 100; refine (CN _).mono ?_; rintro en w1 ⟨rfl,hb⟩) | (go_at_call 101; refine (CI _).mono ?_; rintro en _ ⟨rfl,rfl⟩))
 all_goals go_ret
 all_goals first
  | exact ⟨aW (by rw [HI.out]; simp [*]),(Below.refl _ _).alloc (Nat.le_refl _) _⟩
  | exact ⟨aW (by rw [HI.out]; simp [*]),((Below.refl _ _).alloc (Nat.le_refl _) _).trans (hb.mono (by rw [World.size_alloc]; omega))⟩
end Go.Proofs.YtnipenijihkgdaaGreatDoor
